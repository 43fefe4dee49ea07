/-
  Cells that lie in a row from an address on.
-/
import Derived.Test.YtbhkegdohiekfaaDoorStepl
import Derived.Laws.IdiomStrings
import Derived.Laws.MakeOwn
import Derived.Laws.OwnMore
import Derived.Laws.CopyOwn
import Derived.Maps.AppendAt
namespace Go.Proofs.YtbhkegdohiekfaaDoor.ids
open Go.RowKit Go.Proofs.YtbhkegdohiekfaaDoor.mem

/-- the cells xs lie from the address on -/
def Rd (w : World) (ad : Option Addr) (xs : List Value) : Prop :=
  xs = [] ∨ ∃ b off, ad = some ⟨b, off, none⟩ ∧ b < w.heap.size ∧ ∀ k v, xs[k]? = some v → w.cell? ⟨b, off + k, none⟩ = some v
theorem Rd.nil (w : World) (ad : Option Addr) : Rd w ad [] := .inl rfl
theorem Rd.turn {F : Nat → Prop} {w w' : World} {ad : Option Addr} {xs : List Value} (h : Rd w ad xs) (ht : Turn F w w') (hF : ∀ b off, ad = some ⟨b, off, none⟩ → b < w.heap.size → ¬ F b) : Rd w' ad xs := by
  rcases h with h | ⟨b, off, h, hb, hc⟩
  · exact .inl h
  · exact .inr ⟨b, off, h, Nat.lt_of_lt_of_le hb ht.size, fun k v hv => (ht.cell (hF b off h hb)).trans (hc k v hv)⟩
theorem Rd.below {w w' : World} {ad : Option Addr} {xs : List Value} (h : Rd w ad xs) {B : Nat} (hb : Below B w w') (hB : w.heap.size ≤ B) : Rd w' ad xs :=
  h.turn (Turn.ofBelow hb) fun b _ _ hlt => by omega
theorem Rd.drewN {w : World} {ad : Option Addr} {xs : List Value} (h : Rd w ad xs) (n : Nat) : Rd (w.drewN n) ad xs := h
/-- 'append' of a list, in a plain region -/
theorem step_append {P : Program} {ops : Array Oper} {rest : List Oper} {o : Oper} {a : Act} {w w' : World} {Q : Exit → Act → World → Prop} {s x : Operand} {t : TypeId} {vs vx v' : Value} (hg : o.guard = none)
    (ho : o.op = .call { callee := .builtin .append, args := #[s, x], argTypes := #[t, t] }) (hs : a.eval s = vs) (hx : a.eval x = vx)
    (hr : (Builtin.append_ #[t, t] o.type #[vs, vx]).run P w = .ok v' w') (h : wpList P ops Q rest (a.put o.dst v') w') : wpList P ops Q (o :: rest) a w := by
  refine wpList_plain hg fun K hK => ?_
  unfold Oper.wp
  simp [execOp, ho, resolve, invoke, builtin, hs, hx, hr, Result.andThen]
  exact hK _ _ h
/-- a piece of a list, in a plain region -/
theorem step_slice {P : Program} {ops : Array Oper} {rest : List Oper} {o : Oper} {a : Act} {w : World} {Q : Exit → Act → World → Prop} {t : TypeId} {x : Operand} {lo hi : Option Operand} {vx v : Value} {vlo vhi : Option Value} (hg : o.guard = none)
    (ho : o.op = .slice t x lo hi none) (hx : a.eval x = vx) (hlo : lo.map a.eval = vlo) (hhi : hi.map a.eval = vhi) (hr : (Instr.sliceAt t vx vlo vhi none).run P w = .ok v w) (h : wpList P ops Q rest (a.put o.dst v) w) : wpList P ops Q (o :: rest) a w := by
  refine wpList_plain hg fun K hK => ?_
  unfold Oper.wp execOp
  simp only [ho, hx, hlo, hhi, Option.map_none, Sem.run_bind, hr, Result.andThen_ok, Sem.run_pure]
  exact hK _ _ h
theorem want_append {P : Program} {ops : Array Oper} {o : Oper} {a : Act} {w w' : World} {K : Act → World → Prop} {Q : Exit → Act → World → Prop} {E : Prop} {s x : Operand} {t : TypeId} {vs vx v' : Value} (hg : o.guard = none)
    (ho : o.op = .call { callee := .builtin .append, args := #[s, x], argTypes := #[t, t] }) (hs : a.eval s = vs) (hx : a.eval x = vx)
    (hr : (Builtin.append_ #[t, t] o.type #[vs, vx]).run P w = .ok v' w') (hK : K (a.put o.dst v') w') : if Region.wanted o (yielded ops a.tmps) = true then Oper.wp P o a w K Q else E := by
  have hw : Region.wanted o (yielded ops a.tmps) = true := by simp [Region.wanted, hg]
  rw [if_pos hw]
  unfold Oper.wp
  simp [execOp, ho, resolve, invoke, builtin, hs, hx, hr, Result.andThen]
  exact hK
end Go.Proofs.YtbhkegdohiekfaaDoor.ids
