/-
  Errors of package fault as trees; how one lies in memory.
-/
import Derived.Test.YtlbieneklijpeaaDoorFflt
namespace Go.Proofs.YtlbieneklijpeaaDoor.fault
open Go.RowKit Go.Proofs.YtlbieneklijpeaaDoor.mem Go.Proofs.YtlbieneklijpeaaDoor.sha Go.Proofs.YtlbieneklijpeaaDoor.ids Go.Proofs.YtlbieneklijpeaaDoor.rows

inductive Tr where
  | num (e : Int)
  | rep (L : List Id)
  | wr (op : ByteArray) (t : Tr)
  | two (a b : Tr)
def Tr.size : Tr → Nat
  | .num _ => 1
  | .rep _ => 2
  | .wr _ t => t.size + 1
  | .two a b => a.size + b.size + 1
def Tr.flt : Tr → Flt
  | .num e => ⟨[e], [], []⟩
  | .rep L => ⟨[16], [], [L]⟩
  | .wr op t => ⟨t.flt.nums, op :: t.flt.ops, t.flt.reps⟩
  | .two a b => joinF a.flt b.flt
def fltO (o : Option Tr) : Flt := (o.map Tr.flt).getD noF
theorem Tr.nums_ne : ∀ t : Tr, t.flt.nums ≠ []
  | .num e => by simp [Tr.flt]
  | .rep L => by simp [Tr.flt]
  | .wr op t => t.nums_ne
  | .two a b => by
    have := a.nums_ne
    simp only [Tr.flt, joinF]
    intro h
    exact this (List.append_eq_nil_iff.1 h).1
def newT (e : Int) : Option Tr := if e = 0 then none else some (.num e)
def missT (L : List Id) : Option Tr := if L = [] then none else some (.rep L)
def wrapT (op : ByteArray) (o : Option Tr) : Option Tr := o.map (.wr op)
def joinT : Option Tr → Option Tr → Option Tr
  | none, b => b
  | some a, none => some a
  | some a, some b => some (.two a b)
theorem flt_new (e : Int) : fltO (newT e) = newF e := by unfold newT newF; split <;> rfl
theorem flt_miss (L : List Id) : fltO (missT L) = missF L := by unfold missT missF; split <;> rfl
theorem flt_wrap (op : ByteArray) (o : Option Tr) : fltO (wrapT op o) = wrapF op (fltO o) := by
  cases o with
  | none => rfl
  | some t =>
    have := t.nums_ne
    unfold wrapF fltO wrapT
    simp only [Option.map_some, Option.getD_some]
    rw [if_neg this]
    rfl
theorem flt_join (a b : Option Tr) : fltO (joinT a b) = joinF (fltO a) (fltO b) := by
  cases a with
  | none => simp [joinT, fltO, joinF, noF]
  | some a =>
    cases b with
    | none => simp [joinT, fltO, joinF, noF]
    | some b => rfl
theorem flt_none (o : Option Tr) : (fltO o).nums = [] ↔ o = none := by
  cases o with
  | none => simp [fltO, noF]
  | some t => simp [fltO, t.nums_ne]

/-- v is an error that t tells; its blocks are of F -/
def Lie (w : World) (F : Nat → Prop) : Value → Tr → Prop
  | v, .num e => v = .iface 35 (.int .i64 e) ∧ e ≠ 0
  | v, .rep L => ∃ b ad cap, v = .iface 64 (.pointer (some ⟨b, 0, none⟩)) ∧ F b ∧ Blk w b 71 #[.slice (some ad) L.length cap] ∧ RdV w (.slice (some ad) L.length cap) L ∧ F ad.block ∧ L ≠ [] ∧ L.length < 1000000
  | v, .wr op t => ∃ b v', v = .iface 73 (.pointer (some ⟨b, 0, none⟩)) ∧ F b ∧ Blk w b 76 #[.string op, v'] ∧ Lie w F v' t
  | v, .two t u => ∃ b v1 v2, v = .iface 77 (.pointer (some ⟨b, 0, none⟩)) ∧ F b ∧ Blk w b 79 #[v1, v2] ∧ Lie w F v1 t ∧ Lie w F v2 u
theorem Lie.turn {w w' : World} {F G : Nat → Prop} (ht : Turn G w w') (hFG : ∀ k, F k → k < w.heap.size → ¬ G k) : ∀ {t : Tr} {v : Value}, Lie w F v t → Lie w' F v t
  | .num e, v, h => h
  | .rep L, v, ⟨b, ad, cap, h1, h2, h3, h4, h5, h6⟩ => ⟨b, ad, cap, h1, h2, h3.turn ht (hFG b h2 h3.lt), h4.turn ht (fun k off e hk => hFG k (by cases e; exact h5) hk), h5, h6⟩
  | .wr op t, v, ⟨b, v', h1, h2, h3, h4⟩ => ⟨b, v', h1, h2, h3.turn ht (hFG b h2 h3.lt), Lie.turn ht hFG h4⟩
  | .two t u, v, ⟨b, v1, v2, h1, h2, h3, h4, h5⟩ => ⟨b, v1, v2, h1, h2, h3.turn ht (hFG b h2 h3.lt), Lie.turn ht hFG h4, Lie.turn ht hFG h5⟩
theorem Lie.next {w w' : World} {F : Nat → Prop} {t : Tr} {v : Value} (h : Lie w F v t) (hb : Below w.heap.size w w') : Lie w' F v t :=
  h.turn (Turn.ofBelow hb) fun k _ hk => by omega
theorem Lie.below {w w' : World} {F : Nat → Prop} {t : Tr} {v : Value} (h : Lie w F v t) {B : Nat} (hb : Below B w w') (hB : w.heap.size ≤ B) : Lie w' F v t :=
  h.turn (Turn.ofBelow hb) fun k _ hk => by omega
theorem Lie.mono {w : World} {F G : Nat → Prop} (hFG : ∀ k, F k → G k) : ∀ {t : Tr} {v : Value}, Lie w F v t → Lie w G v t
  | .num e, v, h => h
  | .rep L, v, ⟨b, ad, cap, h1, h2, h3, h4, h5, h6⟩ => ⟨b, ad, cap, h1, hFG _ h2, h3, h4, hFG _ h5, h6⟩
  | .wr op t, v, ⟨b, v', h1, h2, h3, h4⟩ => ⟨b, v', h1, hFG _ h2, h3, h4.mono hFG⟩
  | .two t u, v, ⟨b, v1, v2, h1, h2, h3, h4, h5⟩ => ⟨b, v1, v2, h1, hFG _ h2, h3, h4.mono hFG, h5.mono hFG⟩
/-- nil, or an error -/
def LieO (w : World) (F : Nat → Prop) (v : Value) : Option Tr → Prop
  | none => v = .nilIface
  | some t => Lie w F v t
theorem LieO.turn {w w' : World} {F G : Nat → Prop} {o : Option Tr} {v : Value} (h : LieO w F v o) (ht : Turn G w w') (hFG : ∀ k, F k → k < w.heap.size → ¬ G k) : LieO w' F v o := by
  cases o with
  | none => exact h
  | some t => exact Lie.turn ht hFG h
theorem LieO.next {w w' : World} {F : Nat → Prop} {o : Option Tr} {v : Value} (h : LieO w F v o) (hb : Below w.heap.size w w') : LieO w' F v o :=
  h.turn (Turn.ofBelow hb) fun k _ hk => by omega
theorem LieO.mono {w : World} {F G : Nat → Prop} {o : Option Tr} {v : Value} (h : LieO w F v o) (hFG : ∀ k, F k → G k) : LieO w G v o := by
  cases o with
  | none => exact h
  | some t => exact Lie.mono hFG h
end Go.Proofs.YtlbieneklijpeaaDoor.fault
