/-
  The landed msg: Same.
  The landed msg answers what is asked of it.
  A region that draws its order, inside a round of a loop over a function: by the laws for one outside of it.
-/
import Derived.Test.YtbfjljbllfjicaaMssm
import Derived.Test.YtbfjljbllfjicaaOle
import Derived.Test.YtbfjljbllfjicaaMlo
import Derived.Test.YtbfjljbllfjicaaMlp
import Derived.Test.YtbfjljbllfjicaaMem
import Derived.RangeFuncBox
import Derived.RangeFuncLeaves
import Derived.OrdersIn
import Derived.RangeFuncCalls
namespace Go.Proofs.Ytbfjljbllfjicaa.msg
open Go.RowKit Go.Proofs.Ytbfjljbllfjicaa.mem Go.Proofs.Ytbfjljbllfjicaa.sha Go.Proofs.Ytbfjljbllfjicaa.ids
open Go.Proofs.Ytbfjljbllfjicaa.opn (b1 b2 b4 num txt idl byte rd rdN rdT rdI rdS rdL St Reads Stays endE zid mkId)

set_option maxHeartbeats 4000000 in
set_option maxRecDepth 100000 in
theorem lsame_any (x y : Mg) (vx vy : Value) (w : World) (hvx : RdV w vx x.ids) (hvy : RdV w vy y.ids) :
    Calls Try.prog 12 #[mgv x vx, mgv y vy] w fun e w' => e = .returned (.bool (sameM x y)) ∧ Below w.heap.size w w' := by
  obtain ⟨w1, hw1⟩ : ∃ u, u = (w.alloc (.cells #[.int .i64 x.k, vx, .string (oct.tx x.body)] 24)).alloc (.cells #[.int .i64 y.k, vy, .string (oct.tx y.body)] 24) := ⟨_, rfl⟩
  obtain ⟨S, hS⟩ : ∃ S, S = w.heap.size := ⟨_, rfl⟩
  have hX : Blk w1 S 24 #[.int .i64 x.k, vx, .string (oct.tx x.body)] := by rw [hw1, hS]; exact (Blk.new w _ _).alloc _
  have hY : Blk w1 (S + 1) 24 #[.int .i64 y.k, vy, .string (oct.tx y.body)] := by rw [hw1, hS]; exact Blk.at_ (by simp) _ _
  have hB : Below w.heap.size w w1 := by rw [hw1]; exact ((Below.refl _ _).alloc (Nat.le_refl _) _).alloc (by simp) _
  have hx1 := hvx.next hB
  have hy1 := hvy.next hB
  have HB := Lib.hid hB
  have HS := Lib.hid hS
  have HW := Lib.hid hw1
  obtain ⟨adx, capx, rfl⟩ := hx1.form
  obtain ⟨ady, capy, rfl⟩ := hy1.form
  have hsm := lequal_any x.ids y.ids adx ady _ capx _ capy w1 hx1 hy1
  have c0 := (MgBlk.of hX).k
  have d0 := (MgBlk.of hY).k
  have c1 := (MgBlk.of hX).ids
  have d1 := (MgBlk.of hY).ids
  have c2 := (MgBlk.of hX).body
  have d2 := (MgBlk.of hY).body
  obtain ⟨VX, hVX⟩ : ∃ V, V = Value.slice adx x.ids.length capx := ⟨_, rfl⟩
  obtain ⟨VY, hVY⟩ : ∃ V, V = Value.slice ady y.ids.length capy := ⟨_, rfl⟩
  rw [← hVX] at hsm HW c1
  rw [← hVY] at hsm HW d1
  rw [← hVX, ← hVY]
  obtain ⟨tx, htx⟩ : ∃ s, s = oct.tx x.body := ⟨_, rfl⟩
  obtain ⟨ty, hty⟩ : ∃ s, s = oct.tx y.body := ⟨_, rfl⟩
  have HTE : Hid ((tx.toList == ty.toList) = decide (x.body = y.body)) := Lib.hid (by rw [htx, hty]; exact tx_beq _ _)
  rw [← htx] at c2
  rw [← hty] at d2
  have HR : Hid (sameM x y = (decide (x.k = y.k) && (decide (x.body = y.body) && decide (x.ids = y.ids)))) := Lib.hid rfl
  have HPE : Hid ((x.ids == y.ids) = decide (x.ids = y.ids)) := Lib.hid (by rw [Bool.eq_iff_iff, beq_iff_eq, decide_eq_true_iff])
  rw [HPE.out] at hsm
  obtain ⟨bI, hbI⟩ : ∃ b, b = decide (x.ids = y.ids) := ⟨_, rfl⟩
  rw [← hbI] at hsm HR
  have HSM := Lib.hid hsm
  clear hX hY hB hvx hvy hx1 hy1 hS hw1 hsm hVX hVY htx hty HPE hbI
  unfold mgv
  by_cases h0 : x.k = y.k
  · have e0 : (x.k == y.k) = true := beq_iff_eq.2 h0
    have HR : Hid (_ = _) := Lib.hid HR.out
    rw [decide_eq_true h0, Bool.true_and] at HR
    clear h0
    by_cases h1 : x.body = y.body
    · have e1 := HTE.out
      rw [decide_eq_true h1] at e1
      have HR : Hid (_ = _) := Lib.hid HR.out
      rw [decide_eq_true h1, Bool.true_and] at HR
      clear h1
      go_enter Try.func12, Try.ntmps12
      go_upto_region 1 with fail
      refine wp_at HW.out.symm ?_
      rw [← HS.out]
      clear HW
      go_wp2_with (go_at_call 30; (with_reducible refine HSM.out.mono ?_); rintro e w3 ⟨rfl, m, rfl⟩)
      go_ret
      exact ⟨by rw [HR.out]; rfl, below_drewN HB.out m⟩
    · have e1 := HTE.out
      rw [decide_eq_false h1] at e1
      have HR : Hid (_ = _) := Lib.hid HR.out
      rw [decide_eq_false h1, Bool.false_and] at HR
      clear h1
      go_enter Try.func12, Try.ntmps12
      go_upto_region 1 with fail
      refine wp_at HW.out.symm ?_
      rw [← HS.out]
      clear HW
      go_wp2_with (go_at_call 30; (with_reducible refine HSM.out.mono ?_); rintro e w3 ⟨rfl, m, rfl⟩)
      go_ret
      exact ⟨by rw [HR.out]; rfl, HB.out⟩
  · have e0 : (x.k == y.k) = false := beq_eq_false_iff_ne.2 h0
    have HR : Hid (_ = _) := Lib.hid HR.out
    rw [decide_eq_false h0, Bool.false_and] at HR
    clear h0
    go_enter Try.func12, Try.ntmps12
    go_upto_region 1 with fail
    refine wp_at HW.out.symm ?_
    rw [← HS.out]
    clear HW
    go_wp2_with (go_at_call 30; (with_reducible refine HSM.out.mono ?_); rintro e w3 ⟨rfl, m, rfl⟩)
    go_ret
    exact ⟨by rw [HR.out]; rfl, HB.out⟩
end Go.Proofs.Ytbfjljbllfjicaa.msg

namespace Go.Proofs.Ytbfjljbllfjicaa.msg
open Go.RowKit Go.Proofs.Ytbfjljbllfjicaa.mem Go.Proofs.Ytbfjljbllfjicaa.sha Go.Proofs.Ytbfjljbllfjicaa.ids

theorem ms_is : MsIs fun _ => True where
  next := fun _ _ => trivial
  check := fun m v w _ hv hb => lcheck_any m v w hv hb
  put := fun m v w _ hv hb => lput_any m v w hv hb
  of := fun s w _ hs => lof_any s w hs
  same := fun x y vx vy w _ hx hy => lsame_any x y vx vy w hx hy
end Go.Proofs.Ytbfjljbllfjicaa.msg

namespace Go.Proofs.Ytbfjljbllfjicaa.mem
open Go.RowKit

def noDefer (ops : Array Oper) : Bool := ops.all fun o => match o.op with | .defer _ => false | _ => true
theorem noDefer_spec {ops : Array Oper} (h : noDefer ops = true) {i : Nat} {o : Oper} (ho : ops[i]? = some o) (c : Call) : o.op ≠ .defer c := by
  intro e
  obtain ⟨hi, ho⟩ := Array.getElem?_eq_some_iff.1 ho
  have := (Array.all_eq_true.1 h) i hi
  rw [ho, e] at this
  cases this
section
variable {P : Program} {ops : Array Oper} {Q : Exit → Act → World → Prop} {md : Region.Mode} {n l : Nat}
theorem wpOpIn_round (hnd : noDefer ops = true) (hQ : ¬ LetsOut Q) {i : Nat} {K K' : Act → World → Prop} {a : Act} {w : World} (hK : ∀ a w, K a w → K' a w) (h : wpOp P ops Q i K a w) : wpOpIn (Fence.wide.inRound l) n P ops Q i K' a w := by
  unfold wpOp at h
  unfold wpOpIn
  cases ho : ops[i]? with
  | none =>
    simp only [ho] at h ⊢
    exact hK _ _ h
  | some o =>
    simp only [ho] at h ⊢
    by_cases hw : Region.wanted o (yielded ops a.tmps) = true
    · simp only [hw, if_true] at h ⊢
      rcases h with h | h
      · unfold Oper.wp at h
        refine ⟨fun _ _ => trivial, ?_⟩
        rw [Oper.semAt_eq _ _ _ (fun c => noDefer_spec hnd ho c)]
        generalize (execOp a.eval o).run P w = r at h
        cases r with
        | ok x w' =>
          cases x with
          | value v => exact hK _ _ h
          | skip => exact hK _ _ h
          | defer d => exact hK _ _ h
          | enter f args =>
            refine ⟨fun hd => by simp [Fence.wide] at hd, CallsIn.inRound l (callsIn_wide.2 (Calls.mono h fun e w'' he => ?_))⟩
            cases e with
            | returned u => exact hK _ _ he
            | panicked c => exact he
            | outgrown => exact he
          | row row args =>
            refine ⟨fun hd => by simp [Fence.wide] at hd, fun c cs _ => ?_⟩
            obtain ⟨v, w'', r, s⟩ := (show Rows P row args w' _ from h) c cs
            exact ⟨v, w'', hK _ _ r, stepsIn_wide.2 s⟩
          | _ => exact h.elim
        | halt x w' =>
          cases x with
          | panic v => exact h
          | _ => exact h.elim
      · exact absurd h.2 hQ
    · simp only [hw] at h ⊢
      exact ⟨fun _ _ => trivial, hK _ _ h⟩
theorem wpAnyIn_round (hnd : noDefer ops = true) (hQ : ¬ LetsOut Q) : ∀ (fuel : Nat) (listed : Array Bool) (a : Act) (w : World), wpAny P md ops Q fuel listed a w → wpAnyIn (Fence.wide.inRound l) n P md ops Q fuel listed a w
  | 0, _, _, _, h => h
  | fuel + 1, _, _, _, h => ⟨h.1, fun i hi => wpOpIn_round hnd hQ (fun a w => wpAnyIn_round hnd hQ fuel _ a w) (h.2 i hi)⟩
theorem wpIn_region_round {id : Nat} {a : Act} {w : World} (hm : P.follows .mixedOrders = true) (hnd : noDefer ops = true) (hQ : ¬ LetsOut Q)
    (h : wpAny P .any ops Q ops.size (Array.replicate ops.size false) a w.drew) : (Code.region id ops true).wpIn (Fence.wide.inRound l) n P Q a w :=
  wpIn_region_any hm (wpAnyIn_round hnd hQ _ _ _ _ h)
end
theorem letsOut_ownG {α : Type} {B : Nat} {Kp : World → World → Prop} {I : List α → World → Prop} {Ix : Code → List α → World → Prop} {xs : List α} {W : World} : ¬ LetsOut (ownPostG B Kp I Ix xs W) := fun ⟨_, _, h⟩ => h
/-- what turns only blocks of cells and new ones keeps whatever is no cells -/
theorem keepsFrom_turn {F : Nat → Prop} {B : Nat} {W W' : World} (h : Turn F W W') (hF : ∀ (k : Nat) (o : Obj), W.heap[k]? = some o → o.isCells = false → ¬ F k) : KeepsFrom B W W' :=
  ⟨h.size, fun k o _ hk ho => (h.block k (hF k o hk ho)).trans hk⟩
theorem Blk.isCells {w : World} {g : Nat} {t : TypeId} {cs : Array Value} (h : Blk w g t cs) {o : Obj} (ho : w.heap[g]? = some o) : o.isCells = true := by
  rw [show w.heap[g]? = _ from h] at ho
  cases ho
  rfl
end Go.Proofs.Ytbfjljbllfjicaa.mem
