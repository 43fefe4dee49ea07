/-
 slices.Clone of a list of ids.
-/
import Derived.Test.YtpeneeddfgmjpaaGreatDoorIds
namespace Go.Proofs.YtpeneeddfgmjpaaGreatDoor.ids
open Go.RowKit Go.Proofs.YtpeneeddfgmjpaaGreatDoor.mem Go.Proofs.YtpeneeddfgmjpaaGreatDoor.sha

set_option maxHeartbeats 1000000 in
set_option maxRecDepth 100000 in
theorem iclone_any {L : List (List UInt8)} {v : Value} {w : World} (h : RdV w v L) (hmax : L.length < 1000000) : Calls Tryz.prog 69 #[v] w fun x w' =>
  ∃ v', x = .returned v' ∧ OwnI w' (w.heap.size ≤ ·) v' L ∧ Below w.heap.size w w' := by
 obtain ⟨ad, cap, rfl⟩ := h.form
 cases ad with
 | none =>
  have hL : L = [] := by
   cases L with
   | nil => rfl
   | cons x L => obtain ⟨b, off, e, _⟩ := h.load (i := 0) (by simp); cases e
  subst hL
  have hc : cap = 0 := by
   obtain ⟨_, _, ad', cap', hv, _, _, h5, _⟩ := h
   cases hv
   exact h5 rfl
  subst hc
  have hnil := fun w => Lib.run_eql_slice_nil (P := Tryz.prog) w 22 24 none 0 0 0 0 Tryz.underlying22
  clear h
  go_enter Tryz.func69, Tryz.ntmps69
  go_wp2_with fail
  go_ret
  exact ⟨_, rfl, OwnI.nil _ _, Below.refl _ _⟩
 | some a =>
  have hnil := fun w => Lib.run_eql_slice_nil (P := Tryz.prog) w 22 24 (some a) L.length cap 0 0 Tryz.underlying22
  have hn0 : New (w.heap.size ≤ ·) w := fun _ h => h
  have hO0 := OwnI.laid0 w (w.heap.size ≤ ·) hn0
  have hb1 : Below w.heap.size w (w.alloc (.cells #[] 24)) := (Below.refl _ _).alloc (Nat.le_refl _) _
  obtain ⟨v', w', hrun, hO, ht⟩ := run_append_rd hO0 (h.next hb1) (by rw [List.length_nil]; omega) (hn0.alloc _) 22
  have hbt : Below w.heap.size w w' := hb1.trans ((ht.mono fun k hk => hk.elim (hO0.2.2 k) (fun h => hn0.alloc _ k h)).below fun k hk => hk)
  rw [List.nil_append] at hO
  have HO := Lib.hid hO
  have HB := Lib.hid hbt
  clear hO hbt ht hO0 hb1 hn0 h
  go_enter Tryz.func69, Tryz.ntmps69
  go_wp2_with ((with_reducible refine step_append (s := .tmp 5) (x := .tmp 6) (t := 22) (vs := ?asma) (vx := ?axma) (v' := ?avma) (w' := ?awma) ?agma ?aoma ?apma ?aqma ?arma ?ahma); (case agma => rfl); (case aoma => rfl); (case apma => rfl); (case aqma => rfl); (case arma => exact hrun))
  go_ret
  exact ⟨_, rfl, HO.out, HB.out⟩

end Go.Proofs.YtpeneeddfgmjpaaGreatDoor.ids
