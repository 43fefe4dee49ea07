/-
  petrelref06.Both.
-/
import Derived.Test.YtfcoecojjciphaaIdsx
namespace Go.Proofs.Ytfcoecojjciphaa.ids
open Go.RowKit Go.Proofs.Ytfcoecojjciphaa.mem Go.Proofs.Ytfcoecojjciphaa.sha

set_option maxHeartbeats 1000000 in
set_option maxRecDepth 100000 in
theorem rboth_any (L M : List Id) (ad ad2 : Option Addr) (n cap n2 cap2 : Nat) (w : World) (hL : RdV w (.slice ad n cap) L) (hM : RdV w (.slice ad2 n2 cap2) M) (hmax : L.length + M.length < 500000) :
    Calls Try.prog 30 #[.slice ad n cap, .slice ad2 n2 cap2] w fun e w' => ∃ v, e = .returned v ∧ Got w' (w.heap.size ≤ ·) v (bothL L M) ∧ Below w.heap.size w w' := by
  have hn2 := hM.len
  subst hn2
  have HR := Lib.hid hM
  have HOK := Lib.hid hM.ok
  have HS := Lib.hid (rset_any L ad n cap w hL (by omega))
  have hsl := setL_len L
  clear hL hM
  go_enter Try.func30, Try.ntmps30
  go_wp2_with (go_at_call 16; with_reducible refine HS.out.mono ?_; rintro e w2 ⟨v2, rfl, hG2, hB2⟩)
  have HG2 := Lib.hid hG2
  have HB2 := Lib.hid hB2
  clear hG2 hB2 HS
  go_loopw [5, 6] (fun vo i wr => ∃ k : Nat, k ≤ M.length ∧ i = .int .i64 k ∧ Got wr (w.heap.size ≤ ·) vo ((M.take k).foldl withL (setL L)) ∧ Below w.heap.size w wr) (fun _ i _ => M.length - (intOf i).toNat)
  case atStart => exact ⟨0, Nat.zero_le _, rfl, HG2.out, HB2.out⟩
  case round =>
    obtain ⟨k, hk, rfl, hG, hB⟩ := hrel
    have k0 : (0 : Int) ≤ (k : Int) := Int.natCast_nonneg _
    have HG := Lib.hid hG
    have HB := Lib.hid hB
    clear HG2 HB2
    by_cases hlt : k < M.length
    · have kI : (k : Int) < (M.length : Int) := by omega
      obtain ⟨b, off, rfl, -, -, -⟩ := HR.out.load hlt
      have hld := (HR.out.next hB).load_y hlt rfl
      have hx := HOK.out.get hlt
      have HT := Lib.hid (take_fold M k hlt (setL L))
      obtain ⟨y, hy⟩ : ∃ y, y = M.getD k [] := ⟨_, rfl⟩
      rw [← hy] at hld hx HT
      obtain ⟨ad3, cap3, rfl⟩ := hG.1.form
      have hlen := foldl_with_len (M.take k) (setL L)
      obtain ⟨A, hA⟩ : ∃ A, A = (M.take k).foldl withL (setL L) := ⟨_, rfl⟩
      rw [← hA] at HG HT hlen ⊢
      have hAm : A.length < 1000000 := by rw [List.length_take] at hlen; omega
      have HC := Lib.hid (rwith_any A y ad3 A.length cap3 _ HG.out.1 hx hAm)
      clear hy hA hlen hG hB
      go_wp2_with (first
        | ((with_reducible refine step_load (t := 23) (x := .tmp 18) (p := ?lps2) (v := ?lvs2) ?lgs2 ?los2 ?lxs2 ?lrs2 ?lhs2); (case lgs2 => rfl); (case los2 => rfl); (case lxs2 => rfl); (case lrs2 => exact hld))
        | (go_at_call 24; with_reducible refine HC.out.mono ?_; rintro e w3 ⟨v3, rfl, hG3, hB3⟩))
      go_roundw
      case rel =>
        refine ⟨k + 1, hlt, by push_cast; rfl, ?_, HB.out.trans (hB3.mono HB.out.size)⟩
        rw [HT.out]
        exact hG3.mono fun j hj => by
          rcases hj with hj | ⟨off, e⟩
          · exact Nat.le_trans HB.out.size hj
          · exact HG.out.2 j off A.length cap3 (by rw [e])
      case measure => simp [intOf]; omega
    · obtain rfl : k = M.length := by omega
      clear hG hB
      go_wp2_with fail
      go_ret
      have := HG.out
      rw [List.take_length] at this
      exact ⟨_, rfl, this, HB.out⟩
end Go.Proofs.Ytfcoecojjciphaa.ids
