/-
  petrellaw03.awake; the walks of CrcPlays, by what crc's three functions answer.
-/
import Derived.Test.YtocfonjheacobaaDoorCrcr
namespace Go.Proofs.YtocfonjheacobaaDoor.crc
open Go.RowKit Go.Proofs.YtocfonjheacobaaDoor.mem Go.Proofs.YtocfonjheacobaaDoor.sha

/-- what the package answers: T is what it asks of the world (its tables, if it has any) -/
structure CrcIs (T : World → Prop) : Prop where
  next : ∀ {w w' : World}, T w → Below w.heap.size w w' → T w'
  add : ∀ (c : UInt32) (s : ByteArray) (w : World), T w → s.size ≤ 549755813888 → Calls Tryd.prog 9 #[.int .u32 (U c), .string s] w fun e w' => e = .returned (.int .u32 (U (addC c s.data.toList))) ∧ Below w.heap.size w w'
  sum : ∀ (s : ByteArray) (w : World), T w → s.size ≤ 549755813888 → Calls Tryd.prog 10 #[.string s] w fun e w' => e = .returned (.int .u32 (U (addC 0 s.data.toList))) ∧ Below w.heap.size w w'
  fits : ∀ (s : ByteArray) (d : UInt32) (w : World), T w → s.size ≤ 549755813888 → Calls Tryd.prog 11 #[.string s, .int .u32 (U d)] w fun e w' => e = .returned (.bool (addC 0 s.data.toList == d)) ∧ Below w.heap.size w w'

theorem U_zero : U 0 = 0 := rfl
theorem radd_zero (s : ByteArray) (w : World) (hs : s.size ≤ 549755813888) : Calls Tryd.prog 8 #[.int .u32 0, .string s] w fun e w' => e = .returned (.int .u32 (U (addC 0 s.data.toList))) ∧ w = w' := by
  have := radd_any 0 s w hs
  rw [U_zero] at this
  exact this
theorem nine : addC 0 [49, 50, 51, 52, 53, 54, 55, 56, 57] = 3421780262 := by decide +kernel
theorem none_at_all : (addC 0 [] == 0) = true := by decide +kernel
theorem U_beq (x d : UInt32) : (U d == U x) = (x == d) := by
  by_cases h : x = d
  · rw [h, beq_self_eq_true, beq_self_eq_true]
  · rw [beq_eq_false_iff_ne.2 h]
    refine beq_eq_false_iff_ne.2 fun e => h ?_
    apply UInt32.toNat_inj.1
    unfold U at e
    omega

set_option maxHeartbeats 1000000 in
set_option maxRecDepth 100000 in
theorem awake_any {T : World → Prop} (hI : CrcIs T) (w : World) (hT : T w) : Calls Tryd.prog 7 #[] w fun e w' => e = .returned (.bool true) ∧ Below w.heap.size w w' := by
  have HT := Lib.hid hT
  have HI := Lib.hid hI
  clear hT hI
  have hn : U (addC 0 [49, 50, 51, 52, 53, 54, 55, 56, 57]) = 3421780262 := by rw [nine]; rfl
  go_enter Tryd.func7, Tryd.ntmps7
  go_wp2_with (first
    | (go_at_call 10; refine (HI.out.sum ⟨#[49, 50, 51, 52, 53, 54, 55, 56, 57]⟩ _ HT.out (by decide)).mono ?_; rintro e w1 ⟨rfl, hb1⟩)
    | (go_at_call 11; refine (HI.out.fits ⟨#[]⟩ 0 _ (HI.out.next HT.out (by exact hb1)) (by decide)).mono ?_; rintro e w2 ⟨rfl, hb2⟩))
  go_ret
  exact ⟨rfl, hb1.trans (hb2.mono hb1.size)⟩

set_option maxHeartbeats 1000000 in
set_option maxRecDepth 100000 in
theorem plays_walk {T : World → Prop} (hI : CrcIs T) (c d : UInt32) (s : ByteArray) (w : World) (hT : T w) : Calls Tryd.prog 3 #[.int .u32 (U c), .string s, .int .u32 (U d)] w fun e w' => e = .returned (.bool true) ∧ Below w.heap.size w w' := by
  have HT := Lib.hid hT
  have HI := Lib.hid hI
  clear hT hI
  by_cases hs : 3000 < s.size
  · have hs' : (3000 : Int) < (s.size : Int) := by omega
    go_enter Tryd.func3, Tryd.ntmps3
    go_wp2_with (go_at_call 7; refine (awake_any HI.out _ HT.out).mono ?_; rintro e w1 ⟨rfl, hb1⟩)
    go_ret
    exact ⟨rfl, hb1⟩
  · have hs' : (s.size : Int) ≤ 3000 := by omega
    have hS := Lib.hid (show s.size ≤ 549755813888 by omega)
    have he := U_beq (addC 0 s.data.toList) d
    go_enter Tryd.func3, Tryd.ntmps3
    have hself := beq_self_eq_true (U (addC c s.data.toList))
    have hfit := beq_self_eq_true (addC 0 s.data.toList)
    have hsame : ((addC 0 s.data.toList == d) == (addC 0 s.data.toList == d)) = true := beq_self_eq_true _
    go_wp2_with (first
      | (go_at_call 8; with_reducible refine (radd_any c s _ hS.out).mono ?_; rintro e w3 ⟨rfl, rfl⟩)
      | (go_at_call 8; refine (radd_zero s _ hS.out).mono ?_; rintro e w1 ⟨rfl, rfl⟩)
      | (go_at_call 9; refine (HI.out.add c s _ HT.out hS.out).mono ?_; rintro e w2 ⟨rfl, hb2⟩; have hT2 := HI.out.next HT.out hb2)
      | (go_at_call 10; refine (HI.out.sum s _ hT2 hS.out).mono ?_; rintro e w4 ⟨rfl, hb4⟩; have hT4 := HI.out.next hT2 hb4)
      | (go_at_call 11; with_reducible refine (HI.out.fits s d _ hT4 hS.out).mono ?_; rintro e w5 ⟨rfl, hb5⟩; have hT5 := HI.out.next hT4 hb5)
      | (go_at_call 11; with_reducible refine (HI.out.fits s (addC 0 s.data.toList) _ hT5 hS.out).mono ?_; rintro e w6 ⟨rfl, hb6⟩; have hT6 := HI.out.next hT5 hb6)
      | (go_at_call 7; refine (awake_any HI.out _ hT6).mono ?_; rintro e w7 ⟨rfl, hb7⟩))
    go_ret
    have c4 := hb2.trans (hb4.mono hb2.size)
    have c5 := c4.trans (hb5.mono c4.size)
    have c6 := c5.trans (hb6.mono c5.size)
    exact ⟨rfl, c6.trans (hb7.mono c6.size)⟩
end Go.Proofs.YtocfonjheacobaaDoor.crc
