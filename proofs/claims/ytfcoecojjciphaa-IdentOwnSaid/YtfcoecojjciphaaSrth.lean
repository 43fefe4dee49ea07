/-
  The library's heap, sifted down, over a row of ids.
-/
import Derived.Test.YtfcoecojjciphaaSrt
import Derived.Deep.LoopGhost
import Derived.Sort.WalkB2
namespace Go.Proofs.Ytfcoecojjciphaa.srt
open Go.RowKit Go.Proofs.Ytfcoecojjciphaa.mem Go.Proofs.Ytfcoecojjciphaa.sha Go.Proofs.Ytfcoecojjciphaa.ids Go.Sort
set_option maxHeartbeats 2000000 in
set_option maxRecDepth 100000 in
theorem sift_any {V H : Value} {blk off n : Nat} (E : Env V H blk off n) (d : Array I32) (w : World) (lo hi first : Nat) (hs : St blk off n d w) (hlo : lo ≤ hi) (hb : first + hi ≤ n) (hn : n ≤ 1000000000) :
    Calls Try.prog 78 #[dat V H, .int .i64 lo, .int .i64 hi, .int .i64 first] w fun e w' => e = .returned (.tuple #[]) ∧ St blk off n (siftDown lt hi first lo d) w' ∧ Tr blk w w' := by
  have HE := Lib.hid E
  have en := enters_less
  have HT0 := Lib.hid (Tr.boxed V H blk w)
  have HS0 := Lib.hid (hs.boxed (V := V) (H := H))
  have HB0 := Lib.hid (Bx.new (V := V) (H := H) hs)
  unfold datObj at HT0 HS0 HB0
  unfold dat
  clear E hs
  go_enter Try.func78, Try.ntmps78
  go_wp2_with fail
  generalize w.alloc _ = w1 at HT0 HS0 HB0 ⊢
  generalize w.heap.size = B at HB0 ⊢
  go_loopg [8] (hi - lo) (fun gk s8 wr => ∃ (root : Nat) (dk : Array I32), s8 = .int .i64 root ∧ root ≤ hi ∧ hi - root ≤ gk ∧ Hid (St blk off n dk wr) ∧ Hid (Tr blk w1 wr) ∧ Hid (siftDown lt hi first root dk = siftDown lt hi first lo d))
  case atStart => exact ⟨lo, d, rfl, hlo, Nat.le_refl _, HS0.out, Lib.hid (Tr.refl _ _), Lib.hid rfl⟩
  case round =>
    obtain ⟨root, dk, rfl, hr, hgk, HS, HT, HO⟩ := hrel
    clear HS0
    have c0 := (HB0.out.turn HT.out).less
    by_cases h0 : hi ≤ 2 * root + 1
    · have h0z : (hi : Int) ≤ 2 * (root : Int) + 1 := by omega
      clear c0
      go_wp2_with fail
      go_end0
      refine ⟨rfl, ?_, HT0.out.trans HT.out⟩
      rw [← HO.out, sd_end lt dk h0]
      exact HS.out
    · have h0z : ¬ (hi : Int) ≤ 2 * (root : Int) + 1 := by omega
      by_cases h1 : 2 * root + 2 < hi
      · have h1z : 2 * (root : Int) + 1 + 1 < (hi : Int) := by omega
        have h1d : decide (2 * (root : Int) + 1 + 1 < (hi : Int)) = true := decide_eq_true h1z
        cases hL : lt dk[first + (2 * root + 1)]! dk[first + (2 * root + 2)]! with
        | true =>
          cases hG : lt dk[first + root]! dk[first + (2 * root + 2)]! with
          | true =>
            have HN := Lib.hid (sd_right_go lt dk h1 hL hG)
            have HL := Lib.hid (HE.out.lessC HS.out (d := dk) (i := first + (2 * root + 1)) (j := first + (2 * root + 1) + 1) (x := (first : Int) + (2 * (root : Int) + 1)) (y := (first : Int) + (2 * (root : Int) + 1) + 1) (by omega) (by omega) (by omega) (by omega) hL)
            go_wp2_with (first
              | (go_at_fn 35; (with_reducible refine HK.out.mono ?_); rintro e w3 ⟨rfl, hSn, hTn⟩; have HT3 := Lib.hid (HT2.out.trans hTn); have c3 := (HB0.out.turn HT3.out).swap; obtain ⟨w4, hsw, hSs, hTs⟩ := HE.out.swapC hSn (d := dk) (i := first + root) (j := first + (2 * root + 2)) (x := (first : Int) + (root : Int)) (y := (first : Int) + (2 * (root : Int) + 1 + 1)) (by omega) (by omega) (by omega) (by omega); have HS4 := Lib.hid hSs; have HT4 := Lib.hid (HT3.out.trans hTs); clear hSn hTn hSs hTs HT3 HK)
              | (go_at_fn 35; (with_reducible refine HL.out.mono ?_); rintro e w2 ⟨rfl, hSn, hTn⟩; have HS2 := Lib.hid hSn; have HT2 := Lib.hid (HT.out.trans hTn); have c2 := (HB0.out.turn HT2.out).less; clear hSn hTn c0 HL; have HK := Lib.hid (HE.out.lessC HS2.out (d := dk) (i := first + root) (j := first + (2 * root + 2)) (x := (first : Int) + (root : Int)) (y := (first : Int) + (2 * (root : Int) + 1 + 1)) (by omega) (by omega) (by omega) (by omega) hG)))
            go_roundg (hi - (2 * root + 2))
            case measure => omega
            case rel => exact ⟨(2 * root + 2), swp dk (first + root) (first + (2 * root + 2)), by go_num, by omega, Nat.le_refl _, HS4, HT4, Lib.hid (by rw [← HO.out, HN.out])⟩
          | false =>
            have HN := Lib.hid (sd_right_stop lt dk h1 hL hG)
            have HL := Lib.hid (HE.out.lessC HS.out (d := dk) (i := first + (2 * root + 1)) (j := first + (2 * root + 1) + 1) (x := (first : Int) + (2 * (root : Int) + 1)) (y := (first : Int) + (2 * (root : Int) + 1) + 1) (by omega) (by omega) (by omega) (by omega) hL)
            go_wp2_with (first
              | (go_at_fn 35; (with_reducible refine HK.out.mono ?_); rintro e w3 ⟨rfl, hSn, hTn⟩; have HS4 := Lib.hid hSn; have HT4 := Lib.hid (HT2.out.trans hTn); clear hSn hTn HK)
              | (go_at_fn 35; (with_reducible refine HL.out.mono ?_); rintro e w2 ⟨rfl, hSn, hTn⟩; have HS2 := Lib.hid hSn; have HT2 := Lib.hid (HT.out.trans hTn); have c2 := (HB0.out.turn HT2.out).less; clear hSn hTn c0 HL; have HK := Lib.hid (HE.out.lessC HS2.out (d := dk) (i := first + root) (j := first + (2 * root + 2)) (x := (first : Int) + (root : Int)) (y := (first : Int) + (2 * (root : Int) + 1 + 1)) (by omega) (by omega) (by omega) (by omega) hG)))
            (try simp only [Exit.inBlock, Exit.then]); refine bodyPost_ret (results_none rfl _ _ _) rfl ?_
            refine ⟨rfl, ?_, HT0.out.trans HT4.out⟩
            rw [← HO.out, HN.out]
            exact HS4.out
        | false =>
          cases hG : lt dk[first + root]! dk[first + (2 * root + 1)]! with
          | true =>
            have HN := Lib.hid (sd_left_go lt (hi := hi) dk (by omega) (fun _ => hL) hG)
            have HL := Lib.hid (HE.out.lessC HS.out (d := dk) (i := first + (2 * root + 1)) (j := first + (2 * root + 1) + 1) (x := (first : Int) + (2 * (root : Int) + 1)) (y := (first : Int) + (2 * (root : Int) + 1) + 1) (by omega) (by omega) (by omega) (by omega) hL)
            go_wp2_with (first
              | (go_at_fn 35; (with_reducible refine HK.out.mono ?_); rintro e w3 ⟨rfl, hSn, hTn⟩; have HT3 := Lib.hid (HT2.out.trans hTn); have c3 := (HB0.out.turn HT3.out).swap; obtain ⟨w4, hsw, hSs, hTs⟩ := HE.out.swapC hSn (d := dk) (i := first + root) (j := first + (2 * root + 1)) (x := (first : Int) + (root : Int)) (y := (first : Int) + (2 * (root : Int) + 1)) (by omega) (by omega) (by omega) (by omega); have HS4 := Lib.hid hSs; have HT4 := Lib.hid (HT3.out.trans hTs); clear hSn hTn hSs hTs HT3 HK)
              | (go_at_fn 35; (with_reducible refine HL.out.mono ?_); rintro e w2 ⟨rfl, hSn, hTn⟩; have HS2 := Lib.hid hSn; have HT2 := Lib.hid (HT.out.trans hTn); have c2 := (HB0.out.turn HT2.out).less; clear hSn hTn c0 HL; have HK := Lib.hid (HE.out.lessC HS2.out (d := dk) (i := first + root) (j := first + (2 * root + 1)) (x := (first : Int) + (root : Int)) (y := (first : Int) + (2 * (root : Int) + 1)) (by omega) (by omega) (by omega) (by omega) hG)))
            go_roundg (hi - (2 * root + 1))
            case measure => omega
            case rel => exact ⟨(2 * root + 1), swp dk (first + root) (first + (2 * root + 1)), by go_num, by omega, Nat.le_refl _, HS4, HT4, Lib.hid (by rw [← HO.out, HN.out])⟩
          | false =>
            have HN := Lib.hid (sd_left_stop lt (hi := hi) dk (by omega) (fun _ => hL) hG)
            have HL := Lib.hid (HE.out.lessC HS.out (d := dk) (i := first + (2 * root + 1)) (j := first + (2 * root + 1) + 1) (x := (first : Int) + (2 * (root : Int) + 1)) (y := (first : Int) + (2 * (root : Int) + 1) + 1) (by omega) (by omega) (by omega) (by omega) hL)
            go_wp2_with (first
              | (go_at_fn 35; (with_reducible refine HK.out.mono ?_); rintro e w3 ⟨rfl, hSn, hTn⟩; have HS4 := Lib.hid hSn; have HT4 := Lib.hid (HT2.out.trans hTn); clear hSn hTn HK)
              | (go_at_fn 35; (with_reducible refine HL.out.mono ?_); rintro e w2 ⟨rfl, hSn, hTn⟩; have HS2 := Lib.hid hSn; have HT2 := Lib.hid (HT.out.trans hTn); have c2 := (HB0.out.turn HT2.out).less; clear hSn hTn c0 HL; have HK := Lib.hid (HE.out.lessC HS2.out (d := dk) (i := first + root) (j := first + (2 * root + 1)) (x := (first : Int) + (root : Int)) (y := (first : Int) + (2 * (root : Int) + 1)) (by omega) (by omega) (by omega) (by omega) hG)))
            (try simp only [Exit.inBlock, Exit.then]); refine bodyPost_ret (results_none rfl _ _ _) rfl ?_
            refine ⟨rfl, ?_, HT0.out.trans HT4.out⟩
            rw [← HO.out, HN.out]
            exact HS4.out
      · have h1z : ¬ 2 * (root : Int) + 1 + 1 < (hi : Int) := by omega
        have h1d : decide (2 * (root : Int) + 1 + 1 < (hi : Int)) = false := decide_eq_false h1z
        cases hG : lt dk[first + root]! dk[first + (2 * root + 1)]! with
        | true =>
          have HN := Lib.hid (sd_left_go lt (hi := hi) dk (by omega) (fun h => absurd h h1) hG)
          have HK := Lib.hid (HE.out.lessC HS.out (d := dk) (i := first + root) (j := first + (2 * root + 1)) (x := (first : Int) + (root : Int)) (y := (first : Int) + (2 * (root : Int) + 1)) (by omega) (by omega) (by omega) (by omega) hG)
          go_wp2_with (go_at_fn 35; (with_reducible refine HK.out.mono ?_); rintro e w3 ⟨rfl, hSn, hTn⟩; have HT3 := Lib.hid (HT.out.trans hTn); have c3 := (HB0.out.turn HT3.out).swap; obtain ⟨w4, hsw, hSs, hTs⟩ := HE.out.swapC hSn (d := dk) (i := first + root) (j := first + (2 * root + 1)) (x := (first : Int) + (root : Int)) (y := (first : Int) + (2 * (root : Int) + 1)) (by omega) (by omega) (by omega) (by omega); have HS4 := Lib.hid hSs; have HT4 := Lib.hid (HT3.out.trans hTs); clear hSn hTn hSs hTs HT3 HK)
          go_roundg (hi - (2 * root + 1))
          case measure => omega
          case rel => exact ⟨(2 * root + 1), swp dk (first + root) (first + (2 * root + 1)), by go_num, by omega, Nat.le_refl _, HS4, HT4, Lib.hid (by rw [← HO.out, HN.out])⟩
        | false =>
          have HN := Lib.hid (sd_left_stop lt (hi := hi) dk (by omega) (fun h => absurd h h1) hG)
          have HK := Lib.hid (HE.out.lessC HS.out (d := dk) (i := first + root) (j := first + (2 * root + 1)) (x := (first : Int) + (root : Int)) (y := (first : Int) + (2 * (root : Int) + 1)) (by omega) (by omega) (by omega) (by omega) hG)
          go_wp2_with (go_at_fn 35; (with_reducible refine HK.out.mono ?_); rintro e w3 ⟨rfl, hSn, hTn⟩; have HS4 := Lib.hid hSn; have HT4 := Lib.hid (HT.out.trans hTn); clear hSn hTn HK)
          (try simp only [Exit.inBlock, Exit.then]); refine bodyPost_ret (results_none rfl _ _ _) rfl ?_
          refine ⟨rfl, ?_, HT0.out.trans HT4.out⟩
          rw [← HO.out, HN.out]
          exact HS4.out
end Go.Proofs.Ytfcoecojjciphaa.srt
