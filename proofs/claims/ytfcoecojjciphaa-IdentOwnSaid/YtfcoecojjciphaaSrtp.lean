/-
  The library's heap sort over a row of ids.
-/
import Derived.Test.YtfcoecojjciphaaSrt
import Derived.Deep.LoopGhost
import Derived.Sort.WalkB2
import Derived.Test.YtfcoecojjciphaaSrth
namespace Go.Proofs.Ytfcoecojjciphaa.srt
open Go.RowKit Go.Proofs.Ytfcoecojjciphaa.mem Go.Proofs.Ytfcoecojjciphaa.sha Go.Proofs.Ytfcoecojjciphaa.ids Go.Sort
set_option maxHeartbeats 2000000 in
set_option maxRecDepth 100000 in
theorem heap_any {V H : Value} {blk off n : Nat} (E : Env V H blk off n) (d : Array I32) (w : World) (a b : Nat) (hs : St blk off n d w) (hab : a ≤ b) (hb : b ≤ n) (hn : n ≤ 1000000000) :
    Calls Try.prog 70 #[dat V H, .int .i64 a, .int .i64 b] w fun e w' => e = .returned (.tuple #[]) ∧ St blk off n (heapSort lt d a b) w' ∧ Tr blk w w' := by
  have HE := Lib.hid E
  have en := enters_less
  have HT0 := Lib.hid (Tr.boxed V H blk w)
  have HS0 := Lib.hid (hs.boxed (V := V) (H := H))
  have HB0 := Lib.hid (Bx.new (V := V) (H := H) hs)
  unfold datObj at HT0 HS0 HB0
  unfold dat
  have hz0 : ((b : Int) - (a : Int)) = ((b - a : Nat) : Int) := by omega
  have HF := Lib.hid (show heapPop lt a (b - a) (heapBuild lt (b - a) a ((b - a - 1) / 2 + 1) d) = heapSort lt d a b from rfl)
  obtain ⟨m, hm⟩ : ∃ m, m = b - a := ⟨_, rfl⟩
  rw [← hm] at hz0 HF
  have hq : Int.tdiv ((m : Int) - 1) 2 = (((m - 1) / 2 : Nat) : Int) := by
    rcases Nat.eq_zero_or_pos m with h | h
    · subst h; rfl
    · rw [show (m : Int) - 1 = ((m - 1 : Nat) : Int) by omega, Int.tdiv_eq_ediv_of_nonneg (by omega)]; norm_cast
  have hm1 : m ≤ n := by omega
  have HM := Lib.hid (show a + m = b by omega)
  clear hm
  clear E hs
  go_enter Try.func70, Try.ntmps70
  go_wp2_with fail
  generalize w.alloc _ = w1 at HT0 HS0 HB0 ⊢
  generalize w.heap.size = B at HB0 ⊢
  go_loopg [9] ((m - 1) / 2 + 1) (fun gk s9 wr => ∃ (k : Nat) (dk : Array I32) (z : Int), s9 = .int .i64 z ∧ z = (k : Int) - 1 ∧ k ≤ (m - 1) / 2 + 1 ∧ k ≤ gk ∧ Hid (St blk off n dk wr) ∧ Hid (Tr blk w1 wr) ∧ Hid (heapBuild lt m a k dk = heapBuild lt m a ((m - 1) / 2 + 1) d))
  case atStart => exact ⟨(m - 1) / 2 + 1, d, ((m - 1) / 2 : Nat), rfl, by omega, Nat.le_refl _, Nat.le_refl _, HS0.out, Lib.hid (Tr.refl _ _), Lib.hid rfl⟩
  case round =>
    obtain ⟨k, dk, z, rfl, hz, hkm, hgk, HS, HT, HO⟩ := hrel
    clear HS0
    have c0 := (HB0.out.turn HT.out).less
    have c1 := (HB0.out.turn HT.out).swap
    cases k with
    | zero =>
      obtain rfl : z = -1 := by omega
      clear c0 c1 hz
      go_wp2_with fail
      have HO2 : Hid (dk = heapBuild lt m a ((m - 1) / 2 + 1) d) := HO.out
      clear HO
      go_loopg [10] m (fun gk s10 wr => ∃ (k : Nat) (dj : Array I32) (z : Int), s10 = .int .i64 z ∧ z = (k : Int) - 1 ∧ k ≤ m ∧ k ≤ gk ∧ Hid (St blk off n dj wr) ∧ Hid (Tr blk w1 wr) ∧ Hid (heapPop lt a k dj = heapPop lt a m dk))
      case atStart => exact ⟨m, dk, _, rfl, rfl, Nat.le_refl _, Nat.le_refl _, HS.out, HT.out, Lib.hid rfl⟩
      case round =>
        obtain ⟨k, dj, z, rfl, hz, hkm2, hgk2, HS2, HT2, HP⟩ := hrel
        clear HS HT
        cases k with
        | zero =>
          obtain rfl : z = -1 := by omega
          clear hz
          go_wp2_with fail
          go_end0
          refine ⟨rfl, ?_, HT0.out.trans HT2.out⟩
          rw [← HF.out, ← HO2.out, ← HP.out]
          exact HS2.out
        | succ k =>
          obtain rfl : z = (k : Int) := by omega
          have hM := HM.out
          have c1 := (HB0.out.turn HT2.out).swap
          obtain ⟨w2, hsw, hSs, hTs⟩ := HE.out.swapC HS2.out (i := a) (j := a + k) (x := (a : Int)) (y := (a : Int) + (k : Int)) (by omega) (by omega) rfl (by omega)
          have HT3 := Lib.hid (HT2.out.trans hTs)
          have c2 := (HB0.out.turn HT3.out).less
          have c3 := (HB0.out.turn HT3.out).swap
          have hC := sift_any HE.out _ w2 0 k a hSs (Nat.zero_le _) (by omega) hn
          rw [show ((0 : Nat) : Int) = 0 from rfl] at hC
          have HC := Lib.hid hC
          unfold dat at HC
          clear hC
          clear hSs hTs hz hM HS2
          go_wp2_with (go_at_call 78; (with_reducible refine HC.out.mono ?_); rintro e w3 ⟨rfl, hSn, hTn⟩; have HS4 := Lib.hid hSn; have HT4 := Lib.hid (HT3.out.trans hTn); clear hSn hTn HC)
          go_roundg k
          case measure => omega
          case rel => exact ⟨k, _, _, rfl, rfl, by omega, Nat.le_refl _, HS4.out, HT4.out, HP.out⟩
    | succ k =>
      obtain rfl : z = (k : Int) := by omega
      have hM := HM.out
      have HC := Lib.hid (sift_any HE.out dk wr k m a HS.out (by omega) (by omega) hn)
      unfold dat at HC
      clear hz hM HS
      go_wp2_with (go_at_call 78; (with_reducible refine HC.out.mono ?_); rintro e w3 ⟨rfl, hSn, hTn⟩; have HS4 := Lib.hid hSn; have HT4 := Lib.hid (HT.out.trans hTn); clear hSn hTn HC)
      go_roundg k
      case measure => omega
      case rel => exact ⟨k, _, _, rfl, rfl, by omega, Nat.le_refl _, HS4.out, HT4.out, HO.out⟩
end Go.Proofs.Ytfcoecojjciphaa.srt
