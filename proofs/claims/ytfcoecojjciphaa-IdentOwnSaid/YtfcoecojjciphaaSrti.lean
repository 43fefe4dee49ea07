/-
  The library's insertion sort over a row of ids.
-/
import Derived.Test.YtfcoecojjciphaaSrt
import Derived.Deep.LoopGhost
import Derived.Sort.WalkA6
namespace Go.Proofs.Ytfcoecojjciphaa.srt
open Go.RowKit Go.Proofs.Ytfcoecojjciphaa.mem Go.Proofs.Ytfcoecojjciphaa.sha Go.Proofs.Ytfcoecojjciphaa.ids Go.Sort

set_option maxHeartbeats 2000000 in
set_option maxRecDepth 100000 in
theorem ins_any {V H : Value} {blk off n : Nat} (E : Env V H blk off n) (d : Array I32) (w : World) (a b : Nat) (hs : St blk off n d w) (hab : a ≤ b) (hb : b ≤ n) (hn : n ≤ 1000000000) :
    Calls Try.prog 69 #[dat V H, .int .i64 a, .int .i64 b] w fun e w' => e = .returned (.tuple #[]) ∧ St blk off n (insertionSort lt d a b) w' ∧ Tr blk w w' := by
  have HE := Lib.hid E
  have en := enters_less
  have HT0 := Lib.hid (Tr.boxed V H blk w)
  have HS0 := Lib.hid (hs.boxed (V := V) (H := H))
  have HB0 := Lib.hid (Bx.new (V := V) (H := H) hs)
  unfold datObj at HT0 HS0 HB0
  unfold dat
  clear E hs
  go_enter Try.func69, Try.ntmps69
  go_wp2_with fail
  generalize w.alloc _ = w1 at HT0 HS0 HB0 ⊢
  generalize w.heap.size = B at HB0 ⊢
  go_loopg [6] (b + 1 - a) (fun gk s6 wr => ∃ (i : Nat) (dk : Array I32), s6 = .int .i64 i ∧ a < i ∧ i ≤ b + 1 ∧ b + 1 - i ≤ gk ∧ Hid (St blk off n dk wr) ∧ Hid (Tr blk w1 wr) ∧ Hid (insOuter lt a b i dk = insOuter lt a b (a + 1) d))
  case atStart => exact ⟨a + 1, d, by go_num, by omega, by omega, by omega, HS0.out, Lib.hid (Tr.refl _ _), Lib.hid rfl⟩
  case round =>
    obtain ⟨i, dk, rfl, hai, hib, hgk, HS, HT, HO⟩ := hrel
    clear HS0
    by_cases hlt : i < b
    · have hltz : (i : Int) < (b : Int) := by omega
      go_wp2_with fail
      go_loopg [7] (i - a) (fun gk2 s7 wr2 => ∃ (j : Nat) (dj : Array I32), s7 = .int .i64 j ∧ a ≤ j ∧ j ≤ i ∧ j - a ≤ gk2 ∧ Hid (St blk off n dj wr2) ∧ Hid (Tr blk w1 wr2) ∧ Hid (insInner lt a j dj = insInner lt a i dk))
      case atStart => exact ⟨i, dk, rfl, by omega, Nat.le_refl _, Nat.le_refl _, HS, HT, Lib.hid rfl⟩
      case round =>
        obtain ⟨j, dj, rfl, haj, hji, hgk2, HS2, HT2, HI⟩ := hrel
        have HB := Lib.hid (HB0.out.turn HT2.out)
        have c0 := HB.out.less
        have c1 := HB.out.swap
        by_cases hja : a < j
        · have hjaz : (a : Int) < (j : Int) := by omega
          have hjab : decide ((a : Int) < (j : Int)) = true := decide_eq_true hjaz
          have j0 : (0 : Int) ≤ (j : Int) - 1 := by omega
          cases hl : lt dj[j]! dj[j - 1]! with
          | true =>
            have HL := Lib.hid (HE.out.lessC HS2.out (i := j) (j := j - 1) (x := (j : Int)) (y := (j : Int) - 1) (by omega) (by omega) rfl (by omega) hl)
            have HN := Lib.hid (insInner_go (lt := lt) a j dj hja hl)
            clear hl HS2
            go_wp2_with (go_at_fn 35; (with_reducible refine HL.out.mono ?_); rintro e w2 ⟨rfl, hS2, hT2⟩; have c2 := (HB.out.turn hT2).swap; obtain ⟨w3, hsw, hS3, hT3⟩ := HE.out.swapC hS2 (i := j) (j := j - 1) (x := (j : Int)) (y := (j : Int) - 1) (by omega) (by omega) rfl (by omega); have HS3 := Lib.hid hS3; have HT3 := Lib.hid (HT2.out.trans (hT2.trans hT3)); clear hS2 hT2 hS3 hT3 c0 c1 HB HL)
            go_roundg (j - 1 - a)
            case measure => omega
            case rel => exact ⟨j - 1, swp dj j (j - 1), by go_num, by omega, by omega, Nat.le_refl _, HS3, HT3, Lib.hid (by rw [← HI.out, HN.out])⟩
          | false =>
            have HL := Lib.hid (HE.out.lessC HS2.out (i := j) (j := j - 1) (x := (j : Int)) (y := (j : Int) - 1) (by omega) (by omega) rfl (by omega) hl)
            have HN := Lib.hid (insInner_stop (lt := lt) a j dj (.inr hl))
            clear hl HS2
            go_wp2_with (go_at_fn 35; (with_reducible refine HL.out.mono ?_); rintro e w2 ⟨rfl, hS2, hT2⟩; have HS3 := Lib.hid hS2; have HT3 := Lib.hid (HT2.out.trans hT2); clear hS2 hT2 c0 c1 HB HL)
            go_roundg (b + 1 - (i + 1))
            case measure => omega
            case rel => exact ⟨i + 1, dj, by go_num, by omega, by omega, Nat.le_refl _, HS3, HT3, Lib.hid (by rw [← HO.out, insOuter_go lt a b i dk hlt, ← HI.out, HN.out])⟩
        · have hjaz : ¬ (a : Int) < (j : Int) := by omega
          have hjab : decide ((a : Int) < (j : Int)) = false := decide_eq_false hjaz
          have HN := Lib.hid (insInner_stop (lt := lt) a j dj (.inl (by omega)))
          clear c0 c1 HB
          go_wp2_with fail
          go_roundg (b + 1 - (i + 1))
          case measure => omega
          case rel => exact ⟨i + 1, dj, by go_num, by omega, by omega, Nat.le_refl _, HS2, HT2, Lib.hid (by rw [← HO.out, insOuter_go lt a b i dk hlt, ← HI.out, HN.out])⟩
    · have hltz : ¬ (i : Int) < (b : Int) := by omega
      go_wp2_with fail
      go_end0
      refine ⟨rfl, ?_, HT0.out.trans HT.out⟩
      have := HO.out
      rw [insOuter_stop lt a b i dk hlt] at this
      unfold insertionSort
      rw [← this]
      exact HS.out
end Go.Proofs.Ytfcoecojjciphaa.srt
