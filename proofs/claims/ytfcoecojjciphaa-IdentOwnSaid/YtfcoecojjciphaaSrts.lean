/-
  The library's partial insertion sort over a row of ids.
-/
import Derived.Test.YtfcoecojjciphaaSrt
import Derived.Deep.LoopGhost
import Derived.Sort.WalkA6
import Derived.Deep.CutRange
import Derived.Deep.CutBlock
namespace Go.Proofs.Ytfcoecojjciphaa.srt
open Go.Proofs Go.RowKit Go.Proofs.Ytfcoecojjciphaa.mem Go.Proofs.Ytfcoecojjciphaa.sha Go.Proofs.Ytfcoecojjciphaa.ids Go.Sort
set_option maxHeartbeats 4000000 in
set_option maxRecDepth 100000 in
theorem pins_any {V H : Value} {blk off n : Nat} (E : Env V H blk off n) (d : Array I32) (w : World) (a b : Nat) (hs : St blk off n d w) (hab : a < b) (hb : b ≤ n) (hn : n ≤ 1000000000) :
    Calls Try.prog 74 #[dat V H, .int .i64 a, .int .i64 b] w fun e w' => e = .returned (.bool (partialInsertionSort lt d a b).2) ∧ St blk off n (partialInsertionSort lt d a b).1 w' ∧ Tr blk w w' := by
  have HE := Lib.hid E
  have en := enters_less
  have HT0 := Lib.hid (Tr.boxed V H blk w)
  have HS0 := Lib.hid (hs.boxed (V := V) (H := H))
  have HB0 := Lib.hid (Bx.new (V := V) (H := H) hs)
  unfold datObj at HT0 HS0 HB0
  unfold dat
  clear E hs
  go_enter Try.func74, Try.ntmps74
  go_wp2_with fail
  generalize w.alloc _ = w1 at HT0 HS0 HB0 ⊢
  generalize w.heap.size = B at HB0 ⊢
  have HF := Lib.hid (show partialIns lt a b 5 (a + 1) d = partialInsertionSort lt d a b from rfl)
  go_loopg [7, 8] 5 (fun g1 vi vs wr => ∃ (i s : Nat) (dk : Array I32), vi = .int .i64 i ∧ vs = .int .i64 s ∧ s ≤ 5 ∧ 5 - s ≤ g1 ∧ a < i ∧ i ≤ b ∧ Hid (St blk off n dk wr) ∧ Hid (Tr blk w1 wr) ∧ Hid (partialIns lt a b (5 - s) i dk = partialIns lt a b 5 (a + 1) d))
  case atStart => exact ⟨a + 1, 0, d, by go_num, rfl, by omega, by omega, by omega, by omega, HS0, Lib.hid (Tr.refl _ _), Lib.hid rfl⟩
  case round =>
    obtain ⟨i, s, dk, rfl, rfl, hs5, hg1, hai, hib, HS, HT, HO⟩ := hrel
    clear HS0
    by_cases hs : s < 5
    · have hsz5 : (s : Int) < 5 := by omega
      go_upto_block 2 with fail
      go_cut [7] from 17 to 30 (fun s7 wx => ∃ kx : Nat, s7 = .int .i64 kx ∧ i ≤ kx ∧ kx ≤ b ∧ Hid (scanSorted lt dk b i = kx) ∧ Hid (St blk off n dk wx) ∧ Hid (Tr blk w1 wx))
      case first =>
        go_wp2_with fail
        go_loopg [7] (b - i) (fun g2 vi wr2 => ∃ (kx : Nat), vi = .int .i64 kx ∧ i ≤ kx ∧ kx ≤ b ∧ b - kx ≤ g2 ∧ Hid (scanSorted lt dk b kx = scanSorted lt dk b i) ∧ Hid (St blk off n dk wr2) ∧ Hid (Tr blk w1 wr2))
        case atStart => exact ⟨i, rfl, Nat.le_refl _, hib, Nat.le_refl _, Lib.hid rfl, HS, HT⟩
        case round =>
          obtain ⟨kx, rfl, hik, hkb, hg2, HSc, HS3, HT3⟩ := hrel
          have c0 := (HB0.out.turn HT3.out).less
          by_cases hkb' : kx < b
          · have hkz : (kx : Int) < (b : Int) := by omega
            have hkzd : decide ((kx : Int) < (b : Int)) = true := decide_eq_true hkz
            cases hlv : lt dk[kx]! dk[kx - 1]! with
            | false =>
              have HL := Lib.hid (HE.out.lessC HS3.out (d := dk) (i := kx) (j := kx - 1) (x := (kx : Int)) (y := (kx : Int) - 1) (by omega) (by omega) (by omega) (by omega) hlv)
              have HN := Lib.hid (scanSorted_go lt dk b kx hkb' hlv)
              clear hlv HS3
              go_wp2_with (go_at_fn 35; (with_reducible refine HL.out.mono ?_); rintro e w3 ⟨rfl, hSn, hTn⟩; have HS4 := Lib.hid hSn; have HT4 := Lib.hid (HT3.out.trans hTn); clear hSn hTn c0 HL)
              go_roundg (b - (kx + 1))
              case measure => omega
              case rel => exact ⟨kx + 1, by go_num, by omega, by omega, Nat.le_refl _, Lib.hid (by rw [← HSc.out, HN.out]), HS4, HT4⟩
            | true =>
              have HL := Lib.hid (HE.out.lessC HS3.out (d := dk) (i := kx) (j := kx - 1) (x := (kx : Int)) (y := (kx : Int) - 1) (by omega) (by omega) (by omega) (by omega) hlv)
              have HN := Lib.hid (scanSorted_stop lt dk b kx (.inr hlv))
              clear hlv HS3
              go_wp2_with (go_at_fn 35; (with_reducible refine HL.out.mono ?_); rintro e w3 ⟨rfl, hSn, hTn⟩; have HS4 := Lib.hid hSn; have HT4 := Lib.hid (HT3.out.trans hTn); clear hSn hTn c0 HL)
              go_meet
              exact ⟨kx, rfl, hik, hkb, Lib.hid (by rw [← HSc.out, HN.out]), HS4, HT4⟩
          · have hkz : ¬ (kx : Int) < (b : Int) := by omega
            have hkzd : decide ((kx : Int) < (b : Int)) = false := decide_eq_false hkz
            have HN := Lib.hid (scanSorted_stop lt dk b kx (.inl hkb'))
            clear c0
            go_wp2_with fail
            go_meet
            exact ⟨kx, rfl, hik, hkb, Lib.hid (by rw [← HSc.out, HN.out]), HS3, HT3⟩
      case rest =>
        clear HS HT
        obtain ⟨kx, rfl, hik, hkb, HK, HS, HT⟩ := hcut
        by_cases hkb' : kx = b
        · have hkbz : ((kx : Int) == (b : Int)) = true := by simp [hkb']
          have HV := Lib.hid (pi_true lt a b s i dk hs (HK.out.trans hkb'))
          clear hkb'
          go_wp2_with fail
          go_ret
          rw [← HF.out, ← HO.out, HV.out]
          exact ⟨rfl, HS.out, HT0.out.trans HT.out⟩
        · have hkbz : ((kx : Int) == (b : Int)) = false := beq_eq_false_iff_ne.2 (by omega)
          by_cases h50 : b - a < 50
          · have h50z : (b : Int) - (a : Int) < 50 := by omega
            have HV := Lib.hid (pi_short lt a b s i dk hs (by rw [HK.out]; omega) h50)
            go_wp2_with fail
            go_ret
            rw [← HF.out, ← HO.out, HV.out]
            exact ⟨rfl, HS.out, HT0.out.trans HT.out⟩
          · have h50z : ¬ ((b : Int) - (a : Int) < 50) := by omega
            have c1 := (HB0.out.turn HT.out).swap
            obtain ⟨w4, hsw, hSs, hTs⟩ := HE.out.swapC HS.out (d := dk) (i := kx) (j := kx - 1) (x := (kx : Int)) (y := (kx : Int) - 1) (by omega) (by omega) rfl (by omega)
            have HS1 := Lib.hid hSs
            have HT1 := Lib.hid (HT.out.trans hTs)
            have HV := Lib.hid (pi_go lt a b s i kx dk hs HK.out (by omega) h50)
            clear hSs hTs HS HT
            go_upto_if 47 with fail
            clear hsw c1
            obtain ⟨d1, hd1⟩ : ∃ x, x = swp dk kx (kx - 1) := ⟨_, rfl⟩
            rw [← hd1] at HS1 HV
            clear hd1
            go_cut [9] from 47 to 66 (fun _ wx => Hid (St blk off n (fixDown lt a kx d1) wx) ∧ Hid (Tr blk w1 wx))
            case first =>
              by_cases hka : kx - a ≥ 2
              · have hkaz : (2 : Int) ≤ (kx : Int) - (a : Int) := by omega
                have HD := Lib.hid (show fixDown lt a kx d1 = shiftDown lt (kx - 1) d1 by unfold fixDown; rw [if_pos hka])
                go_wp2_with fail
                go_loopg [9] (kx - 1) (fun g3 vj wr3 => ∃ (j : Nat) (dj : Array I32), vj = .int .i64 j ∧ j ≤ kx - 1 ∧ j ≤ g3 ∧ Hid (shiftDown lt j dj = shiftDown lt (kx - 1) d1) ∧ Hid (St blk off n dj wr3) ∧ Hid (Tr blk w1 wr3))
                case atStart => exact ⟨kx - 1, d1, by congr 1; omega, Nat.le_refl _, Nat.le_refl _, Lib.hid rfl, HS1, HT1⟩
                case round =>
                  obtain ⟨j, dj, rfl, hjk, hg3, HDn, HS3, HT3⟩ := hrel
                  have c0 := (HB0.out.turn HT3.out).less
                  by_cases hj1 : 1 ≤ j
                  · have hj1z : (1 : Int) ≤ (j : Int) := by omega
                    cases hlv : lt dj[j]! dj[j - 1]! with
                    | true =>
                      have HL := Lib.hid (HE.out.lessC HS3.out (d := dj) (i := j) (j := j - 1) (x := (j : Int)) (y := (j : Int) - 1) (by omega) (by omega) (by omega) (by omega) hlv)
                      have HN := Lib.hid (shiftDown_go lt j dj hj1 hlv)
                      clear hlv HS3
                      go_wp2_with (go_at_fn 35; (with_reducible refine HL.out.mono ?_); rintro e w3 ⟨rfl, hSn, hTn⟩; have HS4 := Lib.hid hSn; have HT4 := Lib.hid (HT3.out.trans hTn); have c3 := (HB0.out.turn HT4.out).swap; obtain ⟨w5, hsw, hS5, hT5⟩ := HE.out.swapC HS4.out (d := dj) (i := j) (j := j - 1) (x := (j : Int)) (y := (j : Int) - 1) (by omega) (by omega) rfl (by omega); have HS5 := Lib.hid hS5; have HT5 := Lib.hid (HT4.out.trans hT5); clear hSn hTn hS5 hT5 c0 HL)
                      go_roundg (j - 1)
                      case measure => omega
                      case rel => exact ⟨j - 1, swp dj j (j - 1), by congr 1; omega, by omega, Nat.le_refl _, Lib.hid (by rw [← HDn.out, HN.out]), HS5, HT5⟩
                    | false =>
                      have HL := Lib.hid (HE.out.lessC HS3.out (d := dj) (i := j) (j := j - 1) (x := (j : Int)) (y := (j : Int) - 1) (by omega) (by omega) (by omega) (by omega) hlv)
                      have HN := Lib.hid (shiftDown_stop lt j dj (.inr hlv))
                      clear hlv HS3
                      go_wp2_with (go_at_fn 35; (with_reducible refine HL.out.mono ?_); rintro e w3 ⟨rfl, hSn, hTn⟩; have HS4 := Lib.hid hSn; have HT4 := Lib.hid (HT3.out.trans hTn); clear hSn hTn c0 HL)
                      go_meet
                      exact ⟨by rw [HD.out, ← HDn.out, HN.out]; exact HS4, HT4⟩
                  · have hj1z : ¬ (1 : Int) ≤ (j : Int) := by omega
                    have HN := Lib.hid (shiftDown_stop lt j dj (.inl (by omega)))
                    clear c0
                    go_wp2_with fail
                    go_meet
                    exact ⟨by rw [HD.out, ← HDn.out, HN.out]; exact HS3, HT3⟩
              · have hkaz : ¬ (2 : Int) ≤ (kx : Int) - (a : Int) := by omega
                have HD := Lib.hid (show fixDown lt a kx d1 = d1 by unfold fixDown; rw [if_neg hka])
                go_wp2_with fail
                go_meet
                exact ⟨by rw [HD.out]; exact HS1, HT1⟩
            case rest =>
              clear HS1 HT1
              obtain ⟨HS1, HT1⟩ := hcut
              obtain ⟨d2, hd2⟩ : ∃ x, x = fixDown lt a kx d1 := ⟨_, rfl⟩
              rw [← hd2] at HS1 HV
              clear hd2
              by_cases hbk : b - kx ≥ 2
              · have hbkz : (2 : Int) ≤ (b : Int) - (kx : Int) := by omega
                have HD := Lib.hid (show fixUp lt b kx d2 = shiftUp lt b (kx + 1) d2 by unfold fixUp; rw [if_pos hbk])
                go_wp2_with fail
                go_loopg [10] (b - (kx + 1)) (fun g4 vj wr4 => ∃ (j : Nat) (dj : Array I32), vj = .int .i64 j ∧ kx + 1 ≤ j ∧ j ≤ b ∧ b - j ≤ g4 ∧ Hid (shiftUp lt b j dj = shiftUp lt b (kx + 1) d2) ∧ Hid (St blk off n dj wr4) ∧ Hid (Tr blk w1 wr4))
                case atStart => exact ⟨kx + 1, d2, by go_num, Nat.le_refl _, by omega, Nat.le_refl _, Lib.hid rfl, HS1, HT1⟩
                case round =>
                  obtain ⟨j, dj, rfl, hkj, hjb, hg4, HDn, HS3, HT3⟩ := hrel
                  have c0 := (HB0.out.turn HT3.out).less
                  by_cases hjb' : j < b
                  · have hjz : (j : Int) < (b : Int) := by omega
                    cases hlv : lt dj[j]! dj[j - 1]! with
                    | true =>
                      have HL := Lib.hid (HE.out.lessC HS3.out (d := dj) (i := j) (j := j - 1) (x := (j : Int)) (y := (j : Int) - 1) (by omega) (by omega) (by omega) (by omega) hlv)
                      have HN := Lib.hid (shiftUp_go lt b j dj hjb' hlv)
                      clear hlv HS3
                      go_wp2_with (go_at_fn 35; (with_reducible refine HL.out.mono ?_); rintro e w3 ⟨rfl, hSn, hTn⟩; have HS4 := Lib.hid hSn; have HT4 := Lib.hid (HT3.out.trans hTn); have c3 := (HB0.out.turn HT4.out).swap; obtain ⟨w5, hsw, hS5, hT5⟩ := HE.out.swapC HS4.out (d := dj) (i := j) (j := j - 1) (x := (j : Int)) (y := (j : Int) - 1) (by omega) (by omega) rfl (by omega); have HS5 := Lib.hid hS5; have HT5 := Lib.hid (HT4.out.trans hT5); clear hSn hTn hS5 hT5 c0 HL)
                      go_roundg (b - (j + 1))
                      case measure => omega
                      case rel => exact ⟨j + 1, swp dj j (j - 1), by go_num, by omega, by omega, Nat.le_refl _, Lib.hid (by rw [← HDn.out, HN.out]), HS5, HT5⟩
                    | false =>
                      have HL := Lib.hid (HE.out.lessC HS3.out (d := dj) (i := j) (j := j - 1) (x := (j : Int)) (y := (j : Int) - 1) (by omega) (by omega) (by omega) (by omega) hlv)
                      have HN := Lib.hid (shiftUp_stop lt b j dj (.inr hlv))
                      clear hlv HS3
                      go_wp2_with (go_at_fn 35; (with_reducible refine HL.out.mono ?_); rintro e w3 ⟨rfl, hSn, hTn⟩; have HS4 := Lib.hid hSn; have HT4 := Lib.hid (HT3.out.trans hTn); clear hSn hTn c0 HL)
                      go_roundg (5 - (s + 1))
                      case measure => omega
                      case rel => exact ⟨kx, s + 1, _, rfl, by go_num, by omega, Nat.le_refl _, by omega, hkb, HS4, HT4, Lib.hid (by rw [← HO.out, HV.out, HD.out, ← HDn.out, HN.out])⟩
                  · have hjz : ¬ (j : Int) < (b : Int) := by omega
                    have HN := Lib.hid (shiftUp_stop lt b j dj (.inl hjb'))
                    clear c0
                    go_wp2_with fail
                    go_roundg (5 - (s + 1))
                    case measure => omega
                    case rel => exact ⟨kx, s + 1, _, rfl, by go_num, by omega, Nat.le_refl _, by omega, hkb, HS3, HT3, Lib.hid (by rw [← HO.out, HV.out, HD.out, ← HDn.out, HN.out])⟩
              · have hbkz : ¬ (2 : Int) ≤ (b : Int) - (kx : Int) := by omega
                have HD := Lib.hid (show fixUp lt b kx d2 = d2 by unfold fixUp; rw [if_neg hbk])
                go_wp2_with fail
                go_roundg (5 - (s + 1))
                case measure => omega
                case rel => exact ⟨kx, s + 1, _, rfl, by go_num, by omega, Nat.le_refl _, by omega, hkb, HS1, HT1, Lib.hid (by rw [← HO.out, HV.out, HD.out])⟩
    · obtain rfl : s = 5 := by omega
      have HV := Lib.hid (pi_end lt a b i dk)
      go_wp2_with fail
      go_ret
      rw [← HF.out, ← HO.out, HV.out]
      exact ⟨rfl, HS.out, HT0.out.trans HT.out⟩
end Go.Proofs.Ytfcoecojjciphaa.srt
