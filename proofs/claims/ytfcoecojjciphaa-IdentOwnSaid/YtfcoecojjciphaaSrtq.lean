/-
  The library's two partitions over a row of ids.
-/
import Derived.Test.YtfcoecojjciphaaSrt
import Derived.Deep.LoopGhost
import Derived.Sort.WalkC4
import Derived.Deep.CutRange
import Derived.Deep.CutBlock
namespace Go.Proofs.Ytfcoecojjciphaa.srt
open Go.Proofs Go.RowKit Go.Proofs.Ytfcoecojjciphaa.mem Go.Proofs.Ytfcoecojjciphaa.sha Go.Proofs.Ytfcoecojjciphaa.ids Go.Sort
set_option maxHeartbeats 4000000 in
set_option maxRecDepth 100000 in
theorem part_any {V H : Value} {blk off n : Nat} (E : Env V H blk off n) (d : Array I32) (w : World) (a b pivot : Nat) (hs : St blk off n d w) (hap : a ≤ pivot) (hpb : pivot < b) (hb : b ≤ n) (hn : n ≤ 1000000000) :
    Calls Try.prog 76 #[dat V H, .int .i64 a, .int .i64 b, .int .i64 pivot] w fun e w' => e = .returned (.tuple #[.int .i64 (partition lt d a b pivot).1, .bool (partition lt d a b pivot).2.1]) ∧ St blk off n (partition lt d a b pivot).2.2 w' ∧ Tr blk w w' := by
  have HE := Lib.hid E
  have en := enters_less
  have HT0 := Lib.hid (Tr.boxed V H blk w)
  have hS0 := hs.boxed (V := V) (H := H)
  have HB0' := Bx.new (V := V) (H := H) hs
  obtain ⟨w1, hsw, hSs, hTs⟩ := HE.out.swapC hS0 (d := d) (i := a) (j := pivot) (x := (a : Int)) (y := (pivot : Int)) (by omega) (by omega) rfl rfl
  have HS1 := Lib.hid hSs
  have HTa := Lib.hid (HT0.out.trans hTs)
  have HB0 := Lib.hid (HB0'.turn hTs)
  unfold datObj at hsw HB0
  unfold dat
  clear E hs hS0 hSs hTs HT0 HB0'
  go_enter Try.func76, Try.ntmps76
  go_upto_block 0 with fail
  clear hsw
  generalize w.heap.size = B at HB0 ⊢
  obtain ⟨d1, hd1⟩ : ∃ x, x = swp d a pivot := ⟨_, rfl⟩
  rw [← hd1] at HS1
  have HD1 := Lib.hid hd1
  clear hd1
  have HT1 := Lib.hid (Tr.refl blk w1)
  go_cut [10] from 21 to 32 (fun si wx => ∃ i : Nat, si = .int .i64 i ∧ a + 1 ≤ i ∧ i ≤ (b - 1) + 1 ∧ Hid (i = scanUp (fun x => lt x d1[a]!) d1 (b - 1) (a + 1)) ∧ Hid (St blk off n d1 wx) ∧ Hid (Tr blk w1 wx))
  case first =>
    go_wp2_with fail
    go_loopg [10] ((b - 1) + 1 - (a + 1)) (fun gk si wr => ∃ i : Nat, si = .int .i64 i ∧ a + 1 ≤ i ∧ i ≤ (b - 1) + 1 ∧ (b - 1) + 1 - i ≤ gk ∧ Hid (scanUp (fun x => lt x d1[a]!) d1 (b - 1) i = scanUp (fun x => lt x d1[a]!) d1 (b - 1) (a + 1)) ∧ Hid (St blk off n d1 wr) ∧ Hid (Tr blk w1 wr))
    case atStart => exact ⟨a + 1, by go_num, Nat.le_refl _, by omega, Nat.le_refl _, Lib.hid rfl, HS1, HT1⟩
    case round =>
      obtain ⟨i, rfl, hi0, hi1, hgk, HO, HS3, HT3⟩ := hrel
      have c0 := (HB0.out.turn HT3.out).less
      by_cases hij : i ≤ (b - 1)
      · have hz : (i : Int) ≤ ((b : Int) - 1) := by omega
        have hzd : decide ((i : Int) ≤ ((b : Int) - 1)) = true := decide_eq_true hz
        cases hl : lt d1[i]! d1[a]! with
        | true =>
          have HL := Lib.hid (HE.out.lessC HS3.out (d := d1) (i := i) (j := a) (x := (i : Int)) (y := (a : Int)) (by omega) (by omega) (by omega) (by omega) hl)
          have HN := Lib.hid (scanUp_go (fun x => lt x d1[a]!) d1 (b - 1) i hij (by simp [hl]))
          clear hl HS3
          go_wp2_with (go_at_fn 35; (with_reducible refine HL.out.mono ?_); rintro e w3 ⟨rfl, hSn, hTn⟩; have HS4 := Lib.hid hSn; have HT4 := Lib.hid (HT3.out.trans hTn); clear hSn hTn c0 HL)
          go_roundg ((b - 1) + 1 - (i + 1))
          case measure => omega
          case rel => exact ⟨i + 1, by go_num, by omega, by omega, Nat.le_refl _, Lib.hid (by rw [← HO.out, HN.out]), HS4, HT4⟩
        | false =>
          have HL := Lib.hid (HE.out.lessC HS3.out (d := d1) (i := i) (j := a) (x := (i : Int)) (y := (a : Int)) (by omega) (by omega) (by omega) (by omega) hl)
          have HN := Lib.hid (scanUp_end (fun x => lt x d1[a]!) d1 (b - 1) i (.inr (by simp [hl])))
          clear hl HS3
          go_wp2_with (go_at_fn 35; (with_reducible refine HL.out.mono ?_); rintro e w3 ⟨rfl, hSn, hTn⟩; have HS4 := Lib.hid hSn; have HT4 := Lib.hid (HT3.out.trans hTn); clear hSn hTn c0 HL)
          go_meet
          exact ⟨i, rfl, hi0, hi1, Lib.hid (by rw [← HO.out, HN.out]), HS4, HT4⟩
      · have hz : ¬ (i : Int) ≤ ((b : Int) - 1) := by omega
        have hzd : decide ((i : Int) ≤ ((b : Int) - 1)) = false := decide_eq_false hz
        have HN := Lib.hid (scanUp_end (fun x => lt x d1[a]!) d1 (b - 1) i (.inl hij))
        clear c0
        go_wp2_with fail
        go_meet
        exact ⟨i, rfl, hi0, hi1, Lib.hid (by rw [← HO.out, HN.out]), HS3, HT3⟩
  case rest =>
    clear HS1 HT1
    obtain ⟨i2, rfl, hi0, hi1, HI2, HS1, HT1⟩ := hcut
    go_upto_block 2 with fail
    go_cut [11] from 33 to 45 (fun sj wx => ∃ j : Nat, sj = .int .i64 j ∧ j ≤ (b - 1) ∧ i2 ≤ j + 1 ∧ Hid (j = scanDown (fun x => !lt x d1[a]!) d1 i2 ((b - 1))) ∧ Hid (St blk off n d1 wx) ∧ Hid (Tr blk w1 wx))
    case first =>
      go_wp2_with fail
      go_loopg [11] ((b - 1)) (fun gk sj wr => ∃ j : Nat, sj = .int .i64 j ∧ j ≤ (b - 1) ∧ i2 ≤ j + 1 ∧ j ≤ gk ∧ Hid (scanDown (fun x => !lt x d1[a]!) d1 i2 j = scanDown (fun x => !lt x d1[a]!) d1 i2 ((b - 1))) ∧ Hid (St blk off n d1 wr) ∧ Hid (Tr blk w1 wr))
      case atStart => exact ⟨(b - 1), by go_num, Nat.le_refl _, by omega, Nat.le_refl _, Lib.hid rfl, HS1, HT1⟩
      case round =>
        obtain ⟨j, rfl, hj0, hj1, hgk, HO, HS3, HT3⟩ := hrel
        have c0 := (HB0.out.turn HT3.out).less
        by_cases hij : i2 ≤ j
        · have hz : (i2 : Int) ≤ (j : Int) := by omega
          have hzd : decide ((i2 : Int) ≤ (j : Int)) = true := decide_eq_true hz
          cases hl : lt d1[j]! d1[a]! with
          | false =>
            have HL := Lib.hid (HE.out.lessC HS3.out (d := d1) (i := j) (j := a) (x := (j : Int)) (y := (a : Int)) (by omega) (by omega) (by omega) (by omega) hl)
            have HN := Lib.hid (scanDown_go (fun x => !lt x d1[a]!) d1 i2 j hij (by omega) (by simp [hl]))
            clear hl HS3
            go_wp2_with (go_at_fn 35; (with_reducible refine HL.out.mono ?_); rintro e w3 ⟨rfl, hSn, hTn⟩; have HS4 := Lib.hid hSn; have HT4 := Lib.hid (HT3.out.trans hTn); clear hSn hTn c0 HL)
            go_roundg (j - 1)
            case measure => omega
            case rel => exact ⟨j - 1, by go_num, by omega, by omega, Nat.le_refl _, Lib.hid (by rw [← HO.out, HN.out]), HS4, HT4⟩
          | true =>
            have HL := Lib.hid (HE.out.lessC HS3.out (d := d1) (i := j) (j := a) (x := (j : Int)) (y := (a : Int)) (by omega) (by omega) (by omega) (by omega) hl)
            have HN := Lib.hid (scanDown_end (fun x => !lt x d1[a]!) d1 i2 j (.inr (by simp [hl])))
            clear hl HS3
            go_wp2_with (go_at_fn 35; (with_reducible refine HL.out.mono ?_); rintro e w3 ⟨rfl, hSn, hTn⟩; have HS4 := Lib.hid hSn; have HT4 := Lib.hid (HT3.out.trans hTn); clear hSn hTn c0 HL)
            go_meet
            exact ⟨j, rfl, hj0, hj1, Lib.hid (by rw [← HO.out, HN.out]), HS4, HT4⟩
        · have hz : ¬ (i2 : Int) ≤ (j : Int) := by omega
          have hzd : decide ((i2 : Int) ≤ (j : Int)) = false := decide_eq_false hz
          have HN := Lib.hid (scanDown_end (fun x => !lt x d1[a]!) d1 i2 j (.inl hij))
          clear c0
          go_wp2_with fail
          go_meet
          exact ⟨j, rfl, hj0, hj1, Lib.hid (by rw [← HO.out, HN.out]), HS3, HT3⟩
    case rest =>
      clear HS1 HT1
      obtain ⟨j2, rfl, hj0, hj1, HJ2, HS1, HT1⟩ := hcut
      have c1 := (HB0.out.turn HT1.out).swap
      by_cases hgt : j2 < i2
      · have hgz : (j2 : Int) < (i2 : Int) := by omega
        have HF := Lib.hid (part_first_break lt d a b pivot rfl rfl HD1.out HI2.out HJ2.out hgt)
        obtain ⟨w4, hsw, hSs, hTs⟩ := HE.out.swapC HS1.out (d := d1) (i := j2) (j := a) (x := (j2 : Int)) (y := (a : Int)) (by omega) (by omega) rfl rfl
        have HS4 := Lib.hid hSs
        have HT4 := Lib.hid (HT1.out.trans hTs)
        clear hSs hTs HS1
        go_wp2_with fail
        go_ret2
        rw [HF.out]
        exact ⟨rfl, HS4.out, HTa.out.trans HT4.out⟩
      · have hgz : ¬ (j2 : Int) < (i2 : Int) := by omega
        have hij := part_scans_lt lt a _ _ d1 (by omega) HI2.out HJ2.out (by omega)
        have HF := Lib.hid (part_first_go lt d a b pivot rfl rfl HD1.out HI2.out HJ2.out hgt)
        obtain ⟨w4, hsw, hSs, hTs⟩ := HE.out.swapC HS1.out (d := d1) (i := i2) (j := j2) (x := (i2 : Int)) (y := (j2 : Int)) (by omega) (by omega) rfl rfl
        have HS4 := Lib.hid hSs
        have HT4 := Lib.hid (HT1.out.trans hTs)
        clear hSs hTs HS1 HI2 HJ2
        go_wp2_with fail
        clear hsw c1
        go_loopg [10, 11] (j2 - 1 + 1 - (i2 + 1)) (fun gk si sj wr => ∃ (i j : Nat) (dk : Array I32), si = .int .i64 i ∧ sj = .int .i64 j ∧ a < i ∧ i ≤ j + 1 ∧ j < b ∧ j + 1 - i ≤ gk ∧ Hid (St blk off n dk wr) ∧ Hid (Tr blk w1 wr) ∧ Hid (partLoop lt a i j dk = partLoop lt a (i2 + 1) (j2 - 1) (swp d1 i2 j2)))
        case atStart => exact ⟨i2 + 1, j2 - 1, _, by go_num, by go_num, by omega, by omega, by omega, by omega, HS4, HT4, Lib.hid rfl⟩
        case round =>
          obtain ⟨ii, jj, dk, rfl, rfl, hai, hij1, hjb, hgk0, HSr, HTr, HP⟩ := hrel
          clear HS4 HT4
          go_upto_block 6 with fail
          go_cut [10] from 64 to 75 (fun si wx => ∃ i : Nat, si = .int .i64 i ∧ ii ≤ i ∧ i ≤ jj + 1 ∧ Hid (i = scanUp (fun x => lt x dk[a]!) dk jj (ii)) ∧ Hid (St blk off n dk wx) ∧ Hid (Tr blk w1 wx))
          case first =>
            go_wp2_with fail
            go_loopg [10] (jj + 1 - (ii)) (fun gk si wr => ∃ i : Nat, si = .int .i64 i ∧ ii ≤ i ∧ i ≤ jj + 1 ∧ jj + 1 - i ≤ gk ∧ Hid (scanUp (fun x => lt x dk[a]!) dk jj i = scanUp (fun x => lt x dk[a]!) dk jj (ii)) ∧ Hid (St blk off n dk wr) ∧ Hid (Tr blk w1 wr))
            case atStart => exact ⟨ii, by go_num, Nat.le_refl _, by omega, Nat.le_refl _, Lib.hid rfl, HSr, HTr⟩
            case round =>
              obtain ⟨i, rfl, hi0, hi1, hgk, HO, HS3, HT3⟩ := hrel
              have c0 := (HB0.out.turn HT3.out).less
              by_cases hij : i ≤ jj
              · have hz : (i : Int) ≤ (jj : Int) := by omega
                have hzd : decide ((i : Int) ≤ (jj : Int)) = true := decide_eq_true hz
                cases hl : lt dk[i]! dk[a]! with
                | true =>
                  have HL := Lib.hid (HE.out.lessC HS3.out (d := dk) (i := i) (j := a) (x := (i : Int)) (y := (a : Int)) (by omega) (by omega) (by omega) (by omega) hl)
                  have HN := Lib.hid (scanUp_go (fun x => lt x dk[a]!) dk jj i hij (by simp [hl]))
                  clear hl HS3
                  go_wp2_with (go_at_fn 35; (with_reducible refine HL.out.mono ?_); rintro e w3 ⟨rfl, hSn, hTn⟩; have HS4 := Lib.hid hSn; have HT4 := Lib.hid (HT3.out.trans hTn); clear hSn hTn c0 HL)
                  go_roundg (jj + 1 - (i + 1))
                  case measure => omega
                  case rel => exact ⟨i + 1, by go_num, by omega, by omega, Nat.le_refl _, Lib.hid (by rw [← HO.out, HN.out]), HS4, HT4⟩
                | false =>
                  have HL := Lib.hid (HE.out.lessC HS3.out (d := dk) (i := i) (j := a) (x := (i : Int)) (y := (a : Int)) (by omega) (by omega) (by omega) (by omega) hl)
                  have HN := Lib.hid (scanUp_end (fun x => lt x dk[a]!) dk jj i (.inr (by simp [hl])))
                  clear hl HS3
                  go_wp2_with (go_at_fn 35; (with_reducible refine HL.out.mono ?_); rintro e w3 ⟨rfl, hSn, hTn⟩; have HS4 := Lib.hid hSn; have HT4 := Lib.hid (HT3.out.trans hTn); clear hSn hTn c0 HL)
                  go_meet
                  exact ⟨i, rfl, hi0, hi1, Lib.hid (by rw [← HO.out, HN.out]), HS4, HT4⟩
              · have hz : ¬ (i : Int) ≤ (jj : Int) := by omega
                have hzd : decide ((i : Int) ≤ (jj : Int)) = false := decide_eq_false hz
                have HN := Lib.hid (scanUp_end (fun x => lt x dk[a]!) dk jj i (.inl hij))
                clear c0
                go_wp2_with fail
                go_meet
                exact ⟨i, rfl, hi0, hi1, Lib.hid (by rw [← HO.out, HN.out]), HS3, HT3⟩
          case rest =>
            clear HSr HTr
            obtain ⟨i3, rfl, hi30, hi31, HI3, HSr, HTr⟩ := hcut
            go_upto_block 8 with fail
            go_cut [11] from 76 to 88 (fun sj wx => ∃ j : Nat, sj = .int .i64 j ∧ j ≤ jj ∧ i3 ≤ j + 1 ∧ Hid (j = scanDown (fun x => !lt x dk[a]!) dk i3 (jj)) ∧ Hid (St blk off n dk wx) ∧ Hid (Tr blk w1 wx))
            case first =>
              go_wp2_with fail
              go_loopg [11] (jj) (fun gk sj wr => ∃ j : Nat, sj = .int .i64 j ∧ j ≤ jj ∧ i3 ≤ j + 1 ∧ j ≤ gk ∧ Hid (scanDown (fun x => !lt x dk[a]!) dk i3 j = scanDown (fun x => !lt x dk[a]!) dk i3 (jj)) ∧ Hid (St blk off n dk wr) ∧ Hid (Tr blk w1 wr))
              case atStart => exact ⟨jj, by go_num, Nat.le_refl _, by omega, Nat.le_refl _, Lib.hid rfl, HSr, HTr⟩
              case round =>
                obtain ⟨j, rfl, hj0, hj1, hgk, HO, HS3, HT3⟩ := hrel
                have c0 := (HB0.out.turn HT3.out).less
                by_cases hij : i3 ≤ j
                · have hz : (i3 : Int) ≤ (j : Int) := by omega
                  have hzd : decide ((i3 : Int) ≤ (j : Int)) = true := decide_eq_true hz
                  cases hl : lt dk[j]! dk[a]! with
                  | false =>
                    have HL := Lib.hid (HE.out.lessC HS3.out (d := dk) (i := j) (j := a) (x := (j : Int)) (y := (a : Int)) (by omega) (by omega) (by omega) (by omega) hl)
                    have HN := Lib.hid (scanDown_go (fun x => !lt x dk[a]!) dk i3 j hij (by omega) (by simp [hl]))
                    clear hl HS3
                    go_wp2_with (go_at_fn 35; (with_reducible refine HL.out.mono ?_); rintro e w3 ⟨rfl, hSn, hTn⟩; have HS4 := Lib.hid hSn; have HT4 := Lib.hid (HT3.out.trans hTn); clear hSn hTn c0 HL)
                    go_roundg (j - 1)
                    case measure => omega
                    case rel => exact ⟨j - 1, by go_num, by omega, by omega, Nat.le_refl _, Lib.hid (by rw [← HO.out, HN.out]), HS4, HT4⟩
                  | true =>
                    have HL := Lib.hid (HE.out.lessC HS3.out (d := dk) (i := j) (j := a) (x := (j : Int)) (y := (a : Int)) (by omega) (by omega) (by omega) (by omega) hl)
                    have HN := Lib.hid (scanDown_end (fun x => !lt x dk[a]!) dk i3 j (.inr (by simp [hl])))
                    clear hl HS3
                    go_wp2_with (go_at_fn 35; (with_reducible refine HL.out.mono ?_); rintro e w3 ⟨rfl, hSn, hTn⟩; have HS4 := Lib.hid hSn; have HT4 := Lib.hid (HT3.out.trans hTn); clear hSn hTn c0 HL)
                    go_meet
                    exact ⟨j, rfl, hj0, hj1, Lib.hid (by rw [← HO.out, HN.out]), HS4, HT4⟩
                · have hz : ¬ (i3 : Int) ≤ (j : Int) := by omega
                  have hzd : decide ((i3 : Int) ≤ (j : Int)) = false := decide_eq_false hz
                  have HN := Lib.hid (scanDown_end (fun x => !lt x dk[a]!) dk i3 j (.inl hij))
                  clear c0
                  go_wp2_with fail
                  go_meet
                  exact ⟨j, rfl, hj0, hj1, Lib.hid (by rw [← HO.out, HN.out]), HS3, HT3⟩
            case rest =>
              clear HSr HTr
              obtain ⟨j3, rfl, hj30, hj31, HJ3, HSr, HTr⟩ := hcut
              have c1 := (HB0.out.turn HTr.out).swap
              by_cases hgt3 : j3 < i3
              · have hgz3 : (j3 : Int) < (i3 : Int) := by omega
                have HK := Lib.hid (part_break lt a ii jj dk HI3.out HJ3.out hgt3)
                obtain ⟨w4, hsw, hSs, hTs⟩ := HE.out.swapC HSr.out (d := dk) (i := j3) (j := a) (x := (j3 : Int)) (y := (a : Int)) (by omega) (by omega) rfl rfl
                have HS4 := Lib.hid hSs
                have HT4 := Lib.hid (HTr.out.trans hTs)
                clear hSs hTs HSr
                go_wp2_with fail
                go_ret2
                rw [HF.out, ← HP.out, HK.out]
                exact ⟨rfl, HS4.out, HTa.out.trans HT4.out⟩
              · have hgz3 : ¬ (j3 : Int) < (i3 : Int) := by omega
                have hij3 := part_scans_lt lt a _ _ dk (by omega) HI3.out HJ3.out (by omega)
                have HK := Lib.hid (part_go lt a ii jj dk HI3.out HJ3.out hgt3)
                obtain ⟨w4, hsw, hSs, hTs⟩ := HE.out.swapC HSr.out (d := dk) (i := i3) (j := j3) (x := (i3 : Int)) (y := (j3 : Int)) (by omega) (by omega) rfl rfl
                have HS4 := Lib.hid hSs
                have HT4 := Lib.hid (HTr.out.trans hTs)
                clear hSs hTs HSr
                go_wp2_with fail
                go_roundg (j3 - 1 + 1 - (i3 + 1))
                case measure => omega
                case rel => exact ⟨i3 + 1, j3 - 1, _, by go_num, by go_num, by omega, by omega, by omega, Nat.le_refl _, HS4, HT4, Lib.hid (by rw [← HP.out, HK.out])⟩
end Go.Proofs.Ytfcoecojjciphaa.srt
