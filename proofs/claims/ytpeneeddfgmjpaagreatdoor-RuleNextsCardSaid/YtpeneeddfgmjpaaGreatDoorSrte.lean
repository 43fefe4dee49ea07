/-
  The library's breaking of patterns in a row of ids: some permutation.
  The library's reversal of a part of a row of ids.
  The library's partition by equals over a row of ids.
-/
import Derived.Test.YtpeneeddfgmjpaaGreatDoorSrt
import Derived.Deep.LoopGhost
import Derived.Shelf.SlSortFunc.Xorshift
import Derived.Sort.WalkC4
import Derived.Deep.CutRange
import Derived.Deep.CutBlock
namespace Go.Proofs.YtpeneeddfgmjpaaGreatDoor.srt
open Go.Proofs Go.RowKit Go.Proofs.YtpeneeddfgmjpaaGreatDoor.mem Go.Proofs.YtpeneeddfgmjpaaGreatDoor.sha Go.Proofs.YtpeneeddfgmjpaaGreatDoor.ids Go.Sort
theorem next_any (S X : Nat) (w : World) (hX : X < 18446744073709551616) (h : Blk w S 174 #[.int .u64 X]) :
  Calls Tryz.prog 135 #[.pointer (some ⟨S, 0, none⟩)] w fun e w' => ∃ r : Nat, e = .returned (.int .u64 r) ∧ Hid (r < 18446744073709551616) ∧ Hid (Blk w' S 174 #[.int .u64 r]) ∧ Hid (Turn (· = S) w w') := by
 refine (Any.xorshift_Next (P := Tryz.prog) (ρ := ren) { lays with } S 0 X hX w (h.cell 0) (h.frozen 0)).mono ?_
 rintro e w' ⟨rfl, rfl⟩
 refine ⟨_, rfl, Lib.hid (xorNextN_lt X hX), Lib.hid ?_, Lib.hid ((Turn.setCell (F := (· = S)) (p := ⟨S, 0, none⟩) (Turn.refl _ w) rfl _).drewN 3)⟩
 exact h.set_ 0 _
theorem pow_any (l : Nat) (hl : l < 4611686018427387904) (w : World) : Calls Tryz.prog 134 #[.int .i64 l] w fun e w' => e = .returned (.int .u64 ((1 <<< bitsLen l : Nat) : Int)) ∧ w' = w :=
 Any.nextPowerOfTwo (P := Tryz.prog) (ρ := ren) { lays with } l hl w

theorem Bx.turn_at {V H : Value} {blk S B : Nat} {w w' : World} (h : Bx V H blk B w) (ht : Turn (· = S) w w') (hne : B ≠ S) : Bx V H blk B w' :=
 ⟨(World.cell?_of_block (ht.block B hne)).trans h.less, (World.cell?_of_block (ht.block B hne)).trans h.swap, h.ne, Nat.lt_of_lt_of_le h.lt ht.size⟩
theorem St.turn_at {blk off n S : Nat} {d : Array I32} {w w' : World} (hs : St blk off n d w) (ht : Turn (· = S) w w') (hne : S ≠ blk) : St blk off n d w' :=
 ⟨hs.size, fun j hj => ⟨(World.cell?_of_block (ht.block blk (fun e => hne e.symm))).trans (hs.holds j hj).1, (World.frozen?_of_block (ht.block blk (fun e => hne e.symm))).trans (hs.holds j hj).2⟩, Nat.lt_of_lt_of_le hs.lt ht.size⟩
/-- one more block that is new since w0 turns -/
theorem Tr.also {blk S : Nat} {w0 w w' : World} (h : Tr blk w0 w) (hS : w0.heap.size ≤ S) (ht : Turn (· = S) w w') : Tr blk w0 w' :=
 ⟨Turn.trans h.turn (Turn.mono ht fun k hk => .inr (by omega)), fun t m cur hc => by
  obtain ⟨c1, h1, e1⟩ := h.keeps t m cur hc
  have hlt : blk < w0.heap.size := (Array.getElem?_eq_some_iff.1 hc).1
  exact ⟨c1, (ht.block blk (by omega)).trans h1, e1⟩⟩

theorem and_nat (r M : Nat) (hr : r < 18446744073709551616) (hM : 0 < M) (hM2 : M ≤ 4000000000) : ∃ O : Nat, bits .and .u64 (r : Int) ((M : Int) - 1) = (O : Int) ∧ O < M := by
 refine ⟨r &&& (M - 1), ?_, Nat.lt_of_le_of_lt Nat.and_le_right (by omega)⟩
 rw [show ((M : Int) - 1) = ((M - 1 : Nat) : Int) by omega, bits_and_u64_nat _ _ hr (by omega)]

set_option maxHeartbeats 2000000 in
set_option maxRecDepth 100000 in
theorem brk_any {V H : Value} {blk off n : Nat} (E : Env V H blk off n) (d : Array I32) (w : World) (a b : Nat) (hs : St blk off n d w) (hab : 12 < b - a) (hb : b ≤ n) (hn : n ≤ 1000000000) :
  Calls Tryz.prog 125 #[dat V H, .int .i64 a, .int .i64 b] w fun e w' => e = .returned (.tuple #[]) ∧ ∃ d', PermIn a b d d' ∧ St blk off n d' w' ∧ Tr blk w w' := by
 have hdn := hs.size
 obtain ⟨l, hl⟩ : ∃ l, l = b - a := ⟨_, rfl⟩
 have hz0 : ((b : Int) - (a : Int)) = (l : Int) := by omega
 obtain ⟨w1, hw1⟩ : ∃ u, u = (w.alloc (datObj V H)).alloc (.cells #[.int .u64 (l : Int)] 174) := ⟨_, rfl⟩
 have hb1 : RowKit.Below w.heap.size w w1 := by rw [hw1]; exact ((RowKit.Below.refl _ w).alloc (Nat.le_refl _) _).alloc (by simp) _
 have HS1 := Lib.hid (hs.below hb1)
 have HB1 := Lib.hid (show Bx V H blk w.heap.size w1 by rw [hw1]; exact (Bx.new (V := V) (H := H) hs).turn (Tr.below ((RowKit.Below.refl _ _).alloc (Nat.le_refl _) _)))
 have HC1 := Lib.hid (show Blk w1 (w.heap.size + 1) 174 #[.int .u64 (l : Int)] by rw [hw1]; exact Blk.at_ (by simp) _ _)
 have HNE := Lib.hid (show w.heap.size + 1 ≠ blk from fun e => by have := hs.lt; omega)
 have HT01 := Lib.hid (show Tr blk w w1 from Tr.below hb1)
 have hL := show a + l = b by omega
 have hl12 : 12 < l := by omega
 have hM2 : 1 <<< bitsLen l ≤ 2 * l := by rw [Nat.one_shiftLeft]; exact two_pow_bitsLen_le (by omega)
 have hM1 : 0 < 1 <<< bitsLen l := by rw [Nat.one_shiftLeft]; exact Nat.pow_pos (by decide)
 have HPW := pow_any l (by omega)
 obtain ⟨M, hM⟩ : ∃ M, M = 1 <<< bitsLen l := ⟨_, rfl⟩
 rw [← hM] at hM2 hM1
 rw [← hM] at HPW
 have HP := Lib.hid HPW
 obtain ⟨q, hq⟩ : ∃ q, q = l / 4 := ⟨_, rfl⟩
 have hq4 : Int.tdiv (l : Int) 4 = (q : Int) := by rw [Int.tdiv_eq_ediv_of_nonneg (by omega), hq]; norm_cast
 have hq4e : (l : Int) / 4 = (q : Int) := by rw [hq]; norm_cast
 have hq1 : 4 * q ≤ l := by omega
 have hq3 : 3 ≤ q := by omega
 have HL := Lib.hid hL
 have HW1 := Lib.hid hw1
 unfold datObj at HW1
 unfold dat
 have hl8 : (8 : Int) ≤ (l : Int) := by omega
 have hln : l ≤ n := by omega
 have hwl : IntKind.u64.wrap (l : Int) = (l : Int) := by rw [IntKind.wrap_u64]; omega
 have HE := Lib.hid E
 clear E hl hq hw1 hb1 hs hab HPW hM hL
 go_enter Tryz.func125, Tryz.ntmps125
 go_upto_region 4 with fail
 refine wp_at HW1.out.symm ?_
 clear HW1
 generalize hBq : w.heap.size = B at HB1 HC1 HNE ⊢
 have HSz := Lib.hid (show w.heap.size ≤ B + 1 by omega)
 clear hBq
 go_wp2_with (go_at_call 134; (with_reducible refine (HP.out _).mono ?_); rintro e w2 ⟨rfl, rfl⟩)
 go_loopg [9] 3 (fun gk s9 wr => ∃ (idx : Nat) (z : Int) (dk : Array I32) (R : Nat), s9 = .int .i64 z ∧ z = (idx : Int) ∧ a + q * 2 ≤ idx + 1 ∧ idx ≤ a + q * 2 + 2 ∧ a + q * 2 + 2 - idx ≤ gk ∧ dk.size = n ∧ Hid (R < 18446744073709551616) ∧ Hid (Blk wr (B + 1) 174 #[.int .u64 (R : Int)]) ∧ Hid (Bx V H blk B wr) ∧ Hid (PermIn a b d dk) ∧ Hid (St blk off n dk wr) ∧ Hid (Tr blk w wr))
 case atStart => exact ⟨a + q * 2 - 1, _, d, l, rfl, by omega, by omega, by omega, by omega, hdn, Lib.hid (by omega), HC1, HB1, Lib.hid (permIn_refl _ _ _), HS1, HT01⟩
 case round =>
  obtain ⟨idx, z, dk, R, rfl, hz, hi1, hi2, hgk, hdk, HR, HC, HB, HPm, HS, HT⟩ := hrel
  subst hz
  have b0 := HB.out.less
  have b1 := HB.out.swap
  by_cases hlt : idx ≤ a + q * 2 + 1
  ·
   have hzz : (idx : Int) ≤ (a : Int) + (q : Int) * 2 + 1 := by omega
   have HNx := Lib.hid (next_any (B + 1) R wr HR.out HC.out)
   have hL := HL.out
   go_upto_region 9 with (go_at_call 135; (with_reducible refine HNx.out.mono ?_); rintro e w3 ⟨r, rfl, HR3, HC3, HT3⟩; obtain ⟨O, hO, hOM⟩ := and_nat r M HR3.out hM1 (by omega); have HB3 := Lib.hid (HB.out.turn_at HT3.out (by omega)); have b30 := HB3.out.less; have b31 := HB3.out.swap; have HS3 := Lib.hid (HS.out.turn_at HT3.out HNE.out); have HT4 := Lib.hid (HT.out.also HSz.out HT3.out); clear HNx HC HB HS)
   by_cases hcO : l ≤ O
   ·
    have hlO : (l : Int) ≤ (O : Int) := by omega
    obtain ⟨w4, hsw, hSs, hTs⟩ := HE.out.swapC HS3.out (d := dk) (i := idx) (j := a + (O - l)) (x := (idx : Int)) (y := (a : Int) + ((O : Int) - (l : Int))) (by omega) (by omega) rfl (by omega)
    have HS4 := Lib.hid hSs
    have HB4 := Lib.hid (HB3.out.turn hTs)
    have HC4 := Lib.hid (hTs.keep HC3.out HNE.out)
    have HT5 := Lib.hid (HT4.out.trans hTs)
    have hsz4 := hSs.size
    have HP4 := Lib.hid (permIn_trans _ _ _ a b HPm.out (swp_permIn dk a b idx (a + (O - l)) (by omega) (by omega) (by omega) (by omega) (by omega)))
    clear hSs hTs hL hO
    go_wp2_with fail
    go_roundg (a + q * 2 + 2 - (idx + 1))
    case measure => omega
    case rel => exact ⟨idx + 1, _, _, r, rfl, by omega, by omega, by omega, Nat.le_refl _, hsz4, HR3, HC4, HB4, HP4, HS4, HT5⟩
   ·
    have hlO : ¬ (l : Int) ≤ (O : Int) := by omega
    obtain ⟨w4, hsw, hSs, hTs⟩ := HE.out.swapC HS3.out (d := dk) (i := idx) (j := a + O) (x := (idx : Int)) (y := (a : Int) + (O : Int)) (by omega) (by omega) rfl (by omega)
    have HS4 := Lib.hid hSs
    have HB4 := Lib.hid (HB3.out.turn hTs)
    have HC4 := Lib.hid (hTs.keep HC3.out HNE.out)
    have HT5 := Lib.hid (HT4.out.trans hTs)
    have hsz4 := hSs.size
    have HP4 := Lib.hid (permIn_trans _ _ _ a b HPm.out (swp_permIn dk a b idx (a + O) (by omega) (by omega) (by omega) (by omega) (by omega)))
    clear hSs hTs hL hO
    go_wp2_with fail
    go_roundg (a + q * 2 + 2 - (idx + 1))
    case measure => omega
    case rel => exact ⟨idx + 1, _, _, r, rfl, by omega, by omega, by omega, Nat.le_refl _, hsz4, HR3, HC4, HB4, HP4, HS4, HT5⟩
  ·
   have hzz : ¬ (idx : Int) ≤ (a : Int) + (q : Int) * 2 + 1 := by omega
   clear b0 b1
   go_wp2_with fail
   go_end0
   exact ⟨rfl, dk, HPm.out, HS.out, HT.out⟩
end Go.Proofs.YtpeneeddfgmjpaaGreatDoor.srt

namespace Go.Proofs.YtpeneeddfgmjpaaGreatDoor.srt
open Go.RowKit Go.Proofs.YtpeneeddfgmjpaaGreatDoor.mem Go.Proofs.YtpeneeddfgmjpaaGreatDoor.sha Go.Proofs.YtpeneeddfgmjpaaGreatDoor.ids Go.Sort
set_option maxHeartbeats 2000000 in
set_option maxRecDepth 100000 in
theorem rev_any {V H : Value} {blk off n : Nat} (E : Env V H blk off n) (d : Array I32) (w : World) (a b : Nat) (hs : St blk off n d w) (hab : a < b) (hb : b ≤ n) (hn : n ≤ 1000000000) :
  Calls Tryz.prog 127 #[dat V H, .int .i64 a, .int .i64 b] w fun e w' => e = .returned (.tuple #[]) ∧ ∃ d', PermIn a b d d' ∧ St blk off n d' w' ∧ Tr blk w w' := by
 have hdn := hs.size
 have HE := Lib.hid E
 have en := enters_less
 have HT0 := Lib.hid (Tr.boxed V H blk w)
 have HS0 := Lib.hid (hs.boxed (V := V) (H := H))
 have HB0 := Lib.hid (Bx.new (V := V) (H := H) hs)
 unfold datObj at HT0 HS0 HB0
 unfold dat
 clear E hs
 go_enter Tryz.func127, Tryz.ntmps127
 go_wp2_with fail
 generalize w.alloc _ = w1 at HT0 HS0 HB0 ⊢
 generalize w.heap.size = B at HB0 ⊢
 go_loopg [6, 7] (b - a) (fun gk si sj wr => ∃ (i j : Nat) (dk : Array I32), si = .int .i64 i ∧ sj = .int .i64 j ∧ a ≤ i ∧ j < b ∧ j - i ≤ gk ∧ dk.size = n ∧ Hid (PermIn a b d dk) ∧ Hid (St blk off n dk wr) ∧ Hid (Tr blk w1 wr))
 case atStart => exact ⟨a, b - 1, d, rfl, by go_num, Nat.le_refl _, by omega, by omega, hdn, Lib.hid (permIn_refl _ _ _), HS0, Lib.hid (Tr.refl _ _)⟩
 case round =>
  obtain ⟨i, j, dk, rfl, rfl, hai, hjb, hgk, hdk, HP, HS, HT⟩ := hrel
  clear HS0
  have c1 := (HB0.out.turn HT.out).swap
  by_cases hij : i < j
  ·
   have hz : (i : Int) < (j : Int) := by omega
   obtain ⟨w4, hsw, hSs, hTs⟩ := HE.out.swapC HS.out (d := dk) (i := i) (j := j) (x := (i : Int)) (y := (j : Int)) (by omega) (by omega) rfl rfl
   have HS4 := Lib.hid hSs
   have HT4 := Lib.hid (HT.out.trans hTs)
   have HP4 := Lib.hid (permIn_trans _ _ _ a b HP.out (swp_permIn dk a b i j hai (by omega) (by omega) hjb (by omega)))
   have hsz := hSs.size
   clear hSs hTs HS
   go_wp2_with fail
   go_roundg (j - 1 - (i + 1))
   case measure => omega
   case rel => exact ⟨i + 1, j - 1, _, by go_num, by go_num, by omega, by omega, Nat.le_refl _, hsz, HP4, HS4, HT4⟩
  ·
   have hz : ¬ (i : Int) < (j : Int) := by omega
   clear c1
   go_wp2_with fail
   go_end0
   exact ⟨rfl, dk, HP.out, HS.out, HT0.out.trans HT.out⟩
end Go.Proofs.YtpeneeddfgmjpaaGreatDoor.srt

namespace Go.Proofs.YtpeneeddfgmjpaaGreatDoor.srt
open Go.Proofs Go.RowKit Go.Proofs.YtpeneeddfgmjpaaGreatDoor.mem Go.Proofs.YtpeneeddfgmjpaaGreatDoor.sha Go.Proofs.YtpeneeddfgmjpaaGreatDoor.ids Go.Sort
set_option maxHeartbeats 4000000 in
set_option maxRecDepth 100000 in
theorem parteq_any {V H : Value} {blk off n : Nat} (E : Env V H blk off n) (d : Array I32) (w : World) (a b pivot : Nat) (hs : St blk off n d w) (hap : a ≤ pivot) (hpb : pivot < b) (hb : b ≤ n) (hn : n ≤ 1000000000) :
  Calls Tryz.prog 129 #[dat V H, .int .i64 a, .int .i64 b, .int .i64 pivot] w fun e w' => e = .returned (.int .i64 (partitionEqual lt d a b pivot).1) ∧ St blk off n (partitionEqual lt d a b pivot).2 w' ∧ Tr blk w w' := by
 have HE := Lib.hid E
 have en := enters_less
 have HT0 := Lib.hid (Tr.boxed V H blk w)
 have hS0 := hs.boxed (V := V) (H := H)
 have HB0' := Bx.new (V := V) (H := H) hs
 obtain ⟨w1, hsw, hSs, hTs⟩ := HE.out.swapC hS0 (d := d) (i := a) (j := pivot) (x := (a : Int)) (y := (pivot : Int)) (by omega) (by omega) rfl rfl
 have HS1 := Lib.hid hSs
 have HTa := Lib.hid (HT0.out.trans hTs)
 have HB0 := Lib.hid (HB0'.turn hTs)
 unfold datObj at hsw HB0
 unfold dat
 clear E hs hS0 hSs hTs HT0 HB0'
 go_enter Tryz.func129, Tryz.ntmps129
 go_wp2_with fail
 clear hsw
 generalize w.heap.size = B at HB0 ⊢
 have HF := Lib.hid (show partEqLoop lt a (a + 1) (b - 1) (swp d a pivot) = partitionEqual lt d a b pivot from rfl)
 go_loopg [9, 10] (b - 1 + 1 - (a + 1)) (fun gk si sj wr => ∃ (i j : Nat) (dk : Array I32), si = .int .i64 i ∧ sj = .int .i64 j ∧ a < i ∧ i ≤ j + 1 ∧ j < b ∧ j + 1 - i ≤ gk ∧ Hid (St blk off n dk wr) ∧ Hid (Tr blk w1 wr) ∧ Hid (partEqLoop lt a i j dk = partEqLoop lt a (a + 1) (b - 1) (swp d a pivot)))
 case atStart => exact ⟨a + 1, b - 1, _, by go_num, by go_num, by omega, by omega, by omega, by omega, HS1, Lib.hid (Tr.refl _ _), Lib.hid rfl⟩
 case round =>
  obtain ⟨ii, jj, dk, rfl, rfl, hai, hij1, hjb, hgk0, HSr, HTr, HP⟩ := hrel
  clear HS1
  go_upto_block 2 with fail
  go_cut [9] from 20 to 32 (fun si wx => ∃ i : Nat, si = .int .i64 i ∧ ii ≤ i ∧ i ≤ jj + 1 ∧ Hid (i = scanUp (fun x => !lt dk[a]! x) dk jj (ii)) ∧ Hid (St blk off n dk wx) ∧ Hid (Tr blk w1 wx))
  case first =>
   go_wp2_with fail
   go_loopg [9] (jj + 1 - (ii)) (fun gk si wr => ∃ i : Nat, si = .int .i64 i ∧ ii ≤ i ∧ i ≤ jj + 1 ∧ jj + 1 - i ≤ gk ∧ Hid (scanUp (fun x => !lt dk[a]! x) dk jj i = scanUp (fun x => !lt dk[a]! x) dk jj (ii)) ∧ Hid (St blk off n dk wr) ∧ Hid (Tr blk w1 wr))
   case atStart => exact ⟨ii, by go_num, Nat.le_refl _, by omega, Nat.le_refl _, Lib.hid rfl, HSr, HTr⟩
   case round =>
    obtain ⟨i, rfl, hi0, hi1, hgk, HO, HS3, HT3⟩ := hrel
    have c0 := (HB0.out.turn HT3.out).less
    by_cases hij : i ≤ jj
    ·
     have hz : (i : Int) ≤ (jj : Int) := by omega
     have hzd : decide ((i : Int) ≤ (jj : Int)) = true := decide_eq_true hz
     cases hl : lt dk[a]! dk[i]! with
     | false =>
      have HL := Lib.hid (HE.out.lessC HS3.out (d := dk) (i := a) (j := i) (x := (a : Int)) (y := (i : Int)) (by omega) (by omega) (by omega) (by omega) hl)
      have HN := Lib.hid (scanUp_go (fun x => !lt dk[a]! x) dk jj i hij (by simp [hl]))
      clear hl HS3
      go_wp2_with (go_at_fn 70; (with_reducible refine HL.out.mono ?_); rintro e w3 ⟨rfl, hSn, hTn⟩; have HS4 := Lib.hid hSn; have HT4 := Lib.hid (HT3.out.trans hTn); clear hSn hTn c0 HL)
      go_roundg (jj + 1 - (i + 1))
      case measure => omega
      case rel => exact ⟨i + 1, by go_num, by omega, by omega, Nat.le_refl _, Lib.hid (by rw [← HO.out, HN.out]), HS4, HT4⟩
     | true =>
      have HL := Lib.hid (HE.out.lessC HS3.out (d := dk) (i := a) (j := i) (x := (a : Int)) (y := (i : Int)) (by omega) (by omega) (by omega) (by omega) hl)
      have HN := Lib.hid (scanUp_end (fun x => !lt dk[a]! x) dk jj i (.inr (by simp [hl])))
      clear hl HS3
      go_wp2_with (go_at_fn 70; (with_reducible refine HL.out.mono ?_); rintro e w3 ⟨rfl, hSn, hTn⟩; have HS4 := Lib.hid hSn; have HT4 := Lib.hid (HT3.out.trans hTn); clear hSn hTn c0 HL)
      go_meet
      exact ⟨i, rfl, hi0, hi1, Lib.hid (by rw [← HO.out, HN.out]), HS4, HT4⟩
    ·
     have hz : ¬ (i : Int) ≤ (jj : Int) := by omega
     have hzd : decide ((i : Int) ≤ (jj : Int)) = false := decide_eq_false hz
     have HN := Lib.hid (scanUp_end (fun x => !lt dk[a]! x) dk jj i (.inl hij))
     clear c0
     go_wp2_with fail
     go_meet
     exact ⟨i, rfl, hi0, hi1, Lib.hid (by rw [← HO.out, HN.out]), HS3, HT3⟩
  case rest =>
   clear HSr HTr
   obtain ⟨i3, rfl, hi30, hi31, HI3, HSr, HTr⟩ := hcut
   go_upto_block 4 with fail
   go_cut [10] from 33 to 44 (fun sj wx => ∃ j : Nat, sj = .int .i64 j ∧ j ≤ jj ∧ i3 ≤ j + 1 ∧ Hid (j = scanDown (fun x => lt dk[a]! x) dk i3 (jj)) ∧ Hid (St blk off n dk wx) ∧ Hid (Tr blk w1 wx))
   case first =>
    go_wp2_with fail
    go_loopg [10] (jj) (fun gk sj wr => ∃ j : Nat, sj = .int .i64 j ∧ j ≤ jj ∧ i3 ≤ j + 1 ∧ j ≤ gk ∧ Hid (scanDown (fun x => lt dk[a]! x) dk i3 j = scanDown (fun x => lt dk[a]! x) dk i3 (jj)) ∧ Hid (St blk off n dk wr) ∧ Hid (Tr blk w1 wr))
    case atStart => exact ⟨jj, by go_num, Nat.le_refl _, by omega, Nat.le_refl _, Lib.hid rfl, HSr, HTr⟩
    case round =>
     obtain ⟨j, rfl, hj0, hj1, hgk, HO, HS3, HT3⟩ := hrel
     have c0 := (HB0.out.turn HT3.out).less
     by_cases hij : i3 ≤ j
     ·
      have hz : (i3 : Int) ≤ (j : Int) := by omega
      have hzd : decide ((i3 : Int) ≤ (j : Int)) = true := decide_eq_true hz
      cases hl : lt dk[a]! dk[j]! with
      | true =>
       have HL := Lib.hid (HE.out.lessC HS3.out (d := dk) (i := a) (j := j) (x := (a : Int)) (y := (j : Int)) (by omega) (by omega) (by omega) (by omega) hl)
       have HN := Lib.hid (scanDown_go (fun x => lt dk[a]! x) dk i3 j hij (by omega) (by simp [hl]))
       clear hl HS3
       go_wp2_with (go_at_fn 70; (with_reducible refine HL.out.mono ?_); rintro e w3 ⟨rfl, hSn, hTn⟩; have HS4 := Lib.hid hSn; have HT4 := Lib.hid (HT3.out.trans hTn); clear hSn hTn c0 HL)
       go_roundg (j - 1)
       case measure => omega
       case rel => exact ⟨j - 1, by go_num, by omega, by omega, Nat.le_refl _, Lib.hid (by rw [← HO.out, HN.out]), HS4, HT4⟩
      | false =>
       have HL := Lib.hid (HE.out.lessC HS3.out (d := dk) (i := a) (j := j) (x := (a : Int)) (y := (j : Int)) (by omega) (by omega) (by omega) (by omega) hl)
       have HN := Lib.hid (scanDown_end (fun x => lt dk[a]! x) dk i3 j (.inr (by simp [hl])))
       clear hl HS3
       go_wp2_with (go_at_fn 70; (with_reducible refine HL.out.mono ?_); rintro e w3 ⟨rfl, hSn, hTn⟩; have HS4 := Lib.hid hSn; have HT4 := Lib.hid (HT3.out.trans hTn); clear hSn hTn c0 HL)
       go_meet
       exact ⟨j, rfl, hj0, hj1, Lib.hid (by rw [← HO.out, HN.out]), HS4, HT4⟩
     ·
      have hz : ¬ (i3 : Int) ≤ (j : Int) := by omega
      have hzd : decide ((i3 : Int) ≤ (j : Int)) = false := decide_eq_false hz
      have HN := Lib.hid (scanDown_end (fun x => lt dk[a]! x) dk i3 j (.inl hij))
      clear c0
      go_wp2_with fail
      go_meet
      exact ⟨j, rfl, hj0, hj1, Lib.hid (by rw [← HO.out, HN.out]), HS3, HT3⟩
   case rest =>
    clear HSr HTr
    obtain ⟨j3, rfl, hj30, hj31, HJ3, HSr, HTr⟩ := hcut
    have c1 := (HB0.out.turn HTr.out).swap
    by_cases hgt3 : j3 < i3
    ·
     have hgz3 : (j3 : Int) < (i3 : Int) := by omega
     have HK := Lib.hid (partEq_break lt a ii jj dk HI3.out HJ3.out hgt3)
     clear c1
     go_wp2_with fail
     go_ret
     rw [← HF.out, ← HP.out, HK.out]
     exact ⟨rfl, HSr.out, HTa.out.trans HTr.out⟩
    ·
     have hgz3 : ¬ (j3 : Int) < (i3 : Int) := by omega
     have hij3 := scans_lt lt a _ _ dk (by omega) HI3.out HJ3.out (by omega)
     have HK := Lib.hid (partEq_go lt a ii jj dk HI3.out HJ3.out hgt3)
     obtain ⟨w4, hsw, hSs, hTs⟩ := HE.out.swapC HSr.out (d := dk) (i := i3) (j := j3) (x := (i3 : Int)) (y := (j3 : Int)) (by omega) (by omega) rfl rfl
     have HS4 := Lib.hid hSs
     have HT4 := Lib.hid (HTr.out.trans hTs)
     clear hSs hTs HSr
     go_wp2_with fail
     go_roundg (j3 - 1 + 1 - (i3 + 1))
     case measure => omega
     case rel => exact ⟨i3 + 1, j3 - 1, _, by go_num, by go_num, by omega, by omega, by omega, Nat.le_refl _, HS4, HT4, Lib.hid (by rw [← HP.out, HK.out])⟩
end Go.Proofs.YtpeneeddfgmjpaaGreatDoor.srt
