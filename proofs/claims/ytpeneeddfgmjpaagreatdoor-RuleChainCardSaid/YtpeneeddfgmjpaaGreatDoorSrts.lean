/-
  The library's breaking of patterns in a row of ids: some permutation.
  The library's reversal of a part of a row of ids.
  The library's partition by equals over a row of ids.
  The library's two partitions over a row of ids.
  The library's insertion sort over a row of ids.
  The library's partial insertion sort over a row of ids.
-/
import Derived.Test.YtpeneeddfgmjpaaGreatDoorSrtc
import Derived.Deep.LoopGhost
import Derived.Shelf.SlSortFunc.Xorshift
import Derived.Sort.WalkC4
import Derived.Deep.CutRange
import Derived.Deep.CutBlock
import Derived.Sort.WalkA6
namespace Go.Proofs.YtpeneeddfgmjpaaGreatDoor.srt
open Go.Proofs Go.RowKit Go.Proofs.YtpeneeddfgmjpaaGreatDoor.mem Go.Proofs.YtpeneeddfgmjpaaGreatDoor.sha Go.Proofs.YtpeneeddfgmjpaaGreatDoor.ids Go.Sort
theorem next_any (S X : Nat) (w : World) (hX : X < 18446744073709551616) (h : Blk w S 174 #[.int .u64 X]) :
  Calls Tryz.prog 135 #[.pointer (some ⟨S, 0, none⟩)] w fun e w' => ∃ r : Nat, e = .returned (.int .u64 r) ∧ Hid (r < 18446744073709551616) ∧ Hid (Blk w' S 174 #[.int .u64 r]) ∧ Hid (Turn (· = S) w w') := by
 refine (Any.xorshift_Next (P := Tryz.prog) (ρ := ren) { lays with } S 0 X hX w (h.cell 0) (h.frozen 0)).mono ?_
 rintro e w' ⟨rfl, rfl⟩
 refine ⟨_, rfl, Lib.hid (xorNextN_lt X hX), Lib.hid ?_, Lib.hid ((Turn.setCell (F := (· = S)) (p := ⟨S, 0, none⟩) (Turn.refl _ w) rfl _).drewN 3)⟩
 exact h.set_ 0 _
theorem pow_any (l : Nat) (hl : l < 4611686018427387904) (w : World) : Calls Tryz.prog 134 #[.int .i64 l] w fun e w' => e = .returned (.int .u64 ((1 <<< bitsLen l : Nat) : Int)) ∧ w' = w :=
 Any.nextPowerOfTwo (P := Tryz.prog) (ρ := ren) { lays with } l hl w

theorem Bx.turn_at {V H : Value} {blk S B : Nat} {w w' : World} (h : Bx V H blk B w) (ht : Turn (· = S) w w') (hne : B ≠ S) : Bx V H blk B w' :=
 ⟨(World.cell?_of_block (ht.block B hne)).trans h.less, (World.cell?_of_block (ht.block B hne)).trans h.swap, h.ne, Nat.lt_of_lt_of_le h.lt ht.size⟩
theorem St.turn_at {blk off n S : Nat} {d : Array I32} {w w' : World} (hs : St blk off n d w) (ht : Turn (· = S) w w') (hne : S ≠ blk) : St blk off n d w' :=
 ⟨hs.size, fun j hj => ⟨(World.cell?_of_block (ht.block blk (fun e => hne e.symm))).trans (hs.holds j hj).1, (World.frozen?_of_block (ht.block blk (fun e => hne e.symm))).trans (hs.holds j hj).2⟩, Nat.lt_of_lt_of_le hs.lt ht.size⟩
/-- one more block that is new since w0 turns -/
theorem Tr.also {blk S : Nat} {w0 w w' : World} (h : Tr blk w0 w) (hS : w0.heap.size ≤ S) (ht : Turn (· = S) w w') : Tr blk w0 w' :=
 ⟨Turn.trans h.turn (Turn.mono ht fun k hk => .inr (by omega)), fun t m cur hc => by
  obtain ⟨c1, h1, e1⟩ := h.keeps t m cur hc
  have hlt : blk < w0.heap.size := (Array.getElem?_eq_some_iff.1 hc).1
  exact ⟨c1, (ht.block blk (by omega)).trans h1, e1⟩⟩

theorem and_nat (r M : Nat) (hr : r < 18446744073709551616) (hM : 0 < M) (hM2 : M ≤ 4000000000) : ∃ O : Nat, bits .and .u64 (r : Int) ((M : Int) - 1) = (O : Int) ∧ O < M := by
 refine ⟨r &&& (M - 1), ?_, Nat.lt_of_le_of_lt Nat.and_le_right (by omega)⟩
 rw [show ((M : Int) - 1) = ((M - 1 : Nat) : Int) by omega, bits_and_u64_nat _ _ hr (by omega)]

set_option maxHeartbeats 2000000 in
set_option maxRecDepth 100000 in
theorem brk_any {V H : Value} {blk off n : Nat} (E : Env V H blk off n) (d : Array I32) (w : World) (a b : Nat) (hs : St blk off n d w) (hab : 12 < b - a) (hb : b ≤ n) (hn : n ≤ 1000000000) :
  Calls Tryz.prog 125 #[dat V H, .int .i64 a, .int .i64 b] w fun e w' => e = .returned (.tuple #[]) ∧ ∃ d', PermIn a b d d' ∧ St blk off n d' w' ∧ Tr blk w w' := by
 have hdn := hs.size
 obtain ⟨l, hl⟩ : ∃ l, l = b - a := ⟨_, rfl⟩
 have hz0 : ((b : Int) - (a : Int)) = (l : Int) := by omega
 obtain ⟨w1, hw1⟩ : ∃ u, u = (w.alloc (datObj V H)).alloc (.cells #[.int .u64 (l : Int)] 174) := ⟨_, rfl⟩
 have hb1 : RowKit.Below w.heap.size w w1 := by rw [hw1]; exact ((RowKit.Below.refl _ w).alloc (Nat.le_refl _) _).alloc (by simp) _
 have HS1 := Lib.hid (hs.below hb1)
 have HB1 := Lib.hid (show Bx V H blk w.heap.size w1 by rw [hw1]; exact (Bx.new (V := V) (H := H) hs).turn (Tr.below ((RowKit.Below.refl _ _).alloc (Nat.le_refl _) _)))
 have HC1 := Lib.hid (show Blk w1 (w.heap.size + 1) 174 #[.int .u64 (l : Int)] by rw [hw1]; exact Blk.at_ (by simp) _ _)
 have HNE := Lib.hid (show w.heap.size + 1 ≠ blk from fun e => by have := hs.lt; omega)
 have HT01 := Lib.hid (show Tr blk w w1 from Tr.below hb1)
 have hL := show a + l = b by omega
 have hl12 : 12 < l := by omega
 have hM2 : 1 <<< bitsLen l ≤ 2 * l := by rw [Nat.one_shiftLeft]; exact two_pow_bitsLen_le (by omega)
 have hM1 : 0 < 1 <<< bitsLen l := by rw [Nat.one_shiftLeft]; exact Nat.pow_pos (by decide)
 have HPW := pow_any l (by omega)
 obtain ⟨M, hM⟩ : ∃ M, M = 1 <<< bitsLen l := ⟨_, rfl⟩
 rw [← hM] at hM2 hM1
 rw [← hM] at HPW
 have HP := Lib.hid HPW
 obtain ⟨q, hq⟩ : ∃ q, q = l / 4 := ⟨_, rfl⟩
 have hq4 : Int.tdiv (l : Int) 4 = (q : Int) := by rw [Int.tdiv_eq_ediv_of_nonneg (by omega), hq]; norm_cast
 have hq4e : (l : Int) / 4 = (q : Int) := by rw [hq]; norm_cast
 have hq1 : 4 * q ≤ l := by omega
 have hq3 : 3 ≤ q := by omega
 have HL := Lib.hid hL
 have HW1 := Lib.hid hw1
 unfold datObj at HW1
 unfold dat
 have hl8 : (8 : Int) ≤ (l : Int) := by omega
 have hln : l ≤ n := by omega
 have hwl : IntKind.u64.wrap (l : Int) = (l : Int) := by rw [IntKind.wrap_u64]; omega
 have HE := Lib.hid E
 clear E hl hq hw1 hb1 hs hab HPW hM hL
 go_enter Tryz.func125, Tryz.ntmps125
 go_upto_region 4 with fail
 refine wp_at HW1.out.symm ?_
 clear HW1
 generalize hBq : w.heap.size = B at HB1 HC1 HNE ⊢
 have HSz := Lib.hid (show w.heap.size ≤ B + 1 by omega)
 clear hBq
 go_wp2_with (go_at_call 134; (with_reducible refine (HP.out _).mono ?_); rintro e w2 ⟨rfl, rfl⟩)
 go_loopg [9] 3 (fun gk s9 wr => ∃ (idx : Nat) (z : Int) (dk : Array I32) (R : Nat), s9 = .int .i64 z ∧ z = (idx : Int) ∧ a + q * 2 ≤ idx + 1 ∧ idx ≤ a + q * 2 + 2 ∧ a + q * 2 + 2 - idx ≤ gk ∧ dk.size = n ∧ Hid (R < 18446744073709551616) ∧ Hid (Blk wr (B + 1) 174 #[.int .u64 (R : Int)]) ∧ Hid (Bx V H blk B wr) ∧ Hid (PermIn a b d dk) ∧ Hid (St blk off n dk wr) ∧ Hid (Tr blk w wr))
 case atStart => exact ⟨a + q * 2 - 1, _, d, l, rfl, by omega, by omega, by omega, by omega, hdn, Lib.hid (by omega), HC1, HB1, Lib.hid (permIn_refl _ _ _), HS1, HT01⟩
 case round =>
  obtain ⟨idx, z, dk, R, rfl, hz, hi1, hi2, hgk, hdk, HR, HC, HB, HPm, HS, HT⟩ := hrel
  subst hz
  have b0 := HB.out.less
  have b1 := HB.out.swap
  by_cases hlt : idx ≤ a + q * 2 + 1
  ·
   have hzz : (idx : Int) ≤ (a : Int) + (q : Int) * 2 + 1 := by omega
   have HNx := Lib.hid (next_any (B + 1) R wr HR.out HC.out)
   have hL := HL.out
   go_upto_region 9 with (go_at_call 135; (with_reducible refine HNx.out.mono ?_); rintro e w3 ⟨r, rfl, HR3, HC3, HT3⟩; obtain ⟨O, hO, hOM⟩ := and_nat r M HR3.out hM1 (by omega); have HB3 := Lib.hid (HB.out.turn_at HT3.out (by omega)); have b30 := HB3.out.less; have b31 := HB3.out.swap; have HS3 := Lib.hid (HS.out.turn_at HT3.out HNE.out); have HT4 := Lib.hid (HT.out.also HSz.out HT3.out); clear HNx HC HB HS)
   by_cases hcO : l ≤ O
   ·
    have hlO : (l : Int) ≤ (O : Int) := by omega
    obtain ⟨w4, hsw, hSs, hTs⟩ := HE.out.swapC HS3.out (d := dk) (i := idx) (j := a + (O - l)) (x := (idx : Int)) (y := (a : Int) + ((O : Int) - (l : Int))) (by omega) (by omega) rfl (by omega)
    have HS4 := Lib.hid hSs
    have HB4 := Lib.hid (HB3.out.turn hTs)
    have HC4 := Lib.hid (hTs.keep HC3.out HNE.out)
    have HT5 := Lib.hid (HT4.out.trans hTs)
    have hsz4 := hSs.size
    have HP4 := Lib.hid (permIn_trans _ _ _ a b HPm.out (swp_permIn dk a b idx (a + (O - l)) (by omega) (by omega) (by omega) (by omega) (by omega)))
    clear hSs hTs hL hO
    go_wp2_with fail
    go_roundg (a + q * 2 + 2 - (idx + 1))
    case measure => omega
    case rel => exact ⟨idx + 1, _, _, r, rfl, by omega, by omega, by omega, Nat.le_refl _, hsz4, HR3, HC4, HB4, HP4, HS4, HT5⟩
   ·
    have hlO : ¬ (l : Int) ≤ (O : Int) := by omega
    obtain ⟨w4, hsw, hSs, hTs⟩ := HE.out.swapC HS3.out (d := dk) (i := idx) (j := a + O) (x := (idx : Int)) (y := (a : Int) + (O : Int)) (by omega) (by omega) rfl (by omega)
    have HS4 := Lib.hid hSs
    have HB4 := Lib.hid (HB3.out.turn hTs)
    have HC4 := Lib.hid (hTs.keep HC3.out HNE.out)
    have HT5 := Lib.hid (HT4.out.trans hTs)
    have hsz4 := hSs.size
    have HP4 := Lib.hid (permIn_trans _ _ _ a b HPm.out (swp_permIn dk a b idx (a + O) (by omega) (by omega) (by omega) (by omega) (by omega)))
    clear hSs hTs hL hO
    go_wp2_with fail
    go_roundg (a + q * 2 + 2 - (idx + 1))
    case measure => omega
    case rel => exact ⟨idx + 1, _, _, r, rfl, by omega, by omega, by omega, Nat.le_refl _, hsz4, HR3, HC4, HB4, HP4, HS4, HT5⟩
  ·
   have hzz : ¬ (idx : Int) ≤ (a : Int) + (q : Int) * 2 + 1 := by omega
   clear b0 b1
   go_wp2_with fail
   go_end0
   exact ⟨rfl, dk, HPm.out, HS.out, HT.out⟩
end Go.Proofs.YtpeneeddfgmjpaaGreatDoor.srt

namespace Go.Proofs.YtpeneeddfgmjpaaGreatDoor.srt
open Go.RowKit Go.Proofs.YtpeneeddfgmjpaaGreatDoor.mem Go.Proofs.YtpeneeddfgmjpaaGreatDoor.sha Go.Proofs.YtpeneeddfgmjpaaGreatDoor.ids Go.Sort
set_option maxHeartbeats 2000000 in
set_option maxRecDepth 100000 in
theorem rev_any {V H : Value} {blk off n : Nat} (E : Env V H blk off n) (d : Array I32) (w : World) (a b : Nat) (hs : St blk off n d w) (hab : a < b) (hb : b ≤ n) (hn : n ≤ 1000000000) :
  Calls Tryz.prog 127 #[dat V H, .int .i64 a, .int .i64 b] w fun e w' => e = .returned (.tuple #[]) ∧ ∃ d', PermIn a b d d' ∧ St blk off n d' w' ∧ Tr blk w w' := by
 have hdn := hs.size
 have HE := Lib.hid E
 have en := enters_less
 have HT0 := Lib.hid (Tr.boxed V H blk w)
 have HS0 := Lib.hid (hs.boxed (V := V) (H := H))
 have HB0 := Lib.hid (Bx.new (V := V) (H := H) hs)
 unfold datObj at HT0 HS0 HB0
 unfold dat
 clear E hs
 go_enter Tryz.func127, Tryz.ntmps127
 go_wp2_with fail
 generalize w.alloc _ = w1 at HT0 HS0 HB0 ⊢
 generalize w.heap.size = B at HB0 ⊢
 go_loopg [6, 7] (b - a) (fun gk si sj wr => ∃ (i j : Nat) (dk : Array I32), si = .int .i64 i ∧ sj = .int .i64 j ∧ a ≤ i ∧ j < b ∧ j - i ≤ gk ∧ dk.size = n ∧ Hid (PermIn a b d dk) ∧ Hid (St blk off n dk wr) ∧ Hid (Tr blk w1 wr))
 case atStart => exact ⟨a, b - 1, d, rfl, by go_num, Nat.le_refl _, by omega, by omega, hdn, Lib.hid (permIn_refl _ _ _), HS0, Lib.hid (Tr.refl _ _)⟩
 case round =>
  obtain ⟨i, j, dk, rfl, rfl, hai, hjb, hgk, hdk, HP, HS, HT⟩ := hrel
  clear HS0
  have c1 := (HB0.out.turn HT.out).swap
  by_cases hij : i < j
  ·
   have hz : (i : Int) < (j : Int) := by omega
   obtain ⟨w4, hsw, hSs, hTs⟩ := HE.out.swapC HS.out (d := dk) (i := i) (j := j) (x := (i : Int)) (y := (j : Int)) (by omega) (by omega) rfl rfl
   have HS4 := Lib.hid hSs
   have HT4 := Lib.hid (HT.out.trans hTs)
   have HP4 := Lib.hid (permIn_trans _ _ _ a b HP.out (swp_permIn dk a b i j hai (by omega) (by omega) hjb (by omega)))
   have hsz := hSs.size
   clear hSs hTs HS
   go_wp2_with fail
   go_roundg (j - 1 - (i + 1))
   case measure => omega
   case rel => exact ⟨i + 1, j - 1, _, by go_num, by go_num, by omega, by omega, Nat.le_refl _, hsz, HP4, HS4, HT4⟩
  ·
   have hz : ¬ (i : Int) < (j : Int) := by omega
   clear c1
   go_wp2_with fail
   go_end0
   exact ⟨rfl, dk, HP.out, HS.out, HT0.out.trans HT.out⟩
end Go.Proofs.YtpeneeddfgmjpaaGreatDoor.srt

namespace Go.Proofs.YtpeneeddfgmjpaaGreatDoor.srt
open Go.Proofs Go.RowKit Go.Proofs.YtpeneeddfgmjpaaGreatDoor.mem Go.Proofs.YtpeneeddfgmjpaaGreatDoor.sha Go.Proofs.YtpeneeddfgmjpaaGreatDoor.ids Go.Sort
set_option maxHeartbeats 4000000 in
set_option maxRecDepth 100000 in
theorem parteq_any {V H : Value} {blk off n : Nat} (E : Env V H blk off n) (d : Array I32) (w : World) (a b pivot : Nat) (hs : St blk off n d w) (hap : a ≤ pivot) (hpb : pivot < b) (hb : b ≤ n) (hn : n ≤ 1000000000) :
  Calls Tryz.prog 129 #[dat V H, .int .i64 a, .int .i64 b, .int .i64 pivot] w fun e w' => e = .returned (.int .i64 (partitionEqual lt d a b pivot).1) ∧ St blk off n (partitionEqual lt d a b pivot).2 w' ∧ Tr blk w w' := by
 have HE := Lib.hid E
 have en := enters_less
 have HT0 := Lib.hid (Tr.boxed V H blk w)
 have hS0 := hs.boxed (V := V) (H := H)
 have HB0' := Bx.new (V := V) (H := H) hs
 obtain ⟨w1, hsw, hSs, hTs⟩ := HE.out.swapC hS0 (d := d) (i := a) (j := pivot) (x := (a : Int)) (y := (pivot : Int)) (by omega) (by omega) rfl rfl
 have HS1 := Lib.hid hSs
 have HTa := Lib.hid (HT0.out.trans hTs)
 have HB0 := Lib.hid (HB0'.turn hTs)
 unfold datObj at hsw HB0
 unfold dat
 clear E hs hS0 hSs hTs HT0 HB0'
 go_enter Tryz.func129, Tryz.ntmps129
 go_wp2_with fail
 clear hsw
 generalize w.heap.size = B at HB0 ⊢
 have HF := Lib.hid (show partEqLoop lt a (a + 1) (b - 1) (swp d a pivot) = partitionEqual lt d a b pivot from rfl)
 go_loopg [9, 10] (b - 1 + 1 - (a + 1)) (fun gk si sj wr => ∃ (i j : Nat) (dk : Array I32), si = .int .i64 i ∧ sj = .int .i64 j ∧ a < i ∧ i ≤ j + 1 ∧ j < b ∧ j + 1 - i ≤ gk ∧ Hid (St blk off n dk wr) ∧ Hid (Tr blk w1 wr) ∧ Hid (partEqLoop lt a i j dk = partEqLoop lt a (a + 1) (b - 1) (swp d a pivot)))
 case atStart => exact ⟨a + 1, b - 1, _, by go_num, by go_num, by omega, by omega, by omega, by omega, HS1, Lib.hid (Tr.refl _ _), Lib.hid rfl⟩
 case round =>
  obtain ⟨ii, jj, dk, rfl, rfl, hai, hij1, hjb, hgk0, HSr, HTr, HP⟩ := hrel
  clear HS1
  go_upto_block 2 with fail
  go_cut [9] from 20 to 32 (fun si wx => ∃ i : Nat, si = .int .i64 i ∧ ii ≤ i ∧ i ≤ jj + 1 ∧ Hid (i = scanUp (fun x => !lt dk[a]! x) dk jj (ii)) ∧ Hid (St blk off n dk wx) ∧ Hid (Tr blk w1 wx))
  case first =>
   go_wp2_with fail
   go_loopg [9] (jj + 1 - (ii)) (fun gk si wr => ∃ i : Nat, si = .int .i64 i ∧ ii ≤ i ∧ i ≤ jj + 1 ∧ jj + 1 - i ≤ gk ∧ Hid (scanUp (fun x => !lt dk[a]! x) dk jj i = scanUp (fun x => !lt dk[a]! x) dk jj (ii)) ∧ Hid (St blk off n dk wr) ∧ Hid (Tr blk w1 wr))
   case atStart => exact ⟨ii, by go_num, Nat.le_refl _, by omega, Nat.le_refl _, Lib.hid rfl, HSr, HTr⟩
   case round =>
    obtain ⟨i, rfl, hi0, hi1, hgk, HO, HS3, HT3⟩ := hrel
    have c0 := (HB0.out.turn HT3.out).less
    by_cases hij : i ≤ jj
    ·
     have hz : (i : Int) ≤ (jj : Int) := by omega
     have hzd : decide ((i : Int) ≤ (jj : Int)) = true := decide_eq_true hz
     cases hl : lt dk[a]! dk[i]! with
     | false =>
      have HL := Lib.hid (HE.out.lessC HS3.out (d := dk) (i := a) (j := i) (x := (a : Int)) (y := (i : Int)) (by omega) (by omega) (by omega) (by omega) hl)
      have HN := Lib.hid (scanUp_go (fun x => !lt dk[a]! x) dk jj i hij (by simp [hl]))
      clear hl HS3
      go_wp2_with (go_at_fn 70; (with_reducible refine HL.out.mono ?_); rintro e w3 ⟨rfl, hSn, hTn⟩; have HS4 := Lib.hid hSn; have HT4 := Lib.hid (HT3.out.trans hTn); clear hSn hTn c0 HL)
      go_roundg (jj + 1 - (i + 1))
      case measure => omega
      case rel => exact ⟨i + 1, by go_num, by omega, by omega, Nat.le_refl _, Lib.hid (by rw [← HO.out, HN.out]), HS4, HT4⟩
     | true =>
      have HL := Lib.hid (HE.out.lessC HS3.out (d := dk) (i := a) (j := i) (x := (a : Int)) (y := (i : Int)) (by omega) (by omega) (by omega) (by omega) hl)
      have HN := Lib.hid (scanUp_end (fun x => !lt dk[a]! x) dk jj i (.inr (by simp [hl])))
      clear hl HS3
      go_wp2_with (go_at_fn 70; (with_reducible refine HL.out.mono ?_); rintro e w3 ⟨rfl, hSn, hTn⟩; have HS4 := Lib.hid hSn; have HT4 := Lib.hid (HT3.out.trans hTn); clear hSn hTn c0 HL)
      go_meet
      exact ⟨i, rfl, hi0, hi1, Lib.hid (by rw [← HO.out, HN.out]), HS4, HT4⟩
    ·
     have hz : ¬ (i : Int) ≤ (jj : Int) := by omega
     have hzd : decide ((i : Int) ≤ (jj : Int)) = false := decide_eq_false hz
     have HN := Lib.hid (scanUp_end (fun x => !lt dk[a]! x) dk jj i (.inl hij))
     clear c0
     go_wp2_with fail
     go_meet
     exact ⟨i, rfl, hi0, hi1, Lib.hid (by rw [← HO.out, HN.out]), HS3, HT3⟩
  case rest =>
   clear HSr HTr
   obtain ⟨i3, rfl, hi30, hi31, HI3, HSr, HTr⟩ := hcut
   go_upto_block 4 with fail
   go_cut [10] from 33 to 44 (fun sj wx => ∃ j : Nat, sj = .int .i64 j ∧ j ≤ jj ∧ i3 ≤ j + 1 ∧ Hid (j = scanDown (fun x => lt dk[a]! x) dk i3 (jj)) ∧ Hid (St blk off n dk wx) ∧ Hid (Tr blk w1 wx))
   case first =>
    go_wp2_with fail
    go_loopg [10] (jj) (fun gk sj wr => ∃ j : Nat, sj = .int .i64 j ∧ j ≤ jj ∧ i3 ≤ j + 1 ∧ j ≤ gk ∧ Hid (scanDown (fun x => lt dk[a]! x) dk i3 j = scanDown (fun x => lt dk[a]! x) dk i3 (jj)) ∧ Hid (St blk off n dk wr) ∧ Hid (Tr blk w1 wr))
    case atStart => exact ⟨jj, by go_num, Nat.le_refl _, by omega, Nat.le_refl _, Lib.hid rfl, HSr, HTr⟩
    case round =>
     obtain ⟨j, rfl, hj0, hj1, hgk, HO, HS3, HT3⟩ := hrel
     have c0 := (HB0.out.turn HT3.out).less
     by_cases hij : i3 ≤ j
     ·
      have hz : (i3 : Int) ≤ (j : Int) := by omega
      have hzd : decide ((i3 : Int) ≤ (j : Int)) = true := decide_eq_true hz
      cases hl : lt dk[a]! dk[j]! with
      | true =>
       have HL := Lib.hid (HE.out.lessC HS3.out (d := dk) (i := a) (j := j) (x := (a : Int)) (y := (j : Int)) (by omega) (by omega) (by omega) (by omega) hl)
       have HN := Lib.hid (scanDown_go (fun x => lt dk[a]! x) dk i3 j hij (by omega) (by simp [hl]))
       clear hl HS3
       go_wp2_with (go_at_fn 70; (with_reducible refine HL.out.mono ?_); rintro e w3 ⟨rfl, hSn, hTn⟩; have HS4 := Lib.hid hSn; have HT4 := Lib.hid (HT3.out.trans hTn); clear hSn hTn c0 HL)
       go_roundg (j - 1)
       case measure => omega
       case rel => exact ⟨j - 1, by go_num, by omega, by omega, Nat.le_refl _, Lib.hid (by rw [← HO.out, HN.out]), HS4, HT4⟩
      | false =>
       have HL := Lib.hid (HE.out.lessC HS3.out (d := dk) (i := a) (j := j) (x := (a : Int)) (y := (j : Int)) (by omega) (by omega) (by omega) (by omega) hl)
       have HN := Lib.hid (scanDown_end (fun x => lt dk[a]! x) dk i3 j (.inr (by simp [hl])))
       clear hl HS3
       go_wp2_with (go_at_fn 70; (with_reducible refine HL.out.mono ?_); rintro e w3 ⟨rfl, hSn, hTn⟩; have HS4 := Lib.hid hSn; have HT4 := Lib.hid (HT3.out.trans hTn); clear hSn hTn c0 HL)
       go_meet
       exact ⟨j, rfl, hj0, hj1, Lib.hid (by rw [← HO.out, HN.out]), HS4, HT4⟩
     ·
      have hz : ¬ (i3 : Int) ≤ (j : Int) := by omega
      have hzd : decide ((i3 : Int) ≤ (j : Int)) = false := decide_eq_false hz
      have HN := Lib.hid (scanDown_end (fun x => lt dk[a]! x) dk i3 j (.inl hij))
      clear c0
      go_wp2_with fail
      go_meet
      exact ⟨j, rfl, hj0, hj1, Lib.hid (by rw [← HO.out, HN.out]), HS3, HT3⟩
   case rest =>
    clear HSr HTr
    obtain ⟨j3, rfl, hj30, hj31, HJ3, HSr, HTr⟩ := hcut
    have c1 := (HB0.out.turn HTr.out).swap
    by_cases hgt3 : j3 < i3
    ·
     have hgz3 : (j3 : Int) < (i3 : Int) := by omega
     have HK := Lib.hid (partEq_break lt a ii jj dk HI3.out HJ3.out hgt3)
     clear c1
     go_wp2_with fail
     go_ret
     rw [← HF.out, ← HP.out, HK.out]
     exact ⟨rfl, HSr.out, HTa.out.trans HTr.out⟩
    ·
     have hgz3 : ¬ (j3 : Int) < (i3 : Int) := by omega
     have hij3 := scans_lt lt a _ _ dk (by omega) HI3.out HJ3.out (by omega)
     have HK := Lib.hid (partEq_go lt a ii jj dk HI3.out HJ3.out hgt3)
     obtain ⟨w4, hsw, hSs, hTs⟩ := HE.out.swapC HSr.out (d := dk) (i := i3) (j := j3) (x := (i3 : Int)) (y := (j3 : Int)) (by omega) (by omega) rfl rfl
     have HS4 := Lib.hid hSs
     have HT4 := Lib.hid (HTr.out.trans hTs)
     clear hSs hTs HSr
     go_wp2_with fail
     go_roundg (j3 - 1 + 1 - (i3 + 1))
     case measure => omega
     case rel => exact ⟨i3 + 1, j3 - 1, _, by go_num, by go_num, by omega, by omega, by omega, Nat.le_refl _, HS4, HT4, Lib.hid (by rw [← HP.out, HK.out])⟩
end Go.Proofs.YtpeneeddfgmjpaaGreatDoor.srt

namespace Go.Proofs.YtpeneeddfgmjpaaGreatDoor.srt
open Go.Proofs Go.RowKit Go.Proofs.YtpeneeddfgmjpaaGreatDoor.mem Go.Proofs.YtpeneeddfgmjpaaGreatDoor.sha Go.Proofs.YtpeneeddfgmjpaaGreatDoor.ids Go.Sort
set_option maxHeartbeats 4000000 in
set_option maxRecDepth 100000 in
theorem part_any {V H : Value} {blk off n : Nat} (E : Env V H blk off n) (d : Array I32) (w : World) (a b pivot : Nat) (hs : St blk off n d w) (hap : a ≤ pivot) (hpb : pivot < b) (hb : b ≤ n) (hn : n ≤ 1000000000) :
  Calls Tryz.prog 130 #[dat V H, .int .i64 a, .int .i64 b, .int .i64 pivot] w fun e w' => e = .returned (.tuple #[.int .i64 (partition lt d a b pivot).1, .bool (partition lt d a b pivot).2.1]) ∧ St blk off n (partition lt d a b pivot).2.2 w' ∧ Tr blk w w' := by
 have HE := Lib.hid E
 have en := enters_less
 have HT0 := Lib.hid (Tr.boxed V H blk w)
 have hS0 := hs.boxed (V := V) (H := H)
 have HB0' := Bx.new (V := V) (H := H) hs
 obtain ⟨w1, hsw, hSs, hTs⟩ := HE.out.swapC hS0 (d := d) (i := a) (j := pivot) (x := (a : Int)) (y := (pivot : Int)) (by omega) (by omega) rfl rfl
 have HS1 := Lib.hid hSs
 have HTa := Lib.hid (HT0.out.trans hTs)
 have HB0 := Lib.hid (HB0'.turn hTs)
 unfold datObj at hsw HB0
 unfold dat
 clear E hs hS0 hSs hTs HT0 HB0'
 go_enter Tryz.func130, Tryz.ntmps130
 go_upto_block 0 with fail
 clear hsw
 generalize w.heap.size = B at HB0 ⊢
 obtain ⟨d1, hd1⟩ : ∃ x, x = swp d a pivot := ⟨_, rfl⟩
 rw [← hd1] at HS1
 have HD1 := Lib.hid hd1
 clear hd1
 have HT1 := Lib.hid (Tr.refl blk w1)
 go_cut [10] from 21 to 32 (fun si wx => ∃ i : Nat, si = .int .i64 i ∧ a + 1 ≤ i ∧ i ≤ (b - 1) + 1 ∧ Hid (i = scanUp (fun x => lt x d1[a]!) d1 (b - 1) (a + 1)) ∧ Hid (St blk off n d1 wx) ∧ Hid (Tr blk w1 wx))
 case first =>
  go_wp2_with fail
  go_loopg [10] ((b - 1) + 1 - (a + 1)) (fun gk si wr => ∃ i : Nat, si = .int .i64 i ∧ a + 1 ≤ i ∧ i ≤ (b - 1) + 1 ∧ (b - 1) + 1 - i ≤ gk ∧ Hid (scanUp (fun x => lt x d1[a]!) d1 (b - 1) i = scanUp (fun x => lt x d1[a]!) d1 (b - 1) (a + 1)) ∧ Hid (St blk off n d1 wr) ∧ Hid (Tr blk w1 wr))
  case atStart => exact ⟨a + 1, by go_num, Nat.le_refl _, by omega, Nat.le_refl _, Lib.hid rfl, HS1, HT1⟩
  case round =>
   obtain ⟨i, rfl, hi0, hi1, hgk, HO, HS3, HT3⟩ := hrel
   have c0 := (HB0.out.turn HT3.out).less
   by_cases hij : i ≤ (b - 1)
   ·
    have hz : (i : Int) ≤ ((b : Int) - 1) := by omega
    have hzd : decide ((i : Int) ≤ ((b : Int) - 1)) = true := decide_eq_true hz
    cases hl : lt d1[i]! d1[a]! with
    | true =>
     have HL := Lib.hid (HE.out.lessC HS3.out (d := d1) (i := i) (j := a) (x := (i : Int)) (y := (a : Int)) (by omega) (by omega) (by omega) (by omega) hl)
     have HN := Lib.hid (scanUp_go (fun x => lt x d1[a]!) d1 (b - 1) i hij (by simp [hl]))
     clear hl HS3
     go_wp2_with (go_at_fn 70; (with_reducible refine HL.out.mono ?_); rintro e w3 ⟨rfl, hSn, hTn⟩; have HS4 := Lib.hid hSn; have HT4 := Lib.hid (HT3.out.trans hTn); clear hSn hTn c0 HL)
     go_roundg ((b - 1) + 1 - (i + 1))
     case measure => omega
     case rel => exact ⟨i + 1, by go_num, by omega, by omega, Nat.le_refl _, Lib.hid (by rw [← HO.out, HN.out]), HS4, HT4⟩
    | false =>
     have HL := Lib.hid (HE.out.lessC HS3.out (d := d1) (i := i) (j := a) (x := (i : Int)) (y := (a : Int)) (by omega) (by omega) (by omega) (by omega) hl)
     have HN := Lib.hid (scanUp_end (fun x => lt x d1[a]!) d1 (b - 1) i (.inr (by simp [hl])))
     clear hl HS3
     go_wp2_with (go_at_fn 70; (with_reducible refine HL.out.mono ?_); rintro e w3 ⟨rfl, hSn, hTn⟩; have HS4 := Lib.hid hSn; have HT4 := Lib.hid (HT3.out.trans hTn); clear hSn hTn c0 HL)
     go_meet
     exact ⟨i, rfl, hi0, hi1, Lib.hid (by rw [← HO.out, HN.out]), HS4, HT4⟩
   ·
    have hz : ¬ (i : Int) ≤ ((b : Int) - 1) := by omega
    have hzd : decide ((i : Int) ≤ ((b : Int) - 1)) = false := decide_eq_false hz
    have HN := Lib.hid (scanUp_end (fun x => lt x d1[a]!) d1 (b - 1) i (.inl hij))
    clear c0
    go_wp2_with fail
    go_meet
    exact ⟨i, rfl, hi0, hi1, Lib.hid (by rw [← HO.out, HN.out]), HS3, HT3⟩
 case rest =>
  clear HS1 HT1
  obtain ⟨i2, rfl, hi0, hi1, HI2, HS1, HT1⟩ := hcut
  go_upto_block 2 with fail
  go_cut [11] from 33 to 45 (fun sj wx => ∃ j : Nat, sj = .int .i64 j ∧ j ≤ (b - 1) ∧ i2 ≤ j + 1 ∧ Hid (j = scanDown (fun x => !lt x d1[a]!) d1 i2 ((b - 1))) ∧ Hid (St blk off n d1 wx) ∧ Hid (Tr blk w1 wx))
  case first =>
   go_wp2_with fail
   go_loopg [11] ((b - 1)) (fun gk sj wr => ∃ j : Nat, sj = .int .i64 j ∧ j ≤ (b - 1) ∧ i2 ≤ j + 1 ∧ j ≤ gk ∧ Hid (scanDown (fun x => !lt x d1[a]!) d1 i2 j = scanDown (fun x => !lt x d1[a]!) d1 i2 ((b - 1))) ∧ Hid (St blk off n d1 wr) ∧ Hid (Tr blk w1 wr))
   case atStart => exact ⟨(b - 1), by go_num, Nat.le_refl _, by omega, Nat.le_refl _, Lib.hid rfl, HS1, HT1⟩
   case round =>
    obtain ⟨j, rfl, hj0, hj1, hgk, HO, HS3, HT3⟩ := hrel
    have c0 := (HB0.out.turn HT3.out).less
    by_cases hij : i2 ≤ j
    ·
     have hz : (i2 : Int) ≤ (j : Int) := by omega
     have hzd : decide ((i2 : Int) ≤ (j : Int)) = true := decide_eq_true hz
     cases hl : lt d1[j]! d1[a]! with
     | false =>
      have HL := Lib.hid (HE.out.lessC HS3.out (d := d1) (i := j) (j := a) (x := (j : Int)) (y := (a : Int)) (by omega) (by omega) (by omega) (by omega) hl)
      have HN := Lib.hid (scanDown_go (fun x => !lt x d1[a]!) d1 i2 j hij (by omega) (by simp [hl]))
      clear hl HS3
      go_wp2_with (go_at_fn 70; (with_reducible refine HL.out.mono ?_); rintro e w3 ⟨rfl, hSn, hTn⟩; have HS4 := Lib.hid hSn; have HT4 := Lib.hid (HT3.out.trans hTn); clear hSn hTn c0 HL)
      go_roundg (j - 1)
      case measure => omega
      case rel => exact ⟨j - 1, by go_num, by omega, by omega, Nat.le_refl _, Lib.hid (by rw [← HO.out, HN.out]), HS4, HT4⟩
     | true =>
      have HL := Lib.hid (HE.out.lessC HS3.out (d := d1) (i := j) (j := a) (x := (j : Int)) (y := (a : Int)) (by omega) (by omega) (by omega) (by omega) hl)
      have HN := Lib.hid (scanDown_end (fun x => !lt x d1[a]!) d1 i2 j (.inr (by simp [hl])))
      clear hl HS3
      go_wp2_with (go_at_fn 70; (with_reducible refine HL.out.mono ?_); rintro e w3 ⟨rfl, hSn, hTn⟩; have HS4 := Lib.hid hSn; have HT4 := Lib.hid (HT3.out.trans hTn); clear hSn hTn c0 HL)
      go_meet
      exact ⟨j, rfl, hj0, hj1, Lib.hid (by rw [← HO.out, HN.out]), HS4, HT4⟩
    ·
     have hz : ¬ (i2 : Int) ≤ (j : Int) := by omega
     have hzd : decide ((i2 : Int) ≤ (j : Int)) = false := decide_eq_false hz
     have HN := Lib.hid (scanDown_end (fun x => !lt x d1[a]!) d1 i2 j (.inl hij))
     clear c0
     go_wp2_with fail
     go_meet
     exact ⟨j, rfl, hj0, hj1, Lib.hid (by rw [← HO.out, HN.out]), HS3, HT3⟩
  case rest =>
   clear HS1 HT1
   obtain ⟨j2, rfl, hj0, hj1, HJ2, HS1, HT1⟩ := hcut
   have c1 := (HB0.out.turn HT1.out).swap
   by_cases hgt : j2 < i2
   ·
    have hgz : (j2 : Int) < (i2 : Int) := by omega
    have HF := Lib.hid (part_first_break lt d a b pivot rfl rfl HD1.out HI2.out HJ2.out hgt)
    obtain ⟨w4, hsw, hSs, hTs⟩ := HE.out.swapC HS1.out (d := d1) (i := j2) (j := a) (x := (j2 : Int)) (y := (a : Int)) (by omega) (by omega) rfl rfl
    have HS4 := Lib.hid hSs
    have HT4 := Lib.hid (HT1.out.trans hTs)
    clear hSs hTs HS1
    go_wp2_with fail
    go_ret2
    rw [HF.out]
    exact ⟨rfl, HS4.out, HTa.out.trans HT4.out⟩
   ·
    have hgz : ¬ (j2 : Int) < (i2 : Int) := by omega
    have hij := part_scans_lt lt a _ _ d1 (by omega) HI2.out HJ2.out (by omega)
    have HF := Lib.hid (part_first_go lt d a b pivot rfl rfl HD1.out HI2.out HJ2.out hgt)
    obtain ⟨w4, hsw, hSs, hTs⟩ := HE.out.swapC HS1.out (d := d1) (i := i2) (j := j2) (x := (i2 : Int)) (y := (j2 : Int)) (by omega) (by omega) rfl rfl
    have HS4 := Lib.hid hSs
    have HT4 := Lib.hid (HT1.out.trans hTs)
    clear hSs hTs HS1 HI2 HJ2
    go_wp2_with fail
    clear hsw c1
    go_loopg [10, 11] (j2 - 1 + 1 - (i2 + 1)) (fun gk si sj wr => ∃ (i j : Nat) (dk : Array I32), si = .int .i64 i ∧ sj = .int .i64 j ∧ a < i ∧ i ≤ j + 1 ∧ j < b ∧ j + 1 - i ≤ gk ∧ Hid (St blk off n dk wr) ∧ Hid (Tr blk w1 wr) ∧ Hid (partLoop lt a i j dk = partLoop lt a (i2 + 1) (j2 - 1) (swp d1 i2 j2)))
    case atStart => exact ⟨i2 + 1, j2 - 1, _, by go_num, by go_num, by omega, by omega, by omega, by omega, HS4, HT4, Lib.hid rfl⟩
    case round =>
     obtain ⟨ii, jj, dk, rfl, rfl, hai, hij1, hjb, hgk0, HSr, HTr, HP⟩ := hrel
     clear HS4 HT4
     go_upto_block 6 with fail
     go_cut [10] from 64 to 75 (fun si wx => ∃ i : Nat, si = .int .i64 i ∧ ii ≤ i ∧ i ≤ jj + 1 ∧ Hid (i = scanUp (fun x => lt x dk[a]!) dk jj (ii)) ∧ Hid (St blk off n dk wx) ∧ Hid (Tr blk w1 wx))
     case first =>
      go_wp2_with fail
      go_loopg [10] (jj + 1 - (ii)) (fun gk si wr => ∃ i : Nat, si = .int .i64 i ∧ ii ≤ i ∧ i ≤ jj + 1 ∧ jj + 1 - i ≤ gk ∧ Hid (scanUp (fun x => lt x dk[a]!) dk jj i = scanUp (fun x => lt x dk[a]!) dk jj (ii)) ∧ Hid (St blk off n dk wr) ∧ Hid (Tr blk w1 wr))
      case atStart => exact ⟨ii, by go_num, Nat.le_refl _, by omega, Nat.le_refl _, Lib.hid rfl, HSr, HTr⟩
      case round =>
       obtain ⟨i, rfl, hi0, hi1, hgk, HO, HS3, HT3⟩ := hrel
       have c0 := (HB0.out.turn HT3.out).less
       by_cases hij : i ≤ jj
       ·
        have hz : (i : Int) ≤ (jj : Int) := by omega
        have hzd : decide ((i : Int) ≤ (jj : Int)) = true := decide_eq_true hz
        cases hl : lt dk[i]! dk[a]! with
        | true =>
         have HL := Lib.hid (HE.out.lessC HS3.out (d := dk) (i := i) (j := a) (x := (i : Int)) (y := (a : Int)) (by omega) (by omega) (by omega) (by omega) hl)
         have HN := Lib.hid (scanUp_go (fun x => lt x dk[a]!) dk jj i hij (by simp [hl]))
         clear hl HS3
         go_wp2_with (go_at_fn 70; (with_reducible refine HL.out.mono ?_); rintro e w3 ⟨rfl, hSn, hTn⟩; have HS4 := Lib.hid hSn; have HT4 := Lib.hid (HT3.out.trans hTn); clear hSn hTn c0 HL)
         go_roundg (jj + 1 - (i + 1))
         case measure => omega
         case rel => exact ⟨i + 1, by go_num, by omega, by omega, Nat.le_refl _, Lib.hid (by rw [← HO.out, HN.out]), HS4, HT4⟩
        | false =>
         have HL := Lib.hid (HE.out.lessC HS3.out (d := dk) (i := i) (j := a) (x := (i : Int)) (y := (a : Int)) (by omega) (by omega) (by omega) (by omega) hl)
         have HN := Lib.hid (scanUp_end (fun x => lt x dk[a]!) dk jj i (.inr (by simp [hl])))
         clear hl HS3
         go_wp2_with (go_at_fn 70; (with_reducible refine HL.out.mono ?_); rintro e w3 ⟨rfl, hSn, hTn⟩; have HS4 := Lib.hid hSn; have HT4 := Lib.hid (HT3.out.trans hTn); clear hSn hTn c0 HL)
         go_meet
         exact ⟨i, rfl, hi0, hi1, Lib.hid (by rw [← HO.out, HN.out]), HS4, HT4⟩
       ·
        have hz : ¬ (i : Int) ≤ (jj : Int) := by omega
        have hzd : decide ((i : Int) ≤ (jj : Int)) = false := decide_eq_false hz
        have HN := Lib.hid (scanUp_end (fun x => lt x dk[a]!) dk jj i (.inl hij))
        clear c0
        go_wp2_with fail
        go_meet
        exact ⟨i, rfl, hi0, hi1, Lib.hid (by rw [← HO.out, HN.out]), HS3, HT3⟩
     case rest =>
      clear HSr HTr
      obtain ⟨i3, rfl, hi30, hi31, HI3, HSr, HTr⟩ := hcut
      go_upto_block 8 with fail
      go_cut [11] from 76 to 88 (fun sj wx => ∃ j : Nat, sj = .int .i64 j ∧ j ≤ jj ∧ i3 ≤ j + 1 ∧ Hid (j = scanDown (fun x => !lt x dk[a]!) dk i3 (jj)) ∧ Hid (St blk off n dk wx) ∧ Hid (Tr blk w1 wx))
      case first =>
       go_wp2_with fail
       go_loopg [11] (jj) (fun gk sj wr => ∃ j : Nat, sj = .int .i64 j ∧ j ≤ jj ∧ i3 ≤ j + 1 ∧ j ≤ gk ∧ Hid (scanDown (fun x => !lt x dk[a]!) dk i3 j = scanDown (fun x => !lt x dk[a]!) dk i3 (jj)) ∧ Hid (St blk off n dk wr) ∧ Hid (Tr blk w1 wr))
       case atStart => exact ⟨jj, by go_num, Nat.le_refl _, by omega, Nat.le_refl _, Lib.hid rfl, HSr, HTr⟩
       case round =>
        obtain ⟨j, rfl, hj0, hj1, hgk, HO, HS3, HT3⟩ := hrel
        have c0 := (HB0.out.turn HT3.out).less
        by_cases hij : i3 ≤ j
        ·
         have hz : (i3 : Int) ≤ (j : Int) := by omega
         have hzd : decide ((i3 : Int) ≤ (j : Int)) = true := decide_eq_true hz
         cases hl : lt dk[j]! dk[a]! with
         | false =>
          have HL := Lib.hid (HE.out.lessC HS3.out (d := dk) (i := j) (j := a) (x := (j : Int)) (y := (a : Int)) (by omega) (by omega) (by omega) (by omega) hl)
          have HN := Lib.hid (scanDown_go (fun x => !lt x dk[a]!) dk i3 j hij (by omega) (by simp [hl]))
          clear hl HS3
          go_wp2_with (go_at_fn 70; (with_reducible refine HL.out.mono ?_); rintro e w3 ⟨rfl, hSn, hTn⟩; have HS4 := Lib.hid hSn; have HT4 := Lib.hid (HT3.out.trans hTn); clear hSn hTn c0 HL)
          go_roundg (j - 1)
          case measure => omega
          case rel => exact ⟨j - 1, by go_num, by omega, by omega, Nat.le_refl _, Lib.hid (by rw [← HO.out, HN.out]), HS4, HT4⟩
         | true =>
          have HL := Lib.hid (HE.out.lessC HS3.out (d := dk) (i := j) (j := a) (x := (j : Int)) (y := (a : Int)) (by omega) (by omega) (by omega) (by omega) hl)
          have HN := Lib.hid (scanDown_end (fun x => !lt x dk[a]!) dk i3 j (.inr (by simp [hl])))
          clear hl HS3
          go_wp2_with (go_at_fn 70; (with_reducible refine HL.out.mono ?_); rintro e w3 ⟨rfl, hSn, hTn⟩; have HS4 := Lib.hid hSn; have HT4 := Lib.hid (HT3.out.trans hTn); clear hSn hTn c0 HL)
          go_meet
          exact ⟨j, rfl, hj0, hj1, Lib.hid (by rw [← HO.out, HN.out]), HS4, HT4⟩
        ·
         have hz : ¬ (i3 : Int) ≤ (j : Int) := by omega
         have hzd : decide ((i3 : Int) ≤ (j : Int)) = false := decide_eq_false hz
         have HN := Lib.hid (scanDown_end (fun x => !lt x dk[a]!) dk i3 j (.inl hij))
         clear c0
         go_wp2_with fail
         go_meet
         exact ⟨j, rfl, hj0, hj1, Lib.hid (by rw [← HO.out, HN.out]), HS3, HT3⟩
      case rest =>
       clear HSr HTr
       obtain ⟨j3, rfl, hj30, hj31, HJ3, HSr, HTr⟩ := hcut
       have c1 := (HB0.out.turn HTr.out).swap
       by_cases hgt3 : j3 < i3
       ·
        have hgz3 : (j3 : Int) < (i3 : Int) := by omega
        have HK := Lib.hid (part_break lt a ii jj dk HI3.out HJ3.out hgt3)
        obtain ⟨w4, hsw, hSs, hTs⟩ := HE.out.swapC HSr.out (d := dk) (i := j3) (j := a) (x := (j3 : Int)) (y := (a : Int)) (by omega) (by omega) rfl rfl
        have HS4 := Lib.hid hSs
        have HT4 := Lib.hid (HTr.out.trans hTs)
        clear hSs hTs HSr
        go_wp2_with fail
        go_ret2
        rw [HF.out, ← HP.out, HK.out]
        exact ⟨rfl, HS4.out, HTa.out.trans HT4.out⟩
       ·
        have hgz3 : ¬ (j3 : Int) < (i3 : Int) := by omega
        have hij3 := part_scans_lt lt a _ _ dk (by omega) HI3.out HJ3.out (by omega)
        have HK := Lib.hid (part_go lt a ii jj dk HI3.out HJ3.out hgt3)
        obtain ⟨w4, hsw, hSs, hTs⟩ := HE.out.swapC HSr.out (d := dk) (i := i3) (j := j3) (x := (i3 : Int)) (y := (j3 : Int)) (by omega) (by omega) rfl rfl
        have HS4 := Lib.hid hSs
        have HT4 := Lib.hid (HTr.out.trans hTs)
        clear hSs hTs HSr
        go_wp2_with fail
        go_roundg (j3 - 1 + 1 - (i3 + 1))
        case measure => omega
        case rel => exact ⟨i3 + 1, j3 - 1, _, by go_num, by go_num, by omega, by omega, by omega, Nat.le_refl _, HS4, HT4, Lib.hid (by rw [← HP.out, HK.out])⟩
end Go.Proofs.YtpeneeddfgmjpaaGreatDoor.srt

namespace Go.Proofs.YtpeneeddfgmjpaaGreatDoor.srt
open Go.RowKit Go.Proofs.YtpeneeddfgmjpaaGreatDoor.mem Go.Proofs.YtpeneeddfgmjpaaGreatDoor.sha Go.Proofs.YtpeneeddfgmjpaaGreatDoor.ids Go.Sort

set_option maxHeartbeats 2000000 in
set_option maxRecDepth 100000 in
theorem ins_any {V H : Value} {blk off n : Nat} (E : Env V H blk off n) (d : Array I32) (w : World) (a b : Nat) (hs : St blk off n d w) (hab : a ≤ b) (hb : b ≤ n) (hn : n ≤ 1000000000) :
  Calls Tryz.prog 123 #[dat V H, .int .i64 a, .int .i64 b] w fun e w' => e = .returned (.tuple #[]) ∧ St blk off n (insertionSort lt d a b) w' ∧ Tr blk w w' := by
 have HE := Lib.hid E
 have en := enters_less
 have HT0 := Lib.hid (Tr.boxed V H blk w)
 have HS0 := Lib.hid (hs.boxed (V := V) (H := H))
 have HB0 := Lib.hid (Bx.new (V := V) (H := H) hs)
 unfold datObj at HT0 HS0 HB0
 unfold dat
 clear E hs
 go_enter Tryz.func123, Tryz.ntmps123
 go_wp2_with fail
 generalize w.alloc _ = w1 at HT0 HS0 HB0 ⊢
 generalize w.heap.size = B at HB0 ⊢
 go_loopg [6] (b + 1 - a) (fun gk s6 wr => ∃ (i : Nat) (dk : Array I32), s6 = .int .i64 i ∧ a < i ∧ i ≤ b + 1 ∧ b + 1 - i ≤ gk ∧ Hid (St blk off n dk wr) ∧ Hid (Tr blk w1 wr) ∧ Hid (insOuter lt a b i dk = insOuter lt a b (a + 1) d))
 case atStart => exact ⟨a + 1, d, by go_num, by omega, by omega, by omega, HS0.out, Lib.hid (Tr.refl _ _), Lib.hid rfl⟩
 case round =>
  obtain ⟨i, dk, rfl, hai, hib, hgk, HS, HT, HO⟩ := hrel
  clear HS0
  by_cases hlt : i < b
  ·
   have hltz : (i : Int) < (b : Int) := by omega
   go_wp2_with fail
   go_loopg [7] (i - a) (fun gk2 s7 wr2 => ∃ (j : Nat) (dj : Array I32), s7 = .int .i64 j ∧ a ≤ j ∧ j ≤ i ∧ j - a ≤ gk2 ∧ Hid (St blk off n dj wr2) ∧ Hid (Tr blk w1 wr2) ∧ Hid (insInner lt a j dj = insInner lt a i dk))
   case atStart => exact ⟨i, dk, rfl, by omega, Nat.le_refl _, Nat.le_refl _, HS, HT, Lib.hid rfl⟩
   case round =>
    obtain ⟨j, dj, rfl, haj, hji, hgk2, HS2, HT2, HI⟩ := hrel
    have HB := Lib.hid (HB0.out.turn HT2.out)
    have c0 := HB.out.less
    have c1 := HB.out.swap
    by_cases hja : a < j
    ·
     have hjaz : (a : Int) < (j : Int) := by omega
     have hjab : decide ((a : Int) < (j : Int)) = true := decide_eq_true hjaz
     have j0 : (0 : Int) ≤ (j : Int) - 1 := by omega
     cases hl : lt dj[j]! dj[j - 1]! with
     | true =>
      have HL := Lib.hid (HE.out.lessC HS2.out (i := j) (j := j - 1) (x := (j : Int)) (y := (j : Int) - 1) (by omega) (by omega) rfl (by omega) hl)
      have HN := Lib.hid (insInner_go (lt := lt) a j dj hja hl)
      clear hl HS2
      go_wp2_with (go_at_fn 70; (with_reducible refine HL.out.mono ?_); rintro e w2 ⟨rfl, hS2, hT2⟩; have c2 := (HB.out.turn hT2).swap; obtain ⟨w3, hsw, hS3, hT3⟩ := HE.out.swapC hS2 (i := j) (j := j - 1) (x := (j : Int)) (y := (j : Int) - 1) (by omega) (by omega) rfl (by omega); have HS3 := Lib.hid hS3; have HT3 := Lib.hid (HT2.out.trans (hT2.trans hT3)); clear hS2 hT2 hS3 hT3 c0 c1 HB HL)
      go_roundg (j - 1 - a)
      case measure => omega
      case rel => exact ⟨j - 1, swp dj j (j - 1), by go_num, by omega, by omega, Nat.le_refl _, HS3, HT3, Lib.hid (by rw [← HI.out, HN.out])⟩
     | false =>
      have HL := Lib.hid (HE.out.lessC HS2.out (i := j) (j := j - 1) (x := (j : Int)) (y := (j : Int) - 1) (by omega) (by omega) rfl (by omega) hl)
      have HN := Lib.hid (insInner_stop (lt := lt) a j dj (.inr hl))
      clear hl HS2
      go_wp2_with (go_at_fn 70; (with_reducible refine HL.out.mono ?_); rintro e w2 ⟨rfl, hS2, hT2⟩; have HS3 := Lib.hid hS2; have HT3 := Lib.hid (HT2.out.trans hT2); clear hS2 hT2 c0 c1 HB HL)
      go_roundg (b + 1 - (i + 1))
      case measure => omega
      case rel => exact ⟨i + 1, dj, by go_num, by omega, by omega, Nat.le_refl _, HS3, HT3, Lib.hid (by rw [← HO.out, insOuter_go lt a b i dk hlt, ← HI.out, HN.out])⟩
    ·
     have hjaz : ¬ (a : Int) < (j : Int) := by omega
     have hjab : decide ((a : Int) < (j : Int)) = false := decide_eq_false hjaz
     have HN := Lib.hid (insInner_stop (lt := lt) a j dj (.inl (by omega)))
     clear c0 c1 HB
     go_wp2_with fail
     go_roundg (b + 1 - (i + 1))
     case measure => omega
     case rel => exact ⟨i + 1, dj, by go_num, by omega, by omega, Nat.le_refl _, HS2, HT2, Lib.hid (by rw [← HO.out, insOuter_go lt a b i dk hlt, ← HI.out, HN.out])⟩
  ·
   have hltz : ¬ (i : Int) < (b : Int) := by omega
   go_wp2_with fail
   go_end0
   refine ⟨rfl, ?_, HT0.out.trans HT.out⟩
   have := HO.out
   rw [insOuter_stop lt a b i dk hlt] at this
   unfold insertionSort
   rw [← this]
   exact HS.out
end Go.Proofs.YtpeneeddfgmjpaaGreatDoor.srt

namespace Go.Proofs.YtpeneeddfgmjpaaGreatDoor.srt
open Go.Proofs Go.RowKit Go.Proofs.YtpeneeddfgmjpaaGreatDoor.mem Go.Proofs.YtpeneeddfgmjpaaGreatDoor.sha Go.Proofs.YtpeneeddfgmjpaaGreatDoor.ids Go.Sort
set_option maxHeartbeats 4000000 in
set_option maxRecDepth 100000 in
theorem pins_any {V H : Value} {blk off n : Nat} (E : Env V H blk off n) (d : Array I32) (w : World) (a b : Nat) (hs : St blk off n d w) (hab : a < b) (hb : b ≤ n) (hn : n ≤ 1000000000) :
  Calls Tryz.prog 128 #[dat V H, .int .i64 a, .int .i64 b] w fun e w' => e = .returned (.bool (partialInsertionSort lt d a b).2) ∧ St blk off n (partialInsertionSort lt d a b).1 w' ∧ Tr blk w w' := by
 have HE := Lib.hid E
 have en := enters_less
 have HT0 := Lib.hid (Tr.boxed V H blk w)
 have HS0 := Lib.hid (hs.boxed (V := V) (H := H))
 have HB0 := Lib.hid (Bx.new (V := V) (H := H) hs)
 unfold datObj at HT0 HS0 HB0
 unfold dat
 clear E hs
 go_enter Tryz.func128, Tryz.ntmps128
 go_wp2_with fail
 generalize w.alloc _ = w1 at HT0 HS0 HB0 ⊢
 generalize w.heap.size = B at HB0 ⊢
 have HF := Lib.hid (show partialIns lt a b 5 (a + 1) d = partialInsertionSort lt d a b from rfl)
 go_loopg [7, 8] 5 (fun g1 vi vs wr => ∃ (i s : Nat) (dk : Array I32), vi = .int .i64 i ∧ vs = .int .i64 s ∧ s ≤ 5 ∧ 5 - s ≤ g1 ∧ a < i ∧ i ≤ b ∧ Hid (St blk off n dk wr) ∧ Hid (Tr blk w1 wr) ∧ Hid (partialIns lt a b (5 - s) i dk = partialIns lt a b 5 (a + 1) d))
 case atStart => exact ⟨a + 1, 0, d, by go_num, rfl, by omega, by omega, by omega, by omega, HS0, Lib.hid (Tr.refl _ _), Lib.hid rfl⟩
 case round =>
  obtain ⟨i, s, dk, rfl, rfl, hs5, hg1, hai, hib, HS, HT, HO⟩ := hrel
  clear HS0
  by_cases hs : s < 5
  ·
   have hsz5 : (s : Int) < 5 := by omega
   go_upto_block 2 with fail
   go_cut [7] from 17 to 30 (fun s7 wx => ∃ kx : Nat, s7 = .int .i64 kx ∧ i ≤ kx ∧ kx ≤ b ∧ Hid (scanSorted lt dk b i = kx) ∧ Hid (St blk off n dk wx) ∧ Hid (Tr blk w1 wx))
   case first =>
    go_wp2_with fail
    go_loopg [7] (b - i) (fun g2 vi wr2 => ∃ (kx : Nat), vi = .int .i64 kx ∧ i ≤ kx ∧ kx ≤ b ∧ b - kx ≤ g2 ∧ Hid (scanSorted lt dk b kx = scanSorted lt dk b i) ∧ Hid (St blk off n dk wr2) ∧ Hid (Tr blk w1 wr2))
    case atStart => exact ⟨i, rfl, Nat.le_refl _, hib, Nat.le_refl _, Lib.hid rfl, HS, HT⟩
    case round =>
     obtain ⟨kx, rfl, hik, hkb, hg2, HSc, HS3, HT3⟩ := hrel
     have c0 := (HB0.out.turn HT3.out).less
     by_cases hkb' : kx < b
     ·
      have hkz : (kx : Int) < (b : Int) := by omega
      have hkzd : decide ((kx : Int) < (b : Int)) = true := decide_eq_true hkz
      cases hlv : lt dk[kx]! dk[kx - 1]! with
      | false =>
       have HL := Lib.hid (HE.out.lessC HS3.out (d := dk) (i := kx) (j := kx - 1) (x := (kx : Int)) (y := (kx : Int) - 1) (by omega) (by omega) (by omega) (by omega) hlv)
       have HN := Lib.hid (scanSorted_go lt dk b kx hkb' hlv)
       clear hlv HS3
       go_wp2_with (go_at_fn 70; (with_reducible refine HL.out.mono ?_); rintro e w3 ⟨rfl, hSn, hTn⟩; have HS4 := Lib.hid hSn; have HT4 := Lib.hid (HT3.out.trans hTn); clear hSn hTn c0 HL)
       go_roundg (b - (kx + 1))
       case measure => omega
       case rel => exact ⟨kx + 1, by go_num, by omega, by omega, Nat.le_refl _, Lib.hid (by rw [← HSc.out, HN.out]), HS4, HT4⟩
      | true =>
       have HL := Lib.hid (HE.out.lessC HS3.out (d := dk) (i := kx) (j := kx - 1) (x := (kx : Int)) (y := (kx : Int) - 1) (by omega) (by omega) (by omega) (by omega) hlv)
       have HN := Lib.hid (scanSorted_stop lt dk b kx (.inr hlv))
       clear hlv HS3
       go_wp2_with (go_at_fn 70; (with_reducible refine HL.out.mono ?_); rintro e w3 ⟨rfl, hSn, hTn⟩; have HS4 := Lib.hid hSn; have HT4 := Lib.hid (HT3.out.trans hTn); clear hSn hTn c0 HL)
       go_meet
       exact ⟨kx, rfl, hik, hkb, Lib.hid (by rw [← HSc.out, HN.out]), HS4, HT4⟩
     ·
      have hkz : ¬ (kx : Int) < (b : Int) := by omega
      have hkzd : decide ((kx : Int) < (b : Int)) = false := decide_eq_false hkz
      have HN := Lib.hid (scanSorted_stop lt dk b kx (.inl hkb'))
      clear c0
      go_wp2_with fail
      go_meet
      exact ⟨kx, rfl, hik, hkb, Lib.hid (by rw [← HSc.out, HN.out]), HS3, HT3⟩
   case rest =>
    clear HS HT
    obtain ⟨kx, rfl, hik, hkb, HK, HS, HT⟩ := hcut
    by_cases hkb' : kx = b
    ·
     have hkbz : ((kx : Int) == (b : Int)) = true := by simp [hkb']
     have HV := Lib.hid (pi_true lt a b s i dk hs (HK.out.trans hkb'))
     clear hkb'
     go_wp2_with fail
     go_ret
     rw [← HF.out, ← HO.out, HV.out]
     exact ⟨rfl, HS.out, HT0.out.trans HT.out⟩
    ·
     have hkbz : ((kx : Int) == (b : Int)) = false := beq_eq_false_iff_ne.2 (by omega)
     by_cases h50 : b - a < 50
     ·
      have h50z : (b : Int) - (a : Int) < 50 := by omega
      have HV := Lib.hid (pi_short lt a b s i dk hs (by rw [HK.out]; omega) h50)
      go_wp2_with fail
      go_ret
      rw [← HF.out, ← HO.out, HV.out]
      exact ⟨rfl, HS.out, HT0.out.trans HT.out⟩
     ·
      have h50z : ¬ ((b : Int) - (a : Int) < 50) := by omega
      have c1 := (HB0.out.turn HT.out).swap
      obtain ⟨w4, hsw, hSs, hTs⟩ := HE.out.swapC HS.out (d := dk) (i := kx) (j := kx - 1) (x := (kx : Int)) (y := (kx : Int) - 1) (by omega) (by omega) rfl (by omega)
      have HS1 := Lib.hid hSs
      have HT1 := Lib.hid (HT.out.trans hTs)
      have HV := Lib.hid (pi_go lt a b s i kx dk hs HK.out (by omega) h50)
      clear hSs hTs HS HT
      go_upto_if 47 with fail
      clear hsw c1
      obtain ⟨d1, hd1⟩ : ∃ x, x = swp dk kx (kx - 1) := ⟨_, rfl⟩
      rw [← hd1] at HS1 HV
      clear hd1
      go_cut [9] from 47 to 66 (fun _ wx => Hid (St blk off n (fixDown lt a kx d1) wx) ∧ Hid (Tr blk w1 wx))
      case first =>
       by_cases hka : kx - a ≥ 2
       ·
        have hkaz : (2 : Int) ≤ (kx : Int) - (a : Int) := by omega
        have HD := Lib.hid (show fixDown lt a kx d1 = shiftDown lt (kx - 1) d1 by unfold fixDown; rw [if_pos hka])
        go_wp2_with fail
        go_loopg [9] (kx - 1) (fun g3 vj wr3 => ∃ (j : Nat) (dj : Array I32), vj = .int .i64 j ∧ j ≤ kx - 1 ∧ j ≤ g3 ∧ Hid (shiftDown lt j dj = shiftDown lt (kx - 1) d1) ∧ Hid (St blk off n dj wr3) ∧ Hid (Tr blk w1 wr3))
        case atStart => exact ⟨kx - 1, d1, by congr 1; omega, Nat.le_refl _, Nat.le_refl _, Lib.hid rfl, HS1, HT1⟩
        case round =>
         obtain ⟨j, dj, rfl, hjk, hg3, HDn, HS3, HT3⟩ := hrel
         have c0 := (HB0.out.turn HT3.out).less
         by_cases hj1 : 1 ≤ j
         ·
          have hj1z : (1 : Int) ≤ (j : Int) := by omega
          cases hlv : lt dj[j]! dj[j - 1]! with
          | true =>
           have HL := Lib.hid (HE.out.lessC HS3.out (d := dj) (i := j) (j := j - 1) (x := (j : Int)) (y := (j : Int) - 1) (by omega) (by omega) (by omega) (by omega) hlv)
           have HN := Lib.hid (shiftDown_go lt j dj hj1 hlv)
           clear hlv HS3
           go_wp2_with (go_at_fn 70; (with_reducible refine HL.out.mono ?_); rintro e w3 ⟨rfl, hSn, hTn⟩; have HS4 := Lib.hid hSn; have HT4 := Lib.hid (HT3.out.trans hTn); have c3 := (HB0.out.turn HT4.out).swap; obtain ⟨w5, hsw, hS5, hT5⟩ := HE.out.swapC HS4.out (d := dj) (i := j) (j := j - 1) (x := (j : Int)) (y := (j : Int) - 1) (by omega) (by omega) rfl (by omega); have HS5 := Lib.hid hS5; have HT5 := Lib.hid (HT4.out.trans hT5); clear hSn hTn hS5 hT5 c0 HL)
           go_roundg (j - 1)
           case measure => omega
           case rel => exact ⟨j - 1, swp dj j (j - 1), by congr 1; omega, by omega, Nat.le_refl _, Lib.hid (by rw [← HDn.out, HN.out]), HS5, HT5⟩
          | false =>
           have HL := Lib.hid (HE.out.lessC HS3.out (d := dj) (i := j) (j := j - 1) (x := (j : Int)) (y := (j : Int) - 1) (by omega) (by omega) (by omega) (by omega) hlv)
           have HN := Lib.hid (shiftDown_stop lt j dj (.inr hlv))
           clear hlv HS3
           go_wp2_with (go_at_fn 70; (with_reducible refine HL.out.mono ?_); rintro e w3 ⟨rfl, hSn, hTn⟩; have HS4 := Lib.hid hSn; have HT4 := Lib.hid (HT3.out.trans hTn); clear hSn hTn c0 HL)
           go_meet
           exact ⟨by rw [HD.out, ← HDn.out, HN.out]; exact HS4, HT4⟩
         ·
          have hj1z : ¬ (1 : Int) ≤ (j : Int) := by omega
          have HN := Lib.hid (shiftDown_stop lt j dj (.inl (by omega)))
          clear c0
          go_wp2_with fail
          go_meet
          exact ⟨by rw [HD.out, ← HDn.out, HN.out]; exact HS3, HT3⟩
       ·
        have hkaz : ¬ (2 : Int) ≤ (kx : Int) - (a : Int) := by omega
        have HD := Lib.hid (show fixDown lt a kx d1 = d1 by unfold fixDown; rw [if_neg hka])
        go_wp2_with fail
        go_meet
        exact ⟨by rw [HD.out]; exact HS1, HT1⟩
      case rest =>
       clear HS1 HT1
       obtain ⟨HS1, HT1⟩ := hcut
       obtain ⟨d2, hd2⟩ : ∃ x, x = fixDown lt a kx d1 := ⟨_, rfl⟩
       rw [← hd2] at HS1 HV
       clear hd2
       by_cases hbk : b - kx ≥ 2
       ·
        have hbkz : (2 : Int) ≤ (b : Int) - (kx : Int) := by omega
        have HD := Lib.hid (show fixUp lt b kx d2 = shiftUp lt b (kx + 1) d2 by unfold fixUp; rw [if_pos hbk])
        go_wp2_with fail
        go_loopg [10] (b - (kx + 1)) (fun g4 vj wr4 => ∃ (j : Nat) (dj : Array I32), vj = .int .i64 j ∧ kx + 1 ≤ j ∧ j ≤ b ∧ b - j ≤ g4 ∧ Hid (shiftUp lt b j dj = shiftUp lt b (kx + 1) d2) ∧ Hid (St blk off n dj wr4) ∧ Hid (Tr blk w1 wr4))
        case atStart => exact ⟨kx + 1, d2, by go_num, Nat.le_refl _, by omega, Nat.le_refl _, Lib.hid rfl, HS1, HT1⟩
        case round =>
         obtain ⟨j, dj, rfl, hkj, hjb, hg4, HDn, HS3, HT3⟩ := hrel
         have c0 := (HB0.out.turn HT3.out).less
         by_cases hjb' : j < b
         ·
          have hjz : (j : Int) < (b : Int) := by omega
          cases hlv : lt dj[j]! dj[j - 1]! with
          | true =>
           have HL := Lib.hid (HE.out.lessC HS3.out (d := dj) (i := j) (j := j - 1) (x := (j : Int)) (y := (j : Int) - 1) (by omega) (by omega) (by omega) (by omega) hlv)
           have HN := Lib.hid (shiftUp_go lt b j dj hjb' hlv)
           clear hlv HS3
           go_wp2_with (go_at_fn 70; (with_reducible refine HL.out.mono ?_); rintro e w3 ⟨rfl, hSn, hTn⟩; have HS4 := Lib.hid hSn; have HT4 := Lib.hid (HT3.out.trans hTn); have c3 := (HB0.out.turn HT4.out).swap; obtain ⟨w5, hsw, hS5, hT5⟩ := HE.out.swapC HS4.out (d := dj) (i := j) (j := j - 1) (x := (j : Int)) (y := (j : Int) - 1) (by omega) (by omega) rfl (by omega); have HS5 := Lib.hid hS5; have HT5 := Lib.hid (HT4.out.trans hT5); clear hSn hTn hS5 hT5 c0 HL)
           go_roundg (b - (j + 1))
           case measure => omega
           case rel => exact ⟨j + 1, swp dj j (j - 1), by go_num, by omega, by omega, Nat.le_refl _, Lib.hid (by rw [← HDn.out, HN.out]), HS5, HT5⟩
          | false =>
           have HL := Lib.hid (HE.out.lessC HS3.out (d := dj) (i := j) (j := j - 1) (x := (j : Int)) (y := (j : Int) - 1) (by omega) (by omega) (by omega) (by omega) hlv)
           have HN := Lib.hid (shiftUp_stop lt b j dj (.inr hlv))
           clear hlv HS3
           go_wp2_with (go_at_fn 70; (with_reducible refine HL.out.mono ?_); rintro e w3 ⟨rfl, hSn, hTn⟩; have HS4 := Lib.hid hSn; have HT4 := Lib.hid (HT3.out.trans hTn); clear hSn hTn c0 HL)
           go_roundg (5 - (s + 1))
           case measure => omega
           case rel => exact ⟨kx, s + 1, _, rfl, by go_num, by omega, Nat.le_refl _, by omega, hkb, HS4, HT4, Lib.hid (by rw [← HO.out, HV.out, HD.out, ← HDn.out, HN.out])⟩
         ·
          have hjz : ¬ (j : Int) < (b : Int) := by omega
          have HN := Lib.hid (shiftUp_stop lt b j dj (.inl hjb'))
          clear c0
          go_wp2_with fail
          go_roundg (5 - (s + 1))
          case measure => omega
          case rel => exact ⟨kx, s + 1, _, rfl, by go_num, by omega, Nat.le_refl _, by omega, hkb, HS3, HT3, Lib.hid (by rw [← HO.out, HV.out, HD.out, ← HDn.out, HN.out])⟩
       ·
        have hbkz : ¬ (2 : Int) ≤ (b : Int) - (kx : Int) := by omega
        have HD := Lib.hid (show fixUp lt b kx d2 = d2 by unfold fixUp; rw [if_neg hbk])
        go_wp2_with fail
        go_roundg (5 - (s + 1))
        case measure => omega
        case rel => exact ⟨kx, s + 1, _, rfl, by go_num, by omega, Nat.le_refl _, by omega, hkb, HS1, HT1, Lib.hid (by rw [← HO.out, HV.out, HD.out])⟩
  ·
   obtain rfl : s = 5 := by omega
   have HV := Lib.hid (pi_end lt a b i dk)
   go_wp2_with fail
   go_ret
   rw [← HF.out, ← HO.out, HV.out]
   exact ⟨rfl, HS.out, HT0.out.trans HT.out⟩
end Go.Proofs.YtpeneeddfgmjpaaGreatDoor.srt
