/-
  The library's breaking of patterns in a row of ids: some permutation.
-/
import Derived.Test.YtfcoecojjciphaaSrt
import Derived.Deep.LoopGhost
import Derived.Shelf.SlSortFunc.Xorshift
namespace Go.Proofs.Ytfcoecojjciphaa.srt
open Go.Proofs Go.RowKit Go.Proofs.Ytfcoecojjciphaa.mem Go.Proofs.Ytfcoecojjciphaa.sha Go.Proofs.Ytfcoecojjciphaa.ids Go.Sort
theorem next_any (S X : Nat) (w : World) (hX : X < 18446744073709551616) (h : Blk w S 90 #[.int .u64 X]) :
    Calls Try.prog 80 #[.pointer (some ⟨S, 0, none⟩)] w fun e w' => ∃ r : Nat, e = .returned (.int .u64 r) ∧ Hid (r < 18446744073709551616) ∧ Hid (Blk w' S 90 #[.int .u64 r]) ∧ Hid (Turn (· = S) w w') := by
  refine (Any.xorshift_Next (P := Try.prog) (ρ := ren) { lays with } S 0 X hX w (h.cell 0) (h.frozen 0)).mono ?_
  rintro e w' ⟨rfl, rfl⟩
  refine ⟨_, rfl, Lib.hid (xorNextN_lt X hX), Lib.hid ?_, Lib.hid ((Turn.setCell (F := (· = S)) (p := ⟨S, 0, none⟩) (Turn.refl _ w) rfl _).drewN 3)⟩
  exact h.set_ 0 _
theorem pow_any (l : Nat) (hl : l < 4611686018427387904) (w : World) : Calls Try.prog 79 #[.int .i64 l] w fun e w' => e = .returned (.int .u64 ((1 <<< bitsLen l : Nat) : Int)) ∧ w' = w :=
  Any.nextPowerOfTwo (P := Try.prog) (ρ := ren) { lays with } l hl w

theorem Bx.turn_at {V H : Value} {blk S B : Nat} {w w' : World} (h : Bx V H blk B w) (ht : Turn (· = S) w w') (hne : B ≠ S) : Bx V H blk B w' :=
  ⟨(World.cell?_of_block (ht.block B hne)).trans h.less, (World.cell?_of_block (ht.block B hne)).trans h.swap, h.ne, Nat.lt_of_lt_of_le h.lt ht.size⟩
theorem St.turn_at {blk off n S : Nat} {d : Array I32} {w w' : World} (hs : St blk off n d w) (ht : Turn (· = S) w w') (hne : S ≠ blk) : St blk off n d w' :=
  ⟨hs.size, fun j hj => ⟨(World.cell?_of_block (ht.block blk (fun e => hne e.symm))).trans (hs.holds j hj).1, (World.frozen?_of_block (ht.block blk (fun e => hne e.symm))).trans (hs.holds j hj).2⟩, Nat.lt_of_lt_of_le hs.lt ht.size⟩
/-- one more block that is new since w0 turns -/
theorem Tr.also {blk S : Nat} {w0 w w' : World} (h : Tr blk w0 w) (hS : w0.heap.size ≤ S) (ht : Turn (· = S) w w') : Tr blk w0 w' :=
  ⟨Turn.trans h.turn (Turn.mono ht fun k hk => .inr (by omega)), fun t m cur hc => by
    obtain ⟨c1, h1, e1⟩ := h.keeps t m cur hc
    have hlt : blk < w0.heap.size := (Array.getElem?_eq_some_iff.1 hc).1
    exact ⟨c1, (ht.block blk (by omega)).trans h1, e1⟩⟩

theorem and_nat (r M : Nat) (hr : r < 18446744073709551616) (hM : 0 < M) (hM2 : M ≤ 4000000000) : ∃ O : Nat, bits .and .u64 (r : Int) ((M : Int) - 1) = (O : Int) ∧ O < M := by
  refine ⟨r &&& (M - 1), ?_, Nat.lt_of_le_of_lt Nat.and_le_right (by omega)⟩
  rw [show ((M : Int) - 1) = ((M - 1 : Nat) : Int) by omega, bits_and_u64_nat _ _ hr (by omega)]

set_option maxHeartbeats 2000000 in
set_option maxRecDepth 100000 in
theorem brk_any {V H : Value} {blk off n : Nat} (E : Env V H blk off n) (d : Array I32) (w : World) (a b : Nat) (hs : St blk off n d w) (hab : 12 < b - a) (hb : b ≤ n) (hn : n ≤ 1000000000) :
    Calls Try.prog 71 #[dat V H, .int .i64 a, .int .i64 b] w fun e w' => e = .returned (.tuple #[]) ∧ ∃ d', PermIn a b d d' ∧ St blk off n d' w' ∧ Tr blk w w' := by
  have hdn := hs.size
  obtain ⟨l, hl⟩ : ∃ l, l = b - a := ⟨_, rfl⟩
  have hz0 : ((b : Int) - (a : Int)) = (l : Int) := by omega
  obtain ⟨w1, hw1⟩ : ∃ u, u = (w.alloc (datObj V H)).alloc (.cells #[.int .u64 (l : Int)] 90) := ⟨_, rfl⟩
  have hb1 : RowKit.Below w.heap.size w w1 := by rw [hw1]; exact ((RowKit.Below.refl _ w).alloc (Nat.le_refl _) _).alloc (by simp) _
  have HS1 := Lib.hid (hs.below hb1)
  have HB1 := Lib.hid (show Bx V H blk w.heap.size w1 by rw [hw1]; exact (Bx.new (V := V) (H := H) hs).turn (Tr.below ((RowKit.Below.refl _ _).alloc (Nat.le_refl _) _)))
  have HC1 := Lib.hid (show Blk w1 (w.heap.size + 1) 90 #[.int .u64 (l : Int)] by rw [hw1]; exact Blk.at_ (by simp) _ _)
  have HNE := Lib.hid (show w.heap.size + 1 ≠ blk from fun e => by have := hs.lt; omega)
  have HT01 := Lib.hid (show Tr blk w w1 from Tr.below hb1)
  have hL := show a + l = b by omega
  have hl12 : 12 < l := by omega
  have hM2 : 1 <<< bitsLen l ≤ 2 * l := by rw [Nat.one_shiftLeft]; exact two_pow_bitsLen_le (by omega)
  have hM1 : 0 < 1 <<< bitsLen l := by rw [Nat.one_shiftLeft]; exact Nat.pow_pos (by decide)
  have HPW := pow_any l (by omega)
  obtain ⟨M, hM⟩ : ∃ M, M = 1 <<< bitsLen l := ⟨_, rfl⟩
  rw [← hM] at hM2 hM1
  rw [← hM] at HPW
  have HP := Lib.hid HPW
  obtain ⟨q, hq⟩ : ∃ q, q = l / 4 := ⟨_, rfl⟩
  have hq4 : Int.tdiv (l : Int) 4 = (q : Int) := by rw [Int.tdiv_eq_ediv_of_nonneg (by omega), hq]; norm_cast
  have hq4e : (l : Int) / 4 = (q : Int) := by rw [hq]; norm_cast
  have hq1 : 4 * q ≤ l := by omega
  have hq3 : 3 ≤ q := by omega
  have HL := Lib.hid hL
  have HW1 := Lib.hid hw1
  unfold datObj at HW1
  unfold dat
  have hl8 : (8 : Int) ≤ (l : Int) := by omega
  have hln : l ≤ n := by omega
  have hwl : IntKind.u64.wrap (l : Int) = (l : Int) := by rw [IntKind.wrap_u64]; omega
  have HE := Lib.hid E
  clear E hl hq hw1 hb1 hs hab HPW hM hL
  go_enter Try.func71, Try.ntmps71
  go_upto_region 4 with fail
  refine wp_at HW1.out.symm ?_
  clear HW1
  generalize hBq : w.heap.size = B at HB1 HC1 HNE ⊢
  have HSz := Lib.hid (show w.heap.size ≤ B + 1 by omega)
  clear hBq
  go_wp2_with (go_at_call 79; (with_reducible refine (HP.out _).mono ?_); rintro e w2 ⟨rfl, rfl⟩)
  go_loopg [9] 3 (fun gk s9 wr => ∃ (idx : Nat) (z : Int) (dk : Array I32) (R : Nat), s9 = .int .i64 z ∧ z = (idx : Int) ∧ a + q * 2 ≤ idx + 1 ∧ idx ≤ a + q * 2 + 2 ∧ a + q * 2 + 2 - idx ≤ gk ∧ dk.size = n ∧ Hid (R < 18446744073709551616) ∧ Hid (Blk wr (B + 1) 90 #[.int .u64 (R : Int)]) ∧ Hid (Bx V H blk B wr) ∧ Hid (PermIn a b d dk) ∧ Hid (St blk off n dk wr) ∧ Hid (Tr blk w wr))
  case atStart => exact ⟨a + q * 2 - 1, _, d, l, rfl, by omega, by omega, by omega, by omega, hdn, Lib.hid (by omega), HC1, HB1, Lib.hid (permIn_refl _ _ _), HS1, HT01⟩
  case round =>
    obtain ⟨idx, z, dk, R, rfl, hz, hi1, hi2, hgk, hdk, HR, HC, HB, HPm, HS, HT⟩ := hrel
    subst hz
    have b0 := HB.out.less
    have b1 := HB.out.swap
    by_cases hlt : idx ≤ a + q * 2 + 1
    · have hzz : (idx : Int) ≤ (a : Int) + (q : Int) * 2 + 1 := by omega
      have HNx := Lib.hid (next_any (B + 1) R wr HR.out HC.out)
      have hL := HL.out
      go_upto_region 9 with (go_at_call 80; (with_reducible refine HNx.out.mono ?_); rintro e w3 ⟨r, rfl, HR3, HC3, HT3⟩; obtain ⟨O, hO, hOM⟩ := and_nat r M HR3.out hM1 (by omega); have HB3 := Lib.hid (HB.out.turn_at HT3.out (by omega)); have b30 := HB3.out.less; have b31 := HB3.out.swap; have HS3 := Lib.hid (HS.out.turn_at HT3.out HNE.out); have HT4 := Lib.hid (HT.out.also HSz.out HT3.out); clear HNx HC HB HS)
      by_cases hcO : l ≤ O
      · have hlO : (l : Int) ≤ (O : Int) := by omega
        obtain ⟨w4, hsw, hSs, hTs⟩ := HE.out.swapC HS3.out (d := dk) (i := idx) (j := a + (O - l)) (x := (idx : Int)) (y := (a : Int) + ((O : Int) - (l : Int))) (by omega) (by omega) rfl (by omega)
        have HS4 := Lib.hid hSs
        have HB4 := Lib.hid (HB3.out.turn hTs)
        have HC4 := Lib.hid (hTs.keep HC3.out HNE.out)
        have HT5 := Lib.hid (HT4.out.trans hTs)
        have hsz4 := hSs.size
        have HP4 := Lib.hid (permIn_trans _ _ _ a b HPm.out (swp_permIn dk a b idx (a + (O - l)) (by omega) (by omega) (by omega) (by omega) (by omega)))
        clear hSs hTs hL hO
        go_wp2_with fail
        go_roundg (a + q * 2 + 2 - (idx + 1))
        case measure => omega
        case rel => exact ⟨idx + 1, _, _, r, rfl, by omega, by omega, by omega, Nat.le_refl _, hsz4, HR3, HC4, HB4, HP4, HS4, HT5⟩
      · have hlO : ¬ (l : Int) ≤ (O : Int) := by omega
        obtain ⟨w4, hsw, hSs, hTs⟩ := HE.out.swapC HS3.out (d := dk) (i := idx) (j := a + O) (x := (idx : Int)) (y := (a : Int) + (O : Int)) (by omega) (by omega) rfl (by omega)
        have HS4 := Lib.hid hSs
        have HB4 := Lib.hid (HB3.out.turn hTs)
        have HC4 := Lib.hid (hTs.keep HC3.out HNE.out)
        have HT5 := Lib.hid (HT4.out.trans hTs)
        have hsz4 := hSs.size
        have HP4 := Lib.hid (permIn_trans _ _ _ a b HPm.out (swp_permIn dk a b idx (a + O) (by omega) (by omega) (by omega) (by omega) (by omega)))
        clear hSs hTs hL hO
        go_wp2_with fail
        go_roundg (a + q * 2 + 2 - (idx + 1))
        case measure => omega
        case rel => exact ⟨idx + 1, _, _, r, rfl, by omega, by omega, by omega, Nat.le_refl _, hsz4, HR3, HC4, HB4, HP4, HS4, HT5⟩
    · have hzz : ¬ (idx : Int) ≤ (a : Int) + (q : Int) * 2 + 1 := by omega
      clear b0 b1
      go_wp2_with fail
      go_end0
      exact ⟨rfl, dk, HPm.out, HS.out, HT.out⟩
end Go.Proofs.Ytfcoecojjciphaa.srt
