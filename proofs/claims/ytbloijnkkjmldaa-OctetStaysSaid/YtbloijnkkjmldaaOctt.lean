/-
  OctetStays' walk.
-/
import Derived.Test.YtbloijnkkjmldaaActs
import Derived.Deep.RegionHeld3
import Derived.Outline
namespace Go.Proofs.Ytbloijnkkjmldaa.oct
open Go.RowKit

set_option maxRecDepth 100000 in
theorem stays_walk (s : ByteArray) (q : Int) (ad : Option Addr) (n cap : Nat) (K N Z : Nat → Int) (S : Nat → ByteArray) (w : World) (hs : s.size ≤ 140737488351232) (hl : n ≤ 9223372036854775807) (hA : Acts w ad n K N Z S) :
    Calls Try.prog 6 #[.string s, .int .i64 q, .slice ad n cap] w fun e w' => e = .returned (.bool true) ∧ Below w.heap.size w w' := by
  have hn : New (w.heap.size ≤ ·) w := fun _ hk => hk
  have t1 : rTake (s, 0) s.size = (s, ⟨#[]⟩, 0) := by
    unfold rTake
    rw [if_neg (by simp), if_neg (by omega), if_neg (by simp)]
    simp
    rfl
  have t2 : rNum (⟨#[]⟩, 0) 4 = (0, ⟨#[]⟩, 2) := by rfl
  have t3 : wRaw ([], 0) s = (s.data.toList, 0) := by simp [wRaw]
  have t4 : wNum (s.data.toList, 0) (-1) 1 = ([], 5) := by rfl
  have hsl : s.data.toList.length = s.size := by rw [Array.length_toList]; rfl
  have T1 := Lib.hid t1
  have T2 := Lib.hid t2
  have T3 := Lib.hid t3
  have T4 := Lib.hid t4
  have HSL := Lib.hid hsl
  clear t1 t2 t3 t4 hsl
  go_enter Try.func6, Try.ntmps6
  go_wp2_with (first
    | (go_at_call 16; refine (open_any _ _).mono ?_; rintro e w1 ⟨rfl, hR1, hb1⟩; have ht1 := Turn.fresh hb1 hn)
    | (go_at_call 21; refine (rraw_any (w.heap.size ≤ ·) _ _ _ _ _ hR1 (Nat.le_refl _) (hn.turn ht1) (by omega)).mono ?_; rw [T1.out]; rintro e w2 ⟨rfl, hR2, ht2⟩)
    | (go_at_call 17; refine (rnum_any (w.heap.size ≤ ·) _ _ _ _ _ hR2 (Nat.le_refl _) (hn.turn (ht1.trans ht2))).mono ?_; rw [T2.out]; rintro e w3 ⟨rfl, hR3, ht3⟩; have ht4 := (ht1.trans ht2).trans ht3)
    | (go_at_call 8; refine (new_any _).mono ?_; rintro e w5 ⟨rfl, hw5, hb5⟩; have ht5 := ht4.trans (Turn.fresh hb5 (hn.turn ht4)); have hW5 : WrIs w5 (w3.heap.size ≤ ·) w3.heap.size [] 0 := WrIs.new hw5 (Nat.le_refl _))
    | (go_at_call 13; refine (raw_any (w3.heap.size ≤ ·) _ _ _ _ _ hW5 (fun k hk => Nat.le_trans hb5.size hk) (by intro _; simp; omega)).mono ?_; rw [T3.out]; rintro e w6 ⟨rfl, hW6, ht6⟩)
    | (go_at_call 10; refine (num_any (w3.heap.size ≤ ·) _ _ _ _ _ _ hW6 (fun k hk => Nat.le_trans (Nat.le_trans hb5.size ht6.size) hk) (by rw [HSL.out]; omega) (by decide)).mono ?_; rw [T4.out]; rintro e w7 ⟨rfl, hW7, ht7⟩))
  have hR7 : RFault w7 (some ⟨w.heap.size, 0, none⟩) 2 := by
    refine RBlk.fault (rest := ⟨#[]⟩) ?_
    have hlt := Blk.lt hR3
    have h5 := Blk.below hR3 hb5 hlt
    have h6 := Blk.turn h5 ht6 (by simp; omega)
    exact Blk.turn h6 ht7 (by simp; omega)
  have hW7' : WFault w7 (some ⟨w3.heap.size, 0, none⟩) 5 := hW7.fault
  have hB7 : Below w.heap.size w w7 := by
    have h3 := ht4.below (B := w.heap.size) (fun _ hk => hk)
    have h5 := h3.trans (hb5.mono h3.size)
    have h6 := h5.trans (ht6.below (B := w.heap.size) (fun _ hk => Nat.le_trans h3.size hk))
    exact h6.trans (ht7.below (B := w.heap.size) (fun _ hk => Nat.le_trans h3.size hk))
  clear hR3 hb5 ht6 ht7 hW7 hw5 hW5 hW6 ht4 ht5 ht1 ht2 ht3 hR1 hR2 hb1
  generalize hG : w3.heap.size = G at *
  generalize hR : w.heap.size = R at *
  clear hG T1 T2 T3 T4 HSL
  go_loopw [9] (fun i wr => ∃ k : Nat, k ≤ n ∧ k ≤ 20 ∧ i = .int .i64 k ∧ RFault wr (some ⟨R, 0, none⟩) 2 ∧ WFault wr (some ⟨G, 0, none⟩) 5 ∧ Below R w wr) (fun i _ => 20 - (intOf i).toNat)
  case atStart => exact ⟨0, Nat.zero_le _, Nat.zero_le _, rfl, hR7, hW7', hB7⟩
  case round =>
    obtain ⟨k, hk, hk20, rfl, hRk, hWk, hBk⟩ := hrel
    by_cases hlt : k < n ∧ k < 20
    · obtain ⟨hkn, hk2⟩ := hlt
      have hAk : Acts wr ad n K N Z S := hA.below (hR ▸ hBk)
      obtain ⟨b, off, rfl, hbl, a0, a1, a2, a3, hN, hS⟩ := hAk k hkn
      have i0 : (0 : Int) ≤ (k : Int) := Int.natCast_nonneg _
      have i1 : (k : Int) < (n : Int) := by omega
      have i2 : (k : Int) < 20 := by omega
      go_wp2_with fail
      go_region_held3 (fun w' => Below wr.heap.size wr w' ∧ w'.cell? ⟨b, off + k * 4 + 1, none⟩ = some (.int .i64 (N k)) ∧ w'.cell? ⟨b, off + k * 4 + 2, none⟩ = some (.int .i64 (Z k)) ∧ w'.cell? ⟨b, off + k * 4 + 3, none⟩ = some (.string (S k)))
        (first | exact ⟨(Below.refl _ _).drew, a1, a2, a3⟩ | exact bkeep3 hbl a1 a2 a3 (by assumption))
        (first
          | (go_at_call 10; refine (num_stuck _ 5 _ _ _ (hWk.block (by exact And.left (by assumption))) (by decide)).mono ?_; rintro e w' ⟨rfl, hb⟩; have hB2 : Below wr.heap.size wr w' := bstep (And.left (by assumption)) hb)
          | (go_at_call 12; refine (text_stuck _ 5 _ _ (hWk.block (by exact And.left (by assumption))) (by decide)).mono ?_; rintro e w' ⟨rfl, hb⟩; have hB2 : Below wr.heap.size wr w' := bstep (And.left (by assumption)) hb)
          | (go_at_call 13; refine (raw_stuck _ 5 _ _ (hWk.block (by exact And.left (by assumption))) (by decide)).mono ?_; rintro e w' ⟨rfl, rfl⟩; have hB2 : Below wr.heap.size wr _ := And.left (by assumption)))
      go_wp2_with (first
        | (go_at_call 17; refine (rnum_stuck _ 2 _ _ (hRk.block hB2) (by decide)).mono ?_; rintro e wA ⟨rfl, hbA⟩; have hBA := bstep hB2 hbA; have c1 := (hBA.cell hbl).trans a1)
        | (go_at_call 19; refine (rtext_stuck _ 2 _ _ (hRk.block hBA) (by decide)).mono ?_; rintro e wB ⟨rfl, hbB⟩; have hBB := bstep hBA hbB; have c2 := (hBB.cell hbl).trans a1)
        | (go_at_call 21; refine (rraw_stuck _ 2 _ _ (hRk.block hBB) (by decide)).mono ?_; rintro e wC ⟨rfl, hbC⟩; have hBC := bstep hBB hbC)
        | (go_at_call 23; refine (left_stuck _ 2 _ (hRk.block hBC) (by decide)).mono ?_; rintro e wD ⟨rfl, rfl⟩)
        | (go_at_call 24; refine (err_any _ 2 _ (hRk.block hBC)).mono ?_; rintro e wE ⟨rfl, rfl⟩))
      go_roundw
      case rel => exact ⟨k + 1, by omega, by omega, by go_num, hRk.block hBC, hWk.block hBC, hBk.trans (hBC.mono (by have := hBk.size; omega))⟩
      case measure => simp [intOf]; omega
    · have hAk : Below w.heap.size w wr := hR ▸ hBk
      by_cases hkn : k < n
      · obtain rfl : k = 20 := by omega
        go_wp2_with (first
          | (go_at_call 14; refine (done_stuck _ 5 _ hWk (by decide)).mono ?_; rintro e wD ⟨rfl, rfl⟩)
          | (go_at_call 25; refine (end_stuck _ 2 _ hRk (by decide)).mono ?_; rintro e wE ⟨rfl, rfl⟩)
          | (go_at_call 15; refine (awake_any _).mono ?_; rintro e wF ⟨rfl, hbF⟩))
        go_ret
        exact ⟨rfl, hR ▸ hBk.trans (hbF.mono (by have := hBk.size; omega))⟩
      · have i3 : ¬ (k : Int) < (n : Int) := by omega
        go_wp2_with (first
          | (go_at_call 14; refine (done_stuck _ 5 _ hWk (by decide)).mono ?_; rintro e wD ⟨rfl, rfl⟩)
          | (go_at_call 25; refine (end_stuck _ 2 _ hRk (by decide)).mono ?_; rintro e wE ⟨rfl, rfl⟩)
          | (go_at_call 15; refine (awake_any _).mono ?_; rintro e wF ⟨rfl, hbF⟩))
        go_ret
        exact ⟨rfl, hR ▸ hBk.trans (hbF.mono (by have := hBk.size; omega))⟩
end Go.Proofs.Ytbloijnkkjmldaa.oct
