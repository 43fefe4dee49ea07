/-
  Contracts of package octet: Reader.Text.
-/
import Derived.Test.YtbfjljbllfjicaaOcts
namespace Go.Proofs.Ytbfjljbllfjicaa.oct
open Go.RowKit Go.Proofs.Ytbfjljbllfjicaa.mem

theorem rtext_stuck (p : Option Addr) (e0 n : Int) (w : World) (h : RFault w p e0) (h0 : e0 ≠ 0) :
    Calls Try.prog 52 #[.pointer p, .int .i64 n] w fun e w' => e = .returned (.string ⟨#[]⟩) ∧ Below w.heap.size w w' := by
  have H0 := Lib.hid h0
  clear h0
  have hb1 : Below w.heap.size w (w.alloc (.cells #[.int .i64 0] 26)) := (Below.refl _ _).alloc (Nat.le_refl _) _
  by_cases hn : n < 0
  · go_enter_defers Try.func52, Try.ntmps52
    go_wp2_with (go_at_call 33; refine (rnum_stuck p e0 2 _ (h.block hb1) H0.out).mono ?_; rintro e w1 ⟨rfl, hb2⟩; have hE : Blk w1 w.heap.size 26 #[.int .i64 0] := Blk.below (Blk.new w _ _) hb2 (by simp); have hc := hE.cell 0; have hf := hE.frozen 0)
    have hb3 : Below w.heap.size w (w1.setCell ⟨w.heap.size, 0, none⟩ (.int .i64 3)) := (hb1.trans (hb2.mono (by simp))).setCell (Nat.le_refl _) _
    refine leaves_cons (f := 48) (args := #[.pointer p, .pointer (some ⟨w.heap.size, 0, none⟩)]) (by simp) (by simp [go_sem]) ?_
    refine (rkeep_still p _ e0 3 .returning _ (h.block hb3) ?_ (.inl H0.out)).mono ?_
    · exact (Blk.set_ hE 0 (.int .i64 3)).cell 0
    rintro e u' w'' ⟨rfl, rfl, rfl⟩
    exact ⟨_, results_tmp rfl _ _ _, rfl, hb3⟩
  · go_enter_defers Try.func52, Try.ntmps52
    go_wp2_with (first
      | (go_at_call 33; refine (rnum_stuck p e0 2 _ (h.block hb1) H0.out).mono ?_; rintro e w1 ⟨rfl, hb2⟩; have hb3 : Below w.heap.size w w1 := hb1.trans (hb2.mono (by simp)))
      | (go_at_call 50; refine (take_stuck p e0 0 _ (h.block hb3) H0.out).mono ?_; rintro e w2 ⟨rfl, hb4⟩)
      | (go_at_call 57; refine (sclone_any ⟨#[]⟩ _ (by decide)).mono ?_; rintro e w3 ⟨rfl, hb5⟩))
    have hb : Below w.heap.size w w3 := (hb3.trans (hb4.mono hb3.size)).trans (hb5.mono (Nat.le_trans hb3.size hb4.size))
    have hE : Blk w3 w.heap.size 26 #[.int .i64 0] := Blk.below (Blk.below (Blk.below (Blk.new w _ _) hb2 (by simp)) hb4 (by have := hb2.size; simp at this; omega)) hb5 (by have h1 := hb2.size; have h2 := hb4.size; simp at h1; omega)
    refine leaves_cons (f := 48) (args := #[.pointer p, .pointer (some ⟨w.heap.size, 0, none⟩)]) (by simp) (by simp [go_sem]) ?_
    refine (rkeep_still p _ e0 0 .returning _ (h.block hb) ?_ (.inr rfl)).mono ?_
    · exact hE.cell 0
    rintro e u' w'' ⟨rfl, rfl, rfl⟩
    exact ⟨_, results_tmp rfl _ _ _, rfl, hb⟩
theorem rtext_any (F : Nat → Prop) (g : Nat) (rest : ByteArray) (err n : Int) (w : World) (h : RBlk w g rest err) (hF : F g) (hn : New F w) (hr : rest.size ≤ 281474976710656) :
    Calls Try.prog 52 #[.pointer (some ⟨g, 0, none⟩), .int .i64 n] w fun e w' => e = .returned (.string (rText (rest, err) n).1) ∧ RBlk w' g (rText (rest, err) n).2.1 (rText (rest, err) n).2.2 ∧ Turn F w w' := by
  have hle := rNum_le (rest, err) 2
  have hw0 : RBlk (w.alloc (.cells #[.int .i64 0] 26)) g rest err := Blk.alloc h _
  have hlt := Blk.lt h
  unfold rText
  generalize ht : rNum (rest, err) 2 = N at hle
  have HT := Lib.hid ht
  clear ht
  obtain ⟨a, r1, e1⟩ := N
  simp only at hle ⊢
  have hT0 : Turn F w (w.alloc (.cells #[.int .i64 0] 26)) := (Turn.refl F w).alloc hn _
  by_cases hna : n < a
  · rw [if_pos hna]
    by_cases he : e1 = 0
    · subst he
      rw [if_neg (by simp)]
      go_enter_defers Try.func52, Try.ntmps52
      go_wp2_with (go_at_call 33; refine (rnum_any (Only (w.alloc (.cells #[.int .i64 0] 26)) g) g rest err 2 _ hw0 (Only.self _ _) (Only.new _ _)).mono ?_; rw [HT.out]; rintro e w1 ⟨rfl, hw1, ht1⟩; have hE : Blk w1 w.heap.size 26 #[.int .i64 0] := Blk.turn (Blk.new w _ _) ht1 (fresh_not hlt _); have hc := hE.cell 0; have hf := hE.frozen 0)
      have hT1 : Turn F w (w1.setCell ⟨w.heap.size, 0, none⟩ (.int .i64 3)) := (hT0.trans (ht1.mono (Only.sub hF hn _))).setCell (p := ⟨w.heap.size, 0, none⟩) (hn _ (Nat.le_refl _)) _
      have hw2 : RBlk (w1.setCell ⟨w.heap.size, 0, none⟩ (.int .i64 3)) g r1 0 := Blk.far hw1 (p := ⟨w.heap.size, 0, none⟩) (by simp; omega) _
      refine leaves_cons (f := 48) (args := #[.pointer (some ⟨g, 0, none⟩), .pointer (some ⟨w.heap.size, 0, none⟩)]) (by simp) (by simp [go_sem]) ?_
      refine (rkeep_sets g ⟨w.heap.size, 0, none⟩ r1 3 .returning _ hw2 ?_ (by decide)).mono ?_
      · exact (Blk.set_ hE 0 (.int .i64 3)).cell 0
      rintro e u' w'' ⟨rfl, rfl, rfl⟩
      exact ⟨_, results_tmp rfl _ _ _, rfl, hw2.dropped 3, (hT1.setCell (p := ⟨g, 1, none⟩) hF _).setCell (p := ⟨g, 2, none⟩) hF _⟩
    · rw [if_pos he]
      have HE := Lib.hid he
      clear he
      go_enter_defers Try.func52, Try.ntmps52
      go_wp2_with (go_at_call 33; refine (rnum_any (Only (w.alloc (.cells #[.int .i64 0] 26)) g) g rest err 2 _ hw0 (Only.self _ _) (Only.new _ _)).mono ?_; rw [HT.out]; rintro e w1 ⟨rfl, hw1, ht1⟩; have hE : Blk w1 w.heap.size 26 #[.int .i64 0] := Blk.turn (Blk.new w _ _) ht1 (fresh_not hlt _); have hc := hE.cell 0; have hf := hE.frozen 0)
      have hT1 : Turn F w (w1.setCell ⟨w.heap.size, 0, none⟩ (.int .i64 3)) := (hT0.trans (ht1.mono (Only.sub hF hn _))).setCell (p := ⟨w.heap.size, 0, none⟩) (hn _ (Nat.le_refl _)) _
      have hw2 : RBlk (w1.setCell ⟨w.heap.size, 0, none⟩ (.int .i64 3)) g r1 e1 := Blk.far hw1 (p := ⟨w.heap.size, 0, none⟩) (by simp; omega) _
      refine leaves_cons (f := 48) (args := #[.pointer (some ⟨g, 0, none⟩), .pointer (some ⟨w.heap.size, 0, none⟩)]) (by simp) (by simp [go_sem]) ?_
      refine (rkeep_still _ ⟨w.heap.size, 0, none⟩ e1 3 .returning _ hw2.fault ?_ (.inl HE.out)).mono ?_
      · exact (Blk.set_ hE 0 (.int .i64 3)).cell 0
      rintro e u' w'' ⟨rfl, rfl, rfl⟩
      exact ⟨_, results_tmp rfl _ _ _, rfl, hw2, hT1⟩
  · rw [if_neg hna]
    have hle2 := rTake_le (r1, e1) a
    generalize hk : rTake (r1, e1) a = T at hle2
    have HK := Lib.hid hk
    clear hk
    obtain ⟨s2, r2, e2⟩ := T
    simp only at hle2 ⊢
    go_enter_defers Try.func52, Try.ntmps52
    go_wp2_with (first
      | (go_at_call 33; refine (rnum_any (Only (w.alloc (.cells #[.int .i64 0] 26)) g) g rest err 2 _ hw0 (Only.self _ _) (Only.new _ _)).mono ?_; rw [HT.out]; rintro e w1 ⟨rfl, hw1, ht1⟩)
      | (go_at_call 50; refine (take_any (Only (w.alloc (.cells #[.int .i64 0] 26)) g) g r1 e1 a _ hw1 (Only.self _ _) ((Only.new _ _).turn ht1)).mono ?_; rw [HK.out]; rintro e w2 ⟨rfl, hw2, ht2⟩)
      | (go_at_call 57; refine (sclone_any s2 _ (by omega)).mono ?_; rintro e w3 ⟨rfl, hb3⟩))
    have ht3 : Turn (Only (w.alloc (.cells #[.int .i64 0] 26)) g) (w.alloc (.cells #[.int .i64 0] 26)) w3 := (ht1.trans ht2).trans (Turn.fresh hb3 ((Only.new _ _).turn (ht1.trans ht2)))
    have hE : Blk w3 w.heap.size 26 #[.int .i64 0] := Blk.turn (Blk.new w _ _) ht3 (fresh_not hlt _)
    have hw3 : RBlk w3 g r2 e2 := Blk.below hw2 hb3 (Blk.lt hw2)
    refine leaves_cons (f := 48) (args := #[.pointer (some ⟨g, 0, none⟩), .pointer (some ⟨w.heap.size, 0, none⟩)]) (by simp) (by simp [go_sem]) ?_
    refine (rkeep_still _ ⟨w.heap.size, 0, none⟩ e2 0 .returning _ hw3.fault ?_ (.inr rfl)).mono ?_
    · exact hE.cell 0
    rintro e u' w'' ⟨rfl, rfl, rfl⟩
    exact ⟨_, results_tmp rfl _ _ _, rfl, hw3, hT0.trans (ht3.mono (Only.sub hF hn _))⟩
end Go.Proofs.Ytbfjljbllfjicaa.oct
