/-
  Contracts of package octet's Reader, the rest: Num, Text, Raw, Left, End.
-/
import Derived.Test.YtbloijnkkjmldaaOctn
namespace Go.Proofs.Ytbloijnkkjmldaa.oct
open Go.RowKit

def rNum (st : ByteArray × Int) (b : Int) : Int × (ByteArray × Int) :=
  if sz b = false then (0, if st.2 ≠ 0 then st else (⟨#[]⟩, 1)) else (num (rTake st b).1.data.toList, (rTake st b).2)
def rText (st : ByteArray × Int) (most : Int) : ByteArray × (ByteArray × Int) :=
  if most < (rNum st 2).1 then (⟨#[]⟩, if (rNum st 2).2.2 ≠ 0 then (rNum st 2).2 else (⟨#[]⟩, 3)) else rTake (rNum st 2).2 (rNum st 2).1

theorem rNum_stuck (st : ByteArray × Int) (b : Int) (h : st.2 ≠ 0) : rNum st b = (0, st) := by
  unfold rNum
  split
  · first | rfl | rw [if_pos h]
  · have e : rTake st b = (⟨#[]⟩, st) := by unfold rTake; rw [if_pos h]
    rw [e]; rfl

theorem rNum_le (st : ByteArray × Int) (b : Int) : (rNum st b).2.1.size ≤ st.1.size := by
  unfold rNum
  split
  · split
    · exact Nat.le_refl _
    · exact Nat.zero_le _
  · exact (rTake_le st b).2

/-- the block that a call has laid for its error is outside what the Reader's own calls turn -/
theorem fresh_not {w : World} {g : Nat} (hg : g < w.heap.size) (o : Obj) : ¬ Only (w.alloc o) g w.heap.size := by
  rintro (h | h)
  · omega
  · simp at h; omega
theorem Only.sub {w : World} {F : Nat → Prop} {g : Nat} (hF : F g) (hn : New F w) (o : Obj) : ∀ k, Only (w.alloc o) g k → F k := by
  rintro k (h | h)
  · exact h ▸ hF
  · exact hn k (by simp at h; omega)

theorem rnum_ok (F : Nat → Prop) (g : Nat) (rest : ByteArray) (b : Int) (w : World) (h : RBlk w g rest 0) (hF : F g) (hn : New F w) :
    Calls Try.prog 17 #[.pointer (some ⟨g, 0, none⟩), .int .i64 b] w fun e w' => e = .returned (.int .i64 (rNum (rest, 0) b).1) ∧ RBlk w' g (rNum (rest, 0) b).2.1 (rNum (rest, 0) b).2.2 ∧ Turn F w w' := by
  by_cases hs : sz b = true
  · have hw0 : RBlk (w.alloc (.cells #[.int .i64 0] 32)) g rest 0 := Blk.alloc h _
    have hsz : (rTake (rest, 0) b).1.size = 0 ∨ (rTake (rest, 0) b).1.size = 1 ∨ (rTake (rest, 0) b).1.size = 2 ∨ (rTake (rest, 0) b).1.size = 4 := by
      have h1 := rTake_size (rest, 0) b
      have h2 : b = 1 ∨ b = 2 ∨ b = 4 := by simp [sz] at hs; omega
      omega
    have e2 : rNum (rest, 0) b = (num (rTake (rest, 0) b).1.data.toList, (rTake (rest, 0) b).2) := by unfold rNum; rw [if_neg (by simp [hs])]
    rw [e2]
    have HSZ := Lib.hid hsz
    clear hsz e2
    generalize ht : rTake (rest, 0) b = T at HSZ
    have HT := Lib.hid ht
    clear ht
    go_enter_defers Try.func17, Try.ntmps17
    go_wp2_with (first
      | (go_at_call 29; refine (isSize_any _ _).mono ?_; rintro e w' ⟨rfl, rfl⟩; rw [hs])
      | (go_at_call 33; refine (take_any (Only (w.alloc (.cells #[.int .i64 0] 32)) g) g rest 0 b _ hw0 (Only.self _ _) (Only.new _ _)).mono ?_; rw [HT.out]; rintro e w1 ⟨rfl, hw1, ht1⟩)
      | (go_at_call 32; refine (number_any T.1 _ HSZ.out).mono ?_; rintro e w2 ⟨rfl, k, rfl⟩))
    refine leaves_cons (f := 31) (args := #[.pointer (some ⟨g, 0, none⟩), .pointer (some ⟨w.heap.size, 0, none⟩)]) (by simp) (by simp [go_sem]) ?_
    have hE : Blk w1 w.heap.size 32 #[.int .i64 0] := Blk.turn (Blk.new w _ _) ht1 (fresh_not (Blk.lt h) _)
    have hw2 : RBlk (w1.drewN k) g T.2.1 T.2.2 := hw1
    refine (rkeep_still _ _ T.2.2 0 .returning _ hw2.fault ?_ (.inr rfl)).mono ?_
    · exact hE.cell 0
    rintro e u' w'' ⟨rfl, rfl, rfl⟩
    exact ⟨_, results_tmp rfl _ _ _, rfl, hw2, (((Turn.refl F w).alloc hn _).trans (ht1.mono (Only.sub hF hn _))).drewN k⟩
  · have hs : sz b = false := by simpa using hs
    have e2 : rNum (rest, 0) b = (0, (⟨#[]⟩, 1)) := by unfold rNum; rw [if_pos hs, if_neg (by simp)]
    rw [e2]
    clear e2
    go_enter_defers Try.func17, Try.ntmps17
    go_wp2_with (go_at_call 29; refine (isSize_any _ _).mono ?_; rintro e w' ⟨rfl, rfl⟩; rw [hs])
    refine leaves_cons (f := 31) (args := #[.pointer (some ⟨g, 0, none⟩), .pointer (some ⟨w.heap.size, 0, none⟩)]) (by simp) (by simp [go_sem]) ?_
    have hw1 : RBlk (w.alloc (.cells #[.int .i64 1] 32)) g rest 0 := Blk.alloc h _
    refine (rkeep_sets g ⟨w.heap.size, 0, none⟩ rest 1 .returning _ hw1 ?_ (by decide)).mono ?_
    · exact (Blk.new w 32 #[.int .i64 1]).cell 0
    rintro e u' w'' ⟨rfl, rfl, rfl⟩
    exact ⟨_, results_tmp rfl _ _ _, rfl, hw1.dropped 1, (((Turn.refl F w).alloc hn _).setCell (p := ⟨g, 1, none⟩) hF _).setCell (p := ⟨g, 2, none⟩) hF _⟩

theorem rnum_any (F : Nat → Prop) (g : Nat) (rest : ByteArray) (err b : Int) (w : World) (h : RBlk w g rest err) (hF : F g) (hn : New F w) :
    Calls Try.prog 17 #[.pointer (some ⟨g, 0, none⟩), .int .i64 b] w fun e w' => e = .returned (.int .i64 (rNum (rest, err) b).1) ∧ RBlk w' g (rNum (rest, err) b).2.1 (rNum (rest, err) b).2.2 ∧ Turn F w w' := by
  by_cases he : err = 0
  · subst he
    exact rnum_ok F g rest b w h hF hn
  · rw [rNum_stuck (rest, err) b he]
    exact (rnum_stuck _ err b w h.fault he).mono fun e w' ⟨h1, h2⟩ => ⟨h1, Blk.below h h2 (Blk.lt h), Turn.fresh h2 hn⟩

theorem rraw_stuck (p : Option Addr) (e0 n : Int) (w : World) (h : RFault w p e0) (h0 : e0 ≠ 0) :
    Calls Try.prog 21 #[.pointer p, .int .i64 n] w fun e w' => e = .returned (.string ⟨#[]⟩) ∧ Below w.heap.size w w' := by
  have H0 := Lib.hid h0
  clear h0
  go_enter Try.func21, Try.ntmps21
  go_wp2_with (first
    | (go_at_call 33; refine (take_stuck p e0 n _ h H0.out).mono ?_; rintro e w1 ⟨rfl, hb1⟩)
    | (go_at_call 34; refine (sclone_any ⟨#[]⟩ _ (by decide)).mono ?_; rintro e w2 ⟨rfl, hb2⟩))
  go_ret
  exact ⟨rfl, hb1.trans (hb2.mono hb1.size)⟩

theorem rraw_any (F : Nat → Prop) (g : Nat) (rest : ByteArray) (err n : Int) (w : World) (h : RBlk w g rest err) (hF : F g) (hn : New F w) (hr : rest.size ≤ 281474976710656) :
    Calls Try.prog 21 #[.pointer (some ⟨g, 0, none⟩), .int .i64 n] w fun e w' => e = .returned (.string (rTake (rest, err) n).1) ∧ RBlk w' g (rTake (rest, err) n).2.1 (rTake (rest, err) n).2.2 ∧ Turn F w w' := by
  have hle := rTake_le (rest, err) n
  generalize ht : rTake (rest, err) n = T at hle
  have HT := Lib.hid ht
  clear ht
  go_enter Try.func21, Try.ntmps21
  go_wp2_with (first
    | (go_at_call 33; refine (take_any (Only w g) g rest err n _ h (Only.self _ _) (Only.new _ _)).mono ?_; rw [HT.out]; rintro e w1 ⟨rfl, hw1, ht1⟩)
    | (go_at_call 34; refine (sclone_any T.1 _ (by omega)).mono ?_; rintro e w2 ⟨rfl, hb2⟩))
  go_ret
  have ht2 : Turn F w w1 := ht1.mono (by
    rintro k (hk | hk)
    · exact hk ▸ hF
    · exact hn k hk)
  exact ⟨rfl, Blk.below hw1 hb2 (Blk.lt hw1), ht2.trans (Turn.fresh hb2 (hn.turn ht2))⟩

theorem rtext_stuck (p : Option Addr) (e0 n : Int) (w : World) (h : RFault w p e0) (h0 : e0 ≠ 0) :
    Calls Try.prog 19 #[.pointer p, .int .i64 n] w fun e w' => e = .returned (.string ⟨#[]⟩) ∧ Below w.heap.size w w' := by
  have H0 := Lib.hid h0
  clear h0
  have hb1 : Below w.heap.size w (w.alloc (.cells #[.int .i64 0] 32)) := (Below.refl _ _).alloc (Nat.le_refl _) _
  by_cases hn : n < 0
  · go_enter_defers Try.func19, Try.ntmps19
    go_wp2_with (go_at_call 17; refine (rnum_stuck p e0 2 _ (h.block hb1) H0.out).mono ?_; rintro e w1 ⟨rfl, hb2⟩; have hE : Blk w1 w.heap.size 32 #[.int .i64 0] := Blk.below (Blk.new w _ _) hb2 (by simp); have hc := hE.cell 0; have hf := hE.frozen 0)
    have hb3 : Below w.heap.size w (w1.setCell ⟨w.heap.size, 0, none⟩ (.int .i64 3)) := (hb1.trans (hb2.mono (by simp))).setCell (Nat.le_refl _) _
    refine leaves_cons (f := 31) (args := #[.pointer p, .pointer (some ⟨w.heap.size, 0, none⟩)]) (by simp) (by simp [go_sem]) ?_
    refine (rkeep_still p _ e0 3 .returning _ (h.block hb3) ?_ (.inl H0.out)).mono ?_
    · exact (Blk.set_ hE 0 (.int .i64 3)).cell 0
    rintro e u' w'' ⟨rfl, rfl, rfl⟩
    exact ⟨_, results_tmp rfl _ _ _, rfl, hb3⟩
  · go_enter_defers Try.func19, Try.ntmps19
    go_wp2_with (first
      | (go_at_call 17; refine (rnum_stuck p e0 2 _ (h.block hb1) H0.out).mono ?_; rintro e w1 ⟨rfl, hb2⟩; have hb3 : Below w.heap.size w w1 := hb1.trans (hb2.mono (by simp)))
      | (go_at_call 33; refine (take_stuck p e0 0 _ (h.block hb3) H0.out).mono ?_; rintro e w2 ⟨rfl, hb4⟩)
      | (go_at_call 34; refine (sclone_any ⟨#[]⟩ _ (by decide)).mono ?_; rintro e w3 ⟨rfl, hb5⟩))
    have hb : Below w.heap.size w w3 := (hb3.trans (hb4.mono hb3.size)).trans (hb5.mono (Nat.le_trans hb3.size hb4.size))
    have hE : Blk w3 w.heap.size 32 #[.int .i64 0] := Blk.below (Blk.below (Blk.below (Blk.new w _ _) hb2 (by simp)) hb4 (by have := hb2.size; simp at this; omega)) hb5 (by have h1 := hb2.size; have h2 := hb4.size; simp at h1; omega)
    refine leaves_cons (f := 31) (args := #[.pointer p, .pointer (some ⟨w.heap.size, 0, none⟩)]) (by simp) (by simp [go_sem]) ?_
    refine (rkeep_still p _ e0 0 .returning _ (h.block hb) ?_ (.inr rfl)).mono ?_
    · exact hE.cell 0
    rintro e u' w'' ⟨rfl, rfl, rfl⟩
    exact ⟨_, results_tmp rfl _ _ _, rfl, hb⟩

theorem rtext_any (F : Nat → Prop) (g : Nat) (rest : ByteArray) (err n : Int) (w : World) (h : RBlk w g rest err) (hF : F g) (hn : New F w) (hr : rest.size ≤ 281474976710656) :
    Calls Try.prog 19 #[.pointer (some ⟨g, 0, none⟩), .int .i64 n] w fun e w' => e = .returned (.string (rText (rest, err) n).1) ∧ RBlk w' g (rText (rest, err) n).2.1 (rText (rest, err) n).2.2 ∧ Turn F w w' := by
  have hle := rNum_le (rest, err) 2
  have hw0 : RBlk (w.alloc (.cells #[.int .i64 0] 32)) g rest err := Blk.alloc h _
  have hlt := Blk.lt h
  unfold rText
  generalize ht : rNum (rest, err) 2 = N at hle
  have HT := Lib.hid ht
  clear ht
  obtain ⟨a, r1, e1⟩ := N
  simp only at hle ⊢
  have hT0 : Turn F w (w.alloc (.cells #[.int .i64 0] 32)) := (Turn.refl F w).alloc hn _
  by_cases hna : n < a
  · rw [if_pos hna]
    by_cases he : e1 = 0
    · subst he
      rw [if_neg (by simp)]
      go_enter_defers Try.func19, Try.ntmps19
      go_wp2_with (go_at_call 17; refine (rnum_any (Only (w.alloc (.cells #[.int .i64 0] 32)) g) g rest err 2 _ hw0 (Only.self _ _) (Only.new _ _)).mono ?_; rw [HT.out]; rintro e w1 ⟨rfl, hw1, ht1⟩; have hE : Blk w1 w.heap.size 32 #[.int .i64 0] := Blk.turn (Blk.new w _ _) ht1 (fresh_not hlt _); have hc := hE.cell 0; have hf := hE.frozen 0)
      have hT1 : Turn F w (w1.setCell ⟨w.heap.size, 0, none⟩ (.int .i64 3)) := (hT0.trans (ht1.mono (Only.sub hF hn _))).setCell (p := ⟨w.heap.size, 0, none⟩) (hn _ (Nat.le_refl _)) _
      have hw2 : RBlk (w1.setCell ⟨w.heap.size, 0, none⟩ (.int .i64 3)) g r1 0 := Blk.far hw1 (p := ⟨w.heap.size, 0, none⟩) (by simp; omega) _
      refine leaves_cons (f := 31) (args := #[.pointer (some ⟨g, 0, none⟩), .pointer (some ⟨w.heap.size, 0, none⟩)]) (by simp) (by simp [go_sem]) ?_
      refine (rkeep_sets g ⟨w.heap.size, 0, none⟩ r1 3 .returning _ hw2 ?_ (by decide)).mono ?_
      · exact (Blk.set_ hE 0 (.int .i64 3)).cell 0
      rintro e u' w'' ⟨rfl, rfl, rfl⟩
      exact ⟨_, results_tmp rfl _ _ _, rfl, hw2.dropped 3, (hT1.setCell (p := ⟨g, 1, none⟩) hF _).setCell (p := ⟨g, 2, none⟩) hF _⟩
    · rw [if_pos he]
      have HE := Lib.hid he
      clear he
      go_enter_defers Try.func19, Try.ntmps19
      go_wp2_with (go_at_call 17; refine (rnum_any (Only (w.alloc (.cells #[.int .i64 0] 32)) g) g rest err 2 _ hw0 (Only.self _ _) (Only.new _ _)).mono ?_; rw [HT.out]; rintro e w1 ⟨rfl, hw1, ht1⟩; have hE : Blk w1 w.heap.size 32 #[.int .i64 0] := Blk.turn (Blk.new w _ _) ht1 (fresh_not hlt _); have hc := hE.cell 0; have hf := hE.frozen 0)
      have hT1 : Turn F w (w1.setCell ⟨w.heap.size, 0, none⟩ (.int .i64 3)) := (hT0.trans (ht1.mono (Only.sub hF hn _))).setCell (p := ⟨w.heap.size, 0, none⟩) (hn _ (Nat.le_refl _)) _
      have hw2 : RBlk (w1.setCell ⟨w.heap.size, 0, none⟩ (.int .i64 3)) g r1 e1 := Blk.far hw1 (p := ⟨w.heap.size, 0, none⟩) (by simp; omega) _
      refine leaves_cons (f := 31) (args := #[.pointer (some ⟨g, 0, none⟩), .pointer (some ⟨w.heap.size, 0, none⟩)]) (by simp) (by simp [go_sem]) ?_
      refine (rkeep_still _ ⟨w.heap.size, 0, none⟩ e1 3 .returning _ hw2.fault ?_ (.inl HE.out)).mono ?_
      · exact (Blk.set_ hE 0 (.int .i64 3)).cell 0
      rintro e u' w'' ⟨rfl, rfl, rfl⟩
      exact ⟨_, results_tmp rfl _ _ _, rfl, hw2, hT1⟩
  · rw [if_neg hna]
    have hle2 := rTake_le (r1, e1) a
    generalize hk : rTake (r1, e1) a = T at hle2
    have HK := Lib.hid hk
    clear hk
    obtain ⟨s2, r2, e2⟩ := T
    simp only at hle2 ⊢
    go_enter_defers Try.func19, Try.ntmps19
    go_wp2_with (first
      | (go_at_call 17; refine (rnum_any (Only (w.alloc (.cells #[.int .i64 0] 32)) g) g rest err 2 _ hw0 (Only.self _ _) (Only.new _ _)).mono ?_; rw [HT.out]; rintro e w1 ⟨rfl, hw1, ht1⟩)
      | (go_at_call 33; refine (take_any (Only (w.alloc (.cells #[.int .i64 0] 32)) g) g r1 e1 a _ hw1 (Only.self _ _) ((Only.new _ _).turn ht1)).mono ?_; rw [HK.out]; rintro e w2 ⟨rfl, hw2, ht2⟩)
      | (go_at_call 34; refine (sclone_any s2 _ (by omega)).mono ?_; rintro e w3 ⟨rfl, hb3⟩))
    have ht3 : Turn (Only (w.alloc (.cells #[.int .i64 0] 32)) g) (w.alloc (.cells #[.int .i64 0] 32)) w3 := (ht1.trans ht2).trans (Turn.fresh hb3 ((Only.new _ _).turn (ht1.trans ht2)))
    have hE : Blk w3 w.heap.size 32 #[.int .i64 0] := Blk.turn (Blk.new w _ _) ht3 (fresh_not hlt _)
    have hw3 : RBlk w3 g r2 e2 := Blk.below hw2 hb3 (Blk.lt hw2)
    refine leaves_cons (f := 31) (args := #[.pointer (some ⟨g, 0, none⟩), .pointer (some ⟨w.heap.size, 0, none⟩)]) (by simp) (by simp [go_sem]) ?_
    refine (rkeep_still _ ⟨w.heap.size, 0, none⟩ e2 0 .returning _ hw3.fault ?_ (.inr rfl)).mono ?_
    · exact hE.cell 0
    rintro e u' w'' ⟨rfl, rfl, rfl⟩
    exact ⟨_, results_tmp rfl _ _ _, rfl, hw3, hT0.trans (ht3.mono (Only.sub hF hn _))⟩

theorem left_stuck (p : Option Addr) (e0 : Int) (w : World) (h : RFault w p e0) (h0 : e0 ≠ 0) :
    Calls Try.prog 23 #[.pointer p] w fun e w' => e = .returned (.int .i64 0) ∧ w = w' := by
  have hd : (e0 != 0) = true := by simpa using h0
  clear h0
  go_enter Try.func23, Try.ntmps23
  go_wp2_with (go_at_call 24; refine (err_any _ _ _ h).mono ?_; rintro e w' ⟨rfl, rfl⟩)
  go_ret
  exact ⟨rfl, rfl⟩
theorem left_ok (g : Nat) (rest : ByteArray) (w : World) (h : RBlk w g rest 0) :
    Calls Try.prog 23 #[.pointer (some ⟨g, 0, none⟩)] w fun e w' => e = .returned (.int .i64 rest.size) ∧ w = w' := by
  have c1 := h.c1
  go_enter Try.func23, Try.ntmps23
  go_wp2_with (go_at_call 24; refine (err_ok _ _ _ _ h).mono ?_; rintro e w' ⟨rfl, rfl⟩)
  go_ret
  exact ⟨rfl, rfl⟩
def rLeft (st : ByteArray × Int) : Int := if st.2 ≠ 0 then 0 else st.1.size
theorem left_any (g : Nat) (rest : ByteArray) (err : Int) (w : World) (h : RBlk w g rest err) :
    Calls Try.prog 23 #[.pointer (some ⟨g, 0, none⟩)] w fun e w' => e = .returned (.int .i64 (rLeft (rest, err))) ∧ w = w' := by
  by_cases he : err = 0
  · subst he
    have e2 : rLeft (rest, 0) = rest.size := by unfold rLeft; rw [if_neg (by simp)]
    rw [e2]
    exact left_ok g rest w h
  · have e2 : rLeft (rest, err) = 0 := by unfold rLeft; rw [if_pos he]
    rw [e2]
    exact left_stuck _ err w h.fault he

theorem end_stuck (p : Option Addr) (e0 : Int) (w : World) (h : RFault w p e0) (h0 : e0 ≠ 0) :
    Calls Try.prog 25 #[.pointer p] w fun e w' => e = .returned (.int .i64 e0) ∧ w = w' := by
  have hd : (e0 != 0) = true := by simpa using h0
  clear h0
  go_enter Try.func25, Try.ntmps25
  go_wp2_with (go_at_call 24; refine (err_any _ _ _ h).mono ?_; rintro e w' ⟨rfl, rfl⟩)
  go_ret
  exact ⟨rfl, rfl⟩
def rEnd (st : ByteArray × Int) : Int := if st.2 ≠ 0 then st.2 else if st.1.data.toList.isEmpty then 0 else 4
theorem end_ok (g : Nat) (rest : ByteArray) (w : World) (h : RBlk w g rest 0) :
    Calls Try.prog 25 #[.pointer (some ⟨g, 0, none⟩)] w fun e w' => e = .returned (.int .i64 (if rest.data.toList.isEmpty then 0 else 4)) ∧ w = w' := by
  have c1 := h.c1
  by_cases he : rest.data.toList.isEmpty = true
  · rw [if_pos he]
    have h2 : (!rest.toList.isEmpty) = false := by rw [ByteArray.toList_eq, he]; rfl
    go_enter Try.func25, Try.ntmps25
    go_wp2_with (go_at_call 24; refine (err_ok _ _ _ _ h).mono ?_; rintro e w' ⟨rfl, rfl⟩)
    go_ret
    exact ⟨rfl, rfl⟩
  · rw [if_neg he]
    have he : rest.data.toList.isEmpty = false := by simpa using he
    have h2 : (!rest.toList.isEmpty) = true := by rw [ByteArray.toList_eq, he]; rfl
    go_enter Try.func25, Try.ntmps25
    go_wp2_with (go_at_call 24; refine (err_ok _ _ _ _ h).mono ?_; rintro e w' ⟨rfl, rfl⟩)
    go_ret
    exact ⟨rfl, rfl⟩
theorem end_any (g : Nat) (rest : ByteArray) (err : Int) (w : World) (h : RBlk w g rest err) :
    Calls Try.prog 25 #[.pointer (some ⟨g, 0, none⟩)] w fun e w' => e = .returned (.int .i64 (rEnd (rest, err))) ∧ w = w' := by
  by_cases he : err = 0
  · subst he
    have e2 : rEnd (rest, 0) = if rest.data.toList.isEmpty then 0 else 4 := by unfold rEnd; rw [if_neg (by simp)]
    rw [e2]
    exact end_ok g rest w h
  · have e2 : rEnd (rest, err) = err := by unfold rEnd; rw [if_pos he]
    rw [e2]
    exact end_stuck _ err w h.fault he
end Go.Proofs.Ytbloijnkkjmldaa.oct
