/-
  Contracts of package octet's Reader, the rest: Num, Raw, End.
-/
import Derived.Test.YtbhkegdohiekfaaDoorOctn
namespace Go.Proofs.YtbhkegdohiekfaaDoor.oct
open Go.RowKit Go.Proofs.YtbhkegdohiekfaaDoor.mem

theorem rNum_stuck (st : ByteArray × Int) (b : Int) (h : st.2 ≠ 0) : rNum st b = (0, st) := by
  unfold rNum
  split
  · first | rfl | rw [if_pos h]
  · have e : rTake st b = (⟨#[]⟩, st) := by unfold rTake; rw [if_pos h]
    rw [e]; rfl
theorem rNum_le (st : ByteArray × Int) (b : Int) : (rNum st b).2.1.size ≤ st.1.size := by
  unfold rNum
  split
  · split
    · exact Nat.le_refl _
    · exact Nat.zero_le _
  · exact (rTake_le st b).2
/-- the block that a call has laid for its error is outside what the Reader's own calls turn -/
theorem fresh_not {w : World} {g : Nat} (hg : g < w.heap.size) (o : Obj) : ¬ Only (w.alloc o) g w.heap.size := by
  rintro (h | h)
  · omega
  · simp at h; omega
theorem Only.sub {w : World} {F : Nat → Prop} {g : Nat} (hF : F g) (hn : New F w) (o : Obj) : ∀ k, Only (w.alloc o) g k → F k := by
  rintro k (h | h)
  · exact h ▸ hF
  · exact hn k (by simp at h; omega)
theorem rnum_ok (F : Nat → Prop) (g : Nat) (rest : ByteArray) (b : Int) (w : World) (h : RBlk w g rest 0) (hF : F g) (hn : New F w) :
    Calls Tryd.prog 33 #[.pointer (some ⟨g, 0, none⟩), .int .i64 b] w fun e w' => e = .returned (.int .i64 (rNum (rest, 0) b).1) ∧ RBlk w' g (rNum (rest, 0) b).2.1 (rNum (rest, 0) b).2.2 ∧ Turn F w w' := by
  by_cases hs : sz b = true
  · have hw0 : RBlk (w.alloc (.cells #[.int .i64 0] 27)) g rest 0 := Blk.alloc h _
    have hsz : (rTake (rest, 0) b).1.size = 0 ∨ (rTake (rest, 0) b).1.size = 1 ∨ (rTake (rest, 0) b).1.size = 2 ∨ (rTake (rest, 0) b).1.size = 4 := by
      have h1 := rTake_size (rest, 0) b
      have h2 : b = 1 ∨ b = 2 ∨ b = 4 := by simp [sz] at hs; omega
      omega
    have e2 : rNum (rest, 0) b = (num (rTake (rest, 0) b).1.data.toList, (rTake (rest, 0) b).2) := by unfold rNum; rw [if_neg (by simp [hs])]
    rw [e2]
    have HSZ := Lib.hid hsz
    clear hsz e2
    generalize ht : rTake (rest, 0) b = T at HSZ
    have HT := Lib.hid ht
    clear ht
    go_enter_defers Tryd.func33, Tryd.ntmps33
    go_wp2_with (first
      | (go_at_call 43; refine (isSize_any _ _).mono ?_; rintro e w' ⟨rfl, rfl⟩; rw [hs])
      | (go_at_call 49; refine (take_any (Only (w.alloc (.cells #[.int .i64 0] 27)) g) g rest 0 b _ hw0 (Only.self _ _) (Only.new _ _)).mono ?_; rw [HT.out]; rintro e w1 ⟨rfl, hw1, ht1⟩)
      | (go_at_call 48; refine (number_any T.1 _ HSZ.out).mono ?_; rintro e w2 ⟨rfl, k, rfl⟩))
    refine leaves_cons (f := 47) (args := #[.pointer (some ⟨g, 0, none⟩), .pointer (some ⟨w.heap.size, 0, none⟩)]) (by simp) (by simp [go_sem]) ?_
    have hE : Blk w1 w.heap.size 27 #[.int .i64 0] := Blk.turn (Blk.new w _ _) ht1 (fresh_not (Blk.lt h) _)
    have hw2 : RBlk (w1.drewN k) g T.2.1 T.2.2 := hw1
    refine (rkeep_still _ _ T.2.2 0 .returning _ hw2.fault ?_ (.inr rfl)).mono ?_
    · exact hE.cell 0
    rintro e u' w'' ⟨rfl, rfl, rfl⟩
    exact ⟨_, results_tmp rfl _ _ _, rfl, hw2, (((Turn.refl F w).alloc hn _).trans (ht1.mono (Only.sub hF hn _))).drewN k⟩
  · have hs : sz b = false := by simpa using hs
    have e2 : rNum (rest, 0) b = (0, (⟨#[]⟩, 1)) := by unfold rNum; rw [if_pos hs, if_neg (by simp)]
    rw [e2]
    clear e2
    go_enter_defers Tryd.func33, Tryd.ntmps33
    go_wp2_with (go_at_call 43; refine (isSize_any _ _).mono ?_; rintro e w' ⟨rfl, rfl⟩; rw [hs])
    refine leaves_cons (f := 47) (args := #[.pointer (some ⟨g, 0, none⟩), .pointer (some ⟨w.heap.size, 0, none⟩)]) (by simp) (by simp [go_sem]) ?_
    have hw1 : RBlk (w.alloc (.cells #[.int .i64 1] 27)) g rest 0 := Blk.alloc h _
    refine (rkeep_sets g ⟨w.heap.size, 0, none⟩ rest 1 .returning _ hw1 ?_ (by decide)).mono ?_
    · exact (Blk.new w 27 #[.int .i64 1]).cell 0
    rintro e u' w'' ⟨rfl, rfl, rfl⟩
    exact ⟨_, results_tmp rfl _ _ _, rfl, hw1.dropped 1, (((Turn.refl F w).alloc hn _).setCell (p := ⟨g, 1, none⟩) hF _).setCell (p := ⟨g, 2, none⟩) hF _⟩
theorem rnum_any (F : Nat → Prop) (g : Nat) (rest : ByteArray) (err b : Int) (w : World) (h : RBlk w g rest err) (hF : F g) (hn : New F w) :
    Calls Tryd.prog 33 #[.pointer (some ⟨g, 0, none⟩), .int .i64 b] w fun e w' => e = .returned (.int .i64 (rNum (rest, err) b).1) ∧ RBlk w' g (rNum (rest, err) b).2.1 (rNum (rest, err) b).2.2 ∧ Turn F w w' := by
  by_cases he : err = 0
  · subst he
    exact rnum_ok F g rest b w h hF hn
  · rw [rNum_stuck (rest, err) b he]
    exact (rnum_stuck _ err b w h.fault he).mono fun e w' ⟨h1, h2⟩ => ⟨h1, Blk.below h h2 (Blk.lt h), Turn.fresh h2 hn⟩
theorem rraw_stuck (p : Option Addr) (e0 n : Int) (w : World) (h : RFault w p e0) (h0 : e0 ≠ 0) :
    Calls Tryd.prog 52 #[.pointer p, .int .i64 n] w fun e w' => e = .returned (.string ⟨#[]⟩) ∧ Below w.heap.size w w' := by
  have H0 := Lib.hid h0
  clear h0
  go_enter Tryd.func52, Tryd.ntmps52
  go_wp2_with (first
    | (go_at_call 49; refine (take_stuck p e0 n _ h H0.out).mono ?_; rintro e w1 ⟨rfl, hb1⟩)
    | (go_at_call 56; refine (sclone_any ⟨#[]⟩ _ (by decide)).mono ?_; rintro e w2 ⟨rfl, hb2⟩))
  go_ret
  exact ⟨rfl, hb1.trans (hb2.mono hb1.size)⟩
theorem rraw_any (F : Nat → Prop) (g : Nat) (rest : ByteArray) (err n : Int) (w : World) (h : RBlk w g rest err) (hF : F g) (hn : New F w) (hr : rest.size ≤ 281474976710656) :
    Calls Tryd.prog 52 #[.pointer (some ⟨g, 0, none⟩), .int .i64 n] w fun e w' => e = .returned (.string (rTake (rest, err) n).1) ∧ RBlk w' g (rTake (rest, err) n).2.1 (rTake (rest, err) n).2.2 ∧ Turn F w w' := by
  have hle := rTake_le (rest, err) n
  generalize ht : rTake (rest, err) n = T at hle
  have HT := Lib.hid ht
  clear ht
  go_enter Tryd.func52, Tryd.ntmps52
  go_wp2_with (first
    | (go_at_call 49; refine (take_any (Only w g) g rest err n _ h (Only.self _ _) (Only.new _ _)).mono ?_; rw [HT.out]; rintro e w1 ⟨rfl, hw1, ht1⟩)
    | (go_at_call 56; refine (sclone_any T.1 _ (by omega)).mono ?_; rintro e w2 ⟨rfl, hb2⟩))
  go_ret
  have ht2 : Turn F w w1 := ht1.mono (by
    rintro k (hk | hk)
    · exact hk ▸ hF
    · exact hn k hk)
  exact ⟨rfl, Blk.below hw1 hb2 (Blk.lt hw1), ht2.trans (Turn.fresh hb2 (hn.turn ht2))⟩
end Go.Proofs.YtbhkegdohiekfaaDoor.oct
