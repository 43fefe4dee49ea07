/-
  petrelref01.Reader.Text.
-/
import Derived.Test.YtbfjljbllfjicaaRef1
namespace Go.Proofs.Ytbfjljbllfjicaa.oct
open Go.RowKit Go.Proofs.Ytbfjljbllfjicaa.mem

def xText (st : ByteArray × Int) (most : Int) : ByteArray × (ByteArray × Int) :=
  if (xNum st 2).2.2 ≠ 0 then (⟨#[]⟩, (xNum st 2).2) else if most < (xNum st 2).1 then (⟨#[]⟩, ((xNum st 2).2.1, 3)) else xTake (xNum st 2).2 (xNum st 2).1

theorem xtext_any (F : Nat → Prop) (g : Nat) (s : ByteArray) (err n : Int) (w : World) (h : XBlk w g s err) (hF : F g) :
    Calls Try.prog 39 #[.pointer (some ⟨g, 0, none⟩), .int .i64 n] w fun e w' => e = .returned (.string (xText (s, err) n).1) ∧ XBlk w' g (xText (s, err) n).2.1 (xText (s, err) n).2.2 ∧ Turn F w w' := by
  unfold xText
  generalize ht : xNum (s, err) 2 = N
  have HT := Lib.hid ht
  clear ht
  obtain ⟨a, s1, e1⟩ := N
  simp only
  by_cases he : e1 = 0
  · subst he
    rw [if_neg (by simp)]
    by_cases hna : n < a
    · rw [if_pos hna]
      go_enter Try.func39, Try.ntmps39
      go_wp2_with (go_at_call 37; refine (xnum_any F g s err 2 _ h hF).mono ?_; rw [HT.out]; rintro e w1 ⟨rfl, hw1, ht1⟩; have c1 := hw1.c1; have f1 : w1.frozen? ⟨g, 1, none⟩ = false := Blk.frozen hw1 1)
      go_ret
      exact ⟨rfl, Blk.set_ hw1 1 _, ht1.setCell hF _⟩
    · rw [if_neg hna]
      go_enter Try.func39, Try.ntmps39
      go_wp2_with (first
        | (go_at_call 37; refine (xnum_any F g s err 2 _ h hF).mono ?_; rw [HT.out]; rintro e w1 ⟨rfl, hw1, ht1⟩; have c1 := hw1.c1)
        | (go_at_call 53; refine (xraw_any F g s1 0 a _ hw1 hF).mono ?_; rintro e w2 ⟨rfl, hw2, ht2⟩))
      go_ret
      exact ⟨rfl, hw2, ht1.trans ht2⟩
  · rw [if_pos he]
    have hd : (e1 != 0) = true := by simpa using he
    clear he
    go_enter Try.func39, Try.ntmps39
    go_wp2_with (go_at_call 37; refine (xnum_any F g s err 2 _ h hF).mono ?_; rw [HT.out]; rintro e w1 ⟨rfl, hw1, ht1⟩; have c1 := hw1.c1)
    go_ret
    exact ⟨rfl, hw1, ht1⟩

end Go.Proofs.Ytbfjljbllfjicaa.oct
