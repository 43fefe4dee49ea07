/-
  petrellaw01.awake: it answers true.
-/
import Derived.Test.YtbloijnkkjmldaaOctx
import Derived.Test.YtbloijnkkjmldaaOcts
namespace Go.Proofs.Ytbloijnkkjmldaa.oct
open Go.RowKit

theorem aw1 : wNum ([], 0) 258 2 = ([1, 2], 0) := by rfl
theorem aw2 : wText ([1, 2], 0) ⟨#[97]⟩ = ([1, 2, 0, 1, 97], 0) := by rfl
theorem aw3 : wDone ([1, 2, 0, 1, 97], 0) = (⟨#[1, 2, 0, 1, 97]⟩, 0) := by rfl
theorem aw4 : rNum (⟨#[1, 2, 0, 1, 97]⟩, 0) 2 = (258, ⟨#[0, 1, 97]⟩, 0) := by rfl
theorem aw5 : rText (⟨#[0, 1, 97]⟩, 0) 9 = (⟨#[97]⟩, ⟨#[]⟩, 0) := by rfl
theorem aw6 : rEnd (⟨#[]⟩, 0) = 0 := by rfl

/-- a Writer that New has just made -/
theorem WrIs.new {w : World} {F : Nat → Prop} {g : Nat} (h : WBlk w g (.slice none 0 0) 0) (hF : F g) : WrIs w F g [] 0 := ⟨_, h, Owns.nil _ _, hF⟩

theorem awake_any (w : World) : Calls Try.prog 15 #[] w fun e w' => e = .returned (.bool true) ∧ Below w.heap.size w w' := by
  have hn : New (w.heap.size ≤ ·) w := fun _ hk => hk
  go_enter Try.func15, Try.ntmps15
  go_wp2_with (first
    | (go_at_call 8; refine (new_any _).mono ?_; rintro e w1 ⟨rfl, hw1, hb1⟩; have ht1 := Turn.fresh hb1 hn; have hW1 : WrIs w1 (w.heap.size ≤ ·) w.heap.size [] 0 := WrIs.new hw1 (Nat.le_refl _))
    | (go_at_call 10; refine (num_any (w.heap.size ≤ ·) _ _ _ _ _ _ hW1 (hn.turn ht1) (by simp) (by decide)).mono ?_; rw [aw1]; rintro e w2 ⟨rfl, hW2, ht2⟩)
    | (go_at_call 12; refine (text_any (w.heap.size ≤ ·) _ _ _ _ _ hW2 (hn.turn (ht1.trans ht2)) (by intros; decide)).mono ?_; rw [aw2]; rintro e w3 ⟨rfl, hW3, ht3⟩)
    | (go_at_call 14; refine (done_any (w.heap.size ≤ ·) _ _ _ _ hW3).mono ?_; rw [aw3]; rintro e w4 ⟨rfl, rfl⟩)
    | (go_at_call 16; refine (open_any _ _).mono ?_; rintro e w5 ⟨rfl, hR5, hb5⟩; have ht5 := (((ht1.trans ht2).trans ht3).trans (Turn.fresh hb5 (hn.turn ((ht1.trans ht2).trans ht3)))))
    | (go_at_call 17; refine (rnum_any (w.heap.size ≤ ·) _ _ _ _ _ hR5 ((ht1.trans ht2).trans ht3).size (hn.turn ht5)).mono ?_; rw [aw4]; rintro e w6 ⟨rfl, hR6, ht6⟩)
    | (go_at_call 19; refine (rtext_any (w.heap.size ≤ ·) _ _ _ _ _ hR6 ((ht1.trans ht2).trans ht3).size (hn.turn (ht5.trans ht6)) (by decide)).mono ?_; rw [aw5]; rintro e w7 ⟨rfl, hR7, ht7⟩)
    | (go_at_call 25; refine (end_any _ _ _ _ hR7).mono ?_; rw [aw6]; rintro e w8 ⟨rfl, rfl⟩))
  go_ret
  exact ⟨rfl, ((ht5.trans ht6).trans ht7).below fun _ hk => hk⟩
end Go.Proofs.Ytbloijnkkjmldaa.oct
