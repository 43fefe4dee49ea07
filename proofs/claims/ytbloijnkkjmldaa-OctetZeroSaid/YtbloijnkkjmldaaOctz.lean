/-
  OctetZero's walk.
-/
import Derived.Test.YtbloijnkkjmldaaOcta
namespace Go.Proofs.Ytbloijnkkjmldaa.oct
open Go.RowKit

theorem zero_walk (n : Int) (s : ByteArray) (w : World) : Calls Try.prog 7 #[.int .i64 n, .string s] w fun e w' => e = .returned (.bool true) ∧ Below w.heap.size w w' := by
  have hn : New (w.heap.size ≤ ·) w := fun _ hk => hk
  have hB0 : Below w.heap.size w (w.alloc (.cells #[.pointer none, .slice none 0 0, .int .i64 0] 51)) := (Below.refl _ w).alloc (Nat.le_refl _) _
  have hZ0 : Blk (w.alloc (.cells #[.pointer none, .slice none 0 0, .int .i64 0] 51)) w.heap.size 51 #[.pointer none, .slice none 0 0, .int .i64 0] := Blk.new _ _ _
  go_enter Try.func7, Try.ntmps7
  go_wp2_with fail
  refine (num_stuck none 8 _ _ _ (.inl ⟨rfl, rfl⟩) (by decide)).mono ?_; rintro e w1 ⟨rfl, hb1⟩
  go_wp2_with fail
  refine (text_stuck none 8 _ _ (.inl ⟨rfl, rfl⟩) (by decide)).mono ?_; rintro e w2 ⟨rfl, hb2⟩
  go_wp2_with fail
  refine (raw_stuck none 8 _ _ (.inl ⟨rfl, rfl⟩) (by decide)).mono ?_; rintro e w3 ⟨rfl, rfl⟩
  go_wp2_with fail
  refine (done_stuck none 8 _ (.inl ⟨rfl, rfl⟩) (by decide)).mono ?_; rintro e w4 ⟨rfl, rfl⟩
  have hB2 := (hB0.trans (hb1.mono hB0.size)).trans (hb2.mono (Nat.le_trans hB0.size hb1.size))
  have hZ2 : Blk w2 w.heap.size 51 #[.pointer none, .slice none 0 0, .int .i64 0] := Blk.below (Blk.below hZ0 hb1 (Blk.lt hZ0)) hb2 (Nat.lt_of_lt_of_le (Blk.lt hZ0) hb1.size)
  clear hZ0 hb1 hb2 hB0
  go_wp2_with fail
  refine (num_stuck (some ⟨w.heap.size, 0, none⟩) 8 _ _ _ (.inr ⟨_, rfl, .inl ⟨rfl, hZ2⟩⟩) (by decide)).mono ?_; rintro e w3 ⟨rfl, hb3⟩
  have hZ3 := Blk.below hZ2 hb3 (Blk.lt hZ2)
  have hB3 := hB2.trans (hb3.mono hB2.size)
  clear hZ2 hB2 hb3
  go_wp2_with fail
  refine (text_stuck (some ⟨w.heap.size, 0, none⟩) 8 _ _ (.inr ⟨_, rfl, .inl ⟨rfl, hZ3⟩⟩) (by decide)).mono ?_; rintro e w4 ⟨rfl, hb4⟩
  have hZ4 := Blk.below hZ3 hb4 (Blk.lt hZ3)
  have hB4 := hB3.trans (hb4.mono hB3.size)
  clear hZ3 hB3 hb4
  go_wp2_with fail
  refine (raw_stuck (some ⟨w.heap.size, 0, none⟩) 8 _ _ (.inr ⟨_, rfl, .inl ⟨rfl, hZ4⟩⟩) (by decide)).mono ?_; rintro e w5 ⟨rfl, rfl⟩
  go_wp2_with fail
  refine (done_stuck (some ⟨w.heap.size, 0, none⟩) 8 _ (.inr ⟨_, rfl, .inl ⟨rfl, hZ4⟩⟩) (by decide)).mono ?_; rintro e w5 ⟨rfl, rfl⟩
  clear hZ4
  have hY5 : Blk (w4.alloc (.cells #[.pointer none, .string ⟨#[]⟩, .int .i64 0] 53)) w4.heap.size 53 #[.pointer none, .string ⟨#[]⟩, .int .i64 0] := Blk.new _ _ _
  have hB5 : Below w.heap.size w (w4.alloc (.cells #[.pointer none, .string ⟨#[]⟩, .int .i64 0] 53)) := hB4.alloc hB4.size _
  clear hB4
  have hE : ((⟨#[]⟩ : ByteArray) ++ ⟨#[]⟩).toList = [] := by rw [ByteArray.toList_eq]; rfl
  go_wp2_with fail
  refine (rnum_stuck none 8 _ _ (.inl ⟨rfl, rfl⟩) (by decide)).mono ?_; rintro e w5 ⟨rfl, hb5⟩
  have hY6 := Blk.below hY5 hb5 (Blk.lt hY5)
  have hB6 := hB5.trans (hb5.mono hB5.size)
  clear hY5 hB5 hb5
  go_wp2_with fail
  refine (rnum_stuck (some ⟨w4.heap.size, 0, none⟩) 8 _ _ (.inr ⟨_, rfl, .inl ⟨rfl, hY6⟩⟩) (by decide)).mono ?_; rintro e w6 ⟨rfl, hb6⟩
  have hY7 := Blk.below hY6 hb6 (Blk.lt hY6)
  have hB7 := hB6.trans (hb6.mono hB6.size)
  clear hY6 hB6 hb6
  go_wp2_with fail
  refine (left_stuck none 8 _ (.inl ⟨rfl, rfl⟩) (by decide)).mono ?_; rintro e w7 ⟨rfl, rfl⟩
  go_wp2_with fail
  refine (left_stuck (some ⟨w4.heap.size, 0, none⟩) 8 _ (.inr ⟨_, rfl, .inl ⟨rfl, hY7⟩⟩) (by decide)).mono ?_; rintro e w7 ⟨rfl, rfl⟩
  go_wp2_with fail
  refine (rtext_stuck none 8 _ _ (.inl ⟨rfl, rfl⟩) (by decide)).mono ?_; rintro e w7 ⟨rfl, hb7⟩
  have hY8 := Blk.below hY7 hb7 (Blk.lt hY7)
  have hB8 := hB7.trans (hb7.mono hB7.size)
  clear hY7 hB7 hb7
  go_wp2_with fail
  refine (rraw_stuck (some ⟨w4.heap.size, 0, none⟩) 8 _ _ (.inr ⟨_, rfl, .inl ⟨rfl, hY8⟩⟩) (by decide)).mono ?_; rintro e w8 ⟨rfl, hb8⟩
  have hY9 := Blk.below hY8 hb8 (Blk.lt hY8)
  have hB9 := hB8.trans (hb8.mono hB8.size)
  clear hY8 hB8 hb8
  go_wp2_with fail
  refine (err_any none 8 _ (.inl ⟨rfl, rfl⟩)).mono ?_; rintro e w9 ⟨rfl, rfl⟩
  go_wp2_with fail
  refine (end_stuck (some ⟨w4.heap.size, 0, none⟩) 8 _ (.inr ⟨_, rfl, .inl ⟨rfl, hY9⟩⟩) (by decide)).mono ?_; rintro e w9 ⟨rfl, rfl⟩
  go_wp2_with fail
  refine (awake_any _).mono ?_; rintro e w9 ⟨rfl, hb9⟩
  have hB10 := hB9.trans (hb9.mono hB9.size)
  go_wp2_with fail
  go_ret
  exact ⟨rfl, hB10⟩
end Go.Proofs.Ytbloijnkkjmldaa.oct
