/-
  Contracts of the document's own answers for layer 1 (petrelref01): Num and Text.
  petrelref01.Num of a number that fits.
  petrelref01.Ids: ids as bytes.
  Lists of ids: what is appended to one of the call's own, pieces, '[]Id{x}'.
-/
import Derived.Test.YtpeneeddfgmjpaaGreatDoorOctp
import Derived.Outline
import Derived.Test.YtpeneeddfgmjpaaGreatDoorOpp
import Derived.Test.YtpeneeddfgmjpaaGreatDoorIda
import Derived.Deep.RegionHeld3
namespace Go.Proofs.YtpeneeddfgmjpaaGreatDoor.oct
open Go.RowKit Go.Proofs.YtpeneeddfgmjpaaGreatDoor.mem

theorem refnum_size (n b : Int) (w : World) (hb : sz b = false) :
  Calls Tryz.prog 98 #[.int .i64 n, .int .i64 b] w fun e w' => e = .returned (.tuple #[.string ⟨#[]⟩, .int .i64 1]) ∧ Below w.heap.size w w' := by
 have h3 : b ≠ 1 ∧ b ≠ 2 ∧ b ≠ 4 := by simp [sz] at hb; omega
 obtain ⟨h1, h2, h4⟩ := h3
 have d1 : (b != 1) = true := by simpa using h1
 have d2 : (b != 2) = true := by simpa using h2
 have d4 : (b != 4) = true := by simpa using h4
 clear h1 h2 h4 hb
 go_enter Tryz.func98, Tryz.ntmps98
 go_wp2
 go_ret2
 exact ⟨rfl, Below.refl _ _⟩

theorem refnum_neg1 (n : Int) (w : World) (h0 : n < 0) :
  Calls Tryz.prog 98 #[.int .i64 n, .int .i64 1] w fun e w' => e = .returned (.tuple #[.string ⟨#[]⟩, .int .i64 5]) ∧ Below w.heap.size w w' := by
 go_enter Tryz.func98, Tryz.ntmps98
 go_wp2
 go_loop [6, 7] (fun m i => (m = .int .i64 256 ∧ i = .int .i64 1)) (fun _ i => 1 - (intOf i).toNat)
 case atStart => exact ⟨rfl, rfl⟩
 case round =>
  obtain ⟨rfl, rfl⟩ := hrel
  go_wp2
  go_ret2
  exact ⟨rfl, Below.refl _ _⟩

theorem refnum_wide1 (n : Int) (w : World) (h0 : 256 ≤ n) :
  Calls Tryz.prog 98 #[.int .i64 n, .int .i64 1] w fun e w' => e = .returned (.tuple #[.string ⟨#[]⟩, .int .i64 5]) ∧ Below w.heap.size w w' := by
 have hng : ¬ n < 0 := by omega
 go_enter Tryz.func98, Tryz.ntmps98
 go_wp2
 go_loop [6, 7] (fun m i => (m = .int .i64 256 ∧ i = .int .i64 1)) (fun _ i => 1 - (intOf i).toNat)
 case atStart => exact ⟨rfl, rfl⟩
 case round =>
  obtain ⟨rfl, rfl⟩ := hrel
  go_wp2
  go_ret2
  exact ⟨rfl, Below.refl _ _⟩

theorem refnum_neg2 (n : Int) (w : World) (h0 : n < 0) :
  Calls Tryz.prog 98 #[.int .i64 n, .int .i64 2] w fun e w' => e = .returned (.tuple #[.string ⟨#[]⟩, .int .i64 5]) ∧ Below w.heap.size w w' := by
 go_enter Tryz.func98, Tryz.ntmps98
 go_wp2
 go_loop [6, 7] (fun m i => (m = .int .i64 256 ∧ i = .int .i64 1) ∨ (m = .int .i64 65536 ∧ i = .int .i64 2)) (fun _ i => 2 - (intOf i).toNat)
 case atStart => exact .inl ⟨rfl, rfl⟩
 case round =>
  rcases hrel with ⟨rfl, rfl⟩ | ⟨rfl, rfl⟩
  ·
   go_wp2
   go_round
   case rel => exact .inr (⟨rfl, rfl⟩)
   case measure => simp [intOf]
  ·
   go_wp2
   go_ret2
   exact ⟨rfl, Below.refl _ _⟩

theorem refnum_wide2 (n : Int) (w : World) (h0 : 65536 ≤ n) :
  Calls Tryz.prog 98 #[.int .i64 n, .int .i64 2] w fun e w' => e = .returned (.tuple #[.string ⟨#[]⟩, .int .i64 5]) ∧ Below w.heap.size w w' := by
 have hng : ¬ n < 0 := by omega
 go_enter Tryz.func98, Tryz.ntmps98
 go_wp2
 go_loop [6, 7] (fun m i => (m = .int .i64 256 ∧ i = .int .i64 1) ∨ (m = .int .i64 65536 ∧ i = .int .i64 2)) (fun _ i => 2 - (intOf i).toNat)
 case atStart => exact .inl ⟨rfl, rfl⟩
 case round =>
  rcases hrel with ⟨rfl, rfl⟩ | ⟨rfl, rfl⟩
  ·
   go_wp2
   go_round
   case rel => exact .inr (⟨rfl, rfl⟩)
   case measure => simp [intOf]
  ·
   go_wp2
   go_ret2
   exact ⟨rfl, Below.refl _ _⟩

theorem refnum_neg4 (n : Int) (w : World) (h0 : n < 0) :
  Calls Tryz.prog 98 #[.int .i64 n, .int .i64 4] w fun e w' => e = .returned (.tuple #[.string ⟨#[]⟩, .int .i64 5]) ∧ Below w.heap.size w w' := by
 go_enter Tryz.func98, Tryz.ntmps98
 go_wp2
 go_loop [6, 7] (fun m i => (m = .int .i64 256 ∧ i = .int .i64 1) ∨ (m = .int .i64 65536 ∧ i = .int .i64 2) ∨ (m = .int .i64 16777216 ∧ i = .int .i64 3) ∨ (m = .int .i64 4294967296 ∧ i = .int .i64 4)) (fun _ i => 4 - (intOf i).toNat)
 case atStart => exact .inl ⟨rfl, rfl⟩
 case round =>
  rcases hrel with ⟨rfl, rfl⟩ | ⟨rfl, rfl⟩ | ⟨rfl, rfl⟩ | ⟨rfl, rfl⟩
  ·
   go_wp2
   go_round
   case rel => exact .inr (.inl ⟨rfl, rfl⟩)
   case measure => simp [intOf]
  ·
   go_wp2
   go_round
   case rel => exact .inr (.inr (.inl ⟨rfl, rfl⟩))
   case measure => simp [intOf]
  ·
   go_wp2
   go_round
   case rel => exact .inr (.inr (.inr (⟨rfl, rfl⟩)))
   case measure => simp [intOf]
  ·
   go_wp2
   go_ret2
   exact ⟨rfl, Below.refl _ _⟩

theorem refnum_wide4 (n : Int) (w : World) (h0 : 4294967296 ≤ n) :
  Calls Tryz.prog 98 #[.int .i64 n, .int .i64 4] w fun e w' => e = .returned (.tuple #[.string ⟨#[]⟩, .int .i64 5]) ∧ Below w.heap.size w w' := by
 have hng : ¬ n < 0 := by omega
 go_enter Tryz.func98, Tryz.ntmps98
 go_wp2
 go_loop [6, 7] (fun m i => (m = .int .i64 256 ∧ i = .int .i64 1) ∨ (m = .int .i64 65536 ∧ i = .int .i64 2) ∨ (m = .int .i64 16777216 ∧ i = .int .i64 3) ∨ (m = .int .i64 4294967296 ∧ i = .int .i64 4)) (fun _ i => 4 - (intOf i).toNat)
 case atStart => exact .inl ⟨rfl, rfl⟩
 case round =>
  rcases hrel with ⟨rfl, rfl⟩ | ⟨rfl, rfl⟩ | ⟨rfl, rfl⟩ | ⟨rfl, rfl⟩
  ·
   go_wp2
   go_round
   case rel => exact .inr (.inl ⟨rfl, rfl⟩)
   case measure => simp [intOf]
  ·
   go_wp2
   go_round
   case rel => exact .inr (.inr (.inl ⟨rfl, rfl⟩))
   case measure => simp [intOf]
  ·
   go_wp2
   go_round
   case rel => exact .inr (.inr (.inr (⟨rfl, rfl⟩)))
   case measure => simp [intOf]
  ·
   go_wp2
   go_ret2
   exact ⟨rfl, Below.refl _ _⟩

set_option maxRecDepth 100000 in
theorem refnum_good1 (n : Int) (w : World) (h0 : 0 ≤ n) (h1 : n < 256) :
  Calls Tryz.prog 98 #[.int .i64 n, .int .i64 1] w fun e w' => e = .returned (.tuple #[.string (tx (be n 1)), .int .i64 0]) ∧ Below w.heap.size w w' := by
 have hng : ¬ n < 0 := by omega
 have hge : ¬ 256 ≤ n := by omega
 have hmk : ∀ w : World, (Instr.makeSlice 42 (.int .i64 1) (.int .i64 1)).run Tryz.prog w = .ok (.slice (some ⟨w.heap.size, 0, none⟩) 1 1) (w.alloc (.cells #[.int .u8 0] 5)) := fun _ => by kernel_rfl
 have hcv : (convert 42 9 (.slice (some ⟨w.heap.size, 0, none⟩) 1 1)).run Tryz.prog (w.alloc (.cells #[.int .u8 (n % 256)] 5)) = .ok (.string (tx (be n 1))) (w.alloc (.cells #[.int .u8 (n % 256)] 5)) := by
  have hc : bCells (be n 1) = #[.int .u8 (n % 256)].toList := by rw [be1 n h0]
  have h := run_convert_bytes_back (P := Tryz.prog) (w.alloc (.cells #[.int .u8 (n % 256)] 5)) 42 9 5 ⟨w.heap.size, 0, none⟩ 1 (be n 1) Tryz.underlying42 Tryz.underlying5 Tryz.underlying9 (fun j hj => by
   have := new_cells w 5 (bCells (be n 1)) j _ (by simp [bCells, List.getElem?_eq_getElem hj]; rfl)
   rw [hc] at this
   exact this)
  exact h
 go_enter Tryz.func98, Tryz.ntmps98
 go_wp2
 go_loop [6, 7] (fun m i => (m = .int .i64 256 ∧ i = .int .i64 1)) (fun _ i => 1 - (intOf i).toNat)
 case atStart => exact ⟨rfl, rfl⟩
 case round =>
  obtain ⟨rfl, rfl⟩ := hrel
  go_wp2
  go_loopw [9, 10] (fun x i wr => (x = .int .i64 (n) ∧ i = .int .i64 (0) ∧ wr = w.alloc (.cells #[.int .u8 0] 5)) ∨ (x = .int .i64 (n / 256) ∧ i = .int .i64 (-1) ∧ wr = w.alloc (.cells #[.int .u8 (n % 256)] 5))) (fun _ i _ => (intOf i + 1).toNat)
  case atStart => exact .inl ⟨rfl, rfl, rfl⟩
  case round =>
   rcases hrel with ⟨rfl, rfl, rfl⟩ | ⟨rfl, rfl, rfl⟩
   ·
    go_wp2
    go_roundw
    case rel => exact .inr (⟨by first | rfl | (congr 1; omega), by first | rfl | simp, by first | trivial | rfl⟩)
    case measure => simp [intOf]
   ·
    go_wp2
    go_ret2
    exact ⟨rfl, (Below.refl _ _).alloc (Nat.le_refl _) _⟩

set_option maxRecDepth 100000 in
theorem refnum_good2 (n : Int) (w : World) (h0 : 0 ≤ n) (h1 : n < 65536) :
  Calls Tryz.prog 98 #[.int .i64 n, .int .i64 2] w fun e w' => e = .returned (.tuple #[.string (tx (be n 2)), .int .i64 0]) ∧ Below w.heap.size w w' := by
 have hng : ¬ n < 0 := by omega
 have hge : ¬ 65536 ≤ n := by omega
 have hmk : ∀ w : World, (Instr.makeSlice 42 (.int .i64 2) (.int .i64 2)).run Tryz.prog w = .ok (.slice (some ⟨w.heap.size, 0, none⟩) 2 2) (w.alloc (.cells #[.int .u8 0, .int .u8 0] 5)) := fun _ => by kernel_rfl
 have hcv : (convert 42 9 (.slice (some ⟨w.heap.size, 0, none⟩) 2 2)).run Tryz.prog (w.alloc (.cells #[.int .u8 (n / 256 % 256), .int .u8 (n % 256)] 5)) = .ok (.string (tx (be n 2))) (w.alloc (.cells #[.int .u8 (n / 256 % 256), .int .u8 (n % 256)] 5)) := by
  have hc : bCells (be n 2) = #[.int .u8 (n / 256 % 256), .int .u8 (n % 256)].toList := by rw [be2 n h0 h1]; simp; omega
  have h := run_convert_bytes_back (P := Tryz.prog) (w.alloc (.cells #[.int .u8 (n / 256 % 256), .int .u8 (n % 256)] 5)) 42 9 5 ⟨w.heap.size, 0, none⟩ 2 (be n 2) Tryz.underlying42 Tryz.underlying5 Tryz.underlying9 (fun j hj => by
   have := new_cells w 5 (bCells (be n 2)) j _ (by simp [bCells, List.getElem?_eq_getElem hj]; rfl)
   rw [hc] at this
   exact this)
  exact h
 go_enter Tryz.func98, Tryz.ntmps98
 go_wp2
 go_loop [6, 7] (fun m i => (m = .int .i64 256 ∧ i = .int .i64 1) ∨ (m = .int .i64 65536 ∧ i = .int .i64 2)) (fun _ i => 2 - (intOf i).toNat)
 case atStart => exact .inl ⟨rfl, rfl⟩
 case round =>
  rcases hrel with ⟨rfl, rfl⟩ | ⟨rfl, rfl⟩
  ·
   go_wp2
   go_round
   case rel => exact .inr (⟨rfl, rfl⟩)
   case measure => simp [intOf]
  ·
   go_wp2
   go_loopw [9, 10] (fun x i wr => (x = .int .i64 (n) ∧ i = .int .i64 (1) ∧ wr = w.alloc (.cells #[.int .u8 0, .int .u8 0] 5)) ∨ (x = .int .i64 (n / 256) ∧ i = .int .i64 (0) ∧ wr = w.alloc (.cells #[.int .u8 0, .int .u8 (n % 256)] 5)) ∨ (x = .int .i64 (n / 65536) ∧ i = .int .i64 (-1) ∧ wr = w.alloc (.cells #[.int .u8 (n / 256 % 256), .int .u8 (n % 256)] 5))) (fun _ i _ => (intOf i + 1).toNat)
   case atStart => exact .inl ⟨rfl, rfl, rfl⟩
   case round =>
    rcases hrel with ⟨rfl, rfl, rfl⟩ | ⟨rfl, rfl, rfl⟩ | ⟨rfl, rfl, rfl⟩
    ·
     go_wp2
     go_roundw
     case rel => exact .inr (.inl ⟨by first | rfl | (congr 1; omega), by first | rfl | simp, by first | trivial | rfl⟩)
     case measure => simp [intOf]
    ·
     go_wp2
     go_roundw
     case rel => exact .inr (.inr (⟨by first | rfl | (congr 1; omega), by first | rfl | simp, by first | trivial | rfl⟩))
     case measure => simp [intOf]
    ·
     go_wp2
     go_ret2
     exact ⟨rfl, (Below.refl _ _).alloc (Nat.le_refl _) _⟩

set_option maxRecDepth 100000 in
theorem refnum_good4 (n : Int) (w : World) (h0 : 0 ≤ n) (h1 : n < 4294967296) :
  Calls Tryz.prog 98 #[.int .i64 n, .int .i64 4] w fun e w' => e = .returned (.tuple #[.string (tx (be n 4)), .int .i64 0]) ∧ Below w.heap.size w w' := by
 have hng : ¬ n < 0 := by omega
 have hge : ¬ 4294967296 ≤ n := by omega
 have hmk : ∀ w : World, (Instr.makeSlice 42 (.int .i64 4) (.int .i64 4)).run Tryz.prog w = .ok (.slice (some ⟨w.heap.size, 0, none⟩) 4 4) (w.alloc (.cells #[.int .u8 0, .int .u8 0, .int .u8 0, .int .u8 0] 5)) := fun _ => by kernel_rfl
 have hcv : (convert 42 9 (.slice (some ⟨w.heap.size, 0, none⟩) 4 4)).run Tryz.prog (w.alloc (.cells #[.int .u8 (n / 16777216 % 256), .int .u8 (n / 65536 % 256), .int .u8 (n / 256 % 256), .int .u8 (n % 256)] 5)) = .ok (.string (tx (be n 4))) (w.alloc (.cells #[.int .u8 (n / 16777216 % 256), .int .u8 (n / 65536 % 256), .int .u8 (n / 256 % 256), .int .u8 (n % 256)] 5)) := by
  have hc : bCells (be n 4) = #[.int .u8 (n / 16777216 % 256), .int .u8 (n / 65536 % 256), .int .u8 (n / 256 % 256), .int .u8 (n % 256)].toList := by rw [be4 n h0 h1]; simp; omega
  have h := run_convert_bytes_back (P := Tryz.prog) (w.alloc (.cells #[.int .u8 (n / 16777216 % 256), .int .u8 (n / 65536 % 256), .int .u8 (n / 256 % 256), .int .u8 (n % 256)] 5)) 42 9 5 ⟨w.heap.size, 0, none⟩ 4 (be n 4) Tryz.underlying42 Tryz.underlying5 Tryz.underlying9 (fun j hj => by
   have := new_cells w 5 (bCells (be n 4)) j _ (by simp [bCells, List.getElem?_eq_getElem hj]; rfl)
   rw [hc] at this
   exact this)
  exact h
 go_enter Tryz.func98, Tryz.ntmps98
 go_wp2
 go_loop [6, 7] (fun m i => (m = .int .i64 256 ∧ i = .int .i64 1) ∨ (m = .int .i64 65536 ∧ i = .int .i64 2) ∨ (m = .int .i64 16777216 ∧ i = .int .i64 3) ∨ (m = .int .i64 4294967296 ∧ i = .int .i64 4)) (fun _ i => 4 - (intOf i).toNat)
 case atStart => exact .inl ⟨rfl, rfl⟩
 case round =>
  rcases hrel with ⟨rfl, rfl⟩ | ⟨rfl, rfl⟩ | ⟨rfl, rfl⟩ | ⟨rfl, rfl⟩
  ·
   go_wp2
   go_round
   case rel => exact .inr (.inl ⟨rfl, rfl⟩)
   case measure => simp [intOf]
  ·
   go_wp2
   go_round
   case rel => exact .inr (.inr (.inl ⟨rfl, rfl⟩))
   case measure => simp [intOf]
  ·
   go_wp2
   go_round
   case rel => exact .inr (.inr (.inr (⟨rfl, rfl⟩)))
   case measure => simp [intOf]
  ·
   go_wp2
   go_loopw [9, 10] (fun x i wr => (x = .int .i64 (n) ∧ i = .int .i64 (3) ∧ wr = w.alloc (.cells #[.int .u8 0, .int .u8 0, .int .u8 0, .int .u8 0] 5)) ∨ (x = .int .i64 (n / 256) ∧ i = .int .i64 (2) ∧ wr = w.alloc (.cells #[.int .u8 0, .int .u8 0, .int .u8 0, .int .u8 (n % 256)] 5)) ∨ (x = .int .i64 (n / 65536) ∧ i = .int .i64 (1) ∧ wr = w.alloc (.cells #[.int .u8 0, .int .u8 0, .int .u8 (n / 256 % 256), .int .u8 (n % 256)] 5)) ∨ (x = .int .i64 (n / 16777216) ∧ i = .int .i64 (0) ∧ wr = w.alloc (.cells #[.int .u8 0, .int .u8 (n / 65536 % 256), .int .u8 (n / 256 % 256), .int .u8 (n % 256)] 5)) ∨ (x = .int .i64 (n / 4294967296) ∧ i = .int .i64 (-1) ∧ wr = w.alloc (.cells #[.int .u8 (n / 16777216 % 256), .int .u8 (n / 65536 % 256), .int .u8 (n / 256 % 256), .int .u8 (n % 256)] 5))) (fun _ i _ => (intOf i + 1).toNat)
   case atStart => exact .inl ⟨rfl, rfl, rfl⟩
   case round =>
    rcases hrel with ⟨rfl, rfl, rfl⟩ | ⟨rfl, rfl, rfl⟩ | ⟨rfl, rfl, rfl⟩ | ⟨rfl, rfl, rfl⟩ | ⟨rfl, rfl, rfl⟩
    ·
     go_wp2
     go_roundw
     case rel => exact .inr (.inl ⟨by first | rfl | (congr 1; omega), by first | rfl | simp, by first | trivial | rfl⟩)
     case measure => simp [intOf]
    ·
     go_wp2
     go_roundw
     case rel => exact .inr (.inr (.inl ⟨by first | rfl | (congr 1; omega), by first | rfl | simp, by first | trivial | rfl⟩))
     case measure => simp [intOf]
    ·
     go_wp2
     go_roundw
     case rel => exact .inr (.inr (.inr (.inl ⟨by first | rfl | (congr 1; omega), by first | rfl | simp, by first | trivial | rfl⟩)))
     case measure => simp [intOf]
    ·
     go_wp2
     go_roundw
     case rel => exact .inr (.inr (.inr (.inr (⟨by first | rfl | (congr 1; omega), by first | rfl | simp, by first | trivial | rfl⟩))))
     case measure => simp [intOf]
    ·
     go_wp2
     go_ret2
     exact ⟨rfl, (Below.refl _ _).alloc (Nat.le_refl _) _⟩

def refNum (n b : Int) : ByteArray × Int := if numErr n b ≠ 0 then (⟨#[]⟩, numErr n b) else (tx (be n b), 0)
theorem refnum_any (n b : Int) (w : World) : Calls Tryz.prog 98 #[.int .i64 n, .int .i64 b] w fun e w' => e = .returned (.tuple #[.string (refNum n b).1, .int .i64 (refNum n b).2]) ∧ Below w.heap.size w w' := by
 by_cases hs : sz b = false
 ·
  have e : numErr n b = 1 := by unfold numErr; rw [if_pos hs]
  have e2 : refNum n b = (⟨#[]⟩, 1) := by unfold refNum; rw [e, if_pos (by decide)]
  rw [e2]
  exact refnum_size n b w hs
 ·
  have hb : b = 1 ∨ b = 2 ∨ b = 4 := by simp [sz] at hs; omega
  by_cases hng : n < 0
  ·
   have e : numErr n b = 5 := by unfold numErr; rw [if_neg hs, if_pos (.inl hng)]
   have e2 : refNum n b = (⟨#[]⟩, 5) := by unfold refNum; rw [e, if_pos (by decide)]
   rw [e2]
   rcases hb with rfl | rfl | rfl
   ·
    exact refnum_neg1 n w hng
   ·
    exact refnum_neg2 n w hng
   ·
    exact refnum_neg4 n w hng
  ·
   by_cases hw : (if b = 1 then 256 else if b = 2 then 65536 else 4294967296) ≤ n
   ·
    have e : numErr n b = 5 := by unfold numErr; rw [if_neg hs, if_pos (.inr hw)]
    have e2 : refNum n b = (⟨#[]⟩, 5) := by unfold refNum; rw [e, if_pos (by decide)]
    rw [e2]
    rcases hb with rfl | rfl | rfl
    ·
     exact refnum_wide1 n w (by simpa using hw)
    ·
     exact refnum_wide2 n w (by simpa using hw)
    ·
     exact refnum_wide4 n w (by simpa using hw)
   ·
    have e : numErr n b = 0 := by unfold numErr; rw [if_neg hs, if_neg (by rintro (h | h) <;> contradiction)]
    have e2 : refNum n b = (tx (be n b), 0) := by unfold refNum; rw [e, if_neg (by decide)]
    rw [e2]
    rcases hb with rfl | rfl | rfl
    ·
     exact refnum_good1 n w (by omega) (by simpa using hw)
    ·
     exact refnum_good2 n w (by omega) (by simpa using hw)
    ·
     exact refnum_good4 n w (by omega) (by simpa using hw)
end Go.Proofs.YtpeneeddfgmjpaaGreatDoor.oct

namespace Go.Proofs.YtpeneeddfgmjpaaGreatDoor.opn
open Go.RowKit Go.Proofs.YtpeneeddfgmjpaaGreatDoor.mem Go.Proofs.YtpeneeddfgmjpaaGreatDoor.sha

theorem tx_app (a b : List UInt8) : oct.tx a ++ oct.tx b = oct.tx (a ++ b) := by
 apply oct.bytes_ext
 rw [ByteArray.data_append, Array.toList_append, oct.tx_list, oct.tx_list, oct.tx_list]
theorem num1_r (n : Int) (h0 : 0 ≤ n) (h1 : n < 256) (w : World) : Calls Tryz.prog 98 #[.int .i64 n, .int .i64 1] w fun e w' => e = .returned (.tuple #[.string (oct.tx (b1 n)), .int .i64 0]) ∧ Below w.heap.size w w' := by
 have := oct.refnum_any n 1 w
 rw [show oct.refNum n 1 = (oct.tx (b1 n), 0) by
  unfold oct.refNum
  rw [if_neg (by unfold oct.numErr; rw [if_neg (by decide), if_neg (by simp; omega)]; decide)]
  rfl] at this
 exact this
theorem num4_r (n : Int) (h0 : 0 ≤ n) (h1 : n < 4294967296) (w : World) : Calls Tryz.prog 98 #[.int .i64 n, .int .i64 4] w fun e w' => e = .returned (.tuple #[.string (oct.tx (b4 n)), .int .i64 0]) ∧ Below w.heap.size w w' := by
 have := oct.refnum_any n 4 w
 rw [show oct.refNum n 4 = (oct.tx (b4 n), 0) by
  unfold oct.refNum
  rw [if_neg (by unfold oct.numErr; rw [if_neg (by decide), if_neg (by simp; omega)]; decide)]
  rfl] at this
 exact this

theorem num2_r (n : Int) (h0 : 0 ≤ n) (h1 : n < 65536) (w : World) : Calls Tryz.prog 98 #[.int .i64 n, .int .i64 2] w fun e w' => e = .returned (.tuple #[.string (oct.tx (b2 n)), .int .i64 0]) ∧ Below w.heap.size w w' := by
 have := oct.refnum_any n 2 w
 rw [show oct.refNum n 2 = (oct.tx (b2 n), 0) by
  unfold oct.refNum
  rw [if_neg (by unfold oct.numErr; rw [if_neg (by decide), if_neg (by simp; omega)]; decide)]
  rfl] at this
 exact this

end Go.Proofs.YtpeneeddfgmjpaaGreatDoor.opn

namespace Go.Proofs.YtpeneeddfgmjpaaGreatDoor.opn
open Go.RowKit Go.Proofs.YtpeneeddfgmjpaaGreatDoor.mem Go.Proofs.YtpeneeddfgmjpaaGreatDoor.sha Go.Proofs.YtpeneeddfgmjpaaGreatDoor.ids

theorem conv_one (w : World) (y : UInt8) : (convert 42 9 (.slice (some ⟨w.heap.size, 0, none⟩) 1 1)).run Tryz.prog (w.alloc (.cells #[.int .u8 (B y)] 5)) = .ok (.string (oct.tx [y])) (w.alloc (.cells #[.int .u8 (B y)] 5)) := by
 have h := run_convert_bytes_back (P := Tryz.prog) (w.alloc (.cells #[.int .u8 (B y)] 5)) 42 9 5 ⟨w.heap.size, 0, none⟩ 1 [y] Tryz.underlying42 Tryz.underlying5 Tryz.underlying9 (fun j hj => by
  obtain rfl : j = 0 := by simpa using hj
  exact new_cells w 5 (bCells [y]) 0 _ rfl)
 exact h
theorem tx_snoc (l : List UInt8) (y : UInt8) : oct.tx l ++ oct.tx [y] = oct.tx (l ++ [y]) := by
 apply oct.bytes_ext
 rw [ByteArray.data_append, Array.toList_append, oct.tx_list, oct.tx_list, oct.tx_list]
theorem flat_len {L : List (List UInt8)} (h : okIds L) : L.flatten.length = L.length * 32 := by
 induction L with
 | nil => rfl
 | cons x L ih =>
  rw [List.flatten_cons, List.length_append, h x List.mem_cons_self, ih fun y hy => h y (List.mem_cons_of_mem _ hy), List.length_cons]
  omega
theorem flat_step (L : List (List UInt8)) (i : Nat) (h : i < L.length) : (L.take (i + 1)).flatten = (L.take i).flatten ++ L.getD i [] := by
 rw [List.take_succ_eq_append_getElem h, List.flatten_append, List.getD_eq_getElem?_getD, List.getElem?_eq_getElem h]
 simp

set_option maxHeartbeats 2000000 in
set_option maxRecDepth 100000 in
theorem ids_any (L : List (List UInt8)) (ad : Option Addr) (n cap : Nat) (w : World) (hL : RdV w (.slice ad n cap) L) (hmax : L.length ≤ 255) :
  Calls Tryz.prog 72 #[.slice ad n cap] w fun e w' => e = .returned (.string (oct.tx (idl L))) ∧ Below w.heap.size w w' := by
 have hn := hL.len
 subst hn
 have e1 : oct.refNum L.length 1 = (oct.tx (b1 L.length), 0) := by
  unfold oct.refNum
  rw [if_neg (by unfold oct.numErr; rw [if_neg (by decide), if_neg (by simp; omega)]; decide)]
  rfl
 have HL := Lib.hid hL
 have E1 := Lib.hid e1
 have hOK := hL.1
 have HOK := Lib.hid hOK
 clear e1 hL hOK
 go_enter Tryz.func72, Tryz.ntmps72
 go_wp2_with (go_at_call 98; refine (oct.refnum_any L.length 1 _).mono ?_; rw [E1.out]; rintro e w1 ⟨rfl, hb1⟩; have HB1 := Lib.hid hb1; clear hb1)
 go_loopw [3, 5] (fun o i wr => ∃ k : Nat, k ≤ L.length ∧ i = .int .i64 k ∧ o = .string (oct.tx (b1 L.length ++ (L.take k).flatten)) ∧ Below w.heap.size w wr) (fun _ i _ => L.length - (intOf i).toNat)
 case atStart => exact ⟨0, Nat.zero_le _, rfl, by simp, HB1.out⟩
 case round =>
  clear HB1
  obtain ⟨k, hk, rfl, rfl, hB⟩ := hrel
  have HB := Lib.hid hB
  clear hB
  have k0 : (0 : Int) ≤ (k : Int) := Int.natCast_nonneg _
  by_cases hlt : k < L.length
  ·
   have kI : (k : Int) < (L.length : Int) := by omega
   have HFS := Lib.hid (flat_step L k hlt)
   obtain ⟨x, hx⟩ : ∃ x, x = L.getD k [] := ⟨_, rfl⟩
   have hxl : x.length = 32 := by rw [hx]; exact HOK.out.get hlt
   have hpre : (b1 L.length ++ (L.take k).flatten).length ≤ 8161 := by
    rw [List.length_append, flat_len (HOK.out.take k), List.length_take]
    simp [b1]; omega
   rw [← hx] at HFS
   obtain ⟨p, hp⟩ : ∃ p, p = b1 L.length ++ (L.take k).flatten := ⟨_, rfl⟩
   rw [← hp] at hpre ⊢
   obtain ⟨b, off, rfl, hcells⟩ : ∃ b off, ad = some ⟨b, off, none⟩ ∧ ∀ u, Below w.heap.size w u → ∀ j, j < 32 → u.cell? ⟨b, off + k * 32 + j, none⟩ = some (.int .u8 (B (x.getD j 0))) := by
    obtain ⟨h1, h2, ad', cap', hv, h3, h4, h5, h6, h7⟩ := HL.out
    cases hv
    rcases h7 with h7 | ⟨b, off, h7, h8, h9⟩
    ·
     exfalso
     have := fl_len HOK.out
     rw [h7] at this
     simp at this
     omega
    ·
     refine ⟨b, off, h7, fun u hu j hj => ?_⟩
     have := h9 (k * 32 + j) _ (fl_get HOK.out hlt hj)
     rw [← hx] at this
     rw [Nat.add_assoc]
     exact ((Turn.ofBelow hu).cell (Nat.not_le.2 h8)).trans this
   have HC := Lib.hid hcells
   have HP := Lib.hid hp
   clear hcells hp hx
   go_wp2_with fail
   go_loopw [3, 6] (fun o i wr => ∃ j : Nat, j ≤ 32 ∧ i = .int .i64 j ∧ o = .string (oct.tx (p ++ x.take j)) ∧ Below w.heap.size w wr) (fun _ i _ => 32 - (intOf i).toNat)
   case atStart => exact ⟨0, by decide, rfl, by simp, HB.out⟩
   case round =>
    clear HB
    obtain ⟨j, hj, rfl, rfl, hB⟩ := hrel
    have HB := Lib.hid hB
    have j0 : (0 : Int) ≤ (j : Int) := Int.natCast_nonneg _
    by_cases hjl : j < 32
    ·
     have jI : (j : Int) < 32 := by omega
     have hc := HC.out _ hB j hjl
     have hts : x.take (j + 1) = x.take j ++ [x.getD j 0] := by
      rw [List.take_succ_eq_append_getElem (by rw [hxl]; exact hjl), List.getD_eq_getElem?_getD, List.getElem?_eq_getElem (by rw [hxl]; exact hjl)]
      rfl
     have HTS := Lib.hid hts
     obtain ⟨y, hy⟩ : ∃ y, y = x.getD j 0 := ⟨_, rfl⟩
     rw [← hy] at hc HTS
     have hcv := fun u : World => conv_one u y
     have HS := Lib.hid (tx_snoc (p ++ x.take j) y)
     have hsz : (oct.tx (p ++ x.take j)).size ≤ 10000 := by rw [oct.tx_size, List.length_append, List.length_take]; omega
     have hsy : (oct.tx [y]).size = 1 := oct.tx_size _
     obtain ⟨q, hq⟩ : ∃ q, q = oct.tx (p ++ x.take j) := ⟨_, rfl⟩
     obtain ⟨yy, hyy⟩ : ∃ q, q = oct.tx [y] := ⟨_, rfl⟩
     rw [← hq] at hsz HS ⊢
     rw [← hyy] at hsy HS hcv
     clear hts hy hB hq hyy
     go_wp2_with fail
     go_roundw
     case rel => exact ⟨j + 1, hjl, by push_cast; rfl, by rw [HS.out, HTS.out, List.append_assoc], by exact (HB.out.alloc (by have := HB.out; exact this.size) _)⟩
     case measure => simp [intOf]; omega
    ·
     obtain rfl : j = 32 := by omega
     have e32 : x.take 32 = x := List.take_of_length_le (by rw [hxl]; exact Nat.le_refl _)
     have HE := Lib.hid e32
     clear hB hjl e32
     go_wp2_with fail
     go_roundw
     case rel => exact ⟨k + 1, hlt, by push_cast; rfl, by rw [HE.out, HP.out, HFS.out, List.append_assoc], HB.out⟩
     case measure => simp [intOf]; omega
  ·
   obtain rfl : k = L.length := by omega
   have e : L.take L.length = L := List.take_length
   rw [e]
   clear hlt e
   have hi : ¬ (L.length : Int) < (L.length : Int) := by omega
   go_wp2_with fail
   go_ret
   exact ⟨rfl, HB.out⟩
end Go.Proofs.YtpeneeddfgmjpaaGreatDoor.opn

namespace Go.Proofs.YtpeneeddfgmjpaaGreatDoor.ids
open Go.RowKit Go.Proofs.YtpeneeddfgmjpaaGreatDoor.mem Go.Proofs.YtpeneeddfgmjpaaGreatDoor.sha

/-- 'append(v, x..)' -/
theorem run_append_ids (w : World) (ty : TypeId) (F : Nat → Prop) (v : Value) (L : List (List UInt8)) (hown : OwnI w F v L) (ad : Option Addr) (M : List (List UInt8)) (c : Nat) (hM : okIds M) (hr : Rd w ad (fl M)) (hc : ad = none → c = 0)
  (hlen : L.length + M.length ≤ 1099511627776) (hn : New F w) :
  ∃ v' w', (Builtin.append_ #[22, 22] ty #[v, .slice ad M.length c]).run Tryz.prog w = .ok v' w' ∧ OwnI w' F v' (L ++ M) ∧ Turn (fun k => v.ownBlock = some k ∨ w.heap.size ≤ k) w w' := by
 obtain ⟨i0, hi, hz0, hz1, hz2⟩ := info_parts info_id
 cases ad with
 | none =>
  have hM0 : M = [] := by
   rcases hr with h | ⟨b, off, h, _⟩
   ·
    cases M with
    | nil => rfl
    | cons x M =>
     have := congrArg List.length h
     rw [fl_len hM] at this
     simp at this
   ·
    cases h
  subst hM0
  rw [hc rfl, List.append_nil, List.length_nil]
  exact ⟨v, w, run_append_owned_none (P := Tryz.prog) w 0 22 ty 24 i0 32 Tryz.underlying22 hi v L.length (fl L) hown.2.1, hown, Turn.refl _ w⟩
 | some a =>
  have hnews : ∀ j u, (fl M)[j]? = some u → w.cell? (a.add j) = some u := fun j u hu => by
   rcases hr with h | ⟨b, off, h, _, hcl⟩
   ·
    rw [h] at hu; simp at hu
   ·
    cases h
    rw [Addr.add_lit]
    exact hcl j u hu
  obtain ⟨v', w', hrun, hown', hg, _, hat⟩ := run_append_own_at (P := Tryz.prog) w 0 22 ty 24 i0 _ 32 32 Tryz.underlying22 hi hz0 hz1 hz2 rfl (by decide) v L.length (fl L) hown.2.1 a M.length c (fl M) (fl_len hM) hnews (one_fl M)
   (by unfold maxLen; omega) (by omega) (Nat.zero_le _)
  refine ⟨v', w', hrun, ⟨hown.1.append hM, by rw [List.length_append, fl_append]; exact hown', fun b hb => ?_⟩, Turn.grown hg (fun k hk => .inl hk) (fun k hk => .inr hk)⟩
  rcases hat with e | e <;> rw [e] at hb
  ·
   exact hown.2.2 b hb
  ·
   injection hb with hb
   subst hb
   exact hn _ (Nat.le_refl _)
/-! Pieces of a list. -/
theorem slice_hi {w : World} {ad : Option Addr} {n cap : Nat} {L : List (List UInt8)} (h : RdV w (.slice ad n cap) L) (k : Nat) (hk : k ≤ n) (u : World) :
  (Instr.sliceAt 22 (.slice ad n cap) none (some (.int .i64 (k : Int))) none).run Tryz.prog u = .ok (.slice ad k cap) u ∧ RdV w (.slice ad k cap) (L.take k) := by
 obtain ⟨h1, h2, ad', cap', hv, h3, h4, h5, h6, h7⟩ := h
 cases hv
 obtain ⟨y, hy, _, hs, _⟩ := info_parts info_id
 have hkl : (L.take k).length = k := by rw [List.length_take]; omega
 have hr : Rd w ad (fl (L.take k)) := by
  rw [← fl_take k h1]
  rcases h7 with h | ⟨b, off, e, hb, hc⟩
  ·
   rw [h]; exact .inl List.take_nil
  ·
   refine .inr ⟨b, off, e, hb, fun j v hv => hc j v ?_⟩
   rw [List.getElem?_take] at hv
   split at hv
   ·
    exact hv
   ·
    cases hv
 refine ⟨?_, h1.take k, by omega, ad, cap, by rw [hkl], by omega, h4, h5, h6, hr⟩
 have h0 : (0 : Int) ≤ (k : Int) := Int.natCast_nonneg _
 have hc : (k : Int) ≤ (cap : Int) := by omega
 simp only [Instr.sliceAt, Instr.slice, Instr.sliceBounds, Instr.sliceBound, asIntOf, sizeOf, typeInfo, Sem.run_bind, Sem.run_pure, Result.andThen_ok, run_underlying Tryz.underlying22]
 cases ad with
 | none =>
  have := h5 rfl
  subst this
  obtain rfl : k = 0 := by omega
  simp [hy, hs]
 | some a =>
  by_cases hc0 : cap = 0
  ·
   subst hc0
   obtain rfl : k = 0 := by omega
   simp [hy, hs, Addr.add]
  ·
   obtain ⟨b, off, rfl⟩ := h6 a rfl (by omega)
   simp [hy, hs, hc, Addr.add]
/-- the value of a list from its k-th on -/
def loAd (ad : Option Addr) (cap k : Nat) : Option Addr := ad.map fun a => if cap = k then a else ⟨a.block, a.off + k * 32, none⟩
theorem slice_lo {w : World} {ad : Option Addr} {n cap : Nat} {L : List (List UInt8)} (h : RdV w (.slice ad n cap) L) (k : Nat) (hk : k ≤ n) (u : World) :
  (Instr.sliceAt 22 (.slice ad n cap) (some (.int .i64 (k : Int))) none none).run Tryz.prog u = .ok (.slice (loAd ad cap k) (n - k) (cap - k)) u ∧ RdV w (.slice (loAd ad cap k) (n - k) (cap - k)) (L.drop k) := by
 obtain ⟨h1, h2, ad', cap', hv, h3, h4, h5, h6, h7⟩ := h
 cases hv
 obtain ⟨y, hy, _, hs, _⟩ := info_parts info_id
 have hkl : (L.drop k).length = L.length - k := List.length_drop
 refine ⟨?_, h1.drop k, by omega, loAd ad cap k, cap - k, by rw [hkl], by omega, by omega, ?_, ?_, ?_⟩
 ·
  have h0 : (0 : Int) ≤ (k : Int) := Int.natCast_nonneg _
  have hc : (k : Int) ≤ (L.length : Int) := by omega
  simp only [Instr.sliceAt, Instr.slice, Instr.sliceBounds, Instr.sliceBound, asIntOf, sizeOf, typeInfo, Sem.run_bind, Sem.run_pure, Result.andThen_ok, run_underlying Tryz.underlying22]
  cases ad with
  | none =>
   have := h5 rfl
   subst this
   obtain rfl : k = 0 := by omega
   simp [hy, hs, loAd]
   try omega
  | some a =>
   by_cases hck : cap = k
   ·
    subst hck
    simp [hy, hs, hc, loAd]
   ·
    obtain ⟨b, off, rfl⟩ := h6 a rfl (by omega)
    simp [hy, hs, hc, Addr.add, loAd, hck]
    try omega
 ·
  intro h
  cases ad with
  | none => rw [h5 rfl]; omega
  | some a => simp [loAd] at h
 ·
  intro a ha hpos
  cases ad with
  | none => simp [loAd] at ha
  | some a0 =>
   obtain ⟨b, off, rfl⟩ := h6 a0 rfl (by omega)
   simp only [loAd, Option.map_some, Option.some.injEq] at ha
   subst ha
   split
   ·
    exact ⟨b, off, rfl⟩
   ·
    exact ⟨b, off + k * 32, rfl⟩
 ·
  rcases h7 with h | ⟨b, off, rfl, hb, hc⟩
  ·
   rw [← fl_drop k h1, h]; exact .inl List.drop_nil
  ·
   by_cases hck : cap = k
   ·
    have : L.drop k = [] := List.drop_of_length_le (by omega)
    rw [this]; exact .inl rfl
   ·
    refine .inr ⟨b, off + k * 32, by simp [loAd, hck], hb, fun j v hv => ?_⟩
    rw [← fl_drop k h1, List.getElem?_drop] at hv
    rw [Nat.add_assoc]
    exact hc _ v hv
theorem run_build1 (w : World) (x : List UInt8) (hx : x.length = 32) : (Instr.buildSlice 22 1 #[(0, .agg (bv x).toArray)]).run Tryz.prog w = .ok (.slice (some ⟨w.heap.size, 0, none⟩) 1 1) (w.alloc (.cells (bv x).toArray 24)) := by
 obtain ⟨y, hy, hz, hs, _⟩ := info_parts info_id
 have hf : ∀ arr : Array Value, arr.size = 32 → Instr.fill (fun i => some (i * 32, 32)) arr [(0, .agg (bv x).toArray)] = some (bv x).toArray := fun arr ha => by
  have h1 := fold_all (bv x) arr (by rw [ha, bv_length, hx])
  have hb : (bv x).length = 32 := by rw [bv_length, hx]
  simp only [Instr.fill, Value.cells, Nat.zero_mul, Nat.zero_add, List.size_toArray, hb, ha]
  simp [h1]
 unfold Instr.buildSlice
 simp only [Sem.run_bind, run_underlying Tryz.underlying22, Result.andThen_ok, sizeOf, typeInfo]
 simp only [Nat.one_mul]
 simp [hy, hs, hf, newRow, newObj]
 rfl
theorem step_build1 {ops : Array Oper} {rest : List Oper} {o : Oper} {a : Act} {w : World} {Q : Exit → Act → World → Prop} {x : Operand} {y : List UInt8} (hg : o.guard = none)
  (ho : o.op = .buildSlice 22 1 #[(0, x)]) (hx : a.eval x = .agg (bv y).toArray) (hy : y.length = 32)
  (h : wpList Tryz.prog ops Q rest (a.put o.dst (.slice (some ⟨w.heap.size, 0, none⟩) 1 1)) (w.alloc (.cells (bv y).toArray 24))) : wpList Tryz.prog ops Q (o :: rest) a w := by
 refine wpList_plain hg fun K hK => ?_
 unfold Oper.wp execOp
 have hr := run_build1 w y hy
 simp only [ho, List.map_toArray, List.map_cons, List.map_nil, hx, Sem.run_bind, hr, Result.andThen_ok, Sem.run_pure]
 exact hK _ _ h
/-- 'append(v, x..)', x a list that reads -/
theorem run_append_rd {w : World} {F : Nat → Prop} {v vx : Value} {L M : List (List UInt8)} (hown : OwnI w F v L) (hx : RdV w vx M) (hlen : L.length + M.length ≤ 1099511627776) (hn : New F w) (ty : TypeId) :
  ∃ v' w', (Builtin.append_ #[22, 22] ty #[v, vx]).run Tryz.prog w = .ok v' w' ∧ OwnI w' F v' (L ++ M) ∧ Turn (fun k => v.ownBlock = some k ∨ w.heap.size ≤ k) w w' := by
 obtain ⟨h1, h2, ad', cap', rfl, h3, h4, h5, h6, h7⟩ := hx
 exact run_append_ids w ty F v L hown ad' M cap' h1 h7 h5 hlen hn
end Go.Proofs.YtpeneeddfgmjpaaGreatDoor.ids
