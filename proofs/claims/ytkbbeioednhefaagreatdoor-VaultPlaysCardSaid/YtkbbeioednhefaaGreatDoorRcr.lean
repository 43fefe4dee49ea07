/-
  Contracts of the document's own answers for layer 1 (petrelref01): Num and Text.
  petrelref01.Num of a number that fits.
  petrelref03.Add: the document's answer.
  petrelref11 by plain functions: inner, num, Put, Next.
-/
import Derived.Test.YtkbbeioednhefaaGreatDoorRdx
import Derived.Outline
import Derived.Test.YtkbbeioednhefaaGreatDoorOpp
import Derived.Test.YtkbbeioednhefaaGreatDoorSha
import Derived.Test.YtkbbeioednhefaaGreatDoorRcp
import Derived.Test.YtkbbeioednhefaaGreatDoorStrx
namespace Go.Proofs.YtkbbeioednhefaaGreatDoor.oct
open Go.RowKit Go.Proofs.YtkbbeioednhefaaGreatDoor.mem

theorem refnum_size (n b : Int) (w : World) (hb : sz b = false) :
    Calls Tryz.prog 53 #[.int .i64 n, .int .i64 b] w fun e w' => e = .returned (.tuple #[.string ⟨#[]⟩, .int .i64 1]) ∧ Below w.heap.size w w' := by
  have h3 : b ≠ 1 ∧ b ≠ 2 ∧ b ≠ 4 := by simp [sz] at hb; omega
  obtain ⟨h1, h2, h4⟩ := h3
  have d1 : (b != 1) = true := by simpa using h1
  have d2 : (b != 2) = true := by simpa using h2
  have d4 : (b != 4) = true := by simpa using h4
  clear h1 h2 h4 hb
  go_enter Tryz.func53, Tryz.ntmps53
  go_wp2
  go_ret2
  exact ⟨rfl, Below.refl _ _⟩

theorem refnum_neg1 (n : Int) (w : World) (h0 : n < 0) :
    Calls Tryz.prog 53 #[.int .i64 n, .int .i64 1] w fun e w' => e = .returned (.tuple #[.string ⟨#[]⟩, .int .i64 5]) ∧ Below w.heap.size w w' := by
  go_enter Tryz.func53, Tryz.ntmps53
  go_wp2
  go_loop [6, 7] (fun m i => (m = .int .i64 256 ∧ i = .int .i64 1)) (fun _ i => 1 - (intOf i).toNat)
  case atStart => exact ⟨rfl, rfl⟩
  case round =>
    obtain ⟨rfl, rfl⟩ := hrel
    go_wp2
    go_ret2
    exact ⟨rfl, Below.refl _ _⟩

theorem refnum_wide1 (n : Int) (w : World) (h0 : 256 ≤ n) :
    Calls Tryz.prog 53 #[.int .i64 n, .int .i64 1] w fun e w' => e = .returned (.tuple #[.string ⟨#[]⟩, .int .i64 5]) ∧ Below w.heap.size w w' := by
  have hng : ¬ n < 0 := by omega
  go_enter Tryz.func53, Tryz.ntmps53
  go_wp2
  go_loop [6, 7] (fun m i => (m = .int .i64 256 ∧ i = .int .i64 1)) (fun _ i => 1 - (intOf i).toNat)
  case atStart => exact ⟨rfl, rfl⟩
  case round =>
    obtain ⟨rfl, rfl⟩ := hrel
    go_wp2
    go_ret2
    exact ⟨rfl, Below.refl _ _⟩

theorem refnum_neg2 (n : Int) (w : World) (h0 : n < 0) :
    Calls Tryz.prog 53 #[.int .i64 n, .int .i64 2] w fun e w' => e = .returned (.tuple #[.string ⟨#[]⟩, .int .i64 5]) ∧ Below w.heap.size w w' := by
  go_enter Tryz.func53, Tryz.ntmps53
  go_wp2
  go_loop [6, 7] (fun m i => (m = .int .i64 256 ∧ i = .int .i64 1) ∨ (m = .int .i64 65536 ∧ i = .int .i64 2)) (fun _ i => 2 - (intOf i).toNat)
  case atStart => exact .inl ⟨rfl, rfl⟩
  case round =>
    rcases hrel with ⟨rfl, rfl⟩ | ⟨rfl, rfl⟩
    · go_wp2
      go_round
      case rel => exact .inr (⟨rfl, rfl⟩)
      case measure => simp [intOf]
    · go_wp2
      go_ret2
      exact ⟨rfl, Below.refl _ _⟩

theorem refnum_wide2 (n : Int) (w : World) (h0 : 65536 ≤ n) :
    Calls Tryz.prog 53 #[.int .i64 n, .int .i64 2] w fun e w' => e = .returned (.tuple #[.string ⟨#[]⟩, .int .i64 5]) ∧ Below w.heap.size w w' := by
  have hng : ¬ n < 0 := by omega
  go_enter Tryz.func53, Tryz.ntmps53
  go_wp2
  go_loop [6, 7] (fun m i => (m = .int .i64 256 ∧ i = .int .i64 1) ∨ (m = .int .i64 65536 ∧ i = .int .i64 2)) (fun _ i => 2 - (intOf i).toNat)
  case atStart => exact .inl ⟨rfl, rfl⟩
  case round =>
    rcases hrel with ⟨rfl, rfl⟩ | ⟨rfl, rfl⟩
    · go_wp2
      go_round
      case rel => exact .inr (⟨rfl, rfl⟩)
      case measure => simp [intOf]
    · go_wp2
      go_ret2
      exact ⟨rfl, Below.refl _ _⟩

theorem refnum_neg4 (n : Int) (w : World) (h0 : n < 0) :
    Calls Tryz.prog 53 #[.int .i64 n, .int .i64 4] w fun e w' => e = .returned (.tuple #[.string ⟨#[]⟩, .int .i64 5]) ∧ Below w.heap.size w w' := by
  go_enter Tryz.func53, Tryz.ntmps53
  go_wp2
  go_loop [6, 7] (fun m i => (m = .int .i64 256 ∧ i = .int .i64 1) ∨ (m = .int .i64 65536 ∧ i = .int .i64 2) ∨ (m = .int .i64 16777216 ∧ i = .int .i64 3) ∨ (m = .int .i64 4294967296 ∧ i = .int .i64 4)) (fun _ i => 4 - (intOf i).toNat)
  case atStart => exact .inl ⟨rfl, rfl⟩
  case round =>
    rcases hrel with ⟨rfl, rfl⟩ | ⟨rfl, rfl⟩ | ⟨rfl, rfl⟩ | ⟨rfl, rfl⟩
    · go_wp2
      go_round
      case rel => exact .inr (.inl ⟨rfl, rfl⟩)
      case measure => simp [intOf]
    · go_wp2
      go_round
      case rel => exact .inr (.inr (.inl ⟨rfl, rfl⟩))
      case measure => simp [intOf]
    · go_wp2
      go_round
      case rel => exact .inr (.inr (.inr (⟨rfl, rfl⟩)))
      case measure => simp [intOf]
    · go_wp2
      go_ret2
      exact ⟨rfl, Below.refl _ _⟩

theorem refnum_wide4 (n : Int) (w : World) (h0 : 4294967296 ≤ n) :
    Calls Tryz.prog 53 #[.int .i64 n, .int .i64 4] w fun e w' => e = .returned (.tuple #[.string ⟨#[]⟩, .int .i64 5]) ∧ Below w.heap.size w w' := by
  have hng : ¬ n < 0 := by omega
  go_enter Tryz.func53, Tryz.ntmps53
  go_wp2
  go_loop [6, 7] (fun m i => (m = .int .i64 256 ∧ i = .int .i64 1) ∨ (m = .int .i64 65536 ∧ i = .int .i64 2) ∨ (m = .int .i64 16777216 ∧ i = .int .i64 3) ∨ (m = .int .i64 4294967296 ∧ i = .int .i64 4)) (fun _ i => 4 - (intOf i).toNat)
  case atStart => exact .inl ⟨rfl, rfl⟩
  case round =>
    rcases hrel with ⟨rfl, rfl⟩ | ⟨rfl, rfl⟩ | ⟨rfl, rfl⟩ | ⟨rfl, rfl⟩
    · go_wp2
      go_round
      case rel => exact .inr (.inl ⟨rfl, rfl⟩)
      case measure => simp [intOf]
    · go_wp2
      go_round
      case rel => exact .inr (.inr (.inl ⟨rfl, rfl⟩))
      case measure => simp [intOf]
    · go_wp2
      go_round
      case rel => exact .inr (.inr (.inr (⟨rfl, rfl⟩)))
      case measure => simp [intOf]
    · go_wp2
      go_ret2
      exact ⟨rfl, Below.refl _ _⟩

set_option maxRecDepth 100000 in
theorem refnum_good1 (n : Int) (w : World) (h0 : 0 ≤ n) (h1 : n < 256) :
    Calls Tryz.prog 53 #[.int .i64 n, .int .i64 1] w fun e w' => e = .returned (.tuple #[.string (tx (be n 1)), .int .i64 0]) ∧ Below w.heap.size w w' := by
  have hng : ¬ n < 0 := by omega
  have hge : ¬ 256 ≤ n := by omega
  have hmk : ∀ w : World, (Instr.makeSlice 95 (.int .i64 1) (.int .i64 1)).run Tryz.prog w = .ok (.slice (some ⟨w.heap.size, 0, none⟩) 1 1) (w.alloc (.cells #[.int .u8 0] 5)) := fun _ => by kernel_rfl
  have hcv : (convert 95 9 (.slice (some ⟨w.heap.size, 0, none⟩) 1 1)).run Tryz.prog (w.alloc (.cells #[.int .u8 (n % 256)] 5)) = .ok (.string (tx (be n 1))) (w.alloc (.cells #[.int .u8 (n % 256)] 5)) := by
    have hc : bCells (be n 1) = #[.int .u8 (n % 256)].toList := by rw [be1 n h0]
    have h := run_convert_bytes_back (P := Tryz.prog) (w.alloc (.cells #[.int .u8 (n % 256)] 5)) 95 9 5 ⟨w.heap.size, 0, none⟩ 1 (be n 1) Tryz.underlying95 Tryz.underlying5 Tryz.underlying9 (fun j hj => by
      have := new_cells w 5 (bCells (be n 1)) j _ (by simp [bCells, List.getElem?_eq_getElem hj]; rfl)
      rw [hc] at this
      exact this)
    exact h
  go_enter Tryz.func53, Tryz.ntmps53
  go_wp2
  go_loop [6, 7] (fun m i => (m = .int .i64 256 ∧ i = .int .i64 1)) (fun _ i => 1 - (intOf i).toNat)
  case atStart => exact ⟨rfl, rfl⟩
  case round =>
    obtain ⟨rfl, rfl⟩ := hrel
    go_wp2
    go_loopw [9, 10] (fun x i wr => (x = .int .i64 (n) ∧ i = .int .i64 (0) ∧ wr = w.alloc (.cells #[.int .u8 0] 5)) ∨ (x = .int .i64 (n / 256) ∧ i = .int .i64 (-1) ∧ wr = w.alloc (.cells #[.int .u8 (n % 256)] 5))) (fun _ i _ => (intOf i + 1).toNat)
    case atStart => exact .inl ⟨rfl, rfl, rfl⟩
    case round =>
      rcases hrel with ⟨rfl, rfl, rfl⟩ | ⟨rfl, rfl, rfl⟩
      · go_wp2
        go_roundw
        case rel => exact .inr (⟨by first | rfl | (congr 1; omega), by first | rfl | simp, by first | trivial | rfl⟩)
        case measure => simp [intOf]
      · go_wp2
        go_ret2
        exact ⟨rfl, (Below.refl _ _).alloc (Nat.le_refl _) _⟩

set_option maxRecDepth 100000 in
theorem refnum_good2 (n : Int) (w : World) (h0 : 0 ≤ n) (h1 : n < 65536) :
    Calls Tryz.prog 53 #[.int .i64 n, .int .i64 2] w fun e w' => e = .returned (.tuple #[.string (tx (be n 2)), .int .i64 0]) ∧ Below w.heap.size w w' := by
  have hng : ¬ n < 0 := by omega
  have hge : ¬ 65536 ≤ n := by omega
  have hmk : ∀ w : World, (Instr.makeSlice 95 (.int .i64 2) (.int .i64 2)).run Tryz.prog w = .ok (.slice (some ⟨w.heap.size, 0, none⟩) 2 2) (w.alloc (.cells #[.int .u8 0, .int .u8 0] 5)) := fun _ => by kernel_rfl
  have hcv : (convert 95 9 (.slice (some ⟨w.heap.size, 0, none⟩) 2 2)).run Tryz.prog (w.alloc (.cells #[.int .u8 (n / 256 % 256), .int .u8 (n % 256)] 5)) = .ok (.string (tx (be n 2))) (w.alloc (.cells #[.int .u8 (n / 256 % 256), .int .u8 (n % 256)] 5)) := by
    have hc : bCells (be n 2) = #[.int .u8 (n / 256 % 256), .int .u8 (n % 256)].toList := by rw [be2 n h0 h1]; simp; omega
    have h := run_convert_bytes_back (P := Tryz.prog) (w.alloc (.cells #[.int .u8 (n / 256 % 256), .int .u8 (n % 256)] 5)) 95 9 5 ⟨w.heap.size, 0, none⟩ 2 (be n 2) Tryz.underlying95 Tryz.underlying5 Tryz.underlying9 (fun j hj => by
      have := new_cells w 5 (bCells (be n 2)) j _ (by simp [bCells, List.getElem?_eq_getElem hj]; rfl)
      rw [hc] at this
      exact this)
    exact h
  go_enter Tryz.func53, Tryz.ntmps53
  go_wp2
  go_loop [6, 7] (fun m i => (m = .int .i64 256 ∧ i = .int .i64 1) ∨ (m = .int .i64 65536 ∧ i = .int .i64 2)) (fun _ i => 2 - (intOf i).toNat)
  case atStart => exact .inl ⟨rfl, rfl⟩
  case round =>
    rcases hrel with ⟨rfl, rfl⟩ | ⟨rfl, rfl⟩
    · go_wp2
      go_round
      case rel => exact .inr (⟨rfl, rfl⟩)
      case measure => simp [intOf]
    · go_wp2
      go_loopw [9, 10] (fun x i wr => (x = .int .i64 (n) ∧ i = .int .i64 (1) ∧ wr = w.alloc (.cells #[.int .u8 0, .int .u8 0] 5)) ∨ (x = .int .i64 (n / 256) ∧ i = .int .i64 (0) ∧ wr = w.alloc (.cells #[.int .u8 0, .int .u8 (n % 256)] 5)) ∨ (x = .int .i64 (n / 65536) ∧ i = .int .i64 (-1) ∧ wr = w.alloc (.cells #[.int .u8 (n / 256 % 256), .int .u8 (n % 256)] 5))) (fun _ i _ => (intOf i + 1).toNat)
      case atStart => exact .inl ⟨rfl, rfl, rfl⟩
      case round =>
        rcases hrel with ⟨rfl, rfl, rfl⟩ | ⟨rfl, rfl, rfl⟩ | ⟨rfl, rfl, rfl⟩
        · go_wp2
          go_roundw
          case rel => exact .inr (.inl ⟨by first | rfl | (congr 1; omega), by first | rfl | simp, by first | trivial | rfl⟩)
          case measure => simp [intOf]
        · go_wp2
          go_roundw
          case rel => exact .inr (.inr (⟨by first | rfl | (congr 1; omega), by first | rfl | simp, by first | trivial | rfl⟩))
          case measure => simp [intOf]
        · go_wp2
          go_ret2
          exact ⟨rfl, (Below.refl _ _).alloc (Nat.le_refl _) _⟩

set_option maxRecDepth 100000 in
theorem refnum_good4 (n : Int) (w : World) (h0 : 0 ≤ n) (h1 : n < 4294967296) :
    Calls Tryz.prog 53 #[.int .i64 n, .int .i64 4] w fun e w' => e = .returned (.tuple #[.string (tx (be n 4)), .int .i64 0]) ∧ Below w.heap.size w w' := by
  have hng : ¬ n < 0 := by omega
  have hge : ¬ 4294967296 ≤ n := by omega
  have hmk : ∀ w : World, (Instr.makeSlice 95 (.int .i64 4) (.int .i64 4)).run Tryz.prog w = .ok (.slice (some ⟨w.heap.size, 0, none⟩) 4 4) (w.alloc (.cells #[.int .u8 0, .int .u8 0, .int .u8 0, .int .u8 0] 5)) := fun _ => by kernel_rfl
  have hcv : (convert 95 9 (.slice (some ⟨w.heap.size, 0, none⟩) 4 4)).run Tryz.prog (w.alloc (.cells #[.int .u8 (n / 16777216 % 256), .int .u8 (n / 65536 % 256), .int .u8 (n / 256 % 256), .int .u8 (n % 256)] 5)) = .ok (.string (tx (be n 4))) (w.alloc (.cells #[.int .u8 (n / 16777216 % 256), .int .u8 (n / 65536 % 256), .int .u8 (n / 256 % 256), .int .u8 (n % 256)] 5)) := by
    have hc : bCells (be n 4) = #[.int .u8 (n / 16777216 % 256), .int .u8 (n / 65536 % 256), .int .u8 (n / 256 % 256), .int .u8 (n % 256)].toList := by rw [be4 n h0 h1]; simp; omega
    have h := run_convert_bytes_back (P := Tryz.prog) (w.alloc (.cells #[.int .u8 (n / 16777216 % 256), .int .u8 (n / 65536 % 256), .int .u8 (n / 256 % 256), .int .u8 (n % 256)] 5)) 95 9 5 ⟨w.heap.size, 0, none⟩ 4 (be n 4) Tryz.underlying95 Tryz.underlying5 Tryz.underlying9 (fun j hj => by
      have := new_cells w 5 (bCells (be n 4)) j _ (by simp [bCells, List.getElem?_eq_getElem hj]; rfl)
      rw [hc] at this
      exact this)
    exact h
  go_enter Tryz.func53, Tryz.ntmps53
  go_wp2
  go_loop [6, 7] (fun m i => (m = .int .i64 256 ∧ i = .int .i64 1) ∨ (m = .int .i64 65536 ∧ i = .int .i64 2) ∨ (m = .int .i64 16777216 ∧ i = .int .i64 3) ∨ (m = .int .i64 4294967296 ∧ i = .int .i64 4)) (fun _ i => 4 - (intOf i).toNat)
  case atStart => exact .inl ⟨rfl, rfl⟩
  case round =>
    rcases hrel with ⟨rfl, rfl⟩ | ⟨rfl, rfl⟩ | ⟨rfl, rfl⟩ | ⟨rfl, rfl⟩
    · go_wp2
      go_round
      case rel => exact .inr (.inl ⟨rfl, rfl⟩)
      case measure => simp [intOf]
    · go_wp2
      go_round
      case rel => exact .inr (.inr (.inl ⟨rfl, rfl⟩))
      case measure => simp [intOf]
    · go_wp2
      go_round
      case rel => exact .inr (.inr (.inr (⟨rfl, rfl⟩)))
      case measure => simp [intOf]
    · go_wp2
      go_loopw [9, 10] (fun x i wr => (x = .int .i64 (n) ∧ i = .int .i64 (3) ∧ wr = w.alloc (.cells #[.int .u8 0, .int .u8 0, .int .u8 0, .int .u8 0] 5)) ∨ (x = .int .i64 (n / 256) ∧ i = .int .i64 (2) ∧ wr = w.alloc (.cells #[.int .u8 0, .int .u8 0, .int .u8 0, .int .u8 (n % 256)] 5)) ∨ (x = .int .i64 (n / 65536) ∧ i = .int .i64 (1) ∧ wr = w.alloc (.cells #[.int .u8 0, .int .u8 0, .int .u8 (n / 256 % 256), .int .u8 (n % 256)] 5)) ∨ (x = .int .i64 (n / 16777216) ∧ i = .int .i64 (0) ∧ wr = w.alloc (.cells #[.int .u8 0, .int .u8 (n / 65536 % 256), .int .u8 (n / 256 % 256), .int .u8 (n % 256)] 5)) ∨ (x = .int .i64 (n / 4294967296) ∧ i = .int .i64 (-1) ∧ wr = w.alloc (.cells #[.int .u8 (n / 16777216 % 256), .int .u8 (n / 65536 % 256), .int .u8 (n / 256 % 256), .int .u8 (n % 256)] 5))) (fun _ i _ => (intOf i + 1).toNat)
      case atStart => exact .inl ⟨rfl, rfl, rfl⟩
      case round =>
        rcases hrel with ⟨rfl, rfl, rfl⟩ | ⟨rfl, rfl, rfl⟩ | ⟨rfl, rfl, rfl⟩ | ⟨rfl, rfl, rfl⟩ | ⟨rfl, rfl, rfl⟩
        · go_wp2
          go_roundw
          case rel => exact .inr (.inl ⟨by first | rfl | (congr 1; omega), by first | rfl | simp, by first | trivial | rfl⟩)
          case measure => simp [intOf]
        · go_wp2
          go_roundw
          case rel => exact .inr (.inr (.inl ⟨by first | rfl | (congr 1; omega), by first | rfl | simp, by first | trivial | rfl⟩))
          case measure => simp [intOf]
        · go_wp2
          go_roundw
          case rel => exact .inr (.inr (.inr (.inl ⟨by first | rfl | (congr 1; omega), by first | rfl | simp, by first | trivial | rfl⟩)))
          case measure => simp [intOf]
        · go_wp2
          go_roundw
          case rel => exact .inr (.inr (.inr (.inr (⟨by first | rfl | (congr 1; omega), by first | rfl | simp, by first | trivial | rfl⟩))))
          case measure => simp [intOf]
        · go_wp2
          go_ret2
          exact ⟨rfl, (Below.refl _ _).alloc (Nat.le_refl _) _⟩

def refNum (n b : Int) : ByteArray × Int := if numErr n b ≠ 0 then (⟨#[]⟩, numErr n b) else (tx (be n b), 0)
theorem refnum_any (n b : Int) (w : World) : Calls Tryz.prog 53 #[.int .i64 n, .int .i64 b] w fun e w' => e = .returned (.tuple #[.string (refNum n b).1, .int .i64 (refNum n b).2]) ∧ Below w.heap.size w w' := by
  by_cases hs : sz b = false
  · have e : numErr n b = 1 := by unfold numErr; rw [if_pos hs]
    have e2 : refNum n b = (⟨#[]⟩, 1) := by unfold refNum; rw [e, if_pos (by decide)]
    rw [e2]
    exact refnum_size n b w hs
  · have hb : b = 1 ∨ b = 2 ∨ b = 4 := by simp [sz] at hs; omega
    by_cases hng : n < 0
    · have e : numErr n b = 5 := by unfold numErr; rw [if_neg hs, if_pos (.inl hng)]
      have e2 : refNum n b = (⟨#[]⟩, 5) := by unfold refNum; rw [e, if_pos (by decide)]
      rw [e2]
      rcases hb with rfl | rfl | rfl
      · exact refnum_neg1 n w hng
      · exact refnum_neg2 n w hng
      · exact refnum_neg4 n w hng
    · by_cases hw : (if b = 1 then 256 else if b = 2 then 65536 else 4294967296) ≤ n
      · have e : numErr n b = 5 := by unfold numErr; rw [if_neg hs, if_pos (.inr hw)]
        have e2 : refNum n b = (⟨#[]⟩, 5) := by unfold refNum; rw [e, if_pos (by decide)]
        rw [e2]
        rcases hb with rfl | rfl | rfl
        · exact refnum_wide1 n w (by simpa using hw)
        · exact refnum_wide2 n w (by simpa using hw)
        · exact refnum_wide4 n w (by simpa using hw)
      · have e : numErr n b = 0 := by unfold numErr; rw [if_neg hs, if_neg (by rintro (h | h) <;> contradiction)]
        have e2 : refNum n b = (tx (be n b), 0) := by unfold refNum; rw [e, if_neg (by decide)]
        rw [e2]
        rcases hb with rfl | rfl | rfl
        · exact refnum_good1 n w (by omega) (by simpa using hw)
        · exact refnum_good2 n w (by omega) (by simpa using hw)
        · exact refnum_good4 n w (by omega) (by simpa using hw)
end Go.Proofs.YtkbbeioednhefaaGreatDoor.oct

namespace Go.Proofs.YtkbbeioednhefaaGreatDoor.opn
open Go.RowKit Go.Proofs.YtkbbeioednhefaaGreatDoor.mem Go.Proofs.YtkbbeioednhefaaGreatDoor.sha

theorem tx_app (a b : List UInt8) : oct.tx a ++ oct.tx b = oct.tx (a ++ b) := by
  apply oct.bytes_ext
  rw [ByteArray.data_append, Array.toList_append, oct.tx_list, oct.tx_list, oct.tx_list]
theorem num1_r (n : Int) (h0 : 0 ≤ n) (h1 : n < 256) (w : World) : Calls Tryz.prog 53 #[.int .i64 n, .int .i64 1] w fun e w' => e = .returned (.tuple #[.string (oct.tx (b1 n)), .int .i64 0]) ∧ Below w.heap.size w w' := by
  have := oct.refnum_any n 1 w
  rw [show oct.refNum n 1 = (oct.tx (b1 n), 0) by
    unfold oct.refNum
    rw [if_neg (by unfold oct.numErr; rw [if_neg (by decide), if_neg (by simp; omega)]; decide)]
    rfl] at this
  exact this
theorem num4_r (n : Int) (h0 : 0 ≤ n) (h1 : n < 4294967296) (w : World) : Calls Tryz.prog 53 #[.int .i64 n, .int .i64 4] w fun e w' => e = .returned (.tuple #[.string (oct.tx (b4 n)), .int .i64 0]) ∧ Below w.heap.size w w' := by
  have := oct.refnum_any n 4 w
  rw [show oct.refNum n 4 = (oct.tx (b4 n), 0) by
    unfold oct.refNum
    rw [if_neg (by unfold oct.numErr; rw [if_neg (by decide), if_neg (by simp; omega)]; decide)]
    rfl] at this
  exact this

theorem num2_r (n : Int) (h0 : 0 ≤ n) (h1 : n < 65536) (w : World) : Calls Tryz.prog 53 #[.int .i64 n, .int .i64 2] w fun e w' => e = .returned (.tuple #[.string (oct.tx (b2 n)), .int .i64 0]) ∧ Below w.heap.size w w' := by
  have := oct.refnum_any n 2 w
  rw [show oct.refNum n 2 = (oct.tx (b2 n), 0) by
    unfold oct.refNum
    rw [if_neg (by unfold oct.numErr; rw [if_neg (by decide), if_neg (by simp; omega)]; decide)]
    rfl] at this
  exact this

end Go.Proofs.YtkbbeioednhefaaGreatDoor.opn

namespace Go.Proofs.YtkbbeioednhefaaGreatDoor.crc
open Go.RowKit Go.Proofs.YtkbbeioednhefaaGreatDoor.mem Go.Proofs.YtkbbeioednhefaaGreatDoor.sha

theorem A_An (n : Nat) (x : UInt32) : A (An n x) = An (n + 1) x := by
  rw [An_add n 1 x]; rfl
/-- what is left of a byte behind b of its bits -/
def left (X : UInt32) (b : Nat) : UInt32 := UInt32.ofNat (X.toNat / 2 ^ b)
theorem left_nat (X : UInt32) (b : Nat) : (left X b).toNat = X.toNat / 2 ^ b := by
  unfold left
  have := X.toNat_lt
  exact UInt32.toNat_ofNat_of_lt' (Nat.lt_of_le_of_lt (Nat.div_le_self _ _) (by show X.toNat < 4294967296; omega))
theorem left_div (X : UInt32) (b : Nat) : U X / ((2 ^ b : Nat) : Int) = U (left X b) := by
  unfold U
  rw [left_nat]
  rfl
theorem left_pow (X : UInt32) (b : Nat) : U X / (2 : Int) ^ b = U (left X b) := by
  rw [← left_div]
  congr 1
theorem left_zero (X : UInt32) : left X 0 = X := by
  apply UInt32.toNat_inj.1
  rw [left_nat]
  show X.toNat / 1 = X.toNat
  omega
theorem left_next (X : UInt32) (b : Nat) : left X b >>> 1 = left X (b + 1) := by
  apply UInt32.toNat_inj.1
  rw [UInt32.toNat_shiftRight, left_nat, left_nat]
  show (X.toNat / 2 ^ b) >>> (1 % 32) = _
  rw [Nat.shiftRight_eq_div_pow, Nat.div_div_eq_div_mul]
  rfl
theorem left_end (X : UInt32) (h : X.toNat < 256) : left X 8 = 0 := by
  apply UInt32.toNat_inj.1
  rw [left_nat]
  show X.toNat / 256 = 0
  omega
/-- the word behind b bits of a byte -/
def inner (w X : UInt32) (b : Nat) : UInt32 := An b (w ^^^ X) ^^^ left X b
theorem inner_zero (w X : UInt32) : inner w X 0 = w := by
  unfold inner
  rw [left_zero]
  show w ^^^ X ^^^ X = w
  rw [UInt32.xor_assoc, UInt32.xor_self, UInt32.xor_zero]
theorem inner_bit (w X : UInt32) (b : Nat) : inner w X b ^^^ left X b = An b (w ^^^ X) := by
  unfold inner
  rw [UInt32.xor_assoc, UInt32.xor_self, UInt32.xor_zero]
theorem inner_one (w X : UInt32) (b : Nat) (h : An b (w ^^^ X) &&& 1 = 1) : inner w X b >>> 1 ^^^ poly = inner w X (b + 1) := by
  unfold inner
  rw [xor_shr, left_next, ← A_An]
  have : A (An b (w ^^^ X)) = An b (w ^^^ X) >>> 1 ^^^ poly := by unfold A; rw [if_pos h]
  rw [this, UInt32.xor_assoc, UInt32.xor_assoc, UInt32.xor_comm poly]
theorem inner_none (w X : UInt32) (b : Nat) (h : ¬ An b (w ^^^ X) &&& 1 = 1) : inner w X b >>> 1 = inner w X (b + 1) := by
  unfold inner
  rw [xor_shr, left_next, ← A_An]
  have : A (An b (w ^^^ X)) = An b (w ^^^ X) >>> 1 := by unfold A; rw [if_neg h]
  rw [this]
theorem left_one (X : UInt32) : left X 1 = X >>> 1 := by
  have := left_next X 0
  rw [left_zero] at this
  exact this.symm
theorem inner_end (w : UInt32) (x : UInt8) : inner w x.toUInt32 8 = stepC w x := by
  unfold inner stepC
  rw [left_end _ (by rw [UInt8.toNat_toUInt32]; exact x.toNat_lt), UInt32.xor_zero]
theorem U_lit_not (a : UInt32) : bits .xor .u32 (U a) 4294967295 = U (~~~ a) := by
  have h : (4294967295 : Int) = U 0xffffffff := by decide
  rw [h, U_xor, UInt32.xor_comm, ← U_xor, ← h, U_not]
theorem U_lit_poly (a : UInt32) : bits .xor .u32 (U a) 3988292384 = U (a ^^^ poly) := by
  have h : (3988292384 : Int) = U poly := by decide
  rw [h, U_xor]
theorem U_lit_one (a : UInt32) : bits .and .u32 (U a) 1 = U (a &&& 1) := by
  have h : (1 : Int) = U 1 := by decide
  rw [h, U_and]
theorem size_list (s : ByteArray) : s.size = s.data.toList.length := Array.length_toList.symm
theorem U_eq_one (a : UInt32) (h : a = 1) : (U a == 1) = true := by rw [h]; decide
theorem U_ne_one (a : UInt32) (h : ¬ a = 1) : (U a == 1) = false := by
  refine beq_eq_false_iff_ne.2 fun e => h ?_
  apply UInt32.toNat_inj.1
  unfold U at e
  show a.toNat = 1
  omega

theorem run_index_str (s : ByteArray) (k : Nat) (h : k < s.size) (w : World) : (Instr.index 9 (.string s) (.int .i64 (k : Int))).run Tryz.prog w = .ok (.int .u8 (B (s.data.toList.getD k 0))) w := by
  have hs : s[k]? = some (s.data.toList.getD k 0) := by
    rw [List.getD_eq_getElem?_getD, List.getElem?_eq_getElem (by rw [← size_list]; exact h)]
    simp [getElem?_pos s k h]
    rfl
  have h0 : (0 : Int) ≤ (k : Int) := Int.natCast_nonneg _
  simp [Instr.index, asIntOf, run_underlying Tryz.underlying9, hs]
  rfl

set_option maxHeartbeats 1000000 in
set_option maxRecDepth 100000 in
theorem radd_any (c : UInt32) (s : ByteArray) (w : World) (hs : s.size ≤ 549755813888) : Calls Tryz.prog 76 #[.int .u32 (U c), .string s] w fun e w' => e = .returned (.int .u32 (U (addC c s.data.toList))) ∧ w = w' := by
  have hp := U_lit_poly
  have hn := U_lit_not
  have ho := U_lit_one
  have hx := U_xor
  have hU := U_nonneg
  have hh : ∀ X, U X / (2 : Int) = U (left X 1) := fun X => left_div X 1
  have hb0 := B_nonneg
  have hb1 := B_lt
  have hb2 := B_wrap
  go_enter Tryz.func76, Tryz.ntmps76
  go_wp2_with fail
  go_loopw [5, 6] (fun v i wr => ∃ k : Nat, k ≤ s.size ∧ i = .int .i64 k ∧ v = .int .u32 (U (runC (~~~ c) (s.data.toList.take k))) ∧ wr = w) (fun _ i _ => s.size - (intOf i).toNat)
  case atStart => exact ⟨0, Nat.zero_le _, rfl, rfl, rfl⟩
  case round =>
    obtain ⟨k, hk, rfl, rfl, rfl⟩ := hrel
    obtain ⟨y, hy⟩ : ∃ y, y = runC (~~~ c) (s.data.toList.take k) := ⟨_, rfl⟩
    rw [← hy]
    have HY := Lib.hid hy
    clear hy
    have k0 : (0 : Int) ≤ (k : Int) := Int.natCast_nonneg _
    by_cases hlt : k < s.size
    · have k1 : (k : Int) < (s.size : Int) := by omega
      obtain ⟨x, hx1⟩ : ∃ x, x = s.data.toList.getD k 0 := ⟨_, rfl⟩
      have hidx := fun u : World => run_index_str s k hlt u
      rw [← hx1] at hidx
      have HN : Hid (runC (~~~ c) (s.data.toList.take (k + 1)) = stepC y x) := Lib.hid (by
        rw [List.take_succ_eq_append_getElem (by rw [← size_list]; exact hlt), runC, List.foldl_append]
        rw [HY.out, hx1, List.getD_eq_getElem?_getD, List.getElem?_eq_getElem (by rw [← size_list]; exact hlt)]
        rfl)
      clear hx1
      go_wp2_with fail
      go_loopw [5, 7] (fun v j w2 => ∃ b : Nat, b ≤ 8 ∧ j = .int .i64 b ∧ v = .int .u32 (U (inner y x.toUInt32 b)) ∧ w2 = wr) (fun _ j _ => 8 - (intOf j).toNat)
      case atStart => exact ⟨0, by decide, rfl, by rw [inner_zero], rfl⟩
      case round =>
        obtain ⟨b, hb, rfl, rfl, rfl⟩ := hrel
        by_cases hlt8 : b < 8
        · by_cases hbit : An b (y ^^^ x.toUInt32) &&& 1 = 1
          · have h1 := inner_bit y x.toUInt32 b
            have H2 := inner_one y x.toUInt32 b hbit
            rw [← left_one] at H2
            replace H2 := Lib.hid H2
            obtain ⟨v, hv⟩ : ∃ v, v = inner y x.toUInt32 b := ⟨_, rfl⟩
            rw [← hv] at h1 H2 ⊢
            have ht := U_eq_one _ (show (v ^^^ left x.toUInt32 b) &&& 1 = 1 by rw [h1]; exact hbit)
            clear hbit h1 hv
            have hd := left_pow x.toUInt32 b
            have b0 : (0 : Int) ≤ b := Int.natCast_nonneg _
            have b1 : (b : Int) < 8 := by omega
            go_wp2_with fail
            exact ⟨⟨b + 1, hlt8, by simp, by rw [H2.out], trivial⟩, by simp [intOf]; omega⟩
          · have h1 := inner_bit y x.toUInt32 b
            have H2 := inner_none y x.toUInt32 b hbit
            rw [← left_one] at H2
            replace H2 := Lib.hid H2
            obtain ⟨v, hv⟩ : ∃ v, v = inner y x.toUInt32 b := ⟨_, rfl⟩
            rw [← hv] at h1 H2 ⊢
            have ht := U_ne_one _ (show ¬ (v ^^^ left x.toUInt32 b) &&& 1 = 1 by rw [h1]; exact hbit)
            clear hbit h1 hv
            have hd := left_pow x.toUInt32 b
            have b0 : (0 : Int) ≤ b := Int.natCast_nonneg _
            have b1 : (b : Int) < 8 := by omega
            go_wp2_with fail
            exact ⟨⟨b + 1, hlt8, by simp, by rw [H2.out], trivial⟩, by simp [intOf]; omega⟩
        · obtain rfl : b = 8 := by omega
          clear hlt8 hb
          rw [inner_end]
          go_wp2_with fail
          exact ⟨⟨k + 1, hlt, by simp, by rw [HN.out], trivial⟩, by simp [intOf]; omega⟩
    · obtain rfl : k = s.size := by omega
      clear hlt hk
      go_wp2_with fail
      go_ret
      refine ⟨?_, rfl⟩
      rw [HY.out, List.take_of_length_le (by rw [← size_list]; exact Nat.le_refl _)]
      rfl
end Go.Proofs.YtkbbeioednhefaaGreatDoor.crc

namespace Go.Proofs.YtkbbeioednhefaaGreatDoor.rcd
open Go.RowKit Go.Proofs.YtkbbeioednhefaaGreatDoor.mem Go.Proofs.YtkbbeioednhefaaGreatDoor.sha Go.Proofs.YtkbbeioednhefaaGreatDoor.opn

def recv (r : Rc) : Value := .agg #[.int .i64 r.k, .string (oct.tx r.body)]
theorem conv_k (w : World) (k : Int) (h : 0 ≤ k ∧ k < 256) : (convert 95 9 (.slice (some ⟨w.heap.size, 0, none⟩) 1 1)).run Tryz.prog (w.alloc (.cells #[.int .u8 k] 5)) = .ok (.string (oct.tx (b1 k))) (w.alloc (.cells #[.int .u8 k] 5)) := by
  have hn := byte_toNat k h.1
  refine run_convert_bytes_back (P := Tryz.prog) _ 95 9 5 ⟨w.heap.size, 0, none⟩ 1 (b1 k) Tryz.underlying95 Tryz.underlying5 Tryz.underlying9 (fun j hj => ?_)
  obtain rfl : j = 0 := by rw [b1_len] at hj; omega
  rw [Addr.add_lit, (Blk.new w _ _).cell]
  show some (Value.int .u8 k) = some (.int .u8 ((byte k).toNat : Int))
  rw [hn, Int.emod_eq_of_lt h.1 h.2]
set_option maxHeartbeats 2000000 in
set_option maxRecDepth 100000 in
theorem inner_any (k : Int) (s : ByteArray) (hk : 1 ≤ k ∧ k ≤ 3) (hb : s.size ≤ 140737488355328) (w : World) :
    Calls Tryz.prog 74 #[.agg #[.int .i64 k, .string s]] w fun e w' => e = .returned (.string (oct.tx (b1 k) ++ s)) ∧ Below w.heap.size w w' := by
  obtain ⟨h1, h2⟩ := hk
  have kw : IntKind.u8.wrap k = k := by rw [show IntKind.u8.wrap k = k % 256 from rfl]; omega
  have hz : ¬ 9223372036854775807 < (oct.tx (b1 k)).size + s.size := by rw [oct.tx_size, b1_len]; omega
  have hcv := conv_k (w.alloc (.cells #[.int .i64 k, .string s] 66)) k (by omega)
  rw [show (w.alloc (.cells #[.int .i64 k, .string s] 66)).heap.size = w.heap.size + 1 by simp] at hcv
  go_enter Tryz.func74, Tryz.ntmps74
  go_wp2_with fail
  go_ret
  exact ⟨rfl, ((Below.refl _ _).alloc (Nat.le_refl _) _).alloc (by simp) _⟩
set_option maxHeartbeats 2000000 in
set_option maxRecDepth 100000 in
theorem num_any (n : Int) (h0 : 0 ≤ n) (h1 : n < 4294967296) (w : World) :
    Calls Tryz.prog 75 #[.int .i64 n] w fun e w' => e = .returned (.string (oct.tx (b4 n))) ∧ Below w.heap.size w w' := by
  have H := Lib.hid (num4_r n h0 h1 w)
  go_enter Tryz.func75, Tryz.ntmps75
  go_wp2_with (go_at_call 53; (with_reducible refine H.out.mono ?_); rintro e w1 ⟨rfl, hb1⟩)
  go_ret
  exact ⟨rfl, hb1⟩
theorem radd0 (s : ByteArray) (w : World) (hs : s.size ≤ 549755813888) : Calls Tryz.prog 76 #[.int .u32 0, .string s] w fun e w' => e = .returned (.int .u32 (U (crc.addC 0 s.data.toList))) ∧ w = w' := crc.radd_any 0 s w hs
theorem putR_good {r : Rc} (h : checkR r = 0) : putR r = (enR r, 0) := by unfold putR; rw [if_neg (by simpa using h)]
theorem putR_bad {r : Rc} {e : Int} (h : checkR r = e) (he : e ≠ 0) : putR r = ([], e) := by unfold putR; rw [h, if_pos he]
set_option maxHeartbeats 4000000 in
set_option maxRecDepth 100000 in
theorem put_ref (k : Int) (b : List UInt8) (hb : b.length ≤ 140737488355328) (w : World) :
    Calls Tryz.prog 52 #[recv ⟨k, b⟩] w fun e w' => e = .returned (.tuple #[.string (oct.tx (putR ⟨k, b⟩).1), .int .i64 (putR ⟨k, b⟩).2]) ∧ Below w.heap.size w w' := by
  have hz := oct.tx_size b
  have hl := oct.tx_list b
  unfold recv
  obtain ⟨t, ht⟩ : ∃ t, t = oct.tx b := ⟨_, rfl⟩
  simp only
  rw [← ht] at hz hl ⊢
  have t0 : (0 : Int) ≤ (t.size : Int) := Int.natCast_nonneg _
  by_cases h1 : k < 1
  · have HE := Lib.hid (putR_bad (r := ⟨k, b⟩) (e := 10) (by unfold checkR; rw [if_pos (.inl h1)]) (by decide))
    rw [HE.out]
    clear ht hz hl
    go_enter Tryz.func52, Tryz.ntmps52
    go_wp2_with fail
    go_ret2
    exact ⟨rfl, (Below.refl _ _).alloc (Nat.le_refl _) _⟩
  by_cases h3 : 3 < k
  · have HE := Lib.hid (putR_bad (r := ⟨k, b⟩) (e := 10) (by unfold checkR; rw [if_pos (.inr h3)]) (by decide))
    rw [HE.out]
    clear ht hz hl
    go_enter Tryz.func52, Tryz.ntmps52
    go_wp2_with fail
    go_ret2
    exact ⟨rfl, (Below.refl _ _).alloc (Nat.le_refl _) _⟩
  by_cases h2 : (1048576 : Int) < (t.size : Int)
  · have HE := Lib.hid (putR_bad (r := ⟨k, b⟩) (e := 3) (by unfold checkR; rw [if_neg (by show ¬ (k < 1 ∨ 3 < k); omega), if_pos (by show 1048576 < b.length; omega)]) (by decide))
    rw [HE.out]
    clear ht hz hl
    go_enter Tryz.func52, Tryz.ntmps52
    go_wp2_with fail
    go_ret2
    exact ⟨rfl, (Below.refl _ _).alloc (Nat.le_refl _) _⟩
  · have hk : 1 ≤ k ∧ k ≤ 3 := by omega
    have HE := Lib.hid (putR_good (r := ⟨k, b⟩) (by unfold checkR; rw [if_neg (by show ¬ (k < 1 ∨ 3 < k); omega), if_neg (by show ¬ 1048576 < b.length; omega)]))
    rw [HE.out]
    obtain ⟨q, hq⟩ : ∃ q, q = oct.tx (b1 k) ++ t := ⟨_, rfl⟩
    have hqs : q.size = t.size + 1 := by rw [hq, ByteArray.size_append, oct.tx_size, b1_len]; omega
    have hql : q.data.toList = inner ⟨k, b⟩ := by rw [hq, ByteArray.data_append, Array.toList_append, oct.tx_list, hl]; rfl
    have HI := Lib.hid fun u => inner_any k t hk (by omega) u
    rw [← hq] at HI
    have HA := Lib.hid fun u => radd0 q u (by omega)
    rw [hql] at HA
    obtain ⟨c, hc⟩ : ∃ c, c = crc.addC 0 (inner ⟨k, b⟩) := ⟨_, rfl⟩
    rw [← hc] at HA
    obtain ⟨z, hzc⟩ : ∃ z, z = U c := ⟨_, rfl⟩
    have hz0 : 0 ≤ z ∧ z < 4294967296 := by rw [hzc]; exact ⟨Int.natCast_nonneg _, by have := c.toNat_lt; show (c.toNat : Int) < _; omega⟩
    rw [← hzc] at HA
    obtain ⟨z0, z1⟩ := hz0
    have zw : IntKind.i64.wrap z = z := by rw [IntKind.wrap_i64]; omega
    have HN1 := Lib.hid fun u => num_any (t.size : Int) t0 (by omega) u
    have HN2 := Lib.hid fun u => num_any z z0 z1 u
    obtain ⟨p1, hp1⟩ : ∃ p, p = oct.tx (b4 (t.size : Int)) := ⟨_, rfl⟩
    obtain ⟨p2, hp2⟩ : ∃ p, p = oct.tx (b4 z) := ⟨_, rfl⟩
    have s1 : p1.size = 4 := by rw [hp1, oct.tx_size]; rfl
    have s2 : p2.size = 4 := by rw [hp2, oct.tx_size]; rfl
    rw [← hp1] at HN1
    rw [← hp2] at HN2
    have g1 : ¬ 9223372036854775807 < p1.size + q.size := by omega
    have g2 : ¬ 9223372036854775807 < p1.size + q.size + p2.size := by omega
    have g3 : ¬ 9223372036854775807 < (p1 ++ q).size + p2.size := by rw [ByteArray.size_append]; omega
    have HR : Hid (p1 ++ q ++ p2 = oct.tx (enR ⟨k, b⟩)) := Lib.hid (by
      apply oct.bytes_ext
      rw [ByteArray.data_append, ByteArray.data_append, Array.toList_append, Array.toList_append, hql, hp1, hp2, oct.tx_list, oct.tx_list, oct.tx_list, hzc, hc, hz]
      rfl)
    have BX := Lib.hid (Blk.new w 66 #[.int .i64 k, .string t])
    clear ht hz hl hq hqs hql hc hzc hp1 hp2 s1 s2 HE
    go_enter Tryz.func52, Tryz.ntmps52
    go_wp2_with (first
      | (go_at_call 74; (with_reducible refine (HI.out _).mono ?_); rintro e w1 ⟨rfl, hb1⟩; have d1 : w1.cell? ⟨w.heap.size, 1, none⟩ = some (.string t) := (by have := (BX.out.below hb1 (by simp)).cell 1; exact this))
      | (go_at_call 76; (with_reducible refine (HA.out _).mono ?_); rintro e w3 ⟨rfl, hb3⟩)
      | (go_at_call 75; (with_reducible refine (HN2.out _).mono ?_); rintro e w4 ⟨rfl, hb4⟩)
      | (go_at_call 75; (with_reducible refine (HN1.out _).mono ?_); rintro e w2 ⟨rfl, hb2⟩))
    go_ret2
    rw [HR.out]
    refine ⟨rfl, ?_⟩
    have h1 : Below w.heap.size w (w.alloc (.cells #[.int .i64 k, .string t] 66)) := (Below.refl _ _).alloc (Nat.le_refl _) _
    have k1 := h1.trans (hb1.mono h1.size)
    have k2 := k1.trans (hb2.mono k1.size)
    rw [← hb3] at hb4
    exact k2.trans (hb4.mono k2.size)
end Go.Proofs.YtkbbeioednhefaaGreatDoor.rcd
