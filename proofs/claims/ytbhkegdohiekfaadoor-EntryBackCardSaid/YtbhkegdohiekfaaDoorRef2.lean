/-
  Contracts of the document's own answers for layer 1 (petrelref01): Num and Text.
-/
import Derived.Test.YtbhkegdohiekfaaDoorOctp
import Derived.Outline
namespace Go.Proofs.YtbhkegdohiekfaaDoor.oct
open Go.RowKit Go.Proofs.YtbhkegdohiekfaaDoor.mem

theorem refnum_size (n b : Int) (w : World) (hb : sz b = false) :
    Calls Tryd.prog 24 #[.int .i64 n, .int .i64 b] w fun e w' => e = .returned (.tuple #[.string ⟨#[]⟩, .int .i64 1]) ∧ Below w.heap.size w w' := by
  have h3 : b ≠ 1 ∧ b ≠ 2 ∧ b ≠ 4 := by simp [sz] at hb; omega
  obtain ⟨h1, h2, h4⟩ := h3
  have d1 : (b != 1) = true := by simpa using h1
  have d2 : (b != 2) = true := by simpa using h2
  have d4 : (b != 4) = true := by simpa using h4
  clear h1 h2 h4 hb
  go_enter Tryd.func24, Tryd.ntmps24
  go_wp2
  go_ret2
  exact ⟨rfl, Below.refl _ _⟩

theorem refnum_neg1 (n : Int) (w : World) (h0 : n < 0) :
    Calls Tryd.prog 24 #[.int .i64 n, .int .i64 1] w fun e w' => e = .returned (.tuple #[.string ⟨#[]⟩, .int .i64 5]) ∧ Below w.heap.size w w' := by
  go_enter Tryd.func24, Tryd.ntmps24
  go_wp2
  go_loop [6, 7] (fun m i => (m = .int .i64 256 ∧ i = .int .i64 1)) (fun _ i => 1 - (intOf i).toNat)
  case atStart => exact ⟨rfl, rfl⟩
  case round =>
    obtain ⟨rfl, rfl⟩ := hrel
    go_wp2
    go_ret2
    exact ⟨rfl, Below.refl _ _⟩

theorem refnum_wide1 (n : Int) (w : World) (h0 : 256 ≤ n) :
    Calls Tryd.prog 24 #[.int .i64 n, .int .i64 1] w fun e w' => e = .returned (.tuple #[.string ⟨#[]⟩, .int .i64 5]) ∧ Below w.heap.size w w' := by
  have hng : ¬ n < 0 := by omega
  go_enter Tryd.func24, Tryd.ntmps24
  go_wp2
  go_loop [6, 7] (fun m i => (m = .int .i64 256 ∧ i = .int .i64 1)) (fun _ i => 1 - (intOf i).toNat)
  case atStart => exact ⟨rfl, rfl⟩
  case round =>
    obtain ⟨rfl, rfl⟩ := hrel
    go_wp2
    go_ret2
    exact ⟨rfl, Below.refl _ _⟩

theorem refnum_neg2 (n : Int) (w : World) (h0 : n < 0) :
    Calls Tryd.prog 24 #[.int .i64 n, .int .i64 2] w fun e w' => e = .returned (.tuple #[.string ⟨#[]⟩, .int .i64 5]) ∧ Below w.heap.size w w' := by
  go_enter Tryd.func24, Tryd.ntmps24
  go_wp2
  go_loop [6, 7] (fun m i => (m = .int .i64 256 ∧ i = .int .i64 1) ∨ (m = .int .i64 65536 ∧ i = .int .i64 2)) (fun _ i => 2 - (intOf i).toNat)
  case atStart => exact .inl ⟨rfl, rfl⟩
  case round =>
    rcases hrel with ⟨rfl, rfl⟩ | ⟨rfl, rfl⟩
    · go_wp2
      go_round
      case rel => exact .inr (⟨rfl, rfl⟩)
      case measure => simp [intOf]
    · go_wp2
      go_ret2
      exact ⟨rfl, Below.refl _ _⟩

theorem refnum_wide2 (n : Int) (w : World) (h0 : 65536 ≤ n) :
    Calls Tryd.prog 24 #[.int .i64 n, .int .i64 2] w fun e w' => e = .returned (.tuple #[.string ⟨#[]⟩, .int .i64 5]) ∧ Below w.heap.size w w' := by
  have hng : ¬ n < 0 := by omega
  go_enter Tryd.func24, Tryd.ntmps24
  go_wp2
  go_loop [6, 7] (fun m i => (m = .int .i64 256 ∧ i = .int .i64 1) ∨ (m = .int .i64 65536 ∧ i = .int .i64 2)) (fun _ i => 2 - (intOf i).toNat)
  case atStart => exact .inl ⟨rfl, rfl⟩
  case round =>
    rcases hrel with ⟨rfl, rfl⟩ | ⟨rfl, rfl⟩
    · go_wp2
      go_round
      case rel => exact .inr (⟨rfl, rfl⟩)
      case measure => simp [intOf]
    · go_wp2
      go_ret2
      exact ⟨rfl, Below.refl _ _⟩

theorem refnum_neg4 (n : Int) (w : World) (h0 : n < 0) :
    Calls Tryd.prog 24 #[.int .i64 n, .int .i64 4] w fun e w' => e = .returned (.tuple #[.string ⟨#[]⟩, .int .i64 5]) ∧ Below w.heap.size w w' := by
  go_enter Tryd.func24, Tryd.ntmps24
  go_wp2
  go_loop [6, 7] (fun m i => (m = .int .i64 256 ∧ i = .int .i64 1) ∨ (m = .int .i64 65536 ∧ i = .int .i64 2) ∨ (m = .int .i64 16777216 ∧ i = .int .i64 3) ∨ (m = .int .i64 4294967296 ∧ i = .int .i64 4)) (fun _ i => 4 - (intOf i).toNat)
  case atStart => exact .inl ⟨rfl, rfl⟩
  case round =>
    rcases hrel with ⟨rfl, rfl⟩ | ⟨rfl, rfl⟩ | ⟨rfl, rfl⟩ | ⟨rfl, rfl⟩
    · go_wp2
      go_round
      case rel => exact .inr (.inl ⟨rfl, rfl⟩)
      case measure => simp [intOf]
    · go_wp2
      go_round
      case rel => exact .inr (.inr (.inl ⟨rfl, rfl⟩))
      case measure => simp [intOf]
    · go_wp2
      go_round
      case rel => exact .inr (.inr (.inr (⟨rfl, rfl⟩)))
      case measure => simp [intOf]
    · go_wp2
      go_ret2
      exact ⟨rfl, Below.refl _ _⟩

theorem refnum_wide4 (n : Int) (w : World) (h0 : 4294967296 ≤ n) :
    Calls Tryd.prog 24 #[.int .i64 n, .int .i64 4] w fun e w' => e = .returned (.tuple #[.string ⟨#[]⟩, .int .i64 5]) ∧ Below w.heap.size w w' := by
  have hng : ¬ n < 0 := by omega
  go_enter Tryd.func24, Tryd.ntmps24
  go_wp2
  go_loop [6, 7] (fun m i => (m = .int .i64 256 ∧ i = .int .i64 1) ∨ (m = .int .i64 65536 ∧ i = .int .i64 2) ∨ (m = .int .i64 16777216 ∧ i = .int .i64 3) ∨ (m = .int .i64 4294967296 ∧ i = .int .i64 4)) (fun _ i => 4 - (intOf i).toNat)
  case atStart => exact .inl ⟨rfl, rfl⟩
  case round =>
    rcases hrel with ⟨rfl, rfl⟩ | ⟨rfl, rfl⟩ | ⟨rfl, rfl⟩ | ⟨rfl, rfl⟩
    · go_wp2
      go_round
      case rel => exact .inr (.inl ⟨rfl, rfl⟩)
      case measure => simp [intOf]
    · go_wp2
      go_round
      case rel => exact .inr (.inr (.inl ⟨rfl, rfl⟩))
      case measure => simp [intOf]
    · go_wp2
      go_round
      case rel => exact .inr (.inr (.inr (⟨rfl, rfl⟩)))
      case measure => simp [intOf]
    · go_wp2
      go_ret2
      exact ⟨rfl, Below.refl _ _⟩

set_option maxRecDepth 100000 in
theorem refnum_good1 (n : Int) (w : World) (h0 : 0 ≤ n) (h1 : n < 256) :
    Calls Tryd.prog 24 #[.int .i64 n, .int .i64 1] w fun e w' => e = .returned (.tuple #[.string (tx (be n 1)), .int .i64 0]) ∧ Below w.heap.size w w' := by
  have hng : ¬ n < 0 := by omega
  have hge : ¬ 256 ≤ n := by omega
  have hmk : ∀ w : World, (Instr.makeSlice 49 (.int .i64 1) (.int .i64 1)).run Tryd.prog w = .ok (.slice (some ⟨w.heap.size, 0, none⟩) 1 1) (w.alloc (.cells #[.int .u8 0] 5)) := fun _ => by kernel_rfl
  have hcv : (convert 49 9 (.slice (some ⟨w.heap.size, 0, none⟩) 1 1)).run Tryd.prog (w.alloc (.cells #[.int .u8 (n % 256)] 5)) = .ok (.string (tx (be n 1))) (w.alloc (.cells #[.int .u8 (n % 256)] 5)) := by
    have hc : bCells (be n 1) = #[.int .u8 (n % 256)].toList := by rw [be1 n h0]
    have h := run_convert_bytes_back (P := Tryd.prog) (w.alloc (.cells #[.int .u8 (n % 256)] 5)) 49 9 5 ⟨w.heap.size, 0, none⟩ 1 (be n 1) Tryd.underlying49 Tryd.underlying5 Tryd.underlying9 (fun j hj => by
      have := new_cells w 5 (bCells (be n 1)) j _ (by simp [bCells, List.getElem?_eq_getElem hj]; rfl)
      rw [hc] at this
      exact this)
    exact h
  go_enter Tryd.func24, Tryd.ntmps24
  go_wp2
  go_loop [6, 7] (fun m i => (m = .int .i64 256 ∧ i = .int .i64 1)) (fun _ i => 1 - (intOf i).toNat)
  case atStart => exact ⟨rfl, rfl⟩
  case round =>
    obtain ⟨rfl, rfl⟩ := hrel
    go_wp2
    go_loopw [9, 10] (fun x i wr => (x = .int .i64 (n) ∧ i = .int .i64 (0) ∧ wr = w.alloc (.cells #[.int .u8 0] 5)) ∨ (x = .int .i64 (n / 256) ∧ i = .int .i64 (-1) ∧ wr = w.alloc (.cells #[.int .u8 (n % 256)] 5))) (fun _ i _ => (intOf i + 1).toNat)
    case atStart => exact .inl ⟨rfl, rfl, rfl⟩
    case round =>
      rcases hrel with ⟨rfl, rfl, rfl⟩ | ⟨rfl, rfl, rfl⟩
      · go_wp2
        go_roundw
        case rel => exact .inr (⟨by first | rfl | (congr 1; omega), by first | rfl | simp, by first | trivial | rfl⟩)
        case measure => simp [intOf]
      · go_wp2
        go_ret2
        exact ⟨rfl, (Below.refl _ _).alloc (Nat.le_refl _) _⟩

set_option maxRecDepth 100000 in
theorem refnum_good2 (n : Int) (w : World) (h0 : 0 ≤ n) (h1 : n < 65536) :
    Calls Tryd.prog 24 #[.int .i64 n, .int .i64 2] w fun e w' => e = .returned (.tuple #[.string (tx (be n 2)), .int .i64 0]) ∧ Below w.heap.size w w' := by
  have hng : ¬ n < 0 := by omega
  have hge : ¬ 65536 ≤ n := by omega
  have hmk : ∀ w : World, (Instr.makeSlice 49 (.int .i64 2) (.int .i64 2)).run Tryd.prog w = .ok (.slice (some ⟨w.heap.size, 0, none⟩) 2 2) (w.alloc (.cells #[.int .u8 0, .int .u8 0] 5)) := fun _ => by kernel_rfl
  have hcv : (convert 49 9 (.slice (some ⟨w.heap.size, 0, none⟩) 2 2)).run Tryd.prog (w.alloc (.cells #[.int .u8 (n / 256 % 256), .int .u8 (n % 256)] 5)) = .ok (.string (tx (be n 2))) (w.alloc (.cells #[.int .u8 (n / 256 % 256), .int .u8 (n % 256)] 5)) := by
    have hc : bCells (be n 2) = #[.int .u8 (n / 256 % 256), .int .u8 (n % 256)].toList := by rw [be2 n h0 h1]; simp; omega
    have h := run_convert_bytes_back (P := Tryd.prog) (w.alloc (.cells #[.int .u8 (n / 256 % 256), .int .u8 (n % 256)] 5)) 49 9 5 ⟨w.heap.size, 0, none⟩ 2 (be n 2) Tryd.underlying49 Tryd.underlying5 Tryd.underlying9 (fun j hj => by
      have := new_cells w 5 (bCells (be n 2)) j _ (by simp [bCells, List.getElem?_eq_getElem hj]; rfl)
      rw [hc] at this
      exact this)
    exact h
  go_enter Tryd.func24, Tryd.ntmps24
  go_wp2
  go_loop [6, 7] (fun m i => (m = .int .i64 256 ∧ i = .int .i64 1) ∨ (m = .int .i64 65536 ∧ i = .int .i64 2)) (fun _ i => 2 - (intOf i).toNat)
  case atStart => exact .inl ⟨rfl, rfl⟩
  case round =>
    rcases hrel with ⟨rfl, rfl⟩ | ⟨rfl, rfl⟩
    · go_wp2
      go_round
      case rel => exact .inr (⟨rfl, rfl⟩)
      case measure => simp [intOf]
    · go_wp2
      go_loopw [9, 10] (fun x i wr => (x = .int .i64 (n) ∧ i = .int .i64 (1) ∧ wr = w.alloc (.cells #[.int .u8 0, .int .u8 0] 5)) ∨ (x = .int .i64 (n / 256) ∧ i = .int .i64 (0) ∧ wr = w.alloc (.cells #[.int .u8 0, .int .u8 (n % 256)] 5)) ∨ (x = .int .i64 (n / 65536) ∧ i = .int .i64 (-1) ∧ wr = w.alloc (.cells #[.int .u8 (n / 256 % 256), .int .u8 (n % 256)] 5))) (fun _ i _ => (intOf i + 1).toNat)
      case atStart => exact .inl ⟨rfl, rfl, rfl⟩
      case round =>
        rcases hrel with ⟨rfl, rfl, rfl⟩ | ⟨rfl, rfl, rfl⟩ | ⟨rfl, rfl, rfl⟩
        · go_wp2
          go_roundw
          case rel => exact .inr (.inl ⟨by first | rfl | (congr 1; omega), by first | rfl | simp, by first | trivial | rfl⟩)
          case measure => simp [intOf]
        · go_wp2
          go_roundw
          case rel => exact .inr (.inr (⟨by first | rfl | (congr 1; omega), by first | rfl | simp, by first | trivial | rfl⟩))
          case measure => simp [intOf]
        · go_wp2
          go_ret2
          exact ⟨rfl, (Below.refl _ _).alloc (Nat.le_refl _) _⟩

set_option maxRecDepth 100000 in
theorem refnum_good4 (n : Int) (w : World) (h0 : 0 ≤ n) (h1 : n < 4294967296) :
    Calls Tryd.prog 24 #[.int .i64 n, .int .i64 4] w fun e w' => e = .returned (.tuple #[.string (tx (be n 4)), .int .i64 0]) ∧ Below w.heap.size w w' := by
  have hng : ¬ n < 0 := by omega
  have hge : ¬ 4294967296 ≤ n := by omega
  have hmk : ∀ w : World, (Instr.makeSlice 49 (.int .i64 4) (.int .i64 4)).run Tryd.prog w = .ok (.slice (some ⟨w.heap.size, 0, none⟩) 4 4) (w.alloc (.cells #[.int .u8 0, .int .u8 0, .int .u8 0, .int .u8 0] 5)) := fun _ => by kernel_rfl
  have hcv : (convert 49 9 (.slice (some ⟨w.heap.size, 0, none⟩) 4 4)).run Tryd.prog (w.alloc (.cells #[.int .u8 (n / 16777216 % 256), .int .u8 (n / 65536 % 256), .int .u8 (n / 256 % 256), .int .u8 (n % 256)] 5)) = .ok (.string (tx (be n 4))) (w.alloc (.cells #[.int .u8 (n / 16777216 % 256), .int .u8 (n / 65536 % 256), .int .u8 (n / 256 % 256), .int .u8 (n % 256)] 5)) := by
    have hc : bCells (be n 4) = #[.int .u8 (n / 16777216 % 256), .int .u8 (n / 65536 % 256), .int .u8 (n / 256 % 256), .int .u8 (n % 256)].toList := by rw [be4 n h0 h1]; simp; omega
    have h := run_convert_bytes_back (P := Tryd.prog) (w.alloc (.cells #[.int .u8 (n / 16777216 % 256), .int .u8 (n / 65536 % 256), .int .u8 (n / 256 % 256), .int .u8 (n % 256)] 5)) 49 9 5 ⟨w.heap.size, 0, none⟩ 4 (be n 4) Tryd.underlying49 Tryd.underlying5 Tryd.underlying9 (fun j hj => by
      have := new_cells w 5 (bCells (be n 4)) j _ (by simp [bCells, List.getElem?_eq_getElem hj]; rfl)
      rw [hc] at this
      exact this)
    exact h
  go_enter Tryd.func24, Tryd.ntmps24
  go_wp2
  go_loop [6, 7] (fun m i => (m = .int .i64 256 ∧ i = .int .i64 1) ∨ (m = .int .i64 65536 ∧ i = .int .i64 2) ∨ (m = .int .i64 16777216 ∧ i = .int .i64 3) ∨ (m = .int .i64 4294967296 ∧ i = .int .i64 4)) (fun _ i => 4 - (intOf i).toNat)
  case atStart => exact .inl ⟨rfl, rfl⟩
  case round =>
    rcases hrel with ⟨rfl, rfl⟩ | ⟨rfl, rfl⟩ | ⟨rfl, rfl⟩ | ⟨rfl, rfl⟩
    · go_wp2
      go_round
      case rel => exact .inr (.inl ⟨rfl, rfl⟩)
      case measure => simp [intOf]
    · go_wp2
      go_round
      case rel => exact .inr (.inr (.inl ⟨rfl, rfl⟩))
      case measure => simp [intOf]
    · go_wp2
      go_round
      case rel => exact .inr (.inr (.inr (⟨rfl, rfl⟩)))
      case measure => simp [intOf]
    · go_wp2
      go_loopw [9, 10] (fun x i wr => (x = .int .i64 (n) ∧ i = .int .i64 (3) ∧ wr = w.alloc (.cells #[.int .u8 0, .int .u8 0, .int .u8 0, .int .u8 0] 5)) ∨ (x = .int .i64 (n / 256) ∧ i = .int .i64 (2) ∧ wr = w.alloc (.cells #[.int .u8 0, .int .u8 0, .int .u8 0, .int .u8 (n % 256)] 5)) ∨ (x = .int .i64 (n / 65536) ∧ i = .int .i64 (1) ∧ wr = w.alloc (.cells #[.int .u8 0, .int .u8 0, .int .u8 (n / 256 % 256), .int .u8 (n % 256)] 5)) ∨ (x = .int .i64 (n / 16777216) ∧ i = .int .i64 (0) ∧ wr = w.alloc (.cells #[.int .u8 0, .int .u8 (n / 65536 % 256), .int .u8 (n / 256 % 256), .int .u8 (n % 256)] 5)) ∨ (x = .int .i64 (n / 4294967296) ∧ i = .int .i64 (-1) ∧ wr = w.alloc (.cells #[.int .u8 (n / 16777216 % 256), .int .u8 (n / 65536 % 256), .int .u8 (n / 256 % 256), .int .u8 (n % 256)] 5))) (fun _ i _ => (intOf i + 1).toNat)
      case atStart => exact .inl ⟨rfl, rfl, rfl⟩
      case round =>
        rcases hrel with ⟨rfl, rfl, rfl⟩ | ⟨rfl, rfl, rfl⟩ | ⟨rfl, rfl, rfl⟩ | ⟨rfl, rfl, rfl⟩ | ⟨rfl, rfl, rfl⟩
        · go_wp2
          go_roundw
          case rel => exact .inr (.inl ⟨by first | rfl | (congr 1; omega), by first | rfl | simp, by first | trivial | rfl⟩)
          case measure => simp [intOf]
        · go_wp2
          go_roundw
          case rel => exact .inr (.inr (.inl ⟨by first | rfl | (congr 1; omega), by first | rfl | simp, by first | trivial | rfl⟩))
          case measure => simp [intOf]
        · go_wp2
          go_roundw
          case rel => exact .inr (.inr (.inr (.inl ⟨by first | rfl | (congr 1; omega), by first | rfl | simp, by first | trivial | rfl⟩)))
          case measure => simp [intOf]
        · go_wp2
          go_roundw
          case rel => exact .inr (.inr (.inr (.inr (⟨by first | rfl | (congr 1; omega), by first | rfl | simp, by first | trivial | rfl⟩))))
          case measure => simp [intOf]
        · go_wp2
          go_ret2
          exact ⟨rfl, (Below.refl _ _).alloc (Nat.le_refl _) _⟩

def refNum (n b : Int) : ByteArray × Int := if numErr n b ≠ 0 then (⟨#[]⟩, numErr n b) else (tx (be n b), 0)
theorem refnum_any (n b : Int) (w : World) : Calls Tryd.prog 24 #[.int .i64 n, .int .i64 b] w fun e w' => e = .returned (.tuple #[.string (refNum n b).1, .int .i64 (refNum n b).2]) ∧ Below w.heap.size w w' := by
  by_cases hs : sz b = false
  · have e : numErr n b = 1 := by unfold numErr; rw [if_pos hs]
    have e2 : refNum n b = (⟨#[]⟩, 1) := by unfold refNum; rw [e, if_pos (by decide)]
    rw [e2]
    exact refnum_size n b w hs
  · have hb : b = 1 ∨ b = 2 ∨ b = 4 := by simp [sz] at hs; omega
    by_cases hng : n < 0
    · have e : numErr n b = 5 := by unfold numErr; rw [if_neg hs, if_pos (.inl hng)]
      have e2 : refNum n b = (⟨#[]⟩, 5) := by unfold refNum; rw [e, if_pos (by decide)]
      rw [e2]
      rcases hb with rfl | rfl | rfl
      · exact refnum_neg1 n w hng
      · exact refnum_neg2 n w hng
      · exact refnum_neg4 n w hng
    · by_cases hw : (if b = 1 then 256 else if b = 2 then 65536 else 4294967296) ≤ n
      · have e : numErr n b = 5 := by unfold numErr; rw [if_neg hs, if_pos (.inr hw)]
        have e2 : refNum n b = (⟨#[]⟩, 5) := by unfold refNum; rw [e, if_pos (by decide)]
        rw [e2]
        rcases hb with rfl | rfl | rfl
        · exact refnum_wide1 n w (by simpa using hw)
        · exact refnum_wide2 n w (by simpa using hw)
        · exact refnum_wide4 n w (by simpa using hw)
      · have e : numErr n b = 0 := by unfold numErr; rw [if_neg hs, if_neg (by rintro (h | h) <;> contradiction)]
        have e2 : refNum n b = (tx (be n b), 0) := by unfold refNum; rw [e, if_neg (by decide)]
        rw [e2]
        rcases hb with rfl | rfl | rfl
        · exact refnum_good1 n w (by omega) (by simpa using hw)
        · exact refnum_good2 n w (by omega) (by simpa using hw)
        · exact refnum_good4 n w (by omega) (by simpa using hw)
end Go.Proofs.YtbhkegdohiekfaaDoor.oct
