/-
 Texts: a byte of one, a piece of one.
-/
import Derived.Test.YtpeneeddfgmjpaaGreatDoorIda
import Derived.Laws.IdiomStrings
namespace Go.Proofs.YtpeneeddfgmjpaaGreatDoor.strx
open Go.RowKit Go.Proofs.YtpeneeddfgmjpaaGreatDoor.mem Go.Proofs.YtpeneeddfgmjpaaGreatDoor.sha

theorem size_list (s : ByteArray) : s.size = s.data.toList.length := Array.length_toList.symm
theorem run_index_str (s : ByteArray) (k : Nat) (h : k < s.size) (w : World) : (Instr.index 9 (.string s) (.int .i64 (k : Int))).run Tryz.prog w = .ok (.int .u8 (B (s.data.toList.getD k 0))) w := by
 have hs : s[k]? = some (s.data.toList.getD k 0) := by
  rw [List.getD_eq_getElem?_getD, List.getElem?_eq_getElem (by rw [← size_list]; exact h)]
  simp [getElem?_pos s k h]
  rfl
 have h0 : (0 : Int) ≤ (k : Int) := Int.natCast_nonneg _
 simp [Instr.index, asIntOf, run_underlying Tryz.underlying9, hs]
 rfl
/-- where the place is another expression -/
theorem run_index_int (s : ByteArray) (i : Int) (k : Nat) (hi : i = (k : Int)) (h : k < s.size) (w : World) : (Instr.index 9 (.string s) (.int .i64 i)).run Tryz.prog w = .ok (.int .u8 (B (s.data.toList.getD k 0))) w := by
 subst hi; exact run_index_str s k h w
/-- a text of bytes -/
def bt (l : List UInt8) : ByteArray := ⟨l.toArray⟩
theorem bt_list (l : List UInt8) : (bt l).data.toList = l := rfl
theorem bt_of (s : ByteArray) : bt s.data.toList = s := rfl
theorem bt_size (l : List UInt8) : (bt l).size = l.length := by rw [size_list]; rfl
theorem bt_append (l m : List UInt8) : bt l ++ bt m = bt (l ++ m) := by
 apply ByteArray.ext
 rw [ByteArray.data_append]
 simp [bt]
theorem ext_list (s : ByteArray) (m : Nat) : (s.extract m s.size).data.toList = s.data.toList.drop m := by
 rw [ByteArray.data_extract, Array.toList_extract, List.extract_eq_take_drop, List.take_of_length_le]
 rw [List.length_drop, ← size_list]
 exact Nat.le_refl _
theorem ext_bt (s : ByteArray) (m : Nat) : s.extract m s.size = bt (s.data.toList.drop m) := by rw [← ext_list, bt_of]
/-- a piece of a text, from its byte m on -/
theorem run_slice_str (s : ByteArray) (m : Nat) (h : m ≤ s.size) (w : World) : (Instr.sliceAt 9 (.string s) (some (.int .i64 (m : Int))) none none).run Tryz.prog w = .ok (.string (bt (s.data.toList.drop m))) w := by
 rw [← ext_bt]
 have h0 : (0 : Int) ≤ (m : Int) := Int.natCast_nonneg _
 have h1 : (m : Int) ≤ (s.size : Int) := by omega
 simp only [Instr.sliceAt, Instr.slice, Instr.sliceBounds, Instr.sliceBound, asIntOf, sizeOf, Sem.run_bind, Result.andThen_ok, run_underlying Tryz.underlying9]
 simp [h]
theorem to_bt (s : ByteArray) (m : Nat) : s.extract 0 m = bt (s.data.toList.take m) := by
 apply ByteArray.ext
 rw [ByteArray.data_extract]
 apply Array.ext'
 rw [Array.toList_extract, List.extract_eq_take_drop, List.drop_zero, Nat.sub_zero]
 rfl
/-- a piece of a text, up to its byte m -/
theorem run_slice_to (s : ByteArray) (m : Nat) (h : m ≤ s.size) (w : World) : (Instr.sliceAt 9 (.string s) none (some (.int .i64 (m : Int))) none).run Tryz.prog w = .ok (.string (bt (s.data.toList.take m))) w := by
 rw [← to_bt]
 have h0 : (0 : Int) ≤ (m : Int) := Int.natCast_nonneg _
 have h1 : (m : Int) ≤ (s.size : Int) := by omega
 simp only [Instr.sliceAt, Instr.slice, Instr.sliceBounds, Instr.sliceBound, asIntOf, sizeOf, Sem.run_bind, Result.andThen_ok, run_underlying Tryz.underlying9]
 simp [h]
end Go.Proofs.YtpeneeddfgmjpaaGreatDoor.strx
