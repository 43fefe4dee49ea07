/-
  petrelref07.Check, any operation.
  Texts: a byte of one, a piece of one.
  petrelref01.Num of a number that fits.
-/
import Derived.Test.YtjcnifpnmakfdaaDoorOpck1
import Derived.Test.YtjcnifpnmakfdaaDoorOpck2
import Derived.Test.YtjcnifpnmakfdaaDoorOpck3
import Derived.Test.YtjcnifpnmakfdaaDoorOpck4
import Derived.Test.YtjcnifpnmakfdaaDoorOpck5
import Derived.Test.YtjcnifpnmakfdaaDoorOpck6
import Derived.Test.YtjcnifpnmakfdaaDoorOpck7
import Derived.Test.YtjcnifpnmakfdaaDoorSha
import Derived.Laws.IdiomStrings
import Derived.Test.YtjcnifpnmakfdaaDoorOpp
import Derived.Test.YtjcnifpnmakfdaaDoorRef2
namespace Go.Proofs.YtjcnifpnmakfdaaDoor.opn
open Go.RowKit Go.Proofs.YtjcnifpnmakfdaaDoor.mem Go.Proofs.YtjcnifpnmakfdaaDoor.sha Go.Proofs.YtjcnifpnmakfdaaDoor.ids

theorem has_none {k : Int} (h : has k = []) : hasB k = ⟨#[]⟩ := by unfold hasB; rw [h]; rfl
set_option maxHeartbeats 2000000 in
set_option maxRecDepth 100000 in
theorem check0 (o : Opn) (v : Value) (w : World) (h0 : has o.k = []) (hr : o.ref.length = 32) :
    Calls Tryd.prog 11 #[opv o v] w fun e w' => e = .returned (.int .i64 (check rise o)) ∧ Below w.heap.size w w' := by
  obtain ⟨w1, hw1⟩ : ∃ u, u = w.alloc (.cells (opc o v).toArray 26) := ⟨_, rfl⟩
  obtain ⟨S, hS⟩ : ∃ S, S = w.heap.size := ⟨_, rfl⟩
  have hX : Blk w1 S 26 (opc o v).toArray := by rw [hw1, hS]; exact Blk.new w _ _
  have hB : Below w.heap.size w w1 := by rw [hw1]; exact (Below.refl _ _).alloc (Nat.le_refl _) _
  have HC := OpBlk.of hX hr
  have HB := Lib.hid hB
  have HS := Lib.hid hS
  have HW := Lib.hid hw1
  have c0 := HC.k
  have HE : Hid (check rise o = 10) := Lib.hid (by unfold check; rw [if_pos h0])
  have hhas := fun u => has_any o.k u
  rw [has_none h0] at hhas
  have HH := Lib.hid hhas
  clear hX hB hw1 hS HC h0 hhas
  unfold opv
  go_enter Tryd.func11, Tryd.ntmps11
  go_upto_region 1 with fail
  refine wp_at HW.out.symm ?_
  rw [← HS.out]
  clear HW
  go_wp2_with (go_at_call 23; with_reducible refine (HH.out _).mono ?_; rintro e w2 ⟨rfl, rfl⟩)
  go_ret
  exact ⟨by rw [HE.out]; rfl, HB.out⟩

theorem check_any (o : Opn) (v : Value) (w : World) (hr : o.ref.length = 32) (hv : RdV w v o.refs) (hm : o.refs.length ≤ 1000) :
    Calls Tryd.prog 11 #[opv o v] w fun e w' => e = .returned (.int .i64 (check rise o)) ∧ Below w.heap.size w w' := by
  by_cases h0 : has o.k = []
  · exact check0 o v w h0 hr
  rcases kind_of h0 with h | h | h | h | h | h | h
  · exact check1 o v w h hr hv hm
  · exact check2 o v w h hr hv hm
  · exact check3 o v w h hr hv hm
  · exact check4 o v w h hr hv hm
  · exact check5 o v w h hr hv hm
  · exact check6 o v w h hr hv hm
  · exact check7 o v w h hr hv hm

/-! petrelref07.Same. -/
def sameO (a b : Opn) : Bool := decide (a.k = b.k) && (decide (a.n = b.n) && (decide (a.key = b.key) && (decide (a.val = b.val) && (decide (a.ref = b.ref) && decide (a.refs = b.refs)))))
theorem sameO_iff (a b : Opn) : sameO a b = true ↔ a = b := by
  obtain ⟨k, n, key, val, ref, refs⟩ := a
  obtain ⟨k', n', key', val', ref', refs'⟩ := b
  simp [sameO]
theorem tx_beq (a b : List UInt8) : ((oct.tx a).toList == (oct.tx b).toList) = decide (a = b) := by
  rw [ByteArray.toList_eq, ByteArray.toList_eq, oct.tx_list, oct.tx_list, Bool.eq_iff_iff, beq_iff_eq, decide_eq_true_iff]
end Go.Proofs.YtjcnifpnmakfdaaDoor.opn

namespace Go.Proofs.YtjcnifpnmakfdaaDoor.strx
open Go.RowKit Go.Proofs.YtjcnifpnmakfdaaDoor.mem Go.Proofs.YtjcnifpnmakfdaaDoor.sha

theorem size_list (s : ByteArray) : s.size = s.data.toList.length := Array.length_toList.symm
theorem run_index_str (s : ByteArray) (k : Nat) (h : k < s.size) (w : World) : (Instr.index 9 (.string s) (.int .i64 (k : Int))).run Tryd.prog w = .ok (.int .u8 (B (s.data.toList.getD k 0))) w := by
  have hs : s[k]? = some (s.data.toList.getD k 0) := by
    rw [List.getD_eq_getElem?_getD, List.getElem?_eq_getElem (by rw [← size_list]; exact h)]
    simp [getElem?_pos s k h]
    rfl
  have h0 : (0 : Int) ≤ (k : Int) := Int.natCast_nonneg _
  simp [Instr.index, asIntOf, run_underlying Tryd.underlying9, hs]
  rfl
/-- where the place is another expression -/
theorem run_index_int (s : ByteArray) (i : Int) (k : Nat) (hi : i = (k : Int)) (h : k < s.size) (w : World) : (Instr.index 9 (.string s) (.int .i64 i)).run Tryd.prog w = .ok (.int .u8 (B (s.data.toList.getD k 0))) w := by
  subst hi; exact run_index_str s k h w
/-- a text of bytes -/
def bt (l : List UInt8) : ByteArray := ⟨l.toArray⟩
theorem bt_list (l : List UInt8) : (bt l).data.toList = l := rfl
theorem bt_of (s : ByteArray) : bt s.data.toList = s := rfl
theorem bt_size (l : List UInt8) : (bt l).size = l.length := by rw [size_list]; rfl
theorem bt_append (l m : List UInt8) : bt l ++ bt m = bt (l ++ m) := by
  apply ByteArray.ext
  rw [ByteArray.data_append]
  simp [bt]
theorem ext_list (s : ByteArray) (m : Nat) : (s.extract m s.size).data.toList = s.data.toList.drop m := by
  rw [ByteArray.data_extract, Array.toList_extract, List.extract_eq_take_drop, List.take_of_length_le]
  rw [List.length_drop, ← size_list]
  exact Nat.le_refl _
theorem ext_bt (s : ByteArray) (m : Nat) : s.extract m s.size = bt (s.data.toList.drop m) := by rw [← ext_list, bt_of]
/-- a piece of a text, from its byte m on -/
theorem run_slice_str (s : ByteArray) (m : Nat) (h : m ≤ s.size) (w : World) : (Instr.sliceAt 9 (.string s) (some (.int .i64 (m : Int))) none none).run Tryd.prog w = .ok (.string (bt (s.data.toList.drop m))) w := by
  rw [← ext_bt]
  have h0 : (0 : Int) ≤ (m : Int) := Int.natCast_nonneg _
  have h1 : (m : Int) ≤ (s.size : Int) := by omega
  simp only [Instr.sliceAt, Instr.slice, Instr.sliceBounds, Instr.sliceBound, asIntOf, sizeOf, Sem.run_bind, Result.andThen_ok, run_underlying Tryd.underlying9]
  simp [h]
theorem to_bt (s : ByteArray) (m : Nat) : s.extract 0 m = bt (s.data.toList.take m) := by
  apply ByteArray.ext
  rw [ByteArray.data_extract]
  apply Array.ext'
  rw [Array.toList_extract, List.extract_eq_take_drop, List.drop_zero, Nat.sub_zero]
  rfl
/-- a piece of a text, up to its byte m -/
theorem run_slice_to (s : ByteArray) (m : Nat) (h : m ≤ s.size) (w : World) : (Instr.sliceAt 9 (.string s) none (some (.int .i64 (m : Int))) none).run Tryd.prog w = .ok (.string (bt (s.data.toList.take m))) w := by
  rw [← to_bt]
  have h0 : (0 : Int) ≤ (m : Int) := Int.natCast_nonneg _
  have h1 : (m : Int) ≤ (s.size : Int) := by omega
  simp only [Instr.sliceAt, Instr.slice, Instr.sliceBounds, Instr.sliceBound, asIntOf, sizeOf, Sem.run_bind, Result.andThen_ok, run_underlying Tryd.underlying9]
  simp [h]
end Go.Proofs.YtjcnifpnmakfdaaDoor.strx

namespace Go.Proofs.YtjcnifpnmakfdaaDoor.opn
open Go.RowKit Go.Proofs.YtjcnifpnmakfdaaDoor.mem Go.Proofs.YtjcnifpnmakfdaaDoor.sha

theorem tx_app (a b : List UInt8) : oct.tx a ++ oct.tx b = oct.tx (a ++ b) := by
  apply oct.bytes_ext
  rw [ByteArray.data_append, Array.toList_append, oct.tx_list, oct.tx_list, oct.tx_list]
theorem num1_r (n : Int) (h0 : 0 ≤ n) (h1 : n < 256) (w : World) : Calls Tryd.prog 22 #[.int .i64 n, .int .i64 1] w fun e w' => e = .returned (.tuple #[.string (oct.tx (b1 n)), .int .i64 0]) ∧ Below w.heap.size w w' := by
  have := oct.refnum_any n 1 w
  rw [show oct.refNum n 1 = (oct.tx (b1 n), 0) by
    unfold oct.refNum
    rw [if_neg (by unfold oct.numErr; rw [if_neg (by decide), if_neg (by simp; omega)]; decide)]
    rfl] at this
  exact this
theorem num4_r (n : Int) (h0 : 0 ≤ n) (h1 : n < 4294967296) (w : World) : Calls Tryd.prog 22 #[.int .i64 n, .int .i64 4] w fun e w' => e = .returned (.tuple #[.string (oct.tx (b4 n)), .int .i64 0]) ∧ Below w.heap.size w w' := by
  have := oct.refnum_any n 4 w
  rw [show oct.refNum n 4 = (oct.tx (b4 n), 0) by
    unfold oct.refNum
    rw [if_neg (by unfold oct.numErr; rw [if_neg (by decide), if_neg (by simp; omega)]; decide)]
    rfl] at this
  exact this

theorem num2_r (n : Int) (h0 : 0 ≤ n) (h1 : n < 65536) (w : World) : Calls Tryd.prog 22 #[.int .i64 n, .int .i64 2] w fun e w' => e = .returned (.tuple #[.string (oct.tx (b2 n)), .int .i64 0]) ∧ Below w.heap.size w w' := by
  have := oct.refnum_any n 2 w
  rw [show oct.refNum n 2 = (oct.tx (b2 n), 0) by
    unfold oct.refNum
    rw [if_neg (by unfold oct.numErr; rw [if_neg (by decide), if_neg (by simp; omega)]; decide)]
    rfl] at this
  exact this

end Go.Proofs.YtjcnifpnmakfdaaDoor.opn
