/-
  petrelref01.Num of a number that fits.
-/
import Derived.Test.YtbhkegdohiekfaaDoorOpp
import Derived.Test.YtbhkegdohiekfaaDoorRef2
import Derived.Test.YtbhkegdohiekfaaDoorSha
namespace Go.Proofs.YtbhkegdohiekfaaDoor.opn
open Go.RowKit Go.Proofs.YtbhkegdohiekfaaDoor.mem Go.Proofs.YtbhkegdohiekfaaDoor.sha

theorem tx_app (a b : List UInt8) : oct.tx a ++ oct.tx b = oct.tx (a ++ b) := by
  apply oct.bytes_ext
  rw [ByteArray.data_append, Array.toList_append, oct.tx_list, oct.tx_list, oct.tx_list]
theorem num1_r (n : Int) (h0 : 0 ≤ n) (h1 : n < 256) (w : World) : Calls Tryd.prog 24 #[.int .i64 n, .int .i64 1] w fun e w' => e = .returned (.tuple #[.string (oct.tx (b1 n)), .int .i64 0]) ∧ Below w.heap.size w w' := by
  have := oct.refnum_any n 1 w
  rw [show oct.refNum n 1 = (oct.tx (b1 n), 0) by
    unfold oct.refNum
    rw [if_neg (by unfold oct.numErr; rw [if_neg (by decide), if_neg (by simp; omega)]; decide)]
    rfl] at this
  exact this
theorem num4_r (n : Int) (h0 : 0 ≤ n) (h1 : n < 4294967296) (w : World) : Calls Tryd.prog 24 #[.int .i64 n, .int .i64 4] w fun e w' => e = .returned (.tuple #[.string (oct.tx (b4 n)), .int .i64 0]) ∧ Below w.heap.size w w' := by
  have := oct.refnum_any n 4 w
  rw [show oct.refNum n 4 = (oct.tx (b4 n), 0) by
    unfold oct.refNum
    rw [if_neg (by unfold oct.numErr; rw [if_neg (by decide), if_neg (by simp; omega)]; decide)]
    rfl] at this
  exact this

theorem num2_r (n : Int) (h0 : 0 ≤ n) (h1 : n < 65536) (w : World) : Calls Tryd.prog 24 #[.int .i64 n, .int .i64 2] w fun e w' => e = .returned (.tuple #[.string (oct.tx (b2 n)), .int .i64 0]) ∧ Below w.heap.size w w' := by
  have := oct.refnum_any n 2 w
  rw [show oct.refNum n 2 = (oct.tx (b2 n), 0) by
    unfold oct.refNum
    rw [if_neg (by unfold oct.numErr; rw [if_neg (by decide), if_neg (by simp; omega)]; decide)]
    rfl] at this
  exact this

end Go.Proofs.YtbhkegdohiekfaaDoor.opn
