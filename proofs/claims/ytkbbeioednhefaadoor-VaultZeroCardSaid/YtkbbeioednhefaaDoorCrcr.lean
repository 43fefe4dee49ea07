/-
  petrelref01.Num of a number that fits.
  petrelref03.Add: the document's answer.
-/
import Derived.Test.YtkbbeioednhefaaDoorOpp
import Derived.Test.YtkbbeioednhefaaDoorRef2
import Derived.Test.YtkbbeioednhefaaDoorStrx
import Derived.Test.YtkbbeioednhefaaDoorCrcp
namespace Go.Proofs.YtkbbeioednhefaaDoor.opn
open Go.RowKit Go.Proofs.YtkbbeioednhefaaDoor.mem Go.Proofs.YtkbbeioednhefaaDoor.sha

theorem tx_app (a b : List UInt8) : oct.tx a ++ oct.tx b = oct.tx (a ++ b) := by
  apply oct.bytes_ext
  rw [ByteArray.data_append, Array.toList_append, oct.tx_list, oct.tx_list, oct.tx_list]
theorem num1_r (n : Int) (h0 : 0 ≤ n) (h1 : n < 256) (w : World) : Calls Tryd.prog 84 #[.int .i64 n, .int .i64 1] w fun e w' => e = .returned (.tuple #[.string (oct.tx (b1 n)), .int .i64 0]) ∧ Below w.heap.size w w' := by
  have := oct.refnum_any n 1 w
  rw [show oct.refNum n 1 = (oct.tx (b1 n), 0) by
    unfold oct.refNum
    rw [if_neg (by unfold oct.numErr; rw [if_neg (by decide), if_neg (by simp; omega)]; decide)]
    rfl] at this
  exact this
theorem num4_r (n : Int) (h0 : 0 ≤ n) (h1 : n < 4294967296) (w : World) : Calls Tryd.prog 84 #[.int .i64 n, .int .i64 4] w fun e w' => e = .returned (.tuple #[.string (oct.tx (b4 n)), .int .i64 0]) ∧ Below w.heap.size w w' := by
  have := oct.refnum_any n 4 w
  rw [show oct.refNum n 4 = (oct.tx (b4 n), 0) by
    unfold oct.refNum
    rw [if_neg (by unfold oct.numErr; rw [if_neg (by decide), if_neg (by simp; omega)]; decide)]
    rfl] at this
  exact this

theorem num2_r (n : Int) (h0 : 0 ≤ n) (h1 : n < 65536) (w : World) : Calls Tryd.prog 84 #[.int .i64 n, .int .i64 2] w fun e w' => e = .returned (.tuple #[.string (oct.tx (b2 n)), .int .i64 0]) ∧ Below w.heap.size w w' := by
  have := oct.refnum_any n 2 w
  rw [show oct.refNum n 2 = (oct.tx (b2 n), 0) by
    unfold oct.refNum
    rw [if_neg (by unfold oct.numErr; rw [if_neg (by decide), if_neg (by simp; omega)]; decide)]
    rfl] at this
  exact this

end Go.Proofs.YtkbbeioednhefaaDoor.opn

namespace Go.Proofs.YtkbbeioednhefaaDoor.crc
open Go.RowKit Go.Proofs.YtkbbeioednhefaaDoor.mem Go.Proofs.YtkbbeioednhefaaDoor.sha

theorem A_An (n : Nat) (x : UInt32) : A (An n x) = An (n + 1) x := by
  rw [An_add n 1 x]; rfl
/-- what is left of a byte behind b of its bits -/
def left (X : UInt32) (b : Nat) : UInt32 := UInt32.ofNat (X.toNat / 2 ^ b)
theorem left_nat (X : UInt32) (b : Nat) : (left X b).toNat = X.toNat / 2 ^ b := by
  unfold left
  have := X.toNat_lt
  exact UInt32.toNat_ofNat_of_lt' (Nat.lt_of_le_of_lt (Nat.div_le_self _ _) (by show X.toNat < 4294967296; omega))
theorem left_div (X : UInt32) (b : Nat) : U X / ((2 ^ b : Nat) : Int) = U (left X b) := by
  unfold U
  rw [left_nat]
  rfl
theorem left_pow (X : UInt32) (b : Nat) : U X / (2 : Int) ^ b = U (left X b) := by
  rw [← left_div]
  congr 1
theorem left_zero (X : UInt32) : left X 0 = X := by
  apply UInt32.toNat_inj.1
  rw [left_nat]
  show X.toNat / 1 = X.toNat
  omega
theorem left_next (X : UInt32) (b : Nat) : left X b >>> 1 = left X (b + 1) := by
  apply UInt32.toNat_inj.1
  rw [UInt32.toNat_shiftRight, left_nat, left_nat]
  show (X.toNat / 2 ^ b) >>> (1 % 32) = _
  rw [Nat.shiftRight_eq_div_pow, Nat.div_div_eq_div_mul]
  rfl
theorem left_end (X : UInt32) (h : X.toNat < 256) : left X 8 = 0 := by
  apply UInt32.toNat_inj.1
  rw [left_nat]
  show X.toNat / 256 = 0
  omega
/-- the word behind b bits of a byte -/
def inner (w X : UInt32) (b : Nat) : UInt32 := An b (w ^^^ X) ^^^ left X b
theorem inner_zero (w X : UInt32) : inner w X 0 = w := by
  unfold inner
  rw [left_zero]
  show w ^^^ X ^^^ X = w
  rw [UInt32.xor_assoc, UInt32.xor_self, UInt32.xor_zero]
theorem inner_bit (w X : UInt32) (b : Nat) : inner w X b ^^^ left X b = An b (w ^^^ X) := by
  unfold inner
  rw [UInt32.xor_assoc, UInt32.xor_self, UInt32.xor_zero]
theorem inner_one (w X : UInt32) (b : Nat) (h : An b (w ^^^ X) &&& 1 = 1) : inner w X b >>> 1 ^^^ poly = inner w X (b + 1) := by
  unfold inner
  rw [xor_shr, left_next, ← A_An]
  have : A (An b (w ^^^ X)) = An b (w ^^^ X) >>> 1 ^^^ poly := by unfold A; rw [if_pos h]
  rw [this, UInt32.xor_assoc, UInt32.xor_assoc, UInt32.xor_comm poly]
theorem inner_none (w X : UInt32) (b : Nat) (h : ¬ An b (w ^^^ X) &&& 1 = 1) : inner w X b >>> 1 = inner w X (b + 1) := by
  unfold inner
  rw [xor_shr, left_next, ← A_An]
  have : A (An b (w ^^^ X)) = An b (w ^^^ X) >>> 1 := by unfold A; rw [if_neg h]
  rw [this]
theorem left_one (X : UInt32) : left X 1 = X >>> 1 := by
  have := left_next X 0
  rw [left_zero] at this
  exact this.symm
theorem inner_end (w : UInt32) (x : UInt8) : inner w x.toUInt32 8 = stepC w x := by
  unfold inner stepC
  rw [left_end _ (by rw [UInt8.toNat_toUInt32]; exact x.toNat_lt), UInt32.xor_zero]
theorem U_lit_not (a : UInt32) : bits .xor .u32 (U a) 4294967295 = U (~~~ a) := by
  have h : (4294967295 : Int) = U 0xffffffff := by decide
  rw [h, U_xor, UInt32.xor_comm, ← U_xor, ← h, U_not]
theorem U_lit_poly (a : UInt32) : bits .xor .u32 (U a) 3988292384 = U (a ^^^ poly) := by
  have h : (3988292384 : Int) = U poly := by decide
  rw [h, U_xor]
theorem U_lit_one (a : UInt32) : bits .and .u32 (U a) 1 = U (a &&& 1) := by
  have h : (1 : Int) = U 1 := by decide
  rw [h, U_and]
theorem size_list (s : ByteArray) : s.size = s.data.toList.length := Array.length_toList.symm
theorem U_eq_one (a : UInt32) (h : a = 1) : (U a == 1) = true := by rw [h]; decide
theorem U_ne_one (a : UInt32) (h : ¬ a = 1) : (U a == 1) = false := by
  refine beq_eq_false_iff_ne.2 fun e => h ?_
  apply UInt32.toNat_inj.1
  unfold U at e
  show a.toNat = 1
  omega

theorem run_index_str (s : ByteArray) (k : Nat) (h : k < s.size) (w : World) : (Instr.index 9 (.string s) (.int .i64 (k : Int))).run Tryd.prog w = .ok (.int .u8 (B (s.data.toList.getD k 0))) w := by
  have hs : s[k]? = some (s.data.toList.getD k 0) := by
    rw [List.getD_eq_getElem?_getD, List.getElem?_eq_getElem (by rw [← size_list]; exact h)]
    simp [getElem?_pos s k h]
    rfl
  have h0 : (0 : Int) ≤ (k : Int) := Int.natCast_nonneg _
  simp [Instr.index, asIntOf, run_underlying Tryd.underlying9, hs]
  rfl

set_option maxHeartbeats 1000000 in
set_option maxRecDepth 100000 in
theorem radd_any (c : UInt32) (s : ByteArray) (w : World) (hs : s.size ≤ 549755813888) : Calls Tryd.prog 67 #[.int .u32 (U c), .string s] w fun e w' => e = .returned (.int .u32 (U (addC c s.data.toList))) ∧ w = w' := by
  have hp := U_lit_poly
  have hn := U_lit_not
  have ho := U_lit_one
  have hx := U_xor
  have hU := U_nonneg
  have hh : ∀ X, U X / (2 : Int) = U (left X 1) := fun X => left_div X 1
  have hb0 := B_nonneg
  have hb1 := B_lt
  have hb2 := B_wrap
  go_enter Tryd.func67, Tryd.ntmps67
  go_wp2_with fail
  go_loopw [5, 6] (fun v i wr => ∃ k : Nat, k ≤ s.size ∧ i = .int .i64 k ∧ v = .int .u32 (U (runC (~~~ c) (s.data.toList.take k))) ∧ wr = w) (fun _ i _ => s.size - (intOf i).toNat)
  case atStart => exact ⟨0, Nat.zero_le _, rfl, rfl, rfl⟩
  case round =>
    obtain ⟨k, hk, rfl, rfl, rfl⟩ := hrel
    obtain ⟨y, hy⟩ : ∃ y, y = runC (~~~ c) (s.data.toList.take k) := ⟨_, rfl⟩
    rw [← hy]
    have HY := Lib.hid hy
    clear hy
    have k0 : (0 : Int) ≤ (k : Int) := Int.natCast_nonneg _
    by_cases hlt : k < s.size
    · have k1 : (k : Int) < (s.size : Int) := by omega
      obtain ⟨x, hx1⟩ : ∃ x, x = s.data.toList.getD k 0 := ⟨_, rfl⟩
      have hidx := fun u : World => run_index_str s k hlt u
      rw [← hx1] at hidx
      have HN : Hid (runC (~~~ c) (s.data.toList.take (k + 1)) = stepC y x) := Lib.hid (by
        rw [List.take_succ_eq_append_getElem (by rw [← size_list]; exact hlt), runC, List.foldl_append]
        rw [HY.out, hx1, List.getD_eq_getElem?_getD, List.getElem?_eq_getElem (by rw [← size_list]; exact hlt)]
        rfl)
      clear hx1
      go_wp2_with fail
      go_loopw [5, 7] (fun v j w2 => ∃ b : Nat, b ≤ 8 ∧ j = .int .i64 b ∧ v = .int .u32 (U (inner y x.toUInt32 b)) ∧ w2 = wr) (fun _ j _ => 8 - (intOf j).toNat)
      case atStart => exact ⟨0, by decide, rfl, by rw [inner_zero], rfl⟩
      case round =>
        obtain ⟨b, hb, rfl, rfl, rfl⟩ := hrel
        by_cases hlt8 : b < 8
        · by_cases hbit : An b (y ^^^ x.toUInt32) &&& 1 = 1
          · have h1 := inner_bit y x.toUInt32 b
            have H2 := inner_one y x.toUInt32 b hbit
            rw [← left_one] at H2
            replace H2 := Lib.hid H2
            obtain ⟨v, hv⟩ : ∃ v, v = inner y x.toUInt32 b := ⟨_, rfl⟩
            rw [← hv] at h1 H2 ⊢
            have ht := U_eq_one _ (show (v ^^^ left x.toUInt32 b) &&& 1 = 1 by rw [h1]; exact hbit)
            clear hbit h1 hv
            have hd := left_pow x.toUInt32 b
            have b0 : (0 : Int) ≤ b := Int.natCast_nonneg _
            have b1 : (b : Int) < 8 := by omega
            go_wp2_with fail
            exact ⟨⟨b + 1, hlt8, by simp, by rw [H2.out], trivial⟩, by simp [intOf]; omega⟩
          · have h1 := inner_bit y x.toUInt32 b
            have H2 := inner_none y x.toUInt32 b hbit
            rw [← left_one] at H2
            replace H2 := Lib.hid H2
            obtain ⟨v, hv⟩ : ∃ v, v = inner y x.toUInt32 b := ⟨_, rfl⟩
            rw [← hv] at h1 H2 ⊢
            have ht := U_ne_one _ (show ¬ (v ^^^ left x.toUInt32 b) &&& 1 = 1 by rw [h1]; exact hbit)
            clear hbit h1 hv
            have hd := left_pow x.toUInt32 b
            have b0 : (0 : Int) ≤ b := Int.natCast_nonneg _
            have b1 : (b : Int) < 8 := by omega
            go_wp2_with fail
            exact ⟨⟨b + 1, hlt8, by simp, by rw [H2.out], trivial⟩, by simp [intOf]; omega⟩
        · obtain rfl : b = 8 := by omega
          clear hlt8 hb
          rw [inner_end]
          go_wp2_with fail
          exact ⟨⟨k + 1, hlt, by simp, by rw [HN.out], trivial⟩, by simp [intOf]; omega⟩
    · obtain rfl : k = s.size := by omega
      clear hlt hk
      go_wp2_with fail
      go_ret
      refine ⟨?_, rfl⟩
      rw [HY.out, List.take_of_length_le (by rw [← size_list]; exact Nat.le_refl _)]
      rfl
end Go.Proofs.YtkbbeioednhefaaDoor.crc
