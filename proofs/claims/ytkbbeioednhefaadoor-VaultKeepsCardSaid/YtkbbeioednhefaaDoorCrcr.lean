/-
  An array of words that is listed as laid: what its places hold.
  petrelref03.Add: the document's answer.
-/
import Derived.Test.YtkbbeioednhefaaDoorStrs
import Derived.Test.YtkbbeioednhefaaDoorSha
import Derived.LaidMore
import Derived.Stop.Joined
import Derived.Test.YtkbbeioednhefaaDoorCrcp
namespace Go.Proofs.YtkbbeioednhefaaDoor.kit
open Go.ChangeShapes Go.WideShapes Go.ChangeAt Go.RowKit Go.Proofs.YtkbbeioednhefaaDoor.sha

/-- what a number of 32 bits and one of 16 are -/
theorem word_of {a : Int} (h : Lit.wf (.int .u32 a)) : ∃ c : UInt32, a = U c := by
  have hb : 0 ≤ a ∧ a ≤ 4294967295 := by simpa [Lit.wf, IntKind.min, IntKind.max, IntKind.signed, IntKind.bits] using h
  refine ⟨UInt32.ofNat a.toNat, ?_⟩
  unfold U
  rw [UInt32.toNat_ofNat_of_lt' (by show a.toNat < 4294967296; omega)]
  omega
theorem words_of_trod {H : Type} {enc : TypeId × Value → H} {w : World} {base : Nat} {sp : Nat → Bool} {held : Bool} {fuel n : Nat} {t : TypeId} {p : List MemPlace} (L : List UInt32) (ht : Tryd.prog.underlying t = some (.array n 108)) (cs : List Value)
    (h : DataW.trod enc Tryd.prog w base sp held fuel t cs = some (.agg (L.map fun x => DataW.lit (.int .u32 (U x))), p)) (j : Nat) (hj : j < n) (hL : L.length = n) : cs[j]? = some (.int .u32 (U (L.getD j 0))) := by
  obtain ⟨xs, m1, rfl, hx1, hlen, hn, hel⟩ := DataW.trod_array ht h
  have c1 : Tryd.prog.cellsOf 108 = 1 := by kernel_rfl
  simp only [Prod.mk.injEq, DataW.agg.injEq] at hx1
  have hj2 := hel j hj
  rw [c1, Nat.mul_one] at hj2
  have hxj : xs[j]? = some (xs[j]'(by omega)) := List.getElem?_eq_getElem (by omega)
  rw [hxj] at hj2
  obtain ⟨k, e1, e2, _⟩ := DataW.trod_int Tryd.underlying108 hj2
  have hk : (xs.map (·.1))[j]? = some (.lit (.int .u32 k)) := by rw [List.getElem?_map, hxj]; simp [e2]
  have hLj : L[j]? = some (L[j]'(by rw [hL]; exact hj)) := List.getElem?_eq_getElem (by rw [hL]; exact hj)
  rw [← hx1.1, List.getElem?_map, hLj] at hk
  have hkU : U (L[j]'(by rw [hL]; exact hj)) = k := by simpa using hk
  rw [List.getD_eq_getElem?_getD, hLj, Option.getD_some, hkU]
  have := congrArg (fun l : List Value => l[0]?) e1
  simpa [List.getElem?_take, List.getElem?_drop] using this
end Go.Proofs.YtkbbeioednhefaaDoor.kit

namespace Go.Proofs.YtkbbeioednhefaaDoor.crc
open Go.RowKit Go.Proofs.YtkbbeioednhefaaDoor.mem Go.Proofs.YtkbbeioednhefaaDoor.sha

theorem A_An (n : Nat) (x : UInt32) : A (An n x) = An (n + 1) x := by
  rw [An_add n 1 x]; rfl
/-- what is left of a byte behind b of its bits -/
def left (X : UInt32) (b : Nat) : UInt32 := UInt32.ofNat (X.toNat / 2 ^ b)
theorem left_nat (X : UInt32) (b : Nat) : (left X b).toNat = X.toNat / 2 ^ b := by
  unfold left
  have := X.toNat_lt
  exact UInt32.toNat_ofNat_of_lt' (Nat.lt_of_le_of_lt (Nat.div_le_self _ _) (by show X.toNat < 4294967296; omega))
theorem left_div (X : UInt32) (b : Nat) : U X / ((2 ^ b : Nat) : Int) = U (left X b) := by
  unfold U
  rw [left_nat]
  rfl
theorem left_pow (X : UInt32) (b : Nat) : U X / (2 : Int) ^ b = U (left X b) := by
  rw [← left_div]
  congr 1
theorem left_zero (X : UInt32) : left X 0 = X := by
  apply UInt32.toNat_inj.1
  rw [left_nat]
  show X.toNat / 1 = X.toNat
  omega
theorem left_next (X : UInt32) (b : Nat) : left X b >>> 1 = left X (b + 1) := by
  apply UInt32.toNat_inj.1
  rw [UInt32.toNat_shiftRight, left_nat, left_nat]
  show (X.toNat / 2 ^ b) >>> (1 % 32) = _
  rw [Nat.shiftRight_eq_div_pow, Nat.div_div_eq_div_mul]
  rfl
theorem left_end (X : UInt32) (h : X.toNat < 256) : left X 8 = 0 := by
  apply UInt32.toNat_inj.1
  rw [left_nat]
  show X.toNat / 256 = 0
  omega
/-- the word behind b bits of a byte -/
def inner (w X : UInt32) (b : Nat) : UInt32 := An b (w ^^^ X) ^^^ left X b
theorem inner_zero (w X : UInt32) : inner w X 0 = w := by
  unfold inner
  rw [left_zero]
  show w ^^^ X ^^^ X = w
  rw [UInt32.xor_assoc, UInt32.xor_self, UInt32.xor_zero]
theorem inner_bit (w X : UInt32) (b : Nat) : inner w X b ^^^ left X b = An b (w ^^^ X) := by
  unfold inner
  rw [UInt32.xor_assoc, UInt32.xor_self, UInt32.xor_zero]
theorem inner_one (w X : UInt32) (b : Nat) (h : An b (w ^^^ X) &&& 1 = 1) : inner w X b >>> 1 ^^^ poly = inner w X (b + 1) := by
  unfold inner
  rw [xor_shr, left_next, ← A_An]
  have : A (An b (w ^^^ X)) = An b (w ^^^ X) >>> 1 ^^^ poly := by unfold A; rw [if_pos h]
  rw [this, UInt32.xor_assoc, UInt32.xor_assoc, UInt32.xor_comm poly]
theorem inner_none (w X : UInt32) (b : Nat) (h : ¬ An b (w ^^^ X) &&& 1 = 1) : inner w X b >>> 1 = inner w X (b + 1) := by
  unfold inner
  rw [xor_shr, left_next, ← A_An]
  have : A (An b (w ^^^ X)) = An b (w ^^^ X) >>> 1 := by unfold A; rw [if_neg h]
  rw [this]
theorem left_one (X : UInt32) : left X 1 = X >>> 1 := by
  have := left_next X 0
  rw [left_zero] at this
  exact this.symm
theorem inner_end (w : UInt32) (x : UInt8) : inner w x.toUInt32 8 = stepC w x := by
  unfold inner stepC
  rw [left_end _ (by rw [UInt8.toNat_toUInt32]; exact x.toNat_lt), UInt32.xor_zero]
theorem U_lit_not (a : UInt32) : bits .xor .u32 (U a) 4294967295 = U (~~~ a) := by
  have h : (4294967295 : Int) = U 0xffffffff := by decide
  rw [h, U_xor, UInt32.xor_comm, ← U_xor, ← h, U_not]
theorem U_lit_poly (a : UInt32) : bits .xor .u32 (U a) 3988292384 = U (a ^^^ poly) := by
  have h : (3988292384 : Int) = U poly := by decide
  rw [h, U_xor]
theorem U_lit_one (a : UInt32) : bits .and .u32 (U a) 1 = U (a &&& 1) := by
  have h : (1 : Int) = U 1 := by decide
  rw [h, U_and]
theorem size_list (s : ByteArray) : s.size = s.data.toList.length := Array.length_toList.symm
theorem U_eq_one (a : UInt32) (h : a = 1) : (U a == 1) = true := by rw [h]; decide
theorem U_ne_one (a : UInt32) (h : ¬ a = 1) : (U a == 1) = false := by
  refine beq_eq_false_iff_ne.2 fun e => h ?_
  apply UInt32.toNat_inj.1
  unfold U at e
  show a.toNat = 1
  omega

theorem run_index_str (s : ByteArray) (k : Nat) (h : k < s.size) (w : World) : (Instr.index 9 (.string s) (.int .i64 (k : Int))).run Tryd.prog w = .ok (.int .u8 (B (s.data.toList.getD k 0))) w := by
  have hs : s[k]? = some (s.data.toList.getD k 0) := by
    rw [List.getD_eq_getElem?_getD, List.getElem?_eq_getElem (by rw [← size_list]; exact h)]
    simp [getElem?_pos s k h]
    rfl
  have h0 : (0 : Int) ≤ (k : Int) := Int.natCast_nonneg _
  simp [Instr.index, asIntOf, run_underlying Tryd.underlying9, hs]
  rfl

set_option maxHeartbeats 1000000 in
set_option maxRecDepth 100000 in
theorem radd_any (c : UInt32) (s : ByteArray) (w : World) (hs : s.size ≤ 549755813888) : Calls Tryd.prog 67 #[.int .u32 (U c), .string s] w fun e w' => e = .returned (.int .u32 (U (addC c s.data.toList))) ∧ w = w' := by
  have hp := U_lit_poly
  have hn := U_lit_not
  have ho := U_lit_one
  have hx := U_xor
  have hU := U_nonneg
  have hh : ∀ X, U X / (2 : Int) = U (left X 1) := fun X => left_div X 1
  have hb0 := B_nonneg
  have hb1 := B_lt
  have hb2 := B_wrap
  go_enter Tryd.func67, Tryd.ntmps67
  go_wp2_with fail
  go_loopw [5, 6] (fun v i wr => ∃ k : Nat, k ≤ s.size ∧ i = .int .i64 k ∧ v = .int .u32 (U (runC (~~~ c) (s.data.toList.take k))) ∧ wr = w) (fun _ i _ => s.size - (intOf i).toNat)
  case atStart => exact ⟨0, Nat.zero_le _, rfl, rfl, rfl⟩
  case round =>
    obtain ⟨k, hk, rfl, rfl, rfl⟩ := hrel
    obtain ⟨y, hy⟩ : ∃ y, y = runC (~~~ c) (s.data.toList.take k) := ⟨_, rfl⟩
    rw [← hy]
    have HY := Lib.hid hy
    clear hy
    have k0 : (0 : Int) ≤ (k : Int) := Int.natCast_nonneg _
    by_cases hlt : k < s.size
    · have k1 : (k : Int) < (s.size : Int) := by omega
      obtain ⟨x, hx1⟩ : ∃ x, x = s.data.toList.getD k 0 := ⟨_, rfl⟩
      have hidx := fun u : World => run_index_str s k hlt u
      rw [← hx1] at hidx
      have HN : Hid (runC (~~~ c) (s.data.toList.take (k + 1)) = stepC y x) := Lib.hid (by
        rw [List.take_succ_eq_append_getElem (by rw [← size_list]; exact hlt), runC, List.foldl_append]
        rw [HY.out, hx1, List.getD_eq_getElem?_getD, List.getElem?_eq_getElem (by rw [← size_list]; exact hlt)]
        rfl)
      clear hx1
      go_wp2_with fail
      go_loopw [5, 7] (fun v j w2 => ∃ b : Nat, b ≤ 8 ∧ j = .int .i64 b ∧ v = .int .u32 (U (inner y x.toUInt32 b)) ∧ w2 = wr) (fun _ j _ => 8 - (intOf j).toNat)
      case atStart => exact ⟨0, by decide, rfl, by rw [inner_zero], rfl⟩
      case round =>
        obtain ⟨b, hb, rfl, rfl, rfl⟩ := hrel
        by_cases hlt8 : b < 8
        · by_cases hbit : An b (y ^^^ x.toUInt32) &&& 1 = 1
          · have h1 := inner_bit y x.toUInt32 b
            have H2 := inner_one y x.toUInt32 b hbit
            rw [← left_one] at H2
            replace H2 := Lib.hid H2
            obtain ⟨v, hv⟩ : ∃ v, v = inner y x.toUInt32 b := ⟨_, rfl⟩
            rw [← hv] at h1 H2 ⊢
            have ht := U_eq_one _ (show (v ^^^ left x.toUInt32 b) &&& 1 = 1 by rw [h1]; exact hbit)
            clear hbit h1 hv
            have hd := left_pow x.toUInt32 b
            have b0 : (0 : Int) ≤ b := Int.natCast_nonneg _
            have b1 : (b : Int) < 8 := by omega
            go_wp2_with fail
            exact ⟨⟨b + 1, hlt8, by simp, by rw [H2.out], trivial⟩, by simp [intOf]; omega⟩
          · have h1 := inner_bit y x.toUInt32 b
            have H2 := inner_none y x.toUInt32 b hbit
            rw [← left_one] at H2
            replace H2 := Lib.hid H2
            obtain ⟨v, hv⟩ : ∃ v, v = inner y x.toUInt32 b := ⟨_, rfl⟩
            rw [← hv] at h1 H2 ⊢
            have ht := U_ne_one _ (show ¬ (v ^^^ left x.toUInt32 b) &&& 1 = 1 by rw [h1]; exact hbit)
            clear hbit h1 hv
            have hd := left_pow x.toUInt32 b
            have b0 : (0 : Int) ≤ b := Int.natCast_nonneg _
            have b1 : (b : Int) < 8 := by omega
            go_wp2_with fail
            exact ⟨⟨b + 1, hlt8, by simp, by rw [H2.out], trivial⟩, by simp [intOf]; omega⟩
        · obtain rfl : b = 8 := by omega
          clear hlt8 hb
          rw [inner_end]
          go_wp2_with fail
          exact ⟨⟨k + 1, hlt, by simp, by rw [HN.out], trivial⟩, by simp [intOf]; omega⟩
    · obtain rfl : k = s.size := by omega
      clear hlt hk
      go_wp2_with fail
      go_ret
      refine ⟨?_, rfl⟩
      rw [HY.out, List.take_of_length_le (by rw [← size_list]; exact Nat.le_refl _)]
      rfl
end Go.Proofs.YtkbbeioednhefaaDoor.crc
