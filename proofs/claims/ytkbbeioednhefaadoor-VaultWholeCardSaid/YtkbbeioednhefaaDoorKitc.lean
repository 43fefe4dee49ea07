/-
  An array of words that is listed as laid: what its places hold.
  petrelref03.Add: the document's answer.
  What crc's functions answer: a table of 16 half bytes (crc.steps, block 0).
  What the listed variable gives the walks of crc; and that the program's own start lays it.
-/
import Derived.Test.YtkbbeioednhefaaDoorStrs
import Derived.Test.YtkbbeioednhefaaDoorSha
import Derived.LaidMore
import Derived.Stop.Joined
import Derived.Test.YtkbbeioednhefaaDoorCrcp
namespace Go.Proofs.YtkbbeioednhefaaDoor.kit
open Go.ChangeShapes Go.WideShapes Go.ChangeAt Go.RowKit Go.Proofs.YtkbbeioednhefaaDoor.sha

/-- what a number of 32 bits and one of 16 are -/
theorem word_of {a : Int} (h : Lit.wf (.int .u32 a)) : ∃ c : UInt32, a = U c := by
  have hb : 0 ≤ a ∧ a ≤ 4294967295 := by simpa [Lit.wf, IntKind.min, IntKind.max, IntKind.signed, IntKind.bits] using h
  refine ⟨UInt32.ofNat a.toNat, ?_⟩
  unfold U
  rw [UInt32.toNat_ofNat_of_lt' (by show a.toNat < 4294967296; omega)]
  omega
theorem words_of_trod {H : Type} {enc : TypeId × Value → H} {w : World} {base : Nat} {sp : Nat → Bool} {held : Bool} {fuel n : Nat} {t : TypeId} {p : List MemPlace} (L : List UInt32) (ht : Tryd.prog.underlying t = some (.array n 108)) (cs : List Value)
    (h : DataW.trod enc Tryd.prog w base sp held fuel t cs = some (.agg (L.map fun x => DataW.lit (.int .u32 (U x))), p)) (j : Nat) (hj : j < n) (hL : L.length = n) : cs[j]? = some (.int .u32 (U (L.getD j 0))) := by
  obtain ⟨xs, m1, rfl, hx1, hlen, hn, hel⟩ := DataW.trod_array ht h
  have c1 : Tryd.prog.cellsOf 108 = 1 := by kernel_rfl
  simp only [Prod.mk.injEq, DataW.agg.injEq] at hx1
  have hj2 := hel j hj
  rw [c1, Nat.mul_one] at hj2
  have hxj : xs[j]? = some (xs[j]'(by omega)) := List.getElem?_eq_getElem (by omega)
  rw [hxj] at hj2
  obtain ⟨k, e1, e2, _⟩ := DataW.trod_int Tryd.underlying108 hj2
  have hk : (xs.map (·.1))[j]? = some (.lit (.int .u32 k)) := by rw [List.getElem?_map, hxj]; simp [e2]
  have hLj : L[j]? = some (L[j]'(by rw [hL]; exact hj)) := List.getElem?_eq_getElem (by rw [hL]; exact hj)
  rw [← hx1.1, List.getElem?_map, hLj] at hk
  have hkU : U (L[j]'(by rw [hL]; exact hj)) = k := by simpa using hk
  rw [List.getD_eq_getElem?_getD, hLj, Option.getD_some, hkU]
  have := congrArg (fun l : List Value => l[0]?) e1
  simpa [List.getElem?_take, List.getElem?_drop] using this
end Go.Proofs.YtkbbeioednhefaaDoor.kit

namespace Go.Proofs.YtkbbeioednhefaaDoor.crc
open Go.RowKit Go.Proofs.YtkbbeioednhefaaDoor.mem Go.Proofs.YtkbbeioednhefaaDoor.sha

theorem A_An (n : Nat) (x : UInt32) : A (An n x) = An (n + 1) x := by
  rw [An_add n 1 x]; rfl
/-- what is left of a byte behind b of its bits -/
def left (X : UInt32) (b : Nat) : UInt32 := UInt32.ofNat (X.toNat / 2 ^ b)
theorem left_nat (X : UInt32) (b : Nat) : (left X b).toNat = X.toNat / 2 ^ b := by
  unfold left
  have := X.toNat_lt
  exact UInt32.toNat_ofNat_of_lt' (Nat.lt_of_le_of_lt (Nat.div_le_self _ _) (by show X.toNat < 4294967296; omega))
theorem left_div (X : UInt32) (b : Nat) : U X / ((2 ^ b : Nat) : Int) = U (left X b) := by
  unfold U
  rw [left_nat]
  rfl
theorem left_pow (X : UInt32) (b : Nat) : U X / (2 : Int) ^ b = U (left X b) := by
  rw [← left_div]
  congr 1
theorem left_zero (X : UInt32) : left X 0 = X := by
  apply UInt32.toNat_inj.1
  rw [left_nat]
  show X.toNat / 1 = X.toNat
  omega
theorem left_next (X : UInt32) (b : Nat) : left X b >>> 1 = left X (b + 1) := by
  apply UInt32.toNat_inj.1
  rw [UInt32.toNat_shiftRight, left_nat, left_nat]
  show (X.toNat / 2 ^ b) >>> (1 % 32) = _
  rw [Nat.shiftRight_eq_div_pow, Nat.div_div_eq_div_mul]
  rfl
theorem left_end (X : UInt32) (h : X.toNat < 256) : left X 8 = 0 := by
  apply UInt32.toNat_inj.1
  rw [left_nat]
  show X.toNat / 256 = 0
  omega
/-- the word behind b bits of a byte -/
def inner (w X : UInt32) (b : Nat) : UInt32 := An b (w ^^^ X) ^^^ left X b
theorem inner_zero (w X : UInt32) : inner w X 0 = w := by
  unfold inner
  rw [left_zero]
  show w ^^^ X ^^^ X = w
  rw [UInt32.xor_assoc, UInt32.xor_self, UInt32.xor_zero]
theorem inner_bit (w X : UInt32) (b : Nat) : inner w X b ^^^ left X b = An b (w ^^^ X) := by
  unfold inner
  rw [UInt32.xor_assoc, UInt32.xor_self, UInt32.xor_zero]
theorem inner_one (w X : UInt32) (b : Nat) (h : An b (w ^^^ X) &&& 1 = 1) : inner w X b >>> 1 ^^^ poly = inner w X (b + 1) := by
  unfold inner
  rw [xor_shr, left_next, ← A_An]
  have : A (An b (w ^^^ X)) = An b (w ^^^ X) >>> 1 ^^^ poly := by unfold A; rw [if_pos h]
  rw [this, UInt32.xor_assoc, UInt32.xor_assoc, UInt32.xor_comm poly]
theorem inner_none (w X : UInt32) (b : Nat) (h : ¬ An b (w ^^^ X) &&& 1 = 1) : inner w X b >>> 1 = inner w X (b + 1) := by
  unfold inner
  rw [xor_shr, left_next, ← A_An]
  have : A (An b (w ^^^ X)) = An b (w ^^^ X) >>> 1 := by unfold A; rw [if_neg h]
  rw [this]
theorem left_one (X : UInt32) : left X 1 = X >>> 1 := by
  have := left_next X 0
  rw [left_zero] at this
  exact this.symm
theorem inner_end (w : UInt32) (x : UInt8) : inner w x.toUInt32 8 = stepC w x := by
  unfold inner stepC
  rw [left_end _ (by rw [UInt8.toNat_toUInt32]; exact x.toNat_lt), UInt32.xor_zero]
theorem U_lit_not (a : UInt32) : bits .xor .u32 (U a) 4294967295 = U (~~~ a) := by
  have h : (4294967295 : Int) = U 0xffffffff := by decide
  rw [h, U_xor, UInt32.xor_comm, ← U_xor, ← h, U_not]
theorem U_lit_poly (a : UInt32) : bits .xor .u32 (U a) 3988292384 = U (a ^^^ poly) := by
  have h : (3988292384 : Int) = U poly := by decide
  rw [h, U_xor]
theorem U_lit_one (a : UInt32) : bits .and .u32 (U a) 1 = U (a &&& 1) := by
  have h : (1 : Int) = U 1 := by decide
  rw [h, U_and]
theorem size_list (s : ByteArray) : s.size = s.data.toList.length := Array.length_toList.symm
theorem U_eq_one (a : UInt32) (h : a = 1) : (U a == 1) = true := by rw [h]; decide
theorem U_ne_one (a : UInt32) (h : ¬ a = 1) : (U a == 1) = false := by
  refine beq_eq_false_iff_ne.2 fun e => h ?_
  apply UInt32.toNat_inj.1
  unfold U at e
  show a.toNat = 1
  omega

theorem run_index_str (s : ByteArray) (k : Nat) (h : k < s.size) (w : World) : (Instr.index 9 (.string s) (.int .i64 (k : Int))).run Tryd.prog w = .ok (.int .u8 (B (s.data.toList.getD k 0))) w := by
  have hs : s[k]? = some (s.data.toList.getD k 0) := by
    rw [List.getD_eq_getElem?_getD, List.getElem?_eq_getElem (by rw [← size_list]; exact h)]
    simp [getElem?_pos s k h]
    rfl
  have h0 : (0 : Int) ≤ (k : Int) := Int.natCast_nonneg _
  simp [Instr.index, asIntOf, run_underlying Tryd.underlying9, hs]
  rfl

set_option maxHeartbeats 1000000 in
set_option maxRecDepth 100000 in
theorem radd_any (c : UInt32) (s : ByteArray) (w : World) (hs : s.size ≤ 549755813888) : Calls Tryd.prog 67 #[.int .u32 (U c), .string s] w fun e w' => e = .returned (.int .u32 (U (addC c s.data.toList))) ∧ w = w' := by
  have hp := U_lit_poly
  have hn := U_lit_not
  have ho := U_lit_one
  have hx := U_xor
  have hU := U_nonneg
  have hh : ∀ X, U X / (2 : Int) = U (left X 1) := fun X => left_div X 1
  have hb0 := B_nonneg
  have hb1 := B_lt
  have hb2 := B_wrap
  go_enter Tryd.func67, Tryd.ntmps67
  go_wp2_with fail
  go_loopw [5, 6] (fun v i wr => ∃ k : Nat, k ≤ s.size ∧ i = .int .i64 k ∧ v = .int .u32 (U (runC (~~~ c) (s.data.toList.take k))) ∧ wr = w) (fun _ i _ => s.size - (intOf i).toNat)
  case atStart => exact ⟨0, Nat.zero_le _, rfl, rfl, rfl⟩
  case round =>
    obtain ⟨k, hk, rfl, rfl, rfl⟩ := hrel
    obtain ⟨y, hy⟩ : ∃ y, y = runC (~~~ c) (s.data.toList.take k) := ⟨_, rfl⟩
    rw [← hy]
    have HY := Lib.hid hy
    clear hy
    have k0 : (0 : Int) ≤ (k : Int) := Int.natCast_nonneg _
    by_cases hlt : k < s.size
    · have k1 : (k : Int) < (s.size : Int) := by omega
      obtain ⟨x, hx1⟩ : ∃ x, x = s.data.toList.getD k 0 := ⟨_, rfl⟩
      have hidx := fun u : World => run_index_str s k hlt u
      rw [← hx1] at hidx
      have HN : Hid (runC (~~~ c) (s.data.toList.take (k + 1)) = stepC y x) := Lib.hid (by
        rw [List.take_succ_eq_append_getElem (by rw [← size_list]; exact hlt), runC, List.foldl_append]
        rw [HY.out, hx1, List.getD_eq_getElem?_getD, List.getElem?_eq_getElem (by rw [← size_list]; exact hlt)]
        rfl)
      clear hx1
      go_wp2_with fail
      go_loopw [5, 7] (fun v j w2 => ∃ b : Nat, b ≤ 8 ∧ j = .int .i64 b ∧ v = .int .u32 (U (inner y x.toUInt32 b)) ∧ w2 = wr) (fun _ j _ => 8 - (intOf j).toNat)
      case atStart => exact ⟨0, by decide, rfl, by rw [inner_zero], rfl⟩
      case round =>
        obtain ⟨b, hb, rfl, rfl, rfl⟩ := hrel
        by_cases hlt8 : b < 8
        · by_cases hbit : An b (y ^^^ x.toUInt32) &&& 1 = 1
          · have h1 := inner_bit y x.toUInt32 b
            have H2 := inner_one y x.toUInt32 b hbit
            rw [← left_one] at H2
            replace H2 := Lib.hid H2
            obtain ⟨v, hv⟩ : ∃ v, v = inner y x.toUInt32 b := ⟨_, rfl⟩
            rw [← hv] at h1 H2 ⊢
            have ht := U_eq_one _ (show (v ^^^ left x.toUInt32 b) &&& 1 = 1 by rw [h1]; exact hbit)
            clear hbit h1 hv
            have hd := left_pow x.toUInt32 b
            have b0 : (0 : Int) ≤ b := Int.natCast_nonneg _
            have b1 : (b : Int) < 8 := by omega
            go_wp2_with fail
            exact ⟨⟨b + 1, hlt8, by simp, by rw [H2.out], trivial⟩, by simp [intOf]; omega⟩
          · have h1 := inner_bit y x.toUInt32 b
            have H2 := inner_none y x.toUInt32 b hbit
            rw [← left_one] at H2
            replace H2 := Lib.hid H2
            obtain ⟨v, hv⟩ : ∃ v, v = inner y x.toUInt32 b := ⟨_, rfl⟩
            rw [← hv] at h1 H2 ⊢
            have ht := U_ne_one _ (show ¬ (v ^^^ left x.toUInt32 b) &&& 1 = 1 by rw [h1]; exact hbit)
            clear hbit h1 hv
            have hd := left_pow x.toUInt32 b
            have b0 : (0 : Int) ≤ b := Int.natCast_nonneg _
            have b1 : (b : Int) < 8 := by omega
            go_wp2_with fail
            exact ⟨⟨b + 1, hlt8, by simp, by rw [H2.out], trivial⟩, by simp [intOf]; omega⟩
        · obtain rfl : b = 8 := by omega
          clear hlt8 hb
          rw [inner_end]
          go_wp2_with fail
          exact ⟨⟨k + 1, hlt, by simp, by rw [HN.out], trivial⟩, by simp [intOf]; omega⟩
    · obtain rfl : k = s.size := by omega
      clear hlt hk
      go_wp2_with fail
      go_ret
      refine ⟨?_, rfl⟩
      rw [HY.out, List.take_of_length_le (by rw [← size_list]; exact Nat.le_refl _)]
      rfl
end Go.Proofs.YtkbbeioednhefaaDoor.crc

namespace Go.Proofs.YtkbbeioednhefaaDoor.crc
open Go.RowKit Go.Proofs.YtkbbeioednhefaaDoor.mem Go.Proofs.YtkbbeioednhefaaDoor.sha

def stepsL : List UInt32 := [0x00000000, 0x1db71064, 0x3b6e20c8, 0x26d930ac, 0x76dc4190, 0x6b6b51f4, 0x4db26158, 0x5005713c, 0xedb88320, 0xf00f9344, 0xd6d6a3e8, 0xcb61b38c, 0x9b64c2b0, 0x86d3d2d4, 0xa00ae278, 0xbdbdf21c]
theorem stepsL_An : ∀ j : Fin 16, stepsL.getD j.val 0 = An 4 (UInt32.ofNat j.val) := by decide
/-- the table lies in block 0 -/
def Tab (w : World) : Prop := 1 ≤ w.heap.size ∧ ∀ j, j < 16 → w.cell? ⟨0, j, none⟩ = some (.int .u32 (U (stepsL.getD j 0)))
theorem Tab.next {w w' : World} (h : Tab w) (hb : Below w.heap.size w w') : Tab w' :=
  ⟨Nat.le_trans h.1 hb.size, fun j hj => (hb.cell (p := ⟨0, j, none⟩) (Nat.lt_of_lt_of_le (show 0 < 1 by decide) h.1)).trans (h.2 j hj)⟩

/-- four steps of a word with the four lowest bits of a byte -/
def halfC (w : UInt32) (b : UInt8) : UInt32 := w >>> 4 ^^^ An 4 ((w ^^^ b.toUInt32) &&& 15)
theorem xor_shr4 (x y : UInt32) : (x ^^^ y) >>> 4 = x >>> 4 ^^^ y >>> 4 := xor_shr x y 4
theorem byte_shr4 (x : UInt8) : (x >>> 4).toUInt32 = x.toUInt32 >>> 4 := by
  apply UInt32.toNat_inj.1
  rw [UInt8.toNat_toUInt32, UInt32.toNat_shiftRight, UInt8.toNat_shiftRight, UInt8.toNat_toUInt32]
  rfl
theorem byte_shr8 (x : UInt8) : x.toUInt32 >>> 4 >>> 4 = 0 := by
  apply UInt32.toNat_inj.1
  have := x.toNat_lt
  rw [UInt32.toNat_shiftRight, UInt32.toNat_shiftRight, UInt8.toNat_toUInt32]
  show x.toNat >>> (4 % 32) >>> (4 % 32) = 0
  rw [Nat.shiftRight_eq_div_pow, Nat.shiftRight_eq_div_pow]
  show x.toNat / 16 / 16 = 0
  omega
theorem halfC_An (w : UInt32) (b : UInt8) : halfC w b = An 4 (w ^^^ b.toUInt32) ^^^ b.toUInt32 >>> 4 := by
  unfold halfC
  rw [An4_split (w ^^^ b.toUInt32), xor_shr4, UInt32.xor_comm (w >>> 4), UInt32.xor_assoc, UInt32.xor_assoc, UInt32.xor_self, UInt32.xor_zero]
theorem halves (w : UInt32) (x : UInt8) : halfC (halfC w x) (x >>> 4) = stepC w x := by
  rw [halfC_An, halfC_An, byte_shr4, byte_shr8, UInt32.xor_zero, UInt32.xor_assoc, UInt32.xor_self, UInt32.xor_zero]
  exact (An_add 4 4 _).symm
theorem b8_xor (x y : UInt8) : bits .xor .u8 (B x) (B y) = B (x ^^^ y) := by
  unfold B; rw [u8_xor_nat _ _ x.toNat_lt y.toNat_lt, UInt8.toNat_xor]
theorem b8_and (x y : UInt8) : bits .and .u8 (B x) (B y) = B (x &&& y) := by
  unfold B; rw [u8_and_nat _ _ x.toNat_lt y.toNat_lt, UInt8.toNat_and]
theorem b8_and15 (x : UInt8) : bits .and .u8 (B x) 15 = B (x &&& 15) := by
  have h : (15 : Int) = B 15 := by decide
  rw [h, b8_and]
theorem U_wrap8 (w : UInt32) : IntKind.u8.wrap (U w) = B w.toUInt8 := by
  unfold U B
  rw [UInt32.toNat_toUInt8]
  simp [IntKind.wrap, IntKind.signed, IntKind.bits]
/-- the half byte's number -/
theorem nib (w : UInt32) (b : UInt8) : ∃ j : Nat, j < 16 ∧ B ((w.toUInt8 &&& 15) ^^^ (b &&& 15)) = (j : Int) ∧ stepsL.getD j 0 = An 4 ((w ^^^ b.toUInt32) &&& 15) := by
  have he : ((w.toUInt8 &&& 15) ^^^ (b &&& 15)).toNat = ((w ^^^ b.toUInt32) &&& 15).toNat := by
    rw [UInt8.toNat_xor, UInt8.toNat_and, UInt8.toNat_and, UInt32.toNat_and, UInt32.toNat_xor, UInt8.toNat_toUInt32, UInt32.toNat_toUInt8]
    show (w.toNat % 2 ^ 8 &&& 15) ^^^ (b.toNat &&& 15) = (w.toNat ^^^ b.toNat) &&& 15
    rw [Nat.and_xor_distrib_right]
    congr 1
    apply Nat.eq_of_testBit_eq
    intro i
    rw [Nat.testBit_and, Nat.testBit_and, Nat.testBit_mod_two_pow, show (15 : Nat) = 2 ^ 4 - 1 by rfl, Nat.testBit_two_pow_sub_one]
    by_cases hi : i < 4
    · rw [decide_eq_true hi, decide_eq_true (show i < 8 by omega), Bool.true_and]
    · rw [decide_eq_false hi, Bool.and_false, Bool.and_false]
  have hlt : ((w ^^^ b.toUInt32) &&& 15).toNat < 16 := by
    rw [UInt32.toNat_and]
    exact Nat.lt_succ_of_le Nat.and_le_right
  refine ⟨((w ^^^ b.toUInt32) &&& 15).toNat, hlt, ?_, ?_⟩
  · unfold B; rw [he]
  · have := stepsL_An ⟨_, hlt⟩
    rw [this]
    congr 1
    exact UInt32.ofNat_toNat

set_option maxHeartbeats 1000000 in
set_option maxRecDepth 100000 in
theorem half_any (x : UInt32) (b : UInt8) (w : World) (hT : Tab w) : Calls Tryd.prog 91 #[.int .u32 (U x), .int .u8 (B b)] w fun e w' => e = .returned (.int .u32 (U (halfC x b))) ∧ w = w' := by
  obtain ⟨j, hj, hB, hS⟩ := nib x b
  have hcell := hT.2 j hj
  rw [hS] at hcell
  have h4 : U x / (16 : Int) = U (x >>> 4) := U_shr 4 x 4 rfl
  have hx := U_xor
  have hw8 := U_wrap8
  have ha := b8_and15
  have hx8 := b8_xor
  have j0 : (0 : Int) ≤ (j : Int) := Int.natCast_nonneg _
  have j1 : (j : Int) < 16 := by omega
  clear hT hS hj
  go_enter Tryd.func91, Tryd.ntmps91
  go_wp2_with fail
  go_ret
  exact ⟨rfl, rfl⟩

set_option maxHeartbeats 1000000 in
set_option maxRecDepth 100000 in
theorem add_walk (c : UInt32) (s : ByteArray) (w : World) (hT : Tab w) (hs : s.size ≤ 549755813888) : Calls Tryd.prog 83 #[.int .u32 (U c), .string s] w fun e w' => e = .returned (.int .u32 (U (addC c s.data.toList))) ∧ w = w' := by
  have hn : ∀ a : UInt32, bits .xor .u32 IntKind.u32.max (U a) = U (~~~ a) := U_not
  have hq : ∀ x : UInt8, B x / (16 : Int) = B (x >>> 4) := fun x => by
    unfold B
    rw [UInt8.toNat_shiftRight]
    show (x.toNat : Int) / 16 = ((x.toNat >>> (4 % 8) : Nat) : Int)
    rw [Nat.shiftRight_eq_div_pow]
    rfl
  have HT := Lib.hid hT
  clear hT
  go_enter Tryd.func83, Tryd.ntmps83
  go_wp2_with fail
  go_loopw [5, 11] (fun v i wr => ∃ k : Nat, k ≤ s.size ∧ i = .int .i64 k ∧ v = .int .u32 (U (runC (~~~ c) (s.data.toList.take k))) ∧ wr = w) (fun _ i _ => s.size - (intOf i).toNat)
  case atStart => exact ⟨0, Nat.zero_le _, rfl, rfl, rfl⟩
  case round =>
    obtain ⟨k, hk, rfl, rfl, rfl⟩ := hrel
    obtain ⟨y, hy⟩ : ∃ y, y = runC (~~~ c) (s.data.toList.take k) := ⟨_, rfl⟩
    rw [← hy]
    have HY := Lib.hid hy
    clear hy
    have k0 : (0 : Int) ≤ (k : Int) := Int.natCast_nonneg _
    by_cases hlt : k < s.size
    · have k1 : (k : Int) < (s.size : Int) := by omega
      obtain ⟨x, hx1⟩ : ∃ x, x = s.data.toList.getD k 0 := ⟨_, rfl⟩
      have hidx := fun u : World => run_index_str s k hlt u
      rw [← hx1] at hidx
      have HN : Hid (runC (~~~ c) (s.data.toList.take (k + 1)) = halfC (halfC y x) (x >>> 4)) := Lib.hid (by
        rw [List.take_succ_eq_append_getElem (by rw [← size_list]; exact hlt), runC, List.foldl_append]
        rw [HY.out, hx1, List.getD_eq_getElem?_getD, List.getElem?_eq_getElem (by rw [← size_list]; exact hlt), halves]
        rfl)
      clear hx1
      go_wp2_with (go_at_call 91; with_reducible refine (half_any _ _ _ HT.out).mono ?_; rintro e w1 ⟨rfl, rfl⟩)
      exact ⟨⟨k + 1, hlt, by simp, by rw [HN.out], trivial⟩, by simp [intOf]; omega⟩
    · obtain rfl : k = s.size := by omega
      clear hlt hk
      go_wp2_with fail
      go_ret
      refine ⟨?_, rfl⟩
      rw [HY.out, List.take_of_length_le (by rw [← size_list]; exact Nat.le_refl _)]
      rfl

set_option maxHeartbeats 1000000 in
theorem sum_walk (s : ByteArray) (w : World) (hT : Tab w) (hs : s.size ≤ 549755813888) : Calls Tryd.prog 82 #[.string s] w fun e w' => e = .returned (.int .u32 (U (addC 0 s.data.toList))) ∧ w = w' := by
  have h0 := add_walk 0 s w hT hs
  rw [show U 0 = 0 from rfl] at h0
  have H := Lib.hid h0
  clear h0 hT
  go_enter Tryd.func82, Tryd.ntmps82
  go_wp2_with (go_at_call 83; refine (H.out).mono ?_; rintro e w1 ⟨rfl, rfl⟩)
  go_ret
  exact ⟨rfl, rfl⟩

end Go.Proofs.YtkbbeioednhefaaDoor.crc

namespace Go.Proofs.YtkbbeioednhefaaDoor.kit
open Go.ChangeShapes Go.WideShapes Go.ChangeAt Go.RowKit Go.Proofs.YtkbbeioednhefaaDoor.sha

def listedC : List (String × DataW Unit) := [("petrel/crc.steps", Rows.laid_petrel_crc_steps)]
theorem gSteps : Tryd.prog.globalNamed "petrel/crc.steps" = some 0 := by kernel_rfl
theorem tSteps : (Tryd.prog.globals[0]?).map (·.type) = some 143 := by kernel_rfl
theorem door_metC (os : Os) (args : Array Value) : laidMetH Tryd.prog listedC ((World.doorLaid Tryd.prog 400 os).forCall (fun _ _ => 0) ⟨#[], args, []⟩).memory :=
  laidMetH_of_parts3 (fuel := 8) (laidMet_of_run' 8 (by kernel_rfl) (by kernel_rfl)) (by kernel_rfl) (by kernel_rfl)
theorem steps_of_laid {W : World} (h : laidMetH Tryd.prog listedC W) : crc.Tab W := by
  rw [MakeChecks.laidMetH_plain _ _ _ (by kernel_rfl)] at h
  obtain ⟨ps, ⟨g0, t0, cs0, f0, p0, q0, hg0, ht0, hv0, hd0, _, _⟩, _, _⟩ := h
  obtain rfl := Option.some.inj (gSteps.symm.trans hg0)
  obtain rfl := Option.some.inj (tSteps.symm.trans ht0)
  have k0 := words_of_trod crc.stepsL Tryd.underlying143 _ hd0
  have c0 : ∀ j, j < 16 → W.cell? ⟨0, j, none⟩ = some (.int .u32 (U (crc.stepsL.getD j 0))) := fun j hj => by
    rw [World.var?_cell hg0 hv0 j, ← k0 j hj rfl]
    simp
  exact ⟨block_lt_of_cell (c0 0 (by decide)), c0⟩
end Go.Proofs.YtkbbeioednhefaaDoor.kit
