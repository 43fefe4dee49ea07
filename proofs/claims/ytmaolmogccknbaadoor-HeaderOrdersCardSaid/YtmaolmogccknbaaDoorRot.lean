/-
  An array of words that is listed as laid: what its places hold.
  Contracts of the turns of a word: math/bits.RotateLeft32, sha.rotr, petrelref02.rotr.
-/
import Derived.Test.YtmaolmogccknbaaDoorStepl
import Derived.Test.YtmaolmogccknbaaDoorSha
import Derived.LaidMore
import Derived.Stop.Joined
namespace Go.Proofs.YtmaolmogccknbaaDoor.kit
open Go.ChangeShapes Go.WideShapes Go.ChangeAt Go.RowKit Go.Proofs.YtmaolmogccknbaaDoor.sha

/-- what a number of 32 bits and one of 16 are -/
theorem word_of {a : Int} (h : Lit.wf (.int .u32 a)) : ∃ c : UInt32, a = U c := by
  have hb : 0 ≤ a ∧ a ≤ 4294967295 := by simpa [Lit.wf, IntKind.min, IntKind.max, IntKind.signed, IntKind.bits] using h
  refine ⟨UInt32.ofNat a.toNat, ?_⟩
  unfold U
  rw [UInt32.toNat_ofNat_of_lt' (by show a.toNat < 4294967296; omega)]
  omega
theorem words_of_trod {H : Type} {enc : TypeId × Value → H} {w : World} {base : Nat} {sp : Nat → Bool} {held : Bool} {fuel n : Nat} {t : TypeId} {p : List MemPlace} (L : List UInt32) (ht : Tryd.prog.underlying t = some (.array n 119)) (cs : List Value)
    (h : DataW.trod enc Tryd.prog w base sp held fuel t cs = some (.agg (L.map fun x => DataW.lit (.int .u32 (U x))), p)) (j : Nat) (hj : j < n) (hL : L.length = n) : cs[j]? = some (.int .u32 (U (L.getD j 0))) := by
  obtain ⟨xs, m1, rfl, hx1, hlen, hn, hel⟩ := DataW.trod_array ht h
  have c1 : Tryd.prog.cellsOf 119 = 1 := by kernel_rfl
  simp only [Prod.mk.injEq, DataW.agg.injEq] at hx1
  have hj2 := hel j hj
  rw [c1, Nat.mul_one] at hj2
  have hxj : xs[j]? = some (xs[j]'(by omega)) := List.getElem?_eq_getElem (by omega)
  rw [hxj] at hj2
  obtain ⟨k, e1, e2, _⟩ := DataW.trod_int Tryd.underlying119 hj2
  have hk : (xs.map (·.1))[j]? = some (.lit (.int .u32 k)) := by rw [List.getElem?_map, hxj]; simp [e2]
  have hLj : L[j]? = some (L[j]'(by rw [hL]; exact hj)) := List.getElem?_eq_getElem (by rw [hL]; exact hj)
  rw [← hx1.1, List.getElem?_map, hLj] at hk
  have hkU : U (L[j]'(by rw [hL]; exact hj)) = k := by simpa using hk
  rw [List.getD_eq_getElem?_getD, hLj, Option.getD_some, hkU]
  have := congrArg (fun l : List Value => l[0]?) e1
  simpa [List.getElem?_take, List.getElem?_drop] using this
end Go.Proofs.YtmaolmogccknbaaDoor.kit

namespace Go.Proofs.YtmaolmogccknbaaDoor.sha
open Go.RowKit

theorem rotl_2 (x : UInt32) (w : World) : Calls Tryd.prog 118 #[.int .u32 (U x), .int .i64 (-2)] w fun e w' => e = .returned (.int .u32 (U (rr 2 30 x))) ∧ w = w' := by
  have h1 : U x * (1073741824 : Int) % (4294967296 : Int) = U (x <<< 30) := U_shl 30 x 30 rfl
  have h2 : U x / (4 : Int) = U (x >>> 2) := U_shr 2 x 2 rfl
  have h3 := U_or
  have h0 := U_nonneg
  have hb : bits .and .u64 (IntKind.u64.wrap (-2)) 31 = 30 := by decide
  go_enter Tryd.func118, Tryd.ntmps118
  go_wp2
  go_ret
  exact ⟨by rw [or_comm32]; rfl, rfl⟩
theorem rotr_2 (x : UInt32) (w : World) : Calls Tryd.prog 112 #[.int .u32 (U x), .int .i64 2] w fun e w' => e = .returned (.int .u32 (U (rr 2 30 x))) ∧ w = w' := by
  go_enter Tryd.func112, Tryd.ntmps112
  go_wp2_with (go_at_call 118; refine (rotl_2 _ _).mono ?_; rintro e w' ⟨rfl, rfl⟩)
  go_ret
  exact ⟨rfl, rfl⟩
theorem rrotr_2 (x : UInt32) (w : World) : Calls Tryd.prog 110 #[.int .u32 (U x), .int .i64 2] w fun e w' => e = .returned (.int .u32 (U (rr 2 30 x))) ∧ w = w' := by
  have h1 : U x * (1073741824 : Int) % (4294967296 : Int) = U (x <<< 30) := U_shl 30 x 30 rfl
  have h2 : U x / (4 : Int) = U (x >>> 2) := U_shr 2 x 2 rfl
  have h3 := U_or
  have h0 := U_nonneg
  go_enter Tryd.func110, Tryd.ntmps110
  go_wp2
  go_ret
  exact ⟨rfl, rfl⟩

theorem rotl_6 (x : UInt32) (w : World) : Calls Tryd.prog 118 #[.int .u32 (U x), .int .i64 (-6)] w fun e w' => e = .returned (.int .u32 (U (rr 6 26 x))) ∧ w = w' := by
  have h1 : U x * (67108864 : Int) % (4294967296 : Int) = U (x <<< 26) := U_shl 26 x 26 rfl
  have h2 : U x / (64 : Int) = U (x >>> 6) := U_shr 6 x 6 rfl
  have h3 := U_or
  have h0 := U_nonneg
  have hb : bits .and .u64 (IntKind.u64.wrap (-6)) 31 = 26 := by decide
  go_enter Tryd.func118, Tryd.ntmps118
  go_wp2
  go_ret
  exact ⟨by rw [or_comm32]; rfl, rfl⟩
theorem rotr_6 (x : UInt32) (w : World) : Calls Tryd.prog 112 #[.int .u32 (U x), .int .i64 6] w fun e w' => e = .returned (.int .u32 (U (rr 6 26 x))) ∧ w = w' := by
  go_enter Tryd.func112, Tryd.ntmps112
  go_wp2_with (go_at_call 118; refine (rotl_6 _ _).mono ?_; rintro e w' ⟨rfl, rfl⟩)
  go_ret
  exact ⟨rfl, rfl⟩
theorem rrotr_6 (x : UInt32) (w : World) : Calls Tryd.prog 110 #[.int .u32 (U x), .int .i64 6] w fun e w' => e = .returned (.int .u32 (U (rr 6 26 x))) ∧ w = w' := by
  have h1 : U x * (67108864 : Int) % (4294967296 : Int) = U (x <<< 26) := U_shl 26 x 26 rfl
  have h2 : U x / (64 : Int) = U (x >>> 6) := U_shr 6 x 6 rfl
  have h3 := U_or
  have h0 := U_nonneg
  go_enter Tryd.func110, Tryd.ntmps110
  go_wp2
  go_ret
  exact ⟨rfl, rfl⟩

theorem rotl_7 (x : UInt32) (w : World) : Calls Tryd.prog 118 #[.int .u32 (U x), .int .i64 (-7)] w fun e w' => e = .returned (.int .u32 (U (rr 7 25 x))) ∧ w = w' := by
  have h1 : U x * (33554432 : Int) % (4294967296 : Int) = U (x <<< 25) := U_shl 25 x 25 rfl
  have h2 : U x / (128 : Int) = U (x >>> 7) := U_shr 7 x 7 rfl
  have h3 := U_or
  have h0 := U_nonneg
  have hb : bits .and .u64 (IntKind.u64.wrap (-7)) 31 = 25 := by decide
  go_enter Tryd.func118, Tryd.ntmps118
  go_wp2
  go_ret
  exact ⟨by rw [or_comm32]; rfl, rfl⟩
theorem rotr_7 (x : UInt32) (w : World) : Calls Tryd.prog 112 #[.int .u32 (U x), .int .i64 7] w fun e w' => e = .returned (.int .u32 (U (rr 7 25 x))) ∧ w = w' := by
  go_enter Tryd.func112, Tryd.ntmps112
  go_wp2_with (go_at_call 118; refine (rotl_7 _ _).mono ?_; rintro e w' ⟨rfl, rfl⟩)
  go_ret
  exact ⟨rfl, rfl⟩
theorem rrotr_7 (x : UInt32) (w : World) : Calls Tryd.prog 110 #[.int .u32 (U x), .int .i64 7] w fun e w' => e = .returned (.int .u32 (U (rr 7 25 x))) ∧ w = w' := by
  have h1 : U x * (33554432 : Int) % (4294967296 : Int) = U (x <<< 25) := U_shl 25 x 25 rfl
  have h2 : U x / (128 : Int) = U (x >>> 7) := U_shr 7 x 7 rfl
  have h3 := U_or
  have h0 := U_nonneg
  go_enter Tryd.func110, Tryd.ntmps110
  go_wp2
  go_ret
  exact ⟨rfl, rfl⟩

theorem rotl_11 (x : UInt32) (w : World) : Calls Tryd.prog 118 #[.int .u32 (U x), .int .i64 (-11)] w fun e w' => e = .returned (.int .u32 (U (rr 11 21 x))) ∧ w = w' := by
  have h1 : U x * (2097152 : Int) % (4294967296 : Int) = U (x <<< 21) := U_shl 21 x 21 rfl
  have h2 : U x / (2048 : Int) = U (x >>> 11) := U_shr 11 x 11 rfl
  have h3 := U_or
  have h0 := U_nonneg
  have hb : bits .and .u64 (IntKind.u64.wrap (-11)) 31 = 21 := by decide
  go_enter Tryd.func118, Tryd.ntmps118
  go_wp2
  go_ret
  exact ⟨by rw [or_comm32]; rfl, rfl⟩
theorem rotr_11 (x : UInt32) (w : World) : Calls Tryd.prog 112 #[.int .u32 (U x), .int .i64 11] w fun e w' => e = .returned (.int .u32 (U (rr 11 21 x))) ∧ w = w' := by
  go_enter Tryd.func112, Tryd.ntmps112
  go_wp2_with (go_at_call 118; refine (rotl_11 _ _).mono ?_; rintro e w' ⟨rfl, rfl⟩)
  go_ret
  exact ⟨rfl, rfl⟩
theorem rrotr_11 (x : UInt32) (w : World) : Calls Tryd.prog 110 #[.int .u32 (U x), .int .i64 11] w fun e w' => e = .returned (.int .u32 (U (rr 11 21 x))) ∧ w = w' := by
  have h1 : U x * (2097152 : Int) % (4294967296 : Int) = U (x <<< 21) := U_shl 21 x 21 rfl
  have h2 : U x / (2048 : Int) = U (x >>> 11) := U_shr 11 x 11 rfl
  have h3 := U_or
  have h0 := U_nonneg
  go_enter Tryd.func110, Tryd.ntmps110
  go_wp2
  go_ret
  exact ⟨rfl, rfl⟩

theorem rotl_13 (x : UInt32) (w : World) : Calls Tryd.prog 118 #[.int .u32 (U x), .int .i64 (-13)] w fun e w' => e = .returned (.int .u32 (U (rr 13 19 x))) ∧ w = w' := by
  have h1 : U x * (524288 : Int) % (4294967296 : Int) = U (x <<< 19) := U_shl 19 x 19 rfl
  have h2 : U x / (8192 : Int) = U (x >>> 13) := U_shr 13 x 13 rfl
  have h3 := U_or
  have h0 := U_nonneg
  have hb : bits .and .u64 (IntKind.u64.wrap (-13)) 31 = 19 := by decide
  go_enter Tryd.func118, Tryd.ntmps118
  go_wp2
  go_ret
  exact ⟨by rw [or_comm32]; rfl, rfl⟩
theorem rotr_13 (x : UInt32) (w : World) : Calls Tryd.prog 112 #[.int .u32 (U x), .int .i64 13] w fun e w' => e = .returned (.int .u32 (U (rr 13 19 x))) ∧ w = w' := by
  go_enter Tryd.func112, Tryd.ntmps112
  go_wp2_with (go_at_call 118; refine (rotl_13 _ _).mono ?_; rintro e w' ⟨rfl, rfl⟩)
  go_ret
  exact ⟨rfl, rfl⟩
theorem rrotr_13 (x : UInt32) (w : World) : Calls Tryd.prog 110 #[.int .u32 (U x), .int .i64 13] w fun e w' => e = .returned (.int .u32 (U (rr 13 19 x))) ∧ w = w' := by
  have h1 : U x * (524288 : Int) % (4294967296 : Int) = U (x <<< 19) := U_shl 19 x 19 rfl
  have h2 : U x / (8192 : Int) = U (x >>> 13) := U_shr 13 x 13 rfl
  have h3 := U_or
  have h0 := U_nonneg
  go_enter Tryd.func110, Tryd.ntmps110
  go_wp2
  go_ret
  exact ⟨rfl, rfl⟩

theorem rotl_17 (x : UInt32) (w : World) : Calls Tryd.prog 118 #[.int .u32 (U x), .int .i64 (-17)] w fun e w' => e = .returned (.int .u32 (U (rr 17 15 x))) ∧ w = w' := by
  have h1 : U x * (32768 : Int) % (4294967296 : Int) = U (x <<< 15) := U_shl 15 x 15 rfl
  have h2 : U x / (131072 : Int) = U (x >>> 17) := U_shr 17 x 17 rfl
  have h3 := U_or
  have h0 := U_nonneg
  have hb : bits .and .u64 (IntKind.u64.wrap (-17)) 31 = 15 := by decide
  go_enter Tryd.func118, Tryd.ntmps118
  go_wp2
  go_ret
  exact ⟨by rw [or_comm32]; rfl, rfl⟩
theorem rotr_17 (x : UInt32) (w : World) : Calls Tryd.prog 112 #[.int .u32 (U x), .int .i64 17] w fun e w' => e = .returned (.int .u32 (U (rr 17 15 x))) ∧ w = w' := by
  go_enter Tryd.func112, Tryd.ntmps112
  go_wp2_with (go_at_call 118; refine (rotl_17 _ _).mono ?_; rintro e w' ⟨rfl, rfl⟩)
  go_ret
  exact ⟨rfl, rfl⟩
theorem rrotr_17 (x : UInt32) (w : World) : Calls Tryd.prog 110 #[.int .u32 (U x), .int .i64 17] w fun e w' => e = .returned (.int .u32 (U (rr 17 15 x))) ∧ w = w' := by
  have h1 : U x * (32768 : Int) % (4294967296 : Int) = U (x <<< 15) := U_shl 15 x 15 rfl
  have h2 : U x / (131072 : Int) = U (x >>> 17) := U_shr 17 x 17 rfl
  have h3 := U_or
  have h0 := U_nonneg
  go_enter Tryd.func110, Tryd.ntmps110
  go_wp2
  go_ret
  exact ⟨rfl, rfl⟩

theorem rotl_18 (x : UInt32) (w : World) : Calls Tryd.prog 118 #[.int .u32 (U x), .int .i64 (-18)] w fun e w' => e = .returned (.int .u32 (U (rr 18 14 x))) ∧ w = w' := by
  have h1 : U x * (16384 : Int) % (4294967296 : Int) = U (x <<< 14) := U_shl 14 x 14 rfl
  have h2 : U x / (262144 : Int) = U (x >>> 18) := U_shr 18 x 18 rfl
  have h3 := U_or
  have h0 := U_nonneg
  have hb : bits .and .u64 (IntKind.u64.wrap (-18)) 31 = 14 := by decide
  go_enter Tryd.func118, Tryd.ntmps118
  go_wp2
  go_ret
  exact ⟨by rw [or_comm32]; rfl, rfl⟩
theorem rotr_18 (x : UInt32) (w : World) : Calls Tryd.prog 112 #[.int .u32 (U x), .int .i64 18] w fun e w' => e = .returned (.int .u32 (U (rr 18 14 x))) ∧ w = w' := by
  go_enter Tryd.func112, Tryd.ntmps112
  go_wp2_with (go_at_call 118; refine (rotl_18 _ _).mono ?_; rintro e w' ⟨rfl, rfl⟩)
  go_ret
  exact ⟨rfl, rfl⟩
theorem rrotr_18 (x : UInt32) (w : World) : Calls Tryd.prog 110 #[.int .u32 (U x), .int .i64 18] w fun e w' => e = .returned (.int .u32 (U (rr 18 14 x))) ∧ w = w' := by
  have h1 : U x * (16384 : Int) % (4294967296 : Int) = U (x <<< 14) := U_shl 14 x 14 rfl
  have h2 : U x / (262144 : Int) = U (x >>> 18) := U_shr 18 x 18 rfl
  have h3 := U_or
  have h0 := U_nonneg
  go_enter Tryd.func110, Tryd.ntmps110
  go_wp2
  go_ret
  exact ⟨rfl, rfl⟩

theorem rotl_19 (x : UInt32) (w : World) : Calls Tryd.prog 118 #[.int .u32 (U x), .int .i64 (-19)] w fun e w' => e = .returned (.int .u32 (U (rr 19 13 x))) ∧ w = w' := by
  have h1 : U x * (8192 : Int) % (4294967296 : Int) = U (x <<< 13) := U_shl 13 x 13 rfl
  have h2 : U x / (524288 : Int) = U (x >>> 19) := U_shr 19 x 19 rfl
  have h3 := U_or
  have h0 := U_nonneg
  have hb : bits .and .u64 (IntKind.u64.wrap (-19)) 31 = 13 := by decide
  go_enter Tryd.func118, Tryd.ntmps118
  go_wp2
  go_ret
  exact ⟨by rw [or_comm32]; rfl, rfl⟩
theorem rotr_19 (x : UInt32) (w : World) : Calls Tryd.prog 112 #[.int .u32 (U x), .int .i64 19] w fun e w' => e = .returned (.int .u32 (U (rr 19 13 x))) ∧ w = w' := by
  go_enter Tryd.func112, Tryd.ntmps112
  go_wp2_with (go_at_call 118; refine (rotl_19 _ _).mono ?_; rintro e w' ⟨rfl, rfl⟩)
  go_ret
  exact ⟨rfl, rfl⟩
theorem rrotr_19 (x : UInt32) (w : World) : Calls Tryd.prog 110 #[.int .u32 (U x), .int .i64 19] w fun e w' => e = .returned (.int .u32 (U (rr 19 13 x))) ∧ w = w' := by
  have h1 : U x * (8192 : Int) % (4294967296 : Int) = U (x <<< 13) := U_shl 13 x 13 rfl
  have h2 : U x / (524288 : Int) = U (x >>> 19) := U_shr 19 x 19 rfl
  have h3 := U_or
  have h0 := U_nonneg
  go_enter Tryd.func110, Tryd.ntmps110
  go_wp2
  go_ret
  exact ⟨rfl, rfl⟩

theorem rotl_22 (x : UInt32) (w : World) : Calls Tryd.prog 118 #[.int .u32 (U x), .int .i64 (-22)] w fun e w' => e = .returned (.int .u32 (U (rr 22 10 x))) ∧ w = w' := by
  have h1 : U x * (1024 : Int) % (4294967296 : Int) = U (x <<< 10) := U_shl 10 x 10 rfl
  have h2 : U x / (4194304 : Int) = U (x >>> 22) := U_shr 22 x 22 rfl
  have h3 := U_or
  have h0 := U_nonneg
  have hb : bits .and .u64 (IntKind.u64.wrap (-22)) 31 = 10 := by decide
  go_enter Tryd.func118, Tryd.ntmps118
  go_wp2
  go_ret
  exact ⟨by rw [or_comm32]; rfl, rfl⟩
theorem rotr_22 (x : UInt32) (w : World) : Calls Tryd.prog 112 #[.int .u32 (U x), .int .i64 22] w fun e w' => e = .returned (.int .u32 (U (rr 22 10 x))) ∧ w = w' := by
  go_enter Tryd.func112, Tryd.ntmps112
  go_wp2_with (go_at_call 118; refine (rotl_22 _ _).mono ?_; rintro e w' ⟨rfl, rfl⟩)
  go_ret
  exact ⟨rfl, rfl⟩
theorem rrotr_22 (x : UInt32) (w : World) : Calls Tryd.prog 110 #[.int .u32 (U x), .int .i64 22] w fun e w' => e = .returned (.int .u32 (U (rr 22 10 x))) ∧ w = w' := by
  have h1 : U x * (1024 : Int) % (4294967296 : Int) = U (x <<< 10) := U_shl 10 x 10 rfl
  have h2 : U x / (4194304 : Int) = U (x >>> 22) := U_shr 22 x 22 rfl
  have h3 := U_or
  have h0 := U_nonneg
  go_enter Tryd.func110, Tryd.ntmps110
  go_wp2
  go_ret
  exact ⟨rfl, rfl⟩

theorem rotl_25 (x : UInt32) (w : World) : Calls Tryd.prog 118 #[.int .u32 (U x), .int .i64 (-25)] w fun e w' => e = .returned (.int .u32 (U (rr 25 7 x))) ∧ w = w' := by
  have h1 : U x * (128 : Int) % (4294967296 : Int) = U (x <<< 7) := U_shl 7 x 7 rfl
  have h2 : U x / (33554432 : Int) = U (x >>> 25) := U_shr 25 x 25 rfl
  have h3 := U_or
  have h0 := U_nonneg
  have hb : bits .and .u64 (IntKind.u64.wrap (-25)) 31 = 7 := by decide
  go_enter Tryd.func118, Tryd.ntmps118
  go_wp2
  go_ret
  exact ⟨by rw [or_comm32]; rfl, rfl⟩
theorem rotr_25 (x : UInt32) (w : World) : Calls Tryd.prog 112 #[.int .u32 (U x), .int .i64 25] w fun e w' => e = .returned (.int .u32 (U (rr 25 7 x))) ∧ w = w' := by
  go_enter Tryd.func112, Tryd.ntmps112
  go_wp2_with (go_at_call 118; refine (rotl_25 _ _).mono ?_; rintro e w' ⟨rfl, rfl⟩)
  go_ret
  exact ⟨rfl, rfl⟩
theorem rrotr_25 (x : UInt32) (w : World) : Calls Tryd.prog 110 #[.int .u32 (U x), .int .i64 25] w fun e w' => e = .returned (.int .u32 (U (rr 25 7 x))) ∧ w = w' := by
  have h1 : U x * (128 : Int) % (4294967296 : Int) = U (x <<< 7) := U_shl 7 x 7 rfl
  have h2 : U x / (33554432 : Int) = U (x >>> 25) := U_shr 25 x 25 rfl
  have h3 := U_or
  have h0 := U_nonneg
  go_enter Tryd.func110, Tryd.ntmps110
  go_wp2
  go_ret
  exact ⟨rfl, rfl⟩


/-- x turned by n -/
def rot (n : Int) (x : UInt32) : UInt32 := rr (UInt32.ofNat n.toNat) (UInt32.ofNat (32 - n.toNat)) x
theorem rotr_any (n : Int) (x : UInt32) (w : World) (h : n ∈ [2, 6, 7, 11, 13, 17, 18, 19, 22, 25]) : Calls Tryd.prog 112 #[.int .u32 (U x), .int .i64 n] w fun e w' => e = .returned (.int .u32 (U (rot n x))) ∧ w = w' := by
  simp only [List.mem_cons, List.not_mem_nil, or_false] at h
  rcases h with rfl | rfl | rfl | rfl | rfl | rfl | rfl | rfl | rfl | rfl
  · exact rotr_2 x w
  · exact rotr_6 x w
  · exact rotr_7 x w
  · exact rotr_11 x w
  · exact rotr_13 x w
  · exact rotr_17 x w
  · exact rotr_18 x w
  · exact rotr_19 x w
  · exact rotr_22 x w
  · exact rotr_25 x w
theorem rrotr_any (n : Int) (x : UInt32) (w : World) (h : n ∈ [2, 6, 7, 11, 13, 17, 18, 19, 22, 25]) : Calls Tryd.prog 110 #[.int .u32 (U x), .int .i64 n] w fun e w' => e = .returned (.int .u32 (U (rot n x))) ∧ w = w' := by
  simp only [List.mem_cons, List.not_mem_nil, or_false] at h
  rcases h with rfl | rfl | rfl | rfl | rfl | rfl | rfl | rfl | rfl | rfl
  · exact rrotr_2 x w
  · exact rrotr_6 x w
  · exact rrotr_7 x w
  · exact rrotr_11 x w
  · exact rrotr_13 x w
  · exact rrotr_17 x w
  · exact rrotr_18 x w
  · exact rrotr_19 x w
  · exact rrotr_22 x w
  · exact rrotr_25 x w
end Go.Proofs.YtmaolmogccknbaaDoor.sha
