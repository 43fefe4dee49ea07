/-
  Contracts of the turns of a word: math/bits.RotateLeft32, sha.rotr, petrelref02.rotr.
-/
import Derived.Test.YtjpbhnflhejbpaaDoorSha
namespace Go.Proofs.YtjpbhnflhejbpaaDoor.sha
open Go.RowKit

theorem rotl_2 (x : UInt32) (w : World) : Calls Tryd.prog 25 #[.int .u32 (U x), .int .i64 (-2)] w fun e w' => e = .returned (.int .u32 (U (rr 2 30 x))) ∧ w = w' := by
  have h1 : U x * (1073741824 : Int) % (4294967296 : Int) = U (x <<< 30) := U_shl 30 x 30 rfl
  have h2 : U x / (4 : Int) = U (x >>> 2) := U_shr 2 x 2 rfl
  have h3 := U_or
  have h0 := U_nonneg
  have hb : bits .and .u64 (IntKind.u64.wrap (-2)) 31 = 30 := by decide
  go_enter Tryd.func25, Tryd.ntmps25
  go_wp2
  go_ret
  exact ⟨by rw [or_comm32]; rfl, rfl⟩
theorem rotr_2 (x : UInt32) (w : World) : Calls Tryd.prog 24 #[.int .u32 (U x), .int .i64 2] w fun e w' => e = .returned (.int .u32 (U (rr 2 30 x))) ∧ w = w' := by
  go_enter Tryd.func24, Tryd.ntmps24
  go_wp2_with (go_at_call 25; refine (rotl_2 _ _).mono ?_; rintro e w' ⟨rfl, rfl⟩)
  go_ret
  exact ⟨rfl, rfl⟩
theorem rrotr_2 (x : UInt32) (w : World) : Calls Tryd.prog 23 #[.int .u32 (U x), .int .i64 2] w fun e w' => e = .returned (.int .u32 (U (rr 2 30 x))) ∧ w = w' := by
  have h1 : U x * (1073741824 : Int) % (4294967296 : Int) = U (x <<< 30) := U_shl 30 x 30 rfl
  have h2 : U x / (4 : Int) = U (x >>> 2) := U_shr 2 x 2 rfl
  have h3 := U_or
  have h0 := U_nonneg
  go_enter Tryd.func23, Tryd.ntmps23
  go_wp2
  go_ret
  exact ⟨rfl, rfl⟩

theorem rotl_6 (x : UInt32) (w : World) : Calls Tryd.prog 25 #[.int .u32 (U x), .int .i64 (-6)] w fun e w' => e = .returned (.int .u32 (U (rr 6 26 x))) ∧ w = w' := by
  have h1 : U x * (67108864 : Int) % (4294967296 : Int) = U (x <<< 26) := U_shl 26 x 26 rfl
  have h2 : U x / (64 : Int) = U (x >>> 6) := U_shr 6 x 6 rfl
  have h3 := U_or
  have h0 := U_nonneg
  have hb : bits .and .u64 (IntKind.u64.wrap (-6)) 31 = 26 := by decide
  go_enter Tryd.func25, Tryd.ntmps25
  go_wp2
  go_ret
  exact ⟨by rw [or_comm32]; rfl, rfl⟩
theorem rotr_6 (x : UInt32) (w : World) : Calls Tryd.prog 24 #[.int .u32 (U x), .int .i64 6] w fun e w' => e = .returned (.int .u32 (U (rr 6 26 x))) ∧ w = w' := by
  go_enter Tryd.func24, Tryd.ntmps24
  go_wp2_with (go_at_call 25; refine (rotl_6 _ _).mono ?_; rintro e w' ⟨rfl, rfl⟩)
  go_ret
  exact ⟨rfl, rfl⟩
theorem rrotr_6 (x : UInt32) (w : World) : Calls Tryd.prog 23 #[.int .u32 (U x), .int .i64 6] w fun e w' => e = .returned (.int .u32 (U (rr 6 26 x))) ∧ w = w' := by
  have h1 : U x * (67108864 : Int) % (4294967296 : Int) = U (x <<< 26) := U_shl 26 x 26 rfl
  have h2 : U x / (64 : Int) = U (x >>> 6) := U_shr 6 x 6 rfl
  have h3 := U_or
  have h0 := U_nonneg
  go_enter Tryd.func23, Tryd.ntmps23
  go_wp2
  go_ret
  exact ⟨rfl, rfl⟩

theorem rotl_7 (x : UInt32) (w : World) : Calls Tryd.prog 25 #[.int .u32 (U x), .int .i64 (-7)] w fun e w' => e = .returned (.int .u32 (U (rr 7 25 x))) ∧ w = w' := by
  have h1 : U x * (33554432 : Int) % (4294967296 : Int) = U (x <<< 25) := U_shl 25 x 25 rfl
  have h2 : U x / (128 : Int) = U (x >>> 7) := U_shr 7 x 7 rfl
  have h3 := U_or
  have h0 := U_nonneg
  have hb : bits .and .u64 (IntKind.u64.wrap (-7)) 31 = 25 := by decide
  go_enter Tryd.func25, Tryd.ntmps25
  go_wp2
  go_ret
  exact ⟨by rw [or_comm32]; rfl, rfl⟩
theorem rotr_7 (x : UInt32) (w : World) : Calls Tryd.prog 24 #[.int .u32 (U x), .int .i64 7] w fun e w' => e = .returned (.int .u32 (U (rr 7 25 x))) ∧ w = w' := by
  go_enter Tryd.func24, Tryd.ntmps24
  go_wp2_with (go_at_call 25; refine (rotl_7 _ _).mono ?_; rintro e w' ⟨rfl, rfl⟩)
  go_ret
  exact ⟨rfl, rfl⟩
theorem rrotr_7 (x : UInt32) (w : World) : Calls Tryd.prog 23 #[.int .u32 (U x), .int .i64 7] w fun e w' => e = .returned (.int .u32 (U (rr 7 25 x))) ∧ w = w' := by
  have h1 : U x * (33554432 : Int) % (4294967296 : Int) = U (x <<< 25) := U_shl 25 x 25 rfl
  have h2 : U x / (128 : Int) = U (x >>> 7) := U_shr 7 x 7 rfl
  have h3 := U_or
  have h0 := U_nonneg
  go_enter Tryd.func23, Tryd.ntmps23
  go_wp2
  go_ret
  exact ⟨rfl, rfl⟩

theorem rotl_11 (x : UInt32) (w : World) : Calls Tryd.prog 25 #[.int .u32 (U x), .int .i64 (-11)] w fun e w' => e = .returned (.int .u32 (U (rr 11 21 x))) ∧ w = w' := by
  have h1 : U x * (2097152 : Int) % (4294967296 : Int) = U (x <<< 21) := U_shl 21 x 21 rfl
  have h2 : U x / (2048 : Int) = U (x >>> 11) := U_shr 11 x 11 rfl
  have h3 := U_or
  have h0 := U_nonneg
  have hb : bits .and .u64 (IntKind.u64.wrap (-11)) 31 = 21 := by decide
  go_enter Tryd.func25, Tryd.ntmps25
  go_wp2
  go_ret
  exact ⟨by rw [or_comm32]; rfl, rfl⟩
theorem rotr_11 (x : UInt32) (w : World) : Calls Tryd.prog 24 #[.int .u32 (U x), .int .i64 11] w fun e w' => e = .returned (.int .u32 (U (rr 11 21 x))) ∧ w = w' := by
  go_enter Tryd.func24, Tryd.ntmps24
  go_wp2_with (go_at_call 25; refine (rotl_11 _ _).mono ?_; rintro e w' ⟨rfl, rfl⟩)
  go_ret
  exact ⟨rfl, rfl⟩
theorem rrotr_11 (x : UInt32) (w : World) : Calls Tryd.prog 23 #[.int .u32 (U x), .int .i64 11] w fun e w' => e = .returned (.int .u32 (U (rr 11 21 x))) ∧ w = w' := by
  have h1 : U x * (2097152 : Int) % (4294967296 : Int) = U (x <<< 21) := U_shl 21 x 21 rfl
  have h2 : U x / (2048 : Int) = U (x >>> 11) := U_shr 11 x 11 rfl
  have h3 := U_or
  have h0 := U_nonneg
  go_enter Tryd.func23, Tryd.ntmps23
  go_wp2
  go_ret
  exact ⟨rfl, rfl⟩

theorem rotl_13 (x : UInt32) (w : World) : Calls Tryd.prog 25 #[.int .u32 (U x), .int .i64 (-13)] w fun e w' => e = .returned (.int .u32 (U (rr 13 19 x))) ∧ w = w' := by
  have h1 : U x * (524288 : Int) % (4294967296 : Int) = U (x <<< 19) := U_shl 19 x 19 rfl
  have h2 : U x / (8192 : Int) = U (x >>> 13) := U_shr 13 x 13 rfl
  have h3 := U_or
  have h0 := U_nonneg
  have hb : bits .and .u64 (IntKind.u64.wrap (-13)) 31 = 19 := by decide
  go_enter Tryd.func25, Tryd.ntmps25
  go_wp2
  go_ret
  exact ⟨by rw [or_comm32]; rfl, rfl⟩
theorem rotr_13 (x : UInt32) (w : World) : Calls Tryd.prog 24 #[.int .u32 (U x), .int .i64 13] w fun e w' => e = .returned (.int .u32 (U (rr 13 19 x))) ∧ w = w' := by
  go_enter Tryd.func24, Tryd.ntmps24
  go_wp2_with (go_at_call 25; refine (rotl_13 _ _).mono ?_; rintro e w' ⟨rfl, rfl⟩)
  go_ret
  exact ⟨rfl, rfl⟩
theorem rrotr_13 (x : UInt32) (w : World) : Calls Tryd.prog 23 #[.int .u32 (U x), .int .i64 13] w fun e w' => e = .returned (.int .u32 (U (rr 13 19 x))) ∧ w = w' := by
  have h1 : U x * (524288 : Int) % (4294967296 : Int) = U (x <<< 19) := U_shl 19 x 19 rfl
  have h2 : U x / (8192 : Int) = U (x >>> 13) := U_shr 13 x 13 rfl
  have h3 := U_or
  have h0 := U_nonneg
  go_enter Tryd.func23, Tryd.ntmps23
  go_wp2
  go_ret
  exact ⟨rfl, rfl⟩

theorem rotl_17 (x : UInt32) (w : World) : Calls Tryd.prog 25 #[.int .u32 (U x), .int .i64 (-17)] w fun e w' => e = .returned (.int .u32 (U (rr 17 15 x))) ∧ w = w' := by
  have h1 : U x * (32768 : Int) % (4294967296 : Int) = U (x <<< 15) := U_shl 15 x 15 rfl
  have h2 : U x / (131072 : Int) = U (x >>> 17) := U_shr 17 x 17 rfl
  have h3 := U_or
  have h0 := U_nonneg
  have hb : bits .and .u64 (IntKind.u64.wrap (-17)) 31 = 15 := by decide
  go_enter Tryd.func25, Tryd.ntmps25
  go_wp2
  go_ret
  exact ⟨by rw [or_comm32]; rfl, rfl⟩
theorem rotr_17 (x : UInt32) (w : World) : Calls Tryd.prog 24 #[.int .u32 (U x), .int .i64 17] w fun e w' => e = .returned (.int .u32 (U (rr 17 15 x))) ∧ w = w' := by
  go_enter Tryd.func24, Tryd.ntmps24
  go_wp2_with (go_at_call 25; refine (rotl_17 _ _).mono ?_; rintro e w' ⟨rfl, rfl⟩)
  go_ret
  exact ⟨rfl, rfl⟩
theorem rrotr_17 (x : UInt32) (w : World) : Calls Tryd.prog 23 #[.int .u32 (U x), .int .i64 17] w fun e w' => e = .returned (.int .u32 (U (rr 17 15 x))) ∧ w = w' := by
  have h1 : U x * (32768 : Int) % (4294967296 : Int) = U (x <<< 15) := U_shl 15 x 15 rfl
  have h2 : U x / (131072 : Int) = U (x >>> 17) := U_shr 17 x 17 rfl
  have h3 := U_or
  have h0 := U_nonneg
  go_enter Tryd.func23, Tryd.ntmps23
  go_wp2
  go_ret
  exact ⟨rfl, rfl⟩

theorem rotl_18 (x : UInt32) (w : World) : Calls Tryd.prog 25 #[.int .u32 (U x), .int .i64 (-18)] w fun e w' => e = .returned (.int .u32 (U (rr 18 14 x))) ∧ w = w' := by
  have h1 : U x * (16384 : Int) % (4294967296 : Int) = U (x <<< 14) := U_shl 14 x 14 rfl
  have h2 : U x / (262144 : Int) = U (x >>> 18) := U_shr 18 x 18 rfl
  have h3 := U_or
  have h0 := U_nonneg
  have hb : bits .and .u64 (IntKind.u64.wrap (-18)) 31 = 14 := by decide
  go_enter Tryd.func25, Tryd.ntmps25
  go_wp2
  go_ret
  exact ⟨by rw [or_comm32]; rfl, rfl⟩
theorem rotr_18 (x : UInt32) (w : World) : Calls Tryd.prog 24 #[.int .u32 (U x), .int .i64 18] w fun e w' => e = .returned (.int .u32 (U (rr 18 14 x))) ∧ w = w' := by
  go_enter Tryd.func24, Tryd.ntmps24
  go_wp2_with (go_at_call 25; refine (rotl_18 _ _).mono ?_; rintro e w' ⟨rfl, rfl⟩)
  go_ret
  exact ⟨rfl, rfl⟩
theorem rrotr_18 (x : UInt32) (w : World) : Calls Tryd.prog 23 #[.int .u32 (U x), .int .i64 18] w fun e w' => e = .returned (.int .u32 (U (rr 18 14 x))) ∧ w = w' := by
  have h1 : U x * (16384 : Int) % (4294967296 : Int) = U (x <<< 14) := U_shl 14 x 14 rfl
  have h2 : U x / (262144 : Int) = U (x >>> 18) := U_shr 18 x 18 rfl
  have h3 := U_or
  have h0 := U_nonneg
  go_enter Tryd.func23, Tryd.ntmps23
  go_wp2
  go_ret
  exact ⟨rfl, rfl⟩

theorem rotl_19 (x : UInt32) (w : World) : Calls Tryd.prog 25 #[.int .u32 (U x), .int .i64 (-19)] w fun e w' => e = .returned (.int .u32 (U (rr 19 13 x))) ∧ w = w' := by
  have h1 : U x * (8192 : Int) % (4294967296 : Int) = U (x <<< 13) := U_shl 13 x 13 rfl
  have h2 : U x / (524288 : Int) = U (x >>> 19) := U_shr 19 x 19 rfl
  have h3 := U_or
  have h0 := U_nonneg
  have hb : bits .and .u64 (IntKind.u64.wrap (-19)) 31 = 13 := by decide
  go_enter Tryd.func25, Tryd.ntmps25
  go_wp2
  go_ret
  exact ⟨by rw [or_comm32]; rfl, rfl⟩
theorem rotr_19 (x : UInt32) (w : World) : Calls Tryd.prog 24 #[.int .u32 (U x), .int .i64 19] w fun e w' => e = .returned (.int .u32 (U (rr 19 13 x))) ∧ w = w' := by
  go_enter Tryd.func24, Tryd.ntmps24
  go_wp2_with (go_at_call 25; refine (rotl_19 _ _).mono ?_; rintro e w' ⟨rfl, rfl⟩)
  go_ret
  exact ⟨rfl, rfl⟩
theorem rrotr_19 (x : UInt32) (w : World) : Calls Tryd.prog 23 #[.int .u32 (U x), .int .i64 19] w fun e w' => e = .returned (.int .u32 (U (rr 19 13 x))) ∧ w = w' := by
  have h1 : U x * (8192 : Int) % (4294967296 : Int) = U (x <<< 13) := U_shl 13 x 13 rfl
  have h2 : U x / (524288 : Int) = U (x >>> 19) := U_shr 19 x 19 rfl
  have h3 := U_or
  have h0 := U_nonneg
  go_enter Tryd.func23, Tryd.ntmps23
  go_wp2
  go_ret
  exact ⟨rfl, rfl⟩

theorem rotl_22 (x : UInt32) (w : World) : Calls Tryd.prog 25 #[.int .u32 (U x), .int .i64 (-22)] w fun e w' => e = .returned (.int .u32 (U (rr 22 10 x))) ∧ w = w' := by
  have h1 : U x * (1024 : Int) % (4294967296 : Int) = U (x <<< 10) := U_shl 10 x 10 rfl
  have h2 : U x / (4194304 : Int) = U (x >>> 22) := U_shr 22 x 22 rfl
  have h3 := U_or
  have h0 := U_nonneg
  have hb : bits .and .u64 (IntKind.u64.wrap (-22)) 31 = 10 := by decide
  go_enter Tryd.func25, Tryd.ntmps25
  go_wp2
  go_ret
  exact ⟨by rw [or_comm32]; rfl, rfl⟩
theorem rotr_22 (x : UInt32) (w : World) : Calls Tryd.prog 24 #[.int .u32 (U x), .int .i64 22] w fun e w' => e = .returned (.int .u32 (U (rr 22 10 x))) ∧ w = w' := by
  go_enter Tryd.func24, Tryd.ntmps24
  go_wp2_with (go_at_call 25; refine (rotl_22 _ _).mono ?_; rintro e w' ⟨rfl, rfl⟩)
  go_ret
  exact ⟨rfl, rfl⟩
theorem rrotr_22 (x : UInt32) (w : World) : Calls Tryd.prog 23 #[.int .u32 (U x), .int .i64 22] w fun e w' => e = .returned (.int .u32 (U (rr 22 10 x))) ∧ w = w' := by
  have h1 : U x * (1024 : Int) % (4294967296 : Int) = U (x <<< 10) := U_shl 10 x 10 rfl
  have h2 : U x / (4194304 : Int) = U (x >>> 22) := U_shr 22 x 22 rfl
  have h3 := U_or
  have h0 := U_nonneg
  go_enter Tryd.func23, Tryd.ntmps23
  go_wp2
  go_ret
  exact ⟨rfl, rfl⟩

theorem rotl_25 (x : UInt32) (w : World) : Calls Tryd.prog 25 #[.int .u32 (U x), .int .i64 (-25)] w fun e w' => e = .returned (.int .u32 (U (rr 25 7 x))) ∧ w = w' := by
  have h1 : U x * (128 : Int) % (4294967296 : Int) = U (x <<< 7) := U_shl 7 x 7 rfl
  have h2 : U x / (33554432 : Int) = U (x >>> 25) := U_shr 25 x 25 rfl
  have h3 := U_or
  have h0 := U_nonneg
  have hb : bits .and .u64 (IntKind.u64.wrap (-25)) 31 = 7 := by decide
  go_enter Tryd.func25, Tryd.ntmps25
  go_wp2
  go_ret
  exact ⟨by rw [or_comm32]; rfl, rfl⟩
theorem rotr_25 (x : UInt32) (w : World) : Calls Tryd.prog 24 #[.int .u32 (U x), .int .i64 25] w fun e w' => e = .returned (.int .u32 (U (rr 25 7 x))) ∧ w = w' := by
  go_enter Tryd.func24, Tryd.ntmps24
  go_wp2_with (go_at_call 25; refine (rotl_25 _ _).mono ?_; rintro e w' ⟨rfl, rfl⟩)
  go_ret
  exact ⟨rfl, rfl⟩
theorem rrotr_25 (x : UInt32) (w : World) : Calls Tryd.prog 23 #[.int .u32 (U x), .int .i64 25] w fun e w' => e = .returned (.int .u32 (U (rr 25 7 x))) ∧ w = w' := by
  have h1 : U x * (128 : Int) % (4294967296 : Int) = U (x <<< 7) := U_shl 7 x 7 rfl
  have h2 : U x / (33554432 : Int) = U (x >>> 25) := U_shr 25 x 25 rfl
  have h3 := U_or
  have h0 := U_nonneg
  go_enter Tryd.func23, Tryd.ntmps23
  go_wp2
  go_ret
  exact ⟨rfl, rfl⟩


/-- x turned by n -/
def rot (n : Int) (x : UInt32) : UInt32 := rr (UInt32.ofNat n.toNat) (UInt32.ofNat (32 - n.toNat)) x
theorem rotr_any (n : Int) (x : UInt32) (w : World) (h : n ∈ [2, 6, 7, 11, 13, 17, 18, 19, 22, 25]) : Calls Tryd.prog 24 #[.int .u32 (U x), .int .i64 n] w fun e w' => e = .returned (.int .u32 (U (rot n x))) ∧ w = w' := by
  simp only [List.mem_cons, List.not_mem_nil, or_false] at h
  rcases h with rfl | rfl | rfl | rfl | rfl | rfl | rfl | rfl | rfl | rfl
  · exact rotr_2 x w
  · exact rotr_6 x w
  · exact rotr_7 x w
  · exact rotr_11 x w
  · exact rotr_13 x w
  · exact rotr_17 x w
  · exact rotr_18 x w
  · exact rotr_19 x w
  · exact rotr_22 x w
  · exact rotr_25 x w
theorem rrotr_any (n : Int) (x : UInt32) (w : World) (h : n ∈ [2, 6, 7, 11, 13, 17, 18, 19, 22, 25]) : Calls Tryd.prog 23 #[.int .u32 (U x), .int .i64 n] w fun e w' => e = .returned (.int .u32 (U (rot n x))) ∧ w = w' := by
  simp only [List.mem_cons, List.not_mem_nil, or_false] at h
  rcases h with rfl | rfl | rfl | rfl | rfl | rfl | rfl | rfl | rfl | rfl
  · exact rrotr_2 x w
  · exact rrotr_6 x w
  · exact rrotr_7 x w
  · exact rrotr_11 x w
  · exact rrotr_13 x w
  · exact rrotr_17 x w
  · exact rrotr_18 x w
  · exact rrotr_19 x w
  · exact rrotr_22 x w
  · exact rrotr_25 x w
end Go.Proofs.YtjpbhnflhejbpaaDoor.sha
