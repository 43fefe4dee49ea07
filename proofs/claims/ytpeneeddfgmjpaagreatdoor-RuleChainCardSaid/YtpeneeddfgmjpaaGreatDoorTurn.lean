/-
  Contracts of the turns of a word: math/bits.RotateLeft32, sha.rotr, petrelref02.rotr.
  sha.spread: the 64 words of a block.
  sha.turn: 64 rounds, and the words added.
-/
import Derived.Test.YtpeneeddfgmjpaaGreatDoorIda
import Derived.Deep.WholeRow
import Derived.BigRegion
import Derived.Laws.CopyOwn
import Derived.Laws.CopyRow
import Derived.Deep.DeepCutAuto
import Derived.Deep.CutBlock
import Derived.Deep.CutRange
namespace Go.Proofs.YtpeneeddfgmjpaaGreatDoor.sha
open Go.RowKit

theorem rotl_2 (x : UInt32) (w : World) : Calls Tryz.prog 138 #[.int .u32 (U x), .int .i64 (-2)] w fun e w' => e = .returned (.int .u32 (U (rr 2 30 x))) ∧ w = w' := by
 have h1 : U x * (1073741824 : Int) % (4294967296 : Int) = U (x <<< 30) := U_shl 30 x 30 rfl
 have h2 : U x / (4 : Int) = U (x >>> 2) := U_shr 2 x 2 rfl
 have h3 := U_or
 have h0 := U_nonneg
 have hb : bits .and .u64 (IntKind.u64.wrap (-2)) 31 = 30 := by decide
 go_enter Tryz.func138, Tryz.ntmps138
 go_wp2
 go_ret
 exact ⟨by rw [or_comm32]; rfl, rfl⟩
theorem rotr_2 (x : UInt32) (w : World) : Calls Tryz.prog 132 #[.int .u32 (U x), .int .i64 2] w fun e w' => e = .returned (.int .u32 (U (rr 2 30 x))) ∧ w = w' := by
 go_enter Tryz.func132, Tryz.ntmps132
 go_wp2_with (go_at_call 138; refine (rotl_2 _ _).mono ?_; rintro e w' ⟨rfl, rfl⟩)
 go_ret
 exact ⟨rfl, rfl⟩
theorem rrotr_2 (x : UInt32) (w : World) : Calls Tryz.prog 100 #[.int .u32 (U x), .int .i64 2] w fun e w' => e = .returned (.int .u32 (U (rr 2 30 x))) ∧ w = w' := by
 have h1 : U x * (1073741824 : Int) % (4294967296 : Int) = U (x <<< 30) := U_shl 30 x 30 rfl
 have h2 : U x / (4 : Int) = U (x >>> 2) := U_shr 2 x 2 rfl
 have h3 := U_or
 have h0 := U_nonneg
 go_enter Tryz.func100, Tryz.ntmps100
 go_wp2
 go_ret
 exact ⟨rfl, rfl⟩

theorem rotl_6 (x : UInt32) (w : World) : Calls Tryz.prog 138 #[.int .u32 (U x), .int .i64 (-6)] w fun e w' => e = .returned (.int .u32 (U (rr 6 26 x))) ∧ w = w' := by
 have h1 : U x * (67108864 : Int) % (4294967296 : Int) = U (x <<< 26) := U_shl 26 x 26 rfl
 have h2 : U x / (64 : Int) = U (x >>> 6) := U_shr 6 x 6 rfl
 have h3 := U_or
 have h0 := U_nonneg
 have hb : bits .and .u64 (IntKind.u64.wrap (-6)) 31 = 26 := by decide
 go_enter Tryz.func138, Tryz.ntmps138
 go_wp2
 go_ret
 exact ⟨by rw [or_comm32]; rfl, rfl⟩
theorem rotr_6 (x : UInt32) (w : World) : Calls Tryz.prog 132 #[.int .u32 (U x), .int .i64 6] w fun e w' => e = .returned (.int .u32 (U (rr 6 26 x))) ∧ w = w' := by
 go_enter Tryz.func132, Tryz.ntmps132
 go_wp2_with (go_at_call 138; refine (rotl_6 _ _).mono ?_; rintro e w' ⟨rfl, rfl⟩)
 go_ret
 exact ⟨rfl, rfl⟩
theorem rrotr_6 (x : UInt32) (w : World) : Calls Tryz.prog 100 #[.int .u32 (U x), .int .i64 6] w fun e w' => e = .returned (.int .u32 (U (rr 6 26 x))) ∧ w = w' := by
 have h1 : U x * (67108864 : Int) % (4294967296 : Int) = U (x <<< 26) := U_shl 26 x 26 rfl
 have h2 : U x / (64 : Int) = U (x >>> 6) := U_shr 6 x 6 rfl
 have h3 := U_or
 have h0 := U_nonneg
 go_enter Tryz.func100, Tryz.ntmps100
 go_wp2
 go_ret
 exact ⟨rfl, rfl⟩

theorem rotl_7 (x : UInt32) (w : World) : Calls Tryz.prog 138 #[.int .u32 (U x), .int .i64 (-7)] w fun e w' => e = .returned (.int .u32 (U (rr 7 25 x))) ∧ w = w' := by
 have h1 : U x * (33554432 : Int) % (4294967296 : Int) = U (x <<< 25) := U_shl 25 x 25 rfl
 have h2 : U x / (128 : Int) = U (x >>> 7) := U_shr 7 x 7 rfl
 have h3 := U_or
 have h0 := U_nonneg
 have hb : bits .and .u64 (IntKind.u64.wrap (-7)) 31 = 25 := by decide
 go_enter Tryz.func138, Tryz.ntmps138
 go_wp2
 go_ret
 exact ⟨by rw [or_comm32]; rfl, rfl⟩
theorem rotr_7 (x : UInt32) (w : World) : Calls Tryz.prog 132 #[.int .u32 (U x), .int .i64 7] w fun e w' => e = .returned (.int .u32 (U (rr 7 25 x))) ∧ w = w' := by
 go_enter Tryz.func132, Tryz.ntmps132
 go_wp2_with (go_at_call 138; refine (rotl_7 _ _).mono ?_; rintro e w' ⟨rfl, rfl⟩)
 go_ret
 exact ⟨rfl, rfl⟩
theorem rrotr_7 (x : UInt32) (w : World) : Calls Tryz.prog 100 #[.int .u32 (U x), .int .i64 7] w fun e w' => e = .returned (.int .u32 (U (rr 7 25 x))) ∧ w = w' := by
 have h1 : U x * (33554432 : Int) % (4294967296 : Int) = U (x <<< 25) := U_shl 25 x 25 rfl
 have h2 : U x / (128 : Int) = U (x >>> 7) := U_shr 7 x 7 rfl
 have h3 := U_or
 have h0 := U_nonneg
 go_enter Tryz.func100, Tryz.ntmps100
 go_wp2
 go_ret
 exact ⟨rfl, rfl⟩

theorem rotl_11 (x : UInt32) (w : World) : Calls Tryz.prog 138 #[.int .u32 (U x), .int .i64 (-11)] w fun e w' => e = .returned (.int .u32 (U (rr 11 21 x))) ∧ w = w' := by
 have h1 : U x * (2097152 : Int) % (4294967296 : Int) = U (x <<< 21) := U_shl 21 x 21 rfl
 have h2 : U x / (2048 : Int) = U (x >>> 11) := U_shr 11 x 11 rfl
 have h3 := U_or
 have h0 := U_nonneg
 have hb : bits .and .u64 (IntKind.u64.wrap (-11)) 31 = 21 := by decide
 go_enter Tryz.func138, Tryz.ntmps138
 go_wp2
 go_ret
 exact ⟨by rw [or_comm32]; rfl, rfl⟩
theorem rotr_11 (x : UInt32) (w : World) : Calls Tryz.prog 132 #[.int .u32 (U x), .int .i64 11] w fun e w' => e = .returned (.int .u32 (U (rr 11 21 x))) ∧ w = w' := by
 go_enter Tryz.func132, Tryz.ntmps132
 go_wp2_with (go_at_call 138; refine (rotl_11 _ _).mono ?_; rintro e w' ⟨rfl, rfl⟩)
 go_ret
 exact ⟨rfl, rfl⟩
theorem rrotr_11 (x : UInt32) (w : World) : Calls Tryz.prog 100 #[.int .u32 (U x), .int .i64 11] w fun e w' => e = .returned (.int .u32 (U (rr 11 21 x))) ∧ w = w' := by
 have h1 : U x * (2097152 : Int) % (4294967296 : Int) = U (x <<< 21) := U_shl 21 x 21 rfl
 have h2 : U x / (2048 : Int) = U (x >>> 11) := U_shr 11 x 11 rfl
 have h3 := U_or
 have h0 := U_nonneg
 go_enter Tryz.func100, Tryz.ntmps100
 go_wp2
 go_ret
 exact ⟨rfl, rfl⟩

theorem rotl_13 (x : UInt32) (w : World) : Calls Tryz.prog 138 #[.int .u32 (U x), .int .i64 (-13)] w fun e w' => e = .returned (.int .u32 (U (rr 13 19 x))) ∧ w = w' := by
 have h1 : U x * (524288 : Int) % (4294967296 : Int) = U (x <<< 19) := U_shl 19 x 19 rfl
 have h2 : U x / (8192 : Int) = U (x >>> 13) := U_shr 13 x 13 rfl
 have h3 := U_or
 have h0 := U_nonneg
 have hb : bits .and .u64 (IntKind.u64.wrap (-13)) 31 = 19 := by decide
 go_enter Tryz.func138, Tryz.ntmps138
 go_wp2
 go_ret
 exact ⟨by rw [or_comm32]; rfl, rfl⟩
theorem rotr_13 (x : UInt32) (w : World) : Calls Tryz.prog 132 #[.int .u32 (U x), .int .i64 13] w fun e w' => e = .returned (.int .u32 (U (rr 13 19 x))) ∧ w = w' := by
 go_enter Tryz.func132, Tryz.ntmps132
 go_wp2_with (go_at_call 138; refine (rotl_13 _ _).mono ?_; rintro e w' ⟨rfl, rfl⟩)
 go_ret
 exact ⟨rfl, rfl⟩
theorem rrotr_13 (x : UInt32) (w : World) : Calls Tryz.prog 100 #[.int .u32 (U x), .int .i64 13] w fun e w' => e = .returned (.int .u32 (U (rr 13 19 x))) ∧ w = w' := by
 have h1 : U x * (524288 : Int) % (4294967296 : Int) = U (x <<< 19) := U_shl 19 x 19 rfl
 have h2 : U x / (8192 : Int) = U (x >>> 13) := U_shr 13 x 13 rfl
 have h3 := U_or
 have h0 := U_nonneg
 go_enter Tryz.func100, Tryz.ntmps100
 go_wp2
 go_ret
 exact ⟨rfl, rfl⟩

theorem rotl_17 (x : UInt32) (w : World) : Calls Tryz.prog 138 #[.int .u32 (U x), .int .i64 (-17)] w fun e w' => e = .returned (.int .u32 (U (rr 17 15 x))) ∧ w = w' := by
 have h1 : U x * (32768 : Int) % (4294967296 : Int) = U (x <<< 15) := U_shl 15 x 15 rfl
 have h2 : U x / (131072 : Int) = U (x >>> 17) := U_shr 17 x 17 rfl
 have h3 := U_or
 have h0 := U_nonneg
 have hb : bits .and .u64 (IntKind.u64.wrap (-17)) 31 = 15 := by decide
 go_enter Tryz.func138, Tryz.ntmps138
 go_wp2
 go_ret
 exact ⟨by rw [or_comm32]; rfl, rfl⟩
theorem rotr_17 (x : UInt32) (w : World) : Calls Tryz.prog 132 #[.int .u32 (U x), .int .i64 17] w fun e w' => e = .returned (.int .u32 (U (rr 17 15 x))) ∧ w = w' := by
 go_enter Tryz.func132, Tryz.ntmps132
 go_wp2_with (go_at_call 138; refine (rotl_17 _ _).mono ?_; rintro e w' ⟨rfl, rfl⟩)
 go_ret
 exact ⟨rfl, rfl⟩
theorem rrotr_17 (x : UInt32) (w : World) : Calls Tryz.prog 100 #[.int .u32 (U x), .int .i64 17] w fun e w' => e = .returned (.int .u32 (U (rr 17 15 x))) ∧ w = w' := by
 have h1 : U x * (32768 : Int) % (4294967296 : Int) = U (x <<< 15) := U_shl 15 x 15 rfl
 have h2 : U x / (131072 : Int) = U (x >>> 17) := U_shr 17 x 17 rfl
 have h3 := U_or
 have h0 := U_nonneg
 go_enter Tryz.func100, Tryz.ntmps100
 go_wp2
 go_ret
 exact ⟨rfl, rfl⟩

theorem rotl_18 (x : UInt32) (w : World) : Calls Tryz.prog 138 #[.int .u32 (U x), .int .i64 (-18)] w fun e w' => e = .returned (.int .u32 (U (rr 18 14 x))) ∧ w = w' := by
 have h1 : U x * (16384 : Int) % (4294967296 : Int) = U (x <<< 14) := U_shl 14 x 14 rfl
 have h2 : U x / (262144 : Int) = U (x >>> 18) := U_shr 18 x 18 rfl
 have h3 := U_or
 have h0 := U_nonneg
 have hb : bits .and .u64 (IntKind.u64.wrap (-18)) 31 = 14 := by decide
 go_enter Tryz.func138, Tryz.ntmps138
 go_wp2
 go_ret
 exact ⟨by rw [or_comm32]; rfl, rfl⟩
theorem rotr_18 (x : UInt32) (w : World) : Calls Tryz.prog 132 #[.int .u32 (U x), .int .i64 18] w fun e w' => e = .returned (.int .u32 (U (rr 18 14 x))) ∧ w = w' := by
 go_enter Tryz.func132, Tryz.ntmps132
 go_wp2_with (go_at_call 138; refine (rotl_18 _ _).mono ?_; rintro e w' ⟨rfl, rfl⟩)
 go_ret
 exact ⟨rfl, rfl⟩
theorem rrotr_18 (x : UInt32) (w : World) : Calls Tryz.prog 100 #[.int .u32 (U x), .int .i64 18] w fun e w' => e = .returned (.int .u32 (U (rr 18 14 x))) ∧ w = w' := by
 have h1 : U x * (16384 : Int) % (4294967296 : Int) = U (x <<< 14) := U_shl 14 x 14 rfl
 have h2 : U x / (262144 : Int) = U (x >>> 18) := U_shr 18 x 18 rfl
 have h3 := U_or
 have h0 := U_nonneg
 go_enter Tryz.func100, Tryz.ntmps100
 go_wp2
 go_ret
 exact ⟨rfl, rfl⟩

theorem rotl_19 (x : UInt32) (w : World) : Calls Tryz.prog 138 #[.int .u32 (U x), .int .i64 (-19)] w fun e w' => e = .returned (.int .u32 (U (rr 19 13 x))) ∧ w = w' := by
 have h1 : U x * (8192 : Int) % (4294967296 : Int) = U (x <<< 13) := U_shl 13 x 13 rfl
 have h2 : U x / (524288 : Int) = U (x >>> 19) := U_shr 19 x 19 rfl
 have h3 := U_or
 have h0 := U_nonneg
 have hb : bits .and .u64 (IntKind.u64.wrap (-19)) 31 = 13 := by decide
 go_enter Tryz.func138, Tryz.ntmps138
 go_wp2
 go_ret
 exact ⟨by rw [or_comm32]; rfl, rfl⟩
theorem rotr_19 (x : UInt32) (w : World) : Calls Tryz.prog 132 #[.int .u32 (U x), .int .i64 19] w fun e w' => e = .returned (.int .u32 (U (rr 19 13 x))) ∧ w = w' := by
 go_enter Tryz.func132, Tryz.ntmps132
 go_wp2_with (go_at_call 138; refine (rotl_19 _ _).mono ?_; rintro e w' ⟨rfl, rfl⟩)
 go_ret
 exact ⟨rfl, rfl⟩
theorem rrotr_19 (x : UInt32) (w : World) : Calls Tryz.prog 100 #[.int .u32 (U x), .int .i64 19] w fun e w' => e = .returned (.int .u32 (U (rr 19 13 x))) ∧ w = w' := by
 have h1 : U x * (8192 : Int) % (4294967296 : Int) = U (x <<< 13) := U_shl 13 x 13 rfl
 have h2 : U x / (524288 : Int) = U (x >>> 19) := U_shr 19 x 19 rfl
 have h3 := U_or
 have h0 := U_nonneg
 go_enter Tryz.func100, Tryz.ntmps100
 go_wp2
 go_ret
 exact ⟨rfl, rfl⟩

theorem rotl_22 (x : UInt32) (w : World) : Calls Tryz.prog 138 #[.int .u32 (U x), .int .i64 (-22)] w fun e w' => e = .returned (.int .u32 (U (rr 22 10 x))) ∧ w = w' := by
 have h1 : U x * (1024 : Int) % (4294967296 : Int) = U (x <<< 10) := U_shl 10 x 10 rfl
 have h2 : U x / (4194304 : Int) = U (x >>> 22) := U_shr 22 x 22 rfl
 have h3 := U_or
 have h0 := U_nonneg
 have hb : bits .and .u64 (IntKind.u64.wrap (-22)) 31 = 10 := by decide
 go_enter Tryz.func138, Tryz.ntmps138
 go_wp2
 go_ret
 exact ⟨by rw [or_comm32]; rfl, rfl⟩
theorem rotr_22 (x : UInt32) (w : World) : Calls Tryz.prog 132 #[.int .u32 (U x), .int .i64 22] w fun e w' => e = .returned (.int .u32 (U (rr 22 10 x))) ∧ w = w' := by
 go_enter Tryz.func132, Tryz.ntmps132
 go_wp2_with (go_at_call 138; refine (rotl_22 _ _).mono ?_; rintro e w' ⟨rfl, rfl⟩)
 go_ret
 exact ⟨rfl, rfl⟩
theorem rrotr_22 (x : UInt32) (w : World) : Calls Tryz.prog 100 #[.int .u32 (U x), .int .i64 22] w fun e w' => e = .returned (.int .u32 (U (rr 22 10 x))) ∧ w = w' := by
 have h1 : U x * (1024 : Int) % (4294967296 : Int) = U (x <<< 10) := U_shl 10 x 10 rfl
 have h2 : U x / (4194304 : Int) = U (x >>> 22) := U_shr 22 x 22 rfl
 have h3 := U_or
 have h0 := U_nonneg
 go_enter Tryz.func100, Tryz.ntmps100
 go_wp2
 go_ret
 exact ⟨rfl, rfl⟩

theorem rotl_25 (x : UInt32) (w : World) : Calls Tryz.prog 138 #[.int .u32 (U x), .int .i64 (-25)] w fun e w' => e = .returned (.int .u32 (U (rr 25 7 x))) ∧ w = w' := by
 have h1 : U x * (128 : Int) % (4294967296 : Int) = U (x <<< 7) := U_shl 7 x 7 rfl
 have h2 : U x / (33554432 : Int) = U (x >>> 25) := U_shr 25 x 25 rfl
 have h3 := U_or
 have h0 := U_nonneg
 have hb : bits .and .u64 (IntKind.u64.wrap (-25)) 31 = 7 := by decide
 go_enter Tryz.func138, Tryz.ntmps138
 go_wp2
 go_ret
 exact ⟨by rw [or_comm32]; rfl, rfl⟩
theorem rotr_25 (x : UInt32) (w : World) : Calls Tryz.prog 132 #[.int .u32 (U x), .int .i64 25] w fun e w' => e = .returned (.int .u32 (U (rr 25 7 x))) ∧ w = w' := by
 go_enter Tryz.func132, Tryz.ntmps132
 go_wp2_with (go_at_call 138; refine (rotl_25 _ _).mono ?_; rintro e w' ⟨rfl, rfl⟩)
 go_ret
 exact ⟨rfl, rfl⟩
theorem rrotr_25 (x : UInt32) (w : World) : Calls Tryz.prog 100 #[.int .u32 (U x), .int .i64 25] w fun e w' => e = .returned (.int .u32 (U (rr 25 7 x))) ∧ w = w' := by
 have h1 : U x * (128 : Int) % (4294967296 : Int) = U (x <<< 7) := U_shl 7 x 7 rfl
 have h2 : U x / (33554432 : Int) = U (x >>> 25) := U_shr 25 x 25 rfl
 have h3 := U_or
 have h0 := U_nonneg
 go_enter Tryz.func100, Tryz.ntmps100
 go_wp2
 go_ret
 exact ⟨rfl, rfl⟩


/-- x turned by n -/
def rot (n : Int) (x : UInt32) : UInt32 := rr (UInt32.ofNat n.toNat) (UInt32.ofNat (32 - n.toNat)) x
theorem rotr_any (n : Int) (x : UInt32) (w : World) (h : n ∈ [2, 6, 7, 11, 13, 17, 18, 19, 22, 25]) : Calls Tryz.prog 132 #[.int .u32 (U x), .int .i64 n] w fun e w' => e = .returned (.int .u32 (U (rot n x))) ∧ w = w' := by
 simp only [List.mem_cons, List.not_mem_nil, or_false] at h
 rcases h with rfl | rfl | rfl | rfl | rfl | rfl | rfl | rfl | rfl | rfl
 ·
  exact rotr_2 x w
 ·
  exact rotr_6 x w
 ·
  exact rotr_7 x w
 ·
  exact rotr_11 x w
 ·
  exact rotr_13 x w
 ·
  exact rotr_17 x w
 ·
  exact rotr_18 x w
 ·
  exact rotr_19 x w
 ·
  exact rotr_22 x w
 ·
  exact rotr_25 x w
theorem rrotr_any (n : Int) (x : UInt32) (w : World) (h : n ∈ [2, 6, 7, 11, 13, 17, 18, 19, 22, 25]) : Calls Tryz.prog 100 #[.int .u32 (U x), .int .i64 n] w fun e w' => e = .returned (.int .u32 (U (rot n x))) ∧ w = w' := by
 simp only [List.mem_cons, List.not_mem_nil, or_false] at h
 rcases h with rfl | rfl | rfl | rfl | rfl | rfl | rfl | rfl | rfl | rfl
 ·
  exact rrotr_2 x w
 ·
  exact rrotr_6 x w
 ·
  exact rrotr_7 x w
 ·
  exact rrotr_11 x w
 ·
  exact rrotr_13 x w
 ·
  exact rrotr_17 x w
 ·
  exact rrotr_18 x w
 ·
  exact rrotr_19 x w
 ·
  exact rrotr_22 x w
 ·
  exact rrotr_25 x w
end Go.Proofs.YtpeneeddfgmjpaaGreatDoor.sha

namespace Go.Proofs.YtpeneeddfgmjpaaGreatDoor.sha
open Go.RowKit Go.Proofs.YtpeneeddfgmjpaaGreatDoor.mem

/-- what the first loop keeps -/
def SprIs (w : World) (G : Nat) (b : List UInt8) (i : Nat) : Prop :=
 Blk w G 153 (bv b).toArray ∧ Blk w (G + 1) 141 (uv (List.replicate 64 0)).toArray ∧ Blk w (G + 2) 141 (uv (wrow (ms b) i)).toArray

theorem info51 : (Tryz.prog.info? 141).map (·.size) = some 64 := by kernel_rfl
theorem SprIs.step {w : World} {G : Nat} {b : List UInt8} {i : Nat} (h : SprIs w G b i) (hi : i < 64) (x : UInt32) (hx : x = if i < 16 then ms b i else nw (wl (ms b) i)) :
  SprIs (w.setCell ⟨G + 1 + 1, i, none⟩ (.int .u32 (U x))).drew G b (i + 1) := by
 obtain ⟨hA, hR, hW⟩ := h
 refine ⟨hA.far (p := ⟨G + 1 + 1, i, none⟩) (show G ≠ G + 1 + 1 by omega) _, hR.far (p := ⟨G + 1 + 1, i, none⟩) (show G + 1 ≠ G + 1 + 1 by omega) _, ?_⟩
 have := hW.set_ i (.int .u32 (U x))
 have e := wrow_set (ms b) i hi
 rw [← hx] at e
 rw [List.setIfInBounds_toArray, e] at this
 exact this
theorem SprIs.get {w : World} {G : Nat} {b : List UInt8} {i : Nat} (h : SprIs w G b i) (hi : i ≤ 64) (j : Nat) (hj : j < i) : w.cell? ⟨G + 1 + 1, j, none⟩ = some (.int .u32 (U ((wl (ms b) i).getD j 0))) := by
 rw [h.2.2.cell, List.getElem?_toArray, uv_get _ _ (by rw [wrow_length _ _ hi]; omega), wrow_get _ _ _ hj]
theorem SprIs.has {w : World} {G : Nat} {b : List UInt8} {i : Nat} (h : SprIs w G b i) (hi : i < 64) : ∃ v, w.cell? ⟨G + 1 + 1, i, none⟩ = some v := by
 rw [h.2.2.cell, List.getElem?_toArray, uv_get _ _ (by rw [wrow_length _ _ (by omega)]; omega)]
 exact ⟨_, rfl⟩
set_option maxHeartbeats 4000000 in
set_option maxRecDepth 100000 in
theorem spread_any (b : List UInt8) (hb : b.length = 64) (w : World) : Calls Tryz.prog 109 #[.agg (bv b).toArray] w fun e w' =>
  e = .returned (.agg (uv (sched b)).toArray) ∧ Below w.heap.size w w' := by
 obtain ⟨G, hG⟩ : ∃ g, g = w.heap.size := ⟨_, rfl⟩
 have hS0 : SprIs (((w.alloc (.cells (bv b).toArray 153)).alloc (.cells (uv (List.replicate 64 0)).toArray 141)).alloc (.cells (uv (List.replicate 64 0)).toArray 141)) G b 0 := by
  subst hG
  exact ⟨((Blk.new w _ _).alloc _).alloc _, (Blk.at_ (by simp) _ _).alloc _, Blk.at_ (by simp) _ _⟩
 have hB0 : Below G w (((w.alloc (.cells (bv b).toArray 153)).alloc (.cells (uv (List.replicate 64 0)).toArray 141)).alloc (.cells (uv (List.replicate 64 0)).toArray 141)) := by
  subst hG
  exact (((Below.refl _ _).alloc (Nat.le_refl _) _).alloc (by simp) _).alloc (by simp; omega) _
 have HS0 := Lib.hid hS0
 have HB0 := Lib.hid hB0
 clear hS0 hB0
 go_enter Tryz.func109, Tryz.ntmps109
 go_wp2_with fail
 go_loopw [8] (fun v wr => ∃ i : Nat, i ≤ 16 ∧ v = .int .i64 i ∧ SprIs wr G b i ∧ Below G w wr) (fun v _ => 16 - (intOf v).toNat)
 case atStart => exact ⟨0, by omega, rfl, HS0.out, HB0.out⟩
 case round =>
  obtain ⟨i, hi, rfl, hS, hB⟩ := hrel
  by_cases hlt : i < 16
  ·
   have hlt' : (i : Int) < 16 := by omega
   have i0 : (0 : Int) ≤ (i : Int) := Int.natCast_nonneg _
   subst hG
   have SH := Lib.hid hS
   have BH := Lib.hid hB
   obtain ⟨x0, hx0⟩ : ∃ x, x = b.getD (4 * i) 0 := ⟨_, rfl⟩
   obtain ⟨x1, hx1⟩ : ∃ x, x = b.getD (4 * i + 1) 0 := ⟨_, rfl⟩
   obtain ⟨x2, hx2⟩ : ∃ x, x = b.getD (4 * i + 2) 0 := ⟨_, rfl⟩
   obtain ⟨x3, hx3⟩ : ∃ x, x = b.getD (4 * i + 3) 0 := ⟨_, rfl⟩
   have c0 : wr.cell? ⟨w.heap.size, 4 * i, none⟩ = some (.int .u8 (B x0)) := by rw [hS.1.cell, List.getElem?_toArray, hx0]; exact bv_get _ _ (by omega)
   have c1 : wr.cell? ⟨w.heap.size, 4 * i + 1, none⟩ = some (.int .u8 (B x1)) := by rw [hS.1.cell, List.getElem?_toArray, hx1]; exact bv_get _ _ (by omega)
   have c2 : wr.cell? ⟨w.heap.size, 4 * i + 2, none⟩ = some (.int .u8 (B x2)) := by rw [hS.1.cell, List.getElem?_toArray, hx2]; exact bv_get _ _ (by omega)
   have c3 : wr.cell? ⟨w.heap.size, 4 * i + 3, none⟩ = some (.int .u8 (B x3)) := by rw [hS.1.cell, List.getElem?_toArray, hx3]; exact bv_get _ _ (by omega)
   have hX : Hid (word x0 x1 x2 x3 = if i < 16 then ms b i else nw (wl (ms b) i)) := Lib.hid (by rw [if_pos hlt, hx0, hx1, hx2, hx3]; rfl)
   clear hx0 hx1 hx2 hx3
   obtain ⟨cv, cw⟩ := hS.has (by omega : i < 64)
   have fw : wr.frozen? ⟨w.heap.size + 1 + 1, i, none⟩ = false := hS.2.2.frozen i
   have hx := U_or
   have hb0 := B_nonneg
   have hb1 := B_lt
   have hb2 := B_wrap
   have s1 : ∀ x, U x * (16777216 : Int) % (4294967296 : Int) = U (x <<< 24) := fun x => U_shl 24 x 24 rfl
   have s2 : ∀ x, U x * (65536 : Int) % (4294967296 : Int) = U (x <<< 16) := fun x => U_shl 16 x 16 rfl
   have s3 : ∀ x, U x * (256 : Int) % (4294967296 : Int) = U (x <<< 8) := fun x => U_shl 8 x 8 rfl
   clear hS hB
   go_wp2_with fail
   go_region
   go_wp2_with fail
   go_roundw
   case rel => exact ⟨i + 1, by omega, by push_cast; rfl, SH.out.step (by omega) _ hX.out, (BH.out.setCell (by simp; omega) _).drew⟩
   case measure => simp [intOf]; omega
  ·
   obtain rfl : i = 16 := by omega
   subst hG
   have SH := Lib.hid hS
   have BH := Lib.hid hB
   clear hS hB
   go_wp2_with fail
   go_loopw [5] (fun v wr => ∃ i : Nat, 16 ≤ i ∧ i ≤ 64 ∧ v = .int .i64 i ∧ SprIs wr w.heap.size b i ∧ Below w.heap.size w wr) (fun v _ => 64 - (intOf v).toNat)
   case atStart => exact ⟨16, by omega, by omega, rfl, SH.out, BH.out⟩
   case round =>
    clear SH BH
    obtain ⟨i, hi0, hi, rfl, hS, hB⟩ := hrel
    by_cases hlt : i < 64
    ·
     have hlt' : (i : Int) < 64 := by omega
     have i0 : (16 : Int) ≤ (i : Int) := by omega
     obtain ⟨y0, hy0⟩ : ∃ x, x = (wl (ms b) i).getD (i - 16) 0 := ⟨_, rfl⟩
     obtain ⟨y1, hy1⟩ : ∃ x, x = (wl (ms b) i).getD (i - 15) 0 := ⟨_, rfl⟩
     obtain ⟨y2, hy2⟩ : ∃ x, x = (wl (ms b) i).getD (i - 7) 0 := ⟨_, rfl⟩
     obtain ⟨y3, hy3⟩ : ∃ x, x = (wl (ms b) i).getD (i - 2) 0 := ⟨_, rfl⟩
     have SH := Lib.hid hS
     have BH := Lib.hid hB
     have c0 := hS.get hi (i - 16) (by omega)
     have c1 := hS.get hi (i - 15) (by omega)
     have c2 := hS.get hi (i - 7) (by omega)
     have c3 := hS.get hi (i - 2) (by omega)
     rw [← hy0] at c0
     rw [← hy1] at c1
     rw [← hy2] at c2
     rw [← hy3] at c3
     have hX : Hid (y0 + sig0 y1 + y2 + sig1 y3 = if i < 16 then ms b i else nw (wl (ms b) i)) := Lib.hid (by rw [if_neg (by omega), nw, wl_length, hy0, hy1, hy2, hy3])
     clear hy0 hy1 hy2 hy3
     obtain ⟨cv, cw⟩ := hS.has hlt
     have fw : wr.frozen? ⟨w.heap.size + 1 + 1, i, none⟩ = false := hS.2.2.frozen i
     have hx := U_xor
     have ha := U_add
     have hn := U_nonneg
     have s1 : ∀ x, U x / (8 : Int) = U (x >>> 3) := fun x => U_shr 3 x 3 rfl
     have s2 : ∀ x, U x / (1024 : Int) = U (x >>> 10) := fun x => U_shr 10 x 10 rfl
     clear hS hB
     go_wp2_with fail
     go_quiet ((go_at_call 132; exact quiet_left (rotr_any _ _ _ (by decide))))
     obtain ⟨wq, hwq⟩ : ∃ x, x = wr.drewN nq := ⟨_, rfl⟩
     rw [← hwq]
     have SQ : Hid (SprIs wq w.heap.size b i) := Lib.hid (by rw [hwq]; exact SH.out)
     have BQ : Hid (Below w.heap.size w wq) := Lib.hid (by rw [hwq]; exact below_drewN BH.out _)
     replace c3 : wq.cell? _ = _ := (congrArg (fun x : World => x.cell? _) hwq).trans c3
     replace c0 : wq.cell? _ = _ := (congrArg (fun x : World => x.cell? _) hwq).trans c0
     replace c2 : wq.cell? _ = _ := (congrArg (fun x : World => x.cell? _) hwq).trans c2
     replace cw : wq.cell? _ = _ := (congrArg (fun x : World => x.cell? _) hwq).trans cw
     replace fw : wq.frozen? _ = _ := (congrArg (fun x : World => x.frozen? _) hwq).trans fw
     clear SH BH hwq c1 nq
     go_wp2_with fail
     go_quiet ((go_at_call 132; exact quiet_left (rotr_any _ _ _ (by decide))))
     obtain ⟨wz, hwz⟩ : ∃ x, x = wq.drewN nq := ⟨_, rfl⟩
     rw [← hwz]
     have SZ : Hid (SprIs wz w.heap.size b i) := Lib.hid (by rw [hwz]; exact SQ.out)
     have BZ : Hid (Below w.heap.size w wz) := Lib.hid (by rw [hwz]; exact below_drewN BQ.out _)
     replace c0 : wz.cell? _ = _ := (congrArg (fun x : World => x.cell? _) hwz).trans c0
     replace c2 : wz.cell? _ = _ := (congrArg (fun x : World => x.cell? _) hwz).trans c2
     replace cw : wz.cell? _ = _ := (congrArg (fun x : World => x.cell? _) hwz).trans cw
     replace fw : wz.frozen? _ = _ := (congrArg (fun x : World => x.frozen? _) hwz).trans fw
     clear SQ BQ hwz c3 nq
     go_wp2_with fail
     go_region
     go_wp2_with fail
     go_roundw
     case rel => exact ⟨i + 1, by omega, by omega, by push_cast; rfl, SZ.out.step hlt _ hX.out, (BZ.out.setCell (by simp; omega) _).drew⟩
     case measure => simp [intOf]; omega
    ·
     obtain rfl : i = 64 := by omega
     obtain ⟨hA, hR, hW⟩ := hS
     have HR := Lib.hid hR
     have HW := Lib.hid hW
     have HB := Lib.hid hB
     clear hA hR hW hB
     go_upto_region 13 with fail
     refine wp_region_lit ?_
     refine wpList_load_row rfl 141 (.tmp 3) rfl (w.heap.size + 1 + 1) rfl 141 _ (0, 0) _ HW.out Tryz.underlying141 rfl (by rw [info51]; simp [uv_length, wrow_length]) ?_
     refine wpList_store_row rfl 141 (.tmp 2) (.tmp 96) rfl (w.heap.size + 1) (uv (wrow (ms b) 64)).toArray rfl (by simp [Act.put, Act.eval]) 141 _ HR.out (by rw [info51]; simp [uv_length, wrow_length]) (by simp [uv_length, wrow_length]) ?_ ?_
     ·
      exact one_uv _
     go_wp2_with fail
     (try simp only [Exit.inBlock, Exit.then])
     have hrow := setRow_heap wr (w.heap.size + 1) _ (uv (wrow (ms b) 64)).toArray _ _ HR.out
     refine bodyPost_ret (results_cell_row rfl _ _ (w.heap.size + 1) 141 (uv (wrow (ms b) 64)).toArray (0, 0) _ rfl hrow Tryz.underlying141 rfl (by rw [info51]; simp [uv_length, wrow_length])) rfl ⟨?_, ?_⟩
     ·
      rw [wrow_last]; rfl
     ·
      exact below_setRow HB.out (Nat.le_succ _) _
end Go.Proofs.YtpeneeddfgmjpaaGreatDoor.sha

namespace Go.Proofs.YtpeneeddfgmjpaaGreatDoor.sha
open Go.RowKit Go.Proofs.YtpeneeddfgmjpaaGreatDoor.mem

/-- the tables of the package, as the program's text lays them -/
def Tab (w : World) : Prop := 2 + 1 ≤ w.heap.size ∧ (∀ j, j < 8 → w.cell? ⟨0, j, none⟩ = some (.int .u32 (U (firstL.getD j 0)))) ∧ (∀ j, j < 64 → w.cell? ⟨2, j, none⟩ = some (.int .u32 (U (kk j))))
theorem Tab.below {B : Nat} {w w' : World} (h : Tab w) (hb : Below B w w') (hB : 2 + 1 ≤ B) : Tab w' :=
 ⟨Nat.le_trans h.1 hb.size, fun j hj => (hb.cell (p := ⟨0, j, none⟩) (Nat.lt_of_lt_of_le (show 0 < 2 + 1 by decide) hB)).trans (h.2.1 j hj), fun j hj => (hb.cell (p := ⟨2, j, none⟩) (Nat.lt_of_lt_of_le (show 2 < 2 + 1 by decide) hB)).trans (h.2.2 j hj)⟩
theorem Tab.next {w w' : World} (h : Tab w) (hb : Below w.heap.size w w') : Tab w' := h.below hb h.1
theorem Tab.drewN {w : World} (h : Tab w) (n : Nat) : Tab (w.drewN n) := h

/-- the words behind i additions -/
def accW (h x : W8) (i : Nat) : List UInt32 := (wList (addW h x)).take i ++ (wList h).drop i

/-- what the loops keep: words (as far as they are added), the block's words, the result's cell -/
def TurnIs (w : World) (S : Nat) (hs : List UInt32) (ws : List UInt32) : Prop :=
 Blk w S 106 (uv hs).toArray ∧ Blk w (S + 1) 141 (uv ws).toArray ∧ Blk w (S + 2) 106 (uv [0, 0, 0, 0, 0, 0, 0, 0]).toArray ∧ Tab w

theorem TurnIs.drewN {w : World} {S : Nat} {hs ws : List UInt32} (h : TurnIs w S hs ws) (n : Nat) : TurnIs (w.drewN n) S hs ws := h
theorem TurnIs.set_ {w : World} {S : Nat} {hs ws : List UInt32} (h : TurnIs w S hs ws) (hS : 2 + 1 ≤ S) (i : Nat) (x : UInt32) : TurnIs (w.setCell ⟨S, i, none⟩ (.int .u32 (U x))) S (hs.set i x) ws := by
 obtain ⟨hA, hB, hC, hT⟩ := h
 refine ⟨?_, hB.far (p := ⟨S, i, none⟩) (show S + 1 ≠ S by omega) _, hC.far (p := ⟨S, i, none⟩) (show S + 2 ≠ S by omega) _, hT.below ((Below.refl (2 + 1) w).setCell (p := ⟨S, i, none⟩) hS _) (Nat.le_refl _)⟩
 have := hA.set_ i (.int .u32 (U x))
 rw [List.setIfInBounds_toArray] at this
 unfold uv at this ⊢
 rw [List.map_set]
 exact this
theorem accW_end (h x : W8) : accW h x 8 = wList (addW h x) := rfl
theorem lt8 {i : Nat} (h : i < 8) : i = 0 ∨ i = 1 ∨ i = 2 ∨ i = 3 ∨ i = 4 ∨ i = 5 ∨ i = 6 ∨ i = 7 := by omega
theorem accW_len (h x : W8) (i : Nat) (hi : i < 8) : i < (accW h x i).length := by
 rcases lt8 hi with rfl | rfl | rfl | rfl | rfl | rfl | rfl | rfl <;> exact (Nat.lt_of_lt_of_le hi (Nat.le_refl 8) : _ < 8)
theorem accW_get (h x : W8) (i : Nat) (hi : i < 8) : (accW h x i).getD i 0 = (wList h).getD i 0 := by
 rcases lt8 hi with rfl | rfl | rfl | rfl | rfl | rfl | rfl | rfl <;> rfl
theorem accW_set (h x : W8) (i : Nat) (hi : i < 8) : (accW h x i).set i ((wList h).getD i 0 + (wList x).getD i 0) = accW h x (i + 1) := by
 rcases lt8 hi with rfl | rfl | rfl | rfl | rfl | rfl | rfl | rfl <;> rfl
/-- an element of an array of eight words that is a value -/
theorem run_index8 (cs : Array Value) (i : Nat) (v : Value) (hv : cs[i]? = some v) (hl : i < 8) (w : World) : (Instr.index 106 (.agg cs) (.int .i64 (i : Int))).run Tryz.prog w = .ok v w := by
 have hs : (Tryz.prog.info? 97).map (·.size) = some 1 := by kernel_rfl
 obtain ⟨y, hy⟩ : ∃ y, Tryz.prog.info? 97 = some y := by
  cases h : Tryz.prog.info? 97 with
  | none => rw [h] at hs; simp at hs
  | some y => exact ⟨y, rfl⟩
 have hy1 : y.size = 1 := by rw [hy] at hs; simpa using hs
 simp [Instr.index, asIntOf, run_underlying Tryz.underlying106, sizeOf, typeInfo, hy, hy1, part, hv]
 intro h8
 omega
theorem info38 : (Tryz.prog.info? 106).map (·.size) = some 8 := by kernel_rfl

set_option maxHeartbeats 4000000 in
set_option maxRecDepth 100000 in
theorem turn_any (h : W8) (ws : List UInt32) (hl : ws.length = 64) (w : World) (hT : Tab w) : Calls Tryz.prog 108 #[.agg (uv (wList h)).toArray, .agg (uv ws).toArray] w fun e w' =>
  e = .returned (.agg (uv (wList (turn h ws))).toArray) ∧ Below w.heap.size w w' := by
 obtain ⟨S, hS⟩ : ∃ g, g = w.heap.size := ⟨_, rfl⟩
 obtain ⟨w3, hw3⟩ : ∃ x, x = (((w.alloc (.cells (uv (wList h)).toArray 106)).alloc (.cells (uv ws).toArray 141)).alloc (.cells #[.int .u32 0, .int .u32 0, .int .u32 0, .int .u32 0, .int .u32 0, .int .u32 0, .int .u32 0, .int .u32 0] 106)) := ⟨_, rfl⟩
 have hB0 : Below S w w3 := by
  subst hS; subst hw3
  exact (((Below.refl _ _).alloc (Nat.le_refl _) _).alloc (by simp) _).alloc (by simp; omega) _
 have hS0 : TurnIs w3 S (wList h) ws := by
  refine ⟨?_, ?_, ?_, hT.below hB0 (hS ▸ hT.1)⟩
  ·
   subst hS; subst hw3; exact ((Blk.new w _ _).alloc _).alloc _
  ·
   subst hS; subst hw3; exact (Blk.at_ (by simp) _ _).alloc _
  ·
   subst hS; subst hw3; exact Blk.at_ (by simp) _ _
 have c0 : w3.cell? ⟨w.heap.size, 0, none⟩ = some (.int .u32 (U h.a)) := hS ▸ hS0.1.cell 0
 have c1 : w3.cell? ⟨w.heap.size, 1, none⟩ = some (.int .u32 (U h.b)) := hS ▸ hS0.1.cell 1
 have c2 : w3.cell? ⟨w.heap.size, 2, none⟩ = some (.int .u32 (U h.c)) := hS ▸ hS0.1.cell 2
 have c3 : w3.cell? ⟨w.heap.size, 3, none⟩ = some (.int .u32 (U h.d)) := hS ▸ hS0.1.cell 3
 have c4 : w3.cell? ⟨w.heap.size, 4, none⟩ = some (.int .u32 (U h.e)) := hS ▸ hS0.1.cell 4
 have c5 : w3.cell? ⟨w.heap.size, 5, none⟩ = some (.int .u32 (U h.f)) := hS ▸ hS0.1.cell 5
 have c6 : w3.cell? ⟨w.heap.size, 6, none⟩ = some (.int .u32 (U h.g)) := hS ▸ hS0.1.cell 6
 have c7 : w3.cell? ⟨w.heap.size, 7, none⟩ = some (.int .u32 (U h.h)) := hS ▸ hS0.1.cell 7
 have HS := Lib.hid hS0
 have HB := Lib.hid hB0
 have HW := Lib.hid hw3
 have HT := Lib.hid hT
 clear hS0 hB0 hw3 hT
 go_enter Tryz.func108, Tryz.ntmps108
 go_wp2_with fail
 rw [show _ = w3 from HW.out.symm]
 clear HW
 go_quiet (fail)
 obtain ⟨w4, hw4⟩ : ∃ x, x = w3.drewN nq := ⟨_, rfl⟩
 rw [← hw4]
 have HS4 : Hid (TurnIs w4 w.heap.size (wList h) ws) := Lib.hid (by rw [hw4]; exact hS ▸ HS.out)
 have HB4 : Hid (Below w.heap.size w w4) := Lib.hid (by rw [hw4]; exact below_drewN (hS ▸ HB.out) _)
 clear c0 c1 c2 c3 c4 c5 c6 c7 HS HB hw4 hS
 go_wp2_with fail
 go_loopw [5, 6, 7, 8, 9, 10, 11, 12, 34] (fun a b c d e f g k v wr => ∃ (i : Nat) (r : W8), i ≤ 64 ∧ r = rn (fun i => ws.getD i 0) h i ∧ a = .int .u32 (U r.a) ∧ b = .int .u32 (U r.b) ∧ c = .int .u32 (U r.c) ∧ d = .int .u32 (U r.d) ∧ e = .int .u32 (U r.e) ∧ f = .int .u32 (U r.f) ∧ g = .int .u32 (U r.g) ∧ k = .int .u32 (U r.h) ∧ v = .int .i64 i ∧ TurnIs wr w.heap.size (wList h) ws ∧ Below w.heap.size w wr) (fun _ _ _ _ _ _ _ _ v _ => 64 - (intOf v).toNat)
 case atStart => exact ⟨0, h, by omega, rfl, rfl, rfl, rfl, rfl, rfl, rfl, rfl, rfl, rfl, HS4.out, HB4.out⟩
 case round =>
  clear HS4 HB4
  obtain ⟨i, r, hi, hr, rfl, rfl, rfl, rfl, rfl, rfl, rfl, rfl, rfl, hS, hB⟩ := hrel
  have HR := Lib.hid hr
  have HS := Lib.hid hS
  have HB := Lib.hid hB
  clear hr hB
  by_cases hlt : i < 64
  ·
   have hlt' : (i : Int) < 64 := by omega
   have i0 : (0 : Int) ≤ (i : Int) := by omega
   obtain ⟨y, hy⟩ : ∃ y, y = ws.getD i 0 := ⟨_, rfl⟩
   obtain ⟨z, hz⟩ : ∃ z, z = kk i := ⟨_, rfl⟩
   have c0 : wr.cell? ⟨w.heap.size + 1, i, none⟩ = some (.int .u32 (U y)) := by rw [hS.2.1.cell, List.getElem?_toArray, hy]; exact uv_get _ _ (by omega)
   have c1 : wr.cell? ⟨2, i, none⟩ = some (.int .u32 (U z)) := by rw [hz]; exact hS.2.2.2.2.2 i hlt
   have HY := Lib.hid hy
   have HZ := Lib.hid hz
   clear hy hz hS
   have hx := U_xor
   have hd := U_and
   have ha := U_add
   have ho : ∀ a : UInt32, bits BinOp.xor IntKind.u32 (if IntKind.u32.signed = true then -1 else IntKind.u32.max) (U a) = U (~~~a) := U_not
   have hn := U_nonneg
   go_wp2_with fail
   go_quiet ((go_at_call 132; exact quiet_left (rotr_any _ _ _ (by decide))))
   obtain ⟨wq, hwq⟩ : ∃ x, x = wr.drewN nq := ⟨_, rfl⟩
   rw [← hwq]
   have SQ : Hid (TurnIs wq w.heap.size (wList h) ws) := Lib.hid (by rw [hwq]; exact HS.out)
   have BQ : Hid (Below w.heap.size w wq) := Lib.hid (by rw [hwq]; exact below_drewN HB.out _)
   clear HS HB hwq c0 c1
   go_wp2_with (go_at_call 132; refine (rotr_any _ _ _ (by decide)).mono ?_; rintro e w' ⟨rfl, rfl⟩)
   go_roundw
   case rel =>
    refine ⟨i + 1, rnd r z y, by omega, ?_, rfl, rfl, rfl, rfl, rfl, rfl, rfl, rfl, by push_cast; rfl, SQ.out, BQ.out⟩
    rw [HR.out, HZ.out, HY.out]; rfl
   case measure => simp [intOf]; omega
  ·
   obtain rfl : i = 64 := by omega
   have h2 : 2 + 1 ≤ w.heap.size := HT.out.1
   have H2 := Lib.hid h2
   clear hS h2
   have ha := U_add
   have hn := U_nonneg
   go_wp2_with fail
   go_loopw [106] (fun v wr => ∃ i : Nat, i ≤ 8 ∧ v = .int .i64 i ∧ TurnIs wr w.heap.size (accW h r i) ws ∧ Below w.heap.size w wr) (fun v _ => 8 - (intOf v).toNat)
   case atStart => exact ⟨0, by omega, rfl, HS.out, HB.out⟩
   case round =>
    clear HS HB
    obtain ⟨i, hi, rfl, hS, hB⟩ := hrel
    have HS := Lib.hid hS
    have HB := Lib.hid hB
    by_cases hlt : i < 8
    ·
     have fr := hS.1.frozen i
     have hci := hS.1.cell i
     rw [List.getElem?_toArray, uv_get _ _ (accW_len h r i hlt), accW_get h r i hlt] at hci
     have hvi : (uv (wList r)).toArray[i]? = some (Value.int .u32 (U ((wList r).getD i 0))) := by rw [List.getElem?_toArray]; exact uv_get _ _ hlt
     have hix := fun u : World => run_index8 #[.int .u32 (U r.a), .int .u32 (U r.b), .int .u32 (U r.c), .int .u32 (U r.d), .int .u32 (U r.e), .int .u32 (U r.f), .int .u32 (U r.g), .int .u32 (U r.h)] i _ hvi hlt u
     obtain ⟨y, hy⟩ : ∃ y, y = (wList h).getD i 0 := ⟨_, rfl⟩
     obtain ⟨z, hz⟩ : ∃ z, z = (wList r).getD i 0 := ⟨_, rfl⟩
     rw [← hy] at hci
     rw [← hz] at hix
     have HX : Hid ((accW h r i).set i (y + z) = accW h r (i + 1)) := Lib.hid (by rw [hy, hz]; exact accW_set h r i hlt)
     clear hS hB hvi hy hz
     have hlt' : (i : Int) < 8 := by omega
     have i0 : (0 : Int) ≤ (i : Int) := by omega
     go_wp2_with fail
     go_roundw
     case rel => exact ⟨i + 1, by omega, by push_cast; rfl, HX.out ▸ HS.out.set_ H2.out _ _, HB.out.setCell (Nat.le_refl _) _⟩
     case measure => simp [intOf]; omega
    ·
     obtain rfl : i = 8 := by omega
     clear hS hB hlt
     obtain ⟨HA, _, HC, _⟩ := HS.out
     have HA' := Lib.hid HA
     have HC' := Lib.hid HC
     clear HA HC
     go_upto_region 14 with fail
     refine wp_region_lit ?_
     refine wpList_load_row rfl 106 (.tmp 2) rfl w.heap.size rfl 106 _ (0, 0) _ HA'.out Tryz.underlying106 rfl (by rw [info38]; rfl) ?_
     refine wpList_store_row rfl 106 (.tmp 4) (.tmp 117) rfl (w.heap.size + 1 + 1) (uv (accW h r 8)).toArray rfl (by simp [Act.put, Act.eval]) 106 _ HC'.out (by rw [info38]; rfl) rfl ?_ ?_
     ·
      exact one_uv _
     go_wp2_with fail
     (try simp only [Exit.inBlock, Exit.then])
     have hrow := setRow_heap wr (w.heap.size + 1 + 1) _ (uv (accW h r 8)).toArray _ _ HC'.out
     refine bodyPost_ret (results_cell_row rfl _ _ (w.heap.size + 1 + 1) 106 (uv (accW h r 8)).toArray (0, 0) _ rfl hrow Tryz.underlying106 rfl (by rw [info38]; rfl)) rfl ⟨?_, ?_⟩
     ·
      rw [accW_end, HR.out]; rfl
     ·
      exact below_setRow HB.out (Nat.le_add_right _ 2) _
end Go.Proofs.YtpeneeddfgmjpaaGreatDoor.sha
