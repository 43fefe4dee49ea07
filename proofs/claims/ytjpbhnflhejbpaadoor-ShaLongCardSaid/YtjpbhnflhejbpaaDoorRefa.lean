/-
  petrelref02: start, consts, word.
-/
import Derived.Test.YtjpbhnflhejbpaaDoorSumc
namespace Go.Proofs.YtjpbhnflhejbpaaDoor.sha
open Go.RowKit Go.Proofs.YtjpbhnflhejbpaaDoor.mem

set_option maxHeartbeats 4000000 in
set_option maxRecDepth 100000 in
theorem consts_any (w : World) : Calls Tryd.prog 16 #[] w fun e w' => e = .returned (.slice (some ⟨w.heap.size, 0, none⟩) 64 64) ∧ Blk w' w.heap.size 37 (uv kL).toArray ∧ Below w.heap.size w w' := by
  go_enter Tryd.func16, Tryd.ntmps16
  go_wp2
  go_ret
  exact ⟨rfl, Blk.new _ _ _, (Below.refl _ w).alloc (Nat.le_refl _) _⟩

set_option maxHeartbeats 4000000 in
set_option maxRecDepth 100000 in
theorem start_any (w : World) : Calls Tryd.prog 15 #[] w fun e w' => e = .returned (.agg (uv (wList iv)).toArray) ∧ Below w.heap.size w w' := by
  obtain ⟨w1, hw1⟩ : ∃ x, x = w.alloc (.cells (uv [0, 0, 0, 0, 0, 0, 0, 0]).toArray 38) := ⟨_, rfl⟩
  have HR1 : Hid (Blk w1 w.heap.size 38 (uv [0, 0, 0, 0, 0, 0, 0, 0]).toArray) := Lib.hid (by rw [hw1]; exact Blk.new _ _ _)
  have HB1 : Hid (Below w.heap.size w w1) := Lib.hid (by rw [hw1]; exact (Below.refl _ w).alloc (Nat.le_refl _) _)
  have HW1 := Lib.hid hw1
  clear hw1
  go_enter Tryd.func15, Tryd.ntmps15
  go_upto_region 1 with fail
  refine wp_at HW1.out.symm ?_
  clear HW1
  go_wp2_with ((with_reducible refine wpList_store_row ?sg1 38 (.tmp 0) (.tmp 1) ?so1 w.heap.size (uv (wList iv)).toArray ?sx1 ?sy1 38 (uv [0, 0, 0, 0, 0, 0, 0, 0]).toArray ?sb1 ?si1 ?sl1 ?sk1 ?sh1); (case sg1 => rfl); (case so1 => rfl); (case sx1 => rfl); (case sy1 => rfl); (case sb1 => exact HR1.out); (case si1 => rw [info38]; rfl); (case sl1 => rfl); (case sk1 => exact one_uv _))
  (try simp only [Exit.inBlock, Exit.then])
  have hrow := setRow_heap w1 w.heap.size _ (uv (wList iv)).toArray _ _ HR1.out
  refine bodyPost_ret (results_cell_row rfl _ _ w.heap.size 38 (uv (wList iv)).toArray (0, 0) _ rfl hrow Tryd.underlying38 rfl (by rw [info38]; rfl)) rfl ⟨rfl, below_setRow HB1.out (Nat.le_refl _) _⟩

set_option maxHeartbeats 4000000 in
set_option maxRecDepth 100000 in
theorem word_at (q o n c i : Nat) (x0 x1 x2 x3 : UInt8) (w : World) (hi : i + 4 ≤ n) (hn : n ≤ 1099511627776)
    (c0 : w.cell? ⟨q, o + i, none⟩ = some (.int .u8 (B x0))) (c1 : w.cell? ⟨q, o + (i + 1), none⟩ = some (.int .u8 (B x1))) (c2 : w.cell? ⟨q, o + (i + 2), none⟩ = some (.int .u8 (B x2))) (c3 : w.cell? ⟨q, o + (i + 3), none⟩ = some (.int .u8 (B x3))) :
    Calls Tryd.prog 22 #[.slice (some ⟨q, o, none⟩) n c, .int .i64 i] w fun e w' => e = .returned (.int .u32 (U (word x0 x1 x2 x3))) ∧ ∃ m, w' = w.drewN m := by
  have i0 : (0 : Int) ≤ (i : Int) := Int.natCast_nonneg _
  have i1 : (i : Int) + 4 ≤ (n : Int) := by omega
  have i2 : (n : Int) ≤ 1099511627776 := by omega
  have hx := U_or
  have hb0 := B_nonneg
  have hb1 := B_lt
  have hb2 := B_wrap
  have s1 : ∀ x, U x * (16777216 : Int) % (4294967296 : Int) = U (x <<< 24) := fun x => U_shl 24 x 24 rfl
  have s2 : ∀ x, U x * (65536 : Int) % (4294967296 : Int) = U (x <<< 16) := fun x => U_shl 16 x 16 rfl
  have s3 : ∀ x, U x * (256 : Int) % (4294967296 : Int) = U (x <<< 8) := fun x => U_shl 8 x 8 rfl
  go_enter Tryd.func22, Tryd.ntmps22
  go_wp2_with fail
  go_quiet (fail)
  go_wp2_with fail
  go_ret
  exact ⟨rfl, nq, rfl⟩
theorem word_any (q o n c i : Nat) (I : Int) (x0 x1 x2 x3 : UInt8) (w : World) (hI : I = (i : Int)) (hi : i + 4 ≤ n) (hn : n ≤ 1099511627776)
    (c0 : w.cell? ⟨q, o + i, none⟩ = some (.int .u8 (B x0))) (c1 : w.cell? ⟨q, o + (i + 1), none⟩ = some (.int .u8 (B x1))) (c2 : w.cell? ⟨q, o + (i + 2), none⟩ = some (.int .u8 (B x2))) (c3 : w.cell? ⟨q, o + (i + 3), none⟩ = some (.int .u8 (B x3))) :
    Calls Tryd.prog 22 #[.slice (some ⟨q, o, none⟩) n c, .int .i64 I] w fun e w' => e = .returned (.int .u32 (U (word x0 x1 x2 x3))) ∧ ∃ m, w' = w.drewN m := by
  subst hI
  exact word_at q o n c i x0 x1 x2 x3 w hi hn c0 c1 c2 c3
end Go.Proofs.YtjpbhnflhejbpaaDoor.sha
