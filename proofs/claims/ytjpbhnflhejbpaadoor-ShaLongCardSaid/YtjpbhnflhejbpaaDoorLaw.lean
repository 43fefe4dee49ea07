/-
  petrellaw02.awake; the walk of ShaPlays.
-/
import Derived.Test.YtjpbhnflhejbpaaDoorRefc
import Derived.Stop.BytesEq
namespace Go.Proofs.YtjpbhnflhejbpaaDoor.sha
open Go.RowKit Go.Proofs.YtjpbhnflhejbpaaDoor.mem

theorem eql_id (w : World) (xs ys : List UInt8) (hx : xs.length = 32) (hy : ys.length = 32) : (binOp .eql 24 (.agg (bv xs).toArray) (.agg (bv ys).toArray)).run Tryd.prog w = .ok (.bool (xs == ys)) w := by
  obtain ⟨y, hy5, _, hs, _⟩ := info_parts info5
  exact run_eql_bytes w 24 5 32 Tryd.underlying24 Tryd.underlying5 (fun w => by simp [sizeOf, typeInfo, hy5, hs]) xs ys hx hy
theorem eqi_id (w : World) (xs ys : List UInt8) (hx : xs.length = 32) (hy : ys.length = 32) : (Op.equalIn 10000 24 (.agg (bv xs).toArray) (.agg (bv ys).toArray)).run Tryd.prog w = .ok (xs == ys) w := by
  obtain ⟨y, hy5, _, hs, _⟩ := info_parts info5
  exact run_equalIn_bytes w 9998 24 5 32 Tryd.underlying24 Tryd.underlying5 (fun w => by simp [sizeOf, typeInfo, hy5, hs]) xs ys hx hy
theorem neq_id (w : World) (xs ys : List UInt8) (hx : xs.length = 32) (hy : ys.length = 32) : (binOp .neq 24 (.agg (bv xs).toArray) (.agg (bv ys).toArray)).run Tryd.prog w = .ok (.bool (!(xs == ys))) w := by
  rw [run_neq_struct, eqi_id w xs ys hx hy]
  rfl
theorem digest_len (l : List UInt8) : (digest l).length = 32 := rfl
theorem eql_same (w : World) (l : List UInt8) : (binOp .eql 24 (.agg (bv (digest l)).toArray) (.agg (bv (digest l)).toArray)).run Tryd.prog w = .ok (.bool true) w := by
  rw [eql_id w _ _ (digest_len l) (digest_len l), beq_self_eq_true]
theorem neq_same (w : World) (l : List UInt8) : (binOp .neq 24 (.agg (bv (digest l)).toArray) (.agg (bv (digest l)).toArray)).run Tryd.prog w = .ok (.bool false) w := by
  rw [neq_id w _ _ (digest_len l) (digest_len l), beq_self_eq_true]; rfl

set_option maxHeartbeats 1000000 in
set_option maxRecDepth 100000 in
theorem awake_any (w : World) (hT : Tab w) : Calls Tryd.prog 7 #[] w fun e w' => e = .returned (.bool true) ∧ Below w.heap.size w w' := by
  have HT := Lib.hid hT
  clear hT
  go_enter Tryd.func7, Tryd.ntmps7
  go_wp2_with fail
  refine (sum_any ⟨#[97, 98, 99]⟩ _ HT.out (by decide)).mono ?_; rintro e w2 ⟨rfl, hb2⟩
  obtain ⟨w3, hw3⟩ : ∃ x, x = (w2.alloc (.cells (bv z32).toArray 24)).setRow w2.heap.size (bv (digest [97, 98, 99])).toArray := ⟨_, rfl⟩
  have hb3 : Below w.heap.size w w3 := by rw [hw3]; exact below_setRow (hb2.alloc hb2.size _) hb2.size _
  have h3 : Blk w3 w2.heap.size 24 (bv (digest [97, 98, 99])).toArray := by rw [hw3]; exact setRow_heap _ _ (bv z32).toArray _ _ (0, 0) (Blk.new _ _ _)
  rw [digest_abc] at h3
  have c0 : w3.cell? ⟨w2.heap.size, 0, none⟩ = some (.int .u8 186) := h3.cell 0
  have c1 : w3.cell? ⟨w2.heap.size, 1, none⟩ = some (.int .u8 120) := h3.cell 1
  have c31 : w3.cell? ⟨w2.heap.size, 31, none⟩ = some (.int .u8 173) := h3.cell 31
  have HB3 := Lib.hid hb3
  have HW3 := Lib.hid hw3
  clear h3 hw3 hb3 hb2
  go_wp2_with ((with_reducible refine wpList_store_row ?sg1 24 (.tmp 1) (.tmp 2) ?so1 w2.heap.size (bv (digest [97, 98, 99])).toArray ?sx1 ?sy1 24 (bv z32).toArray ?sb1 ?si1 ?sl1 ?sk1 ?sh1); (case sg1 => rfl); (case so1 => rfl); (case sx1 => rfl); (case sy1 => rfl); (case sb1 => exact Blk.new _ _ _); (case si1 => rw [info24]; rfl); (case sl1 => rfl); (case sk1 => exact one_bv _); refine wpl_at HW3.out.symm ?_)
  go_ret
  exact ⟨rfl, HB3.out⟩

set_option maxHeartbeats 1000000 in
set_option maxRecDepth 100000 in
theorem plays_walk (s : ByteArray) (w : World) (hT : Tab w) : Calls Tryd.prog 3 #[.string s] w fun e w' => e = .returned (.bool true) ∧ Below w.heap.size w w' := by
  have HT := Lib.hid hT
  clear hT
  by_cases hs : 3000 < s.size
  · have hs' : (3000 : Int) < (s.size : Int) := by omega
    go_enter Tryd.func3, Tryd.ntmps3
    go_wp2_with (go_at_call 7; refine (awake_any _ HT.out).mono ?_; rintro e w1 ⟨rfl, hb1⟩)
    go_ret
    exact ⟨rfl, hb1⟩
  · have hs' : (s.size : Int) ≤ 3000 := by omega
    have heq := fun u : World => eql_same u s.data.toList
    go_enter Tryd.func3, Tryd.ntmps3
    go_wp2_with (first
      | (go_at_call 8; refine (sum_any s _ HT.out (by omega)).mono ?_; rintro e w1 ⟨rfl, hb1⟩)
      | (go_at_call 9; refine (rsum_any s _ (by omega)).mono ?_; rintro e w2 ⟨rfl, hb2⟩)
      | (go_at_call 7; refine (awake_any _ ((HT.out.next hb1).next (by exact hb2))).mono ?_; rintro e w3 ⟨rfl, hb3⟩))
    go_ret
    exact ⟨rfl, (hb1.trans (hb2.mono hb1.size)).trans (hb3.mono (Nat.le_trans hb1.size hb2.size))⟩
end Go.Proofs.YtjpbhnflhejbpaaDoor.sha
