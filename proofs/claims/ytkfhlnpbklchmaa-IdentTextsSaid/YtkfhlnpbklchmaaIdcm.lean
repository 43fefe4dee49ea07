/-
  petrelref06.Compare.
-/
import Derived.Test.YtkfhlnpbklchmaaIdsp
import Derived.Deep.RegionHeld3
import Derived.Deep.CutRange
import Derived.Deep.CutBlock
namespace Go.Proofs.Ytkfhlnpbklchmaa.ids
open Go.RowKit Go.Proofs.Ytkfhlnpbklchmaa.mem Go.Proofs.Ytkfhlnpbklchmaa.sha

theorem B_lt_iff (a b : UInt8) : B a < B b ↔ a.toNat < b.toNat := by unfold B; omega
theorem box_cell {w : World} {S : Nat} {x : Id} (h : Blk w S 23 (bv x).toArray) (k : Nat) (hk : k < x.length) : w.cell? ⟨S, k, none⟩ = some (.int .u8 (B (x.getD k 0))) := by
  rw [h.cell, List.getElem?_toArray]
  exact bv_get _ _ hk

set_option maxHeartbeats 1000000 in
set_option maxRecDepth 100000 in
theorem rcompare_any (x y : Id) (w : World) (hx : x.length = 32) (hy : y.length = 32) : Calls Try.prog 10 #[idv x, idv y] w fun e w' => e = .returned (.int .i64 (cmpL x y)) ∧ Below w.heap.size w w' := by
  obtain ⟨w1, hw1⟩ : ∃ u, u = (w.alloc (.cells (bv x).toArray 23)).alloc (.cells (bv y).toArray 23) := ⟨_, rfl⟩
  have hX : Blk w1 w.heap.size 23 (bv x).toArray := by rw [hw1]; exact (Blk.new w _ _).alloc _
  have hY : Blk w1 (w.heap.size + 1) 23 (bv y).toArray := by rw [hw1]; exact Blk.at_ (by simp) _ _
  have hB : Below w.heap.size w w1 := by rw [hw1]; exact ((Below.refl _ _).alloc (Nat.le_refl _) _).alloc (by simp) _
  have HW := Lib.hid hw1
  have HX := Lib.hid hX
  have HY := Lib.hid hY
  have HB := Lib.hid hB
  clear hX hY hB hw1
  unfold idv
  go_enter Try.func10, Try.ntmps10
  go_wp2_with fail
  refine wp_at HW.out.symm ?_
  clear HW
  have HXL := Lib.hid hx
  have HYL := Lib.hid hy
  clear hx hy
  go_loopw [5] (fun i wr => ∃ k m : Nat, k ≤ 32 ∧ i = .int .i64 k ∧ cmpL (x.drop k) (y.drop k) = cmpL x y ∧ wr = w1.drewN m) (fun i _ => 32 - (intOf i).toNat)
  case atStart => exact ⟨0, 0, by decide, rfl, rfl, rfl⟩
  case round =>
    obtain ⟨k, m, hk, rfl, hcmp, hwr⟩ := hrel
    have HC := Lib.hid hcmp
    have HW := Lib.hid hwr
    have k0 : (0 : Int) ≤ (k : Int) := Int.natCast_nonneg _
    by_cases hlt : k < 32
    · have kI : (k : Int) < 32 := by omega
      have cx : wr.cell? ⟨w.heap.size, k, none⟩ = some (.int .u8 (B (x.getD k 0))) := by rw [hwr]; exact box_cell HX.out k (by rw [HXL.out]; exact hlt)
      have cy : wr.cell? ⟨w.heap.size + 1, k, none⟩ = some (.int .u8 (B (y.getD k 0))) := by rw [hwr]; exact box_cell HY.out k (by rw [HYL.out]; exact hlt)
      have hst := cmpL_step x y k (by rw [HXL.out]; exact hlt) (by rw [HYL.out]; exact hlt)
      rw [hcmp] at hst
      have HI1 := B_lt_iff (x.getD k 0) (y.getD k 0)
      have HI2 := B_lt_iff (y.getD k 0) (x.getD k 0)
      generalize x.getD k 0 = a at cx hst HI1 HI2
      generalize y.getD k 0 = b at cy hst HI1 HI2
      clear hwr hcmp
      by_cases h1 : B a < B b
      · rw [if_pos (HI1.1 h1)] at hst
        have HS := Lib.hid hst
        clear hst HI1 HI2
        go_wp2_with fail
        go_quiet (fail)
        go_wp2_with fail
        go_ret
        exact ⟨by rw [HS.out]; rfl, by rw [HW.out]; exact below_drewN (below_drewN HB.out m) nq⟩
      · by_cases h2 : B b < B a
        · rw [if_neg (fun h => h1 (HI1.2 h)), if_pos (HI2.1 h2)] at hst
          have HS := Lib.hid hst
          have h1' : B b ≤ B a := by omega
          clear hst HI1 HI2 h1
          go_wp2_with fail
          go_quiet (fail)
          obtain ⟨wq, hwq⟩ : ∃ u, u = wr.drewN nq := ⟨_, rfl⟩
          rw [← hwq]
          replace cx : wq.cell? _ = _ := (congrArg (fun u : World => u.cell? _) hwq).trans cx
          replace cy : wq.cell? _ = _ := (congrArg (fun u : World => u.cell? _) hwq).trans cy
          have HWQ := Lib.hid hwq
          clear hwq
          go_wp2_with fail
          go_quiet (fail)
          go_wp2_with fail
          go_ret
          exact ⟨by rw [HS.out]; rfl, by rw [HWQ.out, HW.out]; exact below_drewN (below_drewN (below_drewN HB.out _) _) _⟩
        · rw [if_neg (fun h => h1 (HI1.2 h)), if_neg (fun h => h2 (HI2.2 h))] at hst
          have HS := Lib.hid hst
          have h1' : B b = B a := by omega
          clear hst HI1 HI2 h1 h2
          rw [h1'] at cy
          clear h1'
          go_wp2_with fail
          go_quiet (fail)
          obtain ⟨wq, hwq⟩ : ∃ u, u = wr.drewN nq := ⟨_, rfl⟩
          rw [← hwq]
          replace cx : wq.cell? _ = _ := (congrArg (fun u : World => u.cell? _) hwq).trans cx
          replace cy : wq.cell? _ = _ := (congrArg (fun u : World => u.cell? _) hwq).trans cy
          have HWQ := Lib.hid hwq
          clear hwq
          go_wp2_with fail
          go_quiet (fail)
          go_wp2_with fail
          go_roundw
          case rel => exact ⟨k + 1, _, hlt, by push_cast; rfl, HS.out.symm, by rw [HWQ.out, HW.out, World.drewN_drewN, World.drewN_drewN]⟩
          case measure => simp [intOf]; omega
    · obtain rfl : k = 32 := by omega
      have h0 : cmpL x y = 0 := by
        rw [← HC.out, List.drop_of_length_le (by rw [HXL.out]; exact Nat.le_refl _), List.drop_of_length_le (by rw [HYL.out]; exact Nat.le_refl _)]
        rfl
      have HS := Lib.hid h0
      clear h0 hlt hcmp hwr
      go_wp2_with fail
      go_ret
      exact ⟨by rw [HS.out]; rfl, by rw [HW.out]; exact below_drewN HB.out _⟩

end Go.Proofs.Ytkfhlnpbklchmaa.ids
