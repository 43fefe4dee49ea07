/-
  sha.spread: the 64 words of a block.
-/
import Derived.Test.YtmaolmogccknbaaDoorRot
import Derived.Deep.WholeRow
import Derived.BigRegion
import Derived.Laws.CopyOwn
import Derived.Laws.CopyRow
import Derived.Deep.DeepCutAuto
import Derived.Deep.CutBlock
import Derived.Deep.CutRange
namespace Go.Proofs.YtmaolmogccknbaaDoor.sha
open Go.RowKit Go.Proofs.YtmaolmogccknbaaDoor.mem

/-- what the first loop keeps -/
def SprIs (w : World) (G : Nat) (b : List UInt8) (i : Nat) : Prop :=
  Blk w G 127 (bv b).toArray ∧ Blk w (G + 1) 131 (uv (List.replicate 64 0)).toArray ∧ Blk w (G + 2) 131 (uv (wrow (ms b) i)).toArray

theorem info51 : (Tryd.prog.info? 131).map (·.size) = some 64 := by kernel_rfl
theorem SprIs.step {w : World} {G : Nat} {b : List UInt8} {i : Nat} (h : SprIs w G b i) (hi : i < 64) (x : UInt32) (hx : x = if i < 16 then ms b i else nw (wl (ms b) i)) :
    SprIs (w.setCell ⟨G + 1 + 1, i, none⟩ (.int .u32 (U x))).drew G b (i + 1) := by
  obtain ⟨hA, hR, hW⟩ := h
  refine ⟨hA.far (p := ⟨G + 1 + 1, i, none⟩) (show G ≠ G + 1 + 1 by omega) _, hR.far (p := ⟨G + 1 + 1, i, none⟩) (show G + 1 ≠ G + 1 + 1 by omega) _, ?_⟩
  have := hW.set_ i (.int .u32 (U x))
  have e := wrow_set (ms b) i hi
  rw [← hx] at e
  rw [List.setIfInBounds_toArray, e] at this
  exact this
theorem SprIs.get {w : World} {G : Nat} {b : List UInt8} {i : Nat} (h : SprIs w G b i) (hi : i ≤ 64) (j : Nat) (hj : j < i) : w.cell? ⟨G + 1 + 1, j, none⟩ = some (.int .u32 (U ((wl (ms b) i).getD j 0))) := by
  rw [h.2.2.cell, List.getElem?_toArray, uv_get _ _ (by rw [wrow_length _ _ hi]; omega), wrow_get _ _ _ hj]
theorem SprIs.has {w : World} {G : Nat} {b : List UInt8} {i : Nat} (h : SprIs w G b i) (hi : i < 64) : ∃ v, w.cell? ⟨G + 1 + 1, i, none⟩ = some v := by
  rw [h.2.2.cell, List.getElem?_toArray, uv_get _ _ (by rw [wrow_length _ _ (by omega)]; omega)]
  exact ⟨_, rfl⟩
set_option maxHeartbeats 4000000 in
set_option maxRecDepth 100000 in
theorem spread_any (b : List UInt8) (hb : b.length = 64) (w : World) : Calls Tryd.prog 103 #[.agg (bv b).toArray] w fun e w' =>
    e = .returned (.agg (uv (sched b)).toArray) ∧ Below w.heap.size w w' := by
  obtain ⟨G, hG⟩ : ∃ g, g = w.heap.size := ⟨_, rfl⟩
  have hS0 : SprIs (((w.alloc (.cells (bv b).toArray 127)).alloc (.cells (uv (List.replicate 64 0)).toArray 131)).alloc (.cells (uv (List.replicate 64 0)).toArray 131)) G b 0 := by
    subst hG
    exact ⟨((Blk.new w _ _).alloc _).alloc _, (Blk.at_ (by simp) _ _).alloc _, Blk.at_ (by simp) _ _⟩
  have hB0 : Below G w (((w.alloc (.cells (bv b).toArray 127)).alloc (.cells (uv (List.replicate 64 0)).toArray 131)).alloc (.cells (uv (List.replicate 64 0)).toArray 131)) := by
    subst hG
    exact (((Below.refl _ _).alloc (Nat.le_refl _) _).alloc (by simp) _).alloc (by simp; omega) _
  have HS0 := Lib.hid hS0
  have HB0 := Lib.hid hB0
  clear hS0 hB0
  go_enter Tryd.func103, Tryd.ntmps103
  go_wp2_with fail
  go_loopw [8] (fun v wr => ∃ i : Nat, i ≤ 16 ∧ v = .int .i64 i ∧ SprIs wr G b i ∧ Below G w wr) (fun v _ => 16 - (intOf v).toNat)
  case atStart => exact ⟨0, by omega, rfl, HS0.out, HB0.out⟩
  case round =>
    obtain ⟨i, hi, rfl, hS, hB⟩ := hrel
    by_cases hlt : i < 16
    · have hlt' : (i : Int) < 16 := by omega
      have i0 : (0 : Int) ≤ (i : Int) := Int.natCast_nonneg _
      subst hG
      have SH := Lib.hid hS
      have BH := Lib.hid hB
      obtain ⟨x0, hx0⟩ : ∃ x, x = b.getD (4 * i) 0 := ⟨_, rfl⟩
      obtain ⟨x1, hx1⟩ : ∃ x, x = b.getD (4 * i + 1) 0 := ⟨_, rfl⟩
      obtain ⟨x2, hx2⟩ : ∃ x, x = b.getD (4 * i + 2) 0 := ⟨_, rfl⟩
      obtain ⟨x3, hx3⟩ : ∃ x, x = b.getD (4 * i + 3) 0 := ⟨_, rfl⟩
      have c0 : wr.cell? ⟨w.heap.size, 4 * i, none⟩ = some (.int .u8 (B x0)) := by rw [hS.1.cell, List.getElem?_toArray, hx0]; exact bv_get _ _ (by omega)
      have c1 : wr.cell? ⟨w.heap.size, 4 * i + 1, none⟩ = some (.int .u8 (B x1)) := by rw [hS.1.cell, List.getElem?_toArray, hx1]; exact bv_get _ _ (by omega)
      have c2 : wr.cell? ⟨w.heap.size, 4 * i + 2, none⟩ = some (.int .u8 (B x2)) := by rw [hS.1.cell, List.getElem?_toArray, hx2]; exact bv_get _ _ (by omega)
      have c3 : wr.cell? ⟨w.heap.size, 4 * i + 3, none⟩ = some (.int .u8 (B x3)) := by rw [hS.1.cell, List.getElem?_toArray, hx3]; exact bv_get _ _ (by omega)
      have hX : Hid (word x0 x1 x2 x3 = if i < 16 then ms b i else nw (wl (ms b) i)) := Lib.hid (by rw [if_pos hlt, hx0, hx1, hx2, hx3]; rfl)
      clear hx0 hx1 hx2 hx3
      obtain ⟨cv, cw⟩ := hS.has (by omega : i < 64)
      have fw : wr.frozen? ⟨w.heap.size + 1 + 1, i, none⟩ = false := hS.2.2.frozen i
      have hx := U_or
      have hb0 := B_nonneg
      have hb1 := B_lt
      have hb2 := B_wrap
      have s1 : ∀ x, U x * (16777216 : Int) % (4294967296 : Int) = U (x <<< 24) := fun x => U_shl 24 x 24 rfl
      have s2 : ∀ x, U x * (65536 : Int) % (4294967296 : Int) = U (x <<< 16) := fun x => U_shl 16 x 16 rfl
      have s3 : ∀ x, U x * (256 : Int) % (4294967296 : Int) = U (x <<< 8) := fun x => U_shl 8 x 8 rfl
      clear hS hB
      go_wp2_with fail
      go_region
      go_wp2_with fail
      go_roundw
      case rel => exact ⟨i + 1, by omega, by push_cast; rfl, SH.out.step (by omega) _ hX.out, (BH.out.setCell (by simp; omega) _).drew⟩
      case measure => simp [intOf]; omega
    · obtain rfl : i = 16 := by omega
      subst hG
      have SH := Lib.hid hS
      have BH := Lib.hid hB
      clear hS hB
      go_wp2_with fail
      go_loopw [5] (fun v wr => ∃ i : Nat, 16 ≤ i ∧ i ≤ 64 ∧ v = .int .i64 i ∧ SprIs wr w.heap.size b i ∧ Below w.heap.size w wr) (fun v _ => 64 - (intOf v).toNat)
      case atStart => exact ⟨16, by omega, by omega, rfl, SH.out, BH.out⟩
      case round =>
        clear SH BH
        obtain ⟨i, hi0, hi, rfl, hS, hB⟩ := hrel
        by_cases hlt : i < 64
        · have hlt' : (i : Int) < 64 := by omega
          have i0 : (16 : Int) ≤ (i : Int) := by omega
          obtain ⟨y0, hy0⟩ : ∃ x, x = (wl (ms b) i).getD (i - 16) 0 := ⟨_, rfl⟩
          obtain ⟨y1, hy1⟩ : ∃ x, x = (wl (ms b) i).getD (i - 15) 0 := ⟨_, rfl⟩
          obtain ⟨y2, hy2⟩ : ∃ x, x = (wl (ms b) i).getD (i - 7) 0 := ⟨_, rfl⟩
          obtain ⟨y3, hy3⟩ : ∃ x, x = (wl (ms b) i).getD (i - 2) 0 := ⟨_, rfl⟩
          have SH := Lib.hid hS
          have BH := Lib.hid hB
          have c0 := hS.get hi (i - 16) (by omega)
          have c1 := hS.get hi (i - 15) (by omega)
          have c2 := hS.get hi (i - 7) (by omega)
          have c3 := hS.get hi (i - 2) (by omega)
          rw [← hy0] at c0
          rw [← hy1] at c1
          rw [← hy2] at c2
          rw [← hy3] at c3
          have hX : Hid (y0 + sig0 y1 + y2 + sig1 y3 = if i < 16 then ms b i else nw (wl (ms b) i)) := Lib.hid (by rw [if_neg (by omega), nw, wl_length, hy0, hy1, hy2, hy3])
          clear hy0 hy1 hy2 hy3
          obtain ⟨cv, cw⟩ := hS.has hlt
          have fw : wr.frozen? ⟨w.heap.size + 1 + 1, i, none⟩ = false := hS.2.2.frozen i
          have hx := U_xor
          have ha := U_add
          have hn := U_nonneg
          have s1 : ∀ x, U x / (8 : Int) = U (x >>> 3) := fun x => U_shr 3 x 3 rfl
          have s2 : ∀ x, U x / (1024 : Int) = U (x >>> 10) := fun x => U_shr 10 x 10 rfl
          clear hS hB
          go_wp2_with fail
          go_quiet ((go_at_call 112; exact quiet_left (rotr_any _ _ _ (by decide))))
          obtain ⟨wq, hwq⟩ : ∃ x, x = wr.drewN nq := ⟨_, rfl⟩
          rw [← hwq]
          have SQ : Hid (SprIs wq w.heap.size b i) := Lib.hid (by rw [hwq]; exact SH.out)
          have BQ : Hid (Below w.heap.size w wq) := Lib.hid (by rw [hwq]; exact below_drewN BH.out _)
          replace c3 : wq.cell? _ = _ := (congrArg (fun x : World => x.cell? _) hwq).trans c3
          replace c0 : wq.cell? _ = _ := (congrArg (fun x : World => x.cell? _) hwq).trans c0
          replace c2 : wq.cell? _ = _ := (congrArg (fun x : World => x.cell? _) hwq).trans c2
          replace cw : wq.cell? _ = _ := (congrArg (fun x : World => x.cell? _) hwq).trans cw
          replace fw : wq.frozen? _ = _ := (congrArg (fun x : World => x.frozen? _) hwq).trans fw
          clear SH BH hwq c1 nq
          go_wp2_with fail
          go_quiet ((go_at_call 112; exact quiet_left (rotr_any _ _ _ (by decide))))
          obtain ⟨wz, hwz⟩ : ∃ x, x = wq.drewN nq := ⟨_, rfl⟩
          rw [← hwz]
          have SZ : Hid (SprIs wz w.heap.size b i) := Lib.hid (by rw [hwz]; exact SQ.out)
          have BZ : Hid (Below w.heap.size w wz) := Lib.hid (by rw [hwz]; exact below_drewN BQ.out _)
          replace c0 : wz.cell? _ = _ := (congrArg (fun x : World => x.cell? _) hwz).trans c0
          replace c2 : wz.cell? _ = _ := (congrArg (fun x : World => x.cell? _) hwz).trans c2
          replace cw : wz.cell? _ = _ := (congrArg (fun x : World => x.cell? _) hwz).trans cw
          replace fw : wz.frozen? _ = _ := (congrArg (fun x : World => x.frozen? _) hwz).trans fw
          clear SQ BQ hwz c3 nq
          go_wp2_with fail
          go_region
          go_wp2_with fail
          go_roundw
          case rel => exact ⟨i + 1, by omega, by omega, by push_cast; rfl, SZ.out.step hlt _ hX.out, (BZ.out.setCell (by simp; omega) _).drew⟩
          case measure => simp [intOf]; omega
        · obtain rfl : i = 64 := by omega
          obtain ⟨hA, hR, hW⟩ := hS
          have HR := Lib.hid hR
          have HW := Lib.hid hW
          have HB := Lib.hid hB
          clear hA hR hW hB
          go_upto_region 13 with fail
          refine wp_region_lit ?_
          refine wpList_load_row rfl 131 (.tmp 3) rfl (w.heap.size + 1 + 1) rfl 131 _ (0, 0) _ HW.out Tryd.underlying131 rfl (by rw [info51]; simp [uv_length, wrow_length]) ?_
          refine wpList_store_row rfl 131 (.tmp 2) (.tmp 96) rfl (w.heap.size + 1) (uv (wrow (ms b) 64)).toArray rfl (by simp [Act.put, Act.eval]) 131 _ HR.out (by rw [info51]; simp [uv_length, wrow_length]) (by simp [uv_length, wrow_length]) ?_ ?_
          · exact one_uv _
          go_wp2_with fail
          (try simp only [Exit.inBlock, Exit.then])
          have hrow := setRow_heap wr (w.heap.size + 1) _ (uv (wrow (ms b) 64)).toArray _ _ HR.out
          refine bodyPost_ret (results_cell_row rfl _ _ (w.heap.size + 1) 131 (uv (wrow (ms b) 64)).toArray (0, 0) _ rfl hrow Tryd.underlying131 rfl (by rw [info51]; simp [uv_length, wrow_length])) rfl ⟨?_, ?_⟩
          · rw [wrow_last]; rfl
          · exact below_setRow HB.out (Nat.le_succ _) _
end Go.Proofs.YtmaolmogccknbaaDoor.sha
