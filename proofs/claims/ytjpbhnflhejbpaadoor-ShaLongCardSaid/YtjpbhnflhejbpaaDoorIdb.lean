/-
  The Hash as the model holds it; its words as an id.
-/
import Derived.Test.YtjpbhnflhejbpaaDoorTurn
namespace Go.Proofs.YtjpbhnflhejbpaaDoor.sha
open Go.RowKit Go.Proofs.YtjpbhnflhejbpaaDoor.mem

/-- a Hash's block: made, its words, its block of bytes, how many bytes were written -/
def HBlk (w : World) (g : Nat) (ws : W8) (bl : List UInt8) (n : Int) : Prop :=
  Blk w g 41 (Value.bool true :: (uv (wList ws) ++ (bv bl ++ [.int .i64 n]))).toArray
section
variable {w : World} {g : Nat} {ws : W8} {bl : List UInt8} {n : Int}
theorem HBlk.c0 (h : HBlk w g ws bl n) : w.cell? ⟨g, 0, none⟩ = some (.bool true) := by rw [Blk.cell h]; rfl
theorem HBlk.word (h : HBlk w g ws bl n) (j : Nat) (hj : j < 8) : w.cell? ⟨g, 1 + j, none⟩ = some (.int .u32 (U ((wList ws).getD j 0))) := by
  rw [Blk.cell h, List.getElem?_toArray, Nat.add_comm 1 j, List.getElem?_cons_succ, List.getElem?_append_left (by rw [uv_length]; exact hj)]
  exact uv_get _ _ hj
theorem HBlk.byte (h : HBlk w g ws bl n) (j : Nat) (hj : j < bl.length) : w.cell? ⟨g, 9 + j, none⟩ = some (.int .u8 (B (bl.getD j 0))) := by
  rw [Blk.cell h, List.getElem?_toArray, show 9 + j = (8 + j) + 1 by omega, List.getElem?_cons_succ, List.getElem?_append_right (by rw [uv_length]; exact Nat.le_add_right 8 j), uv_length,
    show 8 + j - (wList ws).length = j from Nat.add_sub_cancel_left 8 j, List.getElem?_append_left (by rw [bv_length]; exact hj)]
  exact bv_get _ _ hj
theorem HBlk.len (h : HBlk w g ws bl n) (hl : bl.length = 64) : w.cell? ⟨g, 73, none⟩ = some (.int .i64 n) := by
  rw [Blk.cell h, List.getElem?_toArray, List.getElem?_cons_succ, List.getElem?_append_right (by rw [uv_length]; exact Nat.le_add_right 8 64), uv_length,
    show 72 - (wList ws).length = 64 from rfl, List.getElem?_append_right (by rw [bv_length, hl]; exact Nat.le_refl _), bv_length, hl]
  rfl
end

/-- the id behind i words -/
def idAcc (ws : W8) (i : Nat) : List UInt8 := (idb ws).take (4 * i) ++ List.replicate (32 - 4 * i) 0
theorem idAcc_end (ws : W8) : idAcc ws 8 = idb ws := rfl
theorem idAcc_len (ws : W8) (i : Nat) (hi : i < 8) : (idAcc ws i).length = 32 := by
  rcases lt8 hi with rfl | rfl | rfl | rfl | rfl | rfl | rfl | rfl <;> rfl
theorem idAcc_set (ws : W8) (i : Nat) (hi : i < 8) (x : UInt32) (hx : x = (wList ws).getD i 0) :
    ((((idAcc ws i).set (4 * i) (x >>> 24).toUInt8).set (4 * i + 1) (x >>> 16).toUInt8).set (4 * i + 2) (x >>> 8).toUInt8).set (4 * i + 3) x.toUInt8 = idAcc ws (i + 1) := by
  subst hx
  rcases lt8 hi with rfl | rfl | rfl | rfl | rfl | rfl | rfl | rfl <;> rfl
theorem U_byte (x : UInt32) : IntKind.u8.wrap (U x) = B x.toUInt8 := by
  rw [IntKind.wrap_u8']
  unfold U B
  rw [UInt32.toNat_toUInt8]
  omega
theorem info24 : (Tryd.prog.info? 24).map (·.size) = some 32 := by kernel_rfl
theorem blk_bset {w : World} {g : Nat} {t : TypeId} {l : List UInt8} (h : Blk w g t (bv l).toArray) (i : Nat) (x : UInt8) : Blk (w.setCell ⟨g, i, none⟩ (.int .u8 (B x))) g t (bv (l.set i x)).toArray := by
  have := h.set_ i (.int .u8 (B x))
  rw [List.setIfInBounds_toArray] at this
  unfold bv at this ⊢
  rw [List.map_set]
  exact this

set_option maxHeartbeats 4000000 in
set_option maxRecDepth 100000 in
theorem id_any (g : Nat) (ws : W8) (bl : List UInt8) (n : Int) (w : World) (h : HBlk w g ws bl n) : Calls Tryd.prog 19 #[.pointer (some ⟨g, 0, none⟩)] w fun e w' =>
    e = .returned (.agg (bv (idb ws)).toArray) ∧ Below w.heap.size w w' := by
  obtain ⟨S, hS⟩ : ∃ g, g = w.heap.size := ⟨_, rfl⟩
  obtain ⟨w3, hw3⟩ : ∃ x, x = ((w.alloc (.cells (bv (List.replicate 32 0)).toArray 24)).alloc (.cells (bv (List.replicate 32 0)).toArray 24)) := ⟨_, rfl⟩
  have hB0 : Below S w w3 := by
    subst hS; subst hw3
    exact ((Below.refl _ _).alloc (Nat.le_refl _) _).alloc (by simp) _
  have hR : Blk w3 w.heap.size 24 (bv (List.replicate 32 0)).toArray := by subst hw3; exact (Blk.new _ _ _).alloc _
  have hI : Blk w3 (w.heap.size + 1) 24 (bv (List.replicate 32 0)).toArray := by subst hw3; exact Blk.at_ (by simp) _ _
  have hH : HBlk w3 g ws bl n := Blk.below h hB0 (hS ▸ Blk.lt h)
  have hg : g < w.heap.size := Blk.lt h
  have c1 : w3.cell? ⟨g, 1, none⟩ = some (.int .u32 (U ws.a)) := hH.word 0 (by decide)
  have c2 : w3.cell? ⟨g, 2, none⟩ = some (.int .u32 (U ws.b)) := hH.word 1 (by decide)
  have c3 : w3.cell? ⟨g, 3, none⟩ = some (.int .u32 (U ws.c)) := hH.word 2 (by decide)
  have c4 : w3.cell? ⟨g, 4, none⟩ = some (.int .u32 (U ws.d)) := hH.word 3 (by decide)
  have c5 : w3.cell? ⟨g, 5, none⟩ = some (.int .u32 (U ws.e)) := hH.word 4 (by decide)
  have c6 : w3.cell? ⟨g, 6, none⟩ = some (.int .u32 (U ws.f)) := hH.word 5 (by decide)
  have c7 : w3.cell? ⟨g, 7, none⟩ = some (.int .u32 (U ws.g)) := hH.word 6 (by decide)
  have c8 : w3.cell? ⟨g, 8, none⟩ = some (.int .u32 (U ws.h)) := hH.word 7 (by decide)
  have HR := Lib.hid hR
  have HI := Lib.hid hI
  have HB := Lib.hid hB0
  have HW := Lib.hid hw3
  clear hR hI hB0 hw3 hH h
  go_enter Tryd.func19, Tryd.ntmps19
  go_upto_region 2 with fail
  refine wp_at HW.out.symm ?_
  clear HW
  go_wp2_with fail
  have HB0 : Hid (Below w.heap.size w w3) := Lib.hid (hS ▸ HB.out)
  clear HB c1 c2 c3 c4 c5 c6 c7 c8 hS
  go_loopw [10] (fun v wr => ∃ i : Nat, i ≤ 8 ∧ v = .int .i64 i ∧ Blk wr w.heap.size 24 (bv (List.replicate 32 0)).toArray ∧ Blk wr (w.heap.size + 1) 24 (bv (idAcc ws i)).toArray ∧ Below w.heap.size w wr) (fun v _ => 8 - (intOf v).toNat)
  case atStart => exact ⟨0, by omega, rfl, HR.out, HI.out, HB0.out⟩
  case round =>
    clear HR HI HB0
    obtain ⟨i, hi, rfl, hR, hI, hB⟩ := hrel
    have HR := Lib.hid hR
    have HI := Lib.hid hI
    have HB := Lib.hid hB
    by_cases hlt : i < 8
    · have f0 := hI.frozen (4 * i)
      have f1 := hI.frozen (4 * i + 1)
      have f2 := hI.frozen (4 * i + 2)
      have f3 := hI.frozen (4 * i + 3)
      have hcc : ∀ j, j < 32 → ∃ v, wr.cell? ⟨w.heap.size + 1, j, none⟩ = some v := fun j hj => by
        rw [hI.cell, List.getElem?_toArray, bv_get _ _ (by rw [idAcc_len _ _ hlt]; exact hj)]
        exact ⟨_, rfl⟩
      obtain ⟨v0, c0⟩ := hcc (4 * i) (by omega)
      obtain ⟨v1, c1⟩ := hcc (4 * i + 1) (by omega)
      obtain ⟨v2, c2⟩ := hcc (4 * i + 2) (by omega)
      obtain ⟨v3, c3⟩ := hcc (4 * i + 3) (by omega)
      have hvi : (uv (wList ws)).toArray[i]? = some (Value.int .u32 (U ((wList ws).getD i 0))) := by rw [List.getElem?_toArray]; exact uv_get _ _ hlt
      have hix := fun u : World => run_index8 #[.int .u32 (U ws.a), .int .u32 (U ws.b), .int .u32 (U ws.c), .int .u32 (U ws.d), .int .u32 (U ws.e), .int .u32 (U ws.f), .int .u32 (U ws.g), .int .u32 (U ws.h)] i _ hvi hlt u
      obtain ⟨x, hx⟩ : ∃ x, x = (wList ws).getD i 0 := ⟨_, rfl⟩
      rw [← hx] at hix
      have HX := Lib.hid hx
      clear hR hI hB hvi hx hcc
      have hlt' : (i : Int) < 8 := by omega
      have i0 : (0 : Int) ≤ (i : Int) := by omega
      have s1 : ∀ x, U x / (16777216 : Int) = U (x >>> 24) := fun x => U_shr 24 x 24 rfl
      have s2 : ∀ x, U x / (65536 : Int) = U (x >>> 16) := fun x => U_shr 16 x 16 rfl
      have s3 : ∀ x, U x / (256 : Int) = U (x >>> 8) := fun x => U_shr 8 x 8 rfl
      have hb := U_byte
      have hn := U_nonneg
      go_wp2_with fail
      trace_state
      go_roundw
      case rel => exact ⟨i + 1, by omega, by push_cast; rfl, ((((HR.out.far (p := ⟨w.heap.size + 1, _, none⟩) (Nat.ne_of_lt (Nat.lt_succ_self _)) _).far (p := ⟨w.heap.size + 1, _, none⟩) (Nat.ne_of_lt (Nat.lt_succ_self _)) _).far (p := ⟨w.heap.size + 1, _, none⟩) (Nat.ne_of_lt (Nat.lt_succ_self _)) _).far (p := ⟨w.heap.size + 1, _, none⟩) (Nat.ne_of_lt (Nat.lt_succ_self _)) _),
        idAcc_set ws i hlt x HX.out ▸ blk_bset (blk_bset (blk_bset (blk_bset HI.out _ _) _ _) _ _) _ _,
        (((HB.out.setCell (Nat.le_succ _) _).setCell (Nat.le_succ _) _).setCell (Nat.le_succ _) _).setCell (Nat.le_succ _) _⟩
      case measure => simp [intOf]; omega
    · obtain rfl : i = 8 := by omega
      clear hR hI hB hlt
      go_upto_region 7 with fail
      refine wp_region_lit ?_
      refine wpList_load_row rfl 24 (.tmp 3) rfl (w.heap.size + 1) rfl 24 _ (0, 0) _ HI.out Tryd.underlying24 rfl (by rw [info24]; rfl) ?_
      refine wpList_store_row rfl 24 (.tmp 2) (.tmp 41) rfl w.heap.size (bv (idAcc ws 8)).toArray rfl (by simp [Act.put, Act.eval]) 24 _ HR.out (by rw [info24]; rfl) rfl ?_ ?_
      · exact one_bv _
      go_wp2_with fail
      (try simp only [Exit.inBlock, Exit.then])
      have hrow := setRow_heap wr w.heap.size _ (bv (idAcc ws 8)).toArray _ _ HR.out
      refine bodyPost_ret (results_cell_row rfl _ _ w.heap.size 24 (bv (idAcc ws 8)).toArray (0, 0) _ rfl hrow Tryd.underlying24 rfl (by rw [info24]; rfl)) rfl ⟨?_, ?_⟩
      · rw [idAcc_end]
      · exact below_setRow HB.out (Nat.le_refl _) _
end Go.Proofs.YtjpbhnflhejbpaaDoor.sha
