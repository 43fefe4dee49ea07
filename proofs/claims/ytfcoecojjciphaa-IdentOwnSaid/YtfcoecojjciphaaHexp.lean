/-
  petrelref06.Parse.
-/
import Derived.Test.YtfcoecojjciphaaHexr
import Derived.Laws.ResultCell
import Derived.Laws.CopyOwn
namespace Go.Proofs.Ytfcoecojjciphaa.ids
open Go.RowKit Go.Proofs.Ytfcoecojjciphaa.mem Go.Proofs.Ytfcoecojjciphaa.sha Go.Proofs.Ytfcoecojjciphaa.strx

def zid : Id := List.replicate 32 0
/-- the byte that two signs are -/
def pb (l : List UInt8) (i : Nat) : UInt8 := UInt8.ofNat (16 * halfI (l.getD (2 * i) 0) + halfI (l.getD (2 * i + 1) 0)).toNat
def pAcc (l : List UInt8) (k : Nat) : Id := (List.range k).map (pb l) ++ List.replicate (32 - k) 0
def fine (l : List UInt8) : Prop := l.length = 64 ∧ ∀ j, j < 64 → 0 ≤ halfI (l.getD j 0)
open Classical in
noncomputable def parseOf (l : List UInt8) : Id × Int := if fine l then (pAcc l 32, 0) else (zid, 4)
theorem parse_fine {l : List UInt8} (h : fine l) : parseOf l = (pAcc l 32, 0) := by unfold parseOf; rw [if_pos h]
theorem parse_bad {l : List UInt8} (h : ¬ fine l) : parseOf l = (zid, 4) := by unfold parseOf; rw [if_neg h]
theorem pAcc_zero (l : List UInt8) : pAcc l 0 = zid := rfl
theorem pAcc_len (l : List UInt8) (k : Nat) (h : k ≤ 32) : (pAcc l k).length = 32 := by unfold pAcc; rw [List.length_append, List.length_map, List.length_range, List.length_replicate]; omega
theorem pAcc_set (l : List UInt8) (k : Nat) (h : k < 32) : (pAcc l k).set k (pb l k) = pAcc l (k + 1) := by
  unfold pAcc
  have e : 32 - k = (32 - (k + 1)) + 1 := by omega
  rw [e, List.replicate_succ, List.set_append_right _ _ (by simp), List.length_map, List.length_range, Nat.sub_self, List.set_cons_zero, List.range_succ, List.map_append, List.append_assoc]
  rfl
theorem zid_len : zid.length = 32 := rfl
theorem blk_byte {w : World} {S : Nat} {t : TypeId} {l : List UInt8} (h : Blk w S t (bv l).toArray) (j : Nat) (c : UInt8) : Blk (w.setCell ⟨S, j, none⟩ (.int .u8 (B c))) S t (bv (l.set j c)).toArray := by
  have := h.set_ j (.int .u8 (B c))
  rw [List.setIfInBounds_toArray] at this
  unfold bv at this ⊢
  rw [List.map_set]
  exact this

theorem results_id_int {fn : Func} {p u : Tmp} (h : fn.results = #[.cell p 23, .tmp u]) (tmps : Array Value) (w : World) (g : Nat) (y : Id) (hp : tmps.getD p undef = .pointer (some ⟨g, 0, none⟩)) (hg : Blk w g 23 (bv y).toArray) (hy : y.length = 32) :
    (results fn tmps).run Try.prog w = .ok (.tuple #[idv y, tmps.getD u undef]) w := by
  rw [results_cell_tmp h, hp]
  have hr := run_loadVar_row (P := Try.prog) w g 23 23 (bv y).toArray (0, 0) _ hg Try.underlying23 rfl (by rw [info_id']; simp [bv_length, hy])
  simp [asAddr, hr]
  rfl

theorem step_build0 {ops : Array Oper} {rest : List Oper} {o : Oper} {a : Act} {w : World} {Q : Exit → Act → World → Prop} (hg : o.guard = none) (ho : o.op = .build 23 #[])
    (h : wpList Try.prog ops Q rest (a.put o.dst (.agg (bv zid).toArray)) w) : wpList Try.prog ops Q (o :: rest) a w := by
  refine wpList_plain hg fun K hK => ?_
  have hr : ∀ w : World, (Instr.build 23 #[]).run Try.prog w = .ok (.agg (bv zid).toArray) w := fun _ => by kernel_rfl
  unfold Oper.wp execOp
  simp only [ho, List.map_toArray, List.map_nil, Sem.run_bind, hr, Result.andThen_ok, Sem.run_pure]
  exact hK _ _ h

set_option maxHeartbeats 2000000 in
set_option maxRecDepth 100000 in
theorem rparse_any (l : List UInt8) (w : World) (hl : l.length ≤ 281474976710656) : Calls Try.prog 9 #[.string (bt l)] w fun e w' => e = .returned (.tuple #[idv (parseOf l).1, .int .i64 (parseOf l).2]) ∧ Below w.heap.size w w' := by
  obtain ⟨w1, hw1⟩ : ∃ u, u = (w.alloc (.cells (bv zid).toArray 23)).alloc (.cells (bv zid).toArray 23) := ⟨_, rfl⟩
  obtain ⟨R, hR⟩ : ∃ S, S = w.heap.size := ⟨_, rfl⟩
  have hX : Blk w1 R 23 (bv zid).toArray := by rw [hw1, hR]; exact (Blk.new w _ _).alloc _
  have hO : Blk w1 (R + 1) 23 (bv zid).toArray := by rw [hw1, hR]; exact Blk.at_ (by simp) _ _
  have hB : Below w.heap.size w w1 := by rw [hw1]; exact ((Below.refl _ _).alloc (Nat.le_refl _) _).alloc (by simp) _
  have HR1 := Lib.hid hX
  have HO1 := Lib.hid hO
  have HB1 := Lib.hid hB
  have HRR := Lib.hid hR
  have HW := Lib.hid hw1
  have hlen : ((bt l).size : Int) = (l.length : Int) := by rw [bt_size]
  clear hX hB hw1 hR hO
  go_enter Try.func9, Try.ntmps9
  go_upto_region 2 with fail
  refine wp_at HW.out.symm ?_
  rw [← HRR.out]
  clear HW
  by_cases h64 : l.length = 64
  case neg =>
    have hne : ((l.length : Int) != 64) = true := bne_iff_ne.2 (by omega)
    have HP := Lib.hid (parse_bad (fun h : fine l => h64 h.1))
    clear h64
    go_upto_region 3 with fail
    refine wp_region_lit ?_
    refine step_load (t := 23) (x := .tmp 4) rfl rfl rfl (box_load HO1.out zid_len 0) ?_
    refine wpList_store_row rfl 23 (.tmp 2) (.tmp 11) rfl R (bv zid).toArray rfl (by simp [Act.put, Act.eval]) 23 _ HR1.out (by rw [info_id']; simp [bv_length, zid_len]) (by simp [bv_length, zid_len]) (one_bv _) ?_
    go_wp2_with fail
    (try simp only [Exit.inBlock, Exit.then])
    have hrow := setRow_heap w1 R _ (bv zid).toArray _ _ HR1.out
    refine bodyPost_ret (results_id_int rfl _ _ R zid rfl hrow rfl) rfl ⟨by rw [HP.out]; rfl, ?_⟩
    exact below_setRow HB1.out (by rw [HRR.out]; exact Nat.le_refl _) _
  have hl64 : (l.length : Int) = 64 := by omega
  have H64 := Lib.hid h64
  go_wp2_with fail
  go_loopw [5] (fun i wr => ∃ k : Nat, k ≤ 32 ∧ i = .int .i64 k ∧ (∀ j, j < 2 * k → 0 ≤ halfI (l.getD j 0)) ∧ Blk wr R 23 (bv zid).toArray ∧ Blk wr (R + 1) 23 (bv (pAcc l k)).toArray ∧ Below w.heap.size w wr) (fun i _ => 32 - (intOf i).toNat)
  case atStart => exact ⟨0, by decide, rfl, fun j hj => by omega, HR1.out, HO1.out, HB1.out⟩
  case round =>
    clear HR1 HO1 HB1
    obtain ⟨k, hk, rfl, hno, hR, hO, hB⟩ := hrel
    have HN := Lib.hid hno
    have HR := Lib.hid hR
    have HO := Lib.hid hO
    have HB := Lib.hid hB
    have k0 : (0 : Int) ≤ (k : Int) := Int.natCast_nonneg _
    by_cases hlt : k < 32
    · have k1 : (k : Int) < 32 := by omega
      have hi1 := fun u : World => run_index_int (bt l) (2 * (k : Int)) (2 * k) (by push_cast; rfl) (by rw [bt_size]; omega) u
      have hi2 := fun u : World => run_index_int (bt l) (2 * (k : Int) + 1) (2 * k + 1) (by push_cast; rfl) (by rw [bt_size]; omega) u
      rw [bt_list] at hi1 hi2
      obtain ⟨x1, hx1⟩ : ∃ x, x = l.getD (2 * k) 0 := ⟨_, rfl⟩
      obtain ⟨x2, hx2⟩ : ∃ x, x = l.getD (2 * k + 1) 0 := ⟨_, rfl⟩
      rw [← hx1] at hi1
      rw [← hx2] at hi2
      have HA := Lib.hid (rhalf_any x1)
      have HC := Lib.hid (rhalf_any x2)
      obtain ⟨a1, a2⟩ := halfI_range x1
      obtain ⟨b1, b2⟩ := halfI_range x2
      obtain ⟨z, hz⟩ : ∃ z, z = pb l k := ⟨_, rfl⟩
      have hzB : 0 ≤ halfI x1 → 0 ≤ halfI x2 → 16 * halfI x1 + halfI x2 = B z := fun h1 h2 => by
        rw [hz]
        unfold pb B
        rw [← hx1, ← hx2]
        have : (16 * halfI x1 + halfI x2).toNat < 256 := by omega
        rw [UInt8.toNat_ofNat_of_lt' (by exact this)]
        omega
      have HX1 := Lib.hid hx1
      have HX2 := Lib.hid hx2
      obtain ⟨ha, hha⟩ : ∃ z, z = halfI x1 := ⟨_, rfl⟩
      obtain ⟨hb, hhb⟩ : ∃ z, z = halfI x2 := ⟨_, rfl⟩
      rw [← hha] at HA a1 a2 hzB
      rw [← hhb] at HC b1 b2 hzB
      have HHA := Lib.hid hha
      have HHB := Lib.hid hhb
      have hcell : ∃ v, wr.cell? ⟨R + 1, k, none⟩ = some v := ⟨_, by rw [hO.cell, List.getElem?_toArray]; exact bv_get _ _ (by rw [pAcc_len l k hk]; exact hlt)⟩
      obtain ⟨cv, hcv⟩ := hcell
      have hfr := hO.frozen k
      have HZ := Lib.hid hz
      clear hx1 hx2 hha hhb hno hR hO hB hz
      by_cases h1 : ha < 0
      · have HP := Lib.hid (parse_bad (fun h : fine l => by have := h.2 (2 * k) (by omega); rw [← HX1.out, ← HHA.out] at this; omega))
        clear hzB hcv hfr a1
        go_upto_region 10 with (first
          | (go_at_call 32; with_reducible refine (HA.out _).mono ?_; rintro e w' ⟨rfl, rfl⟩)
          | (go_at_call 32; with_reducible refine (HC.out _).mono ?_; rintro e w' ⟨rfl, rfl⟩))
        refine wp_region_lit ?_
        refine step_build0 rfl rfl ?_
        refine wpList_store_row rfl 23 (.tmp 2) (.tmp 33) rfl R (bv zid).toArray rfl (by simp [Act.put, Act.eval]) 23 _ HR.out (by rw [info_id']; simp [bv_length, zid_len]) (by simp [bv_length, zid_len]) (one_bv _) ?_
        go_wp2_with fail
        (try simp only [Exit.inBlock, Exit.then])
        have hrow := setRow_heap wr R _ (bv zid).toArray _ _ HR.out
        refine bodyPost_ret (results_id_int rfl _ _ R zid rfl hrow rfl) rfl ⟨by rw [HP.out]; rfl, ?_⟩
        exact below_setRow HB.out (by rw [HRR.out]; exact Nat.le_refl _) _
      · have h1' : 0 ≤ ha := by omega
        clear h1
        by_cases h2 : hb < 0
        · have HP := Lib.hid (parse_bad (fun h : fine l => by have := h.2 (2 * k + 1) (by omega); rw [← HX2.out, ← HHB.out] at this; omega))
          clear hzB hcv hfr b1
          go_upto_region 10 with (first
            | (go_at_call 32; with_reducible refine (HA.out _).mono ?_; rintro e w' ⟨rfl, rfl⟩)
            | (go_at_call 32; with_reducible refine (HC.out _).mono ?_; rintro e w' ⟨rfl, rfl⟩))
          refine wp_region_lit ?_
          refine step_build0 rfl rfl ?_
          refine wpList_store_row rfl 23 (.tmp 2) (.tmp 33) rfl R (bv zid).toArray rfl (by simp [Act.put, Act.eval]) 23 _ HR.out (by rw [info_id']; simp [bv_length, zid_len]) (by simp [bv_length, zid_len]) (one_bv _) ?_
          go_wp2_with fail
          (try simp only [Exit.inBlock, Exit.then])
          have hrow := setRow_heap wr R _ (bv zid).toArray _ _ HR.out
          refine bodyPost_ret (results_id_int rfl _ _ R zid rfl hrow rfl) rfl ⟨by rw [HP.out]; rfl, ?_⟩
          exact below_setRow HB.out (by rw [HRR.out]; exact Nat.le_refl _) _
        · have h2' : 0 ≤ hb := by omega
          have hzz := hzB h1' h2'
          clear h2 hzB a1 b1
          go_wp2_with (first
            | (go_at_call 32; with_reducible refine (HA.out _).mono ?_; rintro e w' ⟨rfl, rfl⟩)
            | (go_at_call 32; with_reducible refine (HC.out _).mono ?_; rintro e w' ⟨rfl, rfl⟩))
          go_roundw
          case rel =>
            refine ⟨k + 1, hlt, by push_cast; rfl, fun j hj => ?_, HR.out.far (p := ⟨R + 1, k, none⟩) (Nat.ne_of_lt (Nat.lt_succ_self R)) _, ?_, HB.out.setCell (p := ⟨R + 1, k, none⟩) (by show w.heap.size ≤ R + 1; rw [HRR.out]; omega) _⟩
            · rcases Nat.lt_or_ge j (2 * k) with h | h
              · exact HN.out j h
              · rcases (show j = 2 * k ∨ j = 2 * k + 1 by omega) with rfl | rfl
                · rw [← HX1.out, ← HHA.out]; exact h1'
                · rw [← HX2.out, ← HHB.out]; exact h2'
            · have := blk_byte HO.out k z
              rw [HZ.out, pAcc_set l k hlt] at this
              rw [HZ.out]
              exact this
          case measure => simp [intOf]; omega
    · obtain rfl : k = 32 := by omega
      have HP := Lib.hid (parse_fine (show fine l from ⟨H64.out, hno⟩))
      clear hno hR hO hB hlt
      go_upto_region 12 with fail
      refine wp_region_lit ?_
      refine step_load (t := 23) (x := .tmp 4) rfl rfl rfl (box_load HO.out (pAcc_len l 32 (Nat.le_refl _)) 0) ?_
      refine wpList_store_row rfl 23 (.tmp 2) (.tmp 41) rfl R (bv (pAcc l 32)).toArray rfl (by simp [Act.put, Act.eval]) 23 _ HR.out (by rw [info_id']; simp [bv_length, zid_len, pAcc_len l 32 (Nat.le_refl _)]) (by simp [bv_length, zid_len, pAcc_len l 32 (Nat.le_refl _)]) (one_bv _) ?_
      go_wp2_with fail
      (try simp only [Exit.inBlock, Exit.then])
      have hrow := setRow_heap wr R _ (bv (pAcc l 32)).toArray _ _ HR.out
      refine bodyPost_ret (results_id_int rfl _ _ R (pAcc l 32) rfl hrow (pAcc_len l 32 (Nat.le_refl _))) rfl ⟨by rw [HP.out]; rfl, ?_⟩
      exact below_setRow HB.out (by rw [HRR.out]; exact Nat.le_refl _) _
end Go.Proofs.Ytfcoecojjciphaa.ids
