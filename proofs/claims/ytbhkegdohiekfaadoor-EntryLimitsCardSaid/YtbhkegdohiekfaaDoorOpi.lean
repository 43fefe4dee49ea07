/-
  petrelref01.Reader.Id: an id out of 32 bytes.
-/
import Derived.Test.YtbhkegdohiekfaaDoorOpia
import Derived.Test.YtbhkegdohiekfaaDoorRef1
import Derived.Test.YtbhkegdohiekfaaDoorIda
import Derived.Deep.RegionWith
import Derived.Deep.CutRange
import Derived.Deep.CutBlock
namespace Go.Proofs.YtbhkegdohiekfaaDoor.opn
open Go.RowKit Go.Proofs.YtbhkegdohiekfaaDoor.mem Go.Proofs.YtbhkegdohiekfaaDoor.sha Go.Proofs.YtbhkegdohiekfaaDoor.ids

set_option maxHeartbeats 2000000 in
set_option maxRecDepth 100000 in
theorem xid_any (F : Nat → Prop) (g : Nat) (s : ByteArray) (err : Int) (w : World) (h : oct.XBlk w g s err) (hF : F g) (hn : New F w) :
    Calls Tryd.prog 39 #[.pointer (some ⟨g, 0, none⟩)] w fun e w' => e = .returned (idv (mkId (oct.xTake (s, err) 32).1.data.toList)) ∧ oct.XBlk w' g (oct.xTake (s, err) 32).2.1 (oct.xTake (s, err) 32).2.2 ∧ Turn F w w' := by
  have hsz := oct.xTake_size (s, err) 32
  generalize ht : oct.xTake (s, err) 32 = T at hsz
  have HT := Lib.hid ht
  clear ht
  obtain ⟨T, T2, T3⟩ := T
  have hT : T.data.toList.length = 0 ∨ T.data.toList.length = 32 := by
    simp only at hsz
    have : T.data.toList.length = T.size := by simp
    omega
  have hT32 : T.size ≤ 32 := by simp only at hsz; omega
  have hTL : T.data.toList.length = T.size := by simp
  obtain ⟨w1, hw1⟩ : ∃ u, u = (w.alloc (.cells (bv zid).toArray 23)).alloc (.cells (bv zid).toArray 23) := ⟨_, rfl⟩
  obtain ⟨R, hR⟩ : ∃ S, S = w.heap.size := ⟨_, rfl⟩
  have hX : Blk w1 R 23 (bv zid).toArray := by rw [hw1, hR]; exact (Blk.new w _ _).alloc _
  have hO : Blk w1 (R + 1) 23 (bv zid).toArray := by rw [hw1, hR]; exact Blk.at_ (by simp) _ _
  have hG : oct.XBlk w1 g s err := by rw [hw1]; exact Blk.alloc (Blk.alloc h _) _
  have hgR : g < R := by rw [hR]; exact Blk.lt h
  have htt : Turn F w w1 := by rw [hw1]; exact ((Turn.refl F w).alloc hn _).alloc hn _
  have hFR : F R ∧ F (R + 1) := by rw [hR]; exact ⟨hn _ (Nat.le_refl _), hn _ (Nat.le_succ _)⟩
  have HR1 := Lib.hid hX
  have HO1 := Lib.hid hO
  have HG1 := Lib.hid hG
  have HRR := Lib.hid hR
  have HTT := Lib.hid htt
  have HFR := Lib.hid hFR
  have HTL := Lib.hid hTL
  have HTS := Lib.hid hT
  have HW := Lib.hid hw1
  clear hX hO hG hw1 hR htt hFR hTL hT hsz
  go_enter Tryd.func39, Tryd.ntmps39
  go_upto_region 2 with fail
  refine wp_at HW.out.symm ?_
  rw [← HRR.out]
  clear HW
  go_wp2_with (go_at_call 38; refine (oct.xraw_any (· = g) g s err 32 _ HG1.out rfl).mono ?_; rw [HT.out]; rintro e w2 ⟨rfl, hw2, ht2⟩; have HW2 := Lib.hid hw2; have HT2 := Lib.hid ht2; clear hw2 ht2)
  go_loopw [5] (fun i wr => ∃ k : Nat, k ≤ T.size ∧ i = .int .i64 k ∧ Blk wr R 23 (bv zid).toArray ∧ Blk wr (R + 1) 23 (bv (xAcc T.data.toList k)).toArray ∧ oct.XBlk wr g T2 T3 ∧ Turn F w wr) (fun i _ => T.size - (intOf i).toNat)
  case atStart =>
    exact ⟨0, Nat.zero_le _, rfl, HR1.out.turn HT2.out (Nat.ne_of_gt hgR), HO1.out.turn HT2.out (Nat.ne_of_gt (Nat.lt_succ_of_lt hgR)), HW2.out, HTT.out.trans (HT2.out.mono fun k e => e ▸ hF)⟩
  case round =>
    obtain ⟨k, hk, rfl, hR, hO, hG, htt⟩ := hrel
    have HR := Lib.hid hR
    have HO := Lib.hid hO
    have HG := Lib.hid hG
    have HTW := Lib.hid htt
    have k0 : (0 : Int) ≤ (k : Int) := Int.natCast_nonneg _
    by_cases hlt : k < T.size
    · have k1 : (k : Int) < (T.size : Int) := by omega
      have k2 : (k : Int) < 32 := by omega
      have hcell : ∃ v, wr.cell? ⟨R + 1, k, none⟩ = some v := ⟨_, by rw [hO.cell, List.getElem?_toArray]; exact bv_get _ _ (by rw [xAcc_len _ k (by rw [HTL.out]; exact hk) (by omega)]; omega)⟩
      obtain ⟨cv, hcv⟩ := hcell
      have hfr := hO.frozen k
      have HB : Hid (T.data.toList.getD k 0 = T[k]) := Lib.hid (by
        rw [List.getD_eq_getElem?_getD, List.getElem?_eq_getElem (by rw [HTL.out]; exact hlt)]
        rfl)
      clear hR hO hG htt
      go_wp2_with fail
      go_roundw
      case rel =>
        refine ⟨k + 1, hlt, by push_cast; rfl, HR.out.far (p := ⟨R + 1, k, none⟩) (Nat.ne_of_lt (Nat.lt_succ_self R)) _, ?_, Blk.far HG.out (p := ⟨R + 1, k, none⟩) (Nat.ne_of_lt (Nat.lt_succ_of_lt hgR)) _, HTW.out.setCell (p := ⟨R + 1, k, none⟩) HFR.out.2 _⟩
        have := byte_set HO.out k T[k]
        rw [← HB.out, xAcc_set _ k (by rw [HTL.out]; exact hlt) (by omega), HB.out] at this
        exact this
      case measure => simp [intOf]; omega
    · obtain rfl : k = T.size := by omega
      have hid : (xAcc T.data.toList T.size) = mkId T.data.toList := by
        have := xAcc_end T.data.toList HTS.out
        rw [HTL.out] at this
        exact this
      have hl : (mkId T.data.toList).length = 32 := by
        rw [← hid]
        exact xAcc_len _ _ (by rw [HTL.out]; exact Nat.le_refl _) hT32
      rw [hid] at hO
      have HO2 := Lib.hid hO
      clear hR hO hG htt hlt hid
      have hi : ¬ (T.size : Int) < (T.size : Int) := by omega
      go_upto_region 7 with fail
      refine wp_region_lit ?_
      refine step_load (t := 23) (x := .tmp 3) rfl rfl rfl (box_load HO2.out hl 0) ?_
      refine wpList_store_row rfl 23 (.tmp 2) (.tmp 23) rfl R (bv (mkId T.data.toList)).toArray rfl (by simp [Act.put, Act.eval]) 23 _ HR.out (by rw [info_id']; simp [bv_length, hl]) (by simp [bv_length, zid_len, hl]) (one_bv _) ?_
      go_wp2_with fail
      (try simp only [Exit.inBlock, Exit.then])
      have hrow := setRow_heap wr R _ (bv (mkId T.data.toList)).toArray _ _ HR.out
      refine bodyPost_ret (results_cell_row rfl _ _ R 23 (bv (mkId T.data.toList)).toArray (0, 0) _ rfl hrow Tryd.underlying23 rfl (by rw [info_id']; simp [bv_length, hl])) rfl ⟨rfl, ?_, ?_⟩
      · exact Blk.turn HG.out (turn_row wr R _) (Nat.ne_of_lt hgR)
      · exact HTW.out.trans ((turn_row wr R _).mono fun j e => e ▸ HFR.out.1)
end Go.Proofs.YtbhkegdohiekfaaDoor.opn
