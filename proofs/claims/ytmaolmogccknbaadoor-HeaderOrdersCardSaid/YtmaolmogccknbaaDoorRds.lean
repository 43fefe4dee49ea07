/-
  petrelref01.Reader by plain functions: what is left, and the first error (no ids).
  petrelref01.Reader.Id: an id out of 32 bytes.
  petrelref01.Reader.End.
  petrelref01.Reader by plain functions: what is left, and the first error.
-/
import Derived.Test.YtmaolmogccknbaaDoorOpp
import Derived.Test.YtmaolmogccknbaaDoorRef1
import Derived.Test.YtmaolmogccknbaaDoorSha
import Derived.Deep.RegionWith
import Derived.Deep.CutRange
import Derived.Deep.CutBlock
import Derived.Test.YtmaolmogccknbaaDoorTop
import Derived.Test.YtmaolmogccknbaaDoorIda
namespace Go.Proofs.YtmaolmogccknbaaDoor.opn
open Go.RowKit Go.Proofs.YtmaolmogccknbaaDoor.mem Go.Proofs.YtmaolmogccknbaaDoor.sha

def Sr (x : ByteArray × Int) (st : St) : Prop := st.2 = x.2 ∧ (x.2 = 0 → x.1 = oct.tx st.1)
theorem sr_take {x : ByteArray × Int} {st : St} (h : Sr x st) (n : Nat) : (oct.xTake x n).1 = oct.tx (rd n st).1 ∧ Sr (oct.xTake x n).2 (rd n st).2 := by
  obtain ⟨s, e⟩ := x
  obtain ⟨l, e'⟩ := st
  obtain ⟨h1, h2⟩ := h
  simp only at h1 h2
  subst h1
  unfold oct.xTake rd
  by_cases h0 : e' = 0
  · subst h0
    obtain rfl := h2 rfl
    simp only [ne_eq, not_true, if_false]
    rw [if_neg (by omega), oct.tx_size]
    by_cases hl : l.length < n
    · rw [if_pos (by omega), if_pos hl]
      exact ⟨rfl, rfl, fun h => absurd (show (2 : Int) = 0 from h) (by decide)⟩
    · rw [if_neg (by omega), if_neg hl]
      simp only [Int.toNat_natCast]
      refine ⟨?_, rfl, fun _ => ?_⟩
      · rw [oct.tx_extract, List.drop_zero]
      · rw [oct.tx_extract, List.take_of_length_le (Nat.le_refl _)]
  · simp only [ne_eq, h0, not_false_eq_true, if_true]
    exact ⟨rfl, rfl, fun h => absurd h h0⟩
theorem sr_num {x : ByteArray × Int} {st : St} (h : Sr x st) (b : Nat) (hb : b = 1 ∨ b = 2 ∨ b = 4) : (oct.xNum x b).1 = (rdN b st).1 ∧ Sr (oct.xNum x b).2 (rdN b st).2 := by
  have hs := sr_take h b
  unfold oct.xNum rdN
  by_cases h0 : x.2 = 0
  · rw [if_neg (by simpa using h0), if_neg (by rcases hb with rfl | rfl | rfl <;> decide)]
    refine ⟨?_, hs.2⟩
    rw [hs.1, oct.tx_list]
    rfl
  · rw [if_pos h0, rd]
    rw [if_pos (by rw [h.1]; exact h0)]
    exact ⟨rfl, h.1, fun hh => absurd hh h0⟩
theorem rdN_nonneg (b : Nat) (st : St) : 0 ≤ (rdN b st).1 := num_nonneg _
theorem rd_len (n : Nat) (st : St) : (rd n st).1.length = 0 ∨ (rd n st).1.length = n := by
  unfold rd
  repeat' split
  · exact .inl rfl
  · exact .inl rfl
  · right; rw [List.length_take]; omega
theorem rdN1_lt (st : St) : (rdN 1 st).1 < 256 := by
  show num (rd 1 st).1 < 256
  rcases rd_len 1 st with h | h
  · rw [List.eq_nil_of_length_eq_zero h]; decide
  · match (rd 1 st).1, h with
    | [b], _ =>
      have := b.toNat_lt
      simp only [num, List.foldl_cons, List.foldl_nil]; omega
theorem rdN4_lt (st : St) : (rdN 4 st).1 < 4294967296 := by
  show num (rd 4 st).1 < 4294967296
  rcases rd_len 4 st with h | h
  · rw [List.eq_nil_of_length_eq_zero h]; decide
  · match (rd 4 st).1, h with
    | [a, b, c, d], _ =>
      have := a.toNat_lt
      have := b.toNat_lt
      have := c.toNat_lt
      have := d.toNat_lt
      simp only [num, List.foldl_cons, List.foldl_nil]; omega
theorem rdN2_lt (st : St) : (rdN 2 st).1 < 65536 := by
  show num (rd 2 st).1 < 65536
  rcases rd_len 2 st with h | h
  · rw [List.eq_nil_of_length_eq_zero h]; decide
  · match (rd 2 st).1, h with
    | [a, b], _ =>
      have := a.toNat_lt
      have := b.toNat_lt
      simp only [num, List.foldl_cons, List.foldl_nil]; omega
/-- a Reader in block g, by what is left and the first error -/
def RdrS (w : World) (g : Nat) (st : St) : Prop := ∃ s e, oct.XBlk w g s e ∧ Sr (s, e) st
theorem RdrS.turn {F : Nat → Prop} {w w' : World} {g : Nat} {st : St} (h : RdrS w g st) (ht : Turn F w w') (hg : ¬ F g) : RdrS w' g st := by
  obtain ⟨s, e, hx, hs⟩ := h
  exact ⟨s, e, Blk.turn hx ht hg, hs⟩
theorem RdrS.err {w : World} {g : Nat} {st : St} (h : RdrS w g st) : w.cell? ⟨g, 1, none⟩ = some (.int .i64 st.2) := by
  obtain ⟨s, e, hx, hs⟩ := h
  rw [hs.1]
  exact hx.c1
theorem RdrS.lt {w : World} {g : Nat} {st : St} (h : RdrS w g st) : g < w.heap.size := by
  obtain ⟨s, e, hx, hs⟩ := h
  exact Blk.lt hx
theorem num_s (g : Nat) (st : St) (b : Nat) (hb : b = 1 ∨ b = 2 ∨ b = 4) (w : World) (h : RdrS w g st) :
    Calls Tryd.prog 58 #[.pointer (some ⟨g, 0, none⟩), .int .i64 (b : Int)] w fun e w' => e = .returned (.int .i64 (rdN b st).1) ∧ RdrS w' g (rdN b st).2 ∧ Turn (· = g) w w' := by
  obtain ⟨s, e, hx, hs⟩ := h
  refine (oct.xnum_any (· = g) g s e b w hx rfl).mono ?_
  rintro e2 w2 ⟨rfl, h2, ht⟩
  have := sr_num hs b hb
  exact ⟨by rw [this.1], ⟨_, _, h2, this.2⟩, ht⟩
theorem num1_s (g : Nat) (st : St) (w : World) (h : RdrS w g st) :
    Calls Tryd.prog 58 #[.pointer (some ⟨g, 0, none⟩), .int .i64 1] w fun e w' => e = .returned (.int .i64 (rdN 1 st).1) ∧ RdrS w' g (rdN 1 st).2 ∧ Turn (· = g) w w' := num_s g st 1 (.inl rfl) w h
theorem num2_s (g : Nat) (st : St) (w : World) (h : RdrS w g st) :
    Calls Tryd.prog 58 #[.pointer (some ⟨g, 0, none⟩), .int .i64 2] w fun e w' => e = .returned (.int .i64 (rdN 2 st).1) ∧ RdrS w' g (rdN 2 st).2 ∧ Turn (· = g) w w' := num_s g st 2 (.inr (.inl rfl)) w h
theorem num4_s (g : Nat) (st : St) (w : World) (h : RdrS w g st) :
    Calls Tryd.prog 58 #[.pointer (some ⟨g, 0, none⟩), .int .i64 4] w fun e w' => e = .returned (.int .i64 (rdN 4 st).1) ∧ RdrS w' g (rdN 4 st).2 ∧ Turn (· = g) w w' := num_s g st 4 (.inr (.inr rfl)) w h
theorem raw_s (g : Nat) (st : St) (n : Int) (hn : 0 ≤ n) (w : World) (h : RdrS w g st) :
    Calls Tryd.prog 59 #[.pointer (some ⟨g, 0, none⟩), .int .i64 n] w fun e w' => e = .returned (.string (oct.tx (rd n.toNat st).1)) ∧ RdrS w' g (rd n.toNat st).2 ∧ Turn (· = g) w w' := by
  obtain ⟨s, e, hx, hs⟩ := h
  refine (oct.xraw_any (· = g) g s e n w hx rfl).mono ?_
  rintro e2 w2 ⟨rfl, h2, ht⟩
  have := sr_take hs n.toNat
  rw [Int.toNat_of_nonneg hn] at this
  exact ⟨by rw [this.1], ⟨_, _, h2, this.2⟩, ht⟩
end Go.Proofs.YtmaolmogccknbaaDoor.opn

namespace Go.Proofs.YtmaolmogccknbaaDoor.opn
open Go.RowKit Go.Proofs.YtmaolmogccknbaaDoor.mem Go.Proofs.YtmaolmogccknbaaDoor.sha Go.Proofs.YtmaolmogccknbaaDoor.ids

/-- the first k bytes, and zeros -/
def xAcc (t : List UInt8) (k : Nat) : List UInt8 := t.take k ++ List.replicate (32 - k) 0
theorem xAcc_len (t : List UInt8) (k : Nat) (h : k ≤ t.length) (hk : k ≤ 32) : (xAcc t k).length = 32 := by
  unfold xAcc
  rw [List.length_append, List.length_take, List.length_replicate]; omega
theorem xAcc_set (t : List UInt8) (k : Nat) (h : k < t.length) (hk : k < 32) : (xAcc t k).set k (t.getD k 0) = xAcc t (k + 1) := by
  unfold xAcc
  have hl : (t.take k).length = k := by rw [List.length_take]; omega
  rw [List.set_append_right _ _ (by rw [hl]; exact Nat.le_refl _), hl, Nat.sub_self, show 32 - k = (32 - (k + 1)) + 1 by omega, List.replicate_succ, List.set_cons_zero, List.take_succ_eq_append_getElem h, List.append_assoc, List.getD_eq_getElem?_getD, List.getElem?_eq_getElem h]
  rfl
theorem byte_set {w : World} {S : Nat} {t : TypeId} {l : List UInt8} (h : Blk w S t (bv l).toArray) (j : Nat) (c : UInt8) : Blk (w.setCell ⟨S, j, none⟩ (.int .u8 (B c))) S t (bv (l.set j c)).toArray := by
  have := h.set_ j (.int .u8 (B c))
  rw [List.setIfInBounds_toArray] at this
  unfold bv at this ⊢
  rw [List.map_set]
  exact this
theorem zid_len : zid.length = 32 := by simp [zid]
theorem xAcc_zero (t : List UInt8) : xAcc t 0 = zid := rfl
theorem xAcc_end (t : List UInt8) (h : t.length = 0 ∨ t.length = 32) : xAcc t t.length = mkId t := by
  unfold mkId
  rcases h with h | h
  · rw [List.eq_nil_of_length_eq_zero h, if_pos rfl]; rfl
  · rw [if_neg (fun e => by rw [e] at h; simp at h)]
    unfold xAcc
    rw [h, Nat.sub_self, List.replicate_zero, List.append_nil, ← h, List.take_length]

set_option maxHeartbeats 2000000 in
set_option maxRecDepth 100000 in
theorem xid_any (F : Nat → Prop) (g : Nat) (s : ByteArray) (err : Int) (w : World) (h : oct.XBlk w g s err) (hF : F g) (hn : New F w) :
    Calls Tryd.prog 60 #[.pointer (some ⟨g, 0, none⟩)] w fun e w' => e = .returned (idv (mkId (oct.xTake (s, err) 32).1.data.toList)) ∧ oct.XBlk w' g (oct.xTake (s, err) 32).2.1 (oct.xTake (s, err) 32).2.2 ∧ Turn F w w' := by
  have hsz := oct.xTake_size (s, err) 32
  generalize ht : oct.xTake (s, err) 32 = T at hsz
  have HT := Lib.hid ht
  clear ht
  obtain ⟨T, T2, T3⟩ := T
  have hT : T.data.toList.length = 0 ∨ T.data.toList.length = 32 := by
    simp only at hsz
    have : T.data.toList.length = T.size := by simp
    omega
  have hT32 : T.size ≤ 32 := by simp only at hsz; omega
  have hTL : T.data.toList.length = T.size := by simp
  obtain ⟨w1, hw1⟩ : ∃ u, u = (w.alloc (.cells (bv zid).toArray 23)).alloc (.cells (bv zid).toArray 23) := ⟨_, rfl⟩
  obtain ⟨R, hR⟩ : ∃ S, S = w.heap.size := ⟨_, rfl⟩
  have hX : Blk w1 R 23 (bv zid).toArray := by rw [hw1, hR]; exact (Blk.new w _ _).alloc _
  have hO : Blk w1 (R + 1) 23 (bv zid).toArray := by rw [hw1, hR]; exact Blk.at_ (by simp) _ _
  have hG : oct.XBlk w1 g s err := by rw [hw1]; exact Blk.alloc (Blk.alloc h _) _
  have hgR : g < R := by rw [hR]; exact Blk.lt h
  have htt : Turn F w w1 := by rw [hw1]; exact ((Turn.refl F w).alloc hn _).alloc hn _
  have hFR : F R ∧ F (R + 1) := by rw [hR]; exact ⟨hn _ (Nat.le_refl _), hn _ (Nat.le_succ _)⟩
  have HR1 := Lib.hid hX
  have HO1 := Lib.hid hO
  have HG1 := Lib.hid hG
  have HRR := Lib.hid hR
  have HTT := Lib.hid htt
  have HFR := Lib.hid hFR
  have HTL := Lib.hid hTL
  have HTS := Lib.hid hT
  have HW := Lib.hid hw1
  clear hX hO hG hw1 hR htt hFR hTL hT hsz
  go_enter Tryd.func60, Tryd.ntmps60
  go_upto_region 2 with fail
  refine wp_at HW.out.symm ?_
  rw [← HRR.out]
  clear HW
  go_wp2_with (go_at_call 59; refine (oct.xraw_any (· = g) g s err 32 _ HG1.out rfl).mono ?_; rw [HT.out]; rintro e w2 ⟨rfl, hw2, ht2⟩; have HW2 := Lib.hid hw2; have HT2 := Lib.hid ht2; clear hw2 ht2)
  go_loopw [5] (fun i wr => ∃ k : Nat, k ≤ T.size ∧ i = .int .i64 k ∧ Blk wr R 23 (bv zid).toArray ∧ Blk wr (R + 1) 23 (bv (xAcc T.data.toList k)).toArray ∧ oct.XBlk wr g T2 T3 ∧ Turn F w wr) (fun i _ => T.size - (intOf i).toNat)
  case atStart =>
    exact ⟨0, Nat.zero_le _, rfl, HR1.out.turn HT2.out (Nat.ne_of_gt hgR), HO1.out.turn HT2.out (Nat.ne_of_gt (Nat.lt_succ_of_lt hgR)), HW2.out, HTT.out.trans (HT2.out.mono fun k e => e ▸ hF)⟩
  case round =>
    obtain ⟨k, hk, rfl, hR, hO, hG, htt⟩ := hrel
    have HR := Lib.hid hR
    have HO := Lib.hid hO
    have HG := Lib.hid hG
    have HTW := Lib.hid htt
    have k0 : (0 : Int) ≤ (k : Int) := Int.natCast_nonneg _
    by_cases hlt : k < T.size
    · have k1 : (k : Int) < (T.size : Int) := by omega
      have k2 : (k : Int) < 32 := by omega
      have hcell : ∃ v, wr.cell? ⟨R + 1, k, none⟩ = some v := ⟨_, by rw [hO.cell, List.getElem?_toArray]; exact bv_get _ _ (by rw [xAcc_len _ k (by rw [HTL.out]; exact hk) (by omega)]; omega)⟩
      obtain ⟨cv, hcv⟩ := hcell
      have hfr := hO.frozen k
      have HB : Hid (T.data.toList.getD k 0 = T[k]) := Lib.hid (by
        rw [List.getD_eq_getElem?_getD, List.getElem?_eq_getElem (by rw [HTL.out]; exact hlt)]
        rfl)
      clear hR hO hG htt
      go_wp2_with fail
      go_roundw
      case rel =>
        refine ⟨k + 1, hlt, by push_cast; rfl, HR.out.far (p := ⟨R + 1, k, none⟩) (Nat.ne_of_lt (Nat.lt_succ_self R)) _, ?_, Blk.far HG.out (p := ⟨R + 1, k, none⟩) (Nat.ne_of_lt (Nat.lt_succ_of_lt hgR)) _, HTW.out.setCell (p := ⟨R + 1, k, none⟩) HFR.out.2 _⟩
        have := byte_set HO.out k T[k]
        rw [← HB.out, xAcc_set _ k (by rw [HTL.out]; exact hlt) (by omega), HB.out] at this
        exact this
      case measure => simp [intOf]; omega
    · obtain rfl : k = T.size := by omega
      have hid : (xAcc T.data.toList T.size) = mkId T.data.toList := by
        have := xAcc_end T.data.toList HTS.out
        rw [HTL.out] at this
        exact this
      have hl : (mkId T.data.toList).length = 32 := by
        rw [← hid]
        exact xAcc_len _ _ (by rw [HTL.out]; exact Nat.le_refl _) hT32
      rw [hid] at hO
      have HO2 := Lib.hid hO
      clear hR hO hG htt hlt hid
      have hi : ¬ (T.size : Int) < (T.size : Int) := by omega
      go_upto_region 7 with fail
      refine wp_region_lit ?_
      refine step_load (t := 23) (x := .tmp 3) rfl rfl rfl (box_load HO2.out hl 0) ?_
      refine wpList_store_row rfl 23 (.tmp 2) (.tmp 23) rfl R (bv (mkId T.data.toList)).toArray rfl (by simp [Act.put, Act.eval]) 23 _ HR.out (by rw [info_id']; simp [bv_length, hl]) (by simp [bv_length, zid_len, hl]) (one_bv _) ?_
      go_wp2_with fail
      (try simp only [Exit.inBlock, Exit.then])
      have hrow := setRow_heap wr R _ (bv (mkId T.data.toList)).toArray _ _ HR.out
      refine bodyPost_ret (results_cell_row rfl _ _ R 23 (bv (mkId T.data.toList)).toArray (0, 0) _ rfl hrow Tryd.underlying23 rfl (by rw [info_id']; simp [bv_length, hl])) rfl ⟨rfl, ?_, ?_⟩
      · exact Blk.turn HG.out (turn_row wr R _) (Nat.ne_of_lt hgR)
      · exact HTW.out.trans ((turn_row wr R _).mono fun j e => e ▸ HFR.out.1)
end Go.Proofs.YtmaolmogccknbaaDoor.opn

namespace Go.Proofs.YtmaolmogccknbaaDoor.oct
open Go.RowKit Go.Proofs.YtmaolmogccknbaaDoor.mem

def xEnd (st : ByteArray × Int) : Int := if st.2 ≠ 0 then st.2 else if 0 < st.1.size then 4 else 0
theorem xend_any (g : Nat) (s : ByteArray) (err : Int) (w : World) (h : XBlk w g s err) :
    Calls Tryd.prog 61 #[.pointer (some ⟨g, 0, none⟩)] w fun e w' => e = .returned (.int .i64 (xEnd (s, err))) ∧ w = w' := by
  have c0 := h.c0
  have c1 := h.c1
  by_cases he : err = 0
  · subst he
    by_cases hs : 0 < s.size
    · have e2 : xEnd (s, 0) = 4 := by unfold xEnd; rw [if_neg (by simp), if_pos hs]
      rw [e2]
      clear e2
      go_enter Tryd.func61, Tryd.ntmps61
      go_wp2
      go_ret
      exact ⟨rfl, rfl⟩
    · have e2 : xEnd (s, 0) = 0 := by unfold xEnd; rw [if_neg (by simp), if_neg hs]
      rw [e2]
      clear e2
      go_enter Tryd.func61, Tryd.ntmps61
      go_wp2
      go_ret
      exact ⟨rfl, rfl⟩
  · have e2 : xEnd (s, err) = err := by unfold xEnd; rw [if_pos he]
    rw [e2]
    have hd : (err == 0) = false := by simpa using he
    clear e2 he
    go_enter Tryd.func61, Tryd.ntmps61
    go_wp2
    go_ret
    exact ⟨rfl, rfl⟩
end Go.Proofs.YtmaolmogccknbaaDoor.oct

namespace Go.Proofs.YtmaolmogccknbaaDoor.opn
open Go.RowKit Go.Proofs.YtmaolmogccknbaaDoor.mem Go.Proofs.YtmaolmogccknbaaDoor.sha Go.Proofs.YtmaolmogccknbaaDoor.ids

theorem mkId_len (s : List UInt8) (h : s.length = 0 ∨ s.length = 32) : (mkId s).length = 32 := by
  unfold mkId
  rcases h with h | h
  · rw [if_pos (List.eq_nil_of_length_eq_zero h)]; exact zid_len
  · rw [if_neg (fun e => by rw [e] at h; simp at h)]; exact h
theorem rdI_len (st : St) : (rdI st).1.length = 32 := mkId_len _ (rd_len 32 st)
theorem rdL_ok : ∀ (n : Nat) (st : St), okIds (rdL n st).1
  | 0, _ => okIds.nil
  | n + 1, st => fun x hx => by
    rcases List.mem_cons.1 hx with rfl | h
    · exact rdI_len st
    · exact rdL_ok n _ x h

theorem id_s (F : Nat → Prop) (g : Nat) (st : St) (w : World) (h : RdrS w g st) (hF : F g) (hn : New F w) :
    Calls Tryd.prog 60 #[.pointer (some ⟨g, 0, none⟩)] w fun e w' => e = .returned (idv (rdI st).1) ∧ RdrS w' g (rdI st).2 ∧ Turn F w w' := by
  obtain ⟨s, e, hx, hs⟩ := h
  refine (xid_any F g s e w hx hF hn).mono ?_
  rintro e2 w2 ⟨rfl, h2, ht⟩
  have := sr_take hs 32
  refine ⟨?_, ⟨_, _, h2, this.2⟩, ht⟩
  have e3 : (oct.xTake (s, e) 32).1 = oct.tx (rd 32 st).1 := this.1
  rw [e3, oct.tx_list]
  rfl
theorem sr_end {x : ByteArray × Int} {st : St} (h : Sr x st) : oct.xEnd x = endE st := by
  unfold oct.xEnd endE
  rw [h.1]
  by_cases h0 : x.2 = 0
  · have hn : ¬ (x.2 ≠ 0) := fun hh => hh h0
    rw [if_neg hn, if_neg hn, h.2 h0, oct.tx_size]
    cases st.1 with
    | nil => rfl
    | cons a l => rw [if_pos (by simp), if_neg (by simp)]
  · rw [if_pos h0, if_pos h0]
theorem end_s (g : Nat) (st : St) (w : World) (h : RdrS w g st) :
    Calls Tryd.prog 61 #[.pointer (some ⟨g, 0, none⟩)] w fun e w' => e = .returned (.int .i64 (endE st)) ∧ w = w' := by
  obtain ⟨s, e, hx, hs⟩ := h
  rw [← sr_end hs]
  exact oct.xend_any g s e w hx
end Go.Proofs.YtmaolmogccknbaaDoor.opn
