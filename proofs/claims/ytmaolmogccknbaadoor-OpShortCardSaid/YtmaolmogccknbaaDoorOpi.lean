/-
  Sets of ids by plain functions (petrelref06).
  petrelref01.Reader.Id: an id out of 32 bytes.
-/
import Derived.Test.YtmaolmogccknbaaDoorIda
import Derived.Test.YtmaolmogccknbaaDoorOpp
import Derived.Test.YtmaolmogccknbaaDoorRef1
import Derived.Deep.RegionWith
import Derived.Deep.CutRange
import Derived.Deep.CutBlock
namespace Go.Proofs.YtmaolmogccknbaaDoor.ids
open Go.RowKit Go.Proofs.YtmaolmogccknbaaDoor.mem Go.Proofs.YtmaolmogccknbaaDoor.sha

abbrev Id := List UInt8
def cmpL : Id → Id → Int
  | [], [] => 0
  | [], _ :: _ => -1
  | _ :: _, [] => 1
  | a :: x, b :: y => if a.toNat < b.toNat then -1 else if b.toNat < a.toNat then 1 else cmpL x y
def withL (L : List Id) (x : Id) : List Id := if L.contains x then L else L.takeWhile (fun y => decide (cmpL y x < 0)) ++ x :: L.dropWhile (fun y => decide (cmpL y x < 0))
def setL (L : List Id) : List Id := L.foldl withL []
def neX (x y : Id) : Bool := y != x
def woutL (L : List Id) (x : Id) : List Id := L.filter (neX x)
def notIn (M : List Id) (x : Id) : Bool := !M.contains x
def lessL (L M : List Id) : List Id := (setL L).filter (notIn M)
def bothL (L M : List Id) : List Id := M.foldl withL (setL L)

theorem withL_ok {L : List Id} {x : Id} (h : okIds L) (hx : x.length = 32) : okIds (withL L x) := by
  unfold withL
  split
  · exact h
  · intro y hy
    rcases List.mem_append.1 hy with hy | hy
    · exact h y ((List.takeWhile_sublist _).mem hy)
    · rcases List.mem_cons.1 hy with rfl | hy
      · exact hx
      · exact h y ((List.dropWhile_sublist _).mem hy)
theorem foldl_with_ok : ∀ {M L : List Id}, okIds L → okIds M → okIds (M.foldl withL L)
  | [], _, h, _ => h
  | x :: M, L, h, hM => foldl_with_ok (M := M) (L := withL L x) (withL_ok h (hM x List.mem_cons_self)) (fun y hy => hM y (List.mem_cons_of_mem _ hy))
theorem setL_ok {L : List Id} (h : okIds L) : okIds (setL L) := foldl_with_ok okIds.nil h
theorem withL_len (L : List Id) (x : Id) : (withL L x).length ≤ L.length + 1 := by
  unfold withL
  split
  · omega
  · rw [List.length_append, List.length_cons]
    have := congrArg List.length (List.takeWhile_append_dropWhile (p := fun y => decide (cmpL y x < 0)) (l := L))
    rw [List.length_append] at this
    omega
theorem foldl_with_len : ∀ (M L : List Id), (M.foldl withL L).length ≤ L.length + M.length
  | [], L => Nat.le_refl _
  | x :: M, L => by
    have h1 := foldl_with_len M (withL L x)
    have h2 := withL_len L x
    rw [List.foldl_cons, List.length_cons]
    omega
theorem setL_len (L : List Id) : (setL L).length ≤ L.length := by have := foldl_with_len L []; rw [List.length_nil, Nat.zero_add] at this; exact this

/-! The order. -/
theorem cmpL_self : ∀ x : Id, cmpL x x = 0
  | [] => rfl
  | a :: x => by rw [cmpL, if_neg (Nat.lt_irrefl _), if_neg (Nat.lt_irrefl _), cmpL_self x]
theorem cmpL_zero : ∀ x y : Id, cmpL x y = 0 → x = y
  | [], [], _ => rfl
  | [], _ :: _, h => by cases h
  | _ :: _, [], h => by cases h
  | a :: x, b :: y, h => by
    rw [cmpL] at h
    split at h
    · cases h
    · split at h
      · cases h
      · rw [cmpL_zero x y h, UInt8.toNat_inj.1 (show a.toNat = b.toNat by omega)]
theorem cmpL_neg : ∀ x y : Id, cmpL y x = - cmpL x y
  | [], [] => rfl
  | [], _ :: _ => rfl
  | _ :: _, [] => rfl
  | a :: x, b :: y => by
    rw [cmpL, cmpL, cmpL_neg x y]
    repeat' split
    all_goals omega
theorem cmpL_range : ∀ x y : Id, cmpL x y = -1 ∨ cmpL x y = 0 ∨ cmpL x y = 1
  | [], [] => .inr (.inl rfl)
  | [], _ :: _ => .inl rfl
  | _ :: _, [] => .inr (.inr rfl)
  | a :: x, b :: y => by
    rw [cmpL]
    repeat' split
    · exact .inl rfl
    · exact .inr (.inr rfl)
    · exact cmpL_range x y
theorem cmpL_trans : ∀ x y z : Id, cmpL x y < 0 → cmpL y z < 0 → cmpL x z < 0
  | [], [], _, h, _ => by simp [cmpL] at h
  | [], _ :: _, [], _, h => by simp [cmpL] at h
  | [], _ :: _, _ :: _, _, _ => by simp [cmpL]
  | _ :: _, [], _, h, _ => by simp [cmpL] at h
  | _ :: _, _ :: _, [], _, h => by simp [cmpL] at h
  | a :: x, b :: y, c :: z, h, k => by
    have ih := cmpL_trans x y z
    rw [cmpL] at h k ⊢
    repeat' split at h
    all_goals repeat' split at k
    all_goals repeat' split
    all_goals first
      | omega
      | exact ih h k
theorem cmpL_step (x y : Id) (k : Nat) (hx : k < x.length) (hy : k < y.length) : cmpL (x.drop k) (y.drop k) = if (x.getD k 0).toNat < (y.getD k 0).toNat then -1 else if (y.getD k 0).toNat < (x.getD k 0).toNat then 1 else cmpL (x.drop (k + 1)) (y.drop (k + 1)) := by
  rw [List.drop_eq_getElem_cons hx, List.drop_eq_getElem_cons hy, cmpL, List.getD_eq_getElem?_getD, List.getD_eq_getElem?_getD, List.getElem?_eq_getElem hx, List.getElem?_eq_getElem hy]
  rfl
end Go.Proofs.YtmaolmogccknbaaDoor.ids

namespace Go.Proofs.YtmaolmogccknbaaDoor.opn
open Go.RowKit Go.Proofs.YtmaolmogccknbaaDoor.mem Go.Proofs.YtmaolmogccknbaaDoor.sha Go.Proofs.YtmaolmogccknbaaDoor.ids

/-- the first k bytes, and zeros -/
def xAcc (t : List UInt8) (k : Nat) : List UInt8 := t.take k ++ List.replicate (32 - k) 0
theorem xAcc_len (t : List UInt8) (k : Nat) (h : k ≤ t.length) (hk : k ≤ 32) : (xAcc t k).length = 32 := by
  unfold xAcc
  rw [List.length_append, List.length_take, List.length_replicate]; omega
theorem xAcc_set (t : List UInt8) (k : Nat) (h : k < t.length) (hk : k < 32) : (xAcc t k).set k (t.getD k 0) = xAcc t (k + 1) := by
  unfold xAcc
  have hl : (t.take k).length = k := by rw [List.length_take]; omega
  rw [List.set_append_right _ _ (by rw [hl]; exact Nat.le_refl _), hl, Nat.sub_self, show 32 - k = (32 - (k + 1)) + 1 by omega, List.replicate_succ, List.set_cons_zero, List.take_succ_eq_append_getElem h, List.append_assoc, List.getD_eq_getElem?_getD, List.getElem?_eq_getElem h]
  rfl
theorem byte_set {w : World} {S : Nat} {t : TypeId} {l : List UInt8} (h : Blk w S t (bv l).toArray) (j : Nat) (c : UInt8) : Blk (w.setCell ⟨S, j, none⟩ (.int .u8 (B c))) S t (bv (l.set j c)).toArray := by
  have := h.set_ j (.int .u8 (B c))
  rw [List.setIfInBounds_toArray] at this
  unfold bv at this ⊢
  rw [List.map_set]
  exact this
theorem zid_len : zid.length = 32 := by simp [zid]
theorem xAcc_zero (t : List UInt8) : xAcc t 0 = zid := rfl
theorem xAcc_end (t : List UInt8) (h : t.length = 0 ∨ t.length = 32) : xAcc t t.length = mkId t := by
  unfold mkId
  rcases h with h | h
  · rw [List.eq_nil_of_length_eq_zero h, if_pos rfl]; rfl
  · rw [if_neg (fun e => by rw [e] at h; simp at h)]
    unfold xAcc
    rw [h, Nat.sub_self, List.replicate_zero, List.append_nil, ← h, List.take_length]

set_option maxHeartbeats 2000000 in
set_option maxRecDepth 100000 in
theorem xid_any (F : Nat → Prop) (g : Nat) (s : ByteArray) (err : Int) (w : World) (h : oct.XBlk w g s err) (hF : F g) (hn : New F w) :
    Calls Tryd.prog 60 #[.pointer (some ⟨g, 0, none⟩)] w fun e w' => e = .returned (idv (mkId (oct.xTake (s, err) 32).1.data.toList)) ∧ oct.XBlk w' g (oct.xTake (s, err) 32).2.1 (oct.xTake (s, err) 32).2.2 ∧ Turn F w w' := by
  have hsz := oct.xTake_size (s, err) 32
  generalize ht : oct.xTake (s, err) 32 = T at hsz
  have HT := Lib.hid ht
  clear ht
  obtain ⟨T, T2, T3⟩ := T
  have hT : T.data.toList.length = 0 ∨ T.data.toList.length = 32 := by
    simp only at hsz
    have : T.data.toList.length = T.size := by simp
    omega
  have hT32 : T.size ≤ 32 := by simp only at hsz; omega
  have hTL : T.data.toList.length = T.size := by simp
  obtain ⟨w1, hw1⟩ : ∃ u, u = (w.alloc (.cells (bv zid).toArray 23)).alloc (.cells (bv zid).toArray 23) := ⟨_, rfl⟩
  obtain ⟨R, hR⟩ : ∃ S, S = w.heap.size := ⟨_, rfl⟩
  have hX : Blk w1 R 23 (bv zid).toArray := by rw [hw1, hR]; exact (Blk.new w _ _).alloc _
  have hO : Blk w1 (R + 1) 23 (bv zid).toArray := by rw [hw1, hR]; exact Blk.at_ (by simp) _ _
  have hG : oct.XBlk w1 g s err := by rw [hw1]; exact Blk.alloc (Blk.alloc h _) _
  have hgR : g < R := by rw [hR]; exact Blk.lt h
  have htt : Turn F w w1 := by rw [hw1]; exact ((Turn.refl F w).alloc hn _).alloc hn _
  have hFR : F R ∧ F (R + 1) := by rw [hR]; exact ⟨hn _ (Nat.le_refl _), hn _ (Nat.le_succ _)⟩
  have HR1 := Lib.hid hX
  have HO1 := Lib.hid hO
  have HG1 := Lib.hid hG
  have HRR := Lib.hid hR
  have HTT := Lib.hid htt
  have HFR := Lib.hid hFR
  have HTL := Lib.hid hTL
  have HTS := Lib.hid hT
  have HW := Lib.hid hw1
  clear hX hO hG hw1 hR htt hFR hTL hT hsz
  go_enter Tryd.func60, Tryd.ntmps60
  go_upto_region 2 with fail
  refine wp_at HW.out.symm ?_
  rw [← HRR.out]
  clear HW
  go_wp2_with (go_at_call 59; refine (oct.xraw_any (· = g) g s err 32 _ HG1.out rfl).mono ?_; rw [HT.out]; rintro e w2 ⟨rfl, hw2, ht2⟩; have HW2 := Lib.hid hw2; have HT2 := Lib.hid ht2; clear hw2 ht2)
  go_loopw [5] (fun i wr => ∃ k : Nat, k ≤ T.size ∧ i = .int .i64 k ∧ Blk wr R 23 (bv zid).toArray ∧ Blk wr (R + 1) 23 (bv (xAcc T.data.toList k)).toArray ∧ oct.XBlk wr g T2 T3 ∧ Turn F w wr) (fun i _ => T.size - (intOf i).toNat)
  case atStart =>
    exact ⟨0, Nat.zero_le _, rfl, HR1.out.turn HT2.out (Nat.ne_of_gt hgR), HO1.out.turn HT2.out (Nat.ne_of_gt (Nat.lt_succ_of_lt hgR)), HW2.out, HTT.out.trans (HT2.out.mono fun k e => e ▸ hF)⟩
  case round =>
    obtain ⟨k, hk, rfl, hR, hO, hG, htt⟩ := hrel
    have HR := Lib.hid hR
    have HO := Lib.hid hO
    have HG := Lib.hid hG
    have HTW := Lib.hid htt
    have k0 : (0 : Int) ≤ (k : Int) := Int.natCast_nonneg _
    by_cases hlt : k < T.size
    · have k1 : (k : Int) < (T.size : Int) := by omega
      have k2 : (k : Int) < 32 := by omega
      have hcell : ∃ v, wr.cell? ⟨R + 1, k, none⟩ = some v := ⟨_, by rw [hO.cell, List.getElem?_toArray]; exact bv_get _ _ (by rw [xAcc_len _ k (by rw [HTL.out]; exact hk) (by omega)]; omega)⟩
      obtain ⟨cv, hcv⟩ := hcell
      have hfr := hO.frozen k
      have HB : Hid (T.data.toList.getD k 0 = T[k]) := Lib.hid (by
        rw [List.getD_eq_getElem?_getD, List.getElem?_eq_getElem (by rw [HTL.out]; exact hlt)]
        rfl)
      clear hR hO hG htt
      go_wp2_with fail
      go_roundw
      case rel =>
        refine ⟨k + 1, hlt, by push_cast; rfl, HR.out.far (p := ⟨R + 1, k, none⟩) (Nat.ne_of_lt (Nat.lt_succ_self R)) _, ?_, Blk.far HG.out (p := ⟨R + 1, k, none⟩) (Nat.ne_of_lt (Nat.lt_succ_of_lt hgR)) _, HTW.out.setCell (p := ⟨R + 1, k, none⟩) HFR.out.2 _⟩
        have := byte_set HO.out k T[k]
        rw [← HB.out, xAcc_set _ k (by rw [HTL.out]; exact hlt) (by omega), HB.out] at this
        exact this
      case measure => simp [intOf]; omega
    · obtain rfl : k = T.size := by omega
      have hid : (xAcc T.data.toList T.size) = mkId T.data.toList := by
        have := xAcc_end T.data.toList HTS.out
        rw [HTL.out] at this
        exact this
      have hl : (mkId T.data.toList).length = 32 := by
        rw [← hid]
        exact xAcc_len _ _ (by rw [HTL.out]; exact Nat.le_refl _) hT32
      rw [hid] at hO
      have HO2 := Lib.hid hO
      clear hR hO hG htt hlt hid
      have hi : ¬ (T.size : Int) < (T.size : Int) := by omega
      go_upto_region 7 with fail
      refine wp_region_lit ?_
      refine step_load (t := 23) (x := .tmp 3) rfl rfl rfl (box_load HO2.out hl 0) ?_
      refine wpList_store_row rfl 23 (.tmp 2) (.tmp 23) rfl R (bv (mkId T.data.toList)).toArray rfl (by simp [Act.put, Act.eval]) 23 _ HR.out (by rw [info_id']; simp [bv_length, hl]) (by simp [bv_length, zid_len, hl]) (one_bv _) ?_
      go_wp2_with fail
      (try simp only [Exit.inBlock, Exit.then])
      have hrow := setRow_heap wr R _ (bv (mkId T.data.toList)).toArray _ _ HR.out
      refine bodyPost_ret (results_cell_row rfl _ _ R 23 (bv (mkId T.data.toList)).toArray (0, 0) _ rfl hrow Tryd.underlying23 rfl (by rw [info_id']; simp [bv_length, hl])) rfl ⟨rfl, ?_, ?_⟩
      · exact Blk.turn HG.out (turn_row wr R _) (Nat.ne_of_lt hgR)
      · exact HTW.out.trans ((turn_row wr R _).mono fun j e => e ▸ HFR.out.1)
end Go.Proofs.YtmaolmogccknbaaDoor.opn
