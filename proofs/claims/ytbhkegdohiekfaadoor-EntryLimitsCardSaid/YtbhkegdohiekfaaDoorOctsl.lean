/-
  The landed wire: Text, Id.
  The landed wire: Text.
  Contracts of package octet: Reader.Left.
-/
import Derived.Test.YtbhkegdohiekfaaDoorRdle
import Derived.Test.YtbhkegdohiekfaaDoorRdx
import Derived.Test.YtbhkegdohiekfaaDoorOpi
import Derived.Test.YtbhkegdohiekfaaDoorOctb
namespace Go.Proofs.YtbhkegdohiekfaaDoor.opn
open Go.RowKit Go.Proofs.YtbhkegdohiekfaaDoor.mem Go.Proofs.YtbhkegdohiekfaaDoor.sha Go.Proofs.YtbhkegdohiekfaaDoor.ids

set_option maxHeartbeats 2000000 in
set_option maxRecDepth 100000 in
theorem rid_s (F : Nat → Prop) (g : Nat) (st : St) (w : World) (h : RdL w g st) (hF : F g) (hn : New F w) :
    Calls Tryd.prog 51 #[.pointer (some ⟨g, 0, none⟩)] w fun e w' => e = .returned (idv (rdI st).1) ∧ RdL w' g (rdI st).2 ∧ Turn F w w' := by
  obtain ⟨w1, hw1⟩ : ∃ u, u = (w.alloc (.cells (bv zid).toArray 23)).alloc (.cells (bv zid).toArray 23) := ⟨_, rfl⟩
  obtain ⟨R, hR⟩ : ∃ S, S = w.heap.size := ⟨_, rfl⟩
  have hX : Blk w1 R 23 (bv zid).toArray := by rw [hw1, hR]; exact (Blk.new w _ _).alloc _
  have hO : Blk w1 (R + 1) 23 (bv zid).toArray := by rw [hw1, hR]; exact Blk.at_ (by simp) _ _
  have htt : Turn F w w1 := by rw [hw1]; exact ((Turn.refl F w).alloc hn _).alloc hn _
  have hgR : g < R := by rw [hR]; exact h.lt
  have hFR : F R ∧ F (R + 1) := by rw [hR]; exact ⟨hn _ (Nat.le_refl _), hn _ (Nat.le_succ _)⟩
  have hG : RdL w1 g st := by
    obtain ⟨s, e, hx, hs⟩ := h
    exact ⟨s, e, by rw [hw1]; exact Blk.alloc (Blk.alloc hx _) _, hs⟩
  have hsz : w1.heap.size = R + 2 := by rw [hw1, hR]; simp
  have hraw := lraw_s (fun k => k = g ∨ R + 2 ≤ k) g st 32 (by decide) w1.drew hG (.inl rfl) (fun k hk => .inr (by have : w1.drew.heap.size = R + 2 := hsz; omega))
  rw [show (32 : Int).toNat = 32 from rfl] at hraw
  obtain ⟨y, hy⟩ : ∃ y, y = (rd 32 st).1 := ⟨_, rfl⟩
  have hyl : y.length = 0 ∨ y.length = 32 := by rw [hy]; exact rd_len 32 st
  obtain ⟨z, hz⟩ : ∃ z, z = (rdI st).1 := ⟨_, rfl⟩
  have hzy : z = mkId y := by rw [hz, hy]; rfl
  have hz32 : z.length = 32 := by rw [hz]; exact rdI_len st
  rw [← hz]
  rw [← hy] at hraw
  have HRAW := Lib.hid hraw
  have HR := Lib.hid hR
  have HW := Lib.hid hw1
  have HX := Lib.hid hX
  have HO := Lib.hid hO
  have HTT := Lib.hid htt
  have HGR := Lib.hid hgR
  have HFR := Lib.hid hFR
  have HY := Lib.hid hyl
  have HZ := Lib.hid hzy
  have HZ32 := Lib.hid hz32
  obtain ⟨t, ht⟩ : ∃ t, t = oct.tx y := ⟨_, rfl⟩
  rw [← ht] at HRAW
  have HT := Lib.hid ht
  clear h hw1 hR hX hO htt hgR hFR hG hsz hraw hy hyl hz hzy hz32 ht
  go_enter Tryd.func51, Tryd.ntmps51
  go_upto_region 2 with fail
  refine wp_at HW.out.symm ?_
  rw [← HR.out]
  clear HW
  refine wp_region_any (by kernel_rfl) ?_
  refine' wpAny_take (i := 0) ?hizz1 (by kernel_rfl) (by kernel_rfl) (by kernel_rfl) ?hqzz1 (Or.inl ⟨?hwzz1, ?hyzz1⟩) ?hrzz1
  case hizz1 => (simp only [List.getElem?_toArray, List.getElem?_cons_succ, List.getElem?_cons_zero]; rfl)
  case hqzz1 => exact fun _ _ _ h => h
  case hwzz1 => rfl
  case hyzz1 => (intro w0; exact run_exec_slice rfl rfl (run_slice_id (R + 1) w0))
  (try simp only [Act.put, List.setIfInBounds_toArray, List.set_cons_zero, List.set_cons_succ])
  refine' wpAny_take (i := 1) ?hizz2 (by kernel_rfl) (by kernel_rfl) (by kernel_rfl) ?hqzz2 (Or.inl ⟨?hwzz2, ?hyzz2⟩) ?hrzz2
  case hizz2 => (simp only [List.getElem?_toArray, List.getElem?_cons_succ, List.getElem?_cons_zero]; rfl)
  case hqzz2 => exact fun _ _ _ h => h
  case hwzz2 => rfl
  case hyzz2 => (intro w0; go_simp; try with_reducible rfl)
  (try simp only [Act.put, List.setIfInBounds_toArray, List.set_cons_zero, List.set_cons_succ])
  refine wpAny_ready (rs := [2]) (by kernel_rfl) (by simp) ?_
  refine' AllReady.cons ?hizz3 (fun K hK => ?hrzz3) AllReady.nil
  case hizz3 => (simp only [List.getElem?_toArray, List.getElem?_cons_succ, List.getElem?_cons_zero]; rfl)
  go_simp
  (with_reducible refine HRAW.out.mono ?_)
  rintro e w2 ⟨rfl, hr2, ht2⟩
  have ht2 : Turn (fun k => k = g ∨ R + 2 ≤ k) w1 w2 := (show Turn _ w1 w1.drew from (Turn.refl _ w1).drewN 1).trans ht2
  have hO2 : Blk w2 (R + 1) 23 (bv zid).toArray := HO.out.turn ht2 (by rintro (e | e) <;> have := HGR.out <;> omega)
  have hX2 : Blk w2 R 23 (bv zid).toArray := HX.out.turn ht2 (by rintro (e | e) <;> have := HGR.out <;> omega)
  have hcp := fun ty : TypeId => Lib.run_copy_row_string (P := Tryd.prog) w2 49 9 ty 5 (R + 1) 0 32 32 t (bv zid).toArray 23 Tryd.underlying49 info_u8 hO2 (by rw [HT.out, oct.tx_size]; rcases HY.out with e | e <;> omega) (by rw [HT.out, oct.tx_size, List.size_toArray, bv_length]; rcases HY.out with e | e <;> rw [e] <;> decide)
  obtain ⟨C, hC⟩ : ∃ C, C = ((bv zid).toArray.toList.take 0 ++ Lib.byteCells t.data.toList ++ (bv zid).toArray.toList.drop (0 + t.size)).toArray := ⟨_, rfl⟩
  rw [← hC] at hcp
  have hCz : C = (bv z).toArray := by rw [hC, HT.out, oct.tx_list, oct.tx_size, byteCells_bv]; exact idcopy HY.out HZ.out
  rw [hCz] at hcp
  have hb3 := setRow_heap w2 (R + 1) _ (bv z).toArray _ _ hO2
  have hld := box_load hb3 HZ32.out 0
  have HO2 := Lib.hid hb3
  have HX3 := Lib.hid (hX2.turn (turn_row w2 (R + 1) (bv z).toArray) (by omega))
  have HT2 := Lib.hid ht2
  have HR2 := Lib.hid hr2
  clear ht2 hr2 hO2 hX2 hC hCz hb3
  refine hK _ _ ?_
  clear hK K
  (try simp only [Act.put, List.setIfInBounds_toArray, List.set_cons_zero, List.set_cons_succ])
  refine wpAny_ready (rs := [3]) (by kernel_rfl) (by simp) ?_
  refine' AllReady.cons ?hizz4 (fun K hK => ?hrzz4) AllReady.nil
  case hizz4 => (simp only [List.getElem?_toArray, List.getElem?_cons_succ, List.getElem?_cons_zero]; rfl)
  go_simp
  refine hK _ _ ?_
  clear hK K
  (try simp only [Act.put, List.setIfInBounds_toArray, List.set_cons_zero, List.set_cons_succ])
  refine wpAny_done (by kernel_rfl) ?_ _
  go_wp2_with (first
    | ((with_reducible refine step_load (t := 23) (x := .tmp 3) (p := ?lp1) (v := ?lv1) ?lg1 ?lo1 ?lx1 ?lr1 ?lh1); (case lg1 => rfl); (case lo1 => rfl); (case lx1 => rfl); (case lr1 => exact hld))
    | ((with_reducible refine step_store_id (x := .tmp 2) (y := .tmp 8) (g := ?sr1) (z := ?sz1) (y' := ?sy1) ?sg1 ?so1 ?sa1 ?sb1 ?sc1 ?sd1 ?se1 ?sh1); (case sg1 => rfl); (case so1 => rfl); (case sa1 => rfl); (case sb1 => rfl); (case sc1 => exact HX3.out); (case sd1 => exact zid_len); (case se1 => exact HZ32.out)))
  refine bodyPost_ret (results_idv rfl _ _ R _ z rfl (setRow_heap _ _ _ _ _ _ HX3.out) HZ32.out) rfl ⟨rfl, ?_, ?_⟩
  · exact (HR2.out.turn (turn_row _ (R + 1) _) (by have := HGR.out; omega)).turn (turn_row _ R _) (by have := HGR.out; omega)
  · have t1 : Turn F w1 _ := HT2.out.mono fun k hk => hk.elim (fun e => e ▸ hF) fun e => hn k (by have := HR.out; omega)
    exact ((HTT.out.trans t1).trans ((turn_row _ (R + 1) _).mono (fun k e => e ▸ HFR.out.2))).trans ((turn_row _ R _).mono (fun k e => e ▸ HFR.out.1))
end Go.Proofs.YtbhkegdohiekfaaDoor.opn

namespace Go.Proofs.YtbhkegdohiekfaaDoor.opn
open Go.RowKit Go.Proofs.YtbhkegdohiekfaaDoor.mem

theorem rtext_s (F : Nat → Prop) (g : Nat) (st : St) (w : World) (h : RdL w g st) (hF : F g) (hn : New F w) :
    Calls Tryd.prog 50 #[.pointer (some ⟨g, 0, none⟩)] w fun e w' => e = .returned (.string (oct.tx (rdT st).1)) ∧ RdL w' g (rdT st).2 ∧ Turn F w w' := by
  have HNUM := Lib.hid (lnum1_s F g st w h hF hn)
  have HRAW := Lib.hid (fun (u : World) (hu : RdL u g (rdN 1 st).2) (hn2 : New F u) => lraw_s F g (rdN 1 st).2 (rdN 1 st).1 (rdN_nonneg 1 st) u hu hF hn2)
  have HN := Lib.hid hn
  obtain ⟨n, hn'⟩ : ∃ n, n = (rdN 1 st).1 := ⟨_, rfl⟩
  have HT : Hid (rdT st = rd n.toNat (rdN 1 st).2) := Lib.hid (by rw [hn']; rfl)
  rw [← hn'] at HNUM HRAW
  rw [HT.out]
  clear h hn hn'
  go_enter Tryd.func50, Tryd.ntmps50
  go_wp2_with (first
    | (go_at_call 33; (with_reducible refine HNUM.out.mono ?_); rintro e w2 ⟨rfl, hr2, ht2⟩; have H2 := Lib.hid (HRAW.out w2 hr2 (HN.out.turn ht2)); clear hr2)
    | (go_at_call 52; (with_reducible refine H2.out.mono ?_); rintro e w3 ⟨rfl, hr3, ht3⟩))
  go_ret
  exact ⟨rfl, hr3, ht2.trans ht3⟩
end Go.Proofs.YtbhkegdohiekfaaDoor.opn

namespace Go.Proofs.YtbhkegdohiekfaaDoor.oct
open Go.RowKit Go.Proofs.YtbhkegdohiekfaaDoor.mem

theorem left_stuck (p : Option Addr) (e0 : Int) (w : World) (h : RFault w p e0) (h0 : e0 ≠ 0) :
    Calls Tryd.prog 53 #[.pointer p] w fun e w' => e = .returned (.int .i64 0) ∧ w = w' := by
  have hd : (e0 != 0) = true := by simpa using h0
  clear h0
  go_enter Tryd.func53, Tryd.ntmps53
  go_wp2_with (go_at_call 34; refine (err_any _ _ _ h).mono ?_; rintro e w' ⟨rfl, rfl⟩)
  go_ret
  exact ⟨rfl, rfl⟩
theorem left_ok (g : Nat) (rest : ByteArray) (w : World) (h : RBlk w g rest 0) :
    Calls Tryd.prog 53 #[.pointer (some ⟨g, 0, none⟩)] w fun e w' => e = .returned (.int .i64 rest.size) ∧ w = w' := by
  have c1 := h.c1
  go_enter Tryd.func53, Tryd.ntmps53
  go_wp2_with (go_at_call 34; refine (err_ok _ _ _ _ h).mono ?_; rintro e w' ⟨rfl, rfl⟩)
  go_ret
  exact ⟨rfl, rfl⟩
theorem left_any (g : Nat) (rest : ByteArray) (err : Int) (w : World) (h : RBlk w g rest err) :
    Calls Tryd.prog 53 #[.pointer (some ⟨g, 0, none⟩)] w fun e w' => e = .returned (.int .i64 (rLeft (rest, err))) ∧ w = w' := by
  by_cases he : err = 0
  · subst he
    have e2 : rLeft (rest, 0) = rest.size := by unfold rLeft; rw [if_neg (by simp)]
    rw [e2]
    exact left_ok g rest w h
  · have e2 : rLeft (rest, err) = 0 := by unfold rLeft; rw [if_pos he]
    rw [e2]
    exact left_stuck _ err w h.fault he
end Go.Proofs.YtbhkegdohiekfaaDoor.oct
