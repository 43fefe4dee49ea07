/-
  The walk of IdentBack, by what ident's functions answer.
-/
import Derived.Test.YtfcoecojjciphaaIdtw
namespace Go.Proofs.Ytfcoecojjciphaa.ids
open Go.RowKit Go.Proofs.Ytfcoecojjciphaa.mem Go.Proofs.Ytfcoecojjciphaa.sha Go.Proofs.Ytfcoecojjciphaa.strx


theorem lessL_len (L M : List Id) : (lessL L M).length ≤ L.length := Nat.le_trans (List.length_filter_le _ _) (setL_len L)

set_option maxHeartbeats 4000000 in
set_option maxRecDepth 100000 in
theorem back_walk {T : World → Prop} (hI : IdentIs T) (L M : List Id) (x : Id) (v1 v2 : Value) (w : World) (hT : T w) (h1 : RdV w v1 L) (h2 : RdV w v2 M) (hx : x.length = 32) :
    Calls Try.prog 6 #[v1, v2, .agg (bv x).toArray] w fun e w' => e = .returned (.bool true) ∧ Below w.heap.size w w' := by
  obtain ⟨w1, hw1⟩ : ∃ u, u = w.alloc (.cells (bv x).toArray 23) := ⟨_, rfl⟩
  obtain ⟨C, hC⟩ : ∃ S, S = w.heap.size := ⟨_, rfl⟩
  have hX : Blk w1 C 23 (bv x).toArray := by rw [hw1, hC]; exact Blk.new w _ _
  have hB : Below w.heap.size w w1 := by rw [hw1]; exact (Below.refl _ _).alloc (Nat.le_refl _) _
  have HI := Lib.hid hI
  have HX := Lib.hid hX
  have HB := Lib.hid hB
  have HT := Lib.hid (hI.next hT hB)
  have H1 := Lib.hid (h1.next hB)
  have H2 := Lib.hid (h2.next hB)
  have HW := Lib.hid hw1
  have HCC := Lib.hid hC
  have HM := Lib.hid (much_any (h1.next hB) (h2.next hB))
  clear hI hX hB hw1 hC hT h1 h2
  by_cases hm : (decide (60 < L.length) || decide (60 < M.length)) = true
  · rw [hm] at HM
    go_enter Try.func6, Try.ntmps6
    go_upto_region 1 with fail
    refine wp_at HW.out.symm ?_
    clear HW hm
    go_wp2_with (first
      | (go_at_call 15; with_reducible refine HM.out.mono ?_; rintro e w2 ⟨rfl, rfl⟩)
      | (go_at_call 14; refine (awake_any HI.out.toIdentA _ HT.out).mono ?_; rintro e w3 ⟨rfl, hb3⟩))
    go_ret
    exact ⟨rfl, HB.out.trans (hb3.mono HB.out.size)⟩
  have hm' := hm
  rw [Bool.not_eq_true] at hm'
  rw [hm'] at HM
  have hl : L.length ≤ 60 := by simp at hm; omega
  have hl2 : M.length ≤ 60 := by simp at hm; omega
  have hsl := setL_len L
  have hw1 := woutL_len (setL L) x
  have hw2 := withL_len (setL L) x
  have hw3 := lessL_len L M
  have hw4 := lessL_len M L
  clear hm hm'
  go_enter Try.func6, Try.ntmps6
  go_upto_region 1 with fail
  refine wp_at HW.out.symm ?_
  rw [← HCC.out]
  clear HW
  go_upto_region 4 with (first
    | (go_at_call 15; with_reducible refine HM.out.mono ?_; rintro e w2 ⟨rfl, rfl⟩)
    | (go_at_call 18; with_reducible refine (HI.out.set L v1 _ HT.out H1.out (by omega)).mono ?_; rintro e w3 ⟨vs, rfl, hgs, hb3⟩))
  have hST0 : ISt T w C x v1 v2 vs L M w3 := ⟨HI.out.next HT.out hb3, HB.out.trans (hb3.mono HB.out.size), HX.out.below hb3 HX.out.lt, hx, H1.out.next hb3, H2.out.next hb3, hgs.rd, HI.out.next⟩
  have HST0 := Lib.hid hST0
  have hbl := hST0.box_load
  have HHAS := Lib.hid (HI.out.has L x v1 w3 hST0.tt hST0.r1 (by omega) hx)
  clear hgs hb3 HX HB HT H1 H2 HM hST0
  obtain ⟨c, hc⟩ : ∃ c, c = L.contains x := ⟨_, rfl⟩
  rw [← hc] at HHAS
  have HC := Lib.hid hc
  clear hc
  have HBB := Lib.hid (back_both L M)
  have hsum : ((bothL (lessL L M) (lessL M L)).length : Int) = ((lessL L M).length : Int) + ((lessL M L).length : Int) := by rw [back_len]; push_cast; rfl
  cases c
  · have HBK := Lib.hid (back_out L x (fun h => by have := HC.out; rw [← List.contains_iff_mem, ← this] at h; exact absurd h (by decide)))
    go_upto_region 7 with (first
      | ((with_reducible refine step_load (t := 23) (x := .tmp 5) (p := ?lpu1) (v := ?lvu1) ?lgu1 ?lou1 ?lxu1 ?lru1 ?lhu1); (case lgu1 => rfl); (case lou1 => rfl); (case lxu1 => rfl); (case lru1 => exact hbl))
      | (go_at_call 21; with_reducible refine HHAS.out.mono ?_; rintro e w4 ⟨rfl, hb4⟩))
    have HST := Lib.hid (HST0.out.next hb4)
    clear HST0 hb4 hbl HHAS
    refine wp_region_held_drew (S := ISt T w C x v1 v2 vs L M) (by kernel_rfl) ?_ (fun hHeld => ?_)
    · exact HST.out.drew
    refine' wpAnyH_take (i := 0) ?hihb0 (by kernel_rfl) (by kernel_rfl) (by kernel_rfl) ?hqhb0 (Or.inl ⟨?hwhb0, ?hyhb0⟩) (by assumption) ?hrhb0
    case hihb0 => (simp only [List.getElem?_toArray, List.getElem?_cons_succ, List.getElem?_cons_zero]; rfl)
    case hqhb0 => exact fun _ _ _ h => h
    case hwhb0 => rfl
    case hyhb0 => (intro w0 hSw; (try dsimp only at hSw); go_simp; try with_reducible rfl)
    (try simp only [Act.put, List.setIfInBounds_toArray, List.set_cons_zero, List.set_cons_succ])
    refine' wpAnyH_take (i := 1) ?hihb1 (by kernel_rfl) (by kernel_rfl) (by kernel_rfl) ?hqhb1 (Or.inl ⟨?hwhb1, ?hyhb1⟩) (by assumption) ?hrhb1
    case hihb1 => (simp only [List.getElem?_toArray, List.getElem?_cons_succ, List.getElem?_cons_zero]; rfl)
    case hqhb1 => exact fun _ _ _ h => h
    case hwhb1 => rfl
    case hyhb1 => exact fun w0 hSw => run_exec_load rfl rfl (hSw.box_load)
    (try simp only [Act.put, List.setIfInBounds_toArray, List.set_cons_zero, List.set_cons_succ])
    refine' wpAnyH_take (i := 3) ?hihb3 (by kernel_rfl) (by kernel_rfl) (by kernel_rfl) ?hqhb3 (Or.inl ⟨?hwhb3, ?hyhb3⟩) (by assumption) ?hrhb3
    case hihb3 => (simp only [List.getElem?_toArray, List.getElem?_cons_succ, List.getElem?_cons_zero]; rfl)
    case hqhb3 => exact fun _ _ _ h => h
    case hwhb3 => rfl
    case hyhb3 => exact fun w0 hSw => run_exec_load rfl rfl (hSw.box_load)
    (try simp only [Act.put, List.setIfInBounds_toArray, List.set_cons_zero, List.set_cons_succ])
    refine' wpAnyH_take (i := 5) ?hihb5 (by kernel_rfl) (by kernel_rfl) (by kernel_rfl) ?hqhb5 (Or.inl ⟨?hwhb5, ?hyhb5⟩) (by assumption) ?hrhb5
    case hihb5 => (simp only [List.getElem?_toArray, List.getElem?_cons_succ, List.getElem?_cons_zero]; rfl)
    case hqhb5 => exact fun _ _ _ h => h
    case hwhb5 => rfl
    case hyhb5 => (intro w0 hSw; (try dsimp only at hSw); go_simp; try with_reducible rfl)
    (try simp only [Act.put, List.setIfInBounds_toArray, List.set_cons_zero, List.set_cons_succ])
    refine wpAnyH_ready (rs := [2]) (by kernel_rfl) (by simp) ?_
    refine' AllReadyH.cons ?hihb2 (fun K hK => ?hrhb2) AllReadyH.nil
    case hihb2 => (simp only [List.getElem?_toArray, List.getElem?_cons_succ, List.getElem?_cons_zero]; rfl)
    go_simp
    refine (HI.out.with_ L x v1 _ hHeld.tt hHeld.r1 (by omega) hx).mono ?_; rintro e wA1 ⟨u1, rfl, hm1, hbwA1⟩
    refine hK.out _ _ ?_ (fun hHeld => ?_)
    · exact hHeld.next hbwA1
    clear hK K
    (try simp only [Act.put, List.setIfInBounds_toArray, List.set_cons_zero, List.set_cons_succ])
    refine wpAnyH_ready (rs := [4]) (by kernel_rfl) (by simp) ?_
    refine' AllReadyH.cons ?hihb4 (fun K hK => ?hrhb4) AllReadyH.nil
    case hihb4 => (simp only [List.getElem?_toArray, List.getElem?_cons_succ, List.getElem?_cons_zero]; rfl)
    go_simp
    refine (HI.out.without _ x u1 _ hHeld.tt hm1.rd (by omega) hx).mono ?_; rintro e wA2 ⟨u2, rfl, hm2, hbwA2⟩
    refine hK.out _ _ ?_ (fun hHeld => ?_)
    · exact hHeld.next hbwA2
    clear hK K
    (try simp only [Act.put, List.setIfInBounds_toArray, List.set_cons_zero, List.set_cons_succ])
    refine wpAnyH_ready (rs := [6]) (by kernel_rfl) (by simp) ?_
    refine' AllReadyH.cons ?hihb6 (fun K hK => ?hrhb6) AllReadyH.nil
    case hihb6 => (simp only [List.getElem?_toArray, List.getElem?_cons_succ, List.getElem?_cons_zero]; rfl)
    go_simp
    refine (rsame_eq (hm2.rd.to HBK.out) hHeld.rs).mono ?_; rintro e wA3 ⟨rfl, hbwA3⟩
    refine hK.out _ _ ?_ (fun hHeld => ?_)
    · exact hHeld.next hbwA3
    clear hK K
    (try simp only [Act.put, List.setIfInBounds_toArray, List.set_cons_zero, List.set_cons_succ])
    refine' wpAnyH_take (i := 7) ?hihb7 (by kernel_rfl) (by kernel_rfl) (by kernel_rfl) ?hqhb7 (Or.inl ⟨?hwhb7, ?hyhb7⟩) (by assumption) ?hrhb7
    case hihb7 => (simp only [List.getElem?_toArray, List.getElem?_cons_succ, List.getElem?_cons_zero]; rfl)
    case hqhb7 => exact fun _ _ _ h => h
    case hwhb7 => rfl
    case hyhb7 => (intro w0 hSw; (try dsimp only at hSw); go_simp; try with_reducible rfl)
    (try simp only [Act.put, List.setIfInBounds_toArray, List.set_cons_zero, List.set_cons_succ])
    refine wpAnyH_done (by kernel_rfl) ?_ _
    go_upto_region 9 with fail
    have H0 := hHeld
    clear hHeld HST
    go_wp2_with (first
      | (go_at_call 14; with_reducible refine (awake_any HI.out.toIdentA _ H9.tt).mono ?_; rintro e x10 ⟨rfl, hb10⟩; have H10 := H9.next hb10)
      | (go_at_call 27; with_reducible refine (HI.out.less M L v2 v1 _ H8.tt H8.r2 H8.r1 (by omega) (by omega)).mono ?_; rintro e x9 ⟨a9, rfl, hm9, hb9⟩; have H9 := H8.next hb9; obtain ⟨ad9, cp9, rfl⟩ := hm9.rd.form)
      | (go_at_call 27; with_reducible refine (HI.out.less L M v1 v2 _ H7.tt H7.r1 H7.r2 (by omega) (by omega)).mono ?_; rintro e x8 ⟨a8, rfl, hm8, hb8⟩; have H8 := H7.next hb8; obtain ⟨ad8, cp8, rfl⟩ := hm8.rd.form)
      | (go_at_call 29; with_reducible refine (HI.out.both _ _ a5 a6 _ H6.tt (hm5.rd.next hb6) hm6.rd (by omega) (by omega)).mono ?_; rintro e x7 ⟨a7, rfl, hm7, hb7⟩; have H7 := H6.next hb7; obtain ⟨ad7, cp7, rfl⟩ := hm7.rd.form)
      | (go_at_call 27; with_reducible refine (HI.out.less M L v2 v1 _ H5.tt H5.r2 H5.r1 (by omega) (by omega)).mono ?_; rintro e x6 ⟨a6, rfl, hm6, hb6⟩; have H6 := H5.next hb6)
      | (go_at_call 27; with_reducible refine (HI.out.less L M v1 v2 _ H4.tt H4.r1 H4.r2 (by omega) (by omega)).mono ?_; rintro e x5 ⟨a5, rfl, hm5, hb5⟩; have H5 := H4.next hb5)
      | (go_at_call 17; with_reducible refine (rsame_eq ((hm2.rd.next hb3).to HBB.out) hm3.rd).mono ?_; rintro e x4 ⟨rfl, hb4⟩; have H4 := H3.next hb4)
      | (go_at_call 29; with_reducible refine (HI.out.both L M v1 v2 _ H2.tt H2.r1 H2.r2 (by omega) (by omega)).mono ?_; rintro e x3 ⟨a3, rfl, hm3, hb3⟩; have H3 := H2.next hb3)
      | (go_at_call 29; with_reducible refine (HI.out.both _ M a1 v2 _ H1.tt hm1.rd H1.r2 (by omega) (by omega)).mono ?_; rintro e x2 ⟨a2, rfl, hm2, hb2⟩; have H2 := H1.next hb2)
      | (go_at_call 27; with_reducible refine (HI.out.less L M v1 v2 _ H0.tt H0.r1 H0.r2 (by omega) (by omega)).mono ?_; rintro e x1 ⟨a1, rfl, hm1, hb1⟩; have H1 := H0.next hb1))
    go_ret
    exact ⟨rfl, H10.below⟩
  · have HBK := Lib.hid (back_in L x (by rw [← List.contains_iff_mem]; exact HC.out.symm))
    go_upto_region 5 with (first
      | ((with_reducible refine step_load (t := 23) (x := .tmp 5) (p := ?lpu2) (v := ?lvu2) ?lgu2 ?lou2 ?lxu2 ?lru2 ?lhu2); (case lgu2 => rfl); (case lou2 => rfl); (case lxu2 => rfl); (case lru2 => exact hbl))
      | (go_at_call 21; with_reducible refine HHAS.out.mono ?_; rintro e w4 ⟨rfl, hb4⟩))
    have HST := Lib.hid (HST0.out.next hb4)
    clear HST0 hb4 hbl HHAS
    refine wp_region_held_drew (S := ISt T w C x v1 v2 vs L M) (by kernel_rfl) ?_ (fun hHeld => ?_)
    · exact HST.out.drew
    refine' wpAnyH_take (i := 0) ?hiha0 (by kernel_rfl) (by kernel_rfl) (by kernel_rfl) ?hqha0 (Or.inl ⟨?hwha0, ?hyha0⟩) (by assumption) ?hrha0
    case hiha0 => (simp only [List.getElem?_toArray, List.getElem?_cons_succ, List.getElem?_cons_zero]; rfl)
    case hqha0 => exact fun _ _ _ h => h
    case hwha0 => rfl
    case hyha0 => (intro w0 hSw; (try dsimp only at hSw); go_simp; try with_reducible rfl)
    (try simp only [Act.put, List.setIfInBounds_toArray, List.set_cons_zero, List.set_cons_succ])
    refine' wpAnyH_take (i := 1) ?hiha1 (by kernel_rfl) (by kernel_rfl) (by kernel_rfl) ?hqha1 (Or.inl ⟨?hwha1, ?hyha1⟩) (by assumption) ?hrha1
    case hiha1 => (simp only [List.getElem?_toArray, List.getElem?_cons_succ, List.getElem?_cons_zero]; rfl)
    case hqha1 => exact fun _ _ _ h => h
    case hwha1 => rfl
    case hyha1 => exact fun w0 hSw => run_exec_load rfl rfl (hSw.box_load)
    (try simp only [Act.put, List.setIfInBounds_toArray, List.set_cons_zero, List.set_cons_succ])
    refine' wpAnyH_take (i := 3) ?hiha3 (by kernel_rfl) (by kernel_rfl) (by kernel_rfl) ?hqha3 (Or.inl ⟨?hwha3, ?hyha3⟩) (by assumption) ?hrha3
    case hiha3 => (simp only [List.getElem?_toArray, List.getElem?_cons_succ, List.getElem?_cons_zero]; rfl)
    case hqha3 => exact fun _ _ _ h => h
    case hwha3 => rfl
    case hyha3 => exact fun w0 hSw => run_exec_load rfl rfl (hSw.box_load)
    (try simp only [Act.put, List.setIfInBounds_toArray, List.set_cons_zero, List.set_cons_succ])
    refine' wpAnyH_take (i := 5) ?hiha5 (by kernel_rfl) (by kernel_rfl) (by kernel_rfl) ?hqha5 (Or.inl ⟨?hwha5, ?hyha5⟩) (by assumption) ?hrha5
    case hiha5 => (simp only [List.getElem?_toArray, List.getElem?_cons_succ, List.getElem?_cons_zero]; rfl)
    case hqha5 => exact fun _ _ _ h => h
    case hwha5 => rfl
    case hyha5 => (intro w0 hSw; (try dsimp only at hSw); go_simp; try with_reducible rfl)
    (try simp only [Act.put, List.setIfInBounds_toArray, List.set_cons_zero, List.set_cons_succ])
    refine wpAnyH_ready (rs := [2]) (by kernel_rfl) (by simp) ?_
    refine' AllReadyH.cons ?hiha2 (fun K hK => ?hrha2) AllReadyH.nil
    case hiha2 => (simp only [List.getElem?_toArray, List.getElem?_cons_succ, List.getElem?_cons_zero]; rfl)
    go_simp
    refine (HI.out.without L x v1 _ hHeld.tt hHeld.r1 (by omega) hx).mono ?_; rintro e wA1 ⟨u1, rfl, hm1, hbwA1⟩
    refine hK.out _ _ ?_ (fun hHeld => ?_)
    · exact hHeld.next hbwA1
    clear hK K
    (try simp only [Act.put, List.setIfInBounds_toArray, List.set_cons_zero, List.set_cons_succ])
    refine wpAnyH_ready (rs := [4]) (by kernel_rfl) (by simp) ?_
    refine' AllReadyH.cons ?hiha4 (fun K hK => ?hrha4) AllReadyH.nil
    case hiha4 => (simp only [List.getElem?_toArray, List.getElem?_cons_succ, List.getElem?_cons_zero]; rfl)
    go_simp
    refine (HI.out.with_ _ x u1 _ hHeld.tt hm1.rd (by omega) hx).mono ?_; rintro e wA2 ⟨u2, rfl, hm2, hbwA2⟩
    refine hK.out _ _ ?_ (fun hHeld => ?_)
    · exact hHeld.next hbwA2
    clear hK K
    (try simp only [Act.put, List.setIfInBounds_toArray, List.set_cons_zero, List.set_cons_succ])
    refine wpAnyH_ready (rs := [6]) (by kernel_rfl) (by simp) ?_
    refine' AllReadyH.cons ?hiha6 (fun K hK => ?hrha6) AllReadyH.nil
    case hiha6 => (simp only [List.getElem?_toArray, List.getElem?_cons_succ, List.getElem?_cons_zero]; rfl)
    go_simp
    refine (rsame_eq (hm2.rd.to HBK.out) hHeld.rs).mono ?_; rintro e wA3 ⟨rfl, hbwA3⟩
    refine hK.out _ _ ?_ (fun hHeld => ?_)
    · exact hHeld.next hbwA3
    clear hK K
    (try simp only [Act.put, List.setIfInBounds_toArray, List.set_cons_zero, List.set_cons_succ])
    refine' wpAnyH_take (i := 7) ?hiha7 (by kernel_rfl) (by kernel_rfl) (by kernel_rfl) ?hqha7 (Or.inl ⟨?hwha7, ?hyha7⟩) (by assumption) ?hrha7
    case hiha7 => (simp only [List.getElem?_toArray, List.getElem?_cons_succ, List.getElem?_cons_zero]; rfl)
    case hqha7 => exact fun _ _ _ h => h
    case hwha7 => rfl
    case hyha7 => (intro w0 hSw; (try dsimp only at hSw); go_simp; try with_reducible rfl)
    (try simp only [Act.put, List.setIfInBounds_toArray, List.set_cons_zero, List.set_cons_succ])
    refine wpAnyH_done (by kernel_rfl) ?_ _
    go_upto_region 9 with fail
    have H0 := hHeld
    clear hHeld HST
    go_wp2_with (first
      | (go_at_call 14; with_reducible refine (awake_any HI.out.toIdentA _ H9.tt).mono ?_; rintro e x10 ⟨rfl, hb10⟩; have H10 := H9.next hb10)
      | (go_at_call 27; with_reducible refine (HI.out.less M L v2 v1 _ H8.tt H8.r2 H8.r1 (by omega) (by omega)).mono ?_; rintro e x9 ⟨a9, rfl, hm9, hb9⟩; have H9 := H8.next hb9; obtain ⟨ad9, cp9, rfl⟩ := hm9.rd.form)
      | (go_at_call 27; with_reducible refine (HI.out.less L M v1 v2 _ H7.tt H7.r1 H7.r2 (by omega) (by omega)).mono ?_; rintro e x8 ⟨a8, rfl, hm8, hb8⟩; have H8 := H7.next hb8; obtain ⟨ad8, cp8, rfl⟩ := hm8.rd.form)
      | (go_at_call 29; with_reducible refine (HI.out.both _ _ a5 a6 _ H6.tt (hm5.rd.next hb6) hm6.rd (by omega) (by omega)).mono ?_; rintro e x7 ⟨a7, rfl, hm7, hb7⟩; have H7 := H6.next hb7; obtain ⟨ad7, cp7, rfl⟩ := hm7.rd.form)
      | (go_at_call 27; with_reducible refine (HI.out.less M L v2 v1 _ H5.tt H5.r2 H5.r1 (by omega) (by omega)).mono ?_; rintro e x6 ⟨a6, rfl, hm6, hb6⟩; have H6 := H5.next hb6)
      | (go_at_call 27; with_reducible refine (HI.out.less L M v1 v2 _ H4.tt H4.r1 H4.r2 (by omega) (by omega)).mono ?_; rintro e x5 ⟨a5, rfl, hm5, hb5⟩; have H5 := H4.next hb5)
      | (go_at_call 17; with_reducible refine (rsame_eq ((hm2.rd.next hb3).to HBB.out) hm3.rd).mono ?_; rintro e x4 ⟨rfl, hb4⟩; have H4 := H3.next hb4)
      | (go_at_call 29; with_reducible refine (HI.out.both L M v1 v2 _ H2.tt H2.r1 H2.r2 (by omega) (by omega)).mono ?_; rintro e x3 ⟨a3, rfl, hm3, hb3⟩; have H3 := H2.next hb3)
      | (go_at_call 29; with_reducible refine (HI.out.both _ M a1 v2 _ H1.tt hm1.rd H1.r2 (by omega) (by omega)).mono ?_; rintro e x2 ⟨a2, rfl, hm2, hb2⟩; have H2 := H1.next hb2)
      | (go_at_call 27; with_reducible refine (HI.out.less L M v1 v2 _ H0.tt H0.r1 H0.r2 (by omega) (by omega)).mono ?_; rintro e x1 ⟨a1, rfl, hm1, hb1⟩; have H1 := H0.next hb1))
    go_ret
    exact ⟨rfl, H10.below⟩
end Go.Proofs.Ytfcoecojjciphaa.ids
