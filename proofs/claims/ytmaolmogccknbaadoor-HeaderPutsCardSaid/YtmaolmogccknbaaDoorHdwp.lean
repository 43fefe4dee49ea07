/-
  The walk of HeaderPuts, by what header's functions answer.
-/
import Derived.Test.YtmaolmogccknbaaDoorHdis
namespace Go.Proofs.YtmaolmogccknbaaDoor.hdr
open Go.RowKit Go.Proofs.YtmaolmogccknbaaDoor.mem Go.Proofs.YtmaolmogccknbaaDoor.sha Go.Proofs.YtmaolmogccknbaaDoor.ids
open Go.Proofs.YtmaolmogccknbaaDoor.opn (b1 b2 b4 num txt idl byte rd rdN rdT rdI rdS rdL St Reads Stays endE zid mkId)

structure PutsS (T : World → Prop) (w0 : World) (A B I J : Nat) (h g : Hd) (vh vg : Value) (y : List UInt8) (u : World) : Prop where
  t : T u
  a : Blk u A 46 (hdc h vh).toArray
  b : Blk u B 46 (hdc g vg).toArray
  i : Blk u I 23 (bv y).toArray
  j : Blk u J 23 (bv y).toArray
  ro : RdV u vh h.parents
  rp : RdV u vg g.parents
  below : Below w0.heap.size w0 u
theorem PutsS.next {T : World → Prop} (hI : HdIs T) {w0 : World} {A B I J : Nat} {h g : Hd} {vh vg : Value} {y : List UInt8} {u u' : World} (s : PutsS T w0 A B I J h g vh vg y u) (hb : Below u.heap.size u u') : PutsS T w0 A B I J h g vh vg y u' :=
  ⟨hI.next s.t hb, s.a.below hb s.a.lt, s.b.below hb s.b.lt, s.i.below hb s.i.lt, s.j.below hb s.j.lt, s.ro.next hb, s.rp.next hb, s.below.trans (hb.mono s.below.size)⟩
structure TwoS (T : World → Prop) (w0 : World) (A B : Nat) (h g : Hd) (vh vg : Value) (u : World) : Prop where
  t : T u
  a : Blk u A 46 (hdc h vh).toArray
  b : Blk u B 46 (hdc g vg).toArray
  ro : RdV u vh h.parents
  rp : RdV u vg g.parents
  below : Below w0.heap.size w0 u
theorem TwoS.next {T : World → Prop} (hI : HdIs T) {w0 : World} {A B : Nat} {h g : Hd} {vh vg : Value} {u u' : World} (s : TwoS T w0 A B h g vh vg u) (hb : Below u.heap.size u u') : TwoS T w0 A B h g vh vg u' :=
  ⟨hI.next s.t hb, s.a.below hb s.a.lt, s.b.below hb s.b.lt, s.ro.next hb, s.rp.next hb, s.below.trans (hb.mono s.below.size)⟩
set_option maxHeartbeats 4000000 in
set_option maxRecDepth 100000 in
theorem puts_walk {T : World → Prop} (hI : HdIs T) (hRS : RSum) (h g : Hd) (v vg : Value) (w : World) (hT : T w) (hr : h.commit.length = 32) (hrp : g.commit.length = 32) (hv : RdV w v h.parents) (hvp : RdV w vg g.parents) (ht : h.topic.length ≤ 140737488351232) :
    Calls Tryd.prog 7 #[hdv h v, hdv g vg] w fun e w' => e = .returned (.bool true) ∧ Below w.heap.size w w' := by
  obtain ⟨w1, hw1⟩ : ∃ u, u = (w.alloc (.cells (hdc h v).toArray 46)).alloc (.cells (hdc g vg).toArray 46) := ⟨_, rfl⟩
  obtain ⟨S, hS⟩ : ∃ S, S = w.heap.size := ⟨_, rfl⟩
  have hX : Blk w1 S 46 (hdc h v).toArray := by rw [hw1, hS]; exact (Blk.new w _ _).alloc _
  have hY : Blk w1 (S + 1) 46 (hdc g vg).toArray := by rw [hw1, hS]; exact Blk.at_ (by simp) _ _
  have hB : Below w.heap.size w w1 := by rw [hw1]; exact ((Below.refl _ _).alloc (Nat.le_refl _) _).alloc (by simp) _
  have HPS := Lib.hid (show TwoS T w S (S + 1) h g v vg w1 from ⟨hI.next hT hB, hX, hY, hv.next hB, hvp.next hB, hB⟩)
  have HS := Lib.hid hS
  have HW := Lib.hid hw1
  have HI := Lib.hid hI
  have HRS := Lib.hid hRS
  have HR := Lib.hid hr
  have HRP := Lib.hid hrp
  obtain ⟨ad, cap, hvf⟩ := hv.form
  have c0 := (HdBlk.of hX hr).parents
  have c2 := (HdBlk.of hX hr).topic
  rw [hvf] at c0
  obtain ⟨ln, hln⟩ : ∃ n, n = h.parents.length := ⟨_, rfl⟩
  rw [← hln] at c0
  have HLN := Lib.hid hln
  obtain ⟨ts, hts⟩ : ∃ n, n = oct.tx h.topic := ⟨_, rfl⟩
  rw [← hts] at c2
  have HTS : Hid (ts.size = h.topic.length) := Lib.hid (by rw [hts, oct.tx_size])
  obtain ⟨adp, capp, hvfp⟩ := hvp.form
  have d0 := (HdBlk.of hY hrp).parents
  rw [hvfp] at d0
  obtain ⟨lp, hlp⟩ : ∃ n, n = g.parents.length := ⟨_, rfl⟩
  rw [← hlp] at d0
  have HLP := Lib.hid hlp
  have HLD := Lib.hid (run_load_hd hX hr)
  have HTL := Lib.hid ht
  clear hX hY hB hw1 hS hT hI hr hrp hvf hvfp hln hlp hv hvp hts ht hRS
  unfold hdv
  by_cases hbig : 60 < h.parents.length
  · have i1 : (60 : Int) < (ln : Int) := by rw [HLN.out]; omega
    clear hbig
    go_enter Tryd.func7, Tryd.ntmps7
    go_upto_region 1 with fail
    refine wp_at HW.out.symm ?_
    rw [← HS.out]
    clear HW
    go_wp2_with ((go_at_call 22; refine (awake_any HI.out _ HPS.out.t).mono ?_; rintro e w2 ⟨rfl, hb1⟩))
    go_ret
    exact ⟨rfl, HPS.out.below.trans (hb1.mono HPS.out.below.size)⟩
  have i1 : (ln : Int) ≤ 60 := by rw [HLN.out]; omega
  by_cases hbp : 60 < g.parents.length
  · have i2 : (60 : Int) < (lp : Int) := by rw [HLP.out]; omega
    clear hbig hbp
    go_enter Tryd.func7, Tryd.ntmps7
    go_upto_region 1 with fail
    refine wp_at HW.out.symm ?_
    rw [← HS.out]
    clear HW
    go_wp2_with ((go_at_call 22; refine (awake_any HI.out _ HPS.out.t).mono ?_; rintro e w2 ⟨rfl, hb1⟩))
    go_ret
    exact ⟨rfl, HPS.out.below.trans (hb1.mono HPS.out.below.size)⟩
  have i2 : (lp : Int) ≤ 60 := by rw [HLP.out]; omega
  by_cases hbt : 100 < h.topic.length
  · have i3 : (100 : Int) < (ts.size : Int) := by rw [HTS.out]; omega
    clear hbig hbp hbt
    go_enter Tryd.func7, Tryd.ntmps7
    go_upto_region 1 with fail
    refine wp_at HW.out.symm ?_
    rw [← HS.out]
    clear HW
    go_wp2_with ((go_at_call 22; refine (awake_any HI.out _ HPS.out.t).mono ?_; rintro e w2 ⟨rfl, hb1⟩))
    go_ret
    exact ⟨rfl, HPS.out.below.trans (hb1.mono HPS.out.below.size)⟩
  have i3 : (ts.size : Int) ≤ 100 := by rw [HTS.out]; omega
  have HO1 : Hid (h.parents.length ≤ 1000) := Lib.hid (by omega)
  have HPUT := Lib.hid (HI.out.put h v w1 HPS.out.t HR.out HPS.out.ro HO1.out HTL.out)
  have HPR := Lib.hid (fun u (z : TwoS T w S (S + 1) h g v vg u) => put_any h v u HR.out z.ro HO1.out HTL.out)
  have HID := Lib.hid (fun u (z : TwoS T w S (S + 1) h g v vg u) => HI.out.ident h v u z.t HR.out z.ro HO1.out HTL.out)
  have HIR := Lib.hid (fun u (z : TwoS T w S (S + 1) h g v vg u) => ident_any HRS.out h v u HR.out z.ro HO1.out HTL.out)
  have hyl := idH_len h
  obtain ⟨bs, hbs⟩ : ∃ b, b = oct.tx (putH h).1 := ⟨_, rfl⟩
  obtain ⟨er, her⟩ : ∃ b, b = (putH h).2 := ⟨_, rfl⟩
  obtain ⟨y, hy⟩ : ∃ b, b = (idH h).1 := ⟨_, rfl⟩
  obtain ⟨ei, hei⟩ : ∃ b, b = (idH h).2 := ⟨_, rfl⟩
  rw [← hbs, ← her] at HPUT
  simp only [← hbs, ← her] at HPR
  simp only [← hy, ← hei] at HID HIR
  rw [← hy] at hyl
  have HYL := Lib.hid hyl
  clear hbig hbp hbt hbs her hy hei hyl
  go_enter Tryd.func7, Tryd.ntmps7
  go_upto_region 1 with fail
  refine wp_at HW.out.symm ?_
  rw [← HS.out]
  clear HW
  go_upto_region 7 with (first
    | ((with_reducible refine step_load (t := 46) (x := .tmp 2) (p := ?lpp1) (v := ?lvp1) ?lgp1 ?lop1 ?lxp1 ?lrp1 ?lhp1); (case lgp1 => rfl); (case lop1 => rfl); (case lxp1 => rfl); (case lrp1 => exact HLD.out))
    | (go_at_call 23; (with_reducible refine HPUT.out.mono ?_); rintro e w2 ⟨rfl, hb2⟩; have h2 := HPS.out.next HI.out hb2; have hld2 := run_load_hd h2.a HR.out; have H2 := Lib.hid h2; clear h2 hb2)
    | ((with_reducible refine step_load (t := 46) (x := .tmp 2) (p := ?lpp2) (v := ?lvp2) ?lgp2 ?lop2 ?lxp2 ?lrp2 ?lhp2); (case lgp2 => rfl); (case lop2 => rfl); (case lxp2 => rfl); (case lrp2 => exact hld2))
    | (go_at_call 24; (with_reducible refine (HPR.out _ H2.out).mono ?_); rintro e w3 ⟨rfl, hb3⟩; have h3 := H2.out.next HI.out hb3; have hld3 := run_load_hd h3.a HR.out; have H3 := Lib.hid h3; clear h3 hb3)
    | ((with_reducible refine step_load (t := 46) (x := .tmp 2) (p := ?lpp3) (v := ?lvp3) ?lgp3 ?lop3 ?lxp3 ?lrp3 ?lhp3); (case lgp3 => rfl); (case lop3 => rfl); (case lxp3 => rfl); (case lrp3 => exact hld3))
    | (go_at_call 25; (with_reducible refine (HID.out _ H3.out).mono ?_); rintro e w4 ⟨rfl, hb4⟩; have hh4 := run_holdI w4 y HYL.out; have hk4 := heldI_blk w4 y; have hbb4 := heldI_below w4 y; obtain ⟨w5, hw5⟩ : ∃ wx, wx = heldI w4 y := ⟨_, rfl⟩; rw [← hw5] at hh4 hk4 hbb4; have h5 := (H3.out.next HI.out hb4).next HI.out hbb4; have hld5 := run_load_hd h5.a HR.out; have H5 := Lib.hid h5; have HK4 := Lib.hid hk4; clear h5 hb4 hk4 hbb4 hw5)
    | ((with_reducible refine step_store_run (t := 23) (x := .tmp 9) (y := .tmp 43) (p := ?spa) (v := ?sva) (w' := ?swa) ?sga ?soa ?sxa ?sya ?sra ?sha); (case sga => rfl); (case soa => rfl); (case sxa => rfl); (case sya => rfl); (case sra => exact hh4))
    | ((with_reducible refine step_load (t := 46) (x := .tmp 2) (p := ?lpp4) (v := ?lvp4) ?lgp4 ?lop4 ?lxp4 ?lrp4 ?lhp4); (case lgp4 => rfl); (case lop4 => rfl); (case lxp4 => rfl); (case lrp4 => exact hld5))
    | (go_at_call 26; (with_reducible refine (HIR.out _ H5.out).mono ?_); rintro e w6 ⟨rfl, hb6⟩; have hh6 := run_holdI w6 y HYL.out; have hk6 := heldI_blk w6 y; have hbb6 := heldI_below w6 y; obtain ⟨w7, hw7⟩ : ∃ wx, wx = heldI w6 y := ⟨_, rfl⟩; rw [← hw7] at hh6 hk6 hbb6; have h7 := (H5.out.next HI.out hb6).next HI.out hbb6; have hi7 := (HK4.out.below hb6 HK4.out.lt).below hbb6 (Nat.lt_of_lt_of_le HK4.out.lt hb6.size); have H7 : Hid (PutsS T w S (S + 1) w4.heap.size w6.heap.size h g v vg y w7) := Lib.hid ⟨h7.t, h7.a, h7.b, hi7, hk6, h7.ro, h7.rp, h7.below⟩; clear h7 hb6 hk6 hbb6 hw7 hi7)
    | ((with_reducible refine step_store_run (t := 23) (x := .tmp 11) (y := .tmp 48) (p := ?spb) (v := ?svb) (w' := ?swb) ?sgb ?sob ?sxb ?syb ?srb ?shb); (case sgb => rfl); (case sob => rfl); (case sxb => rfl); (case syb => rfl); (case srb => exact hh6)))
  refine wp_region_held_drew (S := PutsS T w S (S + 1) w4.heap.size w6.heap.size h g v vg y) (by kernel_rfl) ?_ (fun hHeld => ?_)
  · exact H7.out.next HI.out ((Below.refl _ _).drew)
  refine' wpAnyH_take (i := 0) ?hipp0 (by kernel_rfl) (by kernel_rfl) (by kernel_rfl) ?hqpp0 (Or.inl ⟨?hwpp0, ?hypp0⟩) (by assumption) ?hrpp0
  case hipp0 => (simp only [List.getElem?_toArray, List.getElem?_cons_succ, List.getElem?_cons_zero]; rfl)
  case hqpp0 => exact fun _ _ _ h => h
  case hwpp0 => rfl
  case hypp0 => (intro w0 hSw; (try dsimp only at hSw); go_simp; try with_reducible rfl)
  (try simp only [Act.put, List.setIfInBounds_toArray, List.set_cons_zero, List.set_cons_succ])
  refine' wpAnyH_take (i := 1) ?hipp1 (by kernel_rfl) (by kernel_rfl) (by kernel_rfl) ?hqpp1 (Or.inl ⟨?hwpp1, ?hypp1⟩) (by assumption) ?hrpp1
  case hipp1 => (simp only [List.getElem?_toArray, List.getElem?_cons_succ, List.getElem?_cons_zero]; rfl)
  case hqpp1 => exact fun _ _ _ h => h
  case hwpp1 => rfl
  case hypp1 => (intro w0 hSw; (try dsimp only at hSw); go_simp; try with_reducible rfl)
  (try simp only [Act.put, List.setIfInBounds_toArray, List.set_cons_zero, List.set_cons_succ])
  refine' wpAnyH_take (i := 2) ?hipp2 (by kernel_rfl) (by kernel_rfl) (by kernel_rfl) ?hqpp2 (Or.inl ⟨?hwpp2, ?hypp2⟩) (by assumption) ?hrpp2
  case hipp2 => (simp only [List.getElem?_toArray, List.getElem?_cons_succ, List.getElem?_cons_zero]; rfl)
  case hqpp2 => exact fun _ _ _ h => h
  case hwpp2 => rfl
  case hypp2 => (intro w0 hSw; (try dsimp only at hSw); go_simp; try with_reducible rfl)
  (try simp only [Act.put, List.setIfInBounds_toArray, List.set_cons_zero, List.set_cons_succ])
  refine' wpAnyH_take (i := 3) ?hipp3 (by kernel_rfl) (by kernel_rfl) (by kernel_rfl) ?hqpp3 (Or.inl ⟨?hwpp3, ?hypp3⟩) (by assumption) ?hrpp3
  case hipp3 => (simp only [List.getElem?_toArray, List.getElem?_cons_succ, List.getElem?_cons_zero]; rfl)
  case hqpp3 => exact fun _ _ _ h => h
  case hwpp3 => rfl
  case hypp3 => (intro w0 hSw; (try dsimp only at hSw); go_simp; try with_reducible rfl)
  (try simp only [Act.put, List.setIfInBounds_toArray, List.set_cons_zero, List.set_cons_succ])
  refine' wpAnyH_take (i := 4) ?hipp4 (by kernel_rfl) (by kernel_rfl) (by kernel_rfl) ?hqpp4 (Or.inl ⟨?hwpp4, ?hypp4⟩) (by assumption) ?hrpp4
  case hipp4 => (simp only [List.getElem?_toArray, List.getElem?_cons_succ, List.getElem?_cons_zero]; rfl)
  case hqpp4 => exact fun _ _ _ h => h
  case hwpp4 => rfl
  case hypp4 => (intro w0 hSw; (try dsimp only at hSw); go_simp; try with_reducible rfl)
  (try simp only [Act.put, List.setIfInBounds_toArray, List.set_cons_zero, List.set_cons_succ])
  refine' wpAnyH_take (i := 5) ?hipp5 (by kernel_rfl) (by kernel_rfl) (by kernel_rfl) ?hqpp5 (Or.inl ⟨?hwpp5, ?hypp5⟩) (by assumption) ?hrpp5
  case hipp5 => (simp only [List.getElem?_toArray, List.getElem?_cons_succ, List.getElem?_cons_zero]; rfl)
  case hqpp5 => exact fun _ _ _ h => h
  case hwpp5 => rfl
  case hypp5 => (intro w0 hSw; (try dsimp only at hSw); go_simp; try with_reducible rfl)
  (try simp only [Act.put, List.setIfInBounds_toArray, List.set_cons_zero, List.set_cons_succ])
  refine' wpAnyH_take (i := 6) ?hipp6 (by kernel_rfl) (by kernel_rfl) (by kernel_rfl) ?hqpp6 (Or.inl ⟨?hwpp6, ?hypp6⟩) (by assumption) ?hrpp6
  case hipp6 => (simp only [List.getElem?_toArray, List.getElem?_cons_succ, List.getElem?_cons_zero]; rfl)
  case hqpp6 => exact fun _ _ _ h => h
  case hwpp6 => rfl
  case hypp6 => (intro w0 hSw; (try dsimp only at hSw); go_simp; try with_reducible rfl)
  (try simp only [Act.put, List.setIfInBounds_toArray, List.set_cons_zero, List.set_cons_succ])
  refine' wpAnyH_take (i := 7) ?hipp7 (by kernel_rfl) (by kernel_rfl) (by kernel_rfl) ?hqpp7 (Or.inl ⟨?hwpp7, ?hypp7⟩) (by assumption) ?hrpp7
  case hipp7 => (simp only [List.getElem?_toArray, List.getElem?_cons_succ, List.getElem?_cons_zero]; rfl)
  case hqpp7 => exact fun _ _ _ h => h
  case hwpp7 => rfl
  case hypp7 => (intro w0 hSw; (try dsimp only at hSw); go_simp; try with_reducible rfl)
  (try simp only [Act.put, List.setIfInBounds_toArray, List.set_cons_zero, List.set_cons_succ])
  refine' wpAnyH_take (i := 8) ?hipp8 (by kernel_rfl) (by kernel_rfl) (by kernel_rfl) ?hqpp8 (Or.inl ⟨?hwpp8, ?hypp8⟩) (by assumption) ?hrpp8
  case hipp8 => (simp only [List.getElem?_toArray, List.getElem?_cons_succ, List.getElem?_cons_zero]; rfl)
  case hqpp8 => exact fun _ _ _ h => h
  case hwpp8 => rfl
  case hypp8 => (intro w0 hSw; (try dsimp only at hSw); go_simp; try with_reducible rfl)
  (try simp only [Act.put, List.setIfInBounds_toArray, List.set_cons_zero, List.set_cons_succ])
  refine' wpAnyH_take (i := 9) ?hipp9 (by kernel_rfl) (by kernel_rfl) (by kernel_rfl) ?hqpp9 (Or.inl ⟨?hwpp9, ?hypp9⟩) (by assumption) ?hrpp9
  case hipp9 => (simp only [List.getElem?_toArray, List.getElem?_cons_succ, List.getElem?_cons_zero]; rfl)
  case hqpp9 => exact fun _ _ _ h => h
  case hwpp9 => rfl
  case hypp9 => exact fun w0 hSw => run_exec_load rfl rfl (run_load_hd hSw.a HR.out)
  (try simp only [Act.put, List.setIfInBounds_toArray, List.set_cons_zero, List.set_cons_succ])
  refine' wpAnyH_take (i := 11) ?hipp11 (by kernel_rfl) (by kernel_rfl) (by kernel_rfl) ?hqpp11 (Or.inl ⟨?hwpp11, ?hypp11⟩) (by assumption) ?hrpp11
  case hipp11 => (simp only [List.getElem?_toArray, List.getElem?_cons_succ, List.getElem?_cons_zero]; rfl)
  case hqpp11 => exact fun _ _ _ h => h
  case hwpp11 => rfl
  case hypp11 => exact fun w0 hSw => run_exec_load rfl rfl (run_load_hd hSw.a HR.out)
  (try simp only [Act.put, List.setIfInBounds_toArray, List.set_cons_zero, List.set_cons_succ])
  refine wpAnyH_ready (rs := [10]) (by kernel_rfl) (by simp) ?_
  refine' AllReadyH.cons ?hipp10 (fun K hK => ?hrpp10) AllReadyH.nil
  case hipp10 => (simp only [List.getElem?_toArray, List.getElem?_cons_succ, List.getElem?_cons_zero]; rfl)
  go_simp
  (refine (HI.out.check h v _ hHeld.t HR.out hHeld.ro HO1.out HTL.out).mono ?_; rintro e wx ⟨rfl, hbx⟩)
  refine hK.out _ _ ?_ (fun hHeld => ?_)
  · exact hHeld.next HI.out hbx
  clear hK K
  (try simp only [Act.put, List.setIfInBounds_toArray, List.set_cons_zero, List.set_cons_succ])
  refine wpAnyH_ready (rs := [12]) (by kernel_rfl) (by simp) ?_
  refine' AllReadyH.cons ?hipp12 (fun K hK => ?hrpp12) AllReadyH.nil
  case hipp12 => (simp only [List.getElem?_toArray, List.getElem?_cons_succ, List.getElem?_cons_zero]; rfl)
  go_simp
  (refine (check_any h v _ HR.out hHeld.ro HO1.out HTL.out).mono ?_; rintro e wx ⟨rfl, hbx⟩)
  refine hK.out _ _ ?_ (fun hHeld => ?_)
  · exact hHeld.next HI.out hbx
  clear hK K
  (try simp only [Act.put, List.setIfInBounds_toArray, List.set_cons_zero, List.set_cons_succ])
  refine' wpAnyH_take (i := 13) ?hipp13 (by kernel_rfl) (by kernel_rfl) (by kernel_rfl) ?hqpp13 (Or.inl ⟨?hwpp13, ?hypp13⟩) (by assumption) ?hrpp13
  case hipp13 => (simp only [List.getElem?_toArray, List.getElem?_cons_succ, List.getElem?_cons_zero]; rfl)
  case hqpp13 => exact fun _ _ _ h => h
  case hwpp13 => rfl
  case hypp13 => (intro w0 hSw; (try dsimp only at hSw); go_simp; try with_reducible rfl)
  (try simp only [Act.put, List.setIfInBounds_toArray, List.set_cons_zero, List.set_cons_succ])
  refine' wpAnyH_take (i := 14) ?hipp14 (by kernel_rfl) (by kernel_rfl) (by kernel_rfl) ?hqpp14 (Or.inl ⟨?hwpp14, ?hypp14⟩) (by assumption) ?hrpp14
  case hipp14 => (simp only [List.getElem?_toArray, List.getElem?_cons_succ, List.getElem?_cons_zero]; rfl)
  case hqpp14 => exact fun _ _ _ h => h
  case hwpp14 => rfl
  case hypp14 => (intro w0 hSw; (try dsimp only at hSw); go_simp; try with_reducible rfl)
  (try simp only [Act.put, List.setIfInBounds_toArray, List.set_cons_zero, List.set_cons_succ])
  refine' wpAnyH_take (i := 15) ?hipp15 (by kernel_rfl) (by kernel_rfl) (by kernel_rfl) ?hqpp15 (Or.inl ⟨?hwpp15, ?hypp15⟩) (by assumption) ?hrpp15
  case hipp15 => (simp only [List.getElem?_toArray, List.getElem?_cons_succ, List.getElem?_cons_zero]; rfl)
  case hqpp15 => exact fun _ _ _ h => h
  case hwpp15 => rfl
  case hypp15 => (intro w0 hSw; (try dsimp only at hSw); go_simp; try with_reducible rfl)
  (try simp only [Act.put, List.setIfInBounds_toArray, List.set_cons_zero, List.set_cons_succ])
  refine' wpAnyH_take (i := 16) ?hipp16 (by kernel_rfl) (by kernel_rfl) (by kernel_rfl) ?hqpp16 (Or.inl ⟨?hwpp16, ?hypp16⟩) (by assumption) ?hrpp16
  case hipp16 => (simp only [List.getElem?_toArray, List.getElem?_cons_succ, List.getElem?_cons_zero]; rfl)
  case hqpp16 => exact fun _ _ _ h => h
  case hwpp16 => rfl
  case hypp16 => exact fun w0 hSw => run_exec_load rfl rfl (box_load hSw.i HYL.out 0)
  (try simp only [Act.put, List.setIfInBounds_toArray, List.set_cons_zero, List.set_cons_succ])
  refine' wpAnyH_take (i := 17) ?hipp17 (by kernel_rfl) (by kernel_rfl) (by kernel_rfl) ?hqpp17 (Or.inl ⟨?hwpp17, ?hypp17⟩) (by assumption) ?hrpp17
  case hipp17 => (simp only [List.getElem?_toArray, List.getElem?_cons_succ, List.getElem?_cons_zero]; rfl)
  case hqpp17 => exact fun _ _ _ h => h
  case hwpp17 => rfl
  case hypp17 => exact fun w0 hSw => run_exec_load rfl rfl (box_load hSw.j HYL.out 0)
  (try simp only [Act.put, List.setIfInBounds_toArray, List.set_cons_zero, List.set_cons_succ])
  refine' wpAnyH_take (i := 18) ?hipp18 (by kernel_rfl) (by kernel_rfl) (by kernel_rfl) ?hqpp18 (Or.inl ⟨?hwpp18, ?hypp18⟩) (by assumption) ?hrpp18
  case hipp18 => (simp only [List.getElem?_toArray, List.getElem?_cons_succ, List.getElem?_cons_zero]; rfl)
  case hqpp18 => exact fun _ _ _ h => h
  case hwpp18 => rfl
  case hypp18 => exact fun w0 hSw => exec_bin (op := .eql) (t := 23) (x := .tmp 66) (y := .tmp 67) rfl rfl rfl (run_eqGuard_agg w0 .eql 23 (.tmp 66) (.tmp 67) _ _ Tryd.eqGuardType23) (eql_self w0 y HYL.out)
  (try simp only [Act.put, List.setIfInBounds_toArray, List.set_cons_zero, List.set_cons_succ])
  refine' wpAnyH_take (i := 19) ?hipp19 (by kernel_rfl) (by kernel_rfl) (by kernel_rfl) ?hqpp19 (Or.inl ⟨?hwpp19, ?hypp19⟩) (by assumption) ?hrpp19
  case hipp19 => (simp only [List.getElem?_toArray, List.getElem?_cons_succ, List.getElem?_cons_zero]; rfl)
  case hqpp19 => exact fun _ _ _ h => h
  case hwpp19 => rfl
  case hypp19 => (intro w0 hSw; (try dsimp only at hSw); go_simp; try with_reducible rfl)
  (try simp only [Act.put, List.setIfInBounds_toArray, List.set_cons_zero, List.set_cons_succ])
  refine' wpAnyH_take (i := 20) ?hipp20 (by kernel_rfl) (by kernel_rfl) (by kernel_rfl) ?hqpp20 (Or.inl ⟨?hwpp20, ?hypp20⟩) (by assumption) ?hrpp20
  case hipp20 => (simp only [List.getElem?_toArray, List.getElem?_cons_succ, List.getElem?_cons_zero]; rfl)
  case hqpp20 => exact fun _ _ _ h => h
  case hwpp20 => rfl
  case hypp20 => (intro w0 hSw; (try dsimp only at hSw); go_simp; try with_reducible rfl)
  (try simp only [Act.put, List.setIfInBounds_toArray, List.set_cons_zero, List.set_cons_succ])
  refine' wpAnyH_take (i := 21) ?hipp21 (by kernel_rfl) (by kernel_rfl) (by kernel_rfl) ?hqpp21 (Or.inl ⟨?hwpp21, ?hypp21⟩) (by assumption) ?hrpp21
  case hipp21 => (simp only [List.getElem?_toArray, List.getElem?_cons_succ, List.getElem?_cons_zero]; rfl)
  case hqpp21 => exact fun _ _ _ h => h
  case hwpp21 => rfl
  case hypp21 => (intro w0 hSw; (try dsimp only at hSw); go_simp; try with_reducible rfl)
  (try simp only [Act.put, List.setIfInBounds_toArray, List.set_cons_zero, List.set_cons_succ])
  refine' wpAnyH_take (i := 22) ?hipp22 (by kernel_rfl) (by kernel_rfl) (by kernel_rfl) ?hqpp22 (Or.inl ⟨?hwpp22, ?hypp22⟩) (by assumption) ?hrpp22
  case hipp22 => (simp only [List.getElem?_toArray, List.getElem?_cons_succ, List.getElem?_cons_zero]; rfl)
  case hqpp22 => exact fun _ _ _ h => h
  case hwpp22 => rfl
  case hypp22 => (intro w0 hSw; (try dsimp only at hSw); go_simp; try with_reducible rfl)
  (try simp only [Act.put, List.setIfInBounds_toArray, List.set_cons_zero, List.set_cons_succ])
  refine' wpAnyH_take (i := 23) ?hipp23 (by kernel_rfl) (by kernel_rfl) (by kernel_rfl) ?hqpp23 (Or.inl ⟨?hwpp23, ?hypp23⟩) (by assumption) ?hrpp23
  case hipp23 => (simp only [List.getElem?_toArray, List.getElem?_cons_succ, List.getElem?_cons_zero]; rfl)
  case hqpp23 => exact fun _ _ _ h => h
  case hwpp23 => rfl
  case hypp23 => (intro w0 hSw; (try dsimp only at hSw); go_simp; try with_reducible rfl)
  (try simp only [Act.put, List.setIfInBounds_toArray, List.set_cons_zero, List.set_cons_succ])
  refine' wpAnyH_take (i := 24) ?hipp24 (by kernel_rfl) (by kernel_rfl) (by kernel_rfl) ?hqpp24 (Or.inl ⟨?hwpp24, ?hypp24⟩) (by assumption) ?hrpp24
  case hipp24 => (simp only [List.getElem?_toArray, List.getElem?_cons_succ, List.getElem?_cons_zero]; rfl)
  case hqpp24 => exact fun _ _ _ h => h
  case hwpp24 => rfl
  case hypp24 => (intro w0 hSw; (try dsimp only at hSw); go_simp; try with_reducible rfl)
  (try simp only [Act.put, List.setIfInBounds_toArray, List.set_cons_zero, List.set_cons_succ])
  refine' wpAnyH_take (i := 25) ?hipp25 (by kernel_rfl) (by kernel_rfl) (by kernel_rfl) ?hqpp25 (Or.inl ⟨?hwpp25, ?hypp25⟩) (by assumption) ?hrpp25
  case hipp25 => (simp only [List.getElem?_toArray, List.getElem?_cons_succ, List.getElem?_cons_zero]; rfl)
  case hqpp25 => exact fun _ _ _ h => h
  case hwpp25 => rfl
  case hypp25 => (intro w0 hSw; (try dsimp only at hSw); go_simp; try with_reducible rfl)
  (try simp only [Act.put, List.setIfInBounds_toArray, List.set_cons_zero, List.set_cons_succ])
  refine' wpAnyH_take (i := 26) ?hipp26 (by kernel_rfl) (by kernel_rfl) (by kernel_rfl) ?hqpp26 (Or.inl ⟨?hwpp26, ?hypp26⟩) (by assumption) ?hrpp26
  case hipp26 => (simp only [List.getElem?_toArray, List.getElem?_cons_succ, List.getElem?_cons_zero]; rfl)
  case hqpp26 => exact fun _ _ _ h => h
  case hwpp26 => rfl
  case hypp26 => exact fun w0 hSw => run_exec_load rfl rfl (run_load_hd hSw.a HR.out)
  (try simp only [Act.put, List.setIfInBounds_toArray, List.set_cons_zero, List.set_cons_succ])
  refine' wpAnyH_take (i := 27) ?hipp27 (by kernel_rfl) (by kernel_rfl) (by kernel_rfl) ?hqpp27 (Or.inl ⟨?hwpp27, ?hypp27⟩) (by assumption) ?hrpp27
  case hipp27 => (simp only [List.getElem?_toArray, List.getElem?_cons_succ, List.getElem?_cons_zero]; rfl)
  case hqpp27 => exact fun _ _ _ h => h
  case hwpp27 => rfl
  case hypp27 => exact fun w0 hSw => run_exec_load rfl rfl (run_load_hd hSw.b HRP.out)
  (try simp only [Act.put, List.setIfInBounds_toArray, List.set_cons_zero, List.set_cons_succ])
  refine' wpAnyH_take (i := 29) ?hipp29 (by kernel_rfl) (by kernel_rfl) (by kernel_rfl) ?hqpp29 (Or.inl ⟨?hwpp29, ?hypp29⟩) (by assumption) ?hrpp29
  case hipp29 => (simp only [List.getElem?_toArray, List.getElem?_cons_succ, List.getElem?_cons_zero]; rfl)
  case hqpp29 => exact fun _ _ _ h => h
  case hwpp29 => rfl
  case hypp29 => exact fun w0 hSw => run_exec_load rfl rfl (run_load_hd hSw.a HR.out)
  (try simp only [Act.put, List.setIfInBounds_toArray, List.set_cons_zero, List.set_cons_succ])
  refine' wpAnyH_take (i := 30) ?hipp30 (by kernel_rfl) (by kernel_rfl) (by kernel_rfl) ?hqpp30 (Or.inl ⟨?hwpp30, ?hypp30⟩) (by assumption) ?hrpp30
  case hipp30 => (simp only [List.getElem?_toArray, List.getElem?_cons_succ, List.getElem?_cons_zero]; rfl)
  case hqpp30 => exact fun _ _ _ h => h
  case hwpp30 => rfl
  case hypp30 => exact fun w0 hSw => run_exec_load rfl rfl (run_load_hd hSw.b HRP.out)
  (try simp only [Act.put, List.setIfInBounds_toArray, List.set_cons_zero, List.set_cons_succ])
  refine wpAnyH_ready (rs := [28]) (by kernel_rfl) (by simp) ?_
  refine' AllReadyH.cons ?hipp28 (fun K hK => ?hrpp28) AllReadyH.nil
  case hipp28 => (simp only [List.getElem?_toArray, List.getElem?_cons_succ, List.getElem?_cons_zero]; rfl)
  go_simp
  (refine (HI.out.same h g v vg _ hHeld.t HR.out HRP.out hHeld.ro hHeld.rp).mono ?_; rintro e wx ⟨rfl, hbx⟩)
  refine hK.out _ _ ?_ (fun hHeld => ?_)
  · exact hHeld.next HI.out hbx
  clear hK K
  (try simp only [Act.put, List.setIfInBounds_toArray, List.set_cons_zero, List.set_cons_succ])
  refine wpAnyH_ready (rs := [31]) (by kernel_rfl) (by simp) ?_
  refine' AllReadyH.cons ?hipp31 (fun K hK => ?hrpp31) AllReadyH.nil
  case hipp31 => (simp only [List.getElem?_toArray, List.getElem?_cons_succ, List.getElem?_cons_zero]; rfl)
  go_simp
  (refine (same_any h g v vg _ HR.out HRP.out hHeld.ro hHeld.rp).mono ?_; rintro e wx ⟨rfl, hbx⟩)
  refine hK.out _ _ ?_ (fun hHeld => ?_)
  · exact hHeld.next HI.out hbx
  clear hK K
  (try simp only [Act.put, List.setIfInBounds_toArray, List.set_cons_zero, List.set_cons_succ])
  refine' wpAnyH_take (i := 32) ?hipp32 (by kernel_rfl) (by kernel_rfl) (by kernel_rfl) ?hqpp32 (Or.inl ⟨?hwpp32, ?hypp32⟩) (by assumption) ?hrpp32
  case hipp32 => (simp only [List.getElem?_toArray, List.getElem?_cons_succ, List.getElem?_cons_zero]; rfl)
  case hqpp32 => exact fun _ _ _ h => h
  case hwpp32 => rfl
  case hypp32 => (intro w0 hSw; (try dsimp only at hSw); go_simp; try with_reducible rfl)
  (try simp only [Act.put, List.setIfInBounds_toArray, List.set_cons_zero, List.set_cons_succ])
  refine' wpAnyH_take (i := 33) ?hipp33 (by kernel_rfl) (by kernel_rfl) (by kernel_rfl) ?hqpp33 (Or.inl ⟨?hwpp33, ?hypp33⟩) (by assumption) ?hrpp33
  case hipp33 => (simp only [List.getElem?_toArray, List.getElem?_cons_succ, List.getElem?_cons_zero]; rfl)
  case hqpp33 => exact fun _ _ _ h => h
  case hwpp33 => rfl
  case hypp33 => (intro w0 hSw; (try dsimp only at hSw); go_simp; try with_reducible rfl)
  (try simp only [Act.put, List.setIfInBounds_toArray, List.set_cons_zero, List.set_cons_succ])
  refine' wpAnyH_take (i := 34) ?hipp34 (by kernel_rfl) (by kernel_rfl) (by kernel_rfl) ?hqpp34 (Or.inl ⟨?hwpp34, ?hypp34⟩) (by assumption) ?hrpp34
  case hipp34 => (simp only [List.getElem?_toArray, List.getElem?_cons_succ, List.getElem?_cons_zero]; rfl)
  case hqpp34 => exact fun _ _ _ h => h
  case hwpp34 => rfl
  case hypp34 => (intro w0 hSw; (try dsimp only at hSw); go_simp; try with_reducible rfl)
  (try simp only [Act.put, List.setIfInBounds_toArray, List.set_cons_zero, List.set_cons_succ])
  refine' wpAnyH_take (i := 35) ?hipp35 (by kernel_rfl) (by kernel_rfl) (by kernel_rfl) ?hqpp35 (Or.inl ⟨?hwpp35, ?hypp35⟩) (by assumption) ?hrpp35
  case hipp35 => (simp only [List.getElem?_toArray, List.getElem?_cons_succ, List.getElem?_cons_zero]; rfl)
  case hqpp35 => exact fun _ _ _ h => h
  case hwpp35 => rfl
  case hypp35 => exact fun w0 hSw => run_exec_load rfl rfl (run_load_hd hSw.a HR.out)
  (try simp only [Act.put, List.setIfInBounds_toArray, List.set_cons_zero, List.set_cons_succ])
  refine' wpAnyH_take (i := 36) ?hipp36 (by kernel_rfl) (by kernel_rfl) (by kernel_rfl) ?hqpp36 (Or.inl ⟨?hwpp36, ?hypp36⟩) (by assumption) ?hrpp36
  case hipp36 => (simp only [List.getElem?_toArray, List.getElem?_cons_succ, List.getElem?_cons_zero]; rfl)
  case hqpp36 => exact fun _ _ _ h => h
  case hwpp36 => rfl
  case hypp36 => exact fun w0 hSw => run_exec_load rfl rfl (run_load_hd hSw.a HR.out)
  (try simp only [Act.put, List.setIfInBounds_toArray, List.set_cons_zero, List.set_cons_succ])
  refine wpAnyH_ready (rs := [37]) (by kernel_rfl) (by simp) ?_
  refine' AllReadyH.cons ?hipp37 (fun K hK => ?hrpp37) AllReadyH.nil
  case hipp37 => (simp only [List.getElem?_toArray, List.getElem?_cons_succ, List.getElem?_cons_zero]; rfl)
  go_simp
  (refine (HI.out.same h h v v _ hHeld.t HR.out HR.out hHeld.ro hHeld.ro).mono ?_; rw [sameH_refl]; rintro e wx ⟨rfl, hbx⟩)
  refine hK.out _ _ ?_ (fun hHeld => ?_)
  · exact hHeld.next HI.out hbx
  clear hK K
  (try simp only [Act.put, List.setIfInBounds_toArray, List.set_cons_zero, List.set_cons_succ])
  refine' wpAnyH_take (i := 38) ?hipp38 (by kernel_rfl) (by kernel_rfl) (by kernel_rfl) ?hqpp38 (Or.inl ⟨?hwpp38, ?hypp38⟩) (by assumption) ?hrpp38
  case hipp38 => (simp only [List.getElem?_toArray, List.getElem?_cons_succ, List.getElem?_cons_zero]; rfl)
  case hqpp38 => exact fun _ _ _ h => h
  case hwpp38 => rfl
  case hypp38 => (intro w0 hSw; (try dsimp only at hSw); go_simp; try with_reducible rfl)
  (try simp only [Act.put, List.setIfInBounds_toArray, List.set_cons_zero, List.set_cons_succ])
  refine' wpAnyH_take (i := 39) ?hipp39 (by kernel_rfl) (by kernel_rfl) (by kernel_rfl) ?hqpp39 (Or.inl ⟨?hwpp39, ?hypp39⟩) (by assumption) ?hrpp39
  case hipp39 => (simp only [List.getElem?_toArray, List.getElem?_cons_succ, List.getElem?_cons_zero]; rfl)
  case hqpp39 => exact fun _ _ _ h => h
  case hwpp39 => rfl
  case hypp39 => (intro w0 hSw; (try dsimp only at hSw); go_simp; try with_reducible rfl)
  (try simp only [Act.put, List.setIfInBounds_toArray, List.set_cons_zero, List.set_cons_succ])
  refine wpAnyH_ready (rs := [40]) (by kernel_rfl) (by simp) ?_
  refine' AllReadyH.cons ?hipp40 (fun K hK => ?hrpp40) AllReadyH.nil
  case hipp40 => (simp only [List.getElem?_toArray, List.getElem?_cons_succ, List.getElem?_cons_zero]; rfl)
  go_simp
  (refine (awake_any HI.out _ hHeld.t).mono ?_; rintro e wx ⟨rfl, hbx⟩)
  refine hK.out _ _ ?_ (fun hHeld => ?_)
  · exact hHeld.next HI.out hbx
  clear hK K
  (try simp only [Act.put, List.setIfInBounds_toArray, List.set_cons_zero, List.set_cons_succ])
  refine' wpAnyH_take (i := 41) ?hipp41 (by kernel_rfl) (by kernel_rfl) (by kernel_rfl) ?hqpp41 (Or.inl ⟨?hwpp41, ?hypp41⟩) (by assumption) ?hrpp41
  case hipp41 => (simp only [List.getElem?_toArray, List.getElem?_cons_succ, List.getElem?_cons_zero]; rfl)
  case hqpp41 => exact fun _ _ _ h => h
  case hwpp41 => rfl
  case hypp41 => (intro w0 hSw; (try dsimp only at hSw); go_simp; try with_reducible rfl)
  (try simp only [Act.put, List.setIfInBounds_toArray, List.set_cons_zero, List.set_cons_succ])
  refine' wpAnyH_take (i := 42) ?hipp42 (by kernel_rfl) (by kernel_rfl) (by kernel_rfl) ?hqpp42 (Or.inl ⟨?hwpp42, ?hypp42⟩) (by assumption) ?hrpp42
  case hipp42 => (simp only [List.getElem?_toArray, List.getElem?_cons_succ, List.getElem?_cons_zero]; rfl)
  case hqpp42 => exact fun _ _ _ h => h
  case hwpp42 => rfl
  case hypp42 => (intro w0 hSw; (try dsimp only at hSw); go_simp; try with_reducible rfl)
  (try simp only [Act.put, List.setIfInBounds_toArray, List.set_cons_zero, List.set_cons_succ])
  refine wpAnyH_done (by kernel_rfl) ?_ _
  go_wp2_with fail
  go_ret
  exact ⟨rfl, hHeld.below⟩
end Go.Proofs.YtmaolmogccknbaaDoor.hdr
