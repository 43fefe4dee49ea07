/-
  The walk of MsgPuts, by what msg's functions answer.
-/
import Derived.Test.YtbfjljbllfjicaaMsis
import Derived.Deep.RegionHeld3
namespace Go.Proofs.Ytbfjljbllfjicaa.msg
open Go.RowKit Go.Proofs.Ytbfjljbllfjicaa.mem Go.Proofs.Ytbfjljbllfjicaa.sha Go.Proofs.Ytbfjljbllfjicaa.ids
open Go.Proofs.Ytbfjljbllfjicaa.opn (b1 b2 b4 num txt idl byte rd rdN rdT rdI rdS rdL St Reads Stays endE zid mkId)

structure PutsS (T : World → Prop) (w0 : World) (A B : Nat) (m n : Mg) (vm vn : Value) (u : World) : Prop where
  t : T u
  a : Blk u A 24 #[.int .i64 m.k, vm, .string (oct.tx m.body)]
  b : Blk u B 24 #[.int .i64 n.k, vn, .string (oct.tx n.body)]
  ro : RdV u vm m.ids
  rp : RdV u vn n.ids
  below : Below w0.heap.size w0 u
theorem PutsS.next {T : World → Prop} (hI : MsIs T) {w0 : World} {A B : Nat} {m n : Mg} {vm vn : Value} {u u' : World} (s : PutsS T w0 A B m n vm vn u) (hb : Below u.heap.size u u') : PutsS T w0 A B m n vm vn u' :=
  ⟨hI.next s.t hb, s.a.below hb s.a.lt, s.b.below hb s.b.lt, s.ro.next hb, s.rp.next hb, s.below.trans (hb.mono s.below.size)⟩
set_option maxHeartbeats 4000000 in
set_option maxRecDepth 100000 in
theorem puts_walk {T : World → Prop} (hI : MsIs T) (m n : Mg) (v vn : Value) (w : World) (hT : T w) (hv : RdV w v m.ids) (hvn : RdV w vn n.ids) (ht : m.body.length ≤ 140737488351232) :
    Calls Try.prog 3 #[mgv m v, mgv n vn] w fun e w' => e = .returned (.bool true) ∧ Below w.heap.size w w' := by
  obtain ⟨w1, hw1⟩ : ∃ u, u = (w.alloc (.cells #[.int .i64 m.k, v, .string (oct.tx m.body)] 24)).alloc (.cells #[.int .i64 n.k, vn, .string (oct.tx n.body)] 24) := ⟨_, rfl⟩
  obtain ⟨S, hS⟩ : ∃ S, S = w.heap.size := ⟨_, rfl⟩
  have hX : Blk w1 S 24 #[.int .i64 m.k, v, .string (oct.tx m.body)] := by rw [hw1, hS]; exact (Blk.new w _ _).alloc _
  have hY : Blk w1 (S + 1) 24 #[.int .i64 n.k, vn, .string (oct.tx n.body)] := by rw [hw1, hS]; exact Blk.at_ (by simp) _ _
  have hB : Below w.heap.size w w1 := by rw [hw1]; exact ((Below.refl _ _).alloc (Nat.le_refl _) _).alloc (by simp) _
  have HPS := Lib.hid (show PutsS T w S (S + 1) m n v vn w1 from ⟨hI.next hT hB, hX, hY, hv.next hB, hvn.next hB, hB⟩)
  have HS := Lib.hid hS
  have HW := Lib.hid hw1
  have HI := Lib.hid hI
  obtain ⟨ad, cap, hvf⟩ := hv.form
  have c0 := (MgBlk.of hX).ids
  have c2 := (MgBlk.of hX).body
  rw [hvf] at c0
  obtain ⟨ln, hln⟩ : ∃ k, k = m.ids.length := ⟨_, rfl⟩
  rw [← hln] at c0
  have HLN := Lib.hid hln
  obtain ⟨ts, hts⟩ : ∃ k, k = oct.tx m.body := ⟨_, rfl⟩
  rw [← hts] at c2
  have HTS : Hid (ts.size = m.body.length) := Lib.hid (by rw [hts, oct.tx_size])
  obtain ⟨adp, capp, hvfp⟩ := hvn.form
  have d0 := (MgBlk.of hY).ids
  rw [hvfp] at d0
  obtain ⟨lp, hlp⟩ : ∃ k, k = n.ids.length := ⟨_, rfl⟩
  rw [← hlp] at d0
  have HLP := Lib.hid hlp
  have HLD := Lib.hid (run_load_mg hX)
  have HTL := Lib.hid ht
  clear hX hY hB hw1 hS hT hI hvf hvfp hln hlp hv hvn hts ht
  unfold mgv
  by_cases hbig : 60 < m.ids.length
  · have i1 : (60 : Int) < (ln : Int) := by rw [HLN.out]; omega
    clear hbig
    go_enter Try.func3, Try.ntmps3
    go_upto_region 1 with fail
    refine wp_at HW.out.symm ?_
    rw [← HS.out]
    clear HW
    go_wp2_with ((go_at_call 7; refine (awake_any HI.out _ HPS.out.t).mono ?_; rintro e w2 ⟨rfl, hb1⟩))
    go_ret
    exact ⟨rfl, HPS.out.below.trans (hb1.mono HPS.out.below.size)⟩
  have i1 : (ln : Int) ≤ 60 := by rw [HLN.out]; omega
  by_cases hbp : 60 < n.ids.length
  · have i2 : (60 : Int) < (lp : Int) := by rw [HLP.out]; omega
    clear hbig hbp
    go_enter Try.func3, Try.ntmps3
    go_upto_region 1 with fail
    refine wp_at HW.out.symm ?_
    rw [← HS.out]
    clear HW
    go_wp2_with ((go_at_call 7; refine (awake_any HI.out _ HPS.out.t).mono ?_; rintro e w2 ⟨rfl, hb1⟩))
    go_ret
    exact ⟨rfl, HPS.out.below.trans (hb1.mono HPS.out.below.size)⟩
  have i2 : (lp : Int) ≤ 60 := by rw [HLP.out]; omega
  by_cases hbt : 2000 < m.body.length
  · have i3 : (2000 : Int) < (ts.size : Int) := by rw [HTS.out]; omega
    clear hbig hbp hbt
    go_enter Try.func3, Try.ntmps3
    go_upto_region 1 with fail
    refine wp_at HW.out.symm ?_
    rw [← HS.out]
    clear HW
    go_wp2_with ((go_at_call 7; refine (awake_any HI.out _ HPS.out.t).mono ?_; rintro e w2 ⟨rfl, hb1⟩))
    go_ret
    exact ⟨rfl, HPS.out.below.trans (hb1.mono HPS.out.below.size)⟩
  have i3 : (ts.size : Int) ≤ 2000 := by rw [HTS.out]; omega

  have HPUT := Lib.hid (HI.out.put m v w1 HPS.out.t HPS.out.ro HTL.out)
  have HPR := Lib.hid (fun u (z : PutsS T w S (S + 1) m n v vn u) => put_any m v u z.ro HTL.out)
  obtain ⟨bs, hbs⟩ : ∃ b, b = oct.tx (putM m).1 := ⟨_, rfl⟩
  obtain ⟨er, her⟩ : ∃ b, b = (putM m).2 := ⟨_, rfl⟩
  rw [← hbs, ← her] at HPUT
  simp only [← hbs, ← her] at HPR
  clear hbig hbp hbt hbs her
  go_enter Try.func3, Try.ntmps3
  go_upto_region 1 with fail
  refine wp_at HW.out.symm ?_
  rw [← HS.out]
  clear HW
  go_upto_region 5 with (first
    | ((with_reducible refine step_load (t := 24) (x := .tmp 2) (p := ?lpp1) (v := ?lvp1) ?lgp1 ?lop1 ?lxp1 ?lrp1 ?lhp1); (case lgp1 => rfl); (case lop1 => rfl); (case lxp1 => rfl); (case lrp1 => exact HLD.out))
    | (go_at_call 8; (with_reducible refine HPUT.out.mono ?_); rintro e w2 ⟨rfl, hb2⟩; have h2 := HPS.out.next HI.out hb2; have hld2 := run_load_mg h2.a; have H2 := Lib.hid h2; clear h2 hb2)
    | ((with_reducible refine step_load (t := 24) (x := .tmp 2) (p := ?lpp2) (v := ?lvp2) ?lgp2 ?lop2 ?lxp2 ?lrp2 ?lhp2); (case lgp2 => rfl); (case lop2 => rfl); (case lxp2 => rfl); (case lrp2 => exact hld2))
    | (go_at_call 9; (with_reducible refine (HPR.out _ H2.out).mono ?_); rintro e w3 ⟨rfl, hb3⟩; have H3 := Lib.hid (H2.out.next HI.out hb3); clear hb3))
  refine wp_region_held_drew (S := PutsS T w S (S + 1) m n v vn) (by kernel_rfl) ?_ (fun hHeld => ?_)
  · exact H3.out.next HI.out ((Below.refl _ _).drew)
  refine' wpAnyH_take (i := 0) ?hipp0 (by kernel_rfl) (by kernel_rfl) (by kernel_rfl) ?hqpp0 (Or.inl ⟨?hwpp0, ?hypp0⟩) (by assumption) ?hrpp0
  case hipp0 => (simp only [List.getElem?_toArray, List.getElem?_cons_succ, List.getElem?_cons_zero]; rfl)
  case hqpp0 => exact fun _ _ _ h => h
  case hwpp0 => rfl
  case hypp0 => (intro w0 hSw; (try dsimp only at hSw); go_simp; try with_reducible rfl)
  (try simp only [Act.put, List.setIfInBounds_toArray, List.set_cons_zero, List.set_cons_succ])
  refine' wpAnyH_take (i := 1) ?hipp1 (by kernel_rfl) (by kernel_rfl) (by kernel_rfl) ?hqpp1 (Or.inl ⟨?hwpp1, ?hypp1⟩) (by assumption) ?hrpp1
  case hipp1 => (simp only [List.getElem?_toArray, List.getElem?_cons_succ, List.getElem?_cons_zero]; rfl)
  case hqpp1 => exact fun _ _ _ h => h
  case hwpp1 => rfl
  case hypp1 => (intro w0 hSw; (try dsimp only at hSw); go_simp; try with_reducible rfl)
  (try simp only [Act.put, List.setIfInBounds_toArray, List.set_cons_zero, List.set_cons_succ])
  refine' wpAnyH_take (i := 2) ?hipp2 (by kernel_rfl) (by kernel_rfl) (by kernel_rfl) ?hqpp2 (Or.inl ⟨?hwpp2, ?hypp2⟩) (by assumption) ?hrpp2
  case hipp2 => (simp only [List.getElem?_toArray, List.getElem?_cons_succ, List.getElem?_cons_zero]; rfl)
  case hqpp2 => exact fun _ _ _ h => h
  case hwpp2 => rfl
  case hypp2 => (intro w0 hSw; (try dsimp only at hSw); go_simp; try with_reducible rfl)
  (try simp only [Act.put, List.setIfInBounds_toArray, List.set_cons_zero, List.set_cons_succ])
  refine' wpAnyH_take (i := 3) ?hipp3 (by kernel_rfl) (by kernel_rfl) (by kernel_rfl) ?hqpp3 (Or.inl ⟨?hwpp3, ?hypp3⟩) (by assumption) ?hrpp3
  case hipp3 => (simp only [List.getElem?_toArray, List.getElem?_cons_succ, List.getElem?_cons_zero]; rfl)
  case hqpp3 => exact fun _ _ _ h => h
  case hwpp3 => rfl
  case hypp3 => (intro w0 hSw; (try dsimp only at hSw); go_simp; try with_reducible rfl)
  (try simp only [Act.put, List.setIfInBounds_toArray, List.set_cons_zero, List.set_cons_succ])
  refine' wpAnyH_take (i := 4) ?hipp4 (by kernel_rfl) (by kernel_rfl) (by kernel_rfl) ?hqpp4 (Or.inl ⟨?hwpp4, ?hypp4⟩) (by assumption) ?hrpp4
  case hipp4 => (simp only [List.getElem?_toArray, List.getElem?_cons_succ, List.getElem?_cons_zero]; rfl)
  case hqpp4 => exact fun _ _ _ h => h
  case hwpp4 => rfl
  case hypp4 => (intro w0 hSw; (try dsimp only at hSw); go_simp; try with_reducible rfl)
  (try simp only [Act.put, List.setIfInBounds_toArray, List.set_cons_zero, List.set_cons_succ])
  refine' wpAnyH_take (i := 5) ?hipp5 (by kernel_rfl) (by kernel_rfl) (by kernel_rfl) ?hqpp5 (Or.inl ⟨?hwpp5, ?hypp5⟩) (by assumption) ?hrpp5
  case hipp5 => (simp only [List.getElem?_toArray, List.getElem?_cons_succ, List.getElem?_cons_zero]; rfl)
  case hqpp5 => exact fun _ _ _ h => h
  case hwpp5 => rfl
  case hypp5 => (intro w0 hSw; (try dsimp only at hSw); go_simp; try with_reducible rfl)
  (try simp only [Act.put, List.setIfInBounds_toArray, List.set_cons_zero, List.set_cons_succ])
  refine' wpAnyH_take (i := 6) ?hipp6 (by kernel_rfl) (by kernel_rfl) (by kernel_rfl) ?hqpp6 (Or.inl ⟨?hwpp6, ?hypp6⟩) (by assumption) ?hrpp6
  case hipp6 => (simp only [List.getElem?_toArray, List.getElem?_cons_succ, List.getElem?_cons_zero]; rfl)
  case hqpp6 => exact fun _ _ _ h => h
  case hwpp6 => rfl
  case hypp6 => (intro w0 hSw; (try dsimp only at hSw); go_simp; try with_reducible rfl)
  (try simp only [Act.put, List.setIfInBounds_toArray, List.set_cons_zero, List.set_cons_succ])
  refine' wpAnyH_take (i := 7) ?hipp7 (by kernel_rfl) (by kernel_rfl) (by kernel_rfl) ?hqpp7 (Or.inl ⟨?hwpp7, ?hypp7⟩) (by assumption) ?hrpp7
  case hipp7 => (simp only [List.getElem?_toArray, List.getElem?_cons_succ, List.getElem?_cons_zero]; rfl)
  case hqpp7 => exact fun _ _ _ h => h
  case hwpp7 => rfl
  case hypp7 => (intro w0 hSw; (try dsimp only at hSw); go_simp; try with_reducible rfl)
  (try simp only [Act.put, List.setIfInBounds_toArray, List.set_cons_zero, List.set_cons_succ])
  refine' wpAnyH_take (i := 8) ?hipp8 (by kernel_rfl) (by kernel_rfl) (by kernel_rfl) ?hqpp8 (Or.inl ⟨?hwpp8, ?hypp8⟩) (by assumption) ?hrpp8
  case hipp8 => (simp only [List.getElem?_toArray, List.getElem?_cons_succ, List.getElem?_cons_zero]; rfl)
  case hqpp8 => exact fun _ _ _ h => h
  case hwpp8 => rfl
  case hypp8 => (intro w0 hSw; (try dsimp only at hSw); go_simp; try with_reducible rfl)
  (try simp only [Act.put, List.setIfInBounds_toArray, List.set_cons_zero, List.set_cons_succ])
  refine' wpAnyH_take (i := 9) ?hipp9 (by kernel_rfl) (by kernel_rfl) (by kernel_rfl) ?hqpp9 (Or.inl ⟨?hwpp9, ?hypp9⟩) (by assumption) ?hrpp9
  case hipp9 => (simp only [List.getElem?_toArray, List.getElem?_cons_succ, List.getElem?_cons_zero]; rfl)
  case hqpp9 => exact fun _ _ _ h => h
  case hwpp9 => rfl
  case hypp9 => exact fun w0 hSw => run_exec_load rfl rfl (run_load_mg hSw.a)
  (try simp only [Act.put, List.setIfInBounds_toArray, List.set_cons_zero, List.set_cons_succ])
  refine' wpAnyH_take (i := 11) ?hipp11 (by kernel_rfl) (by kernel_rfl) (by kernel_rfl) ?hqpp11 (Or.inl ⟨?hwpp11, ?hypp11⟩) (by assumption) ?hrpp11
  case hipp11 => (simp only [List.getElem?_toArray, List.getElem?_cons_succ, List.getElem?_cons_zero]; rfl)
  case hqpp11 => exact fun _ _ _ h => h
  case hwpp11 => rfl
  case hypp11 => exact fun w0 hSw => run_exec_load rfl rfl (run_load_mg hSw.a)
  (try simp only [Act.put, List.setIfInBounds_toArray, List.set_cons_zero, List.set_cons_succ])
  refine wpAnyH_ready (rs := [10]) (by kernel_rfl) (by simp) ?_
  refine' AllReadyH.cons ?hipp10 (fun K hK => ?hrpp10) AllReadyH.nil
  case hipp10 => (simp only [List.getElem?_toArray, List.getElem?_cons_succ, List.getElem?_cons_zero]; rfl)
  go_simp
  (refine (HI.out.check m v _ hHeld.t hHeld.ro HTL.out).mono ?_; rintro e wx ⟨rfl, hbx⟩)
  refine hK.out _ _ ?_ (fun hHeld => ?_)
  · exact hHeld.next HI.out hbx
  clear hK K
  (try simp only [Act.put, List.setIfInBounds_toArray, List.set_cons_zero, List.set_cons_succ])
  refine wpAnyH_ready (rs := [12]) (by kernel_rfl) (by simp) ?_
  refine' AllReadyH.cons ?hipp12 (fun K hK => ?hrpp12) AllReadyH.nil
  case hipp12 => (simp only [List.getElem?_toArray, List.getElem?_cons_succ, List.getElem?_cons_zero]; rfl)
  go_simp
  (refine (check_any m v _ hHeld.ro HTL.out).mono ?_; rintro e wx ⟨rfl, hbx⟩)
  refine hK.out _ _ ?_ (fun hHeld => ?_)
  · exact hHeld.next HI.out hbx
  clear hK K
  (try simp only [Act.put, List.setIfInBounds_toArray, List.set_cons_zero, List.set_cons_succ])
  refine' wpAnyH_take (i := 13) ?hipp13 (by kernel_rfl) (by kernel_rfl) (by kernel_rfl) ?hqpp13 (Or.inl ⟨?hwpp13, ?hypp13⟩) (by assumption) ?hrpp13
  case hipp13 => (simp only [List.getElem?_toArray, List.getElem?_cons_succ, List.getElem?_cons_zero]; rfl)
  case hqpp13 => exact fun _ _ _ h => h
  case hwpp13 => rfl
  case hypp13 => (intro w0 hSw; (try dsimp only at hSw); go_simp; try with_reducible rfl)
  (try simp only [Act.put, List.setIfInBounds_toArray, List.set_cons_zero, List.set_cons_succ])
  refine' wpAnyH_take (i := 14) ?hipp14 (by kernel_rfl) (by kernel_rfl) (by kernel_rfl) ?hqpp14 (Or.inl ⟨?hwpp14, ?hypp14⟩) (by assumption) ?hrpp14
  case hipp14 => (simp only [List.getElem?_toArray, List.getElem?_cons_succ, List.getElem?_cons_zero]; rfl)
  case hqpp14 => exact fun _ _ _ h => h
  case hwpp14 => rfl
  case hypp14 => (intro w0 hSw; (try dsimp only at hSw); go_simp; try with_reducible rfl)
  (try simp only [Act.put, List.setIfInBounds_toArray, List.set_cons_zero, List.set_cons_succ])
  refine' wpAnyH_take (i := 15) ?hipp15 (by kernel_rfl) (by kernel_rfl) (by kernel_rfl) ?hqpp15 (Or.inl ⟨?hwpp15, ?hypp15⟩) (by assumption) ?hrpp15
  case hipp15 => (simp only [List.getElem?_toArray, List.getElem?_cons_succ, List.getElem?_cons_zero]; rfl)
  case hqpp15 => exact fun _ _ _ h => h
  case hwpp15 => rfl
  case hypp15 => (intro w0 hSw; (try dsimp only at hSw); go_simp; try with_reducible rfl)
  (try simp only [Act.put, List.setIfInBounds_toArray, List.set_cons_zero, List.set_cons_succ])
  refine' wpAnyH_take (i := 16) ?hipp16 (by kernel_rfl) (by kernel_rfl) (by kernel_rfl) ?hqpp16 (Or.inl ⟨?hwpp16, ?hypp16⟩) (by assumption) ?hrpp16
  case hipp16 => (simp only [List.getElem?_toArray, List.getElem?_cons_succ, List.getElem?_cons_zero]; rfl)
  case hqpp16 => exact fun _ _ _ h => h
  case hwpp16 => rfl
  case hypp16 => exact fun w0 hSw => run_exec_load rfl rfl (run_load_mg hSw.a)
  (try simp only [Act.put, List.setIfInBounds_toArray, List.set_cons_zero, List.set_cons_succ])
  refine' wpAnyH_take (i := 17) ?hipp17 (by kernel_rfl) (by kernel_rfl) (by kernel_rfl) ?hqpp17 (Or.inl ⟨?hwpp17, ?hypp17⟩) (by assumption) ?hrpp17
  case hipp17 => (simp only [List.getElem?_toArray, List.getElem?_cons_succ, List.getElem?_cons_zero]; rfl)
  case hqpp17 => exact fun _ _ _ h => h
  case hwpp17 => rfl
  case hypp17 => exact fun w0 hSw => run_exec_load rfl rfl (run_load_mg hSw.b)
  (try simp only [Act.put, List.setIfInBounds_toArray, List.set_cons_zero, List.set_cons_succ])
  refine' wpAnyH_take (i := 19) ?hipp19 (by kernel_rfl) (by kernel_rfl) (by kernel_rfl) ?hqpp19 (Or.inl ⟨?hwpp19, ?hypp19⟩) (by assumption) ?hrpp19
  case hipp19 => (simp only [List.getElem?_toArray, List.getElem?_cons_succ, List.getElem?_cons_zero]; rfl)
  case hqpp19 => exact fun _ _ _ h => h
  case hwpp19 => rfl
  case hypp19 => exact fun w0 hSw => run_exec_load rfl rfl (run_load_mg hSw.a)
  (try simp only [Act.put, List.setIfInBounds_toArray, List.set_cons_zero, List.set_cons_succ])
  refine' wpAnyH_take (i := 20) ?hipp20 (by kernel_rfl) (by kernel_rfl) (by kernel_rfl) ?hqpp20 (Or.inl ⟨?hwpp20, ?hypp20⟩) (by assumption) ?hrpp20
  case hipp20 => (simp only [List.getElem?_toArray, List.getElem?_cons_succ, List.getElem?_cons_zero]; rfl)
  case hqpp20 => exact fun _ _ _ h => h
  case hwpp20 => rfl
  case hypp20 => exact fun w0 hSw => run_exec_load rfl rfl (run_load_mg hSw.b)
  (try simp only [Act.put, List.setIfInBounds_toArray, List.set_cons_zero, List.set_cons_succ])
  refine wpAnyH_ready (rs := [18]) (by kernel_rfl) (by simp) ?_
  refine' AllReadyH.cons ?hipp18 (fun K hK => ?hrpp18) AllReadyH.nil
  case hipp18 => (simp only [List.getElem?_toArray, List.getElem?_cons_succ, List.getElem?_cons_zero]; rfl)
  go_simp
  (refine (HI.out.same m n v vn _ hHeld.t hHeld.ro hHeld.rp).mono ?_; rintro e wx ⟨rfl, hbx⟩)
  refine hK.out _ _ ?_ (fun hHeld => ?_)
  · exact hHeld.next HI.out hbx
  clear hK K
  (try simp only [Act.put, List.setIfInBounds_toArray, List.set_cons_zero, List.set_cons_succ])
  refine wpAnyH_ready (rs := [21]) (by kernel_rfl) (by simp) ?_
  refine' AllReadyH.cons ?hipp21 (fun K hK => ?hrpp21) AllReadyH.nil
  case hipp21 => (simp only [List.getElem?_toArray, List.getElem?_cons_succ, List.getElem?_cons_zero]; rfl)
  go_simp
  (refine (same_any m n v vn _ hHeld.ro hHeld.rp).mono ?_; rintro e wx ⟨rfl, hbx⟩)
  refine hK.out _ _ ?_ (fun hHeld => ?_)
  · exact hHeld.next HI.out hbx
  clear hK K
  (try simp only [Act.put, List.setIfInBounds_toArray, List.set_cons_zero, List.set_cons_succ])
  refine' wpAnyH_take (i := 22) ?hipp22 (by kernel_rfl) (by kernel_rfl) (by kernel_rfl) ?hqpp22 (Or.inl ⟨?hwpp22, ?hypp22⟩) (by assumption) ?hrpp22
  case hipp22 => (simp only [List.getElem?_toArray, List.getElem?_cons_succ, List.getElem?_cons_zero]; rfl)
  case hqpp22 => exact fun _ _ _ h => h
  case hwpp22 => rfl
  case hypp22 => (intro w0 hSw; (try dsimp only at hSw); go_simp; try with_reducible rfl)
  (try simp only [Act.put, List.setIfInBounds_toArray, List.set_cons_zero, List.set_cons_succ])
  refine' wpAnyH_take (i := 23) ?hipp23 (by kernel_rfl) (by kernel_rfl) (by kernel_rfl) ?hqpp23 (Or.inl ⟨?hwpp23, ?hypp23⟩) (by assumption) ?hrpp23
  case hipp23 => (simp only [List.getElem?_toArray, List.getElem?_cons_succ, List.getElem?_cons_zero]; rfl)
  case hqpp23 => exact fun _ _ _ h => h
  case hwpp23 => rfl
  case hypp23 => (intro w0 hSw; (try dsimp only at hSw); go_simp; try with_reducible rfl)
  (try simp only [Act.put, List.setIfInBounds_toArray, List.set_cons_zero, List.set_cons_succ])
  refine' wpAnyH_take (i := 24) ?hipp24 (by kernel_rfl) (by kernel_rfl) (by kernel_rfl) ?hqpp24 (Or.inl ⟨?hwpp24, ?hypp24⟩) (by assumption) ?hrpp24
  case hipp24 => (simp only [List.getElem?_toArray, List.getElem?_cons_succ, List.getElem?_cons_zero]; rfl)
  case hqpp24 => exact fun _ _ _ h => h
  case hwpp24 => rfl
  case hypp24 => (intro w0 hSw; (try dsimp only at hSw); go_simp; try with_reducible rfl)
  (try simp only [Act.put, List.setIfInBounds_toArray, List.set_cons_zero, List.set_cons_succ])
  refine' wpAnyH_take (i := 25) ?hipp25 (by kernel_rfl) (by kernel_rfl) (by kernel_rfl) ?hqpp25 (Or.inl ⟨?hwpp25, ?hypp25⟩) (by assumption) ?hrpp25
  case hipp25 => (simp only [List.getElem?_toArray, List.getElem?_cons_succ, List.getElem?_cons_zero]; rfl)
  case hqpp25 => exact fun _ _ _ h => h
  case hwpp25 => rfl
  case hypp25 => exact fun w0 hSw => run_exec_load rfl rfl (run_load_mg hSw.a)
  (try simp only [Act.put, List.setIfInBounds_toArray, List.set_cons_zero, List.set_cons_succ])
  refine' wpAnyH_take (i := 26) ?hipp26 (by kernel_rfl) (by kernel_rfl) (by kernel_rfl) ?hqpp26 (Or.inl ⟨?hwpp26, ?hypp26⟩) (by assumption) ?hrpp26
  case hipp26 => (simp only [List.getElem?_toArray, List.getElem?_cons_succ, List.getElem?_cons_zero]; rfl)
  case hqpp26 => exact fun _ _ _ h => h
  case hwpp26 => rfl
  case hypp26 => exact fun w0 hSw => run_exec_load rfl rfl (run_load_mg hSw.a)
  (try simp only [Act.put, List.setIfInBounds_toArray, List.set_cons_zero, List.set_cons_succ])
  refine wpAnyH_ready (rs := [27]) (by kernel_rfl) (by simp) ?_
  refine' AllReadyH.cons ?hipp27 (fun K hK => ?hrpp27) AllReadyH.nil
  case hipp27 => (simp only [List.getElem?_toArray, List.getElem?_cons_succ, List.getElem?_cons_zero]; rfl)
  go_simp
  (refine (HI.out.same m m v v _ hHeld.t hHeld.ro hHeld.ro).mono ?_; rw [sameM_refl]; rintro e wx ⟨rfl, hbx⟩)
  refine hK.out _ _ ?_ (fun hHeld => ?_)
  · exact hHeld.next HI.out hbx
  clear hK K
  (try simp only [Act.put, List.setIfInBounds_toArray, List.set_cons_zero, List.set_cons_succ])
  refine' wpAnyH_take (i := 28) ?hipp28 (by kernel_rfl) (by kernel_rfl) (by kernel_rfl) ?hqpp28 (Or.inl ⟨?hwpp28, ?hypp28⟩) (by assumption) ?hrpp28
  case hipp28 => (simp only [List.getElem?_toArray, List.getElem?_cons_succ, List.getElem?_cons_zero]; rfl)
  case hqpp28 => exact fun _ _ _ h => h
  case hwpp28 => rfl
  case hypp28 => (intro w0 hSw; (try dsimp only at hSw); go_simp; try with_reducible rfl)
  (try simp only [Act.put, List.setIfInBounds_toArray, List.set_cons_zero, List.set_cons_succ])
  refine' wpAnyH_take (i := 29) ?hipp29 (by kernel_rfl) (by kernel_rfl) (by kernel_rfl) ?hqpp29 (Or.inl ⟨?hwpp29, ?hypp29⟩) (by assumption) ?hrpp29
  case hipp29 => (simp only [List.getElem?_toArray, List.getElem?_cons_succ, List.getElem?_cons_zero]; rfl)
  case hqpp29 => exact fun _ _ _ h => h
  case hwpp29 => rfl
  case hypp29 => (intro w0 hSw; (try dsimp only at hSw); go_simp; try with_reducible rfl)
  (try simp only [Act.put, List.setIfInBounds_toArray, List.set_cons_zero, List.set_cons_succ])
  refine wpAnyH_ready (rs := [30]) (by kernel_rfl) (by simp) ?_
  refine' AllReadyH.cons ?hipp30 (fun K hK => ?hrpp30) AllReadyH.nil
  case hipp30 => (simp only [List.getElem?_toArray, List.getElem?_cons_succ, List.getElem?_cons_zero]; rfl)
  go_simp
  (refine (awake_any HI.out _ hHeld.t).mono ?_; rintro e wx ⟨rfl, hbx⟩)
  refine hK.out _ _ ?_ (fun hHeld => ?_)
  · exact hHeld.next HI.out hbx
  clear hK K
  (try simp only [Act.put, List.setIfInBounds_toArray, List.set_cons_zero, List.set_cons_succ])
  refine' wpAnyH_take (i := 31) ?hipp31 (by kernel_rfl) (by kernel_rfl) (by kernel_rfl) ?hqpp31 (Or.inl ⟨?hwpp31, ?hypp31⟩) (by assumption) ?hrpp31
  case hipp31 => (simp only [List.getElem?_toArray, List.getElem?_cons_succ, List.getElem?_cons_zero]; rfl)
  case hqpp31 => exact fun _ _ _ h => h
  case hwpp31 => rfl
  case hypp31 => (intro w0 hSw; (try dsimp only at hSw); go_simp; try with_reducible rfl)
  (try simp only [Act.put, List.setIfInBounds_toArray, List.set_cons_zero, List.set_cons_succ])
  refine' wpAnyH_take (i := 32) ?hipp32 (by kernel_rfl) (by kernel_rfl) (by kernel_rfl) ?hqpp32 (Or.inl ⟨?hwpp32, ?hypp32⟩) (by assumption) ?hrpp32
  case hipp32 => (simp only [List.getElem?_toArray, List.getElem?_cons_succ, List.getElem?_cons_zero]; rfl)
  case hqpp32 => exact fun _ _ _ h => h
  case hwpp32 => rfl
  case hypp32 => (intro w0 hSw; (try dsimp only at hSw); go_simp; try with_reducible rfl)
  (try simp only [Act.put, List.setIfInBounds_toArray, List.set_cons_zero, List.set_cons_succ])
  refine wpAnyH_done (by kernel_rfl) ?_ _
  go_wp2_with fail
  go_ret
  exact ⟨rfl, hHeld.below⟩
end Go.Proofs.Ytbfjljbllfjicaa.msg
