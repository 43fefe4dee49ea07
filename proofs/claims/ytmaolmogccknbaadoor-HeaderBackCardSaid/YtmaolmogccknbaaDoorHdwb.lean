/-
  The walk of HeaderBack, by what header's functions answer.
-/
import Derived.Test.YtmaolmogccknbaaDoorHdis
namespace Go.Proofs.YtmaolmogccknbaaDoor.hdr
open Go.RowKit Go.Proofs.YtmaolmogccknbaaDoor.mem Go.Proofs.YtmaolmogccknbaaDoor.sha Go.Proofs.YtmaolmogccknbaaDoor.ids
open Go.Proofs.YtmaolmogccknbaaDoor.opn (b1 b2 b4 num txt idl byte rd rdN rdT rdI rdS rdL St Reads Stays endE zid mkId)

theorem sameH_z : sameH zhd zhd = true := sameH_refl zhd
set_option maxHeartbeats 4000000 in
set_option maxRecDepth 100000 in
theorem back_walk {T : World → Prop} (hI : HdIs T) (h : Hd) (v : Value) (s : ByteArray) (w : World) (hT : T w) (hr : h.commit.length = 32) (hv : RdV w v h.parents) (ht : h.topic.length ≤ 140737488351232) (hs : s.size ≤ 140737488351232) :
    Calls Tryd.prog 9 #[hdv h v, .string s] w fun e w' => e = .returned (.bool true) ∧ Below w.heap.size w w' := by
  obtain ⟨w1, hw1⟩ : ∃ u, u = w.alloc (.cells (hdc h v).toArray 46) := ⟨_, rfl⟩
  obtain ⟨S, hS⟩ : ∃ S, S = w.heap.size := ⟨_, rfl⟩
  have hX : Blk w1 S 46 (hdc h v).toArray := by rw [hw1, hS]; exact Blk.new w _ _
  have hB : Below w.heap.size w w1 := by rw [hw1]; exact (Below.refl _ _).alloc (Nat.le_refl _) _
  have HX := Lib.hid hX
  have HB := Lib.hid hB
  have HS := Lib.hid hS
  have HW := Lib.hid hw1
  have HT := Lib.hid (hI.next hT hB)
  have HI := Lib.hid hI
  have HR := Lib.hid hr
  obtain ⟨ad, cap, hvf⟩ := hv.form
  have c0 := (HdBlk.of hX hr).parents
  rw [hvf] at c0
  obtain ⟨ln, hln⟩ : ∃ n, n = h.parents.length := ⟨_, rfl⟩
  rw [← hln] at c0
  have HLN := Lib.hid hln
  have HLD := Lib.hid (run_load_hd hX hr)
  have HV := Lib.hid (hv.next hB)
  clear hX hB hw1 hS hT hI hr hvf hln hv
  unfold hdv
  by_cases hbig : 60 < h.parents.length
  · have i1 : (60 : Int) < (ln : Int) := by rw [HLN.out]; omega
    clear hbig
    go_enter Tryd.func9, Tryd.ntmps9
    go_upto_region 1 with fail
    refine wp_at HW.out.symm ?_
    rw [← HS.out]
    clear HW
    go_wp2_with ((go_at_call 22; refine (awake_any HI.out _ HT.out).mono ?_; rintro e w2 ⟨rfl, hb1⟩))
    go_ret
    exact ⟨rfl, HB.out.trans (hb1.mono HB.out.size)⟩
  have i1 : (ln : Int) ≤ 60 := by rw [HLN.out]; omega
  by_cases hbs : 2000 < s.size
  · have i2 : (2000 : Int) < (s.size : Int) := by omega
    clear hbig hbs
    go_enter Tryd.func9, Tryd.ntmps9
    go_upto_region 1 with fail
    refine wp_at HW.out.symm ?_
    rw [← HS.out]
    clear HW
    go_wp2_with ((go_at_call 22; refine (awake_any HI.out _ HT.out).mono ?_; rintro e w2 ⟨rfl, hb1⟩))
    go_ret
    exact ⟨rfl, HB.out.trans (hb1.mono HB.out.size)⟩
  have i2 : (s.size : Int) ≤ 2000 := by omega
  have HPUT := Lib.hid (HI.out.put h v w1 HT.out HR.out HV.out (by omega) ht)
  obtain ⟨c, hc⟩ : ∃ c, c = checkH h := ⟨_, rfl⟩
  have HC := Lib.hid hc
  have HSZ : Hid (s.size ≤ 1000000) := Lib.hid (by omega)
  obtain ⟨qs, hqs⟩ : ∃ q, q = (ofH s.data.toList).1 := ⟨_, rfl⟩
  obtain ⟨g, hg⟩ : ∃ q, q = (ofH s.data.toList).2 := ⟨_, rfl⟩
  have hpp := of_parts s.data.toList
  rw [← hqs] at hpp
  have HQR := Lib.hid hpp.1
  have HQL : Hid (qs.parents.length ≤ 1000) := Lib.hid (by omega)
  have HQT : Hid (qs.topic.length ≤ 140737488351232) := Lib.hid (by omega)
  have hfl : ofH s.data.toList = (qs, g) := by rw [hqs, hg]
  have HFL := Lib.hid hfl
  have HOFS := Lib.hid fun u hT => HI.out.of s u hT (by have := HSZ.out; omega)
  rw [hfl] at HOFS
  have HSUM := Lib.hid fun u hT => HI.out.sum s u hT HSZ.out
  clear hbig hbs hc hqs hg hfl hpp ht
  by_cases hc0 : c = 0
  · subst hc0
    have HCZ : Hid (checkH h = 0) := Lib.hid HC.out.symm
    have HPUT := HPUT
    rw [put_ok HCZ.out] at HPUT
    obtain ⟨t, ht⟩ : ∃ t, t = oct.tx (enH h) := ⟨_, rfl⟩
    simp only at HPUT
    rw [← ht] at HPUT
    have HTE := Lib.hid ht
    have hen := en_len HCZ.out HR.out HV.out.ok
    have htl : (t.size : Int) ≤ 256 := by rw [ht, oct.tx_size]; omega
    have HTZ : Hid (t.size ≤ 281474976710656) := Lib.hid (by omega)
    clear ht hen
    by_cases hg0 : g = 0
    · subst hg0
      have hbk := of_back HFL.out
      have HPQ : Hid (putH qs = (s.data.toList, 0)) := Lib.hid (by rw [put_ok hbk.1, hbk.2])
      obtain ⟨y, hy⟩ : ∃ y, y = digest s.data.toList := ⟨_, rfl⟩
      have HIDQ : Hid (idH qs = (y, 0)) := Lib.hid (by unfold idH; rw [if_neg (fun hh => hh hbk.1), hy, ← hbk.2])
      have HYL : Hid (y.length = 32) := Lib.hid (by rw [hy]; rfl)
      have HSUM := Lib.hid HSUM.out
      rw [← hy] at HSUM
      have hse : ((oct.tx s.data.toList).toList == s.toList) = true := by rw [oct.tx_eta]; simp
      clear hbk hy
      go_enter Tryd.func9, Tryd.ntmps9
      go_upto_region 1 with fail
      refine wp_at HW.out.symm ?_
      rw [← HS.out]
      clear HW
      go_upto_region 13 with (first
        | ((with_reducible refine step_load (t := 46) (x := .tmp 2) (p := ?lpy1o) (v := ?lvy1o) ?lgy1o ?loy1o ?lxy1o ?lry1o ?lhy1o); (case lgy1o => rfl); (case loy1o => rfl); (case lxy1o => rfl); (case lry1o => exact HLD.out))
        | (go_at_call 23; (with_reducible refine HPUT.out.mono ?_); rintro e w2 ⟨rfl, hb2⟩; have hoft := HI.out.of t w2 (HI.out.next HT.out hb2) HTZ.out; rw [HTE.out, oct.tx_list, of_put HCZ.out HR.out HV.out.ok, ← HTE.out] at hoft; have HOFT := Lib.hid hoft; clear hoft)
        | (go_at_call 31; (with_reducible refine HOFT.out.mono ?_); rintro e w3 ⟨v3, rfl, hrd3, hb3⟩; have hht := run_hold w3 h v3 HR.out (rdv_one hrd3); have hkt := held_blk w3 h v3; have hbbt := held_below w3 h v3; obtain ⟨wht, hwht⟩ : ∃ wx, wx = heldW w3 h v3 := ⟨_, rfl⟩; rw [← hwht] at hht hkt hbbt; clear hwht; have b3 := (hb2.trans (hb3.mono hb2.size)).trans (hbbt.mono (Nat.le_trans hb2.size hb3.size)); have hl7 := run_load_hd hkt HR.out; have hX3 := HX.out.below b3 HX.out.lt; have hl2 := run_load_hd hX3 HR.out; have hsm := HI.out.same h h v v3 wht (HI.out.next HT.out b3) HR.out HR.out (HV.out.next b3) (hrd3.next hbbt); rw [sameH_refl] at hsm; have HSM := Lib.hid hsm; clear hX3 hsm)
        | ((with_reducible refine step_store_run (t := 46) (x := .tmp 7) (y := .tmp 35) (p := ?spy1h) (v := ?svy1h) (w' := ?swy1h) ?sgy1h ?soy1h ?sxy1h ?syy1h ?sry1h ?shy1h); (case sgy1h => rfl); (case soy1h => rfl); (case sxy1h => rfl); (case syy1h => rfl); (case sry1h => exact hht))
        | ((with_reducible refine step_load_w (t := 46) (x := .tmp 2) (p := ?lpy1a) (v := ?lvy1a) ?lgy1a ?loy1a ?lxy1a ?lry1a ?lhy1a); (case loy1a => rfl); (case lgy1a => rfl); (case lxy1a => rfl); (case lry1a => exact hl2))
        | ((with_reducible refine step_load_w (t := 46) (x := .tmp 7) (p := ?lpy1b) (v := ?lvy1b) ?lgy1b ?loy1b ?lxy1b ?lry1b ?lhy1b); (case loy1b => rfl); (case lgy1b => rfl); (case lxy1b => rfl); (case lry1b => exact hl7))
        | (go_at_call 29; (with_reducible refine HSM.out.mono ?_); rintro e w4 ⟨rfl, hb4⟩; have b4 := b3.trans (hb4.mono b3.size))
        | (go_at_call 31; (with_reducible refine (HOFS.out _ (HI.out.next HT.out b4)).mono ?_); rintro e ws ⟨vs, rfl, hrds, hbs⟩; have hhs := run_hold ws qs vs HQR.out (rdv_one hrds); have hks := held_blk ws qs vs; have hbbs := held_below ws qs vs; obtain ⟨whs, hwhs⟩ : ∃ wx, wx = heldW ws qs vs := ⟨_, rfl⟩; rw [← hwhs] at hhs hks hbbs; clear hwhs; have bh := (b4.trans (hbs.mono b4.size)).trans (hbbs.mono (Nat.le_trans b4.size hbs.size)); have hls := run_load_hd hks HQR.out; have hrs := hrds.next hbbs; have hput := HI.out.put qs vs whs (HI.out.next HT.out bh) HQR.out hrs HQL.out HQT.out; rw [HPQ.out] at hput; have HPUTQ := Lib.hid hput; have HRS := Lib.hid hrs; have HKS := Lib.hid hks; clear hput hrs hks)
        | ((with_reducible refine step_store_run (t := 46) (x := .tmp 9) (y := .tmp 53) (p := ?spy2s) (v := ?svy2s) (w' := ?swy2s) ?sgy2s ?soy2s ?sxy2s ?syy2s ?sry2s ?shy2s); (case sgy2s => rfl); (case soy2s => rfl); (case sxy2s => rfl); (case syy2s => rfl); (case sry2s => exact hhs))
        | ((with_reducible refine step_load (t := 46) (x := .tmp 9) (p := ?lpy2l) (v := ?lvy2l) ?lgy2l ?loy2l ?lxy2l ?lry2l ?lhy2l); (case lgy2l => rfl); (case loy2l => rfl); (case lxy2l => rfl); (case lry2l => exact hls))
        | (go_at_call 23; (with_reducible refine HPUTQ.out.mono ?_); rintro e wp ⟨rfl, hbp⟩; have bp := bh.trans (hbp.mono bh.size); have hlp := run_load_hd (HKS.out.below hbp HKS.out.lt) HQR.out; have hid := HI.out.ident qs vs wp (HI.out.next HT.out bp) HQR.out (HRS.out.next hbp) HQL.out HQT.out; rw [HIDQ.out] at hid; have HID := Lib.hid hid; clear hid)
        | ((with_reducible refine step_load (t := 46) (x := .tmp 9) (p := ?lpy2m) (v := ?lvy2m) ?lgy2m ?loy2m ?lxy2m ?lry2m ?lhy2m); (case lgy2m => rfl); (case loy2m => rfl); (case lxy2m => rfl); (case lry2m => exact hlp))
        | (go_at_call 25; (with_reducible refine HID.out.mono ?_); rintro e wi ⟨rfl, hbi⟩; have hhi := run_holdI wi y HYL.out; have hki := heldI_blk wi y; have hbbi := heldI_below wi y; obtain ⟨wj, hwj⟩ : ∃ wx, wx = heldI wi y := ⟨_, rfl⟩; rw [← hwj] at hhi hki hbbi; have bi := bp.trans (hbi.mono bp.size); have bj := bi.trans (hbbi.mono bi.size); have H4 : Hid (IdS T w wi.heap.size y wj) := Lib.hid ⟨HI.out.next HT.out bj, hki, HB.out.trans (bj.mono HB.out.size)⟩; have HHI := Lib.hid hhi; clear hwj hki hbbi hhi)
        | ((with_reducible refine step_store_run (t := 23) (x := .tmp 13) (y := .tmp 71) (p := ?spy2i) (v := ?svy2i) (w' := ?swy2i) ?sgy2i ?soy2i ?sxy2i ?syy2i ?sry2i ?shy2i); (case sgy2i => rfl); (case soy2i => rfl); (case sxy2i => rfl); (case syy2i => rfl); (case sry2i => exact HHI.out)))
      refine wp_region_held_drew (S := IdS T w wi.heap.size y) (by kernel_rfl) ?_ (fun hHeld => ?_)
      · exact H4.out.next HI.out ((Below.refl _ _).drew)
      refine' wpAnyH_take (i := 0) ?hihb10 (by kernel_rfl) (by kernel_rfl) (by kernel_rfl) ?hqhb10 (Or.inl ⟨?hwhb10, ?hyhb10⟩) (by assumption) ?hrhb10
      case hihb10 => (simp only [List.getElem?_toArray, List.getElem?_cons_succ, List.getElem?_cons_zero]; rfl)
      case hqhb10 => exact fun _ _ _ h => h
      case hwhb10 => rfl
      case hyhb10 => (intro w0 hSw; (try dsimp only at hSw); go_simp; try with_reducible rfl)
      (try simp only [Act.put, List.setIfInBounds_toArray, List.set_cons_zero, List.set_cons_succ])
      refine' wpAnyH_take (i := 1) ?hihb11 (by kernel_rfl) (by kernel_rfl) (by kernel_rfl) ?hqhb11 (Or.inl ⟨?hwhb11, ?hyhb11⟩) (by assumption) ?hrhb11
      case hihb11 => (simp only [List.getElem?_toArray, List.getElem?_cons_succ, List.getElem?_cons_zero]; rfl)
      case hqhb11 => exact fun _ _ _ h => h
      case hwhb11 => rfl
      case hyhb11 => (intro w0 hSw; (try dsimp only at hSw); go_simp; try with_reducible rfl)
      (try simp only [Act.put, List.setIfInBounds_toArray, List.set_cons_zero, List.set_cons_succ])
      refine' wpAnyH_take (i := 2) ?hihb12 (by kernel_rfl) (by kernel_rfl) (by kernel_rfl) ?hqhb12 (Or.inl ⟨?hwhb12, ?hyhb12⟩) (by assumption) ?hrhb12
      case hihb12 => (simp only [List.getElem?_toArray, List.getElem?_cons_succ, List.getElem?_cons_zero]; rfl)
      case hqhb12 => exact fun _ _ _ h => h
      case hwhb12 => rfl
      case hyhb12 => (intro w0 hSw; (try dsimp only at hSw); go_simp; try with_reducible rfl)
      (try simp only [Act.put, List.setIfInBounds_toArray, List.set_cons_zero, List.set_cons_succ])
      refine' wpAnyH_take (i := 3) ?hihb13 (by kernel_rfl) (by kernel_rfl) (by kernel_rfl) ?hqhb13 (Or.inl ⟨?hwhb13, ?hyhb13⟩) (by assumption) ?hrhb13
      case hihb13 => (simp only [List.getElem?_toArray, List.getElem?_cons_succ, List.getElem?_cons_zero]; rfl)
      case hqhb13 => exact fun _ _ _ h => h
      case hwhb13 => rfl
      case hyhb13 => (intro w0 hSw; (try dsimp only at hSw); go_simp; try with_reducible rfl)
      (try simp only [Act.put, List.setIfInBounds_toArray, List.set_cons_zero, List.set_cons_succ])
      refine' wpAnyH_take (i := 4) ?hihb14 (by kernel_rfl) (by kernel_rfl) (by kernel_rfl) ?hqhb14 (Or.inl ⟨?hwhb14, ?hyhb14⟩) (by assumption) ?hrhb14
      case hihb14 => (simp only [List.getElem?_toArray, List.getElem?_cons_succ, List.getElem?_cons_zero]; rfl)
      case hqhb14 => exact fun _ _ _ h => h
      case hwhb14 => rfl
      case hyhb14 => (intro w0 hSw; (try dsimp only at hSw); go_simp; try with_reducible rfl)
      (try simp only [Act.put, List.setIfInBounds_toArray, List.set_cons_zero, List.set_cons_succ])
      refine' wpAnyH_take (i := 5) ?hihb15 (by kernel_rfl) (by kernel_rfl) (by kernel_rfl) ?hqhb15 (Or.inl ⟨?hwhb15, ?hyhb15⟩) (by assumption) ?hrhb15
      case hihb15 => (simp only [List.getElem?_toArray, List.getElem?_cons_succ, List.getElem?_cons_zero]; rfl)
      case hqhb15 => exact fun _ _ _ h => h
      case hwhb15 => rfl
      case hyhb15 => (intro w0 hSw; (try dsimp only at hSw); go_simp; try with_reducible rfl)
      (try simp only [Act.put, List.setIfInBounds_toArray, List.set_cons_zero, List.set_cons_succ])
      refine' wpAnyH_take (i := 6) ?hihb16 (by kernel_rfl) (by kernel_rfl) (by kernel_rfl) ?hqhb16 (Or.inl ⟨?hwhb16, ?hyhb16⟩) (by assumption) ?hrhb16
      case hihb16 => (simp only [List.getElem?_toArray, List.getElem?_cons_succ, List.getElem?_cons_zero]; rfl)
      case hqhb16 => exact fun _ _ _ h => h
      case hwhb16 => rfl
      case hyhb16 => (intro w0 hSw; (try dsimp only at hSw); go_simp; try with_reducible rfl)
      (try simp only [Act.put, List.setIfInBounds_toArray, List.set_cons_zero, List.set_cons_succ])
      refine' wpAnyH_take (i := 7) ?hihb17 (by kernel_rfl) (by kernel_rfl) (by kernel_rfl) ?hqhb17 (Or.inl ⟨?hwhb17, ?hyhb17⟩) (by assumption) ?hrhb17
      case hihb17 => (simp only [List.getElem?_toArray, List.getElem?_cons_succ, List.getElem?_cons_zero]; rfl)
      case hqhb17 => exact fun _ _ _ h => h
      case hwhb17 => rfl
      case hyhb17 => (intro w0 hSw; (try dsimp only at hSw); go_simp; try with_reducible rfl)
      (try simp only [Act.put, List.setIfInBounds_toArray, List.set_cons_zero, List.set_cons_succ])
      refine' wpAnyH_take (i := 8) ?hihb18 (by kernel_rfl) (by kernel_rfl) (by kernel_rfl) ?hqhb18 (Or.inl ⟨?hwhb18, ?hyhb18⟩) (by assumption) ?hrhb18
      case hihb18 => (simp only [List.getElem?_toArray, List.getElem?_cons_succ, List.getElem?_cons_zero]; rfl)
      case hqhb18 => exact fun _ _ _ h => h
      case hwhb18 => rfl
      case hyhb18 => exact fun w0 hSw => run_exec_load rfl rfl (box_load hSw.i HYL.out 0)
      (try simp only [Act.put, List.setIfInBounds_toArray, List.set_cons_zero, List.set_cons_succ])
      refine' wpAnyH_take (i := 9) ?hihb19 (by kernel_rfl) (by kernel_rfl) (by kernel_rfl) ?hqhb19 (Or.inl ⟨?hwhb19, ?hyhb19⟩) (by assumption) ?hrhb19
      case hihb19 => (simp only [List.getElem?_toArray, List.getElem?_cons_succ, List.getElem?_cons_zero]; rfl)
      case hqhb19 => exact fun _ _ _ h => h
      case hwhb19 => rfl
      case hyhb19 => (intro w0 hSw; (try dsimp only at hSw); go_simp; try with_reducible rfl)
      (try simp only [Act.put, List.setIfInBounds_toArray, List.set_cons_zero, List.set_cons_succ])
      refine wpAnyH_ready (rs := [10]) (by kernel_rfl) (by simp) ?_
      refine' AllReadyH.cons ?hihb110 (fun K hK => ?hrhb110) AllReadyH.nil
      case hihb110 => (simp only [List.getElem?_toArray, List.getElem?_cons_succ, List.getElem?_cons_zero]; rfl)
      go_simp
      (refine (HSUM.out _ hHeld.t).mono ?_; rintro e wx ⟨rfl, hbx⟩)
      refine hK.out _ _ ?_ (fun hHeld => ?_)
      · exact hHeld.next HI.out hbx
      clear hK K
      (try simp only [Act.put, List.setIfInBounds_toArray, List.set_cons_zero, List.set_cons_succ])
      refine' wpAnyH_take (i := 11) ?hihb111 (by kernel_rfl) (by kernel_rfl) (by kernel_rfl) ?hqhb111 (Or.inl ⟨?hwhb111, ?hyhb111⟩) (by assumption) ?hrhb111
      case hihb111 => (simp only [List.getElem?_toArray, List.getElem?_cons_succ, List.getElem?_cons_zero]; rfl)
      case hqhb111 => exact fun _ _ _ h => h
      case hwhb111 => rfl
      case hyhb111 => exact fun w0 hSw => exec_bin (op := .eql) (t := 23) (x := .tmp 81) (y := .tmp 83) rfl rfl rfl (run_eqGuard_agg w0 .eql 23 (.tmp 81) (.tmp 83) _ _ Tryd.eqGuardType23) (eql_self w0 y HYL.out)
      (try simp only [Act.put, List.setIfInBounds_toArray, List.set_cons_zero, List.set_cons_succ])
      refine' wpAnyH_take (i := 12) ?hihb112 (by kernel_rfl) (by kernel_rfl) (by kernel_rfl) ?hqhb112 (Or.inl ⟨?hwhb112, ?hyhb112⟩) (by assumption) ?hrhb112
      case hihb112 => (simp only [List.getElem?_toArray, List.getElem?_cons_succ, List.getElem?_cons_zero]; rfl)
      case hqhb112 => exact fun _ _ _ h => h
      case hwhb112 => rfl
      case hyhb112 => (intro w0 hSw; (try dsimp only at hSw); go_simp; try with_reducible rfl)
      (try simp only [Act.put, List.setIfInBounds_toArray, List.set_cons_zero, List.set_cons_succ])
      refine' wpAnyH_take (i := 13) ?hihb113 (by kernel_rfl) (by kernel_rfl) (by kernel_rfl) ?hqhb113 (Or.inl ⟨?hwhb113, ?hyhb113⟩) (by assumption) ?hrhb113
      case hihb113 => (simp only [List.getElem?_toArray, List.getElem?_cons_succ, List.getElem?_cons_zero]; rfl)
      case hqhb113 => exact fun _ _ _ h => h
      case hwhb113 => rfl
      case hyhb113 => (intro w0 hSw; (try dsimp only at hSw); go_simp; try with_reducible rfl)
      (try simp only [Act.put, List.setIfInBounds_toArray, List.set_cons_zero, List.set_cons_succ])
      refine' wpAnyH_take (i := 14) ?hihb114 (by kernel_rfl) (by kernel_rfl) (by kernel_rfl) ?hqhb114 (Or.inl ⟨?hwhb114, ?hyhb114⟩) (by assumption) ?hrhb114
      case hihb114 => (simp only [List.getElem?_toArray, List.getElem?_cons_succ, List.getElem?_cons_zero]; rfl)
      case hqhb114 => exact fun _ _ _ h => h
      case hwhb114 => rfl
      case hyhb114 => (intro w0 hSw; (try dsimp only at hSw); go_simp; try with_reducible rfl)
      (try simp only [Act.put, List.setIfInBounds_toArray, List.set_cons_zero, List.set_cons_succ])
      refine' wpAnyH_take (i := 15) ?hihb115 (by kernel_rfl) (by kernel_rfl) (by kernel_rfl) ?hqhb115 (Or.inl ⟨?hwhb115, ?hyhb115⟩) (by assumption) ?hrhb115
      case hihb115 => (simp only [List.getElem?_toArray, List.getElem?_cons_succ, List.getElem?_cons_zero]; rfl)
      case hqhb115 => exact fun _ _ _ h => h
      case hwhb115 => rfl
      case hyhb115 => (intro w0 hSw; (try dsimp only at hSw); go_simp; try with_reducible rfl)
      (try simp only [Act.put, List.setIfInBounds_toArray, List.set_cons_zero, List.set_cons_succ])
      refine' wpAnyH_take (i := 16) ?hihb116 (by kernel_rfl) (by kernel_rfl) (by kernel_rfl) ?hqhb116 (Or.inl ⟨?hwhb116, ?hyhb116⟩) (by assumption) ?hrhb116
      case hihb116 => (simp only [List.getElem?_toArray, List.getElem?_cons_succ, List.getElem?_cons_zero]; rfl)
      case hqhb116 => exact fun _ _ _ h => h
      case hwhb116 => rfl
      case hyhb116 => (intro w0 hSw; (try dsimp only at hSw); go_simp; try with_reducible rfl)
      (try simp only [Act.put, List.setIfInBounds_toArray, List.set_cons_zero, List.set_cons_succ])
      refine' wpAnyH_take (i := 17) ?hihb117 (by kernel_rfl) (by kernel_rfl) (by kernel_rfl) ?hqhb117 (Or.inl ⟨?hwhb117, ?hyhb117⟩) (by assumption) ?hrhb117
      case hihb117 => (simp only [List.getElem?_toArray, List.getElem?_cons_succ, List.getElem?_cons_zero]; rfl)
      case hqhb117 => exact fun _ _ _ h => h
      case hwhb117 => rfl
      case hyhb117 => (intro w0 hSw; (try dsimp only at hSw); go_simp; try with_reducible rfl)
      (try simp only [Act.put, List.setIfInBounds_toArray, List.set_cons_zero, List.set_cons_succ])
      refine wpAnyH_ready (rs := [18]) (by kernel_rfl) (by simp) ?_
      refine' AllReadyH.cons ?hihb118 (fun K hK => ?hrhb118) AllReadyH.nil
      case hihb118 => (simp only [List.getElem?_toArray, List.getElem?_cons_succ, List.getElem?_cons_zero]; rfl)
      go_simp
      (refine (awake_any HI.out _ hHeld.t).mono ?_; rintro e wx ⟨rfl, hbx⟩)
      refine hK.out _ _ ?_ (fun hHeld => ?_)
      · exact hHeld.next HI.out hbx
      clear hK K
      (try simp only [Act.put, List.setIfInBounds_toArray, List.set_cons_zero, List.set_cons_succ])
      refine' wpAnyH_take (i := 19) ?hihb119 (by kernel_rfl) (by kernel_rfl) (by kernel_rfl) ?hqhb119 (Or.inl ⟨?hwhb119, ?hyhb119⟩) (by assumption) ?hrhb119
      case hihb119 => (simp only [List.getElem?_toArray, List.getElem?_cons_succ, List.getElem?_cons_zero]; rfl)
      case hqhb119 => exact fun _ _ _ h => h
      case hwhb119 => rfl
      case hyhb119 => (intro w0 hSw; (try dsimp only at hSw); go_simp; try with_reducible rfl)
      (try simp only [Act.put, List.setIfInBounds_toArray, List.set_cons_zero, List.set_cons_succ])
      refine' wpAnyH_take (i := 20) ?hihb120 (by kernel_rfl) (by kernel_rfl) (by kernel_rfl) ?hqhb120 (Or.inl ⟨?hwhb120, ?hyhb120⟩) (by assumption) ?hrhb120
      case hihb120 => (simp only [List.getElem?_toArray, List.getElem?_cons_succ, List.getElem?_cons_zero]; rfl)
      case hqhb120 => exact fun _ _ _ h => h
      case hwhb120 => rfl
      case hyhb120 => (intro w0 hSw; (try dsimp only at hSw); go_simp; try with_reducible rfl)
      (try simp only [Act.put, List.setIfInBounds_toArray, List.set_cons_zero, List.set_cons_succ])
      refine wpAnyH_done (by kernel_rfl) ?_ _
      go_wp2_with fail
      go_ret
      exact ⟨rfl, hHeld.below⟩
    · have hg1 : (g != 0) = true := bne_iff_ne.2 hg0
      have HQZ : Hid (qs = zhd) := Lib.hid (of_err HFL.out hg0)
      clear hg0
      go_enter Tryd.func9, Tryd.ntmps9
      go_upto_region 1 with fail
      refine wp_at HW.out.symm ?_
      rw [← HS.out]
      clear HW
      go_wp2_with (first
        | ((with_reducible refine step_load (t := 46) (x := .tmp 2) (p := ?lpy3o) (v := ?lvy3o) ?lgy3o ?loy3o ?lxy3o ?lry3o ?lhy3o); (case lgy3o => rfl); (case loy3o => rfl); (case lxy3o => rfl); (case lry3o => exact HLD.out))
        | (go_at_call 23; (with_reducible refine HPUT.out.mono ?_); rintro e w2 ⟨rfl, hb2⟩; have hoft := HI.out.of t w2 (HI.out.next HT.out hb2) HTZ.out; rw [HTE.out, oct.tx_list, of_put HCZ.out HR.out HV.out.ok, ← HTE.out] at hoft; have HOFT := Lib.hid hoft; clear hoft)
        | (go_at_call 31; (with_reducible refine HOFT.out.mono ?_); rintro e w3 ⟨v3, rfl, hrd3, hb3⟩; have hht := run_hold w3 h v3 HR.out (rdv_one hrd3); have hkt := held_blk w3 h v3; have hbbt := held_below w3 h v3; obtain ⟨wht, hwht⟩ : ∃ wx, wx = heldW w3 h v3 := ⟨_, rfl⟩; rw [← hwht] at hht hkt hbbt; clear hwht; have b3 := (hb2.trans (hb3.mono hb2.size)).trans (hbbt.mono (Nat.le_trans hb2.size hb3.size)); have hl7 := run_load_hd hkt HR.out; have hX3 := HX.out.below b3 HX.out.lt; have hl2 := run_load_hd hX3 HR.out; have hsm := HI.out.same h h v v3 wht (HI.out.next HT.out b3) HR.out HR.out (HV.out.next b3) (hrd3.next hbbt); rw [sameH_refl] at hsm; have HSM := Lib.hid hsm; clear hX3 hsm)
        | ((with_reducible refine step_store_run (t := 46) (x := .tmp 7) (y := .tmp 35) (p := ?spy3h) (v := ?svy3h) (w' := ?swy3h) ?sgy3h ?soy3h ?sxy3h ?syy3h ?sry3h ?shy3h); (case sgy3h => rfl); (case soy3h => rfl); (case sxy3h => rfl); (case syy3h => rfl); (case sry3h => exact hht))
        | ((with_reducible refine step_load_w (t := 46) (x := .tmp 2) (p := ?lpy3a) (v := ?lvy3a) ?lgy3a ?loy3a ?lxy3a ?lry3a ?lhy3a); (case loy3a => rfl); (case lgy3a => rfl); (case lxy3a => rfl); (case lry3a => exact hl2))
        | ((with_reducible refine step_load_w (t := 46) (x := .tmp 7) (p := ?lpy3b) (v := ?lvy3b) ?lgy3b ?loy3b ?lxy3b ?lry3b ?lhy3b); (case loy3b => rfl); (case lgy3b => rfl); (case lxy3b => rfl); (case lry3b => exact hl7))
        | (go_at_call 29; (with_reducible refine HSM.out.mono ?_); rintro e w4 ⟨rfl, hb4⟩; have b4 := b3.trans (hb4.mono b3.size))
        | (go_at_call 31; (with_reducible refine (HOFS.out _ (HI.out.next HT.out b4)).mono ?_); rintro e ws ⟨vs, rfl, hrds, hbs⟩; have hhs := run_hold ws qs vs HQR.out (rdv_one hrds); have hks := held_blk ws qs vs; have hbbs := held_below ws qs vs; obtain ⟨whs, hwhs⟩ : ∃ wx, wx = heldW ws qs vs := ⟨_, rfl⟩; rw [← hwhs] at hhs hks hbbs; clear hwhs; have bh := (b4.trans (hbs.mono b4.size)).trans (hbbs.mono (Nat.le_trans b4.size hbs.size)); have hls := run_load_hd hks HQR.out; have hrs := hrds.next hbbs; have hsm := HI.out.same zhd zhd vs nv whs (HI.out.next HT.out bh) zcom zcom (by have h := hrs; rw [HQZ.out] at h; exact h) (nv_rd _); rw [sameH_z] at hsm; rw [HQZ.out] at hls; have HSMZ := Lib.hid hsm; clear hsm)
        | ((with_reducible refine step_store_run (t := 46) (x := .tmp 9) (y := .tmp 53) (p := ?spy4s) (v := ?svy4s) (w' := ?swy4s) ?sgy4s ?soy4s ?sxy4s ?syy4s ?sry4s ?shy4s); (case sgy4s => rfl); (case soy4s => rfl); (case sxy4s => rfl); (case syy4s => rfl); (case sry4s => exact hhs))
        | ((with_reducible refine step_load (t := 46) (x := .tmp 9) (p := ?lpy4l) (v := ?lvy4l) ?lgy4l ?loy4l ?lxy4l ?lry4l ?lhy4l); (case lgy4l => rfl); (case loy4l => rfl); (case lxy4l => rfl); (case lry4l => exact hls))
        | (go_at_call 29; refine HSMZ.out.mono ?_; rintro e wp ⟨rfl, hbp⟩; have bp := bh.trans (hbp.mono bh.size))
        | (go_at_call 22; refine (awake_any HI.out _ (HI.out.next HT.out bp)).mono ?_; rintro e wz ⟨rfl, hbz⟩))
      go_ret
      exact ⟨rfl, HB.out.trans ((bp.trans (hbz.mono bp.size)).mono HB.out.size)⟩
  · have hc1 : (c == 0) = false := beq_eq_false_iff_ne.2 hc0
    have HPUT := HPUT
    rw [put_no (by rw [← HC.out]; exact hc0), ← HC.out] at HPUT
    simp only at HPUT
    clear hc0
    by_cases hg0 : g = 0
    · subst hg0
      have hbk := of_back HFL.out
      have HPQ : Hid (putH qs = (s.data.toList, 0)) := Lib.hid (by rw [put_ok hbk.1, hbk.2])
      obtain ⟨y, hy⟩ : ∃ y, y = digest s.data.toList := ⟨_, rfl⟩
      have HIDQ : Hid (idH qs = (y, 0)) := Lib.hid (by unfold idH; rw [if_neg (fun hh => hh hbk.1), hy, ← hbk.2])
      have HYL : Hid (y.length = 32) := Lib.hid (by rw [hy]; rfl)
      have HSUM := Lib.hid HSUM.out
      rw [← hy] at HSUM
      have hse : ((oct.tx s.data.toList).toList == s.toList) = true := by rw [oct.tx_eta]; simp
      clear hbk hy
      go_enter Tryd.func9, Tryd.ntmps9
      go_upto_region 1 with fail
      refine wp_at HW.out.symm ?_
      rw [← HS.out]
      clear HW
      go_upto_region 13 with (first
        | ((with_reducible refine step_load (t := 46) (x := .tmp 2) (p := ?lpy5o) (v := ?lvy5o) ?lgy5o ?loy5o ?lxy5o ?lry5o ?lhy5o); (case lgy5o => rfl); (case loy5o => rfl); (case lxy5o => rfl); (case lry5o => exact HLD.out))
        | (go_at_call 23; (with_reducible refine HPUT.out.mono ?_); rintro e w2 ⟨rfl, hb2⟩)
        | (go_at_call 31; (with_reducible refine (HOFS.out _ (HI.out.next HT.out hb2)).mono ?_); rintro e ws ⟨vs, rfl, hrds, hbs⟩; have hhs := run_hold ws qs vs HQR.out (rdv_one hrds); have hks := held_blk ws qs vs; have hbbs := held_below ws qs vs; obtain ⟨whs, hwhs⟩ : ∃ wx, wx = heldW ws qs vs := ⟨_, rfl⟩; rw [← hwhs] at hhs hks hbbs; clear hwhs; have bh := (hb2.trans (hbs.mono hb2.size)).trans (hbbs.mono (Nat.le_trans hb2.size hbs.size)); have hls := run_load_hd hks HQR.out; have hrs := hrds.next hbbs; have hput := HI.out.put qs vs whs (HI.out.next HT.out bh) HQR.out hrs HQL.out HQT.out; rw [HPQ.out] at hput; have HPUTQ := Lib.hid hput; have HRS := Lib.hid hrs; have HKS := Lib.hid hks; clear hput hrs hks)
        | ((with_reducible refine step_store_run (t := 46) (x := .tmp 9) (y := .tmp 53) (p := ?spy6s) (v := ?svy6s) (w' := ?swy6s) ?sgy6s ?soy6s ?sxy6s ?syy6s ?sry6s ?shy6s); (case sgy6s => rfl); (case soy6s => rfl); (case sxy6s => rfl); (case syy6s => rfl); (case sry6s => exact hhs))
        | ((with_reducible refine step_load (t := 46) (x := .tmp 9) (p := ?lpy6l) (v := ?lvy6l) ?lgy6l ?loy6l ?lxy6l ?lry6l ?lhy6l); (case lgy6l => rfl); (case loy6l => rfl); (case lxy6l => rfl); (case lry6l => exact hls))
        | (go_at_call 23; (with_reducible refine HPUTQ.out.mono ?_); rintro e wp ⟨rfl, hbp⟩; have bp := bh.trans (hbp.mono bh.size); have hlp := run_load_hd (HKS.out.below hbp HKS.out.lt) HQR.out; have hid := HI.out.ident qs vs wp (HI.out.next HT.out bp) HQR.out (HRS.out.next hbp) HQL.out HQT.out; rw [HIDQ.out] at hid; have HID := Lib.hid hid; clear hid)
        | ((with_reducible refine step_load (t := 46) (x := .tmp 9) (p := ?lpy6m) (v := ?lvy6m) ?lgy6m ?loy6m ?lxy6m ?lry6m ?lhy6m); (case lgy6m => rfl); (case loy6m => rfl); (case lxy6m => rfl); (case lry6m => exact hlp))
        | (go_at_call 25; (with_reducible refine HID.out.mono ?_); rintro e wi ⟨rfl, hbi⟩; have hhi := run_holdI wi y HYL.out; have hki := heldI_blk wi y; have hbbi := heldI_below wi y; obtain ⟨wj, hwj⟩ : ∃ wx, wx = heldI wi y := ⟨_, rfl⟩; rw [← hwj] at hhi hki hbbi; have bi := bp.trans (hbi.mono bp.size); have bj := bi.trans (hbbi.mono bi.size); have H4 : Hid (IdS T w wi.heap.size y wj) := Lib.hid ⟨HI.out.next HT.out bj, hki, HB.out.trans (bj.mono HB.out.size)⟩; have HHI := Lib.hid hhi; clear hwj hki hbbi hhi)
        | ((with_reducible refine step_store_run (t := 23) (x := .tmp 13) (y := .tmp 71) (p := ?spy6i) (v := ?svy6i) (w' := ?swy6i) ?sgy6i ?soy6i ?sxy6i ?syy6i ?sry6i ?shy6i); (case sgy6i => rfl); (case soy6i => rfl); (case sxy6i => rfl); (case syy6i => rfl); (case sry6i => exact HHI.out)))
      refine wp_region_held_drew (S := IdS T w wi.heap.size y) (by kernel_rfl) ?_ (fun hHeld => ?_)
      · exact H4.out.next HI.out ((Below.refl _ _).drew)
      refine' wpAnyH_take (i := 0) ?hihb20 (by kernel_rfl) (by kernel_rfl) (by kernel_rfl) ?hqhb20 (Or.inl ⟨?hwhb20, ?hyhb20⟩) (by assumption) ?hrhb20
      case hihb20 => (simp only [List.getElem?_toArray, List.getElem?_cons_succ, List.getElem?_cons_zero]; rfl)
      case hqhb20 => exact fun _ _ _ h => h
      case hwhb20 => rfl
      case hyhb20 => (intro w0 hSw; (try dsimp only at hSw); go_simp; try with_reducible rfl)
      (try simp only [Act.put, List.setIfInBounds_toArray, List.set_cons_zero, List.set_cons_succ])
      refine' wpAnyH_take (i := 1) ?hihb21 (by kernel_rfl) (by kernel_rfl) (by kernel_rfl) ?hqhb21 (Or.inl ⟨?hwhb21, ?hyhb21⟩) (by assumption) ?hrhb21
      case hihb21 => (simp only [List.getElem?_toArray, List.getElem?_cons_succ, List.getElem?_cons_zero]; rfl)
      case hqhb21 => exact fun _ _ _ h => h
      case hwhb21 => rfl
      case hyhb21 => (intro w0 hSw; (try dsimp only at hSw); go_simp; try with_reducible rfl)
      (try simp only [Act.put, List.setIfInBounds_toArray, List.set_cons_zero, List.set_cons_succ])
      refine' wpAnyH_take (i := 2) ?hihb22 (by kernel_rfl) (by kernel_rfl) (by kernel_rfl) ?hqhb22 (Or.inl ⟨?hwhb22, ?hyhb22⟩) (by assumption) ?hrhb22
      case hihb22 => (simp only [List.getElem?_toArray, List.getElem?_cons_succ, List.getElem?_cons_zero]; rfl)
      case hqhb22 => exact fun _ _ _ h => h
      case hwhb22 => rfl
      case hyhb22 => (intro w0 hSw; (try dsimp only at hSw); go_simp; try with_reducible rfl)
      (try simp only [Act.put, List.setIfInBounds_toArray, List.set_cons_zero, List.set_cons_succ])
      refine' wpAnyH_take (i := 3) ?hihb23 (by kernel_rfl) (by kernel_rfl) (by kernel_rfl) ?hqhb23 (Or.inl ⟨?hwhb23, ?hyhb23⟩) (by assumption) ?hrhb23
      case hihb23 => (simp only [List.getElem?_toArray, List.getElem?_cons_succ, List.getElem?_cons_zero]; rfl)
      case hqhb23 => exact fun _ _ _ h => h
      case hwhb23 => rfl
      case hyhb23 => (intro w0 hSw; (try dsimp only at hSw); go_simp; try with_reducible rfl)
      (try simp only [Act.put, List.setIfInBounds_toArray, List.set_cons_zero, List.set_cons_succ])
      refine' wpAnyH_take (i := 4) ?hihb24 (by kernel_rfl) (by kernel_rfl) (by kernel_rfl) ?hqhb24 (Or.inl ⟨?hwhb24, ?hyhb24⟩) (by assumption) ?hrhb24
      case hihb24 => (simp only [List.getElem?_toArray, List.getElem?_cons_succ, List.getElem?_cons_zero]; rfl)
      case hqhb24 => exact fun _ _ _ h => h
      case hwhb24 => rfl
      case hyhb24 => (intro w0 hSw; (try dsimp only at hSw); go_simp; try with_reducible rfl)
      (try simp only [Act.put, List.setIfInBounds_toArray, List.set_cons_zero, List.set_cons_succ])
      refine' wpAnyH_take (i := 5) ?hihb25 (by kernel_rfl) (by kernel_rfl) (by kernel_rfl) ?hqhb25 (Or.inl ⟨?hwhb25, ?hyhb25⟩) (by assumption) ?hrhb25
      case hihb25 => (simp only [List.getElem?_toArray, List.getElem?_cons_succ, List.getElem?_cons_zero]; rfl)
      case hqhb25 => exact fun _ _ _ h => h
      case hwhb25 => rfl
      case hyhb25 => (intro w0 hSw; (try dsimp only at hSw); go_simp; try with_reducible rfl)
      (try simp only [Act.put, List.setIfInBounds_toArray, List.set_cons_zero, List.set_cons_succ])
      refine' wpAnyH_take (i := 6) ?hihb26 (by kernel_rfl) (by kernel_rfl) (by kernel_rfl) ?hqhb26 (Or.inl ⟨?hwhb26, ?hyhb26⟩) (by assumption) ?hrhb26
      case hihb26 => (simp only [List.getElem?_toArray, List.getElem?_cons_succ, List.getElem?_cons_zero]; rfl)
      case hqhb26 => exact fun _ _ _ h => h
      case hwhb26 => rfl
      case hyhb26 => (intro w0 hSw; (try dsimp only at hSw); go_simp; try with_reducible rfl)
      (try simp only [Act.put, List.setIfInBounds_toArray, List.set_cons_zero, List.set_cons_succ])
      refine' wpAnyH_take (i := 7) ?hihb27 (by kernel_rfl) (by kernel_rfl) (by kernel_rfl) ?hqhb27 (Or.inl ⟨?hwhb27, ?hyhb27⟩) (by assumption) ?hrhb27
      case hihb27 => (simp only [List.getElem?_toArray, List.getElem?_cons_succ, List.getElem?_cons_zero]; rfl)
      case hqhb27 => exact fun _ _ _ h => h
      case hwhb27 => rfl
      case hyhb27 => (intro w0 hSw; (try dsimp only at hSw); go_simp; try with_reducible rfl)
      (try simp only [Act.put, List.setIfInBounds_toArray, List.set_cons_zero, List.set_cons_succ])
      refine' wpAnyH_take (i := 8) ?hihb28 (by kernel_rfl) (by kernel_rfl) (by kernel_rfl) ?hqhb28 (Or.inl ⟨?hwhb28, ?hyhb28⟩) (by assumption) ?hrhb28
      case hihb28 => (simp only [List.getElem?_toArray, List.getElem?_cons_succ, List.getElem?_cons_zero]; rfl)
      case hqhb28 => exact fun _ _ _ h => h
      case hwhb28 => rfl
      case hyhb28 => exact fun w0 hSw => run_exec_load rfl rfl (box_load hSw.i HYL.out 0)
      (try simp only [Act.put, List.setIfInBounds_toArray, List.set_cons_zero, List.set_cons_succ])
      refine' wpAnyH_take (i := 9) ?hihb29 (by kernel_rfl) (by kernel_rfl) (by kernel_rfl) ?hqhb29 (Or.inl ⟨?hwhb29, ?hyhb29⟩) (by assumption) ?hrhb29
      case hihb29 => (simp only [List.getElem?_toArray, List.getElem?_cons_succ, List.getElem?_cons_zero]; rfl)
      case hqhb29 => exact fun _ _ _ h => h
      case hwhb29 => rfl
      case hyhb29 => (intro w0 hSw; (try dsimp only at hSw); go_simp; try with_reducible rfl)
      (try simp only [Act.put, List.setIfInBounds_toArray, List.set_cons_zero, List.set_cons_succ])
      refine wpAnyH_ready (rs := [10]) (by kernel_rfl) (by simp) ?_
      refine' AllReadyH.cons ?hihb210 (fun K hK => ?hrhb210) AllReadyH.nil
      case hihb210 => (simp only [List.getElem?_toArray, List.getElem?_cons_succ, List.getElem?_cons_zero]; rfl)
      go_simp
      (refine (HSUM.out _ hHeld.t).mono ?_; rintro e wx ⟨rfl, hbx⟩)
      refine hK.out _ _ ?_ (fun hHeld => ?_)
      · exact hHeld.next HI.out hbx
      clear hK K
      (try simp only [Act.put, List.setIfInBounds_toArray, List.set_cons_zero, List.set_cons_succ])
      refine' wpAnyH_take (i := 11) ?hihb211 (by kernel_rfl) (by kernel_rfl) (by kernel_rfl) ?hqhb211 (Or.inl ⟨?hwhb211, ?hyhb211⟩) (by assumption) ?hrhb211
      case hihb211 => (simp only [List.getElem?_toArray, List.getElem?_cons_succ, List.getElem?_cons_zero]; rfl)
      case hqhb211 => exact fun _ _ _ h => h
      case hwhb211 => rfl
      case hyhb211 => exact fun w0 hSw => exec_bin (op := .eql) (t := 23) (x := .tmp 81) (y := .tmp 83) rfl rfl rfl (run_eqGuard_agg w0 .eql 23 (.tmp 81) (.tmp 83) _ _ Tryd.eqGuardType23) (eql_self w0 y HYL.out)
      (try simp only [Act.put, List.setIfInBounds_toArray, List.set_cons_zero, List.set_cons_succ])
      refine' wpAnyH_take (i := 12) ?hihb212 (by kernel_rfl) (by kernel_rfl) (by kernel_rfl) ?hqhb212 (Or.inl ⟨?hwhb212, ?hyhb212⟩) (by assumption) ?hrhb212
      case hihb212 => (simp only [List.getElem?_toArray, List.getElem?_cons_succ, List.getElem?_cons_zero]; rfl)
      case hqhb212 => exact fun _ _ _ h => h
      case hwhb212 => rfl
      case hyhb212 => (intro w0 hSw; (try dsimp only at hSw); go_simp; try with_reducible rfl)
      (try simp only [Act.put, List.setIfInBounds_toArray, List.set_cons_zero, List.set_cons_succ])
      refine' wpAnyH_take (i := 13) ?hihb213 (by kernel_rfl) (by kernel_rfl) (by kernel_rfl) ?hqhb213 (Or.inl ⟨?hwhb213, ?hyhb213⟩) (by assumption) ?hrhb213
      case hihb213 => (simp only [List.getElem?_toArray, List.getElem?_cons_succ, List.getElem?_cons_zero]; rfl)
      case hqhb213 => exact fun _ _ _ h => h
      case hwhb213 => rfl
      case hyhb213 => (intro w0 hSw; (try dsimp only at hSw); go_simp; try with_reducible rfl)
      (try simp only [Act.put, List.setIfInBounds_toArray, List.set_cons_zero, List.set_cons_succ])
      refine' wpAnyH_take (i := 14) ?hihb214 (by kernel_rfl) (by kernel_rfl) (by kernel_rfl) ?hqhb214 (Or.inl ⟨?hwhb214, ?hyhb214⟩) (by assumption) ?hrhb214
      case hihb214 => (simp only [List.getElem?_toArray, List.getElem?_cons_succ, List.getElem?_cons_zero]; rfl)
      case hqhb214 => exact fun _ _ _ h => h
      case hwhb214 => rfl
      case hyhb214 => (intro w0 hSw; (try dsimp only at hSw); go_simp; try with_reducible rfl)
      (try simp only [Act.put, List.setIfInBounds_toArray, List.set_cons_zero, List.set_cons_succ])
      refine' wpAnyH_take (i := 15) ?hihb215 (by kernel_rfl) (by kernel_rfl) (by kernel_rfl) ?hqhb215 (Or.inl ⟨?hwhb215, ?hyhb215⟩) (by assumption) ?hrhb215
      case hihb215 => (simp only [List.getElem?_toArray, List.getElem?_cons_succ, List.getElem?_cons_zero]; rfl)
      case hqhb215 => exact fun _ _ _ h => h
      case hwhb215 => rfl
      case hyhb215 => (intro w0 hSw; (try dsimp only at hSw); go_simp; try with_reducible rfl)
      (try simp only [Act.put, List.setIfInBounds_toArray, List.set_cons_zero, List.set_cons_succ])
      refine' wpAnyH_take (i := 16) ?hihb216 (by kernel_rfl) (by kernel_rfl) (by kernel_rfl) ?hqhb216 (Or.inl ⟨?hwhb216, ?hyhb216⟩) (by assumption) ?hrhb216
      case hihb216 => (simp only [List.getElem?_toArray, List.getElem?_cons_succ, List.getElem?_cons_zero]; rfl)
      case hqhb216 => exact fun _ _ _ h => h
      case hwhb216 => rfl
      case hyhb216 => (intro w0 hSw; (try dsimp only at hSw); go_simp; try with_reducible rfl)
      (try simp only [Act.put, List.setIfInBounds_toArray, List.set_cons_zero, List.set_cons_succ])
      refine' wpAnyH_take (i := 17) ?hihb217 (by kernel_rfl) (by kernel_rfl) (by kernel_rfl) ?hqhb217 (Or.inl ⟨?hwhb217, ?hyhb217⟩) (by assumption) ?hrhb217
      case hihb217 => (simp only [List.getElem?_toArray, List.getElem?_cons_succ, List.getElem?_cons_zero]; rfl)
      case hqhb217 => exact fun _ _ _ h => h
      case hwhb217 => rfl
      case hyhb217 => (intro w0 hSw; (try dsimp only at hSw); go_simp; try with_reducible rfl)
      (try simp only [Act.put, List.setIfInBounds_toArray, List.set_cons_zero, List.set_cons_succ])
      refine wpAnyH_ready (rs := [18]) (by kernel_rfl) (by simp) ?_
      refine' AllReadyH.cons ?hihb218 (fun K hK => ?hrhb218) AllReadyH.nil
      case hihb218 => (simp only [List.getElem?_toArray, List.getElem?_cons_succ, List.getElem?_cons_zero]; rfl)
      go_simp
      (refine (awake_any HI.out _ hHeld.t).mono ?_; rintro e wx ⟨rfl, hbx⟩)
      refine hK.out _ _ ?_ (fun hHeld => ?_)
      · exact hHeld.next HI.out hbx
      clear hK K
      (try simp only [Act.put, List.setIfInBounds_toArray, List.set_cons_zero, List.set_cons_succ])
      refine' wpAnyH_take (i := 19) ?hihb219 (by kernel_rfl) (by kernel_rfl) (by kernel_rfl) ?hqhb219 (Or.inl ⟨?hwhb219, ?hyhb219⟩) (by assumption) ?hrhb219
      case hihb219 => (simp only [List.getElem?_toArray, List.getElem?_cons_succ, List.getElem?_cons_zero]; rfl)
      case hqhb219 => exact fun _ _ _ h => h
      case hwhb219 => rfl
      case hyhb219 => (intro w0 hSw; (try dsimp only at hSw); go_simp; try with_reducible rfl)
      (try simp only [Act.put, List.setIfInBounds_toArray, List.set_cons_zero, List.set_cons_succ])
      refine' wpAnyH_take (i := 20) ?hihb220 (by kernel_rfl) (by kernel_rfl) (by kernel_rfl) ?hqhb220 (Or.inl ⟨?hwhb220, ?hyhb220⟩) (by assumption) ?hrhb220
      case hihb220 => (simp only [List.getElem?_toArray, List.getElem?_cons_succ, List.getElem?_cons_zero]; rfl)
      case hqhb220 => exact fun _ _ _ h => h
      case hwhb220 => rfl
      case hyhb220 => (intro w0 hSw; (try dsimp only at hSw); go_simp; try with_reducible rfl)
      (try simp only [Act.put, List.setIfInBounds_toArray, List.set_cons_zero, List.set_cons_succ])
      refine wpAnyH_done (by kernel_rfl) ?_ _
      go_wp2_with fail
      go_ret
      exact ⟨rfl, hHeld.below⟩
    · have hg1 : (g != 0) = true := bne_iff_ne.2 hg0
      have HQZ : Hid (qs = zhd) := Lib.hid (of_err HFL.out hg0)
      clear hg0
      go_enter Tryd.func9, Tryd.ntmps9
      go_upto_region 1 with fail
      refine wp_at HW.out.symm ?_
      rw [← HS.out]
      clear HW
      go_wp2_with (first
        | ((with_reducible refine step_load (t := 46) (x := .tmp 2) (p := ?lpy7o) (v := ?lvy7o) ?lgy7o ?loy7o ?lxy7o ?lry7o ?lhy7o); (case lgy7o => rfl); (case loy7o => rfl); (case lxy7o => rfl); (case lry7o => exact HLD.out))
        | (go_at_call 23; (with_reducible refine HPUT.out.mono ?_); rintro e w2 ⟨rfl, hb2⟩)
        | (go_at_call 31; (with_reducible refine (HOFS.out _ (HI.out.next HT.out hb2)).mono ?_); rintro e ws ⟨vs, rfl, hrds, hbs⟩; have hhs := run_hold ws qs vs HQR.out (rdv_one hrds); have hks := held_blk ws qs vs; have hbbs := held_below ws qs vs; obtain ⟨whs, hwhs⟩ : ∃ wx, wx = heldW ws qs vs := ⟨_, rfl⟩; rw [← hwhs] at hhs hks hbbs; clear hwhs; have bh := (hb2.trans (hbs.mono hb2.size)).trans (hbbs.mono (Nat.le_trans hb2.size hbs.size)); have hls := run_load_hd hks HQR.out; have hrs := hrds.next hbbs; have hsm := HI.out.same zhd zhd vs nv whs (HI.out.next HT.out bh) zcom zcom (by have h := hrs; rw [HQZ.out] at h; exact h) (nv_rd _); rw [sameH_z] at hsm; rw [HQZ.out] at hls; have HSMZ := Lib.hid hsm; clear hsm)
        | ((with_reducible refine step_store_run (t := 46) (x := .tmp 9) (y := .tmp 53) (p := ?spy8s) (v := ?svy8s) (w' := ?swy8s) ?sgy8s ?soy8s ?sxy8s ?syy8s ?sry8s ?shy8s); (case sgy8s => rfl); (case soy8s => rfl); (case sxy8s => rfl); (case syy8s => rfl); (case sry8s => exact hhs))
        | ((with_reducible refine step_load (t := 46) (x := .tmp 9) (p := ?lpy8l) (v := ?lvy8l) ?lgy8l ?loy8l ?lxy8l ?lry8l ?lhy8l); (case lgy8l => rfl); (case loy8l => rfl); (case lxy8l => rfl); (case lry8l => exact hls))
        | (go_at_call 29; refine HSMZ.out.mono ?_; rintro e wp ⟨rfl, hbp⟩; have bp := bh.trans (hbp.mono bh.size))
        | (go_at_call 22; refine (awake_any HI.out _ (HI.out.next HT.out bp)).mono ?_; rintro e wz ⟨rfl, hbz⟩))
      go_ret
      exact ⟨rfl, HB.out.trans ((bp.trans (hbz.mono bp.size)).mono HB.out.size)⟩
end Go.Proofs.YtmaolmogccknbaaDoor.hdr
