/-
  The walk of MsgBack, by what msg's functions answer.
-/
import Derived.Test.YtbfjljbllfjicaaMsis
namespace Go.Proofs.Ytbfjljbllfjicaa.msg
open Go.RowKit Go.Proofs.Ytbfjljbllfjicaa.mem Go.Proofs.Ytbfjljbllfjicaa.sha Go.Proofs.Ytbfjljbllfjicaa.ids
open Go.Proofs.Ytbfjljbllfjicaa.opn (b1 b2 b4 num txt idl byte rd rdN rdT rdI rdS rdL St Reads Stays endE zid mkId)

set_option maxHeartbeats 4000000 in
set_option maxRecDepth 100000 in
theorem back_walk {T : World → Prop} (hI : MsIs T) (m : Mg) (v : Value) (s : ByteArray) (w : World) (hT : T w) (hv : RdV w v m.ids) (hb0 : m.body.length ≤ 140737488351232) (hs : s.size ≤ 140737488351232) :
    Calls Try.prog 5 #[mgv m v, .string s] w fun e w' => e = .returned (.bool true) ∧ Below w.heap.size w w' := by
  obtain ⟨w1, hw1⟩ : ∃ u, u = w.alloc (.cells #[.int .i64 m.k, v, .string (oct.tx m.body)] 24) := ⟨_, rfl⟩
  obtain ⟨S, hS⟩ : ∃ S, S = w.heap.size := ⟨_, rfl⟩
  have hX : Blk w1 S 24 #[.int .i64 m.k, v, .string (oct.tx m.body)] := by rw [hw1, hS]; exact Blk.new w _ _
  have hB : Below w.heap.size w w1 := by rw [hw1]; exact (Below.refl _ _).alloc (Nat.le_refl _) _
  have HX := Lib.hid hX
  have HB := Lib.hid hB
  have HS := Lib.hid hS
  have HW := Lib.hid hw1
  have HT := Lib.hid (hI.next hT hB)
  have HI := Lib.hid hI
  obtain ⟨ad, cap, hvf⟩ := hv.form
  have c1 := (MgBlk.of hX).ids
  have c2 := (MgBlk.of hX).body
  rw [hvf] at c1
  obtain ⟨ln, hln⟩ : ∃ n, n = m.ids.length := ⟨_, rfl⟩
  obtain ⟨bt, hbt⟩ : ∃ b, b = oct.tx m.body := ⟨_, rfl⟩
  rw [← hln] at c1
  rw [← hbt] at c2
  have HLN := Lib.hid hln
  have HBN : Hid (bt.size = m.body.length) := Lib.hid (by rw [hbt, oct.tx_size])
  have HLD := Lib.hid (run_load_mg hX)
  have HV := Lib.hid (hv.next hB)
  clear hX hB hw1 hS hT hI hvf hln hbt hv
  unfold mgv
  by_cases gi1 : 60 < m.ids.length
  · have i1 : (60 : Int) < (ln : Int) := by rw [HLN.out]; omega
    clear gi1 hb0 hs
    go_enter Try.func5, Try.ntmps5
    go_upto_region 1 with fail
    refine wp_at HW.out.symm ?_
    rw [← HS.out]
    clear HW
    go_wp2_with ((go_at_call 7; refine (awake_any HI.out _ HT.out).mono ?_; rintro e w2 ⟨rfl, hb1⟩))
    go_ret
    exact ⟨rfl, HB.out.trans (hb1.mono HB.out.size)⟩
  have i1 : (ln : Int) ≤ 60 := by rw [HLN.out]; omega
  by_cases gi2 : 2000 < m.body.length
  · have i2 : (2000 : Int) < (bt.size : Int) := by rw [HBN.out]; omega
    clear gi2 hb0 hs
    go_enter Try.func5, Try.ntmps5
    go_upto_region 1 with fail
    refine wp_at HW.out.symm ?_
    rw [← HS.out]
    clear HW
    go_wp2_with ((go_at_call 7; refine (awake_any HI.out _ HT.out).mono ?_; rintro e w2 ⟨rfl, hb1⟩))
    go_ret
    exact ⟨rfl, HB.out.trans (hb1.mono HB.out.size)⟩
  have i2 : (bt.size : Int) ≤ 2000 := by rw [HBN.out]; omega
  by_cases gi3 : 3000 < s.size
  · have i3 : (3000 : Int) < (s.size : Int) := by omega
    clear gi3 hb0 hs
    go_enter Try.func5, Try.ntmps5
    go_upto_region 1 with fail
    refine wp_at HW.out.symm ?_
    rw [← HS.out]
    clear HW
    go_wp2_with ((go_at_call 7; refine (awake_any HI.out _ HT.out).mono ?_; rintro e w2 ⟨rfl, hb1⟩))
    go_ret
    exact ⟨rfl, HB.out.trans (hb1.mono HB.out.size)⟩
  have i3 : (s.size : Int) ≤ 3000 := by omega
  have HPUT := Lib.hid (HI.out.put m v w1 HT.out HV.out hb0)
  obtain ⟨c, hc⟩ : ∃ c, c = checkM m := ⟨_, rfl⟩
  have HC := Lib.hid hc
  obtain ⟨qs, hqs⟩ : ∃ q, q = (ofM s.data.toList).1 := ⟨_, rfl⟩
  obtain ⟨g, hg⟩ : ∃ q, q = (ofM s.data.toList).2 := ⟨_, rfl⟩
  have hpp := of_parts s.data.toList
  rw [← hqs] at hpp
  have HQT : Hid (qs.body.length ≤ 140737488351232) := Lib.hid (by omega)
  have hfl : ofM s.data.toList = (qs, g) := by rw [hqs, hg]
  have HFL := Lib.hid hfl
  have HOFS := Lib.hid fun u hT => HI.out.of s u hT (by omega)
  rw [hfl] at HOFS
  clear gi1 gi2 gi3 hc hqs hg hfl hpp hb0 hs
  by_cases hc0 : c = 0
  · subst hc0
    have HCZ : Hid (checkM m = 0) := Lib.hid HC.out.symm
    have HPUT := HPUT
    rw [put_ok HCZ.out] at HPUT
    obtain ⟨t, ht⟩ : ∃ t, t = oct.tx (enM m) := ⟨_, rfl⟩
    simp only at HPUT
    rw [← ht] at HPUT
    have HTE := Lib.hid ht
    have hen := en_len HCZ.out HV.out.ok
    have htl : (t.size : Int) ≤ 1024 := by rw [ht, oct.tx_size]; omega
    have HTZ : Hid (t.size ≤ 281474976710656) := Lib.hid (by omega)
    clear ht hen
    by_cases hg0 : g = 0
    · subst hg0
      have hbk := of_back HFL.out
      have HPQ : Hid (putM qs = (s.data.toList, 0)) := Lib.hid (by rw [put_ok hbk.1, hbk.2])
      have hse : ((oct.tx s.data.toList).toList == s.toList) = true := by rw [oct.tx_eta]; simp
      clear hbk
      go_enter Try.func5, Try.ntmps5
      go_upto_region 1 with fail
      refine wp_at HW.out.symm ?_
      rw [← HS.out]
      clear HW
      go_wp2_with (first
        | ((with_reducible refine step_load (t := 24) (x := .tmp 2) (p := ?lpy1o) (v := ?lvy1o) ?lgy1o ?loy1o ?lxy1o ?lry1o ?lhy1o); (case lgy1o => rfl); (case loy1o => rfl); (case lxy1o => rfl); (case lry1o => exact HLD.out))
        | (go_at_call 8; (with_reducible refine HPUT.out.mono ?_); rintro e w2 ⟨rfl, hb2⟩; have hoft := HI.out.of t w2 (HI.out.next HT.out hb2) HTZ.out; rw [HTE.out, oct.tx_list, of_put HCZ.out HV.out.ok, ← HTE.out] at hoft; have HOFT := Lib.hid hoft; clear hoft)
        | (go_at_call 14; (with_reducible refine HOFT.out.mono ?_); rintro e w3 ⟨v3, rfl, hrd3, hb3⟩; have hht := run_hold w3 m v3 (rdv_one hrd3); have hkt := held_blk w3 m v3; have hbbt := held_below w3 m v3; obtain ⟨wht, hwht⟩ : ∃ wx, wx = heldW w3 m v3 := ⟨_, rfl⟩; rw [← hwht] at hht hkt hbbt; clear hwht; have b3 := (hb2.trans (hb3.mono hb2.size)).trans (hbbt.mono (Nat.le_trans hb2.size hb3.size)); have hl7 := run_load_mg hkt; have hX3 := HX.out.below b3 HX.out.lt; have hl2 := run_load_mg hX3; have hsm := HI.out.same m m v v3 wht (HI.out.next HT.out b3) (HV.out.next b3) (hrd3.next hbbt); rw [sameM_refl] at hsm; have HSM := Lib.hid hsm; clear hX3 hsm)
        | ((with_reducible refine step_store_run (t := 24) (x := .tmp 7) (y := .tmp 39) (p := ?spy1h) (v := ?svy1h) (w' := ?swy1h) ?sgy1h ?soy1h ?sxy1h ?syy1h ?sry1h ?shy1h); (case sgy1h => rfl); (case soy1h => rfl); (case sxy1h => rfl); (case syy1h => rfl); (case sry1h => exact hht))
        | ((with_reducible refine step_load_w (t := 24) (x := .tmp 2) (p := ?lpy1a) (v := ?lvy1a) ?lgy1a ?loy1a ?lxy1a ?lry1a ?lhy1a); (case loy1a => rfl); (case lgy1a => rfl); (case lxy1a => rfl); (case lry1a => exact hl2))
        | ((with_reducible refine step_load_w (t := 24) (x := .tmp 7) (p := ?lpy1b) (v := ?lvy1b) ?lgy1b ?loy1b ?lxy1b ?lry1b ?lhy1b); (case loy1b => rfl); (case lgy1b => rfl); (case lxy1b => rfl); (case lry1b => exact hl7))
        | (go_at_call 12; (with_reducible refine HSM.out.mono ?_); rintro e w4 ⟨rfl, hb4⟩; have b4 := b3.trans (hb4.mono b3.size))
        | (go_at_call 14; (with_reducible refine (HOFS.out _ (HI.out.next HT.out b4)).mono ?_); rintro e ws ⟨vs, rfl, hrds, hbs⟩; have hhs := run_hold ws qs vs (rdv_one hrds); have hks := held_blk ws qs vs; have hbbs := held_below ws qs vs; obtain ⟨whs, hwhs⟩ : ∃ wx, wx = heldW ws qs vs := ⟨_, rfl⟩; rw [← hwhs] at hhs hks hbbs; clear hwhs; have bh := (b4.trans (hbs.mono b4.size)).trans (hbbs.mono (Nat.le_trans b4.size hbs.size)); have hls := run_load_mg hks; have hrs := hrds.next hbbs; have hput := HI.out.put qs vs whs (HI.out.next HT.out bh) hrs HQT.out; rw [HPQ.out] at hput; have HPUTQ := Lib.hid hput; clear hput hrs)
        | ((with_reducible refine step_store_run (t := 24) (x := .tmp 9) (y := .tmp 57) (p := ?spy2s) (v := ?svy2s) (w' := ?swy2s) ?sgy2s ?soy2s ?sxy2s ?syy2s ?sry2s ?shy2s); (case sgy2s => rfl); (case soy2s => rfl); (case sxy2s => rfl); (case syy2s => rfl); (case sry2s => exact hhs))
        | ((with_reducible refine step_load (t := 24) (x := .tmp 9) (p := ?lpy2l) (v := ?lvy2l) ?lgy2l ?loy2l ?lxy2l ?lry2l ?lhy2l); (case lgy2l => rfl); (case loy2l => rfl); (case lxy2l => rfl); (case lry2l => exact hls))
        | (go_at_call 8; (with_reducible refine HPUTQ.out.mono ?_); rintro e wp ⟨rfl, hbp⟩; have bp := bh.trans (hbp.mono bh.size))
        | (go_at_call 7; refine (awake_any HI.out _ (HI.out.next HT.out bp)).mono ?_; rintro e wz ⟨rfl, hbz⟩))
      go_ret
      exact ⟨rfl, HB.out.trans ((bp.trans (hbz.mono bp.size)).mono HB.out.size)⟩
    · have hg1 : (g != 0) = true := bne_iff_ne.2 hg0
      have HQZ : Hid (qs = zmg) := Lib.hid (of_err HFL.out hg0)
      clear hg0
      go_enter Try.func5, Try.ntmps5
      go_upto_region 1 with fail
      refine wp_at HW.out.symm ?_
      rw [← HS.out]
      clear HW
      go_wp2_with (first
        | ((with_reducible refine step_load (t := 24) (x := .tmp 2) (p := ?lpy3o) (v := ?lvy3o) ?lgy3o ?loy3o ?lxy3o ?lry3o ?lhy3o); (case lgy3o => rfl); (case loy3o => rfl); (case lxy3o => rfl); (case lry3o => exact HLD.out))
        | (go_at_call 8; (with_reducible refine HPUT.out.mono ?_); rintro e w2 ⟨rfl, hb2⟩; have hoft := HI.out.of t w2 (HI.out.next HT.out hb2) HTZ.out; rw [HTE.out, oct.tx_list, of_put HCZ.out HV.out.ok, ← HTE.out] at hoft; have HOFT := Lib.hid hoft; clear hoft)
        | (go_at_call 14; (with_reducible refine HOFT.out.mono ?_); rintro e w3 ⟨v3, rfl, hrd3, hb3⟩; have hht := run_hold w3 m v3 (rdv_one hrd3); have hkt := held_blk w3 m v3; have hbbt := held_below w3 m v3; obtain ⟨wht, hwht⟩ : ∃ wx, wx = heldW w3 m v3 := ⟨_, rfl⟩; rw [← hwht] at hht hkt hbbt; clear hwht; have b3 := (hb2.trans (hb3.mono hb2.size)).trans (hbbt.mono (Nat.le_trans hb2.size hb3.size)); have hl7 := run_load_mg hkt; have hX3 := HX.out.below b3 HX.out.lt; have hl2 := run_load_mg hX3; have hsm := HI.out.same m m v v3 wht (HI.out.next HT.out b3) (HV.out.next b3) (hrd3.next hbbt); rw [sameM_refl] at hsm; have HSM := Lib.hid hsm; clear hX3 hsm)
        | ((with_reducible refine step_store_run (t := 24) (x := .tmp 7) (y := .tmp 39) (p := ?spy3h) (v := ?svy3h) (w' := ?swy3h) ?sgy3h ?soy3h ?sxy3h ?syy3h ?sry3h ?shy3h); (case sgy3h => rfl); (case soy3h => rfl); (case sxy3h => rfl); (case syy3h => rfl); (case sry3h => exact hht))
        | ((with_reducible refine step_load_w (t := 24) (x := .tmp 2) (p := ?lpy3a) (v := ?lvy3a) ?lgy3a ?loy3a ?lxy3a ?lry3a ?lhy3a); (case loy3a => rfl); (case lgy3a => rfl); (case lxy3a => rfl); (case lry3a => exact hl2))
        | ((with_reducible refine step_load_w (t := 24) (x := .tmp 7) (p := ?lpy3b) (v := ?lvy3b) ?lgy3b ?loy3b ?lxy3b ?lry3b ?lhy3b); (case loy3b => rfl); (case lgy3b => rfl); (case lxy3b => rfl); (case lry3b => exact hl7))
        | (go_at_call 12; (with_reducible refine HSM.out.mono ?_); rintro e w4 ⟨rfl, hb4⟩; have b4 := b3.trans (hb4.mono b3.size))
        | (go_at_call 14; (with_reducible refine (HOFS.out _ (HI.out.next HT.out b4)).mono ?_); rintro e ws ⟨vs, rfl, hrds, hbs⟩; have hhs := run_hold ws qs vs (rdv_one hrds); have hks := held_blk ws qs vs; have hbbs := held_below ws qs vs; obtain ⟨whs, hwhs⟩ : ∃ wx, wx = heldW ws qs vs := ⟨_, rfl⟩; rw [← hwhs] at hhs hks hbbs; clear hwhs; have bh := (b4.trans (hbs.mono b4.size)).trans (hbbs.mono (Nat.le_trans b4.size hbs.size)); have hls := run_load_mg hks; have hrs := hrds.next hbbs; have hsm := HI.out.same zmg zmg vs nv whs (HI.out.next HT.out bh) (by have h := hrs; rw [HQZ.out] at h; exact h) (nv_rd _); rw [sameM_refl] at hsm; rw [HQZ.out] at hls; have HSMZ := Lib.hid hsm; clear hsm)
        | ((with_reducible refine step_store_run (t := 24) (x := .tmp 9) (y := .tmp 57) (p := ?spy4s) (v := ?svy4s) (w' := ?swy4s) ?sgy4s ?soy4s ?sxy4s ?syy4s ?sry4s ?shy4s); (case sgy4s => rfl); (case soy4s => rfl); (case sxy4s => rfl); (case syy4s => rfl); (case sry4s => exact hhs))
        | ((with_reducible refine step_load (t := 24) (x := .tmp 9) (p := ?lpy4l) (v := ?lvy4l) ?lgy4l ?loy4l ?lxy4l ?lry4l ?lhy4l); (case lgy4l => rfl); (case loy4l => rfl); (case lxy4l => rfl); (case lry4l => exact hls))
        | (go_at_call 12; refine HSMZ.out.mono ?_; rintro e wp ⟨rfl, hbp⟩; have bp := bh.trans (hbp.mono bh.size))
        | (go_at_call 7; refine (awake_any HI.out _ (HI.out.next HT.out bp)).mono ?_; rintro e wz ⟨rfl, hbz⟩))
      go_ret
      exact ⟨rfl, HB.out.trans ((bp.trans (hbz.mono bp.size)).mono HB.out.size)⟩
  · have hc1 : (c == 0) = false := beq_eq_false_iff_ne.2 hc0
    have HPUT := HPUT
    rw [put_no (by rw [← HC.out]; exact hc0), ← HC.out] at HPUT
    simp only at HPUT
    clear hc0
    by_cases hg0 : g = 0
    · subst hg0
      have hbk := of_back HFL.out
      have HPQ : Hid (putM qs = (s.data.toList, 0)) := Lib.hid (by rw [put_ok hbk.1, hbk.2])
      have hse : ((oct.tx s.data.toList).toList == s.toList) = true := by rw [oct.tx_eta]; simp
      clear hbk
      go_enter Try.func5, Try.ntmps5
      go_upto_region 1 with fail
      refine wp_at HW.out.symm ?_
      rw [← HS.out]
      clear HW
      go_wp2_with (first
        | ((with_reducible refine step_load (t := 24) (x := .tmp 2) (p := ?lpy5o) (v := ?lvy5o) ?lgy5o ?loy5o ?lxy5o ?lry5o ?lhy5o); (case lgy5o => rfl); (case loy5o => rfl); (case lxy5o => rfl); (case lry5o => exact HLD.out))
        | (go_at_call 8; (with_reducible refine HPUT.out.mono ?_); rintro e w2 ⟨rfl, hb2⟩)
        | (go_at_call 14; (with_reducible refine (HOFS.out _ (HI.out.next HT.out hb2)).mono ?_); rintro e ws ⟨vs, rfl, hrds, hbs⟩; have hhs := run_hold ws qs vs (rdv_one hrds); have hks := held_blk ws qs vs; have hbbs := held_below ws qs vs; obtain ⟨whs, hwhs⟩ : ∃ wx, wx = heldW ws qs vs := ⟨_, rfl⟩; rw [← hwhs] at hhs hks hbbs; clear hwhs; have bh := (hb2.trans (hbs.mono hb2.size)).trans (hbbs.mono (Nat.le_trans hb2.size hbs.size)); have hls := run_load_mg hks; have hrs := hrds.next hbbs; have hput := HI.out.put qs vs whs (HI.out.next HT.out bh) hrs HQT.out; rw [HPQ.out] at hput; have HPUTQ := Lib.hid hput; clear hput hrs)
        | ((with_reducible refine step_store_run (t := 24) (x := .tmp 9) (y := .tmp 57) (p := ?spy6s) (v := ?svy6s) (w' := ?swy6s) ?sgy6s ?soy6s ?sxy6s ?syy6s ?sry6s ?shy6s); (case sgy6s => rfl); (case soy6s => rfl); (case sxy6s => rfl); (case syy6s => rfl); (case sry6s => exact hhs))
        | ((with_reducible refine step_load (t := 24) (x := .tmp 9) (p := ?lpy6l) (v := ?lvy6l) ?lgy6l ?loy6l ?lxy6l ?lry6l ?lhy6l); (case lgy6l => rfl); (case loy6l => rfl); (case lxy6l => rfl); (case lry6l => exact hls))
        | (go_at_call 8; (with_reducible refine HPUTQ.out.mono ?_); rintro e wp ⟨rfl, hbp⟩; have bp := bh.trans (hbp.mono bh.size))
        | (go_at_call 7; refine (awake_any HI.out _ (HI.out.next HT.out bp)).mono ?_; rintro e wz ⟨rfl, hbz⟩))
      go_ret
      exact ⟨rfl, HB.out.trans ((bp.trans (hbz.mono bp.size)).mono HB.out.size)⟩
    · have hg1 : (g != 0) = true := bne_iff_ne.2 hg0
      have HQZ : Hid (qs = zmg) := Lib.hid (of_err HFL.out hg0)
      clear hg0
      go_enter Try.func5, Try.ntmps5
      go_upto_region 1 with fail
      refine wp_at HW.out.symm ?_
      rw [← HS.out]
      clear HW
      go_wp2_with (first
        | ((with_reducible refine step_load (t := 24) (x := .tmp 2) (p := ?lpy7o) (v := ?lvy7o) ?lgy7o ?loy7o ?lxy7o ?lry7o ?lhy7o); (case lgy7o => rfl); (case loy7o => rfl); (case lxy7o => rfl); (case lry7o => exact HLD.out))
        | (go_at_call 8; (with_reducible refine HPUT.out.mono ?_); rintro e w2 ⟨rfl, hb2⟩)
        | (go_at_call 14; (with_reducible refine (HOFS.out _ (HI.out.next HT.out hb2)).mono ?_); rintro e ws ⟨vs, rfl, hrds, hbs⟩; have hhs := run_hold ws qs vs (rdv_one hrds); have hks := held_blk ws qs vs; have hbbs := held_below ws qs vs; obtain ⟨whs, hwhs⟩ : ∃ wx, wx = heldW ws qs vs := ⟨_, rfl⟩; rw [← hwhs] at hhs hks hbbs; clear hwhs; have bh := (hb2.trans (hbs.mono hb2.size)).trans (hbbs.mono (Nat.le_trans hb2.size hbs.size)); have hls := run_load_mg hks; have hrs := hrds.next hbbs; have hsm := HI.out.same zmg zmg vs nv whs (HI.out.next HT.out bh) (by have h := hrs; rw [HQZ.out] at h; exact h) (nv_rd _); rw [sameM_refl] at hsm; rw [HQZ.out] at hls; have HSMZ := Lib.hid hsm; clear hsm)
        | ((with_reducible refine step_store_run (t := 24) (x := .tmp 9) (y := .tmp 57) (p := ?spy8s) (v := ?svy8s) (w' := ?swy8s) ?sgy8s ?soy8s ?sxy8s ?syy8s ?sry8s ?shy8s); (case sgy8s => rfl); (case soy8s => rfl); (case sxy8s => rfl); (case syy8s => rfl); (case sry8s => exact hhs))
        | ((with_reducible refine step_load (t := 24) (x := .tmp 9) (p := ?lpy8l) (v := ?lvy8l) ?lgy8l ?loy8l ?lxy8l ?lry8l ?lhy8l); (case lgy8l => rfl); (case loy8l => rfl); (case lxy8l => rfl); (case lry8l => exact hls))
        | (go_at_call 12; refine HSMZ.out.mono ?_; rintro e wp ⟨rfl, hbp⟩; have bp := bh.trans (hbp.mono bh.size))
        | (go_at_call 7; refine (awake_any HI.out _ (HI.out.next HT.out bp)).mono ?_; rintro e wz ⟨rfl, hbz⟩))
      go_ret
      exact ⟨rfl, HB.out.trans ((bp.trans (hbz.mono bp.size)).mono HB.out.size)⟩
end Go.Proofs.Ytbfjljbllfjicaa.msg
