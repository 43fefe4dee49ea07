/-
 petrelref15.Next.
-/
import Derived.Test.YtpeneeddfgmjpaaGreatDoorHdid
namespace Go.Proofs.YtpeneeddfgmjpaaGreatDoor.rul
open Go.RowKit Go.Proofs.YtpeneeddfgmjpaaGreatDoor.mem Go.Proofs.YtpeneeddfgmjpaaGreatDoor.sha Go.Proofs.YtpeneeddfgmjpaaGreatDoor.ids Go.Proofs.YtpeneeddfgmjpaaGreatDoor.rows Go.Proofs.YtpeneeddfgmjpaaGreatDoor.hdr Go.Proofs.YtpeneeddfgmjpaaGreatDoor.hds
open Go.Proofs.YtpeneeddfgmjpaaGreatDoor.opn (zid)

/-- what is answered -/
def NextOut (w : World) (r : Hd × Int) (e : Ending) (w' : World) : Prop := ∃ u, e = .returned (.tuple #[hdv r.1 u, .int .i64 r.2]) ∧ RdV w' u r.1.parents ∧ Below w.heap.size w w'
theorem build0 (w : World) : (Instr.buildSlice 27 0 #[]).run Tryz.prog w = .ok (.slice (some ⟨w.heap.size, 0, none⟩) 0 0) (w.alloc (.cells #[] 26)) := by kernel_rfl
set_option maxHeartbeats 16000000 in
set_option maxRecDepth 100000 in
theorem next_ref (hRS : RSum) (v : Value) (P : HP) (t : List UInt8) (a q z : Int) (c : Id) (w : World) (hv : HsV w v P) (hf : Few P) (hn : P.length ≤ 1000) (hc : c.length = 32) (htl : t.length ≤ 140737488351232) :
  Calls Tryz.prog 16 #[v, .string (oct.tx t), .int .i64 a, .int .i64 q, .int .i64 z, idv c] w fun e w' => NextOut w (nextR (hs P) t a q z c) e w' := by
 obtain ⟨X, hX⟩ : ∃ S, S = w.heap.size := ⟨_, rfl⟩
 obtain ⟨w1, hw1⟩ : ∃ y, y = (w.alloc (.cells (bv c).toArray 24)).alloc (.cells (hdc zhd nv).toArray 26) := ⟨_, rfl⟩
 have hb1 : Blk w1 X 24 (bv c).toArray := by rw [hw1, hX]; exact (Blk.new w _ _).alloc _
 have hr1 : Blk w1 (X + 1) 26 (hdc zhd nv).toArray := by rw [hw1, hX]; exact Blk.at_ (by simp) _ _
 have hbl : Below w.heap.size w w1 := by rw [hw1]; exact ((Below.refl _ _).alloc (Nat.le_refl _) _).alloc (by simp) _
 have hs1 : w1.heap.size = X + 2 := by rw [hw1, hX]; simp
 have hv1 := hv.next hbl
 -- the copy
 have ho0 := OwnH.laid0 w1 (F := (X + 2 ≤ ·)) (fun b hb => by rw [hs1] at hb; exact hb)
 have hb2 : Below w1.heap.size w1 (w1.alloc (.cells #[] 26)) := (Below.refl _ _).alloc (Nat.le_refl _) _
 have hv2 := hv1.next hb2
 have hsa : (w1.alloc (.cells #[] 26)).heap.size = X + 3 := by simp [hs1]
 obtain ⟨lv, w3, hrun, ho3, ht3, -⟩ := app_hs ho0 hv2 (sep_low (B := X + 2) (hv.2) (by omega) (fun k hk => ho0.1.2.2 k hk)) (by simp; omega) (fun b hb => (show X + 2 ≤ b by rw [hsa] at hb; omega)) 27
 rw [List.nil_append] at ho3
 have hb13 : Below (X + 2) w1 w3 := (hs1 ▸ hb2).trans ((Turn.below (B := X + 2) ht3 fun k hk => by
  rcases hk with hk | hk
  ·
   exact ho0.1.2.2 k hk
  ·
   rw [hsa] at hk; omega))
 have HB3 := Lib.hid (hb1.below hb13 (by omega))
 have HR3 := Lib.hid (hr1.below hb13 (by omega))
 have HBL := Lib.hid (hbl.trans (hb13.mono (by omega)))
 have HL3 := Lib.hid (ho3.hsv (by omega))
 have HW := Lib.hid hw1
 have HXX := Lib.hid hX
 have HCL := Lib.hid hc
 have HLOW := Lib.hid hv.2
 have HX3 : Hid (X + 2 ≤ w3.heap.size) := Lib.hid (by have := hb13.size; omega)
 have HRUN := Lib.hid hrun
 obtain ⟨n, hnn⟩ : ∃ n, n = P.length := ⟨_, rfl⟩
 have HNN := Lib.hid hnn
 have hn1 : (n : Int) ≤ 1000 := by omega
 obtain ⟨la, lc, hlf⟩ := ho3.form
 rw [← hnn] at hlf
 subst hlf
 have HNX : Hid (nextR (hs P) t a q z c = if errR (hs P) ≠ 0 then (zhd, errR (hs P)) else if checkH (madeR (hs P) t a q z c) ≠ 0 then (zhd, checkH (madeR (hs P) t a q z c)) else (madeR (hs P) t a q z c, 0)) := Lib.hid rfl
 clear hb1 hr1 hbl hs1 hsa hv1 ho0 hb2 hv2 hrun ho3 ht3 hb13 hw1 hX hv hc hnn
 unfold idv
 go_enter Tryz.func16, Tryz.ntmps16
 go_upto_region 1 with fail
 refine wp_at HW.out.symm ?_
 rw [← HXX.out]
 clear HW
 go_wp2_with (first
  | ((with_reducible refine step_append (s := .tmp 25) (x := .tmp 26) (t := 27) (vs := ?asn1) (vx := ?axn1) (v' := ?avn1) (w' := ?awn1) ?agn1 ?aon1 ?apn1 ?aqn1 ?arn1 ?ahn1); (case agn1 => rfl); (case aon1 => rfl); (case apn1 => rfl); (case aqn1 => rfl); (case arn1 => exact HRUN.out)))
 clear HRUN
 obtain ⟨S, hS⟩ : ∃ S, S = w3.heap.size := ⟨_, rfl⟩
 have HS := Lib.hid hS
 have HT3 := Lib.hid (show Turn (S ≤ ·) w3 w3 from Turn.refl _ _)
 clear hS
 go_loopw [15, 16] (fun iv i wr => ∃ k : Nat, k ≤ n ∧ i = .int .i64 (k : Int) ∧ OwnI wr (S ≤ ·) iv (idsP (P.take k)) ∧ Turn (S ≤ ·) w3 wr ∧ ∀ j, j < k → (idH ((hs P).getD j zhd)).2 = 0) (fun _ i _ => n - (intOf i).toNat)
 case atStart => exact ⟨0, Nat.zero_le _, rfl, OwnI.nil _ _, HT3.out, fun j hj => absurd hj (Nat.not_lt_zero _)⟩
 case round =>
  clear HT3
  obtain ⟨k, hk, rfl, ho, ht, hno⟩ := hrel
  have k0 : (0 : Int) ≤ (k : Int) := Int.natCast_nonneg _
  have hb := ht.below fun b hb => (show w3.heap.size ≤ b by rw [← HS.out]; exact hb)
  have hl := HL3.out.next hb
  have HO := Lib.hid ho
  have HT := Lib.hid ht
  have HL := Lib.hid hl
  have HNO := Lib.hid hno
  have hrb := HR3.out.turn ht (by have := HX3.out; have := HS.out; omega)
  have HRB := Lib.hid hrb
  obtain ⟨ia, ic, hif, -, -⟩ := ho.form
  obtain ⟨il, hil⟩ : ∃ l, l = (idsP (P.take k)).length := ⟨_, rfl⟩
  have hil1 : il ≤ 1000 := by rw [hil, idsP_len, List.length_take]; omega
  rw [← hil] at hif
  subst hif
  have HIL := Lib.hid hil1
  have HILL := Lib.hid hil
  by_cases hlt : k < n
  ·
   have kI : (k : Int) < (n : Int) := by omega
   have hkP : k < P.length := by rw [← HNN.out]; exact hlt
   obtain ⟨b, off, rfl, hbb, hld, -, -, -⟩ := hl.at_ hkP
   have hld := hld 0
   have hin := hl.2.get hkP
   have hfw := hf.get hkP
   have hid := ident_any hRS (P.getD k zhp).1 (P.getD k zhp).2 wr hin.2 hin.1 hfw.1 hfw.2
   have hl32 := idH_l32 (P.getD k zhp).1
   have hsn := idsP_snoc hkP
   have hg := hs_get hkP
   have her0 := errR_at (hs P) k _ hg hno
   obtain ⟨y, hy⟩ : ∃ y, y = (idH (P.getD k zhp).1).1 := ⟨_, rfl⟩
   obtain ⟨er, her⟩ : ∃ e, e = (idH (P.getD k zhp).1).2 := ⟨_, rfl⟩
   rw [← hy] at hid hl32 hsn
   rw [← her] at hid her0
   have hek : Hid ((idH ((hs P).getD k zhd)).2 = er) := Lib.hid (by rw [hs_getD hkP, her])
   obtain ⟨hv0, hhv⟩ : ∃ u, u = hdv (P.getD k zhp).1 (P.getD k zhp).2 := ⟨_, rfl⟩
   rw [← hhv] at hld hid
   have HID := Lib.hid hid
   have HL32 := Lib.hid hl32
   have HSN := Lib.hid hsn
   have HE0 := Lib.hid her0
   clear hno hb hl hrb ho ht hin hfw hid hl32 hsn hg her0 hy her hhv hkP hbb hil hil1
   by_cases he : er = 0
   ·
    subst he
    go_wp2_with (first
     | ((with_reducible refine step_load (t := 26) (x := .tmp 37) (p := ?lpl1) (v := ?lvl1) ?lgl1 ?lol1 ?lxl1 ?lrl1 ?lhl1); (case lgl1 => rfl); (case lol1 => rfl); (case lxl1 => rfl); (case lrl1 => exact hld))
     | (go_at_call 29; (with_reducible refine HID.out.mono ?_); rintro e w4 ⟨rfl, hb4⟩; have HH := Lib.hid (run_holdI w4 y HL32.out); have hb5 := heldI_below w4 y; have hl5 := box_load (heldI_blk w4 y) HL32.out 0; obtain ⟨w5, hw5⟩ : ∃ u, u = heldI w4 y := ⟨_, rfl⟩; rw [← hw5] at HH hb5 hl5; have hb45 : Below wr.heap.size wr w5 := hb4.trans (hb5.mono hb4.size); have ho5 := HO.out.below hb45; have hr5 := HRB.out.below hb45 HRB.out.lt; have HRST := Lib.hid (run_store_hd hr5 (hdc_size _ _ zcom) zhd nv zcom nv_one); have HR5 := Lib.hid hr5; obtain ⟨v6, w6, hrun6, ho6, ht6⟩ := run_append_one ho5 HL32.out (by rw [← HILL.out]; have := HIL.out; omega) (fun b hb => (show S ≤ b by have := HT.out.size; have := HS.out; have := hb45.size; omega)) 22; have HO5 := Lib.hid ho5; have HO6 := Lib.hid ho6; have HT6 := Lib.hid ht6; have HB45 := Lib.hid hb45; clear hb4 hb5 hw5 hb45 ho5 hr5 ho6 ht6 HID)
     | ((with_reducible refine step_store_run (t := 24) (x := .tmp 17) (y := .tmp 40) (p := ?spl2) (v := ?svl2) (w' := ?swl2) ?sgl2 ?sol2 ?sxl2 ?syl2 ?srl2 ?shl2); (case sgl2 => rfl); (case sol2 => rfl); (case sxl2 => rfl); (case syl2 => rfl); (case srl2 => exact HH.out))
     | ((with_reducible refine step_load (t := 24) (x := .tmp 17) (p := ?lpl3) (v := ?lvl3) ?lgl3 ?lol3 ?lxl3 ?lrl3 ?lhl3); (case lgl3 => rfl); (case lol3 => rfl); (case lxl3 => rfl); (case lrl3 => exact hl5))
     | ((with_reducible refine step_build1 (x := .tmp 47) (y := ?byl4) ?bgl4 ?bol4 ?bxl4 ?bll4 ?bhl4); (case bgl4 => rfl); (case bol4 => rfl); (case bxl4 => rfl); (case bll4 => exact HL32.out))
     | ((with_reducible refine step_append (s := .tmp 46) (x := .tmp 48) (t := 22) (vs := ?asl5) (vx := ?axl5) (v' := ?avl5) (w' := ?awl5) ?agl5 ?aol5 ?apl5 ?aql5 ?arl5 ?ahl5); (case agl5 => rfl); (case aol5 => rfl); (case apl5 => rfl); (case aql5 => rfl); (case arl5 => exact hrun6)))
    go_roundw
    case rel => exact ⟨k + 1, hlt, by push_cast; rfl, by rw [HSN.out]; exact HO6.out, (HT.out.trans (Turn.fresh HB45.out fun b hb => (show S ≤ b by have := HT.out.size; have := HS.out; omega))).trans (HT6.out.mono fun b hb => (show S ≤ b by
     rcases hb with hb | hb
     ·
      exact HO5.out.2.2 b hb
     ·
      have := HT.out.size; have := HS.out; have := HB45.out.size; omega)), fun j hj => by
     rcases Nat.lt_or_ge j k with c | c
     ·
      exact HNO.out j c
     ·
      obtain rfl : j = k := by omega
      exact hek.out⟩
    case measure => simp [intOf]; omega
   ·
    have hne : (er != 0) = true := bne_iff_ne.2 he
    have HE : Hid (nextR (hs P) t a q z c = (zhd, er)) := Lib.hid (by rw [HNX.out, HE0.out he, if_pos he])
    clear he
    go_wp2_with (first
     | ((with_reducible refine step_load (t := 26) (x := .tmp 37) (p := ?lpm1) (v := ?lvm1) ?lgm1 ?lom1 ?lxm1 ?lrm1 ?lhm1); (case lgm1 => rfl); (case lom1 => rfl); (case lxm1 => rfl); (case lrm1 => exact hld))
     | (go_at_call 29; (with_reducible refine HID.out.mono ?_); rintro e w4 ⟨rfl, hb4⟩; have HH := Lib.hid (run_holdI w4 y HL32.out); have hb5 := heldI_below w4 y; have hl5 := box_load (heldI_blk w4 y) HL32.out 0; obtain ⟨w5, hw5⟩ : ∃ u, u = heldI w4 y := ⟨_, rfl⟩; rw [← hw5] at HH hb5 hl5; have hb45 : Below wr.heap.size wr w5 := hb4.trans (hb5.mono hb4.size); have ho5 := HO.out.below hb45; have hr5 := HRB.out.below hb45 HRB.out.lt; have HRST := Lib.hid (run_store_hd hr5 (hdc_size _ _ zcom) zhd nv zcom nv_one); have HR5 := Lib.hid hr5; obtain ⟨v6, w6, hrun6, ho6, ht6⟩ := run_append_one ho5 HL32.out (by rw [← HILL.out]; have := HIL.out; omega) (fun b hb => (show S ≤ b by have := HT.out.size; have := HS.out; have := hb45.size; omega)) 22; have HO5 := Lib.hid ho5; have HO6 := Lib.hid ho6; have HT6 := Lib.hid ht6; have HB45 := Lib.hid hb45; clear hb4 hb5 hw5 hb45 ho5 hr5 ho6 ht6 HID)
     | ((with_reducible refine step_store_run (t := 24) (x := .tmp 17) (y := .tmp 40) (p := ?spm2) (v := ?svm2) (w' := ?swm2) ?sgm2 ?som2 ?sxm2 ?sym2 ?srm2 ?shm2); (case sgm2 => rfl); (case som2 => rfl); (case sxm2 => rfl); (case sym2 => rfl); (case srm2 => exact HH.out))
     | ((with_reducible refine step_build (t := 26) (parts := #[]) (ps := #[]) (v := ?bvm3) ?bgm3 ?bom3 ?bxm3 ?brm3 ?bhm3); (case bgm3 => rfl); (case bom3 => rfl); (case bxm3 => simp); (case brm3 => exact run_build_z _))
     | ((with_reducible refine step_store_run (t := 26) (x := .tmp 12) (y := .tmp 44) (p := ?spm4) (v := ?svm4) (w' := ?swm4) ?sgm4 ?som4 ?sxm4 ?sym4 ?srm4 ?shm4); (case sgm4 => rfl); (case som4 => rfl); (case sxm4 => rfl); (case sym4 => rfl); (case srm4 => exact HRST.out)))
    refine bodyPost_ret (results_hd rfl _ _ (X + 1) _ zhd nv rfl (setRow_heap _ _ _ _ _ _ HR5.out) zcom) rfl ⟨nv, by rw [HE.out]; rfl, ?_, ?_⟩
    ·
     rw [HE.out]; exact (OwnI.nil _ (fun _ => True)).rdv (by decide) |>.1
    ·
     exact below_row' ((HBL.out.trans (HT.out.below fun b hb => (show w.heap.size ≤ b by have := HS.out; have := HBL.out.size; omega))).trans (HB45.out.mono (by have := HT.out.size; have := HS.out; have := HBL.out.size; omega))) (by rw [HXX.out]; exact Nat.le_succ _) _
  ·
   obtain rfl : k = n := by omega
   have her := errR_none (hs P) (fun j hj => hno j (by rw [hs_len, ← HNN.out] at hj; exact hj))
   have hip : idsP (P.take k) = idsP P := by rw [List.take_of_length_le (by rw [← HNN.out]; exact Nat.le_refl _)]
   rw [hip] at ho hil
   have hi0 : NxI w w3 S P (.slice la k lc) (.slice ia il ic) (.slice none 0 0) (.slice none 0 0) P [] [] wr := ⟨hl, (ho.rdv (by rw [idsP_len]; omega)).1, nv_rd _, OwnH.nil _ _, fun p hp => hp, fun p hp => (by cases hp), Off.empty _ _, Off.empty _ _, Off.empty _ _, ht, HLOW.out, by have := HBL.out.size; have := HS.out; omega, by have := HS.out; omega⟩
   have HNX : Hid (nextR (hs P) t a q z c = if checkH (madeR (hs P) t a q z c) ≠ 0 then (zhd, checkH (madeR (hs P) t a q z c)) else (madeR (hs P) t a q z c, 0)) := Lib.hid (by rw [HNX.out, her, if_neg (by simp)])
   have HI0 := Lib.hid hi0
   have hB3 := HB3.out.turn ht (by have := HX3.out; have := HS.out; omega)
   have HXW : Hid (X + 2 ≤ S) := Lib.hid (by have := HX3.out; have := HS.out; omega)
   clear hlt ho ht hno hb hl hrb HO HT HL HNO HRB her hip hil hil1 HIL HILL hi0 HX3 hB3
   go_wp2_with fail
   go_loopw [14, 15, 19, 20] (fun lv iv tv pv wq => ∃ (Pl T : HP) (pz : List Id) (m : Nat), NxI w w3 S P lv iv pv tv Pl T pz wq ∧ T.length + m = 4 ∧ Pl.length ≤ k ∧ takeR 4 [] [] (pairs (hs P)) = takeR m (hs T) pz (pairs (hs Pl)) ∧ pz.length ≤ T.length ∧ (pz = [] → pv = .slice none 0 0) ∧ (∀ b off n c, pv = .slice (some ⟨b, off, none⟩) n c → S ≤ b)) (fun _ _ tv _ _ => 4 - slLen tv)
   case atStart => exact ⟨P, [], [], 4, HI0.out, rfl, by rw [← HNN.out]; exact Nat.le_refl _, rfl, Nat.le_refl _, fun _ => rfl, fun b off n c e => (by cases e)⟩
   case round =>
    clear HI0
    obtain ⟨Pl, T, pz, m, hI, hTm, hPl, htk, hpz, hpn, hps⟩ := hrel
    obtain ⟨la2, lc2, e1⟩ := hI.left.form
    obtain ⟨ia2, ic2, e2⟩ := hI.ids.form
    obtain ⟨ta2, tc2, e3⟩ := hI.tak.form
    obtain ⟨pa2, pc2, e4⟩ := hI.par.form
    rw [idsP_len] at e2
    obtain ⟨nl, hnl⟩ : ∃ n, n = Pl.length := ⟨_, rfl⟩
    obtain ⟨nt, hnt⟩ : ∃ n, n = T.length := ⟨_, rfl⟩
    obtain ⟨np, hnp⟩ : ∃ n, n = pz.length := ⟨_, rfl⟩
    rw [← hnl] at e1 e2
    rw [← hnt] at e3
    rw [← hnp] at e4
    subst e1
    subst e2
    subst e3
    subst e4
    have HI := Lib.hid hI
    have HTM := Lib.hid hTm
    have HPL := Lib.hid hPl
    have HTK := Lib.hid htk
    have HPZ := Lib.hid hpz
    have HPN := Lib.hid hpn
    have HPS := Lib.hid hps
    have HNL := Lib.hid hnl
    have HNT := Lib.hid hnt
    have HNP := Lib.hid hnp
    have nl1 : (nl : Int) ≤ 1000 := by omega
    have HX3S : Hid (S ≤ w3.heap.size) := Lib.hid hI.le.2
    have nl0 : (0 : Int) ≤ (nl : Int) := Int.natCast_nonneg _
    by_cases hT4 : nt < 4
    case neg =>
     have hT5 : 4 ≤ (nt : Int) := by omega
     obtain rfl : m = 0 := by omega
     have HT2 : Hid (takeR 4 [] [] (pairs (hs P)) = (hs T, pz)) := Lib.hid (by rw [htk]; rfl)
     obtain ⟨M, hM⟩ : ∃ M, M = (⟨pz, heightR (hs T), t, a, q, z, c⟩ : Hd) := ⟨_, rfl⟩
     obtain ⟨ec, hec⟩ : ∃ e, e = checkH M := ⟨_, rfl⟩
     have HMM : Hid (nextR (hs P) t a q z c = if ec ≠ 0 then (zhd, ec) else (M, 0)) := Lib.hid (by rw [HNX.out]; unfold madeR; rw [HT2.out, ← hM, ← hec])
     have hcM : M.commit.length = 32 := by rw [hM]; exact HCL.out
     have hS3 := HX3S.out
     have hbx := (HB3.out.turn hI.turn (by have := HXW.out; show ¬ S ≤ X; omega))
     have hrx := (HR3.out.turn hI.turn (by have := HXW.out; show ¬ S ≤ X + 1; omega))
     have hts : HsV wr (.slice ta2 nt tc2) T := hI.tak.hsv (by rw [← HNT.out]; omega)
     have hTl : T.length ≤ 1000000 := by rw [← HNT.out]; omega
     obtain ⟨hh, hhe⟩ : ∃ x, x = heightR (hs T) := ⟨_, rfl⟩
     have HHT : Hid (∀ u, HsV u (.slice ta2 nt tc2) T → Calls Tryz.prog 14 #[.slice ta2 nt tc2] u fun e w' => e = .returned (.int .i64 hh) ∧ u = w') := Lib.hid fun u h => by rw [hhe]; exact height_ref _ T u h hTl
     have HBD : Hid (∀ u, (Instr.build 26 #[(0, (Value.slice pa2 np pc2)), (1, .int .i64 hh), (2, .string (oct.tx t)), (3, .int .i64 a), (4, .int .i64 q), (5, .int .i64 z), (6, .agg (bv c).toArray)]).run Tryz.prog u = .ok (hdv M (Value.slice pa2 np pc2)) u) := Lib.hid fun u => by rw [hM, hhe]; exact run_build_next u (⟨pz, heightR (hs T), t, a, q, z, c⟩ : Hd) pa2 np pc2 HCL.out
     have HRH : Hid (∀ u, _) := Lib.hid fun u => run_hold u M (Value.slice pa2 np pc2) hcM rfl
     obtain ⟨u0, hu0⟩ : ∃ u, u = wr.drew := ⟨_, rfl⟩
     have hbd : Below wr.heap.size wr u0 := hu0 ▸ (Below.refl _ wr).drew
     have hbx0 := hbx.below hbd hbx.lt
     have hts0 := hts.next hbd
     have hbel := held_below u0 M (Value.slice pa2 np pc2)
     have hb2 := held_blk u0 M (Value.slice pa2 np pc2)
     have hpar2 := (hI.par.next hbd).next hbel
     obtain ⟨u2, hu2⟩ : ∃ u, u = heldW u0 M (Value.slice pa2 np pc2) := ⟨_, rfl⟩
     rw [← hu2] at hbel hb2 hpar2
     have hb02 := hbd.trans (hbel.mono hbd.size)
     have hrx2 := hrx.below hb02 hrx.lt
     have hl2 := run_load_hd hb2 hcM
     have hck := check_any M (Value.slice pa2 np pc2) u2 hcM (by rw [hM]; exact hpar2) (by rw [hM]; show pz.length ≤ 1000; have := HPZ.out; rw [← HNT.out] at this; omega) (by rw [hM]; exact htl)
     rw [← hec] at hck
     have HCK := Lib.hid hck
     have HB2 := Lib.hid hb2
     have HRX2 := Lib.hid hrx2
     have HPAR2 := Lib.hid hpar2
     have HBW : Hid (Below w.heap.size w u2) := Lib.hid ((HBL.out.trans (hI.turn.below fun b hb => (show w.heap.size ≤ b by have := hI.le; omega))).trans (hb02.mono (by have := hI.turn.size; have := hI.le; omega)))
     have HCM := Lib.hid hcM
     have HBX0 := Lib.hid hbx0
     have HTS0 := Lib.hid hts0
     have HU2 := Lib.hid hu2
     have HMP : Hid (M.parents = pz) := Lib.hid (by rw [hM])
     clear hI hTm hPl htk hpz hpn hps hnl hnt hnp hM hec hcM hbx hrx hts hTl hhe hbd hbx0 hts0 hbel hb2 hpar2 hu2 hb02 hrx2 hck 
     go_upto_region 23 with fail
     refine wp_region_held_drew (S := fun u => Blk u X 24 (bv c).toArray ∧ HsV u (.slice ta2 nt tc2) T) (by kernel_rfl) ?_ (fun hHeld => ?_)
     ·
      rw [← hu0]; exact ⟨HBX0.out, HTS0.out⟩
     rw [← hu0] at hHeld ⊢
     clear hu0
     refine' wpAnyH_take (i := 0) ?hizaa0 (by kernel_rfl) (by kernel_rfl) (by kernel_rfl) ?hqzaa0 (Or.inl ⟨?hwzaa0, ?hyzaa0⟩) (by assumption) ?hrzaa0
     case hizaa0 => (simp only [List.getElem?_toArray, List.getElem?_cons_zero]; rfl)
     case hqzaa0 => exact fun _ _ _ h => h
     case hwzaa0 => rfl
     case hyzaa0 => (intro w0 hSw; (try dsimp only at hSw); go_simp; try with_reducible rfl)
     (try simp only [Act.put, List.setIfInBounds_toArray, List.set_cons_zero, List.set_cons_succ])
     refine' wpAnyH_take (i := 1) ?hizaa1 (by kernel_rfl) (by kernel_rfl) (by kernel_rfl) ?hqzaa1 (Or.inl ⟨?hwzaa1, ?hyzaa1⟩) (by assumption) ?hrzaa1
     case hizaa1 => (simp only [List.getElem?_toArray, List.getElem?_cons_succ, List.getElem?_cons_zero]; rfl)
     case hqzaa1 => exact fun _ _ _ h => h
     case hwzaa1 => rfl
     case hyzaa1 => (intro w0 hSw; (try dsimp only at hSw); go_simp; try with_reducible rfl)
     (try simp only [Act.put, List.setIfInBounds_toArray, List.set_cons_zero, List.set_cons_succ])
     refine' wpAnyH_take (i := 3) ?hizaa3 (by kernel_rfl) (by kernel_rfl) (by kernel_rfl) ?hqzaa3 (Or.inl ⟨?hwzaa3, ?hyzaa3⟩) (by assumption) ?hrzaa3
     case hizaa3 => (simp only [List.getElem?_toArray, List.getElem?_cons_succ, List.getElem?_cons_zero]; rfl)
     case hqzaa3 => exact fun _ _ _ h => h
     case hwzaa3 => rfl
     case hyzaa3 => (intro w0 hSw; (try dsimp only at hSw); go_simp; try with_reducible rfl)
     (try simp only [Act.put, List.setIfInBounds_toArray, List.set_cons_zero, List.set_cons_succ])
     refine' wpAnyH_take (i := 4) ?hizaa4 (by kernel_rfl) (by kernel_rfl) (by kernel_rfl) ?hqzaa4 (Or.inl ⟨?hwzaa4, ?hyzaa4⟩) (by assumption) ?hrzaa4
     case hizaa4 => (simp only [List.getElem?_toArray, List.getElem?_cons_succ, List.getElem?_cons_zero]; rfl)
     case hqzaa4 => exact fun _ _ _ h => h
     case hwzaa4 => rfl
     case hyzaa4 => (intro w0 hSw; (try dsimp only at hSw); go_simp; try with_reducible rfl)
     (try simp only [Act.put, List.setIfInBounds_toArray, List.set_cons_zero, List.set_cons_succ])
     refine' wpAnyH_take (i := 5) ?hizaa5 (by kernel_rfl) (by kernel_rfl) (by kernel_rfl) ?hqzaa5 (Or.inl ⟨?hwzaa5, ?hyzaa5⟩) (by assumption) ?hrzaa5
     case hizaa5 => (simp only [List.getElem?_toArray, List.getElem?_cons_succ, List.getElem?_cons_zero]; rfl)
     case hqzaa5 => exact fun _ _ _ h => h
     case hwzaa5 => rfl
     case hyzaa5 => (intro w0 hSw; (try dsimp only at hSw); go_simp; try with_reducible rfl)
     (try simp only [Act.put, List.setIfInBounds_toArray, List.set_cons_zero, List.set_cons_succ])
     refine' wpAnyH_take (i := 6) ?hizaa6 (by kernel_rfl) (by kernel_rfl) (by kernel_rfl) ?hqzaa6 (Or.inl ⟨?hwzaa6, ?hyzaa6⟩) (by assumption) ?hrzaa6
     case hizaa6 => (simp only [List.getElem?_toArray, List.getElem?_cons_succ, List.getElem?_cons_zero]; rfl)
     case hqzaa6 => exact fun _ _ _ h => h
     case hwzaa6 => rfl
     case hyzaa6 => (intro w0 hSw; (try dsimp only at hSw); go_simp; try with_reducible rfl)
     (try simp only [Act.put, List.setIfInBounds_toArray, List.set_cons_zero, List.set_cons_succ])
     refine' wpAnyH_take (i := 7) ?hizaa7 (by kernel_rfl) (by kernel_rfl) (by kernel_rfl) ?hqzaa7 (Or.inl ⟨?hwzaa7, ?hyzaa7⟩) (by assumption) ?hrzaa7
     case hizaa7 => (simp only [List.getElem?_toArray, List.getElem?_cons_succ, List.getElem?_cons_zero]; rfl)
     case hqzaa7 => exact fun _ _ _ h => h
     case hwzaa7 => rfl
     case hyzaa7 => exact fun w0 hSw => run_exec_load rfl rfl (box_load hSw.1 HCL.out 0)
     (try simp only [Act.put, List.setIfInBounds_toArray, List.set_cons_zero, List.set_cons_succ])
     refine wpAnyH_ready (rs := [2, 9]) (by kernel_rfl) (by simp) ?_
     refine' AllReadyH.cons ?haza (fun K hK => ?hcza) (AllReadyH.cons ?hbza (fun K hK => ?hdza) AllReadyH.nil)
     case haza => (simp only [List.getElem?_toArray, List.getElem?_cons_succ, List.getElem?_cons_zero]; rfl)
     case hbza => (simp only [List.getElem?_toArray, List.getElem?_cons_succ, List.getElem?_cons_zero]; rfl)
     case hcza =>
      go_simp
      (refine (HHT.out _ hHeld.2).mono ?_; rintro e w5 ⟨rfl, rfl⟩)
      refine hK.out _ _ ?_ (fun hHeld => ?_)
      ·
       exact hHeld
      clear hK K
      (try simp only [Act.put, List.setIfInBounds_toArray, List.set_cons_zero, List.set_cons_succ])
      refine' wpAnyH_take (i := 8) ?hizab8 (by kernel_rfl) (by kernel_rfl) (by kernel_rfl) ?hqzab8 (Or.inl ⟨?hwzab8, ?hyzab8⟩) (by assumption) ?hrzab8
      case hizab8 => (simp only [List.getElem?_toArray, List.getElem?_cons_succ, List.getElem?_cons_zero]; rfl)
      case hqzab8 => exact fun _ _ _ h => h
      case hwzab8 => rfl
      case hyzab8 => exact fun w0 hSw => exec_build (ps := #[(0, (Value.slice pa2 np pc2)), (1, .int .i64 hh), (2, .string (oct.tx t)), (3, .int .i64 a), (4, .int .i64 q), (5, .int .i64 z), (6, .agg (bv c).toArray)]) rfl (by simp only [List.map_toArray, List.map_cons, List.map_nil]; rfl) (HBD.out w0)
      (try simp only [Act.put, List.setIfInBounds_toArray, List.set_cons_zero, List.set_cons_succ])
      refine wpAnyH_ready (rs := [9]) (by kernel_rfl) (by simp) ?_
      refine' AllReadyH.cons ?hizab9 (fun K hK => ?hrzab9) AllReadyH.nil
      case hizab9 => (simp only [List.getElem?_toArray, List.getElem?_cons_succ, List.getElem?_cons_zero]; rfl)
      refine want_allocz rfl rfl ?_
      refine hK.out _ _ ?_ (fun hHeld => ?_)
      ·
       exact ⟨hHeld.1.alloc _, hHeld.2.next ((Below.refl _ _).alloc (Nat.le_refl _) _)⟩
      clear hK K
      (try simp only [Act.put, List.setIfInBounds_toArray, List.set_cons_zero, List.set_cons_succ])
      refine wpAnyH_ready (rs := [10]) (by kernel_rfl) (by simp) ?_
      refine' AllReadyH.cons ?hizab10 (fun K hK => ?hrzab10) AllReadyH.nil
      case hizab10 => (simp only [List.getElem?_toArray, List.getElem?_cons_succ, List.getElem?_cons_zero]; rfl)
      refine want_store_run rfl rfl rfl rfl (HRH.out _) ?_
      refine hK.out _ _ ?_ (fun hHeld => ?_)
      ·
       exact ⟨HBX0.out.below (held_below _ _ _) HBX0.out.lt, HTS0.out.next (held_below _ _ _)⟩
      clear hK K
      (try simp only [Act.put])
      refine wpAnyH_done (by kernel_rfl) ?_ _
      rw [← HU2.out]
      clear HU2 HRH HBD HHT hHeld
      by_cases he : ec = 0
      ·
       subst he
       have HE : Hid (nextR (hs P) t a q z c = (M, 0)) := Lib.hid (by rw [HMM.out, if_neg (by simp)])
       go_wp2_with (first
        | ((with_reducible refine step_load (t := 26) (x := .tmp 23) (p := ?lpzax1) (v := ?lvzax1) ?lgzax1 ?lozax1 ?lxzax1 ?lrzax1 ?lhzax1); (case lgzax1 => rfl); (case lozax1 => rfl); (case lxzax1 => rfl); (case lrzax1 => exact hl2))
        | (go_at_call 23; (with_reducible refine HCK.out.mono ?_); rintro e w8 ⟨rfl, hb8⟩; have HB8 := Lib.hid hb8; have hr8 := HRX2.out.below hb8 HRX2.out.lt; have hl8 := run_load_hd (HB2.out.below hb8 HB2.out.lt) HCM.out; have hsz := run_store_hd hr8 (hdc_size _ _ zcom) zhd nv zcom nv_one; have hsm := run_store_hd hr8 (hdc_size _ _ zcom) M (Value.slice pa2 np pc2) HCM.out rfl; have HR8 := Lib.hid hr8; have HSZ := Lib.hid hsz; have HSM := Lib.hid hsm; clear hb8 hr8 hsz hsm HCK)
        | ((with_reducible refine step_load (t := 26) (x := .tmp 23) (p := ?lpzax2) (v := ?lvzax2) ?lgzax2 ?lozax2 ?lxzax2 ?lrzax2 ?lhzax2); (case lgzax2 => rfl); (case lozax2 => rfl); (case lxzax2 => rfl); (case lrzax2 => exact hl8))
        | ((with_reducible refine step_store_run (t := 26) (x := .tmp 12) (y := .tmp 132) (p := ?spzax3) (v := ?svzax3) (w' := ?swzax3) ?sgzax3 ?sozax3 ?sxzax3 ?syzax3 ?srzax3 ?shzax3); (case sgzax3 => rfl); (case sozax3 => rfl); (case sxzax3 => rfl); (case syzax3 => rfl); (case srzax3 => exact HSM.out)))
       refine bodyPost_ret (results_hd rfl _ _ (X + 1) _ M (Value.slice pa2 np pc2) rfl (setRow_heap _ _ _ _ _ _ HR8.out) HCM.out) rfl ⟨(Value.slice pa2 np pc2), by rw [HE.out]; rfl, ?_, ?_⟩
       ·
        rw [HE.out, HMP.out]
        exact rdv_turn (HPAR2.out.next HB8.out) (turn_row _ _ _) (fun hne b off n c e hlt hb => by have := HPS.out b off n c e; have := HXW.out; omega)
       ·
        exact below_row' (HBW.out.trans (HB8.out.mono HBW.out.size)) (by rw [HXX.out]; exact Nat.le_succ _) _
      ·
       have hne : (ec != 0) = true := bne_iff_ne.2 he
       have HE : Hid (nextR (hs P) t a q z c = (zhd, ec)) := Lib.hid (by rw [HMM.out, if_pos he])
       clear he
       go_wp2_with (first
        | ((with_reducible refine step_load (t := 26) (x := .tmp 23) (p := ?lpzax4) (v := ?lvzax4) ?lgzax4 ?lozax4 ?lxzax4 ?lrzax4 ?lhzax4); (case lgzax4 => rfl); (case lozax4 => rfl); (case lxzax4 => rfl); (case lrzax4 => exact hl2))
        | (go_at_call 23; (with_reducible refine HCK.out.mono ?_); rintro e w8 ⟨rfl, hb8⟩; have HB8 := Lib.hid hb8; have hr8 := HRX2.out.below hb8 HRX2.out.lt; have hl8 := run_load_hd (HB2.out.below hb8 HB2.out.lt) HCM.out; have hsz := run_store_hd hr8 (hdc_size _ _ zcom) zhd nv zcom nv_one; have hsm := run_store_hd hr8 (hdc_size _ _ zcom) M (Value.slice pa2 np pc2) HCM.out rfl; have HR8 := Lib.hid hr8; have HSZ := Lib.hid hsz; have HSM := Lib.hid hsm; clear hb8 hr8 hsz hsm HCK)
        | ((with_reducible refine step_build (t := 26) (parts := #[]) (ps := #[]) (v := ?bvzax5) ?bgzax5 ?bozax5 ?bxzax5 ?brzax5 ?bhzax5); (case bgzax5 => rfl); (case bozax5 => rfl); (case bxzax5 => simp); (case brzax5 => exact run_build_z _))
        | ((with_reducible refine step_store_run (t := 26) (x := .tmp 12) (y := .tmp 130) (p := ?spzax6) (v := ?svzax6) (w' := ?swzax6) ?sgzax6 ?sozax6 ?sxzax6 ?syzax6 ?srzax6 ?shzax6); (case sgzax6 => rfl); (case sozax6 => rfl); (case sxzax6 => rfl); (case syzax6 => rfl); (case srzax6 => exact HSZ.out)))
       refine bodyPost_ret (results_hd rfl _ _ (X + 1) _ zhd nv rfl (setRow_heap _ _ _ _ _ _ HR8.out) zcom) rfl ⟨nv, by rw [HE.out]; rfl, ?_, ?_⟩
       ·
        rw [HE.out]; exact (OwnI.nil _ (fun _ => True)).rdv (by decide) |>.1
       ·
        exact below_row' (HBW.out.trans (HB8.out.mono HBW.out.size)) (by rw [HXX.out]; exact Nat.le_succ _) _
     case hdza =>
      refine want_allocz rfl rfl ?_
      refine hK.out _ _ ?_ (fun hHeld => ?_)
      ·
       exact ⟨hHeld.1.alloc _, hHeld.2.next ((Below.refl _ _).alloc (Nat.le_refl _) _)⟩
      clear hK K
      (try simp only [Act.put, List.setIfInBounds_toArray, List.set_cons_zero, List.set_cons_succ])
      refine wpAnyH_ready (rs := [2]) (by kernel_rfl) (by simp) ?_
      refine' AllReadyH.cons ?hizac2 (fun K hK => ?hrzac2) AllReadyH.nil
      case hizac2 => (simp only [List.getElem?_toArray, List.getElem?_cons_succ, List.getElem?_cons_zero]; rfl)
      go_simp
      (refine (HHT.out _ hHeld.2).mono ?_; rintro e w5 ⟨rfl, rfl⟩)
      refine hK.out _ _ ?_ (fun hHeld => ?_)
      ·
       exact hHeld
      clear hK K
      (try simp only [Act.put, List.setIfInBounds_toArray, List.set_cons_zero, List.set_cons_succ])
      refine' wpAnyH_take (i := 8) ?hizac8 (by kernel_rfl) (by kernel_rfl) (by kernel_rfl) ?hqzac8 (Or.inl ⟨?hwzac8, ?hyzac8⟩) (by assumption) ?hrzac8
      case hizac8 => (simp only [List.getElem?_toArray, List.getElem?_cons_succ, List.getElem?_cons_zero]; rfl)
      case hqzac8 => exact fun _ _ _ h => h
      case hwzac8 => rfl
      case hyzac8 => exact fun w0 hSw => exec_build (ps := #[(0, (Value.slice pa2 np pc2)), (1, .int .i64 hh), (2, .string (oct.tx t)), (3, .int .i64 a), (4, .int .i64 q), (5, .int .i64 z), (6, .agg (bv c).toArray)]) rfl (by simp only [List.map_toArray, List.map_cons, List.map_nil]; rfl) (HBD.out w0)
      (try simp only [Act.put, List.setIfInBounds_toArray, List.set_cons_zero, List.set_cons_succ])
      refine wpAnyH_ready (rs := [10]) (by kernel_rfl) (by simp) ?_
      refine' AllReadyH.cons ?hizac10 (fun K hK => ?hrzac10) AllReadyH.nil
      case hizac10 => (simp only [List.getElem?_toArray, List.getElem?_cons_succ, List.getElem?_cons_zero]; rfl)
      refine want_store_run rfl rfl rfl rfl (HRH.out _) ?_
      refine hK.out _ _ ?_ (fun hHeld => ?_)
      ·
       exact ⟨HBX0.out.below (held_below _ _ _) HBX0.out.lt, HTS0.out.next (held_below _ _ _)⟩
      clear hK K
      (try simp only [Act.put])
      refine wpAnyH_done (by kernel_rfl) ?_ _
      rw [← HU2.out]
      clear HU2 HRH HBD HHT hHeld
      by_cases he : ec = 0
      ·
       subst he
       have HE : Hid (nextR (hs P) t a q z c = (M, 0)) := Lib.hid (by rw [HMM.out, if_neg (by simp)])
       go_wp2_with (first
        | ((with_reducible refine step_load (t := 26) (x := .tmp 23) (p := ?lpzay1) (v := ?lvzay1) ?lgzay1 ?lozay1 ?lxzay1 ?lrzay1 ?lhzay1); (case lgzay1 => rfl); (case lozay1 => rfl); (case lxzay1 => rfl); (case lrzay1 => exact hl2))
        | (go_at_call 23; (with_reducible refine HCK.out.mono ?_); rintro e w8 ⟨rfl, hb8⟩; have HB8 := Lib.hid hb8; have hr8 := HRX2.out.below hb8 HRX2.out.lt; have hl8 := run_load_hd (HB2.out.below hb8 HB2.out.lt) HCM.out; have hsz := run_store_hd hr8 (hdc_size _ _ zcom) zhd nv zcom nv_one; have hsm := run_store_hd hr8 (hdc_size _ _ zcom) M (Value.slice pa2 np pc2) HCM.out rfl; have HR8 := Lib.hid hr8; have HSZ := Lib.hid hsz; have HSM := Lib.hid hsm; clear hb8 hr8 hsz hsm HCK)
        | ((with_reducible refine step_load (t := 26) (x := .tmp 23) (p := ?lpzay2) (v := ?lvzay2) ?lgzay2 ?lozay2 ?lxzay2 ?lrzay2 ?lhzay2); (case lgzay2 => rfl); (case lozay2 => rfl); (case lxzay2 => rfl); (case lrzay2 => exact hl8))
        | ((with_reducible refine step_store_run (t := 26) (x := .tmp 12) (y := .tmp 132) (p := ?spzay3) (v := ?svzay3) (w' := ?swzay3) ?sgzay3 ?sozay3 ?sxzay3 ?syzay3 ?srzay3 ?shzay3); (case sgzay3 => rfl); (case sozay3 => rfl); (case sxzay3 => rfl); (case syzay3 => rfl); (case srzay3 => exact HSM.out)))
       refine bodyPost_ret (results_hd rfl _ _ (X + 1) _ M (Value.slice pa2 np pc2) rfl (setRow_heap _ _ _ _ _ _ HR8.out) HCM.out) rfl ⟨(Value.slice pa2 np pc2), by rw [HE.out]; rfl, ?_, ?_⟩
       ·
        rw [HE.out, HMP.out]
        exact rdv_turn (HPAR2.out.next HB8.out) (turn_row _ _ _) (fun hne b off n c e hlt hb => by have := HPS.out b off n c e; have := HXW.out; omega)
       ·
        exact below_row' (HBW.out.trans (HB8.out.mono HBW.out.size)) (by rw [HXX.out]; exact Nat.le_succ _) _
      ·
       have hne : (ec != 0) = true := bne_iff_ne.2 he
       have HE : Hid (nextR (hs P) t a q z c = (zhd, ec)) := Lib.hid (by rw [HMM.out, if_pos he])
       clear he
       go_wp2_with (first
        | ((with_reducible refine step_load (t := 26) (x := .tmp 23) (p := ?lpzay4) (v := ?lvzay4) ?lgzay4 ?lozay4 ?lxzay4 ?lrzay4 ?lhzay4); (case lgzay4 => rfl); (case lozay4 => rfl); (case lxzay4 => rfl); (case lrzay4 => exact hl2))
        | (go_at_call 23; (with_reducible refine HCK.out.mono ?_); rintro e w8 ⟨rfl, hb8⟩; have HB8 := Lib.hid hb8; have hr8 := HRX2.out.below hb8 HRX2.out.lt; have hl8 := run_load_hd (HB2.out.below hb8 HB2.out.lt) HCM.out; have hsz := run_store_hd hr8 (hdc_size _ _ zcom) zhd nv zcom nv_one; have hsm := run_store_hd hr8 (hdc_size _ _ zcom) M (Value.slice pa2 np pc2) HCM.out rfl; have HR8 := Lib.hid hr8; have HSZ := Lib.hid hsz; have HSM := Lib.hid hsm; clear hb8 hr8 hsz hsm HCK)
        | ((with_reducible refine step_build (t := 26) (parts := #[]) (ps := #[]) (v := ?bvzay5) ?bgzay5 ?bozay5 ?bxzay5 ?brzay5 ?bhzay5); (case bgzay5 => rfl); (case bozay5 => rfl); (case bxzay5 => simp); (case brzay5 => exact run_build_z _))
        | ((with_reducible refine step_store_run (t := 26) (x := .tmp 12) (y := .tmp 130) (p := ?spzay6) (v := ?svzay6) (w' := ?swzay6) ?sgzay6 ?sozay6 ?sxzay6 ?syzay6 ?srzay6 ?shzay6); (case sgzay6 => rfl); (case sozay6 => rfl); (case sxzay6 => rfl); (case syzay6 => rfl); (case srzay6 => exact HSZ.out)))
       refine bodyPost_ret (results_hd rfl _ _ (X + 1) _ zhd nv rfl (setRow_heap _ _ _ _ _ _ HR8.out) zcom) rfl ⟨nv, by rw [HE.out]; rfl, ?_, ?_⟩
       ·
        rw [HE.out]; exact (OwnI.nil _ (fun _ => True)).rdv (by decide) |>.1
       ·
        exact below_row' (HBW.out.trans (HB8.out.mono HBW.out.size)) (by rw [HXX.out]; exact Nat.le_succ _) _
    have hT5 : (nt : Int) < 4 := by omega
    by_cases hP0 : 0 < nl
    case neg =>
     have hP5 : (nl : Int) = 0 := by omega
     have HT2 : Hid (takeR 4 [] [] (pairs (hs P)) = (hs T, pz)) := Lib.hid (by rw [htk, take_stop (by rw [← hnl]; omega)])
     obtain ⟨M, hM⟩ : ∃ M, M = (⟨pz, heightR (hs T), t, a, q, z, c⟩ : Hd) := ⟨_, rfl⟩
     obtain ⟨ec, hec⟩ : ∃ e, e = checkH M := ⟨_, rfl⟩
     have HMM : Hid (nextR (hs P) t a q z c = if ec ≠ 0 then (zhd, ec) else (M, 0)) := Lib.hid (by rw [HNX.out]; unfold madeR; rw [HT2.out, ← hM, ← hec])
     have hcM : M.commit.length = 32 := by rw [hM]; exact HCL.out
     have hS3 := HX3S.out
     have hbx := (HB3.out.turn hI.turn (by have := HXW.out; show ¬ S ≤ X; omega))
     have hrx := (HR3.out.turn hI.turn (by have := HXW.out; show ¬ S ≤ X + 1; omega))
     have hts : HsV wr (.slice ta2 nt tc2) T := hI.tak.hsv (by rw [← HNT.out]; omega)
     have hTl : T.length ≤ 1000000 := by rw [← HNT.out]; omega
     obtain ⟨hh, hhe⟩ : ∃ x, x = heightR (hs T) := ⟨_, rfl⟩
     have HHT : Hid (∀ u, HsV u (.slice ta2 nt tc2) T → Calls Tryz.prog 14 #[.slice ta2 nt tc2] u fun e w' => e = .returned (.int .i64 hh) ∧ u = w') := Lib.hid fun u h => by rw [hhe]; exact height_ref _ T u h hTl
     have HBD : Hid (∀ u, (Instr.build 26 #[(0, (Value.slice pa2 np pc2)), (1, .int .i64 hh), (2, .string (oct.tx t)), (3, .int .i64 a), (4, .int .i64 q), (5, .int .i64 z), (6, .agg (bv c).toArray)]).run Tryz.prog u = .ok (hdv M (Value.slice pa2 np pc2)) u) := Lib.hid fun u => by rw [hM, hhe]; exact run_build_next u (⟨pz, heightR (hs T), t, a, q, z, c⟩ : Hd) pa2 np pc2 HCL.out
     have HRH : Hid (∀ u, _) := Lib.hid fun u => run_hold u M (Value.slice pa2 np pc2) hcM rfl
     obtain ⟨u0, hu0⟩ : ∃ u, u = wr.drew := ⟨_, rfl⟩
     have hbd : Below wr.heap.size wr u0 := hu0 ▸ (Below.refl _ wr).drew
     have hbx0 := hbx.below hbd hbx.lt
     have hts0 := hts.next hbd
     have hbel := held_below u0 M (Value.slice pa2 np pc2)
     have hb2 := held_blk u0 M (Value.slice pa2 np pc2)
     have hpar2 := (hI.par.next hbd).next hbel
     obtain ⟨u2, hu2⟩ : ∃ u, u = heldW u0 M (Value.slice pa2 np pc2) := ⟨_, rfl⟩
     rw [← hu2] at hbel hb2 hpar2
     have hb02 := hbd.trans (hbel.mono hbd.size)
     have hrx2 := hrx.below hb02 hrx.lt
     have hl2 := run_load_hd hb2 hcM
     have hck := check_any M (Value.slice pa2 np pc2) u2 hcM (by rw [hM]; exact hpar2) (by rw [hM]; show pz.length ≤ 1000; have := HPZ.out; rw [← HNT.out] at this; omega) (by rw [hM]; exact htl)
     rw [← hec] at hck
     have HCK := Lib.hid hck
     have HB2 := Lib.hid hb2
     have HRX2 := Lib.hid hrx2
     have HPAR2 := Lib.hid hpar2
     have HBW : Hid (Below w.heap.size w u2) := Lib.hid ((HBL.out.trans (hI.turn.below fun b hb => (show w.heap.size ≤ b by have := hI.le; omega))).trans (hb02.mono (by have := hI.turn.size; have := hI.le; omega)))
     have HCM := Lib.hid hcM
     have HBX0 := Lib.hid hbx0
     have HTS0 := Lib.hid hts0
     have HU2 := Lib.hid hu2
     have HMP : Hid (M.parents = pz) := Lib.hid (by rw [hM])
     clear hI hTm hPl htk hpz hpn hps hnl hnt hnp hM hec hcM hbx hrx hts hTl hhe hbd hbx0 hts0 hbel hb2 hpar2 hu2 hb02 hrx2 hck 
     go_upto_region 23 with fail
     refine wp_region_held_drew (S := fun u => Blk u X 24 (bv c).toArray ∧ HsV u (.slice ta2 nt tc2) T) (by kernel_rfl) ?_ (fun hHeld => ?_)
     ·
      rw [← hu0]; exact ⟨HBX0.out, HTS0.out⟩
     rw [← hu0] at hHeld ⊢
     clear hu0
     refine' wpAnyH_take (i := 0) ?hizba0 (by kernel_rfl) (by kernel_rfl) (by kernel_rfl) ?hqzba0 (Or.inl ⟨?hwzba0, ?hyzba0⟩) (by assumption) ?hrzba0
     case hizba0 => (simp only [List.getElem?_toArray, List.getElem?_cons_zero]; rfl)
     case hqzba0 => exact fun _ _ _ h => h
     case hwzba0 => rfl
     case hyzba0 => (intro w0 hSw; (try dsimp only at hSw); go_simp; try with_reducible rfl)
     (try simp only [Act.put, List.setIfInBounds_toArray, List.set_cons_zero, List.set_cons_succ])
     refine' wpAnyH_take (i := 1) ?hizba1 (by kernel_rfl) (by kernel_rfl) (by kernel_rfl) ?hqzba1 (Or.inl ⟨?hwzba1, ?hyzba1⟩) (by assumption) ?hrzba1
     case hizba1 => (simp only [List.getElem?_toArray, List.getElem?_cons_succ, List.getElem?_cons_zero]; rfl)
     case hqzba1 => exact fun _ _ _ h => h
     case hwzba1 => rfl
     case hyzba1 => (intro w0 hSw; (try dsimp only at hSw); go_simp; try with_reducible rfl)
     (try simp only [Act.put, List.setIfInBounds_toArray, List.set_cons_zero, List.set_cons_succ])
     refine' wpAnyH_take (i := 3) ?hizba3 (by kernel_rfl) (by kernel_rfl) (by kernel_rfl) ?hqzba3 (Or.inl ⟨?hwzba3, ?hyzba3⟩) (by assumption) ?hrzba3
     case hizba3 => (simp only [List.getElem?_toArray, List.getElem?_cons_succ, List.getElem?_cons_zero]; rfl)
     case hqzba3 => exact fun _ _ _ h => h
     case hwzba3 => rfl
     case hyzba3 => (intro w0 hSw; (try dsimp only at hSw); go_simp; try with_reducible rfl)
     (try simp only [Act.put, List.setIfInBounds_toArray, List.set_cons_zero, List.set_cons_succ])
     refine' wpAnyH_take (i := 4) ?hizba4 (by kernel_rfl) (by kernel_rfl) (by kernel_rfl) ?hqzba4 (Or.inl ⟨?hwzba4, ?hyzba4⟩) (by assumption) ?hrzba4
     case hizba4 => (simp only [List.getElem?_toArray, List.getElem?_cons_succ, List.getElem?_cons_zero]; rfl)
     case hqzba4 => exact fun _ _ _ h => h
     case hwzba4 => rfl
     case hyzba4 => (intro w0 hSw; (try dsimp only at hSw); go_simp; try with_reducible rfl)
     (try simp only [Act.put, List.setIfInBounds_toArray, List.set_cons_zero, List.set_cons_succ])
     refine' wpAnyH_take (i := 5) ?hizba5 (by kernel_rfl) (by kernel_rfl) (by kernel_rfl) ?hqzba5 (Or.inl ⟨?hwzba5, ?hyzba5⟩) (by assumption) ?hrzba5
     case hizba5 => (simp only [List.getElem?_toArray, List.getElem?_cons_succ, List.getElem?_cons_zero]; rfl)
     case hqzba5 => exact fun _ _ _ h => h
     case hwzba5 => rfl
     case hyzba5 => (intro w0 hSw; (try dsimp only at hSw); go_simp; try with_reducible rfl)
     (try simp only [Act.put, List.setIfInBounds_toArray, List.set_cons_zero, List.set_cons_succ])
     refine' wpAnyH_take (i := 6) ?hizba6 (by kernel_rfl) (by kernel_rfl) (by kernel_rfl) ?hqzba6 (Or.inl ⟨?hwzba6, ?hyzba6⟩) (by assumption) ?hrzba6
     case hizba6 => (simp only [List.getElem?_toArray, List.getElem?_cons_succ, List.getElem?_cons_zero]; rfl)
     case hqzba6 => exact fun _ _ _ h => h
     case hwzba6 => rfl
     case hyzba6 => (intro w0 hSw; (try dsimp only at hSw); go_simp; try with_reducible rfl)
     (try simp only [Act.put, List.setIfInBounds_toArray, List.set_cons_zero, List.set_cons_succ])
     refine' wpAnyH_take (i := 7) ?hizba7 (by kernel_rfl) (by kernel_rfl) (by kernel_rfl) ?hqzba7 (Or.inl ⟨?hwzba7, ?hyzba7⟩) (by assumption) ?hrzba7
     case hizba7 => (simp only [List.getElem?_toArray, List.getElem?_cons_succ, List.getElem?_cons_zero]; rfl)
     case hqzba7 => exact fun _ _ _ h => h
     case hwzba7 => rfl
     case hyzba7 => exact fun w0 hSw => run_exec_load rfl rfl (box_load hSw.1 HCL.out 0)
     (try simp only [Act.put, List.setIfInBounds_toArray, List.set_cons_zero, List.set_cons_succ])
     refine wpAnyH_ready (rs := [2, 9]) (by kernel_rfl) (by simp) ?_
     refine' AllReadyH.cons ?hazb (fun K hK => ?hczb) (AllReadyH.cons ?hbzb (fun K hK => ?hdzb) AllReadyH.nil)
     case hazb => (simp only [List.getElem?_toArray, List.getElem?_cons_succ, List.getElem?_cons_zero]; rfl)
     case hbzb => (simp only [List.getElem?_toArray, List.getElem?_cons_succ, List.getElem?_cons_zero]; rfl)
     case hczb =>
      go_simp
      (refine (HHT.out _ hHeld.2).mono ?_; rintro e w5 ⟨rfl, rfl⟩)
      refine hK.out _ _ ?_ (fun hHeld => ?_)
      ·
       exact hHeld
      clear hK K
      (try simp only [Act.put, List.setIfInBounds_toArray, List.set_cons_zero, List.set_cons_succ])
      refine' wpAnyH_take (i := 8) ?hizbb8 (by kernel_rfl) (by kernel_rfl) (by kernel_rfl) ?hqzbb8 (Or.inl ⟨?hwzbb8, ?hyzbb8⟩) (by assumption) ?hrzbb8
      case hizbb8 => (simp only [List.getElem?_toArray, List.getElem?_cons_succ, List.getElem?_cons_zero]; rfl)
      case hqzbb8 => exact fun _ _ _ h => h
      case hwzbb8 => rfl
      case hyzbb8 => exact fun w0 hSw => exec_build (ps := #[(0, (Value.slice pa2 np pc2)), (1, .int .i64 hh), (2, .string (oct.tx t)), (3, .int .i64 a), (4, .int .i64 q), (5, .int .i64 z), (6, .agg (bv c).toArray)]) rfl (by simp only [List.map_toArray, List.map_cons, List.map_nil]; rfl) (HBD.out w0)
      (try simp only [Act.put, List.setIfInBounds_toArray, List.set_cons_zero, List.set_cons_succ])
      refine wpAnyH_ready (rs := [9]) (by kernel_rfl) (by simp) ?_
      refine' AllReadyH.cons ?hizbb9 (fun K hK => ?hrzbb9) AllReadyH.nil
      case hizbb9 => (simp only [List.getElem?_toArray, List.getElem?_cons_succ, List.getElem?_cons_zero]; rfl)
      refine want_allocz rfl rfl ?_
      refine hK.out _ _ ?_ (fun hHeld => ?_)
      ·
       exact ⟨hHeld.1.alloc _, hHeld.2.next ((Below.refl _ _).alloc (Nat.le_refl _) _)⟩
      clear hK K
      (try simp only [Act.put, List.setIfInBounds_toArray, List.set_cons_zero, List.set_cons_succ])
      refine wpAnyH_ready (rs := [10]) (by kernel_rfl) (by simp) ?_
      refine' AllReadyH.cons ?hizbb10 (fun K hK => ?hrzbb10) AllReadyH.nil
      case hizbb10 => (simp only [List.getElem?_toArray, List.getElem?_cons_succ, List.getElem?_cons_zero]; rfl)
      refine want_store_run rfl rfl rfl rfl (HRH.out _) ?_
      refine hK.out _ _ ?_ (fun hHeld => ?_)
      ·
       exact ⟨HBX0.out.below (held_below _ _ _) HBX0.out.lt, HTS0.out.next (held_below _ _ _)⟩
      clear hK K
      (try simp only [Act.put])
      refine wpAnyH_done (by kernel_rfl) ?_ _
      rw [← HU2.out]
      clear HU2 HRH HBD HHT hHeld
      by_cases he : ec = 0
      ·
       subst he
       have HE : Hid (nextR (hs P) t a q z c = (M, 0)) := Lib.hid (by rw [HMM.out, if_neg (by simp)])
       go_wp2_with (first
        | ((with_reducible refine step_load (t := 26) (x := .tmp 23) (p := ?lpzbx1) (v := ?lvzbx1) ?lgzbx1 ?lozbx1 ?lxzbx1 ?lrzbx1 ?lhzbx1); (case lgzbx1 => rfl); (case lozbx1 => rfl); (case lxzbx1 => rfl); (case lrzbx1 => exact hl2))
        | (go_at_call 23; (with_reducible refine HCK.out.mono ?_); rintro e w8 ⟨rfl, hb8⟩; have HB8 := Lib.hid hb8; have hr8 := HRX2.out.below hb8 HRX2.out.lt; have hl8 := run_load_hd (HB2.out.below hb8 HB2.out.lt) HCM.out; have hsz := run_store_hd hr8 (hdc_size _ _ zcom) zhd nv zcom nv_one; have hsm := run_store_hd hr8 (hdc_size _ _ zcom) M (Value.slice pa2 np pc2) HCM.out rfl; have HR8 := Lib.hid hr8; have HSZ := Lib.hid hsz; have HSM := Lib.hid hsm; clear hb8 hr8 hsz hsm HCK)
        | ((with_reducible refine step_load (t := 26) (x := .tmp 23) (p := ?lpzbx2) (v := ?lvzbx2) ?lgzbx2 ?lozbx2 ?lxzbx2 ?lrzbx2 ?lhzbx2); (case lgzbx2 => rfl); (case lozbx2 => rfl); (case lxzbx2 => rfl); (case lrzbx2 => exact hl8))
        | ((with_reducible refine step_store_run (t := 26) (x := .tmp 12) (y := .tmp 132) (p := ?spzbx3) (v := ?svzbx3) (w' := ?swzbx3) ?sgzbx3 ?sozbx3 ?sxzbx3 ?syzbx3 ?srzbx3 ?shzbx3); (case sgzbx3 => rfl); (case sozbx3 => rfl); (case sxzbx3 => rfl); (case syzbx3 => rfl); (case srzbx3 => exact HSM.out)))
       refine bodyPost_ret (results_hd rfl _ _ (X + 1) _ M (Value.slice pa2 np pc2) rfl (setRow_heap _ _ _ _ _ _ HR8.out) HCM.out) rfl ⟨(Value.slice pa2 np pc2), by rw [HE.out]; rfl, ?_, ?_⟩
       ·
        rw [HE.out, HMP.out]
        exact rdv_turn (HPAR2.out.next HB8.out) (turn_row _ _ _) (fun hne b off n c e hlt hb => by have := HPS.out b off n c e; have := HXW.out; omega)
       ·
        exact below_row' (HBW.out.trans (HB8.out.mono HBW.out.size)) (by rw [HXX.out]; exact Nat.le_succ _) _
      ·
       have hne : (ec != 0) = true := bne_iff_ne.2 he
       have HE : Hid (nextR (hs P) t a q z c = (zhd, ec)) := Lib.hid (by rw [HMM.out, if_pos he])
       clear he
       go_wp2_with (first
        | ((with_reducible refine step_load (t := 26) (x := .tmp 23) (p := ?lpzbx4) (v := ?lvzbx4) ?lgzbx4 ?lozbx4 ?lxzbx4 ?lrzbx4 ?lhzbx4); (case lgzbx4 => rfl); (case lozbx4 => rfl); (case lxzbx4 => rfl); (case lrzbx4 => exact hl2))
        | (go_at_call 23; (with_reducible refine HCK.out.mono ?_); rintro e w8 ⟨rfl, hb8⟩; have HB8 := Lib.hid hb8; have hr8 := HRX2.out.below hb8 HRX2.out.lt; have hl8 := run_load_hd (HB2.out.below hb8 HB2.out.lt) HCM.out; have hsz := run_store_hd hr8 (hdc_size _ _ zcom) zhd nv zcom nv_one; have hsm := run_store_hd hr8 (hdc_size _ _ zcom) M (Value.slice pa2 np pc2) HCM.out rfl; have HR8 := Lib.hid hr8; have HSZ := Lib.hid hsz; have HSM := Lib.hid hsm; clear hb8 hr8 hsz hsm HCK)
        | ((with_reducible refine step_build (t := 26) (parts := #[]) (ps := #[]) (v := ?bvzbx5) ?bgzbx5 ?bozbx5 ?bxzbx5 ?brzbx5 ?bhzbx5); (case bgzbx5 => rfl); (case bozbx5 => rfl); (case bxzbx5 => simp); (case brzbx5 => exact run_build_z _))
        | ((with_reducible refine step_store_run (t := 26) (x := .tmp 12) (y := .tmp 130) (p := ?spzbx6) (v := ?svzbx6) (w' := ?swzbx6) ?sgzbx6 ?sozbx6 ?sxzbx6 ?syzbx6 ?srzbx6 ?shzbx6); (case sgzbx6 => rfl); (case sozbx6 => rfl); (case sxzbx6 => rfl); (case syzbx6 => rfl); (case srzbx6 => exact HSZ.out)))
       refine bodyPost_ret (results_hd rfl _ _ (X + 1) _ zhd nv rfl (setRow_heap _ _ _ _ _ _ HR8.out) zcom) rfl ⟨nv, by rw [HE.out]; rfl, ?_, ?_⟩
       ·
        rw [HE.out]; exact (OwnI.nil _ (fun _ => True)).rdv (by decide) |>.1
       ·
        exact below_row' (HBW.out.trans (HB8.out.mono HBW.out.size)) (by rw [HXX.out]; exact Nat.le_succ _) _
     case hdzb =>
      refine want_allocz rfl rfl ?_
      refine hK.out _ _ ?_ (fun hHeld => ?_)
      ·
       exact ⟨hHeld.1.alloc _, hHeld.2.next ((Below.refl _ _).alloc (Nat.le_refl _) _)⟩
      clear hK K
      (try simp only [Act.put, List.setIfInBounds_toArray, List.set_cons_zero, List.set_cons_succ])
      refine wpAnyH_ready (rs := [2]) (by kernel_rfl) (by simp) ?_
      refine' AllReadyH.cons ?hizbc2 (fun K hK => ?hrzbc2) AllReadyH.nil
      case hizbc2 => (simp only [List.getElem?_toArray, List.getElem?_cons_succ, List.getElem?_cons_zero]; rfl)
      go_simp
      (refine (HHT.out _ hHeld.2).mono ?_; rintro e w5 ⟨rfl, rfl⟩)
      refine hK.out _ _ ?_ (fun hHeld => ?_)
      ·
       exact hHeld
      clear hK K
      (try simp only [Act.put, List.setIfInBounds_toArray, List.set_cons_zero, List.set_cons_succ])
      refine' wpAnyH_take (i := 8) ?hizbc8 (by kernel_rfl) (by kernel_rfl) (by kernel_rfl) ?hqzbc8 (Or.inl ⟨?hwzbc8, ?hyzbc8⟩) (by assumption) ?hrzbc8
      case hizbc8 => (simp only [List.getElem?_toArray, List.getElem?_cons_succ, List.getElem?_cons_zero]; rfl)
      case hqzbc8 => exact fun _ _ _ h => h
      case hwzbc8 => rfl
      case hyzbc8 => exact fun w0 hSw => exec_build (ps := #[(0, (Value.slice pa2 np pc2)), (1, .int .i64 hh), (2, .string (oct.tx t)), (3, .int .i64 a), (4, .int .i64 q), (5, .int .i64 z), (6, .agg (bv c).toArray)]) rfl (by simp only [List.map_toArray, List.map_cons, List.map_nil]; rfl) (HBD.out w0)
      (try simp only [Act.put, List.setIfInBounds_toArray, List.set_cons_zero, List.set_cons_succ])
      refine wpAnyH_ready (rs := [10]) (by kernel_rfl) (by simp) ?_
      refine' AllReadyH.cons ?hizbc10 (fun K hK => ?hrzbc10) AllReadyH.nil
      case hizbc10 => (simp only [List.getElem?_toArray, List.getElem?_cons_succ, List.getElem?_cons_zero]; rfl)
      refine want_store_run rfl rfl rfl rfl (HRH.out _) ?_
      refine hK.out _ _ ?_ (fun hHeld => ?_)
      ·
       exact ⟨HBX0.out.below (held_below _ _ _) HBX0.out.lt, HTS0.out.next (held_below _ _ _)⟩
      clear hK K
      (try simp only [Act.put])
      refine wpAnyH_done (by kernel_rfl) ?_ _
      rw [← HU2.out]
      clear HU2 HRH HBD HHT hHeld
      by_cases he : ec = 0
      ·
       subst he
       have HE : Hid (nextR (hs P) t a q z c = (M, 0)) := Lib.hid (by rw [HMM.out, if_neg (by simp)])
       go_wp2_with (first
        | ((with_reducible refine step_load (t := 26) (x := .tmp 23) (p := ?lpzby1) (v := ?lvzby1) ?lgzby1 ?lozby1 ?lxzby1 ?lrzby1 ?lhzby1); (case lgzby1 => rfl); (case lozby1 => rfl); (case lxzby1 => rfl); (case lrzby1 => exact hl2))
        | (go_at_call 23; (with_reducible refine HCK.out.mono ?_); rintro e w8 ⟨rfl, hb8⟩; have HB8 := Lib.hid hb8; have hr8 := HRX2.out.below hb8 HRX2.out.lt; have hl8 := run_load_hd (HB2.out.below hb8 HB2.out.lt) HCM.out; have hsz := run_store_hd hr8 (hdc_size _ _ zcom) zhd nv zcom nv_one; have hsm := run_store_hd hr8 (hdc_size _ _ zcom) M (Value.slice pa2 np pc2) HCM.out rfl; have HR8 := Lib.hid hr8; have HSZ := Lib.hid hsz; have HSM := Lib.hid hsm; clear hb8 hr8 hsz hsm HCK)
        | ((with_reducible refine step_load (t := 26) (x := .tmp 23) (p := ?lpzby2) (v := ?lvzby2) ?lgzby2 ?lozby2 ?lxzby2 ?lrzby2 ?lhzby2); (case lgzby2 => rfl); (case lozby2 => rfl); (case lxzby2 => rfl); (case lrzby2 => exact hl8))
        | ((with_reducible refine step_store_run (t := 26) (x := .tmp 12) (y := .tmp 132) (p := ?spzby3) (v := ?svzby3) (w' := ?swzby3) ?sgzby3 ?sozby3 ?sxzby3 ?syzby3 ?srzby3 ?shzby3); (case sgzby3 => rfl); (case sozby3 => rfl); (case sxzby3 => rfl); (case syzby3 => rfl); (case srzby3 => exact HSM.out)))
       refine bodyPost_ret (results_hd rfl _ _ (X + 1) _ M (Value.slice pa2 np pc2) rfl (setRow_heap _ _ _ _ _ _ HR8.out) HCM.out) rfl ⟨(Value.slice pa2 np pc2), by rw [HE.out]; rfl, ?_, ?_⟩
       ·
        rw [HE.out, HMP.out]
        exact rdv_turn (HPAR2.out.next HB8.out) (turn_row _ _ _) (fun hne b off n c e hlt hb => by have := HPS.out b off n c e; have := HXW.out; omega)
       ·
        exact below_row' (HBW.out.trans (HB8.out.mono HBW.out.size)) (by rw [HXX.out]; exact Nat.le_succ _) _
      ·
       have hne : (ec != 0) = true := bne_iff_ne.2 he
       have HE : Hid (nextR (hs P) t a q z c = (zhd, ec)) := Lib.hid (by rw [HMM.out, if_pos he])
       clear he
       go_wp2_with (first
        | ((with_reducible refine step_load (t := 26) (x := .tmp 23) (p := ?lpzby4) (v := ?lvzby4) ?lgzby4 ?lozby4 ?lxzby4 ?lrzby4 ?lhzby4); (case lgzby4 => rfl); (case lozby4 => rfl); (case lxzby4 => rfl); (case lrzby4 => exact hl2))
        | (go_at_call 23; (with_reducible refine HCK.out.mono ?_); rintro e w8 ⟨rfl, hb8⟩; have HB8 := Lib.hid hb8; have hr8 := HRX2.out.below hb8 HRX2.out.lt; have hl8 := run_load_hd (HB2.out.below hb8 HB2.out.lt) HCM.out; have hsz := run_store_hd hr8 (hdc_size _ _ zcom) zhd nv zcom nv_one; have hsm := run_store_hd hr8 (hdc_size _ _ zcom) M (Value.slice pa2 np pc2) HCM.out rfl; have HR8 := Lib.hid hr8; have HSZ := Lib.hid hsz; have HSM := Lib.hid hsm; clear hb8 hr8 hsz hsm HCK)
        | ((with_reducible refine step_build (t := 26) (parts := #[]) (ps := #[]) (v := ?bvzby5) ?bgzby5 ?bozby5 ?bxzby5 ?brzby5 ?bhzby5); (case bgzby5 => rfl); (case bozby5 => rfl); (case bxzby5 => simp); (case brzby5 => exact run_build_z _))
        | ((with_reducible refine step_store_run (t := 26) (x := .tmp 12) (y := .tmp 130) (p := ?spzby6) (v := ?svzby6) (w' := ?swzby6) ?sgzby6 ?sozby6 ?sxzby6 ?syzby6 ?srzby6 ?shzby6); (case sgzby6 => rfl); (case sozby6 => rfl); (case sxzby6 => rfl); (case syzby6 => rfl); (case srzby6 => exact HSZ.out)))
       refine bodyPost_ret (results_hd rfl _ _ (X + 1) _ zhd nv rfl (setRow_heap _ _ _ _ _ _ HR8.out) zcom) rfl ⟨nv, by rw [HE.out]; rfl, ?_, ?_⟩
       ·
        rw [HE.out]; exact (OwnI.nil _ (fun _ => True)).rdv (by decide) |>.1
       ·
        exact below_row' (HBW.out.trans (HB8.out.mono HBW.out.size)) (by rw [HXX.out]; exact Nat.le_succ _) _
    have hP5 : (0 : Int) < (nl : Int) := by omega
    clear hI hTm hPl htk hpz hpn hps hnl hnt hnp hT4 hP0
    go_wp2_with fail
    go_loopw [21, 22] (fun ks is wz => ∃ j : Nat, 1 ≤ j ∧ j ≤ nl ∧ is = .int .i64 (j : Int) ∧ ks = .int .i64 ((best (pairs (hs Pl)) j : Nat) : Int) ∧ NxI w w3 S P (.slice la2 nl lc2) (.slice ia2 nl ic2) (.slice pa2 np pc2) (.slice ta2 nt tc2) Pl T pz wz) (fun _ i _ => nl - (intOf i).toNat)
    case atStart => exact ⟨1, Nat.le_refl _, by omega, rfl, by rw [best_one]; rfl, HI.out⟩
    case round =>
     clear HI
     obtain ⟨j, hj1, hjn, rfl, rfl, hz⟩ := hrel
     have j0 : (0 : Int) ≤ (j : Int) := Int.natCast_nonneg _
     have j1 : (j : Int) ≤ (nl : Int) := by omega
     obtain ⟨kk, hkk⟩ : ∃ x, x = best (pairs (hs Pl)) j := ⟨_, rfl⟩
     have hkl : kk < j := by rw [hkk]; exact best_lt _ j (by rw [pairs_len, ← HNL.out]; exact hjn) hj1
     have kk0 : (0 : Int) ≤ (kk : Int) := Int.natCast_nonneg _
     have kk1 : (kk : Int) < (nl : Int) := by omega
     have HZ := Lib.hid hz
     rw [← hkk]
     have HKK := Lib.hid hkk
     by_cases hlt : j < nl
     ·
      have jI : (j : Int) < (nl : Int) := by omega
      have hjP : j < Pl.length := by rw [← HNL.out]; exact hlt
      have hkP : kk < Pl.length := by rw [← HNL.out]; omega
      obtain ⟨b, off, rfl, hbb, -, -, -, -⟩ := hz.left.at_ hjP
      obtain ⟨ib, io, e, -, -⟩ := hz.ids.load (i := j) (by rw [idsP_len]; exact hjP)
      cases e
      have HST := Lib.hid (show (fun u => HsV u (.slice (some ⟨b, off, none⟩) nl lc2) Pl ∧ RdV u (.slice (some ⟨ib, io, none⟩) nl ic2) (idsP Pl)) wr from ⟨hz.left, hz.ids⟩)
      obtain ⟨h1, hh1⟩ : ∃ x, x = (Pl.getD kk zhp).1.height := ⟨_, rfl⟩
      obtain ⟨h2, hh2⟩ : ∃ x, x = (Pl.getD j zhp).1.height := ⟨_, rfl⟩
      obtain ⟨i1, hi1⟩ : ∃ x, x = (idH (Pl.getD kk zhp).1).1 := ⟨_, rfl⟩
      obtain ⟨i2, hi2⟩ : ∃ x, x = (idH (Pl.getD j zhp).1).1 := ⟨_, rfl⟩
      have hl1 : i1.length = 32 := by rw [hi1]; exact idH_l32 _
      have hl2 : i2.length = 32 := by rw [hi2]; exact idH_l32 _
      obtain ⟨bq, hbq⟩ : ∃ x, x = aheadB h1 i1 h2 i2 := ⟨_, rfl⟩
      have HAH : Hid (∀ u, Calls Tryz.prog 30 #[.int .i64 h1, idv i1, .int .i64 h2, idv i2] u fun e w' => e = .returned (.bool bq) ∧ Below u.heap.size u w') := Lib.hid fun u => by rw [hbq]; exact ahead_any h1 i1 h2 i2 u hl1 hl2
      have hbn : best (pairs (hs Pl)) (j + 1) = if bq = true then j else kk := by
       show (if aheadP ((pairs (hs Pl)).getD (best (pairs (hs Pl)) j) zpr) ((pairs (hs Pl)).getD j zpr) = true then j else best (pairs (hs Pl)) j) = _
       rw [← hkk, pairs_get hkP, pairs_get hjP]
       show (if aheadB _ _ _ _ = true then j else kk) = _
       rw [← hh1, ← hh2, ← hi1, ← hi2, ← hbq]
      have hj2 := hlt
      have HBN := Lib.hid hbn
      have HH1 := Lib.hid hh1
      have HH2 := Lib.hid hh2
      have HI1 : Hid ((idsP Pl).getD kk [] = i1) := Lib.hid (by rw [idsP_get hkP, hi1])
      have HI2 : Hid ((idsP Pl).getD j [] = i2) := Lib.hid (by rw [idsP_get hjP, hi2])
      have HKP := Lib.hid hkP
      have HJP := Lib.hid hjP
      clear hz hbb hh1 hh2 hi1 hi2 hl1 hl2 hbq hbn hkP hjP hkk hj1 hjn hkl
      unfold idv at HAH
      go_upto_region 17 with fail
      refine wp_region_held_drew (S := fun u => HsV u (.slice (some ⟨b, off, none⟩) nl lc2) Pl ∧ RdV u (.slice (some ⟨ib, io, none⟩) nl ic2) (idsP Pl)) (by kernel_rfl) ?_ (fun hHeld => ?_)
      ·
       exact ⟨HST.out.1.next ((Below.refl _ wr).drew), HST.out.2.next ((Below.refl _ wr).drew)⟩
      refine' wpAnyH_take (i := 0) ?hinx0 (by kernel_rfl) (by kernel_rfl) (by kernel_rfl) ?hqnx0 (Or.inl ⟨?hwnx0, ?hynx0⟩) (by assumption) ?hrnx0
      case hinx0 => (simp only [List.getElem?_toArray, List.getElem?_cons_zero]; rfl)
      case hqnx0 => exact fun _ _ _ h => h
      case hwnx0 => rfl
      case hynx0 => (intro w0 hSw; (try dsimp only at hSw); go_simp; try with_reducible rfl)
      (try simp only [Act.put, List.setIfInBounds_toArray, List.set_cons_zero, List.set_cons_succ])
      refine' wpAnyH_take (i := 1) ?hinx1 (by kernel_rfl) (by kernel_rfl) (by kernel_rfl) ?hqnx1 (Or.inl ⟨?hwnx1, ?hynx1⟩) (by assumption) ?hrnx1
      case hinx1 => (simp only [List.getElem?_toArray, List.getElem?_cons_succ, List.getElem?_cons_zero]; rfl)
      case hqnx1 => exact fun _ _ _ h => h
      case hwnx1 => rfl
      case hynx1 => (intro w0 hSw; (try dsimp only at hSw); go_simp; try with_reducible rfl)
      (try simp only [Act.put, List.setIfInBounds_toArray, List.set_cons_zero, List.set_cons_succ])
      refine' wpAnyH_take (i := 2) ?hinx2 (by kernel_rfl) (by kernel_rfl) (by kernel_rfl) ?hqnx2 (Or.inl ⟨?hwnx2, ?hynx2⟩) (by assumption) ?hrnx2
      case hinx2 => (simp only [List.getElem?_toArray, List.getElem?_cons_succ, List.getElem?_cons_zero]; rfl)
      case hqnx2 => exact fun _ _ _ h => h
      case hwnx2 => rfl
      case hynx2 => (intro w0 hSw; (try dsimp only at hSw); go_simp; try with_reducible rfl)
      (try simp only [Act.put, List.setIfInBounds_toArray, List.set_cons_zero, List.set_cons_succ])
      refine' wpAnyH_take (i := 3) ?hinx3 (by kernel_rfl) (by kernel_rfl) (by kernel_rfl) ?hqnx3 (Or.inl ⟨?hwnx3, ?hynx3⟩) (by assumption) ?hrnx3
      case hinx3 => (simp only [List.getElem?_toArray, List.getElem?_cons_succ, List.getElem?_cons_zero]; rfl)
      case hqnx3 => exact fun _ _ _ h => h
      case hwnx3 => rfl
      case hynx3 => (intro w0 hSw; (try dsimp only at hSw); go_simp; try with_reducible rfl)
      (try simp only [Act.put, List.setIfInBounds_toArray, List.set_cons_zero, List.set_cons_succ])
      refine' wpAnyH_take (i := 4) ?hinx4 (by kernel_rfl) (by kernel_rfl) (by kernel_rfl) ?hqnx4 (Or.inl ⟨?hwnx4, ?hynx4⟩) (by assumption) ?hrnx4
      case hinx4 => (simp only [List.getElem?_toArray, List.getElem?_cons_succ, List.getElem?_cons_zero]; rfl)
      case hqnx4 => exact fun _ _ _ h => h
      case hwnx4 => rfl
      case hynx4 => exact fun w0 hSw => by (obtain ⟨b1, o1, e1, -, -, -, hc, -⟩ := hSw.1.at_ HKP.out; cases e1; rw [← HH1.out] at hc; go_simp; try with_reducible rfl)
      (try simp only [Act.put, List.setIfInBounds_toArray, List.set_cons_zero, List.set_cons_succ])
      refine' wpAnyH_take (i := 5) ?hinx5 (by kernel_rfl) (by kernel_rfl) (by kernel_rfl) ?hqnx5 (Or.inl ⟨?hwnx5, ?hynx5⟩) (by assumption) ?hrnx5
      case hinx5 => (simp only [List.getElem?_toArray, List.getElem?_cons_succ, List.getElem?_cons_zero]; rfl)
      case hqnx5 => exact fun _ _ _ h => h
      case hwnx5 => rfl
      case hynx5 => (intro w0 hSw; (try dsimp only at hSw); go_simp; try with_reducible rfl)
      (try simp only [Act.put, List.setIfInBounds_toArray, List.set_cons_zero, List.set_cons_succ])
      refine' wpAnyH_take (i := 6) ?hinx6 (by kernel_rfl) (by kernel_rfl) (by kernel_rfl) ?hqnx6 (Or.inl ⟨?hwnx6, ?hynx6⟩) (by assumption) ?hrnx6
      case hinx6 => (simp only [List.getElem?_toArray, List.getElem?_cons_succ, List.getElem?_cons_zero]; rfl)
      case hqnx6 => exact fun _ _ _ h => h
      case hwnx6 => rfl
      case hynx6 => (intro w0 hSw; (try dsimp only at hSw); go_simp; try with_reducible rfl)
      (try simp only [Act.put, List.setIfInBounds_toArray, List.set_cons_zero, List.set_cons_succ])
      refine' wpAnyH_take (i := 7) ?hinx7 (by kernel_rfl) (by kernel_rfl) (by kernel_rfl) ?hqnx7 (Or.inl ⟨?hwnx7, ?hynx7⟩) (by assumption) ?hrnx7
      case hinx7 => (simp only [List.getElem?_toArray, List.getElem?_cons_succ, List.getElem?_cons_zero]; rfl)
      case hqnx7 => exact fun _ _ _ h => h
      case hwnx7 => rfl
      case hynx7 => (intro w0 hSw; (try dsimp only at hSw); go_simp; try with_reducible rfl)
      (try simp only [Act.put, List.setIfInBounds_toArray, List.set_cons_zero, List.set_cons_succ])
      refine' wpAnyH_take (i := 8) ?hinx8 (by kernel_rfl) (by kernel_rfl) (by kernel_rfl) ?hqnx8 (Or.inl ⟨?hwnx8, ?hynx8⟩) (by assumption) ?hrnx8
      case hinx8 => (simp only [List.getElem?_toArray, List.getElem?_cons_succ, List.getElem?_cons_zero]; rfl)
      case hqnx8 => exact fun _ _ _ h => h
      case hwnx8 => rfl
      case hynx8 => exact fun w0 hSw => run_exec_load rfl rfl (hSw.2.load_y (by rw [idsP_len]; exact HKP.out) HI1.out)
      (try simp only [Act.put, List.setIfInBounds_toArray, List.set_cons_zero, List.set_cons_succ])
      refine' wpAnyH_take (i := 9) ?hinx9 (by kernel_rfl) (by kernel_rfl) (by kernel_rfl) ?hqnx9 (Or.inl ⟨?hwnx9, ?hynx9⟩) (by assumption) ?hrnx9
      case hinx9 => (simp only [List.getElem?_toArray, List.getElem?_cons_succ, List.getElem?_cons_zero]; rfl)
      case hqnx9 => exact fun _ _ _ h => h
      case hwnx9 => rfl
      case hynx9 => (intro w0 hSw; (try dsimp only at hSw); go_simp; try with_reducible rfl)
      (try simp only [Act.put, List.setIfInBounds_toArray, List.set_cons_zero, List.set_cons_succ])
      refine' wpAnyH_take (i := 10) ?hinx10 (by kernel_rfl) (by kernel_rfl) (by kernel_rfl) ?hqnx10 (Or.inl ⟨?hwnx10, ?hynx10⟩) (by assumption) ?hrnx10
      case hinx10 => (simp only [List.getElem?_toArray, List.getElem?_cons_succ, List.getElem?_cons_zero]; rfl)
      case hqnx10 => exact fun _ _ _ h => h
      case hwnx10 => rfl
      case hynx10 => (intro w0 hSw; (try dsimp only at hSw); go_simp; try with_reducible rfl)
      (try simp only [Act.put, List.setIfInBounds_toArray, List.set_cons_zero, List.set_cons_succ])
      refine' wpAnyH_take (i := 11) ?hinx11 (by kernel_rfl) (by kernel_rfl) (by kernel_rfl) ?hqnx11 (Or.inl ⟨?hwnx11, ?hynx11⟩) (by assumption) ?hrnx11
      case hinx11 => (simp only [List.getElem?_toArray, List.getElem?_cons_succ, List.getElem?_cons_zero]; rfl)
      case hqnx11 => exact fun _ _ _ h => h
      case hwnx11 => rfl
      case hynx11 => (intro w0 hSw; (try dsimp only at hSw); go_simp; try with_reducible rfl)
      (try simp only [Act.put, List.setIfInBounds_toArray, List.set_cons_zero, List.set_cons_succ])
      refine' wpAnyH_take (i := 12) ?hinx12 (by kernel_rfl) (by kernel_rfl) (by kernel_rfl) ?hqnx12 (Or.inl ⟨?hwnx12, ?hynx12⟩) (by assumption) ?hrnx12
      case hinx12 => (simp only [List.getElem?_toArray, List.getElem?_cons_succ, List.getElem?_cons_zero]; rfl)
      case hqnx12 => exact fun _ _ _ h => h
      case hwnx12 => rfl
      case hynx12 => (intro w0 hSw; (try dsimp only at hSw); go_simp; try with_reducible rfl)
      (try simp only [Act.put, List.setIfInBounds_toArray, List.set_cons_zero, List.set_cons_succ])
      refine' wpAnyH_take (i := 13) ?hinx13 (by kernel_rfl) (by kernel_rfl) (by kernel_rfl) ?hqnx13 (Or.inl ⟨?hwnx13, ?hynx13⟩) (by assumption) ?hrnx13
      case hinx13 => (simp only [List.getElem?_toArray, List.getElem?_cons_succ, List.getElem?_cons_zero]; rfl)
      case hqnx13 => exact fun _ _ _ h => h
      case hwnx13 => rfl
      case hynx13 => exact fun w0 hSw => by (obtain ⟨b1, o1, e1, -, -, -, hc, -⟩ := hSw.1.at_ HJP.out; cases e1; rw [← HH2.out] at hc; go_simp; try with_reducible rfl)
      (try simp only [Act.put, List.setIfInBounds_toArray, List.set_cons_zero, List.set_cons_succ])
      refine' wpAnyH_take (i := 14) ?hinx14 (by kernel_rfl) (by kernel_rfl) (by kernel_rfl) ?hqnx14 (Or.inl ⟨?hwnx14, ?hynx14⟩) (by assumption) ?hrnx14
      case hinx14 => (simp only [List.getElem?_toArray, List.getElem?_cons_succ, List.getElem?_cons_zero]; rfl)
      case hqnx14 => exact fun _ _ _ h => h
      case hwnx14 => rfl
      case hynx14 => (intro w0 hSw; (try dsimp only at hSw); go_simp; try with_reducible rfl)
      (try simp only [Act.put, List.setIfInBounds_toArray, List.set_cons_zero, List.set_cons_succ])
      refine' wpAnyH_take (i := 15) ?hinx15 (by kernel_rfl) (by kernel_rfl) (by kernel_rfl) ?hqnx15 (Or.inl ⟨?hwnx15, ?hynx15⟩) (by assumption) ?hrnx15
      case hinx15 => (simp only [List.getElem?_toArray, List.getElem?_cons_succ, List.getElem?_cons_zero]; rfl)
      case hqnx15 => exact fun _ _ _ h => h
      case hwnx15 => rfl
      case hynx15 => (intro w0 hSw; (try dsimp only at hSw); go_simp; try with_reducible rfl)
      (try simp only [Act.put, List.setIfInBounds_toArray, List.set_cons_zero, List.set_cons_succ])
      refine' wpAnyH_take (i := 16) ?hinx16 (by kernel_rfl) (by kernel_rfl) (by kernel_rfl) ?hqnx16 (Or.inl ⟨?hwnx16, ?hynx16⟩) (by assumption) ?hrnx16
      case hinx16 => (simp only [List.getElem?_toArray, List.getElem?_cons_succ, List.getElem?_cons_zero]; rfl)
      case hqnx16 => exact fun _ _ _ h => h
      case hwnx16 => rfl
      case hynx16 => (intro w0 hSw; (try dsimp only at hSw); go_simp; try with_reducible rfl)
      (try simp only [Act.put, List.setIfInBounds_toArray, List.set_cons_zero, List.set_cons_succ])
      refine' wpAnyH_take (i := 17) ?hinx17 (by kernel_rfl) (by kernel_rfl) (by kernel_rfl) ?hqnx17 (Or.inl ⟨?hwnx17, ?hynx17⟩) (by assumption) ?hrnx17
      case hinx17 => (simp only [List.getElem?_toArray, List.getElem?_cons_succ, List.getElem?_cons_zero]; rfl)
      case hqnx17 => exact fun _ _ _ h => h
      case hwnx17 => rfl
      case hynx17 => exact fun w0 hSw => run_exec_load rfl rfl (hSw.2.load_y (by rw [idsP_len]; exact HJP.out) HI2.out)
      (try simp only [Act.put, List.setIfInBounds_toArray, List.set_cons_zero, List.set_cons_succ])
      refine wpAnyH_ready (rs := [18]) (by kernel_rfl) (by simp) ?_
      refine' AllReadyH.cons ?hinx18 (fun K hK => ?hrnx18) AllReadyH.nil
      case hinx18 => (simp only [List.getElem?_toArray, List.getElem?_cons_succ, List.getElem?_cons_zero]; rfl)
      go_simp
      (refine (HAH.out _).mono ?_; rintro e w5 ⟨rfl, hb5⟩; have HB5 := Lib.hid hb5; clear hb5)
      refine hK.out _ _ ?_ (fun hHeld => ?_)
      ·
       exact ⟨hHeld.1.next HB5.out, hHeld.2.next HB5.out⟩
      clear hK K
      (try simp only [Act.put, List.setIfInBounds_toArray, List.set_cons_zero, List.set_cons_succ])
      refine wpAnyH_done (by kernel_rfl) ?_ _
      have HZ5 := Lib.hid ((HZ.out.next (w' := wr.drew) ((Below.refl _ wr).drew)).next HB5.out)
      clear hHeld
      cases bq with
      | true =>
       go_wp2_with fail
       go_roundw
       case rel => exact ⟨j + 1, by omega, hlt, by push_cast; rfl, by rw [HBN.out]; rfl, HZ5.out⟩
       case measure => simp [intOf]; omega
      | false =>
       go_wp2_with fail
       go_roundw
       case rel => exact ⟨j + 1, by omega, hlt, by push_cast; rfl, by rw [HBN.out]; rfl, HZ5.out⟩
       case measure => simp [intOf]; omega
     ·
      obtain rfl : j = nl := by omega
      have hkP : kk < Pl.length := by rw [← HNL.out]; exact hkl
      have hin := hz.left.2.get hkP
      obtain ⟨qh, qv, hq⟩ : ∃ a b, Pl.getD kk zhp = (a, b) := ⟨_, _, rfl⟩
      obtain ⟨b, off, rfl, hbb, hld, -, -, -⟩ := hz.left.at_ hkP
      obtain ⟨ib, io, e, -, -, -⟩ := hz.ids.load (i := kk) (by rw [idsP_len]; exact hkP)
      cases e
      obtain ⟨y, hy⟩ : ∃ y, y = (idH qh).1 := ⟨_, rfl⟩
      have hy32 : y.length = 32 := by rw [hy]; exact idH_l32 qh
      have hld := hld 0
      rw [hq] at hin hld
      dsimp only at hin hld
      have hqm : (qh, qv) ∈ Pl := by rw [← hq, List.getD_eq_getElem?_getD, List.getElem?_eq_getElem hkP]; exact List.getElem_mem hkP
      have hgy : (idsP Pl).getD kk [] = y := by rw [idsP_get hkP, hq, hy]
      obtain ⟨tv2, w6, hrun, hz6, hle6, ht6⟩ := hz.push (p := (qh, qv)) (hz.subl _ hqm) hin.1 (by rw [← HNT.out]; omega) 27
      dsimp only at hrun
      obtain ⟨ta3, tc3, e⟩ := hz6.tak.form
      rw [List.length_append, List.length_singleton, ← HNT.out] at e
      subst e
      have hl6 := hz6.ids.load_y (i := kk) (by rw [idsP_len]; exact hkP) hgy
      have hwi := rwith_any pz y pa2 np pc2 w6 hz6.par hy32 (by have := HPZ.out; rw [← HNT.out] at this; omega)
      have HWI := Lib.hid hwi
      have HL32 := Lib.hid hin.2
      have HZ6 := Lib.hid hz6
      have HKP := Lib.hid hkP
      have HLE6 : Hid (S ≤ w6.heap.size) := Lib.hid (by have := hz6.turn.size; have := hz6.le; omega)
      have HQ := Lib.hid hq
      have HY := Lib.hid hy
      have HQM := Lib.hid hqm
      have HST : Hid (Turn (S ≤ ·) w3 wr) := Lib.hid hz.turn
      have HLE : Hid (w.heap.size ≤ S) := Lib.hid hz.le.1
      have hwr : Hid (IntKind.i64.wrap ((kk : Int) + 1) = ((kk + 1 : Nat) : Int)) := Lib.hid (by rw [IntKind.wrap_i64]; omega)
      clear hz hbb hin hq hy hy32 hqm hgy hle6 ht6 hz6 hkP hwi hj1 hjn hkk hlt
      go_upto_region 21 with (first
       | ((with_reducible refine step_load (t := 26) (x := .tmp 87) (p := ?lpe1) (v := ?lve1) ?lge1 ?loe1 ?lxe1 ?lre1 ?lhe1); (case lge1 => rfl); (case loe1 => rfl); (case lxe1 => rfl); (case lre1 => exact hld))
       | ((with_reducible refine hds.step_build1h (x := .tmp 88) (h := ?bhe2) (v := ?bve2) ?bge2 ?boe2 ?bxe2 ?ble2 ?bke2); (case bge2 => rfl); (case boe2 => rfl); (case bxe2 => rfl); (case ble2 => exact HL32.out))
       | ((with_reducible refine step_append (s := .tmp 84) (x := .tmp 89) (t := 27) (vs := ?ase3) (vx := ?axe3) (v' := ?ave3) (w' := ?awe3) ?age3 ?aoe3 ?ape3 ?aqe3 ?are3 ?ahe3); (case age3 => rfl); (case aoe3 => rfl); (case ape3 => rfl); (case aqe3 => rfl); (case are3 => exact hrun))
       | ((with_reducible refine step_load (t := 24) (x := .tmp 94) (p := ?lpe4) (v := ?lve4) ?lge4 ?loe4 ?lxe4 ?lre4 ?lhe4); (case lge4 => rfl); (case loe4 => rfl); (case lxe4 => rfl); (case lre4 => exact hl6))
       | (go_at_call 31; (with_reducible refine HWI.out.mono ?_); rintro e w7 ⟨pv2, rfl, hgot, hb7⟩; have HG := Lib.hid hgot; have HB7 := Lib.hid hb7; clear hgot hb7 HWI))
      have hz7 := HZ6.out.pars HB7.out HG.out.1 (fun b off n c e => (HG.out.2 b off n c e).imp id fun ⟨off', e'⟩ => ⟨⟨off', _, _, by rw [e']⟩, fun h0 => by
       have := HPN.out h0
       injection this with h1 h2 h3
       rw [e'] at h1
       cases h1⟩)
      have hz8 := hz7.next (w' := w7.drew) ((Below.refl _ w7).drew)
      have hPl1 : Pl.length ≤ 1000 := by rw [← HNL.out]; have := HPL.out; omega
      have hs8 : w.heap.size ≤ w7.drew.heap.size := by have := hz8.turn.size; have := hz8.le; omega
      obtain ⟨v1, w8, v2, w9, r1, r2, hcut, hb9, hlo9⟩ := cut_hs hz8.left (fun p hp => hz8.low p (hz8.subl p hp)) hs8 hPl1 HKP.out 27 27
      have HR1 := Lib.hid r1
      have HR2 := Lib.hid r2
      have HS1 : Hid _ := Lib.hid (fun u => (slice_hi_h hz8.left kk (by omega) u).1)
      have HS2 : Hid _ := Lib.hid (fun u => (slice_lo_h hz8.left (kk + 1) (by omega) u).1)
      have HCUT := Lib.hid hcut
      have HB9 := Lib.hid hb9
      have HLO9 := Lib.hid hlo9
      have HZ8 := Lib.hid hz8
      have HPL1 := Lib.hid hPl1
      clear hz7 hz8 hPl1 hs8 r1 r2 hcut hb9 hlo9 hrun hl6 hld HZ6
      refine wp_region_held_drew (S := fun _ => True) (by kernel_rfl) ?_ (fun hHeld => ?_)
      ·
       trivial
      refine' wpAnyH_take (i := 1) ?hiny1 (by kernel_rfl) (by kernel_rfl) (by kernel_rfl) ?hqny1 (Or.inl ⟨?hwny1, ?hyny1⟩) (by assumption) ?hrny1
      case hiny1 => (simp only [List.getElem?_toArray, List.getElem?_cons_succ, List.getElem?_cons_zero]; rfl)
      case hqny1 => exact fun _ _ _ h => h
      case hwny1 => rfl
      case hyny1 => (intro w0 hSw; (try dsimp only at hSw); go_simp; try with_reducible rfl)
      (try simp only [Act.put, List.setIfInBounds_toArray, List.set_cons_zero, List.set_cons_succ])
      refine' wpAnyH_take (i := 2) ?hiny2 (by kernel_rfl) (by kernel_rfl) (by kernel_rfl) ?hqny2 (Or.inl ⟨?hwny2, ?hyny2⟩) (by assumption) ?hrny2
      case hiny2 => (simp only [List.getElem?_toArray, List.getElem?_cons_succ, List.getElem?_cons_zero]; rfl)
      case hqny2 => exact fun _ _ _ h => h
      case hwny2 => rfl
      case hyny2 => (intro w0 hSw; (try dsimp only at hSw); go_simp; try with_reducible rfl)
      (try simp only [Act.put, List.setIfInBounds_toArray, List.set_cons_zero, List.set_cons_succ])
      refine' wpAnyH_take (i := 3) ?hiny3 (by kernel_rfl) (by kernel_rfl) (by kernel_rfl) ?hqny3 (Or.inl ⟨?hwny3, ?hyny3⟩) (by assumption) ?hrny3
      case hiny3 => (simp only [List.getElem?_toArray, List.getElem?_cons_succ, List.getElem?_cons_zero]; rfl)
      case hqny3 => exact fun _ _ _ h => h
      case hwny3 => rfl
      case hyny3 => exact fun w0 hSw => exec_hi rfl rfl rfl (HS1.out w0)
      (try simp only [Act.put, List.setIfInBounds_toArray, List.set_cons_zero, List.set_cons_succ])
      refine' wpAnyH_take (i := 5) ?hiny5 (by kernel_rfl) (by kernel_rfl) (by kernel_rfl) ?hqny5 (Or.inl ⟨?hwny5, ?hyny5⟩) (by assumption) ?hrny5
      case hiny5 => (simp only [List.getElem?_toArray, List.getElem?_cons_succ, List.getElem?_cons_zero]; rfl)
      case hqny5 => exact fun _ _ _ h => h
      case hwny5 => rfl
      case hyny5 => (intro w0 hSw; (try dsimp only at hSw); go_simp; try with_reducible rfl)
      (try simp only [Act.put, List.setIfInBounds_toArray, List.set_cons_zero, List.set_cons_succ])
      refine' wpAnyH_take (i := 6) ?hiny6 (by kernel_rfl) (by kernel_rfl) (by kernel_rfl) ?hqny6 (Or.inl ⟨?hwny6, ?hyny6⟩) (by assumption) ?hrny6
      case hiny6 => (simp only [List.getElem?_toArray, List.getElem?_cons_succ, List.getElem?_cons_zero]; rfl)
      case hqny6 => exact fun _ _ _ h => h
      case hwny6 => rfl
      case hyny6 => (intro w0 hSw; (try dsimp only at hSw); go_simp; try with_reducible rfl)
      (try simp only [Act.put, List.setIfInBounds_toArray, List.set_cons_zero, List.set_cons_succ])
      refine' wpAnyH_take (i := 7) ?hiny7 (by kernel_rfl) (by kernel_rfl) (by kernel_rfl) ?hqny7 (Or.inl ⟨?hwny7, ?hyny7⟩) (by assumption) ?hrny7
      case hiny7 => (simp only [List.getElem?_toArray, List.getElem?_cons_succ, List.getElem?_cons_zero]; rfl)
      case hqny7 => exact fun _ _ _ h => h
      case hwny7 => rfl
      case hyny7 => exact fun w0 hSw => by (go_simp; (try simp only [hwr.out]); with_reducible rfl)
      (try simp only [Act.put, List.setIfInBounds_toArray, List.set_cons_zero, List.set_cons_succ])
      refine' wpAnyH_take (i := 8) ?hiny8 (by kernel_rfl) (by kernel_rfl) (by kernel_rfl) ?hqny8 (Or.inl ⟨?hwny8, ?hyny8⟩) (by assumption) ?hrny8
      case hiny8 => (simp only [List.getElem?_toArray, List.getElem?_cons_succ, List.getElem?_cons_zero]; rfl)
      case hqny8 => exact fun _ _ _ h => h
      case hwny8 => rfl
      case hyny8 => exact fun w0 hSw => exec_lo rfl rfl rfl (HS2.out w0)
      (try simp only [Act.put, List.setIfInBounds_toArray, List.set_cons_zero, List.set_cons_succ])
      refine wpAnyH_ready (rs := [0]) (by kernel_rfl) (by simp) ?_
      refine' AllReadyH.cons ?hiny0 (fun K hK => ?hrny0) AllReadyH.nil
      case hiny0 => (simp only [List.getElem?_toArray, List.getElem?_cons_zero]; rfl)
      go_simp
      skip
      refine hK.out _ _ ?_ (fun hHeld => ?_)
      ·
       trivial
      clear hK K
      (try simp only [Act.put, List.setIfInBounds_toArray, List.set_cons_zero, List.set_cons_succ])
      refine wpAnyH_ready (rs := [4]) (by kernel_rfl) (by simp) ?_
      refine' AllReadyH.cons ?hiny4 (fun K hK => ?hrny4) AllReadyH.nil
      case hiny4 => (simp only [List.getElem?_toArray, List.getElem?_cons_succ, List.getElem?_cons_zero]; rfl)
      refine want_append (t := 27) rfl rfl rfl rfl HR1.out ?_
      refine hK.out _ _ ?_ (fun hHeld => ?_)
      ·
       trivial
      clear hK K
      (try simp only [Act.put, List.setIfInBounds_toArray, List.set_cons_zero, List.set_cons_succ])
      refine wpAnyH_ready (rs := [9]) (by kernel_rfl) (by simp) ?_
      refine' AllReadyH.cons ?hiny9 (fun K hK => ?hrny9) AllReadyH.nil
      case hiny9 => (simp only [List.getElem?_toArray, List.getElem?_cons_succ, List.getElem?_cons_zero]; rfl)
      refine want_append (t := 27) rfl rfl rfl rfl HR2.out ?_
      refine hK.out _ _ ?_ (fun hHeld => ?_)
      ·
       trivial
      clear hK K
      (try simp only [Act.put, List.setIfInBounds_toArray, List.set_cons_zero, List.set_cons_succ])
      refine' wpAnyH_take (i := 10) ?hiny10 (by kernel_rfl) (by kernel_rfl) (by kernel_rfl) ?hqny10 (Or.inl ⟨?hwny10, ?hyny10⟩) (by assumption) ?hrny10
      case hiny10 => (simp only [List.getElem?_toArray, List.getElem?_cons_succ, List.getElem?_cons_zero]; rfl)
      case hqny10 => exact fun _ _ _ h => h
      case hwny10 => rfl
      case hyny10 => (intro w0 hSw; (try dsimp only at hSw); go_simp; try with_reducible rfl)
      (try simp only [Act.put, List.setIfInBounds_toArray, List.set_cons_zero, List.set_cons_succ])
      refine wpAnyH_done (by kernel_rfl) ?_ _
      clear HR1 HR2 HS1 HS2 hHeld
      go_upto_region 22 with fail
      have hi9 := (HZ8.out.ids.next HB9.out).next (w' := w9.drew) ((Below.refl _ w9).drew)
      obtain ⟨v3, w10, v4, w11, r3, r4, hcuti, hb11, hlo11⟩ := cut_ids hi9 (by rw [idsP_len]; exact HPL1.out) (k := kk) (by rw [idsP_len]; exact HKP.out) 22 22
      have HR3 := Lib.hid r3
      have HR4 := Lib.hid r4
      have HS3 : Hid _ := Lib.hid (fun u => (slice_hi hi9 kk (by omega) u).1)
      have HS4 : Hid _ := Lib.hid (fun u => (slice_lo hi9 (kk + 1) (by omega) u).1)
      rw [← idsP_cut] at hcuti
      have hb9d := HB9.out.trans (((Below.refl _ w9).drew.trans hb11).mono HB9.out.size)
      have hcut2 := (HCUT.out.next (w' := w9.drew) ((Below.refl _ w9).drew)).next hb11
      have hz11 := HZ8.out.lefts (F := fun _ => True) hb9d hcut2 hcuti (fun p hp => HZ8.out.subl p (List.mem_of_mem_eraseIdx (by rw [List.eraseIdx_eq_take_drop_succ]; exact hp))) HLO9.out (fun b off n c e => Nat.le_trans HB9.out.size (hlo11 b off n c e))
      have HZ11 := Lib.hid hz11
      have hbest : Hid (best (pairs (hs Pl)) Pl.length = kk) := Lib.hid (by rw [← HNL.out, HKK.out])
      clear hi9 r3 r4 hcuti hb11 hlo11 hb9d hcut2 hz11
      refine wp_region_held_drew (S := fun _ => True) (by kernel_rfl) ?_ (fun hHeld => ?_)
      ·
       trivial
      refine' wpAnyH_take (i := 1) ?hinw1 (by kernel_rfl) (by kernel_rfl) (by kernel_rfl) ?hqnw1 (Or.inl ⟨?hwnw1, ?hynw1⟩) (by assumption) ?hrnw1
      case hinw1 => (simp only [List.getElem?_toArray, List.getElem?_cons_succ, List.getElem?_cons_zero]; rfl)
      case hqnw1 => exact fun _ _ _ h => h
      case hwnw1 => rfl
      case hynw1 => (intro w0 hSw; (try dsimp only at hSw); go_simp; try with_reducible rfl)
      (try simp only [Act.put, List.setIfInBounds_toArray, List.set_cons_zero, List.set_cons_succ])
      refine' wpAnyH_take (i := 2) ?hinw2 (by kernel_rfl) (by kernel_rfl) (by kernel_rfl) ?hqnw2 (Or.inl ⟨?hwnw2, ?hynw2⟩) (by assumption) ?hrnw2
      case hinw2 => (simp only [List.getElem?_toArray, List.getElem?_cons_succ, List.getElem?_cons_zero]; rfl)
      case hqnw2 => exact fun _ _ _ h => h
      case hwnw2 => rfl
      case hynw2 => (intro w0 hSw; (try dsimp only at hSw); go_simp; try with_reducible rfl)
      (try simp only [Act.put, List.setIfInBounds_toArray, List.set_cons_zero, List.set_cons_succ])
      refine' wpAnyH_take (i := 3) ?hinw3 (by kernel_rfl) (by kernel_rfl) (by kernel_rfl) ?hqnw3 (Or.inl ⟨?hwnw3, ?hynw3⟩) (by assumption) ?hrnw3
      case hinw3 => (simp only [List.getElem?_toArray, List.getElem?_cons_succ, List.getElem?_cons_zero]; rfl)
      case hqnw3 => exact fun _ _ _ h => h
      case hwnw3 => rfl
      case hynw3 => exact fun w0 hSw => exec_hi rfl rfl rfl (HS3.out w0)
      (try simp only [Act.put, List.setIfInBounds_toArray, List.set_cons_zero, List.set_cons_succ])
      refine' wpAnyH_take (i := 5) ?hinw5 (by kernel_rfl) (by kernel_rfl) (by kernel_rfl) ?hqnw5 (Or.inl ⟨?hwnw5, ?hynw5⟩) (by assumption) ?hrnw5
      case hinw5 => (simp only [List.getElem?_toArray, List.getElem?_cons_succ, List.getElem?_cons_zero]; rfl)
      case hqnw5 => exact fun _ _ _ h => h
      case hwnw5 => rfl
      case hynw5 => (intro w0 hSw; (try dsimp only at hSw); go_simp; try with_reducible rfl)
      (try simp only [Act.put, List.setIfInBounds_toArray, List.set_cons_zero, List.set_cons_succ])
      refine' wpAnyH_take (i := 6) ?hinw6 (by kernel_rfl) (by kernel_rfl) (by kernel_rfl) ?hqnw6 (Or.inl ⟨?hwnw6, ?hynw6⟩) (by assumption) ?hrnw6
      case hinw6 => (simp only [List.getElem?_toArray, List.getElem?_cons_succ, List.getElem?_cons_zero]; rfl)
      case hqnw6 => exact fun _ _ _ h => h
      case hwnw6 => rfl
      case hynw6 => (intro w0 hSw; (try dsimp only at hSw); go_simp; try with_reducible rfl)
      (try simp only [Act.put, List.setIfInBounds_toArray, List.set_cons_zero, List.set_cons_succ])
      refine' wpAnyH_take (i := 7) ?hinw7 (by kernel_rfl) (by kernel_rfl) (by kernel_rfl) ?hqnw7 (Or.inl ⟨?hwnw7, ?hynw7⟩) (by assumption) ?hrnw7
      case hinw7 => (simp only [List.getElem?_toArray, List.getElem?_cons_succ, List.getElem?_cons_zero]; rfl)
      case hqnw7 => exact fun _ _ _ h => h
      case hwnw7 => rfl
      case hynw7 => exact fun w0 hSw => by (go_simp; (try simp only [hwr.out]); with_reducible rfl)
      (try simp only [Act.put, List.setIfInBounds_toArray, List.set_cons_zero, List.set_cons_succ])
      refine' wpAnyH_take (i := 8) ?hinw8 (by kernel_rfl) (by kernel_rfl) (by kernel_rfl) ?hqnw8 (Or.inl ⟨?hwnw8, ?hynw8⟩) (by assumption) ?hrnw8
      case hinw8 => (simp only [List.getElem?_toArray, List.getElem?_cons_succ, List.getElem?_cons_zero]; rfl)
      case hqnw8 => exact fun _ _ _ h => h
      case hwnw8 => rfl
      case hynw8 => exact fun w0 hSw => exec_lo rfl rfl rfl (HS4.out w0)
      (try simp only [Act.put, List.setIfInBounds_toArray, List.set_cons_zero, List.set_cons_succ])
      refine wpAnyH_ready (rs := [0]) (by kernel_rfl) (by simp) ?_
      refine' AllReadyH.cons ?hinw0 (fun K hK => ?hrnw0) AllReadyH.nil
      case hinw0 => (simp only [List.getElem?_toArray, List.getElem?_cons_zero]; rfl)
      go_simp
      skip
      refine hK.out _ _ ?_ (fun hHeld => ?_)
      ·
       trivial
      clear hK K
      (try simp only [Act.put, List.setIfInBounds_toArray, List.set_cons_zero, List.set_cons_succ])
      refine wpAnyH_ready (rs := [4]) (by kernel_rfl) (by simp) ?_
      refine' AllReadyH.cons ?hinw4 (fun K hK => ?hrnw4) AllReadyH.nil
      case hinw4 => (simp only [List.getElem?_toArray, List.getElem?_cons_succ, List.getElem?_cons_zero]; rfl)
      refine want_append (t := 22) rfl rfl rfl rfl HR3.out ?_
      refine hK.out _ _ ?_ (fun hHeld => ?_)
      ·
       trivial
      clear hK K
      (try simp only [Act.put, List.setIfInBounds_toArray, List.set_cons_zero, List.set_cons_succ])
      refine wpAnyH_ready (rs := [9]) (by kernel_rfl) (by simp) ?_
      refine' AllReadyH.cons ?hinw9 (fun K hK => ?hrnw9) AllReadyH.nil
      case hinw9 => (simp only [List.getElem?_toArray, List.getElem?_cons_succ, List.getElem?_cons_zero]; rfl)
      refine want_append (t := 22) rfl rfl rfl rfl HR4.out ?_
      refine hK.out _ _ ?_ (fun hHeld => ?_)
      ·
       trivial
      clear hK K
      (try simp only [Act.put, List.setIfInBounds_toArray, List.set_cons_zero, List.set_cons_succ])
      refine' wpAnyH_take (i := 10) ?hinw10 (by kernel_rfl) (by kernel_rfl) (by kernel_rfl) ?hqnw10 (Or.inl ⟨?hwnw10, ?hynw10⟩) (by assumption) ?hrnw10
      case hinw10 => (simp only [List.getElem?_toArray, List.getElem?_cons_succ, List.getElem?_cons_zero]; rfl)
      case hqnw10 => exact fun _ _ _ h => h
      case hwnw10 => rfl
      case hynw10 => (intro w0 hSw; (try dsimp only at hSw); go_simp; try with_reducible rfl)
      (try simp only [Act.put, List.setIfInBounds_toArray, List.set_cons_zero, List.set_cons_succ])
      refine wpAnyH_done (by kernel_rfl) ?_ _
      clear HR3 HR4 HS3 HS4 hHeld
      go_wp2_with fail
      go_roundw
      case rel => exact ⟨cut1 Pl kk, T ++ [(qh, qv)], withL pz y, m - 1, HZ11.out, by rw [List.length_append, List.length_singleton]; have := HTM.out; rw [← HNT.out] at this ⊢; omega, by rw [cut1_len HKP.out, ← HNL.out]; have := HPL.out; rw [← HNL.out] at this; omega, by
       rw [HTK.out]
       obtain ⟨m1, rfl⟩ : ∃ x, m = x + 1 := ⟨m - 1, by have := HTM.out; rw [← HNT.out] at this; omega⟩
       rw [take_one (by have := HKP.out; omega), hbest.out, HQ.out, ← HY.out]
       unfold hs
       rw [List.map_append]
       rfl, by
       have := ids.withL_len pz y
       rw [List.length_append, List.length_singleton]
       have := HPZ.out
       omega, fun h0 => (by have := (ids.mem_withL (L := pz) (x := y) (y := y)).2 (.inl rfl); rw [h0] at this; cases this), fun b off n c e => (HG.out.2 b off n c e).elim (fun h => by have := HLE6.out; omega) (fun ⟨off', e'⟩ => HPS.out b off' np pc2 (by rw [e']))⟩
      case measure => simp [slLen]; omega
end Go.Proofs.YtpeneeddfgmjpaaGreatDoor.rul
