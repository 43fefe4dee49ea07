/-
 The landed rule: Next; what the package answers.
-/
import Derived.Test.YtpeneeddfgmjpaaGreatDoorRvd
import Derived.Test.YtpeneeddfgmjpaaGreatDoorRuis
import Derived.Test.YtpeneeddfgmjpaaGreatDoorSumc
namespace Go.Proofs.YtpeneeddfgmjpaaGreatDoor.rul
open Go.RowKit Go.Proofs.YtpeneeddfgmjpaaGreatDoor.mem Go.Proofs.YtpeneeddfgmjpaaGreatDoor.sha Go.Proofs.YtpeneeddfgmjpaaGreatDoor.ids Go.Proofs.YtpeneeddfgmjpaaGreatDoor.rows Go.Proofs.YtpeneeddfgmjpaaGreatDoor.hdr Go.Proofs.YtpeneeddfgmjpaaGreatDoor.hds
open Go.Proofs.YtpeneeddfgmjpaaGreatDoor.opn (zid)

theorem run_store_s {w : World} {g i : Nat} {t : TypeId} {cs : Array Value} (h : Blk w g t cs) (hi : i < cs.size) (s : ByteArray) : (Instr.storeAt 9 (.pointer (some ⟨g, i, none⟩)) (.string s)).run Tryz.prog w = .ok () (w.setCell ⟨g, i, none⟩ (.string s)) := by
 have hc := h.cell i
 rw [Array.getElem?_eq_getElem hi] at hc
 have hf := h.frozen i
 go_simp
theorem run_store_n {w : World} {g i : Nat} {t : TypeId} {cs : Array Value} (h : Blk w g t cs) (hi : i < cs.size) (n : Int) : (Instr.storeAt 3 (.pointer (some ⟨g, i, none⟩)) (.int .i64 n)).run Tryz.prog w = .ok () (w.setCell ⟨g, i, none⟩ (.int .i64 n)) := by
 have hc := h.cell i
 rw [Array.getElem?_eq_getElem hi] at hc
 have hf := h.frozen i
 go_simp
/-- the five fields that are told, stored one behind the other; the id's box stands beside -/
structure Fields (w : World) (H X : Nat) (u : Value) (p : List Id) (h : Int) (t : List UInt8) (a q z : Int) (c : Id) (s1 s2 s3 s4 s5 : World) : Prop where
 r0 : (Instr.storeAt 9 (.pointer (some ⟨H, 2, none⟩)) (.string (oct.tx t))).run Tryz.prog w = .ok () s1
 r1 : (Instr.storeAt 3 (.pointer (some ⟨H, 3, none⟩)) (.int .i64 a)).run Tryz.prog s1 = .ok () s2
 r2 : (Instr.storeAt 3 (.pointer (some ⟨H, 4, none⟩)) (.int .i64 q)).run Tryz.prog s2 = .ok () s3
 r3 : (Instr.storeAt 3 (.pointer (some ⟨H, 5, none⟩)) (.int .i64 z)).run Tryz.prog s3 = .ok () s4
 r4 : (Instr.storeAt 24 (.pointer (some ⟨H, 6, none⟩)) (.agg (bv c).toArray)).run Tryz.prog s4 = .ok () s5
 l0 : (Instr.loadAt 24 (.pointer (some ⟨X, 0, none⟩))).run Tryz.prog w = .ok (.agg (bv c).toArray) w
 l1 : (Instr.loadAt 24 (.pointer (some ⟨X, 0, none⟩))).run Tryz.prog s1 = .ok (.agg (bv c).toArray) s1
 l2 : (Instr.loadAt 24 (.pointer (some ⟨X, 0, none⟩))).run Tryz.prog s2 = .ok (.agg (bv c).toArray) s2
 l3 : (Instr.loadAt 24 (.pointer (some ⟨X, 0, none⟩))).run Tryz.prog s3 = .ok (.agg (bv c).toArray) s3
 l4 : (Instr.loadAt 24 (.pointer (some ⟨X, 0, none⟩))).run Tryz.prog s4 = .ok (.agg (bv c).toArray) s4
 b : Blk s5 H 26 (hdc ⟨p, h, t, a, q, z, c⟩ u).toArray
 t : Turn (· = H) w s5
theorem fields_run {w : World} {H X : Nat} {u : Value} {p : List Id} {h : Int} (hb : Blk w H 26 (hdc ⟨p, h, [], 0, 0, 0, zid⟩ u).toArray) {c : Id} (hx : Blk w X 24 (bv c).toArray) (hne : X ≠ H) (hc : c.length = 32) (t : List UInt8) (a q z : Int) :
  ∃ s1 s2 s3 s4 s5, Fields w H X u p h t a q z c s1 s2 s3 s4 s5 := by
 have hsz : ∀ (M : Hd), M.commit.length = 32 → ∀ i, i < 6 → i < (hdc M u).toArray.size := fun M hM i hi => by rw [hdc_size _ _ hM]; omega
 have b1 := hdm_topic hb t
 have x1 : Blk (w.setCell ⟨H, 2, none⟩ (.string (oct.tx t))) X 24 (bv c).toArray := hx.far hne _
 have b2 := hdm_author b1 a
 have x2 := x1.far (p := ⟨H, 3, none⟩) hne (.int .i64 a)
 have b3 := hdm_seq b2 q
 have x3 := x2.far (p := ⟨H, 4, none⟩) hne (.int .i64 q)
 have b4 := hdm_size b3 z
 have x4 := x3.far (p := ⟨H, 5, none⟩) hne (.int .i64 z)
 have r4 := hdm_commit b4 zid32 c hc
 have t0 : Turn (· = H) w w := Turn.refl _ _
 refine ⟨_, _, _, _, _, ⟨run_store_s hb (hsz _ zid32 2 (by decide)) _, run_store_n b1 (hsz _ zid32 3 (by decide)) a, run_store_n b2 (hsz _ zid32 4 (by decide)) q, run_store_n b3 (hsz _ zid32 5 (by decide)) z, r4, box_load hx hc 0, box_load x1 hc 0, box_load x2 hc 0, box_load x3 hc 0, box_load x4 hc 0, setRow_heap _ _ _ _ _ _ b4, ?_⟩⟩
 exact ((((t0.setCell (p := ⟨H, 2, none⟩) rfl _).setCell (p := ⟨H, 3, none⟩) rfl _).setCell (p := ⟨H, 4, none⟩) rfl _).setCell (p := ⟨H, 5, none⟩) rfl _).trans (turn_row _ H _)

set_option maxHeartbeats 16000000 in
set_option maxRecDepth 100000 in
theorem next_any (v : Value) (P : HP) (t : List UInt8) (a q z : Int) (c : Id) (w : World) (hT : Tabs w) (hv : HsV w v P) (hf : Few P) (hn : P.length ≤ 1000) (hc : c.length = 32) (ht : t.length ≤ 140737488351232) :
  Calls Tryz.prog 15 #[v, .string (oct.tx t), .int .i64 a, .int .i64 q, .int .i64 z, idv c] w fun e w' => NextNew w (nextR (hs P) t a q z c) e w' := by
 obtain ⟨va, vc, rfl⟩ := hv.form
 obtain ⟨X, hX⟩ : ∃ S, S = w.heap.size := ⟨_, rfl⟩
 obtain ⟨w1, hw1⟩ : ∃ y, y = (w.alloc (.cells (bv c).toArray 24)).alloc (.cells (hdc zhd nv).toArray 26) := ⟨_, rfl⟩
 have hbx : Blk w1 X 24 (bv c).toArray := by rw [hw1, hX]; exact (Blk.new w _ _).alloc _
 have hbr : Blk w1 (X + 1) 26 (hdc zhd nv).toArray := by rw [hw1, hX]; exact Blk.at_ (by simp) _ _
 have hbl : Below w.heap.size w w1 := by rw [hw1]; exact ((Below.refl _ _).alloc (Nat.le_refl _) _).alloc (by simp) _
 have hpl := places_any _ P w1 (hT.next hbl) (hv.next hbl) hf hn
 obtain ⟨n, hnn⟩ : ∃ n, n = P.length := ⟨_, rfl⟩
 rw [← hnn] at hpl hn ⊢
 have HBX := Lib.hid hbx
 have HBR := Lib.hid hbr
 have HBL := Lib.hid hbl
 have HPL := Lib.hid hpl
 have HT := Lib.hid hT
 have HNN := Lib.hid hnn
 have HW := Lib.hid hw1
 have HXX := Lib.hid hX
 have HC := Lib.hid hc
 have HTL := Lib.hid ht
 have HX1 : Hid (X + 1 < w1.heap.size) := Lib.hid hbr.lt
 unfold idv
 clear hbx hbr hbl hpl hT hv hf hnn hw1 hX hc ht
 by_cases he : errR (hs P) = 0
 case neg =>
  have hq := HPL.out.mono fun e w' h => (show e = .returned (.tuple #[.slice none 0 0, .int .i64 (errR (hs P))]) ∧ Below w1.heap.size w1 w' from ⟨h.1 he, h.2.2⟩)
  have HE : Hid (nextR (hs P) t a q z c = (zhd, errR (hs P))) := Lib.hid (by unfold nextR; rw [if_pos he])
  obtain ⟨er, her⟩ : ∃ e, e = errR (hs P) := ⟨_, rfl⟩
  rw [← her] at hq HE he
  have hne : (er != 0) = true := bne_iff_ne.2 he
  have HQ := Lib.hid hq
  clear hq her he HPL
  go_enter Tryz.func15, Tryz.ntmps15
  go_upto_region 1 with fail
  refine wp_at HW.out.symm ?_
  rw [← HXX.out]
  clear HW
  go_wp2_with (first
   | (go_at_call 25; (with_reducible refine HQ.out.mono ?_); rintro e w2 ⟨rfl, hb2⟩; have hbr2 := HBR.out.below hb2 HBR.out.lt; have HST := Lib.hid (run_store_hd hbr2 (hdc_size _ _ zcom) zhd nv zcom nv_one); have HB2 := Lib.hid hb2; have HBR3 : Hid (Blk (w2.setRow (X + 1) (hdc zhd nv).toArray) (X + 1) 26 (hdc zhd nv).toArray) := Lib.hid (setRow_heap _ _ _ _ _ _ hbr2); clear hb2 hbr2 HQ)
   | ((with_reducible refine step_build (t := 26) (parts := #[]) (ps := #[]) (v := ?bve1) ?bge1 ?boe1 ?bxe1 ?bre1 ?bhe1); (case bge1 => rfl); (case boe1 => rfl); (case bxe1 => simp); (case bre1 => exact run_build_z _))
   | ((with_reducible refine step_store_run (t := 26) (x := .tmp 12) (y := .tmp 25) (p := ?spe1) (v := ?sve1) (w' := ?swe1) ?sge1 ?soe1 ?sxe1 ?sye1 ?sre1 ?she1); (case sge1 => rfl); (case soe1 => rfl); (case sxe1 => rfl); (case sye1 => rfl); (case sre1 => exact HST.out)))
  refine bodyPost_ret (results_hd rfl _ _ (X + 1) _ zhd nv rfl HBR3.out zcom) rfl ?_
  rw [HE.out]
  have hx := HXX.out
  exact ⟨nv, rfl, nv_rd _, below_row' (HBL.out.trans (HB2.out.mono HBL.out.size)) (by omega) _, fun h => absurd rfl h⟩
 have hq := HPL.out.mono fun e w' h => (show (∃ o, e = .returned (.tuple #[o, .int .i64 0]) ∧ OwnK w' (w1.heap.size ≤ ·) 60 33 o (pls (hs P))) ∧ Below w1.heap.size w1 w' from ⟨h.2.1 he, h.2.2⟩)
 have HQ := Lib.hid hq
 have HE0 := Lib.hid he
 have HLS : Hid ((pls (hs P)).length = n) := Lib.hid (by rw [pls_len, hs_len, HNN.out])
 clear hq he HPL
 go_enter Tryz.func15, Tryz.ntmps15
 go_upto_region 1 with fail
 refine wp_at HW.out.symm ?_
 rw [← HXX.out]
 clear HW
 go_upto_region 5 with (first
  | (go_at_call 25; (with_reducible refine HQ.out.mono ?_); rintro e w2 ⟨⟨o, rfl, ho⟩, hb2⟩; have hso := sort_any w1.heap.size o (hs P) w2 ho hb2.size (by rw [hs_len, ← HNN.out]; exact hn); obtain ⟨oa, oc, hof⟩ := ho.form; rw [HLS.out] at hof; subst hof; have HSO := Lib.hid hso; have HB2 := Lib.hid hb2; clear hso hb2 ho HQ)
  | (go_at_call 26; (with_reducible refine HSO.out.mono ?_); rintro e w3 ⟨rfl, D, hp, hsd, hi, hrd, hb3⟩))
 have hdn : D.length = n := by
  have := hp.length_eq
  rw [List.length_map] at this
  rw [this]; unfold pairs; rw [List.length_map, hs_len, HNN.out]
 have hb13 := HB2.out.trans hb3
 obtain ⟨k, hk⟩ : ∃ k, k = n - 4 := ⟨_, rfl⟩
 have hsl := slice_lo_k elpl hrd k (by omega) w3
 rw [← List.map_drop] at hsl
 have hki : ((k : Nat) : Int) = max 0 ((n : Int) - 4) := by omega
 rw [hki] at hsl
 have hbh := behind_any (D.drop k) _ w3 hsl.2 (fun x hx => hi x (List.mem_of_mem_drop hx)) (by rw [List.length_drop]; omega)
 have hmd := made_places hp hsd t a q z c
 rw [hdn, ← hk] at hmd
 have hwn : IntKind.i64.wrap ((n : Int) - 4) = (n : Int) - 4 := by rw [IntKind.wrap_i64]; omega
 have hs1 := hsl.1
 obtain ⟨Dd, hDd⟩ : ∃ d, d = D.drop k := ⟨_, rfl⟩
 rw [← hDd] at hbh hmd
 obtain ⟨lo, hlo⟩ : ∃ x, x = Value.slice (loK 33 oa oc k) (n - k) (oc - k) := ⟨_, rfl⟩
 rw [← hlo] at hs1 hbh
 obtain ⟨S3, hS3⟩ : ∃ s, s = w3.heap.size := ⟨_, rfl⟩
 have HS3 : Hid (X + 1 < S3) := Lib.hid (by have h1 := HX1.out; have h2 := hb13.size; omega)
 have HBX3 := Lib.hid (HBX.out.below hb13 HBX.out.lt)
 have HBR3 := Lib.hid (HBR.out.below hb13 HBR.out.lt)
 have HB3 := Lib.hid (HBL.out.trans (hb13.mono HBL.out.size))
 have HS3E := Lib.hid hS3
 have HBH := Lib.hid hbh
 have HMD := Lib.hid hmd
 have HPL : Hid ((setL (pis Dd)).length ≤ 4) := Lib.hid (by
  refine Nat.le_trans (setL_len _) ?_
  unfold pis
  rw [List.length_map, hDd, List.length_drop]; omega)
 clear hp hsd hi hrd hb3 hb13 hsl hki hbh hmd hDd hlo hS3 hdn HB2 HSO HBX HBR
 go_upto_region 6 with (first
  | ((with_reducible refine step_slice (t := 55) (x := .tmp 29) (lo := (some (.tmp 33))) (hi := none) (vx := ?pxs1) (v := ?pvs1) (vlo := ?pas1) (vhi := ?pbs1) ?pgs1 ?pos1 ?pps1 ?pqs1 ?pss1 ?prs1 ?phs1); (case pgs1 => rfl); (case pos1 => rfl); (case pps1 => rfl); (case pqs1 => rfl); (case pss1 => rfl); (case prs1 => exact hs1))
  | (go_at_call 28; (with_reducible refine HBH.out.mono ?_); rintro e w4 ⟨u, rfl, hou, hb4⟩; have hou1 := (hou.rdv (by have := HPL.out; omega)).1; have hh := run_hold w4 (behH Dd) u zid32 (rdv_one hou1); have hkb := held_blk w4 (behH Dd) u; have hbb := held_below w4 (behH Dd) u; obtain ⟨w5, hw5⟩ : ∃ x, x = heldW w4 (behH Dd) u := ⟨_, rfl⟩; rw [← hw5] at hh hkb hbb; have HH := Lib.hid hh; have HKB := Lib.hid hkb; have HBB := Lib.hid hbb; have HOU := Lib.hid hou; have HB4 := Lib.hid hb4; clear hou1 hh hkb hbb hw5 hou hb4 HBH)
  | ((with_reducible refine step_store_run (t := 26) (x := .tmp 16) (y := .tmp 35) (p := ?sps1) (v := ?svs1) (w' := ?sws1) ?sgs1 ?sos1 ?sxs1 ?sys1 ?srs1 ?shs1); (case sgs1 => rfl); (case sos1 => rfl); (case sxs1 => rfl); (case sys1 => rfl); (case srs1 => exact HH.out)))
 clear hs1 hwn HH
 obtain ⟨H, hH⟩ : ∃ s, s = w4.heap.size := ⟨_, rfl⟩
 rw [← hH] at HKB ⊢
 have hb45 : Below w3.heap.size w3 w5 := HB4.out.trans (HBB.out.mono HB4.out.size)
 have hXH : X + 1 < H := by have h1 := HS3.out; have h2 := HS3E.out; have h3 := HB4.out.size; omega
 have hbx5 := HBX3.out.below hb45 HBX3.out.lt
 have hbr5 := HBR3.out.below hb45 HBR3.out.lt
 obtain ⟨s1, s2, s3, s4, s5, hF⟩ := fields_run (w := w5.drew) HKB.out hbx5 (by omega) HC.out t a q z
 have HF := Lib.hid hF
 have hM : (⟨setL (pis Dd), aboveL (phs Dd), t, a, q, z, c⟩ : Hd) = madeR (hs P) t a q z c := HMD.out.symm
 obtain ⟨M, hMM⟩ : ∃ m, m = madeR (hs P) t a q z c := ⟨_, rfl⟩
 have hMc : M.commit.length = 32 := by rw [hMM]; exact HC.out
 have hMt : M.topic.length ≤ 140737488351232 := by rw [hMM]; exact HTL.out
 have hMp : M.parents = setL (pis Dd) := by rw [hMM, ← hM]
 have hbl5 : Blk s5 H 26 (hdc M u).toArray := by have := hF.b; rw [hM, ← hMM] at this; exact this
 have htn : Turn (· = H) w5 s5 := ⟨hF.t.os, hF.t.tape, hF.t.output, hF.t.size, hF.t.block⟩
 have hou5 : OwnI s5 (w3.heap.size ≤ ·) u M.parents := by
  rw [hMp]
  refine (HOU.out.below HBB.out).turn htn fun g hg hh => ?_
  have h1 := (HOU.out.2.1.lt g hg).2
  have hh : g = H := hh
  omega
 have hbr6 := hbr5.turn htn (by show ¬ X + 1 = H; omega)
 have hbs5 : Below w.heap.size w s5 := (HB3.out.trans (hb45.mono HB3.out.size)).trans (htn.below fun b hb => by have h1 := HXX.out; have hb : b = H := hb; omega)
 have hlm := run_load_hd hbl5 hMc
 have hck := lcheck_any M u s5 (HT.out.next hbs5) hMc (hou5.rdv (by rw [hMp]; have := HPL.out; omega)).1 (by rw [hMp]; have := HPL.out; omega) hMt
 obtain ⟨ec, hec⟩ : ∃ e, e = checkH M := ⟨_, rfl⟩
 rw [← hec] at hck
 have HEC : Hid (nextR (hs P) t a q z c = if ec ≠ 0 then (zhd, ec) else (M, 0)) := Lib.hid (by
  unfold nextR
  rw [if_neg (by rw [HE0.out]; simp), ← hMM, ← hec])
 obtain ⟨hv, hhv⟩ : ∃ x, x = hdv M u := ⟨_, rfl⟩
 rw [← hhv] at hlm hck
 have HHV := Lib.hid hhv
 have HCK := Lib.hid hck
 have HLM := Lib.hid hlm
 have HBM := Lib.hid hbl5
 have HOU5 := Lib.hid hou5
 have HBR6 := Lib.hid hbr6
 have HBS5 := Lib.hid hbs5
 have HMC := Lib.hid hMc
 have HMP4 : Hid (M.parents.length ≤ 4) := Lib.hid (by rw [hMp]; exact HPL.out)
 have HXH := Lib.hid hXH
 clear hb45 hbx5 hbr5 hF hM hMM hMt hMp hbl5 htn hou5 hbr6 hbs5 hlm hck hec hhv hMc hH hXH HKB HBB HOU HB4 HBX3 HBR3 HB3 HMD HPL
 refine wp_region_any (by kernel_rfl) ?_
 refine' wpAny_take (i := 0) ?hizn1 (by kernel_rfl) (by kernel_rfl) (by kernel_rfl) ?hqzn1 (Or.inl ⟨?hwzn1, ?hyzn1⟩) ?hrzn1
 case hizn1 => (simp only [List.getElem?_toArray, List.getElem?_cons_succ, List.getElem?_cons_zero]; rfl)
 case hqzn1 => exact fun _ _ _ h => h
 case hwzn1 => rfl
 case hyzn1 => (intro w0; go_simp; try with_reducible rfl)
 (try simp only [Act.put, List.setIfInBounds_toArray, List.set_cons_zero, List.set_cons_succ])
 refine' wpAny_take (i := 1) ?hizn2 (by kernel_rfl) (by kernel_rfl) (by kernel_rfl) ?hqzn2 (Or.inl ⟨?hwzn2, ?hyzn2⟩) ?hrzn2
 case hizn2 => (simp only [List.getElem?_toArray, List.getElem?_cons_succ, List.getElem?_cons_zero]; rfl)
 case hqzn2 => exact fun _ _ _ h => h
 case hwzn2 => rfl
 case hyzn2 => (intro w0; go_simp; try with_reducible rfl)
 (try simp only [Act.put, List.setIfInBounds_toArray, List.set_cons_zero, List.set_cons_succ])
 refine' wpAny_take (i := 2) ?hizn3 (by kernel_rfl) (by kernel_rfl) (by kernel_rfl) ?hqzn3 (Or.inl ⟨?hwzn3, ?hyzn3⟩) ?hrzn3
 case hizn3 => (simp only [List.getElem?_toArray, List.getElem?_cons_succ, List.getElem?_cons_zero]; rfl)
 case hqzn3 => exact fun _ _ _ h => h
 case hwzn3 => rfl
 case hyzn3 => (intro w0; go_simp; try with_reducible rfl)
 (try simp only [Act.put, List.setIfInBounds_toArray, List.set_cons_zero, List.set_cons_succ])
 refine' wpAny_take (i := 3) ?hizn4 (by kernel_rfl) (by kernel_rfl) (by kernel_rfl) ?hqzn4 (Or.inl ⟨?hwzn4, ?hyzn4⟩) ?hrzn4
 case hizn4 => (simp only [List.getElem?_toArray, List.getElem?_cons_succ, List.getElem?_cons_zero]; rfl)
 case hqzn4 => exact fun _ _ _ h => h
 case hwzn4 => rfl
 case hyzn4 => (intro w0; go_simp; try with_reducible rfl)
 (try simp only [Act.put, List.setIfInBounds_toArray, List.set_cons_zero, List.set_cons_succ])
 refine' wpAny_take (i := 5) ?hizn5 (by kernel_rfl) (by kernel_rfl) (by kernel_rfl) ?hqzn5 (Or.inl ⟨?hwzn5, ?hyzn5⟩) ?hrzn5
 case hizn5 => (simp only [List.getElem?_toArray, List.getElem?_cons_succ, List.getElem?_cons_zero]; rfl)
 case hqzn5 => exact fun _ _ _ h => h
 case hwzn5 => rfl
 case hyzn5 => (intro w0; go_simp; try with_reducible rfl)
 (try simp only [Act.put, List.setIfInBounds_toArray, List.set_cons_zero, List.set_cons_succ])
 refine wpAny_ready (rs := [4, 6]) (by kernel_rfl) (by simp) ?_
 refine' AllReady.cons ?hazn39 (fun K hK => ?hczn39) (AllReady.cons ?hbzn39 (fun K hK => ?hdzn39) AllReady.nil)
 case hazn39 => (simp only [List.getElem?_toArray, List.getElem?_cons_succ, List.getElem?_cons_zero]; rfl)
 case hbzn39 => (simp only [List.getElem?_toArray, List.getElem?_cons_succ, List.getElem?_cons_zero]; rfl)
 case hczn39 =>
  refine want_load rfl rfl rfl HF.out.l0 (hK _ _ ?_)
  clear hK K
  (try simp only [Act.put, List.setIfInBounds_toArray, List.set_cons_zero, List.set_cons_succ])
  refine wpAny_ready (rs := [6]) (by kernel_rfl) (by simp) ?_
  refine' AllReady.cons ?hizn14 (fun K hK => ?hrzn14) AllReady.nil
  case hizn14 => (simp only [List.getElem?_toArray, List.getElem?_cons_succ, List.getElem?_cons_zero]; rfl)
  refine want_store_run rfl rfl rfl rfl HF.out.r0 (hK _ _ ?_)
  clear hK K
  (try simp only [Act.put, List.setIfInBounds_toArray, List.set_cons_zero, List.set_cons_succ])
  refine' wpAny_take (i := 7) ?hizn6 (by kernel_rfl) (by kernel_rfl) (by kernel_rfl) ?hqzn6 (Or.inl ⟨?hwzn6, ?hyzn6⟩) ?hrzn6
  case hizn6 => (simp only [List.getElem?_toArray, List.getElem?_cons_succ, List.getElem?_cons_zero]; rfl)
  case hqzn6 => exact fun _ _ _ h => h
  case hwzn6 => rfl
  case hyzn6 => (intro w0; go_simp; try with_reducible rfl)
  (try simp only [Act.put, List.setIfInBounds_toArray, List.set_cons_zero, List.set_cons_succ])
  refine wpAny_ready (rs := [8]) (by kernel_rfl) (by simp) ?_
  refine' AllReady.cons ?hizn13 (fun K hK => ?hrzn13) AllReady.nil
  case hizn13 => (simp only [List.getElem?_toArray, List.getElem?_cons_succ, List.getElem?_cons_zero]; rfl)
  refine want_store_run rfl rfl rfl rfl HF.out.r1 (hK _ _ ?_)
  clear hK K
  (try simp only [Act.put, List.setIfInBounds_toArray, List.set_cons_zero, List.set_cons_succ])
  refine' wpAny_take (i := 9) ?hizn7 (by kernel_rfl) (by kernel_rfl) (by kernel_rfl) ?hqzn7 (Or.inl ⟨?hwzn7, ?hyzn7⟩) ?hrzn7
  case hizn7 => (simp only [List.getElem?_toArray, List.getElem?_cons_succ, List.getElem?_cons_zero]; rfl)
  case hqzn7 => exact fun _ _ _ h => h
  case hwzn7 => rfl
  case hyzn7 => (intro w0; go_simp; try with_reducible rfl)
  (try simp only [Act.put, List.setIfInBounds_toArray, List.set_cons_zero, List.set_cons_succ])
  refine wpAny_ready (rs := [10]) (by kernel_rfl) (by simp) ?_
  refine' AllReady.cons ?hizn12 (fun K hK => ?hrzn12) AllReady.nil
  case hizn12 => (simp only [List.getElem?_toArray, List.getElem?_cons_succ, List.getElem?_cons_zero]; rfl)
  refine want_store_run rfl rfl rfl rfl HF.out.r2 (hK _ _ ?_)
  clear hK K
  (try simp only [Act.put, List.setIfInBounds_toArray, List.set_cons_zero, List.set_cons_succ])
  refine' wpAny_take (i := 11) ?hizn8 (by kernel_rfl) (by kernel_rfl) (by kernel_rfl) ?hqzn8 (Or.inl ⟨?hwzn8, ?hyzn8⟩) ?hrzn8
  case hizn8 => (simp only [List.getElem?_toArray, List.getElem?_cons_succ, List.getElem?_cons_zero]; rfl)
  case hqzn8 => exact fun _ _ _ h => h
  case hwzn8 => rfl
  case hyzn8 => (intro w0; go_simp; try with_reducible rfl)
  (try simp only [Act.put, List.setIfInBounds_toArray, List.set_cons_zero, List.set_cons_succ])
  refine wpAny_ready (rs := [12]) (by kernel_rfl) (by simp) ?_
  refine' AllReady.cons ?hizn11 (fun K hK => ?hrzn11) AllReady.nil
  case hizn11 => (simp only [List.getElem?_toArray, List.getElem?_cons_succ, List.getElem?_cons_zero]; rfl)
  refine want_store_run rfl rfl rfl rfl HF.out.r3 (hK _ _ ?_)
  clear hK K
  (try simp only [Act.put, List.setIfInBounds_toArray, List.set_cons_zero, List.set_cons_succ])
  refine' wpAny_take (i := 13) ?hizn9 (by kernel_rfl) (by kernel_rfl) (by kernel_rfl) ?hqzn9 (Or.inl ⟨?hwzn9, ?hyzn9⟩) ?hrzn9
  case hizn9 => (simp only [List.getElem?_toArray, List.getElem?_cons_succ, List.getElem?_cons_zero]; rfl)
  case hqzn9 => exact fun _ _ _ h => h
  case hwzn9 => rfl
  case hyzn9 => (intro w0; go_simp; try with_reducible rfl)
  (try simp only [Act.put, List.setIfInBounds_toArray, List.set_cons_zero, List.set_cons_succ])
  refine wpAny_ready (rs := [14]) (by kernel_rfl) (by simp) ?_
  refine' AllReady.cons ?hizn10 (fun K hK => ?hrzn10) AllReady.nil
  case hizn10 => (simp only [List.getElem?_toArray, List.getElem?_cons_succ, List.getElem?_cons_zero]; rfl)
  refine want_store_run rfl rfl rfl rfl HF.out.r4 (hK _ _ ?_)
  clear hK K
  (try simp only [Act.put, List.setIfInBounds_toArray, List.set_cons_zero, List.set_cons_succ])
  refine wpAny_done (by kernel_rfl) ?_ _
  clear HF
  have hlm := HLM.out
  by_cases he : ec = 0
  case neg =>
   have hne : (ec != 0) = true := bne_iff_ne.2 he
   have HE := HEC.out
   rw [if_pos he] at HE
   have HE := Lib.hid HE
   clear he HLM
   go_wp2_with (first
    | ((with_reducible refine step_load (t := 26) (x := .tmp 16) (p := ?lpfa1) (v := ?lvfa1) ?lgfa1 ?lofa1 ?lxfa1 ?lrfa1 ?lhfa1); (case lgfa1 => rfl); (case lofa1 => rfl); (case lxfa1 => rfl); (case lrfa1 => exact hlm))
    | (go_at_call 20; (with_reducible refine HCK.out.mono ?_); rintro e w7 ⟨rfl, hb7⟩; have hbr7 := HBR6.out.below hb7 HBR6.out.lt; have HST := Lib.hid (run_store_hd hbr7 (hdc_size _ _ zcom) zhd nv zcom nv_one); have HB7 := Lib.hid hb7; have HBR8 : Hid (Blk (w7.setRow (X + 1) (hdc zhd nv).toArray) (X + 1) 26 (hdc zhd nv).toArray) := Lib.hid (setRow_heap _ _ _ _ _ _ hbr7); clear hb7 hbr7 HCK hlm)
    | ((with_reducible refine step_build (t := 26) (parts := #[]) (ps := #[]) (v := ?bvfb1) ?bgfb1 ?bofb1 ?bxfb1 ?brfb1 ?bhfb1); (case bgfb1 => rfl); (case bofb1 => rfl); (case bxfb1 => simp); (case brfb1 => exact run_build_z _))
    | ((with_reducible refine step_store_run (t := 26) (x := .tmp 12) (y := .tmp 50) (p := ?spfb1) (v := ?svfb1) (w' := ?swfb1) ?sgfb1 ?sofb1 ?sxfb1 ?syfb1 ?srfb1 ?shfb1); (case sgfb1 => rfl); (case sofb1 => rfl); (case sxfb1 => rfl); (case syfb1 => rfl); (case srfb1 => exact HST.out)))
   refine bodyPost_ret (results_hd rfl _ _ (X + 1) _ zhd nv rfl HBR8.out zcom) rfl ?_
   rw [HE.out]
   have hx := HXX.out
   exact ⟨nv, rfl, nv_rd _, below_row' (HBS5.out.trans (HB7.out.mono HBS5.out.size)) (by omega) _, fun h => absurd rfl h⟩
  subst he
  have HE := HEC.out
  rw [if_neg (by simp)] at HE
  have HE := Lib.hid HE
  clear HLM
  go_wp2_with (first
   | ((with_reducible refine step_load (t := 26) (x := .tmp 16) (p := ?lpfc1) (v := ?lvfc1) ?lgfc1 ?lofc1 ?lxfc1 ?lrfc1 ?lhfc1); (case lgfc1 => rfl); (case lofc1 => rfl); (case lxfc1 => rfl); (case lrfc1 => exact hlm))
   | (go_at_call 20; (with_reducible refine HCK.out.mono ?_); rintro e w7 ⟨rfl, hb7⟩; have hbr7 := HBR6.out.below hb7 HBR6.out.lt; have hou7 := HOU5.out.below hb7; have hlm7 := run_load_hd (HBM.out.below hb7 HBM.out.lt) HMC.out; rw [← HHV.out] at hlm7; have hst := run_store_hd hbr7 (hdc_size _ _ zcom) M u HMC.out (rdv_one (hou7.rdv (by have := HMP4.out; omega)).1); rw [← HHV.out] at hst; have HST := Lib.hid hst; have HB7 := Lib.hid hb7; have HOU7 := Lib.hid hou7; have HBR8 : Hid (Blk (w7.setRow (X + 1) (hdc M u).toArray) (X + 1) 26 (hdc M u).toArray) := Lib.hid (setRow_heap _ _ _ _ _ _ hbr7); clear hb7 hbr7 hou7 hst HCK hlm)
   | ((with_reducible refine step_load (t := 26) (x := .tmp 16) (p := ?lpfd1) (v := ?lvfd1) ?lgfd1 ?lofd1 ?lxfd1 ?lrfd1 ?lhfd1); (case lgfd1 => rfl); (case lofd1 => rfl); (case lxfd1 => rfl); (case lrfd1 => exact hlm7))
   | ((with_reducible refine step_store_run (t := 26) (x := .tmp 12) (y := .tmp 52) (p := ?spfd1) (v := ?svfd1) (w' := ?swfd1) ?sgfd1 ?sofd1 ?sxfd1 ?syfd1 ?srfd1 ?shfd1); (case sgfd1 => rfl); (case sofd1 => rfl); (case sxfd1 => rfl); (case syfd1 => rfl); (case srfd1 => exact HST.out)))
  refine bodyPost_ret (results_hd rfl _ _ (X + 1) _ M u rfl HBR8.out HMC.out) rfl ?_
  rw [HE.out]
  have hx := HXX.out
  have h3 := HS3.out
  have h4 := HS3E.out
  have hou8 := HOU7.out.turn (turn_row _ (X + 1) (hdc M u).toArray) (fun g hg hh => by have := HOU7.out.2.2 g hg; have hh : g = X + 1 := hh; have : w3.heap.size ≤ g := this; omega)
  refine ⟨u, rfl, (hou8.rdv (by have := HMP4.out; omega)).1, below_row' (HBS5.out.trans (HB7.out.mono HBS5.out.size)) (by omega) _, fun hne b off n' c' e => ?_⟩
  have h5 := (hou8.rdv (by have := HMP4.out; omega)).2 b off n' c' e
  have h5 : w3.heap.size ≤ b := h5
  omega
 case hdzn39 =>
  refine want_store_run rfl rfl rfl rfl HF.out.r0 (hK _ _ ?_)
  clear hK K
  (try simp only [Act.put, List.setIfInBounds_toArray, List.set_cons_zero, List.set_cons_succ])
  refine' wpAny_take (i := 7) ?hizn15 (by kernel_rfl) (by kernel_rfl) (by kernel_rfl) ?hqzn15 (Or.inl ⟨?hwzn15, ?hyzn15⟩) ?hrzn15
  case hizn15 => (simp only [List.getElem?_toArray, List.getElem?_cons_succ, List.getElem?_cons_zero]; rfl)
  case hqzn15 => exact fun _ _ _ h => h
  case hwzn15 => rfl
  case hyzn15 => (intro w0; go_simp; try with_reducible rfl)
  (try simp only [Act.put, List.setIfInBounds_toArray, List.set_cons_zero, List.set_cons_succ])
  refine wpAny_ready (rs := [4, 8]) (by kernel_rfl) (by simp) ?_
  refine' AllReady.cons ?hazn38 (fun K hK => ?hczn38) (AllReady.cons ?hbzn38 (fun K hK => ?hdzn38) AllReady.nil)
  case hazn38 => (simp only [List.getElem?_toArray, List.getElem?_cons_succ, List.getElem?_cons_zero]; rfl)
  case hbzn38 => (simp only [List.getElem?_toArray, List.getElem?_cons_succ, List.getElem?_cons_zero]; rfl)
  case hczn38 =>
   refine want_load rfl rfl rfl HF.out.l1 (hK _ _ ?_)
   clear hK K
   (try simp only [Act.put, List.setIfInBounds_toArray, List.set_cons_zero, List.set_cons_succ])
   refine wpAny_ready (rs := [8]) (by kernel_rfl) (by simp) ?_
   refine' AllReady.cons ?hizn22 (fun K hK => ?hrzn22) AllReady.nil
   case hizn22 => (simp only [List.getElem?_toArray, List.getElem?_cons_succ, List.getElem?_cons_zero]; rfl)
   refine want_store_run rfl rfl rfl rfl HF.out.r1 (hK _ _ ?_)
   clear hK K
   (try simp only [Act.put, List.setIfInBounds_toArray, List.set_cons_zero, List.set_cons_succ])
   refine' wpAny_take (i := 9) ?hizn16 (by kernel_rfl) (by kernel_rfl) (by kernel_rfl) ?hqzn16 (Or.inl ⟨?hwzn16, ?hyzn16⟩) ?hrzn16
   case hizn16 => (simp only [List.getElem?_toArray, List.getElem?_cons_succ, List.getElem?_cons_zero]; rfl)
   case hqzn16 => exact fun _ _ _ h => h
   case hwzn16 => rfl
   case hyzn16 => (intro w0; go_simp; try with_reducible rfl)
   (try simp only [Act.put, List.setIfInBounds_toArray, List.set_cons_zero, List.set_cons_succ])
   refine wpAny_ready (rs := [10]) (by kernel_rfl) (by simp) ?_
   refine' AllReady.cons ?hizn21 (fun K hK => ?hrzn21) AllReady.nil
   case hizn21 => (simp only [List.getElem?_toArray, List.getElem?_cons_succ, List.getElem?_cons_zero]; rfl)
   refine want_store_run rfl rfl rfl rfl HF.out.r2 (hK _ _ ?_)
   clear hK K
   (try simp only [Act.put, List.setIfInBounds_toArray, List.set_cons_zero, List.set_cons_succ])
   refine' wpAny_take (i := 11) ?hizn17 (by kernel_rfl) (by kernel_rfl) (by kernel_rfl) ?hqzn17 (Or.inl ⟨?hwzn17, ?hyzn17⟩) ?hrzn17
   case hizn17 => (simp only [List.getElem?_toArray, List.getElem?_cons_succ, List.getElem?_cons_zero]; rfl)
   case hqzn17 => exact fun _ _ _ h => h
   case hwzn17 => rfl
   case hyzn17 => (intro w0; go_simp; try with_reducible rfl)
   (try simp only [Act.put, List.setIfInBounds_toArray, List.set_cons_zero, List.set_cons_succ])
   refine wpAny_ready (rs := [12]) (by kernel_rfl) (by simp) ?_
   refine' AllReady.cons ?hizn20 (fun K hK => ?hrzn20) AllReady.nil
   case hizn20 => (simp only [List.getElem?_toArray, List.getElem?_cons_succ, List.getElem?_cons_zero]; rfl)
   refine want_store_run rfl rfl rfl rfl HF.out.r3 (hK _ _ ?_)
   clear hK K
   (try simp only [Act.put, List.setIfInBounds_toArray, List.set_cons_zero, List.set_cons_succ])
   refine' wpAny_take (i := 13) ?hizn18 (by kernel_rfl) (by kernel_rfl) (by kernel_rfl) ?hqzn18 (Or.inl ⟨?hwzn18, ?hyzn18⟩) ?hrzn18
   case hizn18 => (simp only [List.getElem?_toArray, List.getElem?_cons_succ, List.getElem?_cons_zero]; rfl)
   case hqzn18 => exact fun _ _ _ h => h
   case hwzn18 => rfl
   case hyzn18 => (intro w0; go_simp; try with_reducible rfl)
   (try simp only [Act.put, List.setIfInBounds_toArray, List.set_cons_zero, List.set_cons_succ])
   refine wpAny_ready (rs := [14]) (by kernel_rfl) (by simp) ?_
   refine' AllReady.cons ?hizn19 (fun K hK => ?hrzn19) AllReady.nil
   case hizn19 => (simp only [List.getElem?_toArray, List.getElem?_cons_succ, List.getElem?_cons_zero]; rfl)
   refine want_store_run rfl rfl rfl rfl HF.out.r4 (hK _ _ ?_)
   clear hK K
   (try simp only [Act.put, List.setIfInBounds_toArray, List.set_cons_zero, List.set_cons_succ])
   refine wpAny_done (by kernel_rfl) ?_ _
   clear HF
   have hlm := HLM.out
   by_cases he : ec = 0
   case neg =>
    have hne : (ec != 0) = true := bne_iff_ne.2 he
    have HE := HEC.out
    rw [if_pos he] at HE
    have HE := Lib.hid HE
    clear he HLM
    go_wp2_with (first
     | ((with_reducible refine step_load (t := 26) (x := .tmp 16) (p := ?lpfa2) (v := ?lvfa2) ?lgfa2 ?lofa2 ?lxfa2 ?lrfa2 ?lhfa2); (case lgfa2 => rfl); (case lofa2 => rfl); (case lxfa2 => rfl); (case lrfa2 => exact hlm))
     | (go_at_call 20; (with_reducible refine HCK.out.mono ?_); rintro e w7 ⟨rfl, hb7⟩; have hbr7 := HBR6.out.below hb7 HBR6.out.lt; have HST := Lib.hid (run_store_hd hbr7 (hdc_size _ _ zcom) zhd nv zcom nv_one); have HB7 := Lib.hid hb7; have HBR8 : Hid (Blk (w7.setRow (X + 1) (hdc zhd nv).toArray) (X + 1) 26 (hdc zhd nv).toArray) := Lib.hid (setRow_heap _ _ _ _ _ _ hbr7); clear hb7 hbr7 HCK hlm)
     | ((with_reducible refine step_build (t := 26) (parts := #[]) (ps := #[]) (v := ?bvfb2) ?bgfb2 ?bofb2 ?bxfb2 ?brfb2 ?bhfb2); (case bgfb2 => rfl); (case bofb2 => rfl); (case bxfb2 => simp); (case brfb2 => exact run_build_z _))
     | ((with_reducible refine step_store_run (t := 26) (x := .tmp 12) (y := .tmp 50) (p := ?spfb2) (v := ?svfb2) (w' := ?swfb2) ?sgfb2 ?sofb2 ?sxfb2 ?syfb2 ?srfb2 ?shfb2); (case sgfb2 => rfl); (case sofb2 => rfl); (case sxfb2 => rfl); (case syfb2 => rfl); (case srfb2 => exact HST.out)))
    refine bodyPost_ret (results_hd rfl _ _ (X + 1) _ zhd nv rfl HBR8.out zcom) rfl ?_
    rw [HE.out]
    have hx := HXX.out
    exact ⟨nv, rfl, nv_rd _, below_row' (HBS5.out.trans (HB7.out.mono HBS5.out.size)) (by omega) _, fun h => absurd rfl h⟩
   subst he
   have HE := HEC.out
   rw [if_neg (by simp)] at HE
   have HE := Lib.hid HE
   clear HLM
   go_wp2_with (first
    | ((with_reducible refine step_load (t := 26) (x := .tmp 16) (p := ?lpfc2) (v := ?lvfc2) ?lgfc2 ?lofc2 ?lxfc2 ?lrfc2 ?lhfc2); (case lgfc2 => rfl); (case lofc2 => rfl); (case lxfc2 => rfl); (case lrfc2 => exact hlm))
    | (go_at_call 20; (with_reducible refine HCK.out.mono ?_); rintro e w7 ⟨rfl, hb7⟩; have hbr7 := HBR6.out.below hb7 HBR6.out.lt; have hou7 := HOU5.out.below hb7; have hlm7 := run_load_hd (HBM.out.below hb7 HBM.out.lt) HMC.out; rw [← HHV.out] at hlm7; have hst := run_store_hd hbr7 (hdc_size _ _ zcom) M u HMC.out (rdv_one (hou7.rdv (by have := HMP4.out; omega)).1); rw [← HHV.out] at hst; have HST := Lib.hid hst; have HB7 := Lib.hid hb7; have HOU7 := Lib.hid hou7; have HBR8 : Hid (Blk (w7.setRow (X + 1) (hdc M u).toArray) (X + 1) 26 (hdc M u).toArray) := Lib.hid (setRow_heap _ _ _ _ _ _ hbr7); clear hb7 hbr7 hou7 hst HCK hlm)
    | ((with_reducible refine step_load (t := 26) (x := .tmp 16) (p := ?lpfd2) (v := ?lvfd2) ?lgfd2 ?lofd2 ?lxfd2 ?lrfd2 ?lhfd2); (case lgfd2 => rfl); (case lofd2 => rfl); (case lxfd2 => rfl); (case lrfd2 => exact hlm7))
    | ((with_reducible refine step_store_run (t := 26) (x := .tmp 12) (y := .tmp 52) (p := ?spfd2) (v := ?svfd2) (w' := ?swfd2) ?sgfd2 ?sofd2 ?sxfd2 ?syfd2 ?srfd2 ?shfd2); (case sgfd2 => rfl); (case sofd2 => rfl); (case sxfd2 => rfl); (case syfd2 => rfl); (case srfd2 => exact HST.out)))
   refine bodyPost_ret (results_hd rfl _ _ (X + 1) _ M u rfl HBR8.out HMC.out) rfl ?_
   rw [HE.out]
   have hx := HXX.out
   have h3 := HS3.out
   have h4 := HS3E.out
   have hou8 := HOU7.out.turn (turn_row _ (X + 1) (hdc M u).toArray) (fun g hg hh => by have := HOU7.out.2.2 g hg; have hh : g = X + 1 := hh; have : w3.heap.size ≤ g := this; omega)
   refine ⟨u, rfl, (hou8.rdv (by have := HMP4.out; omega)).1, below_row' (HBS5.out.trans (HB7.out.mono HBS5.out.size)) (by omega) _, fun hne b off n' c' e => ?_⟩
   have h5 := (hou8.rdv (by have := HMP4.out; omega)).2 b off n' c' e
   have h5 : w3.heap.size ≤ b := h5
   omega
  case hdzn38 =>
   refine want_store_run rfl rfl rfl rfl HF.out.r1 (hK _ _ ?_)
   clear hK K
   (try simp only [Act.put, List.setIfInBounds_toArray, List.set_cons_zero, List.set_cons_succ])
   refine' wpAny_take (i := 9) ?hizn23 (by kernel_rfl) (by kernel_rfl) (by kernel_rfl) ?hqzn23 (Or.inl ⟨?hwzn23, ?hyzn23⟩) ?hrzn23
   case hizn23 => (simp only [List.getElem?_toArray, List.getElem?_cons_succ, List.getElem?_cons_zero]; rfl)
   case hqzn23 => exact fun _ _ _ h => h
   case hwzn23 => rfl
   case hyzn23 => (intro w0; go_simp; try with_reducible rfl)
   (try simp only [Act.put, List.setIfInBounds_toArray, List.set_cons_zero, List.set_cons_succ])
   refine wpAny_ready (rs := [4, 10]) (by kernel_rfl) (by simp) ?_
   refine' AllReady.cons ?hazn37 (fun K hK => ?hczn37) (AllReady.cons ?hbzn37 (fun K hK => ?hdzn37) AllReady.nil)
   case hazn37 => (simp only [List.getElem?_toArray, List.getElem?_cons_succ, List.getElem?_cons_zero]; rfl)
   case hbzn37 => (simp only [List.getElem?_toArray, List.getElem?_cons_succ, List.getElem?_cons_zero]; rfl)
   case hczn37 =>
    refine want_load rfl rfl rfl HF.out.l2 (hK _ _ ?_)
    clear hK K
    (try simp only [Act.put, List.setIfInBounds_toArray, List.set_cons_zero, List.set_cons_succ])
    refine wpAny_ready (rs := [10]) (by kernel_rfl) (by simp) ?_
    refine' AllReady.cons ?hizn28 (fun K hK => ?hrzn28) AllReady.nil
    case hizn28 => (simp only [List.getElem?_toArray, List.getElem?_cons_succ, List.getElem?_cons_zero]; rfl)
    refine want_store_run rfl rfl rfl rfl HF.out.r2 (hK _ _ ?_)
    clear hK K
    (try simp only [Act.put, List.setIfInBounds_toArray, List.set_cons_zero, List.set_cons_succ])
    refine' wpAny_take (i := 11) ?hizn24 (by kernel_rfl) (by kernel_rfl) (by kernel_rfl) ?hqzn24 (Or.inl ⟨?hwzn24, ?hyzn24⟩) ?hrzn24
    case hizn24 => (simp only [List.getElem?_toArray, List.getElem?_cons_succ, List.getElem?_cons_zero]; rfl)
    case hqzn24 => exact fun _ _ _ h => h
    case hwzn24 => rfl
    case hyzn24 => (intro w0; go_simp; try with_reducible rfl)
    (try simp only [Act.put, List.setIfInBounds_toArray, List.set_cons_zero, List.set_cons_succ])
    refine wpAny_ready (rs := [12]) (by kernel_rfl) (by simp) ?_
    refine' AllReady.cons ?hizn27 (fun K hK => ?hrzn27) AllReady.nil
    case hizn27 => (simp only [List.getElem?_toArray, List.getElem?_cons_succ, List.getElem?_cons_zero]; rfl)
    refine want_store_run rfl rfl rfl rfl HF.out.r3 (hK _ _ ?_)
    clear hK K
    (try simp only [Act.put, List.setIfInBounds_toArray, List.set_cons_zero, List.set_cons_succ])
    refine' wpAny_take (i := 13) ?hizn25 (by kernel_rfl) (by kernel_rfl) (by kernel_rfl) ?hqzn25 (Or.inl ⟨?hwzn25, ?hyzn25⟩) ?hrzn25
    case hizn25 => (simp only [List.getElem?_toArray, List.getElem?_cons_succ, List.getElem?_cons_zero]; rfl)
    case hqzn25 => exact fun _ _ _ h => h
    case hwzn25 => rfl
    case hyzn25 => (intro w0; go_simp; try with_reducible rfl)
    (try simp only [Act.put, List.setIfInBounds_toArray, List.set_cons_zero, List.set_cons_succ])
    refine wpAny_ready (rs := [14]) (by kernel_rfl) (by simp) ?_
    refine' AllReady.cons ?hizn26 (fun K hK => ?hrzn26) AllReady.nil
    case hizn26 => (simp only [List.getElem?_toArray, List.getElem?_cons_succ, List.getElem?_cons_zero]; rfl)
    refine want_store_run rfl rfl rfl rfl HF.out.r4 (hK _ _ ?_)
    clear hK K
    (try simp only [Act.put, List.setIfInBounds_toArray, List.set_cons_zero, List.set_cons_succ])
    refine wpAny_done (by kernel_rfl) ?_ _
    clear HF
    have hlm := HLM.out
    by_cases he : ec = 0
    case neg =>
     have hne : (ec != 0) = true := bne_iff_ne.2 he
     have HE := HEC.out
     rw [if_pos he] at HE
     have HE := Lib.hid HE
     clear he HLM
     go_wp2_with (first
      | ((with_reducible refine step_load (t := 26) (x := .tmp 16) (p := ?lpfa3) (v := ?lvfa3) ?lgfa3 ?lofa3 ?lxfa3 ?lrfa3 ?lhfa3); (case lgfa3 => rfl); (case lofa3 => rfl); (case lxfa3 => rfl); (case lrfa3 => exact hlm))
      | (go_at_call 20; (with_reducible refine HCK.out.mono ?_); rintro e w7 ⟨rfl, hb7⟩; have hbr7 := HBR6.out.below hb7 HBR6.out.lt; have HST := Lib.hid (run_store_hd hbr7 (hdc_size _ _ zcom) zhd nv zcom nv_one); have HB7 := Lib.hid hb7; have HBR8 : Hid (Blk (w7.setRow (X + 1) (hdc zhd nv).toArray) (X + 1) 26 (hdc zhd nv).toArray) := Lib.hid (setRow_heap _ _ _ _ _ _ hbr7); clear hb7 hbr7 HCK hlm)
      | ((with_reducible refine step_build (t := 26) (parts := #[]) (ps := #[]) (v := ?bvfb3) ?bgfb3 ?bofb3 ?bxfb3 ?brfb3 ?bhfb3); (case bgfb3 => rfl); (case bofb3 => rfl); (case bxfb3 => simp); (case brfb3 => exact run_build_z _))
      | ((with_reducible refine step_store_run (t := 26) (x := .tmp 12) (y := .tmp 50) (p := ?spfb3) (v := ?svfb3) (w' := ?swfb3) ?sgfb3 ?sofb3 ?sxfb3 ?syfb3 ?srfb3 ?shfb3); (case sgfb3 => rfl); (case sofb3 => rfl); (case sxfb3 => rfl); (case syfb3 => rfl); (case srfb3 => exact HST.out)))
     refine bodyPost_ret (results_hd rfl _ _ (X + 1) _ zhd nv rfl HBR8.out zcom) rfl ?_
     rw [HE.out]
     have hx := HXX.out
     exact ⟨nv, rfl, nv_rd _, below_row' (HBS5.out.trans (HB7.out.mono HBS5.out.size)) (by omega) _, fun h => absurd rfl h⟩
    subst he
    have HE := HEC.out
    rw [if_neg (by simp)] at HE
    have HE := Lib.hid HE
    clear HLM
    go_wp2_with (first
     | ((with_reducible refine step_load (t := 26) (x := .tmp 16) (p := ?lpfc3) (v := ?lvfc3) ?lgfc3 ?lofc3 ?lxfc3 ?lrfc3 ?lhfc3); (case lgfc3 => rfl); (case lofc3 => rfl); (case lxfc3 => rfl); (case lrfc3 => exact hlm))
     | (go_at_call 20; (with_reducible refine HCK.out.mono ?_); rintro e w7 ⟨rfl, hb7⟩; have hbr7 := HBR6.out.below hb7 HBR6.out.lt; have hou7 := HOU5.out.below hb7; have hlm7 := run_load_hd (HBM.out.below hb7 HBM.out.lt) HMC.out; rw [← HHV.out] at hlm7; have hst := run_store_hd hbr7 (hdc_size _ _ zcom) M u HMC.out (rdv_one (hou7.rdv (by have := HMP4.out; omega)).1); rw [← HHV.out] at hst; have HST := Lib.hid hst; have HB7 := Lib.hid hb7; have HOU7 := Lib.hid hou7; have HBR8 : Hid (Blk (w7.setRow (X + 1) (hdc M u).toArray) (X + 1) 26 (hdc M u).toArray) := Lib.hid (setRow_heap _ _ _ _ _ _ hbr7); clear hb7 hbr7 hou7 hst HCK hlm)
     | ((with_reducible refine step_load (t := 26) (x := .tmp 16) (p := ?lpfd3) (v := ?lvfd3) ?lgfd3 ?lofd3 ?lxfd3 ?lrfd3 ?lhfd3); (case lgfd3 => rfl); (case lofd3 => rfl); (case lxfd3 => rfl); (case lrfd3 => exact hlm7))
     | ((with_reducible refine step_store_run (t := 26) (x := .tmp 12) (y := .tmp 52) (p := ?spfd3) (v := ?svfd3) (w' := ?swfd3) ?sgfd3 ?sofd3 ?sxfd3 ?syfd3 ?srfd3 ?shfd3); (case sgfd3 => rfl); (case sofd3 => rfl); (case sxfd3 => rfl); (case syfd3 => rfl); (case srfd3 => exact HST.out)))
    refine bodyPost_ret (results_hd rfl _ _ (X + 1) _ M u rfl HBR8.out HMC.out) rfl ?_
    rw [HE.out]
    have hx := HXX.out
    have h3 := HS3.out
    have h4 := HS3E.out
    have hou8 := HOU7.out.turn (turn_row _ (X + 1) (hdc M u).toArray) (fun g hg hh => by have := HOU7.out.2.2 g hg; have hh : g = X + 1 := hh; have : w3.heap.size ≤ g := this; omega)
    refine ⟨u, rfl, (hou8.rdv (by have := HMP4.out; omega)).1, below_row' (HBS5.out.trans (HB7.out.mono HBS5.out.size)) (by omega) _, fun hne b off n' c' e => ?_⟩
    have h5 := (hou8.rdv (by have := HMP4.out; omega)).2 b off n' c' e
    have h5 : w3.heap.size ≤ b := h5
    omega
   case hdzn37 =>
    refine want_store_run rfl rfl rfl rfl HF.out.r2 (hK _ _ ?_)
    clear hK K
    (try simp only [Act.put, List.setIfInBounds_toArray, List.set_cons_zero, List.set_cons_succ])
    refine' wpAny_take (i := 11) ?hizn29 (by kernel_rfl) (by kernel_rfl) (by kernel_rfl) ?hqzn29 (Or.inl ⟨?hwzn29, ?hyzn29⟩) ?hrzn29
    case hizn29 => (simp only [List.getElem?_toArray, List.getElem?_cons_succ, List.getElem?_cons_zero]; rfl)
    case hqzn29 => exact fun _ _ _ h => h
    case hwzn29 => rfl
    case hyzn29 => (intro w0; go_simp; try with_reducible rfl)
    (try simp only [Act.put, List.setIfInBounds_toArray, List.set_cons_zero, List.set_cons_succ])
    refine wpAny_ready (rs := [4, 12]) (by kernel_rfl) (by simp) ?_
    refine' AllReady.cons ?hazn36 (fun K hK => ?hczn36) (AllReady.cons ?hbzn36 (fun K hK => ?hdzn36) AllReady.nil)
    case hazn36 => (simp only [List.getElem?_toArray, List.getElem?_cons_succ, List.getElem?_cons_zero]; rfl)
    case hbzn36 => (simp only [List.getElem?_toArray, List.getElem?_cons_succ, List.getElem?_cons_zero]; rfl)
    case hczn36 =>
     refine want_load rfl rfl rfl HF.out.l3 (hK _ _ ?_)
     clear hK K
     (try simp only [Act.put, List.setIfInBounds_toArray, List.set_cons_zero, List.set_cons_succ])
     refine wpAny_ready (rs := [12]) (by kernel_rfl) (by simp) ?_
     refine' AllReady.cons ?hizn32 (fun K hK => ?hrzn32) AllReady.nil
     case hizn32 => (simp only [List.getElem?_toArray, List.getElem?_cons_succ, List.getElem?_cons_zero]; rfl)
     refine want_store_run rfl rfl rfl rfl HF.out.r3 (hK _ _ ?_)
     clear hK K
     (try simp only [Act.put, List.setIfInBounds_toArray, List.set_cons_zero, List.set_cons_succ])
     refine' wpAny_take (i := 13) ?hizn30 (by kernel_rfl) (by kernel_rfl) (by kernel_rfl) ?hqzn30 (Or.inl ⟨?hwzn30, ?hyzn30⟩) ?hrzn30
     case hizn30 => (simp only [List.getElem?_toArray, List.getElem?_cons_succ, List.getElem?_cons_zero]; rfl)
     case hqzn30 => exact fun _ _ _ h => h
     case hwzn30 => rfl
     case hyzn30 => (intro w0; go_simp; try with_reducible rfl)
     (try simp only [Act.put, List.setIfInBounds_toArray, List.set_cons_zero, List.set_cons_succ])
     refine wpAny_ready (rs := [14]) (by kernel_rfl) (by simp) ?_
     refine' AllReady.cons ?hizn31 (fun K hK => ?hrzn31) AllReady.nil
     case hizn31 => (simp only [List.getElem?_toArray, List.getElem?_cons_succ, List.getElem?_cons_zero]; rfl)
     refine want_store_run rfl rfl rfl rfl HF.out.r4 (hK _ _ ?_)
     clear hK K
     (try simp only [Act.put, List.setIfInBounds_toArray, List.set_cons_zero, List.set_cons_succ])
     refine wpAny_done (by kernel_rfl) ?_ _
     clear HF
     have hlm := HLM.out
     by_cases he : ec = 0
     case neg =>
      have hne : (ec != 0) = true := bne_iff_ne.2 he
      have HE := HEC.out
      rw [if_pos he] at HE
      have HE := Lib.hid HE
      clear he HLM
      go_wp2_with (first
       | ((with_reducible refine step_load (t := 26) (x := .tmp 16) (p := ?lpfa4) (v := ?lvfa4) ?lgfa4 ?lofa4 ?lxfa4 ?lrfa4 ?lhfa4); (case lgfa4 => rfl); (case lofa4 => rfl); (case lxfa4 => rfl); (case lrfa4 => exact hlm))
       | (go_at_call 20; (with_reducible refine HCK.out.mono ?_); rintro e w7 ⟨rfl, hb7⟩; have hbr7 := HBR6.out.below hb7 HBR6.out.lt; have HST := Lib.hid (run_store_hd hbr7 (hdc_size _ _ zcom) zhd nv zcom nv_one); have HB7 := Lib.hid hb7; have HBR8 : Hid (Blk (w7.setRow (X + 1) (hdc zhd nv).toArray) (X + 1) 26 (hdc zhd nv).toArray) := Lib.hid (setRow_heap _ _ _ _ _ _ hbr7); clear hb7 hbr7 HCK hlm)
       | ((with_reducible refine step_build (t := 26) (parts := #[]) (ps := #[]) (v := ?bvfb4) ?bgfb4 ?bofb4 ?bxfb4 ?brfb4 ?bhfb4); (case bgfb4 => rfl); (case bofb4 => rfl); (case bxfb4 => simp); (case brfb4 => exact run_build_z _))
       | ((with_reducible refine step_store_run (t := 26) (x := .tmp 12) (y := .tmp 50) (p := ?spfb4) (v := ?svfb4) (w' := ?swfb4) ?sgfb4 ?sofb4 ?sxfb4 ?syfb4 ?srfb4 ?shfb4); (case sgfb4 => rfl); (case sofb4 => rfl); (case sxfb4 => rfl); (case syfb4 => rfl); (case srfb4 => exact HST.out)))
      refine bodyPost_ret (results_hd rfl _ _ (X + 1) _ zhd nv rfl HBR8.out zcom) rfl ?_
      rw [HE.out]
      have hx := HXX.out
      exact ⟨nv, rfl, nv_rd _, below_row' (HBS5.out.trans (HB7.out.mono HBS5.out.size)) (by omega) _, fun h => absurd rfl h⟩
     subst he
     have HE := HEC.out
     rw [if_neg (by simp)] at HE
     have HE := Lib.hid HE
     clear HLM
     go_wp2_with (first
      | ((with_reducible refine step_load (t := 26) (x := .tmp 16) (p := ?lpfc4) (v := ?lvfc4) ?lgfc4 ?lofc4 ?lxfc4 ?lrfc4 ?lhfc4); (case lgfc4 => rfl); (case lofc4 => rfl); (case lxfc4 => rfl); (case lrfc4 => exact hlm))
      | (go_at_call 20; (with_reducible refine HCK.out.mono ?_); rintro e w7 ⟨rfl, hb7⟩; have hbr7 := HBR6.out.below hb7 HBR6.out.lt; have hou7 := HOU5.out.below hb7; have hlm7 := run_load_hd (HBM.out.below hb7 HBM.out.lt) HMC.out; rw [← HHV.out] at hlm7; have hst := run_store_hd hbr7 (hdc_size _ _ zcom) M u HMC.out (rdv_one (hou7.rdv (by have := HMP4.out; omega)).1); rw [← HHV.out] at hst; have HST := Lib.hid hst; have HB7 := Lib.hid hb7; have HOU7 := Lib.hid hou7; have HBR8 : Hid (Blk (w7.setRow (X + 1) (hdc M u).toArray) (X + 1) 26 (hdc M u).toArray) := Lib.hid (setRow_heap _ _ _ _ _ _ hbr7); clear hb7 hbr7 hou7 hst HCK hlm)
      | ((with_reducible refine step_load (t := 26) (x := .tmp 16) (p := ?lpfd4) (v := ?lvfd4) ?lgfd4 ?lofd4 ?lxfd4 ?lrfd4 ?lhfd4); (case lgfd4 => rfl); (case lofd4 => rfl); (case lxfd4 => rfl); (case lrfd4 => exact hlm7))
      | ((with_reducible refine step_store_run (t := 26) (x := .tmp 12) (y := .tmp 52) (p := ?spfd4) (v := ?svfd4) (w' := ?swfd4) ?sgfd4 ?sofd4 ?sxfd4 ?syfd4 ?srfd4 ?shfd4); (case sgfd4 => rfl); (case sofd4 => rfl); (case sxfd4 => rfl); (case syfd4 => rfl); (case srfd4 => exact HST.out)))
     refine bodyPost_ret (results_hd rfl _ _ (X + 1) _ M u rfl HBR8.out HMC.out) rfl ?_
     rw [HE.out]
     have hx := HXX.out
     have h3 := HS3.out
     have h4 := HS3E.out
     have hou8 := HOU7.out.turn (turn_row _ (X + 1) (hdc M u).toArray) (fun g hg hh => by have := HOU7.out.2.2 g hg; have hh : g = X + 1 := hh; have : w3.heap.size ≤ g := this; omega)
     refine ⟨u, rfl, (hou8.rdv (by have := HMP4.out; omega)).1, below_row' (HBS5.out.trans (HB7.out.mono HBS5.out.size)) (by omega) _, fun hne b off n' c' e => ?_⟩
     have h5 := (hou8.rdv (by have := HMP4.out; omega)).2 b off n' c' e
     have h5 : w3.heap.size ≤ b := h5
     omega
    case hdzn36 =>
     refine want_store_run rfl rfl rfl rfl HF.out.r3 (hK _ _ ?_)
     clear hK K
     (try simp only [Act.put, List.setIfInBounds_toArray, List.set_cons_zero, List.set_cons_succ])
     refine wpAny_ready (rs := [4]) (by kernel_rfl) (by simp) ?_
     refine' AllReady.cons ?hizn35 (fun K hK => ?hrzn35) AllReady.nil
     case hizn35 => (simp only [List.getElem?_toArray, List.getElem?_cons_succ, List.getElem?_cons_zero]; rfl)
     refine want_load rfl rfl rfl HF.out.l4 (hK _ _ ?_)
     clear hK K
     (try simp only [Act.put, List.setIfInBounds_toArray, List.set_cons_zero, List.set_cons_succ])
     refine' wpAny_take (i := 13) ?hizn33 (by kernel_rfl) (by kernel_rfl) (by kernel_rfl) ?hqzn33 (Or.inl ⟨?hwzn33, ?hyzn33⟩) ?hrzn33
     case hizn33 => (simp only [List.getElem?_toArray, List.getElem?_cons_succ, List.getElem?_cons_zero]; rfl)
     case hqzn33 => exact fun _ _ _ h => h
     case hwzn33 => rfl
     case hyzn33 => (intro w0; go_simp; try with_reducible rfl)
     (try simp only [Act.put, List.setIfInBounds_toArray, List.set_cons_zero, List.set_cons_succ])
     refine wpAny_ready (rs := [14]) (by kernel_rfl) (by simp) ?_
     refine' AllReady.cons ?hizn34 (fun K hK => ?hrzn34) AllReady.nil
     case hizn34 => (simp only [List.getElem?_toArray, List.getElem?_cons_succ, List.getElem?_cons_zero]; rfl)
     refine want_store_run rfl rfl rfl rfl HF.out.r4 (hK _ _ ?_)
     clear hK K
     (try simp only [Act.put, List.setIfInBounds_toArray, List.set_cons_zero, List.set_cons_succ])
     refine wpAny_done (by kernel_rfl) ?_ _
     clear HF
     have hlm := HLM.out
     by_cases he : ec = 0
     case neg =>
      have hne : (ec != 0) = true := bne_iff_ne.2 he
      have HE := HEC.out
      rw [if_pos he] at HE
      have HE := Lib.hid HE
      clear he HLM
      go_wp2_with (first
       | ((with_reducible refine step_load (t := 26) (x := .tmp 16) (p := ?lpfa5) (v := ?lvfa5) ?lgfa5 ?lofa5 ?lxfa5 ?lrfa5 ?lhfa5); (case lgfa5 => rfl); (case lofa5 => rfl); (case lxfa5 => rfl); (case lrfa5 => exact hlm))
       | (go_at_call 20; (with_reducible refine HCK.out.mono ?_); rintro e w7 ⟨rfl, hb7⟩; have hbr7 := HBR6.out.below hb7 HBR6.out.lt; have HST := Lib.hid (run_store_hd hbr7 (hdc_size _ _ zcom) zhd nv zcom nv_one); have HB7 := Lib.hid hb7; have HBR8 : Hid (Blk (w7.setRow (X + 1) (hdc zhd nv).toArray) (X + 1) 26 (hdc zhd nv).toArray) := Lib.hid (setRow_heap _ _ _ _ _ _ hbr7); clear hb7 hbr7 HCK hlm)
       | ((with_reducible refine step_build (t := 26) (parts := #[]) (ps := #[]) (v := ?bvfb5) ?bgfb5 ?bofb5 ?bxfb5 ?brfb5 ?bhfb5); (case bgfb5 => rfl); (case bofb5 => rfl); (case bxfb5 => simp); (case brfb5 => exact run_build_z _))
       | ((with_reducible refine step_store_run (t := 26) (x := .tmp 12) (y := .tmp 50) (p := ?spfb5) (v := ?svfb5) (w' := ?swfb5) ?sgfb5 ?sofb5 ?sxfb5 ?syfb5 ?srfb5 ?shfb5); (case sgfb5 => rfl); (case sofb5 => rfl); (case sxfb5 => rfl); (case syfb5 => rfl); (case srfb5 => exact HST.out)))
      refine bodyPost_ret (results_hd rfl _ _ (X + 1) _ zhd nv rfl HBR8.out zcom) rfl ?_
      rw [HE.out]
      have hx := HXX.out
      exact ⟨nv, rfl, nv_rd _, below_row' (HBS5.out.trans (HB7.out.mono HBS5.out.size)) (by omega) _, fun h => absurd rfl h⟩
     subst he
     have HE := HEC.out
     rw [if_neg (by simp)] at HE
     have HE := Lib.hid HE
     clear HLM
     go_wp2_with (first
      | ((with_reducible refine step_load (t := 26) (x := .tmp 16) (p := ?lpfc5) (v := ?lvfc5) ?lgfc5 ?lofc5 ?lxfc5 ?lrfc5 ?lhfc5); (case lgfc5 => rfl); (case lofc5 => rfl); (case lxfc5 => rfl); (case lrfc5 => exact hlm))
      | (go_at_call 20; (with_reducible refine HCK.out.mono ?_); rintro e w7 ⟨rfl, hb7⟩; have hbr7 := HBR6.out.below hb7 HBR6.out.lt; have hou7 := HOU5.out.below hb7; have hlm7 := run_load_hd (HBM.out.below hb7 HBM.out.lt) HMC.out; rw [← HHV.out] at hlm7; have hst := run_store_hd hbr7 (hdc_size _ _ zcom) M u HMC.out (rdv_one (hou7.rdv (by have := HMP4.out; omega)).1); rw [← HHV.out] at hst; have HST := Lib.hid hst; have HB7 := Lib.hid hb7; have HOU7 := Lib.hid hou7; have HBR8 : Hid (Blk (w7.setRow (X + 1) (hdc M u).toArray) (X + 1) 26 (hdc M u).toArray) := Lib.hid (setRow_heap _ _ _ _ _ _ hbr7); clear hb7 hbr7 hou7 hst HCK hlm)
      | ((with_reducible refine step_load (t := 26) (x := .tmp 16) (p := ?lpfd5) (v := ?lvfd5) ?lgfd5 ?lofd5 ?lxfd5 ?lrfd5 ?lhfd5); (case lgfd5 => rfl); (case lofd5 => rfl); (case lxfd5 => rfl); (case lrfd5 => exact hlm7))
      | ((with_reducible refine step_store_run (t := 26) (x := .tmp 12) (y := .tmp 52) (p := ?spfd5) (v := ?svfd5) (w' := ?swfd5) ?sgfd5 ?sofd5 ?sxfd5 ?syfd5 ?srfd5 ?shfd5); (case sgfd5 => rfl); (case sofd5 => rfl); (case sxfd5 => rfl); (case syfd5 => rfl); (case srfd5 => exact HST.out)))
     refine bodyPost_ret (results_hd rfl _ _ (X + 1) _ M u rfl HBR8.out HMC.out) rfl ?_
     rw [HE.out]
     have hx := HXX.out
     have h3 := HS3.out
     have h4 := HS3E.out
     have hou8 := HOU7.out.turn (turn_row _ (X + 1) (hdc M u).toArray) (fun g hg hh => by have := HOU7.out.2.2 g hg; have hh : g = X + 1 := hh; have : w3.heap.size ≤ g := this; omega)
     refine ⟨u, rfl, (hou8.rdv (by have := HMP4.out; omega)).1, below_row' (HBS5.out.trans (HB7.out.mono HBS5.out.size)) (by omega) _, fun hne b off n' c' e => ?_⟩
     have h5 := (hou8.rdv (by have := HMP4.out; omega)).2 b off n' c' e
     have h5 : w3.heap.size ≤ b := h5
     omega

theorem ru_is : RuIs Tabs where
 next := Tabs.next
 verdict := fun h u v P w hT hr hu hm hto hv hf hn => verdict_any h u v P w hT hr hu hm hto hv hf hn
 unknown := fun h u v P w hT hr hu hm hv hf hn => unknown_any h u v P w hT hr hu hm hv hf hn
 height := fun v P w _ hv _ hn => height_any v P w hv hn
 made := fun v P t a q z c w hT hv hf hn hc ht => next_any v P t a q z c w hT hv hf hn hc ht
end Go.Proofs.YtpeneeddfgmjpaaGreatDoor.rul
