/-
  petrelref14.Of: a body.
-/
import Derived.Test.YtbhkegdohiekfaaDoorEnof
namespace Go.Proofs.YtbhkegdohiekfaaDoor.ent
open Go.RowKit Go.Proofs.YtbhkegdohiekfaaDoor.mem Go.Proofs.YtbhkegdohiekfaaDoor.sha Go.Proofs.YtbhkegdohiekfaaDoor.ids
open Go.Proofs.YtbhkegdohiekfaaDoor.opn (b1 b2 b4 num txt idl byte rd rdN rdT rdI rdS rdL St Reads Stays endE zid mkId RdrS)
open Go.Proofs.YtbhkegdohiekfaaDoor.topic (kindOf)

set_option maxHeartbeats 8000000 in
set_option maxRecDepth 100000 in
theorem of_1end (s : ByteArray) (w : World) (hs : s.size ≤ 1000000) (k : Int) (st : St) (hk : k = (rdN 1 (s.data.toList, 0)).1) (hst : st = (rdN 1 (s.data.toList, 0)).2) (h0 : st.2 = 0) (hkk : kindE k = 1) (h1 : endE (rdE k st).2 ≠ 0) :
    Calls Tryd.prog 13 #[.string s] w fun x w' => OfOut s.data.toList w x w' := by
  obtain ⟨R, hR⟩ : ∃ S, S = w.heap.size := ⟨_, rfl⟩
  obtain ⟨w1, hw1⟩ : ∃ u, u = (w.alloc (.cells (enc zen).toArray 25)).alloc (.cells #[.string s, .int .i64 0] 72) := ⟨_, rfl⟩
  have hX : Blk w1 R 25 (enc zen).toArray := by rw [hw1, hR]; exact (Blk.new w _ _).alloc _
  have hG : RdrS w1 (R + 1) (s.data.toList, 0) := ⟨s, 0, by rw [hw1, hR]; exact Blk.at_ (by simp) _ _, rfl, fun _ => (oct.tx_eta s).symm⟩
  have hB : Below w.heap.size w w1 := by rw [hw1]; exact ((Below.refl _ _).alloc (Nat.le_refl _) _).alloc (by simp) _
  have hsz : w1.heap.size = R + 2 := by rw [hw1, hR]; simp
  obtain ⟨l, hl⟩ : ∃ l, l = s.data.toList := ⟨_, rfl⟩
  have hll : l.length ≤ 1000000 := by rw [hl, Array.length_toList]; exact hs
  rw [← hl] at hG hk hst ⊢
  have HNUM := opn.num1_s (R + 1) (l, 0) w1 hG
  rw [← hst, ← hk] at HNUM
  have HOF := Lib.hid (ofE_eq l k st hk hst)
  have hstl : st.1.length ≤ 1000000 := by
    rw [hst]
    have : (rdN 1 (l, 0)).2.1.length ≤ l.length := rd_left 1 (l, 0)
    omega
  have HSTL := Lib.hid hstl
  have HX := Lib.hid hX
  have HB := Lib.hid hB
  have HW := Lib.hid hw1
  have HR := Lib.hid hR
  have HSZ := Lib.hid hsz
  have HNUM := Lib.hid HNUM
  clear hX hG hB hw1 hR hsz hl hst hk hs hll hstl
  obtain ⟨p, hp⟩ : ∃ p, p = hasB k := ⟨_, rfl⟩
  have hhas := fun u => has_any k u
  rw [← hp] at hhas
  have HHAS := Lib.hid hhas
  have inT := Lib.hid (in_lit p 84 84 rfl false (by rw [hp]; unfold hasB hasL; rw [hkk]; decide +kernel) (by rw [hp, has_size]; unfold hasL; rw [hkk]; decide))
  have inC := Lib.hid (in_lit p 67 67 rfl false (by rw [hp]; unfold hasB hasL; rw [hkk]; decide +kernel) (by rw [hp, has_size]; unfold hasL; rw [hkk]; decide))
  have inB := Lib.hid (in_lit p 66 66 rfl true (by rw [hp]; unfold hasB hasL; rw [hkk]; decide +kernel) (by rw [hp, has_size]; unfold hasL; rw [hkk]; decide))
  have pE : p.toList.isEmpty = false := by rw [hp]; unfold hasB hasL; rw [hkk]; decide +kernel
  have hrd : rdE k st = (⟨k, [], (rdB st).1, zid⟩, (rdB st).2) := by unfold rdE; rw [if_pos hkk]
  have HE : Hid (ofE l = (zen, endE (rdE k st).2)) := Lib.hid (by rw [HOF.out, if_neg (fun h => h h0), if_neg (by rw [hkk]; decide), if_pos h1])
  obtain ⟨e1, he1⟩ : ∃ x, x = (rdE k st).1 := ⟨_, rfl⟩
  obtain ⟨sE, hsE⟩ : ∃ x, x = (rdE k st).2 := ⟨_, rfl⟩
  rw [← hsE] at h1
  rw [← hsE] at HE
  obtain ⟨en, hen⟩ : ∃ x, x = endE sE := ⟨_, rfl⟩
  rw [← hen] at h1
  rw [← hen] at HE
  have hne : (en != 0) = true := bne_iff_ne.2 h1
  have heq : (en == 0) = false := beq_eq_false_iff_ne.2 h1
  have HEND := Lib.hid (fun (u : World) (hu : RdrS u (R + 1) sE) => opn.end_s (R + 1) sE u hu)
  rw [← hen] at HEND
  obtain ⟨y2, hy2⟩ : ∃ y, y = (rdB st).1 := ⟨_, rfl⟩
  obtain ⟨s2, hs2⟩ : ∃ y, y = (rdB st).2 := ⟨_, rfl⟩
  obtain ⟨t2, ht2x⟩ : ∃ t, t = oct.tx y2 := ⟨_, rfl⟩
  have HT2 : Hid (rd st.1.length st = (y2, s2)) := Lib.hid (by rw [hy2, hs2]; rfl)
  have HTX2 := Lib.hid ht2x
  obtain ⟨tr, htr⟩ : ∃ t, t = oct.tx st.1 := ⟨_, rfl⟩
  have HTR := Lib.hid htr
  have HTRZ : Hid (tr.size = st.1.length) := Lib.hid (by rw [htr, oct.tx_size])
  have HSE : Hid (sE = s2) := Lib.hid (by rw [hsE, hrd, hs2])
  have HE1 : Hid (e1 = { (ken k) with body := y2 }) := Lib.hid (by rw [he1, hrd, hy2]; rfl)
  have H0 := Lib.hid h0
  clear h0 hkk hp hhas hrd he1 hsE hen hy2 hs2 ht2x htr h1
  go_enter Tryd.func13, Tryd.ntmps13
  go_upto_region 2 with fail
  refine wp_at HW.out.symm ?_
  rw [← HR.out]
  clear HW
  go_wp2_with (first
    | (go_at_call 38; (with_reducible refine HRB.out.mono ?_); rintro x w5 ⟨rfl, hr5, ht5⟩; have HP5 := Lib.hid (HP3.out.read ht5 (fun b hb => .inl hb) hr5); have cb := (EnBlk.of HP5.out.op HP5.out.ref).body; have fb := HP5.out.op.frozen 2; have hp6 := HP5.out.putb y2; rw [← HTX2.out] at hp6; have HP6 := Lib.hid hp6; have HED := Lib.hid (HEND.out (w5.setCell ⟨w2.heap.size, 2, none⟩ (.string t2)) (HSE.out ▸ HP6.out.rdr)); have HRUN := Lib.hid HP6.out.zero; have HPF := HP6; clear hr5 ht5 hp6 HRB)
    | (go_at_call 37; (with_reducible refine HNUM.out.mono ?_); rintro x w2 ⟨rfl, hr2, ht2⟩; obtain ⟨w3, hw3⟩ : ∃ u, u = (w2.alloc (.cells (enc zen).toArray 25)).setRow w2.heap.size (enc (ken k)).toArray := ⟨_, rfl⟩; have HST3 := Lib.hid (held_en w2 (ken k) (ken_commit k)); rw [← hw3] at HST3; have HP3 : Hid (OfP w R w2.heap.size (ken k) st w3) := Lib.hid (by have a1 := HR.out; have a2 := HSZ.out; have a3 := ht2.size; have a4 := hr2.lt; have hX2 := HX.out.turn ht2 (by omega); have hbb : Below w2.heap.size w2 w3 := (by rw [hw3]; exact below_row' ((Below.refl _ _).alloc (Nat.le_refl _) _) (Nat.le_refl _) _); exact ⟨by rw [hw3]; exact setRow_heap _ _ _ _ _ _ (Blk.new w2 _ _), hr2.turn (Turn.fresh (F := fun b => w2.heap.size ≤ b) hbb (fun b hb => hb)) (by have := hr2.lt; omega), hX2.below hbb hX2.lt, (HB.out.trans (ht2.below fun b hb => by omega)).trans (hbb.mono (by omega)), by omega, by omega, ken_commit k⟩); have ce := HP3.out.rdr.err; rw [H0.out] at ce; have c0 : w3.cell? ⟨w2.heap.size, 0, none⟩ = some (.int .i64 k) := (EnBlk.of HP3.out.op HP3.out.ref).k; have crd := HP3.out.text H0.out; rw [← HTR.out] at crd; have hRB := opn.raw_s (R + 1) st (st.1.length : Int) (Int.natCast_nonneg _) w3 HP3.out.rdr; rw [Int.toNat_natCast, HT2.out, ← HTX2.out, ← HTRZ.out] at hRB; have HRB := Lib.hid hRB; clear hRB; clear hr2 ht2 hw3)
    | ((with_reducible refine step_build (t := 25) (parts := #[(0, .tmp 12)]) (ps := ?bpu7) (v := ?bvu7) ?bgu7 ?bou7 ?bxu7 ?bru7 ?bhu7); (case bgu7 => rfl); (case bou7 => rfl); (case bxu7 => rfl); (case bru7 => exact run_build_k _ k))
    | ((with_reducible refine step_store_run (t := 25) (x := .tmp 5) (y := .tmp 13) (p := ?spu8) (v := ?svu8) (w' := ?swu8) ?sgu8 ?sou8 ?sxu8 ?syu8 ?sru8 ?shu8); (case sgu8 => rfl); (case sou8 => rfl); (case sxu8 => rfl); (case syu8 => rfl); (case sru8 => exact HST3.out))
    | (go_at_call 25; (with_reducible refine (HHAS.out _).mono ?_); rintro x w4 ⟨rfl, rfl⟩)
    | (go_at_call 26; (with_reducible refine (inT.out _).mono ?_); rintro x w4 ⟨rfl, rfl⟩)
    | (go_at_call 26; (with_reducible refine (inC.out _).mono ?_); rintro x w4 ⟨rfl, rfl⟩)
    | (go_at_call 26; (with_reducible refine (inB.out _).mono ?_); rintro x w4 ⟨rfl, rfl⟩)
    | (go_at_call 40; (with_reducible refine HED.out.mono ?_); rintro x w9 ⟨rfl, rfl⟩)
    | ((with_reducible refine step_build (t := 25) (parts := #[]) (ps := #[]) (v := ?bvu9) ?bgu9 ?bou9 ?bxu9 ?bru9 ?bhu9); (case bgu9 => rfl); (case bou9 => rfl); (case bxu9 => simp); (case bru9 => exact run_build_z _))
    | ((with_reducible refine step_store_run (t := 25) (x := .tmp 2) (y := .tmp 67) (p := ?spu10) (v := ?svu10) (w' := ?swu10) ?sgu10 ?sou10 ?sxu10 ?syu10 ?sru10 ?shu10); (case sgu10 => rfl); (case sou10 => rfl); (case sxu10 => rfl); (case syu10 => rfl); (case sru10 => exact HRUN.out)))
  refine bodyPost_ret (results_en rfl _ _ R _ zen rfl (setRow_heap _ _ _ _ _ _ HPF.out.res) zlen) rfl ⟨by rw [HE.out]; rfl, below_row' HPF.out.below (by rw [HR.out]; exact Nat.le_refl _) _⟩

set_option maxHeartbeats 8000000 in
set_option maxRecDepth 100000 in
theorem of_1check (s : ByteArray) (w : World) (hs : s.size ≤ 1000000) (k : Int) (st : St) (hk : k = (rdN 1 (s.data.toList, 0)).1) (hst : st = (rdN 1 (s.data.toList, 0)).2) (h0 : st.2 = 0) (hkk : kindE k = 1) (h1 : endE (rdE k st).2 = 0) (h2 : checkE (rdE k st).1 ≠ 0) :
    Calls Tryd.prog 13 #[.string s] w fun x w' => OfOut s.data.toList w x w' := by
  obtain ⟨R, hR⟩ : ∃ S, S = w.heap.size := ⟨_, rfl⟩
  obtain ⟨w1, hw1⟩ : ∃ u, u = (w.alloc (.cells (enc zen).toArray 25)).alloc (.cells #[.string s, .int .i64 0] 72) := ⟨_, rfl⟩
  have hX : Blk w1 R 25 (enc zen).toArray := by rw [hw1, hR]; exact (Blk.new w _ _).alloc _
  have hG : RdrS w1 (R + 1) (s.data.toList, 0) := ⟨s, 0, by rw [hw1, hR]; exact Blk.at_ (by simp) _ _, rfl, fun _ => (oct.tx_eta s).symm⟩
  have hB : Below w.heap.size w w1 := by rw [hw1]; exact ((Below.refl _ _).alloc (Nat.le_refl _) _).alloc (by simp) _
  have hsz : w1.heap.size = R + 2 := by rw [hw1, hR]; simp
  obtain ⟨l, hl⟩ : ∃ l, l = s.data.toList := ⟨_, rfl⟩
  have hll : l.length ≤ 1000000 := by rw [hl, Array.length_toList]; exact hs
  rw [← hl] at hG hk hst ⊢
  have HNUM := opn.num1_s (R + 1) (l, 0) w1 hG
  rw [← hst, ← hk] at HNUM
  have HOF := Lib.hid (ofE_eq l k st hk hst)
  have hstl : st.1.length ≤ 1000000 := by
    rw [hst]
    have : (rdN 1 (l, 0)).2.1.length ≤ l.length := rd_left 1 (l, 0)
    omega
  have HSTL := Lib.hid hstl
  have HX := Lib.hid hX
  have HB := Lib.hid hB
  have HW := Lib.hid hw1
  have HR := Lib.hid hR
  have HSZ := Lib.hid hsz
  have HNUM := Lib.hid HNUM
  clear hX hG hB hw1 hR hsz hl hst hk hs hll hstl
  obtain ⟨p, hp⟩ : ∃ p, p = hasB k := ⟨_, rfl⟩
  have hhas := fun u => has_any k u
  rw [← hp] at hhas
  have HHAS := Lib.hid hhas
  have inT := Lib.hid (in_lit p 84 84 rfl false (by rw [hp]; unfold hasB hasL; rw [hkk]; decide +kernel) (by rw [hp, has_size]; unfold hasL; rw [hkk]; decide))
  have inC := Lib.hid (in_lit p 67 67 rfl false (by rw [hp]; unfold hasB hasL; rw [hkk]; decide +kernel) (by rw [hp, has_size]; unfold hasL; rw [hkk]; decide))
  have inB := Lib.hid (in_lit p 66 66 rfl true (by rw [hp]; unfold hasB hasL; rw [hkk]; decide +kernel) (by rw [hp, has_size]; unfold hasL; rw [hkk]; decide))
  have pE : p.toList.isEmpty = false := by rw [hp]; unfold hasB hasL; rw [hkk]; decide +kernel
  have hrd : rdE k st = (⟨k, [], (rdB st).1, zid⟩, (rdB st).2) := by unfold rdE; rw [if_pos hkk]
  have HE : Hid (ofE l = (zen, checkE (rdE k st).1)) := Lib.hid (by rw [HOF.out, if_neg (fun h => h h0), if_neg (by rw [hkk]; decide), if_neg (fun h => h h1), if_pos h2])
  obtain ⟨e1, he1⟩ : ∃ x, x = (rdE k st).1 := ⟨_, rfl⟩
  obtain ⟨sE, hsE⟩ : ∃ x, x = (rdE k st).2 := ⟨_, rfl⟩
  rw [← hsE] at h1
  rw [← he1] at HE h2
  obtain ⟨en, hen⟩ : ∃ x, x = endE sE := ⟨_, rfl⟩
  rw [← hen] at h1
  subst h1
  have HEND := Lib.hid (fun (u : World) (hu : RdrS u (R + 1) sE) => opn.end_s (R + 1) sE u hu)
  rw [← hen] at HEND
  obtain ⟨ck, hck⟩ : ∃ x, x = checkE e1 := ⟨_, rfl⟩
  rw [← hck] at h2
  rw [← hck] at HE
  have hnc : (ck != 0) = true := bne_iff_ne.2 h2
  have HCK := Lib.hid (fun (u : World) => check_any e1 u (by rw [he1]; exact rdE_commit k st) (by rw [he1]; exact Nat.le_trans (rdE_topic k st) (by decide)) (by rw [he1]; exact Nat.le_trans (rdE_body k st) (by have := HSTL.out; omega)))
  rw [← hck] at HCK
  obtain ⟨y2, hy2⟩ : ∃ y, y = (rdB st).1 := ⟨_, rfl⟩
  obtain ⟨s2, hs2⟩ : ∃ y, y = (rdB st).2 := ⟨_, rfl⟩
  obtain ⟨t2, ht2x⟩ : ∃ t, t = oct.tx y2 := ⟨_, rfl⟩
  have HT2 : Hid (rd st.1.length st = (y2, s2)) := Lib.hid (by rw [hy2, hs2]; rfl)
  have HTX2 := Lib.hid ht2x
  obtain ⟨tr, htr⟩ : ∃ t, t = oct.tx st.1 := ⟨_, rfl⟩
  have HTR := Lib.hid htr
  have HTRZ : Hid (tr.size = st.1.length) := Lib.hid (by rw [htr, oct.tx_size])
  have HSE : Hid (sE = s2) := Lib.hid (by rw [hsE, hrd, hs2])
  have HE1 : Hid (e1 = { (ken k) with body := y2 }) := Lib.hid (by rw [he1, hrd, hy2]; rfl)
  have H0 := Lib.hid h0
  clear h0 hkk hp hhas hrd he1 hsE hen hy2 hs2 ht2x htr h2 hck
  go_enter Tryd.func13, Tryd.ntmps13
  go_upto_region 2 with fail
  refine wp_at HW.out.symm ?_
  rw [← HR.out]
  clear HW
  go_wp2_with (first
    | (go_at_call 38; (with_reducible refine HRB.out.mono ?_); rintro x w5 ⟨rfl, hr5, ht5⟩; have HP5 := Lib.hid (HP3.out.read ht5 (fun b hb => .inl hb) hr5); have cb := (EnBlk.of HP5.out.op HP5.out.ref).body; have fb := HP5.out.op.frozen 2; have hp6 := HP5.out.putb y2; rw [← HTX2.out] at hp6; have HP6 := Lib.hid hp6; have HED := Lib.hid (HEND.out (w5.setCell ⟨w2.heap.size, 2, none⟩ (.string t2)) (HSE.out ▸ HP6.out.rdr)); have hld := run_load_en HP6.out.op HP6.out.ref; rw [← HE1.out] at hld; have HLD := Lib.hid hld; have HPF := HP6; have HCC := Lib.hid (HCK.out (w5.setCell ⟨w2.heap.size, 2, none⟩ (.string t2))); clear hld; clear hr5 ht5 hp6 HRB)
    | (go_at_call 37; (with_reducible refine HNUM.out.mono ?_); rintro x w2 ⟨rfl, hr2, ht2⟩; obtain ⟨w3, hw3⟩ : ∃ u, u = (w2.alloc (.cells (enc zen).toArray 25)).setRow w2.heap.size (enc (ken k)).toArray := ⟨_, rfl⟩; have HST3 := Lib.hid (held_en w2 (ken k) (ken_commit k)); rw [← hw3] at HST3; have HP3 : Hid (OfP w R w2.heap.size (ken k) st w3) := Lib.hid (by have a1 := HR.out; have a2 := HSZ.out; have a3 := ht2.size; have a4 := hr2.lt; have hX2 := HX.out.turn ht2 (by omega); have hbb : Below w2.heap.size w2 w3 := (by rw [hw3]; exact below_row' ((Below.refl _ _).alloc (Nat.le_refl _) _) (Nat.le_refl _) _); exact ⟨by rw [hw3]; exact setRow_heap _ _ _ _ _ _ (Blk.new w2 _ _), hr2.turn (Turn.fresh (F := fun b => w2.heap.size ≤ b) hbb (fun b hb => hb)) (by have := hr2.lt; omega), hX2.below hbb hX2.lt, (HB.out.trans (ht2.below fun b hb => by omega)).trans (hbb.mono (by omega)), by omega, by omega, ken_commit k⟩); have ce := HP3.out.rdr.err; rw [H0.out] at ce; have c0 : w3.cell? ⟨w2.heap.size, 0, none⟩ = some (.int .i64 k) := (EnBlk.of HP3.out.op HP3.out.ref).k; have crd := HP3.out.text H0.out; rw [← HTR.out] at crd; have hRB := opn.raw_s (R + 1) st (st.1.length : Int) (Int.natCast_nonneg _) w3 HP3.out.rdr; rw [Int.toNat_natCast, HT2.out, ← HTX2.out, ← HTRZ.out] at hRB; have HRB := Lib.hid hRB; clear hRB; clear hr2 ht2 hw3)
    | ((with_reducible refine step_build (t := 25) (parts := #[(0, .tmp 12)]) (ps := ?bpu11) (v := ?bvu11) ?bgu11 ?bou11 ?bxu11 ?bru11 ?bhu11); (case bgu11 => rfl); (case bou11 => rfl); (case bxu11 => rfl); (case bru11 => exact run_build_k _ k))
    | ((with_reducible refine step_store_run (t := 25) (x := .tmp 5) (y := .tmp 13) (p := ?spu12) (v := ?svu12) (w' := ?swu12) ?sgu12 ?sou12 ?sxu12 ?syu12 ?sru12 ?shu12); (case sgu12 => rfl); (case sou12 => rfl); (case sxu12 => rfl); (case syu12 => rfl); (case sru12 => exact HST3.out))
    | (go_at_call 25; (with_reducible refine (HHAS.out _).mono ?_); rintro x w4 ⟨rfl, rfl⟩)
    | (go_at_call 26; (with_reducible refine (inT.out _).mono ?_); rintro x w4 ⟨rfl, rfl⟩)
    | (go_at_call 26; (with_reducible refine (inC.out _).mono ?_); rintro x w4 ⟨rfl, rfl⟩)
    | (go_at_call 26; (with_reducible refine (inB.out _).mono ?_); rintro x w4 ⟨rfl, rfl⟩)
    | (go_at_call 40; (with_reducible refine HED.out.mono ?_); rintro x w9 ⟨rfl, rfl⟩)
    | ((with_reducible refine step_load (t := 25) (x := .tmp 5) (p := ?lpu13) (v := ?lvu13) ?lgu13 ?lou13 ?lxu13 ?lru13 ?lhu13); (case lgu13 => rfl); (case lou13 => rfl); (case lxu13 => rfl); (case lru13 => exact HLD.out))
    | (go_at_call 11; (with_reducible refine HCC.out.mono ?_); rintro x w9 ⟨rfl, hb9⟩; have HRUN := Lib.hid (run_store_en (HPF.out.res.below hb9 HPF.out.res.lt) (enc_size _ zlen) zen zlen); have HB9 := Lib.hid hb9; clear hb9)
    | ((with_reducible refine step_build (t := 25) (parts := #[]) (ps := #[]) (v := ?bvu14) ?bgu14 ?bou14 ?bxu14 ?bru14 ?bhu14); (case bgu14 => rfl); (case bou14 => rfl); (case bxu14 => simp); (case bru14 => exact run_build_z _))
    | ((with_reducible refine step_store_run (t := 25) (x := .tmp 2) (y := .tmp 67) (p := ?spu15) (v := ?svu15) (w' := ?swu15) ?sgu15 ?sou15 ?sxu15 ?syu15 ?sru15 ?shu15); (case sgu15 => rfl); (case sou15 => rfl); (case sxu15 => rfl); (case syu15 => rfl); (case sru15 => exact HRUN.out)))
  refine bodyPost_ret (results_en rfl _ _ R _ zen rfl (setRow_heap _ _ _ _ _ _ (HPF.out.res.below HB9.out HPF.out.res.lt)) zlen) rfl ⟨by rw [HE.out]; rfl, below_row' (HPF.out.below.trans (HB9.out.mono HPF.out.below.size)) (by rw [HR.out]; exact Nat.le_refl _) _⟩

set_option maxHeartbeats 8000000 in
set_option maxRecDepth 100000 in
theorem of_1ok (s : ByteArray) (w : World) (hs : s.size ≤ 1000000) (k : Int) (st : St) (hk : k = (rdN 1 (s.data.toList, 0)).1) (hst : st = (rdN 1 (s.data.toList, 0)).2) (h0 : st.2 = 0) (hkk : kindE k = 1) (h1 : endE (rdE k st).2 = 0) (h2 : checkE (rdE k st).1 = 0) :
    Calls Tryd.prog 13 #[.string s] w fun x w' => OfOut s.data.toList w x w' := by
  obtain ⟨R, hR⟩ : ∃ S, S = w.heap.size := ⟨_, rfl⟩
  obtain ⟨w1, hw1⟩ : ∃ u, u = (w.alloc (.cells (enc zen).toArray 25)).alloc (.cells #[.string s, .int .i64 0] 72) := ⟨_, rfl⟩
  have hX : Blk w1 R 25 (enc zen).toArray := by rw [hw1, hR]; exact (Blk.new w _ _).alloc _
  have hG : RdrS w1 (R + 1) (s.data.toList, 0) := ⟨s, 0, by rw [hw1, hR]; exact Blk.at_ (by simp) _ _, rfl, fun _ => (oct.tx_eta s).symm⟩
  have hB : Below w.heap.size w w1 := by rw [hw1]; exact ((Below.refl _ _).alloc (Nat.le_refl _) _).alloc (by simp) _
  have hsz : w1.heap.size = R + 2 := by rw [hw1, hR]; simp
  obtain ⟨l, hl⟩ : ∃ l, l = s.data.toList := ⟨_, rfl⟩
  have hll : l.length ≤ 1000000 := by rw [hl, Array.length_toList]; exact hs
  rw [← hl] at hG hk hst ⊢
  have HNUM := opn.num1_s (R + 1) (l, 0) w1 hG
  rw [← hst, ← hk] at HNUM
  have HOF := Lib.hid (ofE_eq l k st hk hst)
  have hstl : st.1.length ≤ 1000000 := by
    rw [hst]
    have : (rdN 1 (l, 0)).2.1.length ≤ l.length := rd_left 1 (l, 0)
    omega
  have HSTL := Lib.hid hstl
  have HX := Lib.hid hX
  have HB := Lib.hid hB
  have HW := Lib.hid hw1
  have HR := Lib.hid hR
  have HSZ := Lib.hid hsz
  have HNUM := Lib.hid HNUM
  clear hX hG hB hw1 hR hsz hl hst hk hs hll hstl
  obtain ⟨p, hp⟩ : ∃ p, p = hasB k := ⟨_, rfl⟩
  have hhas := fun u => has_any k u
  rw [← hp] at hhas
  have HHAS := Lib.hid hhas
  have inT := Lib.hid (in_lit p 84 84 rfl false (by rw [hp]; unfold hasB hasL; rw [hkk]; decide +kernel) (by rw [hp, has_size]; unfold hasL; rw [hkk]; decide))
  have inC := Lib.hid (in_lit p 67 67 rfl false (by rw [hp]; unfold hasB hasL; rw [hkk]; decide +kernel) (by rw [hp, has_size]; unfold hasL; rw [hkk]; decide))
  have inB := Lib.hid (in_lit p 66 66 rfl true (by rw [hp]; unfold hasB hasL; rw [hkk]; decide +kernel) (by rw [hp, has_size]; unfold hasL; rw [hkk]; decide))
  have pE : p.toList.isEmpty = false := by rw [hp]; unfold hasB hasL; rw [hkk]; decide +kernel
  have hrd : rdE k st = (⟨k, [], (rdB st).1, zid⟩, (rdB st).2) := by unfold rdE; rw [if_pos hkk]
  have HE : Hid (ofE l = ((rdE k st).1, 0)) := Lib.hid (by rw [HOF.out, if_neg (fun h => h h0), if_neg (by rw [hkk]; decide), if_neg (fun h => h h1), if_neg (fun h => h h2)])
  obtain ⟨e1, he1⟩ : ∃ x, x = (rdE k st).1 := ⟨_, rfl⟩
  obtain ⟨sE, hsE⟩ : ∃ x, x = (rdE k st).2 := ⟨_, rfl⟩
  rw [← hsE] at h1
  rw [← he1] at HE h2
  obtain ⟨en, hen⟩ : ∃ x, x = endE sE := ⟨_, rfl⟩
  rw [← hen] at h1
  subst h1
  have HEND := Lib.hid (fun (u : World) (hu : RdrS u (R + 1) sE) => opn.end_s (R + 1) sE u hu)
  rw [← hen] at HEND
  obtain ⟨ck, hck⟩ : ∃ x, x = checkE e1 := ⟨_, rfl⟩
  rw [← hck] at h2
  have HCK := Lib.hid (fun (u : World) => check_any e1 u (by rw [he1]; exact rdE_commit k st) (by rw [he1]; exact Nat.le_trans (rdE_topic k st) (by decide)) (by rw [he1]; exact Nat.le_trans (rdE_body k st) (by have := HSTL.out; omega)))
  rw [← hck] at HCK
  subst h2
  obtain ⟨y2, hy2⟩ : ∃ y, y = (rdB st).1 := ⟨_, rfl⟩
  obtain ⟨s2, hs2⟩ : ∃ y, y = (rdB st).2 := ⟨_, rfl⟩
  obtain ⟨t2, ht2x⟩ : ∃ t, t = oct.tx y2 := ⟨_, rfl⟩
  have HT2 : Hid (rd st.1.length st = (y2, s2)) := Lib.hid (by rw [hy2, hs2]; rfl)
  have HTX2 := Lib.hid ht2x
  obtain ⟨tr, htr⟩ : ∃ t, t = oct.tx st.1 := ⟨_, rfl⟩
  have HTR := Lib.hid htr
  have HTRZ : Hid (tr.size = st.1.length) := Lib.hid (by rw [htr, oct.tx_size])
  have HSE : Hid (sE = s2) := Lib.hid (by rw [hsE, hrd, hs2])
  have HE1 : Hid (e1 = { (ken k) with body := y2 }) := Lib.hid (by rw [he1, hrd, hy2]; rfl)
  have H0 := Lib.hid h0
  clear h0 hkk hp hhas hrd he1 hsE hen hy2 hs2 ht2x htr hck
  go_enter Tryd.func13, Tryd.ntmps13
  go_upto_region 2 with fail
  refine wp_at HW.out.symm ?_
  rw [← HR.out]
  clear HW
  go_wp2_with (first
    | (go_at_call 38; (with_reducible refine HRB.out.mono ?_); rintro x w5 ⟨rfl, hr5, ht5⟩; have HP5 := Lib.hid (HP3.out.read ht5 (fun b hb => .inl hb) hr5); have cb := (EnBlk.of HP5.out.op HP5.out.ref).body; have fb := HP5.out.op.frozen 2; have hp6 := HP5.out.putb y2; rw [← HTX2.out] at hp6; have HP6 := Lib.hid hp6; have HED := Lib.hid (HEND.out (w5.setCell ⟨w2.heap.size, 2, none⟩ (.string t2)) (HSE.out ▸ HP6.out.rdr)); have hld := run_load_en HP6.out.op HP6.out.ref; rw [← HE1.out] at hld; have HLD := Lib.hid hld; have HPF := HP6; have HCC := Lib.hid (HCK.out (w5.setCell ⟨w2.heap.size, 2, none⟩ (.string t2))); clear hld; clear hr5 ht5 hp6 HRB)
    | (go_at_call 37; (with_reducible refine HNUM.out.mono ?_); rintro x w2 ⟨rfl, hr2, ht2⟩; obtain ⟨w3, hw3⟩ : ∃ u, u = (w2.alloc (.cells (enc zen).toArray 25)).setRow w2.heap.size (enc (ken k)).toArray := ⟨_, rfl⟩; have HST3 := Lib.hid (held_en w2 (ken k) (ken_commit k)); rw [← hw3] at HST3; have HP3 : Hid (OfP w R w2.heap.size (ken k) st w3) := Lib.hid (by have a1 := HR.out; have a2 := HSZ.out; have a3 := ht2.size; have a4 := hr2.lt; have hX2 := HX.out.turn ht2 (by omega); have hbb : Below w2.heap.size w2 w3 := (by rw [hw3]; exact below_row' ((Below.refl _ _).alloc (Nat.le_refl _) _) (Nat.le_refl _) _); exact ⟨by rw [hw3]; exact setRow_heap _ _ _ _ _ _ (Blk.new w2 _ _), hr2.turn (Turn.fresh (F := fun b => w2.heap.size ≤ b) hbb (fun b hb => hb)) (by have := hr2.lt; omega), hX2.below hbb hX2.lt, (HB.out.trans (ht2.below fun b hb => by omega)).trans (hbb.mono (by omega)), by omega, by omega, ken_commit k⟩); have ce := HP3.out.rdr.err; rw [H0.out] at ce; have c0 : w3.cell? ⟨w2.heap.size, 0, none⟩ = some (.int .i64 k) := (EnBlk.of HP3.out.op HP3.out.ref).k; have crd := HP3.out.text H0.out; rw [← HTR.out] at crd; have hRB := opn.raw_s (R + 1) st (st.1.length : Int) (Int.natCast_nonneg _) w3 HP3.out.rdr; rw [Int.toNat_natCast, HT2.out, ← HTX2.out, ← HTRZ.out] at hRB; have HRB := Lib.hid hRB; clear hRB; clear hr2 ht2 hw3)
    | ((with_reducible refine step_build (t := 25) (parts := #[(0, .tmp 12)]) (ps := ?bpu16) (v := ?bvu16) ?bgu16 ?bou16 ?bxu16 ?bru16 ?bhu16); (case bgu16 => rfl); (case bou16 => rfl); (case bxu16 => rfl); (case bru16 => exact run_build_k _ k))
    | ((with_reducible refine step_store_run (t := 25) (x := .tmp 5) (y := .tmp 13) (p := ?spu17) (v := ?svu17) (w' := ?swu17) ?sgu17 ?sou17 ?sxu17 ?syu17 ?sru17 ?shu17); (case sgu17 => rfl); (case sou17 => rfl); (case sxu17 => rfl); (case syu17 => rfl); (case sru17 => exact HST3.out))
    | (go_at_call 25; (with_reducible refine (HHAS.out _).mono ?_); rintro x w4 ⟨rfl, rfl⟩)
    | (go_at_call 26; (with_reducible refine (inT.out _).mono ?_); rintro x w4 ⟨rfl, rfl⟩)
    | (go_at_call 26; (with_reducible refine (inC.out _).mono ?_); rintro x w4 ⟨rfl, rfl⟩)
    | (go_at_call 26; (with_reducible refine (inB.out _).mono ?_); rintro x w4 ⟨rfl, rfl⟩)
    | (go_at_call 40; (with_reducible refine HED.out.mono ?_); rintro x w9 ⟨rfl, rfl⟩)
    | ((with_reducible refine step_load (t := 25) (x := .tmp 5) (p := ?lpu18) (v := ?lvu18) ?lgu18 ?lou18 ?lxu18 ?lru18 ?lhu18); (case lgu18 => rfl); (case lou18 => rfl); (case lxu18 => rfl); (case lru18 => exact HLD.out))
    | (go_at_call 11; (with_reducible refine HCC.out.mono ?_); rintro x w9 ⟨rfl, hb9⟩; have hl9 := run_load_en (HPF.out.op.below hb9 HPF.out.op.lt) HPF.out.ref; rw [← HE1.out] at hl9; have HL9 := Lib.hid hl9; have hl8 := HPF.out.last hb9; rw [← HE1.out] at hl8; have HRUN := Lib.hid hl8; have HB9 := Lib.hid hb9; clear hb9 hl9 hl8)
    | ((with_reducible refine step_load (t := 25) (x := .tmp 5) (p := ?lpu19) (v := ?lvu19) ?lgu19 ?lou19 ?lxu19 ?lru19 ?lhu19); (case lgu19 => rfl); (case lou19 => rfl); (case lxu19 => rfl); (case lru19 => exact HL9.out))
    | ((with_reducible refine step_store_run (t := 25) (x := .tmp 2) (y := .tmp 69) (p := ?spu20) (v := ?svu20) (w' := ?swu20) ?sgu20 ?sou20 ?sxu20 ?syu20 ?sru20 ?shu20); (case sgu20 => rfl); (case sou20 => rfl); (case sxu20 => rfl); (case syu20 => rfl); (case sru20 => exact HRUN.out)))
  have hrf : e1.commit.length = 32 := by rw [HE1.out]; exact HPF.out.ref
  refine bodyPost_ret (results_en rfl _ _ R _ e1 rfl (setRow_heap _ _ _ _ _ _ (HPF.out.res.below HB9.out HPF.out.res.lt)) hrf) rfl ⟨by rw [HE.out]; rfl, below_row' (HPF.out.below.trans (HB9.out.mono HPF.out.below.size)) (by rw [HR.out]; exact Nat.le_refl _) _⟩
end Go.Proofs.YtbhkegdohiekfaaDoor.ent
