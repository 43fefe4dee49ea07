/-
  petrelref14.Of: a sum.
-/
import Derived.Test.YtbhkegdohiekfaaDoorEnof
namespace Go.Proofs.YtbhkegdohiekfaaDoor.ent
open Go.RowKit Go.Proofs.YtbhkegdohiekfaaDoor.mem Go.Proofs.YtbhkegdohiekfaaDoor.sha Go.Proofs.YtbhkegdohiekfaaDoor.ids
open Go.Proofs.YtbhkegdohiekfaaDoor.opn (b1 b2 b4 num txt idl byte rd rdN rdT rdI rdS rdL St Reads Stays endE zid mkId RdrS)
open Go.Proofs.YtbhkegdohiekfaaDoor.topic (kindOf)

set_option maxHeartbeats 8000000 in
set_option maxRecDepth 100000 in
theorem of_2end (s : ByteArray) (w : World) (hs : s.size ≤ 1000000) (k : Int) (st : St) (hk : k = (rdN 1 (s.data.toList, 0)).1) (hst : st = (rdN 1 (s.data.toList, 0)).2) (h0 : st.2 = 0) (hkk : kindE k = 2) (h1 : endE (rdE k st).2 ≠ 0) :
    Calls Tryd.prog 13 #[.string s] w fun x w' => OfOut s.data.toList w x w' := by
  obtain ⟨R, hR⟩ : ∃ S, S = w.heap.size := ⟨_, rfl⟩
  obtain ⟨w1, hw1⟩ : ∃ u, u = (w.alloc (.cells (enc zen).toArray 25)).alloc (.cells #[.string s, .int .i64 0] 72) := ⟨_, rfl⟩
  have hX : Blk w1 R 25 (enc zen).toArray := by rw [hw1, hR]; exact (Blk.new w _ _).alloc _
  have hG : RdrS w1 (R + 1) (s.data.toList, 0) := ⟨s, 0, by rw [hw1, hR]; exact Blk.at_ (by simp) _ _, rfl, fun _ => (oct.tx_eta s).symm⟩
  have hB : Below w.heap.size w w1 := by rw [hw1]; exact ((Below.refl _ _).alloc (Nat.le_refl _) _).alloc (by simp) _
  have hsz : w1.heap.size = R + 2 := by rw [hw1, hR]; simp
  obtain ⟨l, hl⟩ : ∃ l, l = s.data.toList := ⟨_, rfl⟩
  have hll : l.length ≤ 1000000 := by rw [hl, Array.length_toList]; exact hs
  rw [← hl] at hG hk hst ⊢
  have HNUM := opn.num1_s (R + 1) (l, 0) w1 hG
  rw [← hst, ← hk] at HNUM
  have HOF := Lib.hid (ofE_eq l k st hk hst)
  have hstl : st.1.length ≤ 1000000 := by
    rw [hst]
    have : (rdN 1 (l, 0)).2.1.length ≤ l.length := rd_left 1 (l, 0)
    omega
  have HSTL := Lib.hid hstl
  have HX := Lib.hid hX
  have HB := Lib.hid hB
  have HW := Lib.hid hw1
  have HR := Lib.hid hR
  have HSZ := Lib.hid hsz
  have HNUM := Lib.hid HNUM
  clear hX hG hB hw1 hR hsz hl hst hk hs hll hstl
  obtain ⟨p, hp⟩ : ∃ p, p = hasB k := ⟨_, rfl⟩
  have hhas := fun u => has_any k u
  rw [← hp] at hhas
  have HHAS := Lib.hid hhas
  have inT := Lib.hid (in_lit p 84 84 rfl false (by rw [hp]; unfold hasB hasL; rw [hkk]; decide +kernel) (by rw [hp, has_size]; unfold hasL; rw [hkk]; decide))
  have inC := Lib.hid (in_lit p 67 67 rfl true (by rw [hp]; unfold hasB hasL; rw [hkk]; decide +kernel) (by rw [hp, has_size]; unfold hasL; rw [hkk]; decide))
  have inB := Lib.hid (in_lit p 66 66 rfl false (by rw [hp]; unfold hasB hasL; rw [hkk]; decide +kernel) (by rw [hp, has_size]; unfold hasL; rw [hkk]; decide))
  have pE : p.toList.isEmpty = false := by rw [hp]; unfold hasB hasL; rw [hkk]; decide +kernel
  have hrd : rdE k st = (⟨k, [], [], (rdI st).1⟩, (rdI st).2) := by unfold rdE; rw [if_neg (by rw [hkk]; decide), if_pos hkk]
  have HE : Hid (ofE l = (zen, endE (rdE k st).2)) := Lib.hid (by rw [HOF.out, if_neg (fun h => h h0), if_neg (by rw [hkk]; decide), if_pos h1])
  obtain ⟨e1, he1⟩ : ∃ x, x = (rdE k st).1 := ⟨_, rfl⟩
  obtain ⟨sE, hsE⟩ : ∃ x, x = (rdE k st).2 := ⟨_, rfl⟩
  rw [← hsE] at h1
  rw [← hsE] at HE
  obtain ⟨en, hen⟩ : ∃ x, x = endE sE := ⟨_, rfl⟩
  rw [← hen] at h1
  rw [← hen] at HE
  have hne : (en != 0) = true := bne_iff_ne.2 h1
  have heq : (en == 0) = false := beq_eq_false_iff_ne.2 h1
  have HEND := Lib.hid (fun (u : World) (hu : RdrS u (R + 1) sE) => opn.end_s (R + 1) sE u hu)
  rw [← hen] at HEND
  obtain ⟨y1, hy1⟩ : ∃ y, y = (rdI st).1 := ⟨_, rfl⟩
  obtain ⟨s1, hs1⟩ : ∃ y, y = (rdI st).2 := ⟨_, rfl⟩
  have HY32 : Hid (y1.length = 32) := Lib.hid (by rw [hy1]; exact opn.rdI_len st)
  have HY1 := Lib.hid hy1
  have HS1 := Lib.hid hs1
  have HSE : Hid (sE = s1) := Lib.hid (by rw [hsE, hrd, hs1])
  have HE1 : Hid (e1 = { (ken k) with commit := y1 }) := Lib.hid (by rw [he1, hrd, hy1]; rfl)
  have H0 := Lib.hid h0
  clear h0 hkk hp hhas hrd he1 hsE hen hy1 hs1 h1
  go_enter Tryd.func13, Tryd.ntmps13
  go_upto_region 2 with fail
  refine wp_at HW.out.symm ?_
  rw [← HR.out]
  clear HW
  go_wp2_with (first
    | (go_at_call 39; (with_reducible refine HID.out.mono ?_); rintro x w5 ⟨rfl, hr5, ht5⟩; have HP5 := Lib.hid (HP3.out.read ht5 (fun b hb => hb) hr5); have HSI := Lib.hid (enm_commit HP5.out.op HP5.out.ref y1 HY32.out); have hp6 := HP5.out.puti y1 HY32.out; obtain ⟨w6, hw6⟩ : ∃ u, u = w5.setRow w2.heap.size (enc { (ken k) with commit := y1 }).toArray := ⟨_, rfl⟩; rw [← hw6] at hp6 HSI; have HP6 := Lib.hid hp6; have HED := Lib.hid (HEND.out w6 (HSE.out ▸ HP6.out.rdr)); have HRUN := Lib.hid HP6.out.zero; have HPF := HP6; clear hr5 ht5 hp6 hw6 HID)
    | ((with_reducible refine step_store_run (t := 23) (x := .tmp 41) (y := .tmp 40) (p := ?spu21) (v := ?svu21) (w' := ?swu21) ?sgu21 ?sou21 ?sxu21 ?syu21 ?sru21 ?shu21); (case sgu21 => rfl); (case sou21 => rfl); (case sxu21 => rfl); (case syu21 => rfl); (case sru21 => exact HSI.out))
    | (go_at_call 37; (with_reducible refine HNUM.out.mono ?_); rintro x w2 ⟨rfl, hr2, ht2⟩; obtain ⟨w3, hw3⟩ : ∃ u, u = (w2.alloc (.cells (enc zen).toArray 25)).setRow w2.heap.size (enc (ken k)).toArray := ⟨_, rfl⟩; have HST3 := Lib.hid (held_en w2 (ken k) (ken_commit k)); rw [← hw3] at HST3; have HP3 : Hid (OfP w R w2.heap.size (ken k) st w3) := Lib.hid (by have a1 := HR.out; have a2 := HSZ.out; have a3 := ht2.size; have a4 := hr2.lt; have hX2 := HX.out.turn ht2 (by omega); have hbb : Below w2.heap.size w2 w3 := (by rw [hw3]; exact below_row' ((Below.refl _ _).alloc (Nat.le_refl _) _) (Nat.le_refl _) _); exact ⟨by rw [hw3]; exact setRow_heap _ _ _ _ _ _ (Blk.new w2 _ _), hr2.turn (Turn.fresh (F := fun b => w2.heap.size ≤ b) hbb (fun b hb => hb)) (by have := hr2.lt; omega), hX2.below hbb hX2.lt, (HB.out.trans (ht2.below fun b hb => by omega)).trans (hbb.mono (by omega)), by omega, by omega, ken_commit k⟩); have ce := HP3.out.rdr.err; rw [H0.out] at ce; have c0 : w3.cell? ⟨w2.heap.size, 0, none⟩ = some (.int .i64 k) := (EnBlk.of HP3.out.op HP3.out.ref).k; have hI := opn.id_s (fun b => b = R + 1 ∨ w3.heap.size ≤ b) (R + 1) st w3 HP3.out.rdr (.inl rfl) (fun b hb => .inr hb); rw [← HY1.out, ← HS1.out] at hI; have HID := Lib.hid hI; clear hI; clear hr2 ht2 hw3)
    | ((with_reducible refine step_build (t := 25) (parts := #[(0, .tmp 12)]) (ps := ?bpu22) (v := ?bvu22) ?bgu22 ?bou22 ?bxu22 ?bru22 ?bhu22); (case bgu22 => rfl); (case bou22 => rfl); (case bxu22 => rfl); (case bru22 => exact run_build_k _ k))
    | ((with_reducible refine step_store_run (t := 25) (x := .tmp 5) (y := .tmp 13) (p := ?spu23) (v := ?svu23) (w' := ?swu23) ?sgu23 ?sou23 ?sxu23 ?syu23 ?sru23 ?shu23); (case sgu23 => rfl); (case sou23 => rfl); (case sxu23 => rfl); (case syu23 => rfl); (case sru23 => exact HST3.out))
    | (go_at_call 25; (with_reducible refine (HHAS.out _).mono ?_); rintro x w4 ⟨rfl, rfl⟩)
    | (go_at_call 26; (with_reducible refine (inT.out _).mono ?_); rintro x w4 ⟨rfl, rfl⟩)
    | (go_at_call 26; (with_reducible refine (inC.out _).mono ?_); rintro x w4 ⟨rfl, rfl⟩)
    | (go_at_call 26; (with_reducible refine (inB.out _).mono ?_); rintro x w4 ⟨rfl, rfl⟩)
    | (go_at_call 40; (with_reducible refine HED.out.mono ?_); rintro x w9 ⟨rfl, rfl⟩)
    | ((with_reducible refine step_build (t := 25) (parts := #[]) (ps := #[]) (v := ?bvu24) ?bgu24 ?bou24 ?bxu24 ?bru24 ?bhu24); (case bgu24 => rfl); (case bou24 => rfl); (case bxu24 => simp); (case bru24 => exact run_build_z _))
    | ((with_reducible refine step_store_run (t := 25) (x := .tmp 2) (y := .tmp 67) (p := ?spu25) (v := ?svu25) (w' := ?swu25) ?sgu25 ?sou25 ?sxu25 ?syu25 ?sru25 ?shu25); (case sgu25 => rfl); (case sou25 => rfl); (case sxu25 => rfl); (case syu25 => rfl); (case sru25 => exact HRUN.out)))
  refine bodyPost_ret (results_en rfl _ _ R _ zen rfl (setRow_heap _ _ _ _ _ _ HPF.out.res) zlen) rfl ⟨by rw [HE.out]; rfl, below_row' HPF.out.below (by rw [HR.out]; exact Nat.le_refl _) _⟩

set_option maxHeartbeats 8000000 in
set_option maxRecDepth 100000 in
theorem of_2check (s : ByteArray) (w : World) (hs : s.size ≤ 1000000) (k : Int) (st : St) (hk : k = (rdN 1 (s.data.toList, 0)).1) (hst : st = (rdN 1 (s.data.toList, 0)).2) (h0 : st.2 = 0) (hkk : kindE k = 2) (h1 : endE (rdE k st).2 = 0) (h2 : checkE (rdE k st).1 ≠ 0) :
    Calls Tryd.prog 13 #[.string s] w fun x w' => OfOut s.data.toList w x w' := by
  obtain ⟨R, hR⟩ : ∃ S, S = w.heap.size := ⟨_, rfl⟩
  obtain ⟨w1, hw1⟩ : ∃ u, u = (w.alloc (.cells (enc zen).toArray 25)).alloc (.cells #[.string s, .int .i64 0] 72) := ⟨_, rfl⟩
  have hX : Blk w1 R 25 (enc zen).toArray := by rw [hw1, hR]; exact (Blk.new w _ _).alloc _
  have hG : RdrS w1 (R + 1) (s.data.toList, 0) := ⟨s, 0, by rw [hw1, hR]; exact Blk.at_ (by simp) _ _, rfl, fun _ => (oct.tx_eta s).symm⟩
  have hB : Below w.heap.size w w1 := by rw [hw1]; exact ((Below.refl _ _).alloc (Nat.le_refl _) _).alloc (by simp) _
  have hsz : w1.heap.size = R + 2 := by rw [hw1, hR]; simp
  obtain ⟨l, hl⟩ : ∃ l, l = s.data.toList := ⟨_, rfl⟩
  have hll : l.length ≤ 1000000 := by rw [hl, Array.length_toList]; exact hs
  rw [← hl] at hG hk hst ⊢
  have HNUM := opn.num1_s (R + 1) (l, 0) w1 hG
  rw [← hst, ← hk] at HNUM
  have HOF := Lib.hid (ofE_eq l k st hk hst)
  have hstl : st.1.length ≤ 1000000 := by
    rw [hst]
    have : (rdN 1 (l, 0)).2.1.length ≤ l.length := rd_left 1 (l, 0)
    omega
  have HSTL := Lib.hid hstl
  have HX := Lib.hid hX
  have HB := Lib.hid hB
  have HW := Lib.hid hw1
  have HR := Lib.hid hR
  have HSZ := Lib.hid hsz
  have HNUM := Lib.hid HNUM
  clear hX hG hB hw1 hR hsz hl hst hk hs hll hstl
  obtain ⟨p, hp⟩ : ∃ p, p = hasB k := ⟨_, rfl⟩
  have hhas := fun u => has_any k u
  rw [← hp] at hhas
  have HHAS := Lib.hid hhas
  have inT := Lib.hid (in_lit p 84 84 rfl false (by rw [hp]; unfold hasB hasL; rw [hkk]; decide +kernel) (by rw [hp, has_size]; unfold hasL; rw [hkk]; decide))
  have inC := Lib.hid (in_lit p 67 67 rfl true (by rw [hp]; unfold hasB hasL; rw [hkk]; decide +kernel) (by rw [hp, has_size]; unfold hasL; rw [hkk]; decide))
  have inB := Lib.hid (in_lit p 66 66 rfl false (by rw [hp]; unfold hasB hasL; rw [hkk]; decide +kernel) (by rw [hp, has_size]; unfold hasL; rw [hkk]; decide))
  have pE : p.toList.isEmpty = false := by rw [hp]; unfold hasB hasL; rw [hkk]; decide +kernel
  have hrd : rdE k st = (⟨k, [], [], (rdI st).1⟩, (rdI st).2) := by unfold rdE; rw [if_neg (by rw [hkk]; decide), if_pos hkk]
  have HE : Hid (ofE l = (zen, checkE (rdE k st).1)) := Lib.hid (by rw [HOF.out, if_neg (fun h => h h0), if_neg (by rw [hkk]; decide), if_neg (fun h => h h1), if_pos h2])
  obtain ⟨e1, he1⟩ : ∃ x, x = (rdE k st).1 := ⟨_, rfl⟩
  obtain ⟨sE, hsE⟩ : ∃ x, x = (rdE k st).2 := ⟨_, rfl⟩
  rw [← hsE] at h1
  rw [← he1] at HE h2
  obtain ⟨en, hen⟩ : ∃ x, x = endE sE := ⟨_, rfl⟩
  rw [← hen] at h1
  subst h1
  have HEND := Lib.hid (fun (u : World) (hu : RdrS u (R + 1) sE) => opn.end_s (R + 1) sE u hu)
  rw [← hen] at HEND
  obtain ⟨ck, hck⟩ : ∃ x, x = checkE e1 := ⟨_, rfl⟩
  rw [← hck] at h2
  rw [← hck] at HE
  have hnc : (ck != 0) = true := bne_iff_ne.2 h2
  have HCK := Lib.hid (fun (u : World) => check_any e1 u (by rw [he1]; exact rdE_commit k st) (by rw [he1]; exact Nat.le_trans (rdE_topic k st) (by decide)) (by rw [he1]; exact Nat.le_trans (rdE_body k st) (by have := HSTL.out; omega)))
  rw [← hck] at HCK
  obtain ⟨y1, hy1⟩ : ∃ y, y = (rdI st).1 := ⟨_, rfl⟩
  obtain ⟨s1, hs1⟩ : ∃ y, y = (rdI st).2 := ⟨_, rfl⟩
  have HY32 : Hid (y1.length = 32) := Lib.hid (by rw [hy1]; exact opn.rdI_len st)
  have HY1 := Lib.hid hy1
  have HS1 := Lib.hid hs1
  have HSE : Hid (sE = s1) := Lib.hid (by rw [hsE, hrd, hs1])
  have HE1 : Hid (e1 = { (ken k) with commit := y1 }) := Lib.hid (by rw [he1, hrd, hy1]; rfl)
  have H0 := Lib.hid h0
  clear h0 hkk hp hhas hrd he1 hsE hen hy1 hs1 h2 hck
  go_enter Tryd.func13, Tryd.ntmps13
  go_upto_region 2 with fail
  refine wp_at HW.out.symm ?_
  rw [← HR.out]
  clear HW
  go_wp2_with (first
    | (go_at_call 39; (with_reducible refine HID.out.mono ?_); rintro x w5 ⟨rfl, hr5, ht5⟩; have HP5 := Lib.hid (HP3.out.read ht5 (fun b hb => hb) hr5); have HSI := Lib.hid (enm_commit HP5.out.op HP5.out.ref y1 HY32.out); have hp6 := HP5.out.puti y1 HY32.out; obtain ⟨w6, hw6⟩ : ∃ u, u = w5.setRow w2.heap.size (enc { (ken k) with commit := y1 }).toArray := ⟨_, rfl⟩; rw [← hw6] at hp6 HSI; have HP6 := Lib.hid hp6; have HED := Lib.hid (HEND.out w6 (HSE.out ▸ HP6.out.rdr)); have hld := run_load_en HP6.out.op HP6.out.ref; rw [← HE1.out] at hld; have HLD := Lib.hid hld; have HPF := HP6; have HCC := Lib.hid (HCK.out w6); clear hld; clear hr5 ht5 hp6 hw6 HID)
    | ((with_reducible refine step_store_run (t := 23) (x := .tmp 41) (y := .tmp 40) (p := ?spu26) (v := ?svu26) (w' := ?swu26) ?sgu26 ?sou26 ?sxu26 ?syu26 ?sru26 ?shu26); (case sgu26 => rfl); (case sou26 => rfl); (case sxu26 => rfl); (case syu26 => rfl); (case sru26 => exact HSI.out))
    | (go_at_call 37; (with_reducible refine HNUM.out.mono ?_); rintro x w2 ⟨rfl, hr2, ht2⟩; obtain ⟨w3, hw3⟩ : ∃ u, u = (w2.alloc (.cells (enc zen).toArray 25)).setRow w2.heap.size (enc (ken k)).toArray := ⟨_, rfl⟩; have HST3 := Lib.hid (held_en w2 (ken k) (ken_commit k)); rw [← hw3] at HST3; have HP3 : Hid (OfP w R w2.heap.size (ken k) st w3) := Lib.hid (by have a1 := HR.out; have a2 := HSZ.out; have a3 := ht2.size; have a4 := hr2.lt; have hX2 := HX.out.turn ht2 (by omega); have hbb : Below w2.heap.size w2 w3 := (by rw [hw3]; exact below_row' ((Below.refl _ _).alloc (Nat.le_refl _) _) (Nat.le_refl _) _); exact ⟨by rw [hw3]; exact setRow_heap _ _ _ _ _ _ (Blk.new w2 _ _), hr2.turn (Turn.fresh (F := fun b => w2.heap.size ≤ b) hbb (fun b hb => hb)) (by have := hr2.lt; omega), hX2.below hbb hX2.lt, (HB.out.trans (ht2.below fun b hb => by omega)).trans (hbb.mono (by omega)), by omega, by omega, ken_commit k⟩); have ce := HP3.out.rdr.err; rw [H0.out] at ce; have c0 : w3.cell? ⟨w2.heap.size, 0, none⟩ = some (.int .i64 k) := (EnBlk.of HP3.out.op HP3.out.ref).k; have hI := opn.id_s (fun b => b = R + 1 ∨ w3.heap.size ≤ b) (R + 1) st w3 HP3.out.rdr (.inl rfl) (fun b hb => .inr hb); rw [← HY1.out, ← HS1.out] at hI; have HID := Lib.hid hI; clear hI; clear hr2 ht2 hw3)
    | ((with_reducible refine step_build (t := 25) (parts := #[(0, .tmp 12)]) (ps := ?bpu27) (v := ?bvu27) ?bgu27 ?bou27 ?bxu27 ?bru27 ?bhu27); (case bgu27 => rfl); (case bou27 => rfl); (case bxu27 => rfl); (case bru27 => exact run_build_k _ k))
    | ((with_reducible refine step_store_run (t := 25) (x := .tmp 5) (y := .tmp 13) (p := ?spu28) (v := ?svu28) (w' := ?swu28) ?sgu28 ?sou28 ?sxu28 ?syu28 ?sru28 ?shu28); (case sgu28 => rfl); (case sou28 => rfl); (case sxu28 => rfl); (case syu28 => rfl); (case sru28 => exact HST3.out))
    | (go_at_call 25; (with_reducible refine (HHAS.out _).mono ?_); rintro x w4 ⟨rfl, rfl⟩)
    | (go_at_call 26; (with_reducible refine (inT.out _).mono ?_); rintro x w4 ⟨rfl, rfl⟩)
    | (go_at_call 26; (with_reducible refine (inC.out _).mono ?_); rintro x w4 ⟨rfl, rfl⟩)
    | (go_at_call 26; (with_reducible refine (inB.out _).mono ?_); rintro x w4 ⟨rfl, rfl⟩)
    | (go_at_call 40; (with_reducible refine HED.out.mono ?_); rintro x w9 ⟨rfl, rfl⟩)
    | ((with_reducible refine step_load (t := 25) (x := .tmp 5) (p := ?lpu29) (v := ?lvu29) ?lgu29 ?lou29 ?lxu29 ?lru29 ?lhu29); (case lgu29 => rfl); (case lou29 => rfl); (case lxu29 => rfl); (case lru29 => exact HLD.out))
    | (go_at_call 11; (with_reducible refine HCC.out.mono ?_); rintro x w9 ⟨rfl, hb9⟩; have HRUN := Lib.hid (run_store_en (HPF.out.res.below hb9 HPF.out.res.lt) (enc_size _ zlen) zen zlen); have HB9 := Lib.hid hb9; clear hb9)
    | ((with_reducible refine step_build (t := 25) (parts := #[]) (ps := #[]) (v := ?bvu30) ?bgu30 ?bou30 ?bxu30 ?bru30 ?bhu30); (case bgu30 => rfl); (case bou30 => rfl); (case bxu30 => simp); (case bru30 => exact run_build_z _))
    | ((with_reducible refine step_store_run (t := 25) (x := .tmp 2) (y := .tmp 67) (p := ?spu31) (v := ?svu31) (w' := ?swu31) ?sgu31 ?sou31 ?sxu31 ?syu31 ?sru31 ?shu31); (case sgu31 => rfl); (case sou31 => rfl); (case sxu31 => rfl); (case syu31 => rfl); (case sru31 => exact HRUN.out)))
  refine bodyPost_ret (results_en rfl _ _ R _ zen rfl (setRow_heap _ _ _ _ _ _ (HPF.out.res.below HB9.out HPF.out.res.lt)) zlen) rfl ⟨by rw [HE.out]; rfl, below_row' (HPF.out.below.trans (HB9.out.mono HPF.out.below.size)) (by rw [HR.out]; exact Nat.le_refl _) _⟩

set_option maxHeartbeats 8000000 in
set_option maxRecDepth 100000 in
theorem of_2ok (s : ByteArray) (w : World) (hs : s.size ≤ 1000000) (k : Int) (st : St) (hk : k = (rdN 1 (s.data.toList, 0)).1) (hst : st = (rdN 1 (s.data.toList, 0)).2) (h0 : st.2 = 0) (hkk : kindE k = 2) (h1 : endE (rdE k st).2 = 0) (h2 : checkE (rdE k st).1 = 0) :
    Calls Tryd.prog 13 #[.string s] w fun x w' => OfOut s.data.toList w x w' := by
  obtain ⟨R, hR⟩ : ∃ S, S = w.heap.size := ⟨_, rfl⟩
  obtain ⟨w1, hw1⟩ : ∃ u, u = (w.alloc (.cells (enc zen).toArray 25)).alloc (.cells #[.string s, .int .i64 0] 72) := ⟨_, rfl⟩
  have hX : Blk w1 R 25 (enc zen).toArray := by rw [hw1, hR]; exact (Blk.new w _ _).alloc _
  have hG : RdrS w1 (R + 1) (s.data.toList, 0) := ⟨s, 0, by rw [hw1, hR]; exact Blk.at_ (by simp) _ _, rfl, fun _ => (oct.tx_eta s).symm⟩
  have hB : Below w.heap.size w w1 := by rw [hw1]; exact ((Below.refl _ _).alloc (Nat.le_refl _) _).alloc (by simp) _
  have hsz : w1.heap.size = R + 2 := by rw [hw1, hR]; simp
  obtain ⟨l, hl⟩ : ∃ l, l = s.data.toList := ⟨_, rfl⟩
  have hll : l.length ≤ 1000000 := by rw [hl, Array.length_toList]; exact hs
  rw [← hl] at hG hk hst ⊢
  have HNUM := opn.num1_s (R + 1) (l, 0) w1 hG
  rw [← hst, ← hk] at HNUM
  have HOF := Lib.hid (ofE_eq l k st hk hst)
  have hstl : st.1.length ≤ 1000000 := by
    rw [hst]
    have : (rdN 1 (l, 0)).2.1.length ≤ l.length := rd_left 1 (l, 0)
    omega
  have HSTL := Lib.hid hstl
  have HX := Lib.hid hX
  have HB := Lib.hid hB
  have HW := Lib.hid hw1
  have HR := Lib.hid hR
  have HSZ := Lib.hid hsz
  have HNUM := Lib.hid HNUM
  clear hX hG hB hw1 hR hsz hl hst hk hs hll hstl
  obtain ⟨p, hp⟩ : ∃ p, p = hasB k := ⟨_, rfl⟩
  have hhas := fun u => has_any k u
  rw [← hp] at hhas
  have HHAS := Lib.hid hhas
  have inT := Lib.hid (in_lit p 84 84 rfl false (by rw [hp]; unfold hasB hasL; rw [hkk]; decide +kernel) (by rw [hp, has_size]; unfold hasL; rw [hkk]; decide))
  have inC := Lib.hid (in_lit p 67 67 rfl true (by rw [hp]; unfold hasB hasL; rw [hkk]; decide +kernel) (by rw [hp, has_size]; unfold hasL; rw [hkk]; decide))
  have inB := Lib.hid (in_lit p 66 66 rfl false (by rw [hp]; unfold hasB hasL; rw [hkk]; decide +kernel) (by rw [hp, has_size]; unfold hasL; rw [hkk]; decide))
  have pE : p.toList.isEmpty = false := by rw [hp]; unfold hasB hasL; rw [hkk]; decide +kernel
  have hrd : rdE k st = (⟨k, [], [], (rdI st).1⟩, (rdI st).2) := by unfold rdE; rw [if_neg (by rw [hkk]; decide), if_pos hkk]
  have HE : Hid (ofE l = ((rdE k st).1, 0)) := Lib.hid (by rw [HOF.out, if_neg (fun h => h h0), if_neg (by rw [hkk]; decide), if_neg (fun h => h h1), if_neg (fun h => h h2)])
  obtain ⟨e1, he1⟩ : ∃ x, x = (rdE k st).1 := ⟨_, rfl⟩
  obtain ⟨sE, hsE⟩ : ∃ x, x = (rdE k st).2 := ⟨_, rfl⟩
  rw [← hsE] at h1
  rw [← he1] at HE h2
  obtain ⟨en, hen⟩ : ∃ x, x = endE sE := ⟨_, rfl⟩
  rw [← hen] at h1
  subst h1
  have HEND := Lib.hid (fun (u : World) (hu : RdrS u (R + 1) sE) => opn.end_s (R + 1) sE u hu)
  rw [← hen] at HEND
  obtain ⟨ck, hck⟩ : ∃ x, x = checkE e1 := ⟨_, rfl⟩
  rw [← hck] at h2
  have HCK := Lib.hid (fun (u : World) => check_any e1 u (by rw [he1]; exact rdE_commit k st) (by rw [he1]; exact Nat.le_trans (rdE_topic k st) (by decide)) (by rw [he1]; exact Nat.le_trans (rdE_body k st) (by have := HSTL.out; omega)))
  rw [← hck] at HCK
  subst h2
  obtain ⟨y1, hy1⟩ : ∃ y, y = (rdI st).1 := ⟨_, rfl⟩
  obtain ⟨s1, hs1⟩ : ∃ y, y = (rdI st).2 := ⟨_, rfl⟩
  have HY32 : Hid (y1.length = 32) := Lib.hid (by rw [hy1]; exact opn.rdI_len st)
  have HY1 := Lib.hid hy1
  have HS1 := Lib.hid hs1
  have HSE : Hid (sE = s1) := Lib.hid (by rw [hsE, hrd, hs1])
  have HE1 : Hid (e1 = { (ken k) with commit := y1 }) := Lib.hid (by rw [he1, hrd, hy1]; rfl)
  have H0 := Lib.hid h0
  clear h0 hkk hp hhas hrd he1 hsE hen hy1 hs1 hck
  go_enter Tryd.func13, Tryd.ntmps13
  go_upto_region 2 with fail
  refine wp_at HW.out.symm ?_
  rw [← HR.out]
  clear HW
  go_wp2_with (first
    | (go_at_call 39; (with_reducible refine HID.out.mono ?_); rintro x w5 ⟨rfl, hr5, ht5⟩; have HP5 := Lib.hid (HP3.out.read ht5 (fun b hb => hb) hr5); have HSI := Lib.hid (enm_commit HP5.out.op HP5.out.ref y1 HY32.out); have hp6 := HP5.out.puti y1 HY32.out; obtain ⟨w6, hw6⟩ : ∃ u, u = w5.setRow w2.heap.size (enc { (ken k) with commit := y1 }).toArray := ⟨_, rfl⟩; rw [← hw6] at hp6 HSI; have HP6 := Lib.hid hp6; have HED := Lib.hid (HEND.out w6 (HSE.out ▸ HP6.out.rdr)); have hld := run_load_en HP6.out.op HP6.out.ref; rw [← HE1.out] at hld; have HLD := Lib.hid hld; have HPF := HP6; have HCC := Lib.hid (HCK.out w6); clear hld; clear hr5 ht5 hp6 hw6 HID)
    | ((with_reducible refine step_store_run (t := 23) (x := .tmp 41) (y := .tmp 40) (p := ?spu32) (v := ?svu32) (w' := ?swu32) ?sgu32 ?sou32 ?sxu32 ?syu32 ?sru32 ?shu32); (case sgu32 => rfl); (case sou32 => rfl); (case sxu32 => rfl); (case syu32 => rfl); (case sru32 => exact HSI.out))
    | (go_at_call 37; (with_reducible refine HNUM.out.mono ?_); rintro x w2 ⟨rfl, hr2, ht2⟩; obtain ⟨w3, hw3⟩ : ∃ u, u = (w2.alloc (.cells (enc zen).toArray 25)).setRow w2.heap.size (enc (ken k)).toArray := ⟨_, rfl⟩; have HST3 := Lib.hid (held_en w2 (ken k) (ken_commit k)); rw [← hw3] at HST3; have HP3 : Hid (OfP w R w2.heap.size (ken k) st w3) := Lib.hid (by have a1 := HR.out; have a2 := HSZ.out; have a3 := ht2.size; have a4 := hr2.lt; have hX2 := HX.out.turn ht2 (by omega); have hbb : Below w2.heap.size w2 w3 := (by rw [hw3]; exact below_row' ((Below.refl _ _).alloc (Nat.le_refl _) _) (Nat.le_refl _) _); exact ⟨by rw [hw3]; exact setRow_heap _ _ _ _ _ _ (Blk.new w2 _ _), hr2.turn (Turn.fresh (F := fun b => w2.heap.size ≤ b) hbb (fun b hb => hb)) (by have := hr2.lt; omega), hX2.below hbb hX2.lt, (HB.out.trans (ht2.below fun b hb => by omega)).trans (hbb.mono (by omega)), by omega, by omega, ken_commit k⟩); have ce := HP3.out.rdr.err; rw [H0.out] at ce; have c0 : w3.cell? ⟨w2.heap.size, 0, none⟩ = some (.int .i64 k) := (EnBlk.of HP3.out.op HP3.out.ref).k; have hI := opn.id_s (fun b => b = R + 1 ∨ w3.heap.size ≤ b) (R + 1) st w3 HP3.out.rdr (.inl rfl) (fun b hb => .inr hb); rw [← HY1.out, ← HS1.out] at hI; have HID := Lib.hid hI; clear hI; clear hr2 ht2 hw3)
    | ((with_reducible refine step_build (t := 25) (parts := #[(0, .tmp 12)]) (ps := ?bpu33) (v := ?bvu33) ?bgu33 ?bou33 ?bxu33 ?bru33 ?bhu33); (case bgu33 => rfl); (case bou33 => rfl); (case bxu33 => rfl); (case bru33 => exact run_build_k _ k))
    | ((with_reducible refine step_store_run (t := 25) (x := .tmp 5) (y := .tmp 13) (p := ?spu34) (v := ?svu34) (w' := ?swu34) ?sgu34 ?sou34 ?sxu34 ?syu34 ?sru34 ?shu34); (case sgu34 => rfl); (case sou34 => rfl); (case sxu34 => rfl); (case syu34 => rfl); (case sru34 => exact HST3.out))
    | (go_at_call 25; (with_reducible refine (HHAS.out _).mono ?_); rintro x w4 ⟨rfl, rfl⟩)
    | (go_at_call 26; (with_reducible refine (inT.out _).mono ?_); rintro x w4 ⟨rfl, rfl⟩)
    | (go_at_call 26; (with_reducible refine (inC.out _).mono ?_); rintro x w4 ⟨rfl, rfl⟩)
    | (go_at_call 26; (with_reducible refine (inB.out _).mono ?_); rintro x w4 ⟨rfl, rfl⟩)
    | (go_at_call 40; (with_reducible refine HED.out.mono ?_); rintro x w9 ⟨rfl, rfl⟩)
    | ((with_reducible refine step_load (t := 25) (x := .tmp 5) (p := ?lpu35) (v := ?lvu35) ?lgu35 ?lou35 ?lxu35 ?lru35 ?lhu35); (case lgu35 => rfl); (case lou35 => rfl); (case lxu35 => rfl); (case lru35 => exact HLD.out))
    | (go_at_call 11; (with_reducible refine HCC.out.mono ?_); rintro x w9 ⟨rfl, hb9⟩; have hl9 := run_load_en (HPF.out.op.below hb9 HPF.out.op.lt) HPF.out.ref; rw [← HE1.out] at hl9; have HL9 := Lib.hid hl9; have hl8 := HPF.out.last hb9; rw [← HE1.out] at hl8; have HRUN := Lib.hid hl8; have HB9 := Lib.hid hb9; clear hb9 hl9 hl8)
    | ((with_reducible refine step_load (t := 25) (x := .tmp 5) (p := ?lpu36) (v := ?lvu36) ?lgu36 ?lou36 ?lxu36 ?lru36 ?lhu36); (case lgu36 => rfl); (case lou36 => rfl); (case lxu36 => rfl); (case lru36 => exact HL9.out))
    | ((with_reducible refine step_store_run (t := 25) (x := .tmp 2) (y := .tmp 69) (p := ?spu37) (v := ?svu37) (w' := ?swu37) ?sgu37 ?sou37 ?sxu37 ?syu37 ?sru37 ?shu37); (case sgu37 => rfl); (case sou37 => rfl); (case sxu37 => rfl); (case syu37 => rfl); (case sru37 => exact HRUN.out)))
  have hrf : e1.commit.length = 32 := by rw [HE1.out]; exact HPF.out.ref
  refine bodyPost_ret (results_en rfl _ _ R _ e1 rfl (setRow_heap _ _ _ _ _ _ (HPF.out.res.below HB9.out HPF.out.res.lt)) hrf) rfl ⟨by rw [HE.out]; rfl, below_row' (HPF.out.below.trans (HB9.out.mono HPF.out.below.size)) (by rw [HR.out]; exact Nat.le_refl _) _⟩
end Go.Proofs.YtbhkegdohiekfaaDoor.ent
