/-
  petrelref14.Of: a topic.
-/
import Derived.Test.YtbhkegdohiekfaaDoorEnof
namespace Go.Proofs.YtbhkegdohiekfaaDoor.ent
open Go.RowKit Go.Proofs.YtbhkegdohiekfaaDoor.mem Go.Proofs.YtbhkegdohiekfaaDoor.sha Go.Proofs.YtbhkegdohiekfaaDoor.ids
open Go.Proofs.YtbhkegdohiekfaaDoor.opn (b1 b2 b4 num txt idl byte rd rdN rdT rdI rdS rdL St Reads Stays endE zid mkId RdrS)
open Go.Proofs.YtbhkegdohiekfaaDoor.topic (kindOf)

set_option maxHeartbeats 8000000 in
set_option maxRecDepth 100000 in
theorem of_3end (s : ByteArray) (w : World) (hs : s.size ≤ 1000000) (k : Int) (st : St) (hk : k = (rdN 1 (s.data.toList, 0)).1) (hst : st = (rdN 1 (s.data.toList, 0)).2) (h0 : st.2 = 0) (hkk : kindE k = 3) (h1 : endE (rdE k st).2 ≠ 0) :
    Calls Tryd.prog 13 #[.string s] w fun x w' => OfOut s.data.toList w x w' := by
  obtain ⟨R, hR⟩ : ∃ S, S = w.heap.size := ⟨_, rfl⟩
  obtain ⟨w1, hw1⟩ : ∃ u, u = (w.alloc (.cells (enc zen).toArray 25)).alloc (.cells #[.string s, .int .i64 0] 72) := ⟨_, rfl⟩
  have hX : Blk w1 R 25 (enc zen).toArray := by rw [hw1, hR]; exact (Blk.new w _ _).alloc _
  have hG : RdrS w1 (R + 1) (s.data.toList, 0) := ⟨s, 0, by rw [hw1, hR]; exact Blk.at_ (by simp) _ _, rfl, fun _ => (oct.tx_eta s).symm⟩
  have hB : Below w.heap.size w w1 := by rw [hw1]; exact ((Below.refl _ _).alloc (Nat.le_refl _) _).alloc (by simp) _
  have hsz : w1.heap.size = R + 2 := by rw [hw1, hR]; simp
  obtain ⟨l, hl⟩ : ∃ l, l = s.data.toList := ⟨_, rfl⟩
  have hll : l.length ≤ 1000000 := by rw [hl, Array.length_toList]; exact hs
  rw [← hl] at hG hk hst ⊢
  have HNUM := opn.num1_s (R + 1) (l, 0) w1 hG
  rw [← hst, ← hk] at HNUM
  have HOF := Lib.hid (ofE_eq l k st hk hst)
  have hstl : st.1.length ≤ 1000000 := by
    rw [hst]
    have : (rdN 1 (l, 0)).2.1.length ≤ l.length := rd_left 1 (l, 0)
    omega
  have HSTL := Lib.hid hstl
  have HX := Lib.hid hX
  have HB := Lib.hid hB
  have HW := Lib.hid hw1
  have HR := Lib.hid hR
  have HSZ := Lib.hid hsz
  have HNUM := Lib.hid HNUM
  clear hX hG hB hw1 hR hsz hl hst hk hs hll hstl
  obtain ⟨p, hp⟩ : ∃ p, p = hasB k := ⟨_, rfl⟩
  have hhas := fun u => has_any k u
  rw [← hp] at hhas
  have HHAS := Lib.hid hhas
  have inT := Lib.hid (in_lit p 84 84 rfl true (by rw [hp]; unfold hasB hasL; rw [hkk]; decide +kernel) (by rw [hp, has_size]; unfold hasL; rw [hkk]; decide))
  have inC := Lib.hid (in_lit p 67 67 rfl false (by rw [hp]; unfold hasB hasL; rw [hkk]; decide +kernel) (by rw [hp, has_size]; unfold hasL; rw [hkk]; decide))
  have inB := Lib.hid (in_lit p 66 66 rfl false (by rw [hp]; unfold hasB hasL; rw [hkk]; decide +kernel) (by rw [hp, has_size]; unfold hasL; rw [hkk]; decide))
  have pE : p.toList.isEmpty = false := by rw [hp]; unfold hasB hasL; rw [hkk]; decide +kernel
  have hrd : rdE k st = (⟨k, (rdT st).1, [], zid⟩, (rdT st).2) := by unfold rdE; rw [if_neg (by rw [hkk]; decide), if_neg (by rw [hkk]; decide), if_pos hkk]
  have HE : Hid (ofE l = (zen, endE (rdE k st).2)) := Lib.hid (by rw [HOF.out, if_neg (fun h => h h0), if_neg (by rw [hkk]; decide), if_pos h1])
  obtain ⟨e1, he1⟩ : ∃ x, x = (rdE k st).1 := ⟨_, rfl⟩
  obtain ⟨sE, hsE⟩ : ∃ x, x = (rdE k st).2 := ⟨_, rfl⟩
  rw [← hsE] at h1
  rw [← hsE] at HE
  obtain ⟨en, hen⟩ : ∃ x, x = endE sE := ⟨_, rfl⟩
  rw [← hen] at h1
  rw [← hen] at HE
  have hne : (en != 0) = true := bne_iff_ne.2 h1
  have heq : (en == 0) = false := beq_eq_false_iff_ne.2 h1
  have HEND := Lib.hid (fun (u : World) (hu : RdrS u (R + 1) sE) => opn.end_s (R + 1) sE u hu)
  rw [← hen] at HEND
  obtain ⟨y1, hy1⟩ : ∃ y, y = (rdT st).1 := ⟨_, rfl⟩
  obtain ⟨s1, hs1⟩ : ∃ y, y = (rdT st).2 := ⟨_, rfl⟩
  obtain ⟨n1, hn1⟩ : ∃ y, y = (rdN 1 st).1 := ⟨_, rfl⟩
  obtain ⟨s0, hs0⟩ : ∃ y, y = (rdN 1 st).2 := ⟨_, rfl⟩
  have hn10 : 0 ≤ n1 := by rw [hn1]; exact opn.rdN_nonneg 1 st
  have HT1 : Hid (rd n1.toNat s0 = (y1, s1)) := Lib.hid (by rw [hn1, hs0, hy1, hs1]; rfl)
  obtain ⟨t1, ht1⟩ : ∃ t, t = oct.tx y1 := ⟨_, rfl⟩
  have HTX1 := Lib.hid ht1
  have HN1 := Lib.hid hn1
  have HS0 := Lib.hid hs0
  have HSE : Hid (sE = s1) := Lib.hid (by rw [hsE, hrd, hs1])
  have HE1 : Hid (e1 = { (ken k) with topic := y1 }) := Lib.hid (by rw [he1, hrd, hy1]; rfl)
  have H0 := Lib.hid h0
  clear h0 hkk hp hhas hrd he1 hsE hen hy1 hs1 hn1 hs0 ht1 h1
  go_enter Tryd.func13, Tryd.ntmps13
  go_upto_region 2 with fail
  refine wp_at HW.out.symm ?_
  rw [← HR.out]
  clear HW
  go_wp2_with (first
    | (go_at_call 38; (with_reducible refine HRA.out.mono ?_); rintro x w5 ⟨rfl, hr5, ht5⟩; have HP5 := Lib.hid (HP4.out.read ht5 (fun b hb => .inl hb) hr5); have ct := (EnBlk.of HP5.out.op HP5.out.ref).topic; have ft := HP5.out.op.frozen 1; have hp6 := HP5.out.putt y1; rw [← HTX1.out] at hp6; have HP6 := Lib.hid hp6; clear ce; have ce := hp6.rdr.err; have HED := Lib.hid (HEND.out (w5.setCell ⟨w2.heap.size, 1, none⟩ (.string t1)) (HSE.out ▸ HP6.out.rdr)); have HRUN := Lib.hid HP6.out.zero; have HPF := HP6; clear hr5 ht5 hp6 HRA)
    | (go_at_call 37; (with_reducible refine HNA.out.mono ?_); rintro x w4 ⟨rfl, hr4, ht4⟩; have HP4 := Lib.hid (HP3.out.read ht4 (fun b hb => .inl hb) hr4); have hRA := opn.raw_s (R + 1) s0 n1 hn10 w4 HP4.out.rdr; rw [HT1.out, ← HTX1.out] at hRA; have HRA := Lib.hid hRA; clear hr4 ht4 hRA HNA)
    | (go_at_call 37; (with_reducible refine HNUM.out.mono ?_); rintro x w2 ⟨rfl, hr2, ht2⟩; obtain ⟨w3, hw3⟩ : ∃ u, u = (w2.alloc (.cells (enc zen).toArray 25)).setRow w2.heap.size (enc (ken k)).toArray := ⟨_, rfl⟩; have HST3 := Lib.hid (held_en w2 (ken k) (ken_commit k)); rw [← hw3] at HST3; have HP3 : Hid (OfP w R w2.heap.size (ken k) st w3) := Lib.hid (by have a1 := HR.out; have a2 := HSZ.out; have a3 := ht2.size; have a4 := hr2.lt; have hX2 := HX.out.turn ht2 (by omega); have hbb : Below w2.heap.size w2 w3 := (by rw [hw3]; exact below_row' ((Below.refl _ _).alloc (Nat.le_refl _) _) (Nat.le_refl _) _); exact ⟨by rw [hw3]; exact setRow_heap _ _ _ _ _ _ (Blk.new w2 _ _), hr2.turn (Turn.fresh (F := fun b => w2.heap.size ≤ b) hbb (fun b hb => hb)) (by have := hr2.lt; omega), hX2.below hbb hX2.lt, (HB.out.trans (ht2.below fun b hb => by omega)).trans (hbb.mono (by omega)), by omega, by omega, ken_commit k⟩); have ce := HP3.out.rdr.err; rw [H0.out] at ce; have c0 : w3.cell? ⟨w2.heap.size, 0, none⟩ = some (.int .i64 k) := (EnBlk.of HP3.out.op HP3.out.ref).k; have hN1 := opn.num1_s (R + 1) st w3 HP3.out.rdr; rw [← HN1.out, ← HS0.out] at hN1; have HNA := Lib.hid hN1; clear hN1; clear hr2 ht2 hw3)
    | ((with_reducible refine step_build (t := 25) (parts := #[(0, .tmp 12)]) (ps := ?bpu38) (v := ?bvu38) ?bgu38 ?bou38 ?bxu38 ?bru38 ?bhu38); (case bgu38 => rfl); (case bou38 => rfl); (case bxu38 => rfl); (case bru38 => exact run_build_k _ k))
    | ((with_reducible refine step_store_run (t := 25) (x := .tmp 5) (y := .tmp 13) (p := ?spu39) (v := ?svu39) (w' := ?swu39) ?sgu39 ?sou39 ?sxu39 ?syu39 ?sru39 ?shu39); (case sgu39 => rfl); (case sou39 => rfl); (case sxu39 => rfl); (case syu39 => rfl); (case sru39 => exact HST3.out))
    | (go_at_call 25; (with_reducible refine (HHAS.out _).mono ?_); rintro x w4 ⟨rfl, rfl⟩)
    | (go_at_call 26; (with_reducible refine (inT.out _).mono ?_); rintro x w4 ⟨rfl, rfl⟩)
    | (go_at_call 26; (with_reducible refine (inC.out _).mono ?_); rintro x w4 ⟨rfl, rfl⟩)
    | (go_at_call 26; (with_reducible refine (inB.out _).mono ?_); rintro x w4 ⟨rfl, rfl⟩)
    | (go_at_call 40; (with_reducible refine HED.out.mono ?_); rintro x w9 ⟨rfl, rfl⟩)
    | ((with_reducible refine step_build (t := 25) (parts := #[]) (ps := #[]) (v := ?bvu40) ?bgu40 ?bou40 ?bxu40 ?bru40 ?bhu40); (case bgu40 => rfl); (case bou40 => rfl); (case bxu40 => simp); (case bru40 => exact run_build_z _))
    | ((with_reducible refine step_store_run (t := 25) (x := .tmp 2) (y := .tmp 67) (p := ?spu41) (v := ?svu41) (w' := ?swu41) ?sgu41 ?sou41 ?sxu41 ?syu41 ?sru41 ?shu41); (case sgu41 => rfl); (case sou41 => rfl); (case sxu41 => rfl); (case syu41 => rfl); (case sru41 => exact HRUN.out)))
  refine bodyPost_ret (results_en rfl _ _ R _ zen rfl (setRow_heap _ _ _ _ _ _ HPF.out.res) zlen) rfl ⟨by rw [HE.out]; rfl, below_row' HPF.out.below (by rw [HR.out]; exact Nat.le_refl _) _⟩

set_option maxHeartbeats 8000000 in
set_option maxRecDepth 100000 in
theorem of_3check (s : ByteArray) (w : World) (hs : s.size ≤ 1000000) (k : Int) (st : St) (hk : k = (rdN 1 (s.data.toList, 0)).1) (hst : st = (rdN 1 (s.data.toList, 0)).2) (h0 : st.2 = 0) (hkk : kindE k = 3) (h1 : endE (rdE k st).2 = 0) (h2 : checkE (rdE k st).1 ≠ 0) :
    Calls Tryd.prog 13 #[.string s] w fun x w' => OfOut s.data.toList w x w' := by
  obtain ⟨R, hR⟩ : ∃ S, S = w.heap.size := ⟨_, rfl⟩
  obtain ⟨w1, hw1⟩ : ∃ u, u = (w.alloc (.cells (enc zen).toArray 25)).alloc (.cells #[.string s, .int .i64 0] 72) := ⟨_, rfl⟩
  have hX : Blk w1 R 25 (enc zen).toArray := by rw [hw1, hR]; exact (Blk.new w _ _).alloc _
  have hG : RdrS w1 (R + 1) (s.data.toList, 0) := ⟨s, 0, by rw [hw1, hR]; exact Blk.at_ (by simp) _ _, rfl, fun _ => (oct.tx_eta s).symm⟩
  have hB : Below w.heap.size w w1 := by rw [hw1]; exact ((Below.refl _ _).alloc (Nat.le_refl _) _).alloc (by simp) _
  have hsz : w1.heap.size = R + 2 := by rw [hw1, hR]; simp
  obtain ⟨l, hl⟩ : ∃ l, l = s.data.toList := ⟨_, rfl⟩
  have hll : l.length ≤ 1000000 := by rw [hl, Array.length_toList]; exact hs
  rw [← hl] at hG hk hst ⊢
  have HNUM := opn.num1_s (R + 1) (l, 0) w1 hG
  rw [← hst, ← hk] at HNUM
  have HOF := Lib.hid (ofE_eq l k st hk hst)
  have hstl : st.1.length ≤ 1000000 := by
    rw [hst]
    have : (rdN 1 (l, 0)).2.1.length ≤ l.length := rd_left 1 (l, 0)
    omega
  have HSTL := Lib.hid hstl
  have HX := Lib.hid hX
  have HB := Lib.hid hB
  have HW := Lib.hid hw1
  have HR := Lib.hid hR
  have HSZ := Lib.hid hsz
  have HNUM := Lib.hid HNUM
  clear hX hG hB hw1 hR hsz hl hst hk hs hll hstl
  obtain ⟨p, hp⟩ : ∃ p, p = hasB k := ⟨_, rfl⟩
  have hhas := fun u => has_any k u
  rw [← hp] at hhas
  have HHAS := Lib.hid hhas
  have inT := Lib.hid (in_lit p 84 84 rfl true (by rw [hp]; unfold hasB hasL; rw [hkk]; decide +kernel) (by rw [hp, has_size]; unfold hasL; rw [hkk]; decide))
  have inC := Lib.hid (in_lit p 67 67 rfl false (by rw [hp]; unfold hasB hasL; rw [hkk]; decide +kernel) (by rw [hp, has_size]; unfold hasL; rw [hkk]; decide))
  have inB := Lib.hid (in_lit p 66 66 rfl false (by rw [hp]; unfold hasB hasL; rw [hkk]; decide +kernel) (by rw [hp, has_size]; unfold hasL; rw [hkk]; decide))
  have pE : p.toList.isEmpty = false := by rw [hp]; unfold hasB hasL; rw [hkk]; decide +kernel
  have hrd : rdE k st = (⟨k, (rdT st).1, [], zid⟩, (rdT st).2) := by unfold rdE; rw [if_neg (by rw [hkk]; decide), if_neg (by rw [hkk]; decide), if_pos hkk]
  have HE : Hid (ofE l = (zen, checkE (rdE k st).1)) := Lib.hid (by rw [HOF.out, if_neg (fun h => h h0), if_neg (by rw [hkk]; decide), if_neg (fun h => h h1), if_pos h2])
  obtain ⟨e1, he1⟩ : ∃ x, x = (rdE k st).1 := ⟨_, rfl⟩
  obtain ⟨sE, hsE⟩ : ∃ x, x = (rdE k st).2 := ⟨_, rfl⟩
  rw [← hsE] at h1
  rw [← he1] at HE h2
  obtain ⟨en, hen⟩ : ∃ x, x = endE sE := ⟨_, rfl⟩
  rw [← hen] at h1
  subst h1
  have HEND := Lib.hid (fun (u : World) (hu : RdrS u (R + 1) sE) => opn.end_s (R + 1) sE u hu)
  rw [← hen] at HEND
  obtain ⟨ck, hck⟩ : ∃ x, x = checkE e1 := ⟨_, rfl⟩
  rw [← hck] at h2
  rw [← hck] at HE
  have hnc : (ck != 0) = true := bne_iff_ne.2 h2
  have HCK := Lib.hid (fun (u : World) => check_any e1 u (by rw [he1]; exact rdE_commit k st) (by rw [he1]; exact Nat.le_trans (rdE_topic k st) (by decide)) (by rw [he1]; exact Nat.le_trans (rdE_body k st) (by have := HSTL.out; omega)))
  rw [← hck] at HCK
  obtain ⟨y1, hy1⟩ : ∃ y, y = (rdT st).1 := ⟨_, rfl⟩
  obtain ⟨s1, hs1⟩ : ∃ y, y = (rdT st).2 := ⟨_, rfl⟩
  obtain ⟨n1, hn1⟩ : ∃ y, y = (rdN 1 st).1 := ⟨_, rfl⟩
  obtain ⟨s0, hs0⟩ : ∃ y, y = (rdN 1 st).2 := ⟨_, rfl⟩
  have hn10 : 0 ≤ n1 := by rw [hn1]; exact opn.rdN_nonneg 1 st
  have HT1 : Hid (rd n1.toNat s0 = (y1, s1)) := Lib.hid (by rw [hn1, hs0, hy1, hs1]; rfl)
  obtain ⟨t1, ht1⟩ : ∃ t, t = oct.tx y1 := ⟨_, rfl⟩
  have HTX1 := Lib.hid ht1
  have HN1 := Lib.hid hn1
  have HS0 := Lib.hid hs0
  have HSE : Hid (sE = s1) := Lib.hid (by rw [hsE, hrd, hs1])
  have HE1 : Hid (e1 = { (ken k) with topic := y1 }) := Lib.hid (by rw [he1, hrd, hy1]; rfl)
  have H0 := Lib.hid h0
  clear h0 hkk hp hhas hrd he1 hsE hen hy1 hs1 hn1 hs0 ht1 h2 hck
  go_enter Tryd.func13, Tryd.ntmps13
  go_upto_region 2 with fail
  refine wp_at HW.out.symm ?_
  rw [← HR.out]
  clear HW
  go_wp2_with (first
    | (go_at_call 38; (with_reducible refine HRA.out.mono ?_); rintro x w5 ⟨rfl, hr5, ht5⟩; have HP5 := Lib.hid (HP4.out.read ht5 (fun b hb => .inl hb) hr5); have ct := (EnBlk.of HP5.out.op HP5.out.ref).topic; have ft := HP5.out.op.frozen 1; have hp6 := HP5.out.putt y1; rw [← HTX1.out] at hp6; have HP6 := Lib.hid hp6; clear ce; have ce := hp6.rdr.err; have HED := Lib.hid (HEND.out (w5.setCell ⟨w2.heap.size, 1, none⟩ (.string t1)) (HSE.out ▸ HP6.out.rdr)); have hld := run_load_en HP6.out.op HP6.out.ref; rw [← HE1.out] at hld; have HLD := Lib.hid hld; have HPF := HP6; have HCC := Lib.hid (HCK.out (w5.setCell ⟨w2.heap.size, 1, none⟩ (.string t1))); clear hld; clear hr5 ht5 hp6 HRA)
    | (go_at_call 37; (with_reducible refine HNA.out.mono ?_); rintro x w4 ⟨rfl, hr4, ht4⟩; have HP4 := Lib.hid (HP3.out.read ht4 (fun b hb => .inl hb) hr4); have hRA := opn.raw_s (R + 1) s0 n1 hn10 w4 HP4.out.rdr; rw [HT1.out, ← HTX1.out] at hRA; have HRA := Lib.hid hRA; clear hr4 ht4 hRA HNA)
    | (go_at_call 37; (with_reducible refine HNUM.out.mono ?_); rintro x w2 ⟨rfl, hr2, ht2⟩; obtain ⟨w3, hw3⟩ : ∃ u, u = (w2.alloc (.cells (enc zen).toArray 25)).setRow w2.heap.size (enc (ken k)).toArray := ⟨_, rfl⟩; have HST3 := Lib.hid (held_en w2 (ken k) (ken_commit k)); rw [← hw3] at HST3; have HP3 : Hid (OfP w R w2.heap.size (ken k) st w3) := Lib.hid (by have a1 := HR.out; have a2 := HSZ.out; have a3 := ht2.size; have a4 := hr2.lt; have hX2 := HX.out.turn ht2 (by omega); have hbb : Below w2.heap.size w2 w3 := (by rw [hw3]; exact below_row' ((Below.refl _ _).alloc (Nat.le_refl _) _) (Nat.le_refl _) _); exact ⟨by rw [hw3]; exact setRow_heap _ _ _ _ _ _ (Blk.new w2 _ _), hr2.turn (Turn.fresh (F := fun b => w2.heap.size ≤ b) hbb (fun b hb => hb)) (by have := hr2.lt; omega), hX2.below hbb hX2.lt, (HB.out.trans (ht2.below fun b hb => by omega)).trans (hbb.mono (by omega)), by omega, by omega, ken_commit k⟩); have ce := HP3.out.rdr.err; rw [H0.out] at ce; have c0 : w3.cell? ⟨w2.heap.size, 0, none⟩ = some (.int .i64 k) := (EnBlk.of HP3.out.op HP3.out.ref).k; have hN1 := opn.num1_s (R + 1) st w3 HP3.out.rdr; rw [← HN1.out, ← HS0.out] at hN1; have HNA := Lib.hid hN1; clear hN1; clear hr2 ht2 hw3)
    | ((with_reducible refine step_build (t := 25) (parts := #[(0, .tmp 12)]) (ps := ?bpu42) (v := ?bvu42) ?bgu42 ?bou42 ?bxu42 ?bru42 ?bhu42); (case bgu42 => rfl); (case bou42 => rfl); (case bxu42 => rfl); (case bru42 => exact run_build_k _ k))
    | ((with_reducible refine step_store_run (t := 25) (x := .tmp 5) (y := .tmp 13) (p := ?spu43) (v := ?svu43) (w' := ?swu43) ?sgu43 ?sou43 ?sxu43 ?syu43 ?sru43 ?shu43); (case sgu43 => rfl); (case sou43 => rfl); (case sxu43 => rfl); (case syu43 => rfl); (case sru43 => exact HST3.out))
    | (go_at_call 25; (with_reducible refine (HHAS.out _).mono ?_); rintro x w4 ⟨rfl, rfl⟩)
    | (go_at_call 26; (with_reducible refine (inT.out _).mono ?_); rintro x w4 ⟨rfl, rfl⟩)
    | (go_at_call 26; (with_reducible refine (inC.out _).mono ?_); rintro x w4 ⟨rfl, rfl⟩)
    | (go_at_call 26; (with_reducible refine (inB.out _).mono ?_); rintro x w4 ⟨rfl, rfl⟩)
    | (go_at_call 40; (with_reducible refine HED.out.mono ?_); rintro x w9 ⟨rfl, rfl⟩)
    | ((with_reducible refine step_load (t := 25) (x := .tmp 5) (p := ?lpu44) (v := ?lvu44) ?lgu44 ?lou44 ?lxu44 ?lru44 ?lhu44); (case lgu44 => rfl); (case lou44 => rfl); (case lxu44 => rfl); (case lru44 => exact HLD.out))
    | (go_at_call 11; (with_reducible refine HCC.out.mono ?_); rintro x w9 ⟨rfl, hb9⟩; have HRUN := Lib.hid (run_store_en (HPF.out.res.below hb9 HPF.out.res.lt) (enc_size _ zlen) zen zlen); have HB9 := Lib.hid hb9; clear hb9)
    | ((with_reducible refine step_build (t := 25) (parts := #[]) (ps := #[]) (v := ?bvu45) ?bgu45 ?bou45 ?bxu45 ?bru45 ?bhu45); (case bgu45 => rfl); (case bou45 => rfl); (case bxu45 => simp); (case bru45 => exact run_build_z _))
    | ((with_reducible refine step_store_run (t := 25) (x := .tmp 2) (y := .tmp 67) (p := ?spu46) (v := ?svu46) (w' := ?swu46) ?sgu46 ?sou46 ?sxu46 ?syu46 ?sru46 ?shu46); (case sgu46 => rfl); (case sou46 => rfl); (case sxu46 => rfl); (case syu46 => rfl); (case sru46 => exact HRUN.out)))
  refine bodyPost_ret (results_en rfl _ _ R _ zen rfl (setRow_heap _ _ _ _ _ _ (HPF.out.res.below HB9.out HPF.out.res.lt)) zlen) rfl ⟨by rw [HE.out]; rfl, below_row' (HPF.out.below.trans (HB9.out.mono HPF.out.below.size)) (by rw [HR.out]; exact Nat.le_refl _) _⟩

set_option maxHeartbeats 8000000 in
set_option maxRecDepth 100000 in
theorem of_3ok (s : ByteArray) (w : World) (hs : s.size ≤ 1000000) (k : Int) (st : St) (hk : k = (rdN 1 (s.data.toList, 0)).1) (hst : st = (rdN 1 (s.data.toList, 0)).2) (h0 : st.2 = 0) (hkk : kindE k = 3) (h1 : endE (rdE k st).2 = 0) (h2 : checkE (rdE k st).1 = 0) :
    Calls Tryd.prog 13 #[.string s] w fun x w' => OfOut s.data.toList w x w' := by
  obtain ⟨R, hR⟩ : ∃ S, S = w.heap.size := ⟨_, rfl⟩
  obtain ⟨w1, hw1⟩ : ∃ u, u = (w.alloc (.cells (enc zen).toArray 25)).alloc (.cells #[.string s, .int .i64 0] 72) := ⟨_, rfl⟩
  have hX : Blk w1 R 25 (enc zen).toArray := by rw [hw1, hR]; exact (Blk.new w _ _).alloc _
  have hG : RdrS w1 (R + 1) (s.data.toList, 0) := ⟨s, 0, by rw [hw1, hR]; exact Blk.at_ (by simp) _ _, rfl, fun _ => (oct.tx_eta s).symm⟩
  have hB : Below w.heap.size w w1 := by rw [hw1]; exact ((Below.refl _ _).alloc (Nat.le_refl _) _).alloc (by simp) _
  have hsz : w1.heap.size = R + 2 := by rw [hw1, hR]; simp
  obtain ⟨l, hl⟩ : ∃ l, l = s.data.toList := ⟨_, rfl⟩
  have hll : l.length ≤ 1000000 := by rw [hl, Array.length_toList]; exact hs
  rw [← hl] at hG hk hst ⊢
  have HNUM := opn.num1_s (R + 1) (l, 0) w1 hG
  rw [← hst, ← hk] at HNUM
  have HOF := Lib.hid (ofE_eq l k st hk hst)
  have hstl : st.1.length ≤ 1000000 := by
    rw [hst]
    have : (rdN 1 (l, 0)).2.1.length ≤ l.length := rd_left 1 (l, 0)
    omega
  have HSTL := Lib.hid hstl
  have HX := Lib.hid hX
  have HB := Lib.hid hB
  have HW := Lib.hid hw1
  have HR := Lib.hid hR
  have HSZ := Lib.hid hsz
  have HNUM := Lib.hid HNUM
  clear hX hG hB hw1 hR hsz hl hst hk hs hll hstl
  obtain ⟨p, hp⟩ : ∃ p, p = hasB k := ⟨_, rfl⟩
  have hhas := fun u => has_any k u
  rw [← hp] at hhas
  have HHAS := Lib.hid hhas
  have inT := Lib.hid (in_lit p 84 84 rfl true (by rw [hp]; unfold hasB hasL; rw [hkk]; decide +kernel) (by rw [hp, has_size]; unfold hasL; rw [hkk]; decide))
  have inC := Lib.hid (in_lit p 67 67 rfl false (by rw [hp]; unfold hasB hasL; rw [hkk]; decide +kernel) (by rw [hp, has_size]; unfold hasL; rw [hkk]; decide))
  have inB := Lib.hid (in_lit p 66 66 rfl false (by rw [hp]; unfold hasB hasL; rw [hkk]; decide +kernel) (by rw [hp, has_size]; unfold hasL; rw [hkk]; decide))
  have pE : p.toList.isEmpty = false := by rw [hp]; unfold hasB hasL; rw [hkk]; decide +kernel
  have hrd : rdE k st = (⟨k, (rdT st).1, [], zid⟩, (rdT st).2) := by unfold rdE; rw [if_neg (by rw [hkk]; decide), if_neg (by rw [hkk]; decide), if_pos hkk]
  have HE : Hid (ofE l = ((rdE k st).1, 0)) := Lib.hid (by rw [HOF.out, if_neg (fun h => h h0), if_neg (by rw [hkk]; decide), if_neg (fun h => h h1), if_neg (fun h => h h2)])
  obtain ⟨e1, he1⟩ : ∃ x, x = (rdE k st).1 := ⟨_, rfl⟩
  obtain ⟨sE, hsE⟩ : ∃ x, x = (rdE k st).2 := ⟨_, rfl⟩
  rw [← hsE] at h1
  rw [← he1] at HE h2
  obtain ⟨en, hen⟩ : ∃ x, x = endE sE := ⟨_, rfl⟩
  rw [← hen] at h1
  subst h1
  have HEND := Lib.hid (fun (u : World) (hu : RdrS u (R + 1) sE) => opn.end_s (R + 1) sE u hu)
  rw [← hen] at HEND
  obtain ⟨ck, hck⟩ : ∃ x, x = checkE e1 := ⟨_, rfl⟩
  rw [← hck] at h2
  have HCK := Lib.hid (fun (u : World) => check_any e1 u (by rw [he1]; exact rdE_commit k st) (by rw [he1]; exact Nat.le_trans (rdE_topic k st) (by decide)) (by rw [he1]; exact Nat.le_trans (rdE_body k st) (by have := HSTL.out; omega)))
  rw [← hck] at HCK
  subst h2
  obtain ⟨y1, hy1⟩ : ∃ y, y = (rdT st).1 := ⟨_, rfl⟩
  obtain ⟨s1, hs1⟩ : ∃ y, y = (rdT st).2 := ⟨_, rfl⟩
  obtain ⟨n1, hn1⟩ : ∃ y, y = (rdN 1 st).1 := ⟨_, rfl⟩
  obtain ⟨s0, hs0⟩ : ∃ y, y = (rdN 1 st).2 := ⟨_, rfl⟩
  have hn10 : 0 ≤ n1 := by rw [hn1]; exact opn.rdN_nonneg 1 st
  have HT1 : Hid (rd n1.toNat s0 = (y1, s1)) := Lib.hid (by rw [hn1, hs0, hy1, hs1]; rfl)
  obtain ⟨t1, ht1⟩ : ∃ t, t = oct.tx y1 := ⟨_, rfl⟩
  have HTX1 := Lib.hid ht1
  have HN1 := Lib.hid hn1
  have HS0 := Lib.hid hs0
  have HSE : Hid (sE = s1) := Lib.hid (by rw [hsE, hrd, hs1])
  have HE1 : Hid (e1 = { (ken k) with topic := y1 }) := Lib.hid (by rw [he1, hrd, hy1]; rfl)
  have H0 := Lib.hid h0
  clear h0 hkk hp hhas hrd he1 hsE hen hy1 hs1 hn1 hs0 ht1 hck
  go_enter Tryd.func13, Tryd.ntmps13
  go_upto_region 2 with fail
  refine wp_at HW.out.symm ?_
  rw [← HR.out]
  clear HW
  go_wp2_with (first
    | (go_at_call 38; (with_reducible refine HRA.out.mono ?_); rintro x w5 ⟨rfl, hr5, ht5⟩; have HP5 := Lib.hid (HP4.out.read ht5 (fun b hb => .inl hb) hr5); have ct := (EnBlk.of HP5.out.op HP5.out.ref).topic; have ft := HP5.out.op.frozen 1; have hp6 := HP5.out.putt y1; rw [← HTX1.out] at hp6; have HP6 := Lib.hid hp6; clear ce; have ce := hp6.rdr.err; have HED := Lib.hid (HEND.out (w5.setCell ⟨w2.heap.size, 1, none⟩ (.string t1)) (HSE.out ▸ HP6.out.rdr)); have hld := run_load_en HP6.out.op HP6.out.ref; rw [← HE1.out] at hld; have HLD := Lib.hid hld; have HPF := HP6; have HCC := Lib.hid (HCK.out (w5.setCell ⟨w2.heap.size, 1, none⟩ (.string t1))); clear hld; clear hr5 ht5 hp6 HRA)
    | (go_at_call 37; (with_reducible refine HNA.out.mono ?_); rintro x w4 ⟨rfl, hr4, ht4⟩; have HP4 := Lib.hid (HP3.out.read ht4 (fun b hb => .inl hb) hr4); have hRA := opn.raw_s (R + 1) s0 n1 hn10 w4 HP4.out.rdr; rw [HT1.out, ← HTX1.out] at hRA; have HRA := Lib.hid hRA; clear hr4 ht4 hRA HNA)
    | (go_at_call 37; (with_reducible refine HNUM.out.mono ?_); rintro x w2 ⟨rfl, hr2, ht2⟩; obtain ⟨w3, hw3⟩ : ∃ u, u = (w2.alloc (.cells (enc zen).toArray 25)).setRow w2.heap.size (enc (ken k)).toArray := ⟨_, rfl⟩; have HST3 := Lib.hid (held_en w2 (ken k) (ken_commit k)); rw [← hw3] at HST3; have HP3 : Hid (OfP w R w2.heap.size (ken k) st w3) := Lib.hid (by have a1 := HR.out; have a2 := HSZ.out; have a3 := ht2.size; have a4 := hr2.lt; have hX2 := HX.out.turn ht2 (by omega); have hbb : Below w2.heap.size w2 w3 := (by rw [hw3]; exact below_row' ((Below.refl _ _).alloc (Nat.le_refl _) _) (Nat.le_refl _) _); exact ⟨by rw [hw3]; exact setRow_heap _ _ _ _ _ _ (Blk.new w2 _ _), hr2.turn (Turn.fresh (F := fun b => w2.heap.size ≤ b) hbb (fun b hb => hb)) (by have := hr2.lt; omega), hX2.below hbb hX2.lt, (HB.out.trans (ht2.below fun b hb => by omega)).trans (hbb.mono (by omega)), by omega, by omega, ken_commit k⟩); have ce := HP3.out.rdr.err; rw [H0.out] at ce; have c0 : w3.cell? ⟨w2.heap.size, 0, none⟩ = some (.int .i64 k) := (EnBlk.of HP3.out.op HP3.out.ref).k; have hN1 := opn.num1_s (R + 1) st w3 HP3.out.rdr; rw [← HN1.out, ← HS0.out] at hN1; have HNA := Lib.hid hN1; clear hN1; clear hr2 ht2 hw3)
    | ((with_reducible refine step_build (t := 25) (parts := #[(0, .tmp 12)]) (ps := ?bpu47) (v := ?bvu47) ?bgu47 ?bou47 ?bxu47 ?bru47 ?bhu47); (case bgu47 => rfl); (case bou47 => rfl); (case bxu47 => rfl); (case bru47 => exact run_build_k _ k))
    | ((with_reducible refine step_store_run (t := 25) (x := .tmp 5) (y := .tmp 13) (p := ?spu48) (v := ?svu48) (w' := ?swu48) ?sgu48 ?sou48 ?sxu48 ?syu48 ?sru48 ?shu48); (case sgu48 => rfl); (case sou48 => rfl); (case sxu48 => rfl); (case syu48 => rfl); (case sru48 => exact HST3.out))
    | (go_at_call 25; (with_reducible refine (HHAS.out _).mono ?_); rintro x w4 ⟨rfl, rfl⟩)
    | (go_at_call 26; (with_reducible refine (inT.out _).mono ?_); rintro x w4 ⟨rfl, rfl⟩)
    | (go_at_call 26; (with_reducible refine (inC.out _).mono ?_); rintro x w4 ⟨rfl, rfl⟩)
    | (go_at_call 26; (with_reducible refine (inB.out _).mono ?_); rintro x w4 ⟨rfl, rfl⟩)
    | (go_at_call 40; (with_reducible refine HED.out.mono ?_); rintro x w9 ⟨rfl, rfl⟩)
    | ((with_reducible refine step_load (t := 25) (x := .tmp 5) (p := ?lpu49) (v := ?lvu49) ?lgu49 ?lou49 ?lxu49 ?lru49 ?lhu49); (case lgu49 => rfl); (case lou49 => rfl); (case lxu49 => rfl); (case lru49 => exact HLD.out))
    | (go_at_call 11; (with_reducible refine HCC.out.mono ?_); rintro x w9 ⟨rfl, hb9⟩; have hl9 := run_load_en (HPF.out.op.below hb9 HPF.out.op.lt) HPF.out.ref; rw [← HE1.out] at hl9; have HL9 := Lib.hid hl9; have hl8 := HPF.out.last hb9; rw [← HE1.out] at hl8; have HRUN := Lib.hid hl8; have HB9 := Lib.hid hb9; clear hb9 hl9 hl8)
    | ((with_reducible refine step_load (t := 25) (x := .tmp 5) (p := ?lpu50) (v := ?lvu50) ?lgu50 ?lou50 ?lxu50 ?lru50 ?lhu50); (case lgu50 => rfl); (case lou50 => rfl); (case lxu50 => rfl); (case lru50 => exact HL9.out))
    | ((with_reducible refine step_store_run (t := 25) (x := .tmp 2) (y := .tmp 69) (p := ?spu51) (v := ?svu51) (w' := ?swu51) ?sgu51 ?sou51 ?sxu51 ?syu51 ?sru51 ?shu51); (case sgu51 => rfl); (case sou51 => rfl); (case sxu51 => rfl); (case syu51 => rfl); (case sru51 => exact HRUN.out)))
  have hrf : e1.commit.length = 32 := by rw [HE1.out]; exact HPF.out.ref
  refine bodyPost_ret (results_en rfl _ _ R _ e1 rfl (setRow_heap _ _ _ _ _ _ (HPF.out.res.below HB9.out HPF.out.res.lt)) hrf) rfl ⟨by rw [HE.out]; rfl, below_row' (HPF.out.below.trans (HB9.out.mono HPF.out.below.size)) (by rw [HR.out]; exact Nat.le_refl _) _⟩
end Go.Proofs.YtbhkegdohiekfaaDoor.ent
