/-
  petrelref14.Of: a topic and a body.
-/
import Derived.Test.YtbhkegdohiekfaaDoorEnof
namespace Go.Proofs.YtbhkegdohiekfaaDoor.ent
open Go.RowKit Go.Proofs.YtbhkegdohiekfaaDoor.mem Go.Proofs.YtbhkegdohiekfaaDoor.sha Go.Proofs.YtbhkegdohiekfaaDoor.ids
open Go.Proofs.YtbhkegdohiekfaaDoor.opn (b1 b2 b4 num txt idl byte rd rdN rdT rdI rdS rdL St Reads Stays endE zid mkId RdrS)
open Go.Proofs.YtbhkegdohiekfaaDoor.topic (kindOf)

set_option maxHeartbeats 8000000 in
set_option maxRecDepth 100000 in
theorem of_4torn (s : ByteArray) (w : World) (hs : s.size ≤ 1000000) (k : Int) (st : St) (hk : k = (rdN 1 (s.data.toList, 0)).1) (hst : st = (rdN 1 (s.data.toList, 0)).2) (h0 : st.2 = 0) (hkk : kindE k = 4) (hx : (rdT st).2.2 ≠ 0) :
    Calls Tryd.prog 13 #[.string s] w fun x w' => OfOut s.data.toList w x w' := by
  obtain ⟨R, hR⟩ : ∃ S, S = w.heap.size := ⟨_, rfl⟩
  obtain ⟨w1, hw1⟩ : ∃ u, u = (w.alloc (.cells (enc zen).toArray 25)).alloc (.cells #[.string s, .int .i64 0] 72) := ⟨_, rfl⟩
  have hX : Blk w1 R 25 (enc zen).toArray := by rw [hw1, hR]; exact (Blk.new w _ _).alloc _
  have hG : RdrS w1 (R + 1) (s.data.toList, 0) := ⟨s, 0, by rw [hw1, hR]; exact Blk.at_ (by simp) _ _, rfl, fun _ => (oct.tx_eta s).symm⟩
  have hB : Below w.heap.size w w1 := by rw [hw1]; exact ((Below.refl _ _).alloc (Nat.le_refl _) _).alloc (by simp) _
  have hsz : w1.heap.size = R + 2 := by rw [hw1, hR]; simp
  obtain ⟨l, hl⟩ : ∃ l, l = s.data.toList := ⟨_, rfl⟩
  have hll : l.length ≤ 1000000 := by rw [hl, Array.length_toList]; exact hs
  rw [← hl] at hG hk hst ⊢
  have HNUM := opn.num1_s (R + 1) (l, 0) w1 hG
  rw [← hst, ← hk] at HNUM
  have HOF := Lib.hid (ofE_eq l k st hk hst)
  have hstl : st.1.length ≤ 1000000 := by
    rw [hst]
    have : (rdN 1 (l, 0)).2.1.length ≤ l.length := rd_left 1 (l, 0)
    omega
  have HSTL := Lib.hid hstl
  have HX := Lib.hid hX
  have HB := Lib.hid hB
  have HW := Lib.hid hw1
  have HR := Lib.hid hR
  have HSZ := Lib.hid hsz
  have HNUM := Lib.hid HNUM
  clear hX hG hB hw1 hR hsz hl hst hk hs hll hstl
  obtain ⟨p, hp⟩ : ∃ p, p = hasB k := ⟨_, rfl⟩
  have hhas := fun u => has_any k u
  rw [← hp] at hhas
  have HHAS := Lib.hid hhas
  have inT := Lib.hid (in_lit p 84 84 rfl true (by rw [hp]; unfold hasB hasL; rw [hkk]; decide +kernel) (by rw [hp, has_size]; unfold hasL; rw [hkk]; decide))
  have inC := Lib.hid (in_lit p 67 67 rfl false (by rw [hp]; unfold hasB hasL; rw [hkk]; decide +kernel) (by rw [hp, has_size]; unfold hasL; rw [hkk]; decide))
  have inB := Lib.hid (in_lit p 66 66 rfl true (by rw [hp]; unfold hasB hasL; rw [hkk]; decide +kernel) (by rw [hp, has_size]; unfold hasL; rw [hkk]; decide))
  have pE : p.toList.isEmpty = false := by rw [hp]; unfold hasB hasL; rw [hkk]; decide +kernel
  have hrd : rdE k st = (⟨k, (rdT st).1, (rdB (rdT st).2).1, zid⟩, (rdB (rdT st).2).2) := by unfold rdE; rw [if_neg (by rw [hkk]; decide), if_neg (by rw [hkk]; decide), if_neg (by rw [hkk]; decide)]
  have h1 : endE (rdE k st).2 ≠ 0 := by
    rw [hrd]
    have hb : (rdB (rdT st).2).2 = ([], (rdT st).2.2) := by
      have := opn.rd_err (rdT st).2.1.length (rdT st).2.1 (rdT st).2.2 hx
      exact congrArg Prod.snd this
    show endE (rdB (rdT st).2).2 ≠ 0
    rw [hb]; unfold endE; rw [if_pos hx]; exact hx
  have HE : Hid (ofE l = (zen, endE (rdE k st).2)) := Lib.hid (by rw [HOF.out, if_neg (fun h => h h0), if_neg (by rw [hkk]; decide), if_pos h1])
  obtain ⟨sE, hsE⟩ : ∃ x, x = (rdT st).2 := ⟨_, rfl⟩
  have hEn : endE (rdE k st).2 = endE sE := by
    rw [hrd, hsE]
    have hb : (rdB (rdT st).2).2 = ([], (rdT st).2.2) := congrArg Prod.snd (opn.rd_err (rdT st).2.1.length (rdT st).2.1 (rdT st).2.2 hx)
    show endE (rdB (rdT st).2).2 = _
    rw [hb]; unfold endE; rw [if_pos hx, if_pos hx]
  rw [hEn] at HE h1
  obtain ⟨e1, he1⟩ : ∃ x, x = (rdE k st).1 := ⟨_, rfl⟩
  obtain ⟨en, hen⟩ : ∃ x, x = endE sE := ⟨_, rfl⟩
  rw [← hen] at h1
  rw [← hen] at HE
  have hne : (en != 0) = true := bne_iff_ne.2 h1
  have heq : (en == 0) = false := beq_eq_false_iff_ne.2 h1
  have HEND := Lib.hid (fun (u : World) (hu : RdrS u (R + 1) sE) => opn.end_s (R + 1) sE u hu)
  rw [← hen] at HEND
  obtain ⟨y1, hy1⟩ : ∃ y, y = (rdT st).1 := ⟨_, rfl⟩
  obtain ⟨s1, hs1⟩ : ∃ y, y = (rdT st).2 := ⟨_, rfl⟩
  obtain ⟨n1, hn1⟩ : ∃ y, y = (rdN 1 st).1 := ⟨_, rfl⟩
  obtain ⟨s0, hs0⟩ : ∃ y, y = (rdN 1 st).2 := ⟨_, rfl⟩
  have hn10 : 0 ≤ n1 := by rw [hn1]; exact opn.rdN_nonneg 1 st
  have HT1 : Hid (rd n1.toNat s0 = (y1, s1)) := Lib.hid (by rw [hn1, hs0, hy1, hs1]; rfl)
  obtain ⟨t1, ht1⟩ : ∃ t, t = oct.tx y1 := ⟨_, rfl⟩
  have HTX1 := Lib.hid ht1
  have HN1 := Lib.hid hn1
  have HS0 := Lib.hid hs0
  obtain ⟨ex, hex⟩ : ∃ x, x = s1.2 := ⟨_, rfl⟩
  have HX0 := Lib.hid hex.symm
  have hxe : (ex == 0) = false := beq_eq_false_iff_ne.2 (by rw [hex, hs1]; exact hx)
  have HSE : Hid (sE = s1) := Lib.hid (by rw [hsE, hs1])
  have H0 := Lib.hid h0
  clear h0 hkk hp hhas hrd he1 hsE hen hy1 hs1 hn1 hs0 ht1 hx hEn hex h1
  go_enter Tryd.func13, Tryd.ntmps13
  go_upto_region 2 with fail
  refine wp_at HW.out.symm ?_
  rw [← HR.out]
  clear HW
  go_wp2_with (first
    | (go_at_call 38; (with_reducible refine HRA.out.mono ?_); rintro x w5 ⟨rfl, hr5, ht5⟩; have HP5 := Lib.hid (HP4.out.read ht5 (fun b hb => .inl hb) hr5); have ct := (EnBlk.of HP5.out.op HP5.out.ref).topic; have ft := HP5.out.op.frozen 1; have hp6 := HP5.out.putt y1; rw [← HTX1.out] at hp6; have HP6 := Lib.hid hp6; clear ce; have ce := hp6.rdr.err; rw [HX0.out] at ce; have HED := Lib.hid (HEND.out (w5.setCell ⟨w2.heap.size, 1, none⟩ (.string t1)) (HSE.out ▸ HP6.out.rdr)); have HRUN := Lib.hid HP6.out.zero; have HPF := HP6; clear hr5 ht5 hp6 HRA)
    | (go_at_call 37; (with_reducible refine HNA.out.mono ?_); rintro x w4 ⟨rfl, hr4, ht4⟩; have HP4 := Lib.hid (HP3.out.read ht4 (fun b hb => .inl hb) hr4); have hRA := opn.raw_s (R + 1) s0 n1 hn10 w4 HP4.out.rdr; rw [HT1.out, ← HTX1.out] at hRA; have HRA := Lib.hid hRA; clear hr4 ht4 hRA HNA)
    | (go_at_call 37; (with_reducible refine HNUM.out.mono ?_); rintro x w2 ⟨rfl, hr2, ht2⟩; obtain ⟨w3, hw3⟩ : ∃ u, u = (w2.alloc (.cells (enc zen).toArray 25)).setRow w2.heap.size (enc (ken k)).toArray := ⟨_, rfl⟩; have HST3 := Lib.hid (held_en w2 (ken k) (ken_commit k)); rw [← hw3] at HST3; have HP3 : Hid (OfP w R w2.heap.size (ken k) st w3) := Lib.hid (by have a1 := HR.out; have a2 := HSZ.out; have a3 := ht2.size; have a4 := hr2.lt; have hX2 := HX.out.turn ht2 (by omega); have hbb : Below w2.heap.size w2 w3 := (by rw [hw3]; exact below_row' ((Below.refl _ _).alloc (Nat.le_refl _) _) (Nat.le_refl _) _); exact ⟨by rw [hw3]; exact setRow_heap _ _ _ _ _ _ (Blk.new w2 _ _), hr2.turn (Turn.fresh (F := fun b => w2.heap.size ≤ b) hbb (fun b hb => hb)) (by have := hr2.lt; omega), hX2.below hbb hX2.lt, (HB.out.trans (ht2.below fun b hb => by omega)).trans (hbb.mono (by omega)), by omega, by omega, ken_commit k⟩); have ce := HP3.out.rdr.err; rw [H0.out] at ce; have c0 : w3.cell? ⟨w2.heap.size, 0, none⟩ = some (.int .i64 k) := (EnBlk.of HP3.out.op HP3.out.ref).k; have hN1 := opn.num1_s (R + 1) st w3 HP3.out.rdr; rw [← HN1.out, ← HS0.out] at hN1; have HNA := Lib.hid hN1; clear hN1; clear hr2 ht2 hw3)
    | ((with_reducible refine step_build (t := 25) (parts := #[(0, .tmp 12)]) (ps := ?bpu52) (v := ?bvu52) ?bgu52 ?bou52 ?bxu52 ?bru52 ?bhu52); (case bgu52 => rfl); (case bou52 => rfl); (case bxu52 => rfl); (case bru52 => exact run_build_k _ k))
    | ((with_reducible refine step_store_run (t := 25) (x := .tmp 5) (y := .tmp 13) (p := ?spu53) (v := ?svu53) (w' := ?swu53) ?sgu53 ?sou53 ?sxu53 ?syu53 ?sru53 ?shu53); (case sgu53 => rfl); (case sou53 => rfl); (case sxu53 => rfl); (case syu53 => rfl); (case sru53 => exact HST3.out))
    | (go_at_call 25; (with_reducible refine (HHAS.out _).mono ?_); rintro x w4 ⟨rfl, rfl⟩)
    | (go_at_call 26; (with_reducible refine (inT.out _).mono ?_); rintro x w4 ⟨rfl, rfl⟩)
    | (go_at_call 26; (with_reducible refine (inC.out _).mono ?_); rintro x w4 ⟨rfl, rfl⟩)
    | (go_at_call 26; (with_reducible refine (inB.out _).mono ?_); rintro x w4 ⟨rfl, rfl⟩)
    | (go_at_call 40; (with_reducible refine HED.out.mono ?_); rintro x w9 ⟨rfl, rfl⟩)
    | ((with_reducible refine step_build (t := 25) (parts := #[]) (ps := #[]) (v := ?bvu54) ?bgu54 ?bou54 ?bxu54 ?bru54 ?bhu54); (case bgu54 => rfl); (case bou54 => rfl); (case bxu54 => simp); (case bru54 => exact run_build_z _))
    | ((with_reducible refine step_store_run (t := 25) (x := .tmp 2) (y := .tmp 67) (p := ?spu55) (v := ?svu55) (w' := ?swu55) ?sgu55 ?sou55 ?sxu55 ?syu55 ?sru55 ?shu55); (case sgu55 => rfl); (case sou55 => rfl); (case sxu55 => rfl); (case syu55 => rfl); (case sru55 => exact HRUN.out)))
  refine bodyPost_ret (results_en rfl _ _ R _ zen rfl (setRow_heap _ _ _ _ _ _ HPF.out.res) zlen) rfl ⟨by rw [HE.out]; rfl, below_row' HPF.out.below (by rw [HR.out]; exact Nat.le_refl _) _⟩

set_option maxHeartbeats 8000000 in
set_option maxRecDepth 100000 in
theorem of_4end (s : ByteArray) (w : World) (hs : s.size ≤ 1000000) (k : Int) (st : St) (hk : k = (rdN 1 (s.data.toList, 0)).1) (hst : st = (rdN 1 (s.data.toList, 0)).2) (h0 : st.2 = 0) (hkk : kindE k = 4) (hx : (rdT st).2.2 = 0) (h1 : endE (rdE k st).2 ≠ 0) :
    Calls Tryd.prog 13 #[.string s] w fun x w' => OfOut s.data.toList w x w' := by
  obtain ⟨R, hR⟩ : ∃ S, S = w.heap.size := ⟨_, rfl⟩
  obtain ⟨w1, hw1⟩ : ∃ u, u = (w.alloc (.cells (enc zen).toArray 25)).alloc (.cells #[.string s, .int .i64 0] 72) := ⟨_, rfl⟩
  have hX : Blk w1 R 25 (enc zen).toArray := by rw [hw1, hR]; exact (Blk.new w _ _).alloc _
  have hG : RdrS w1 (R + 1) (s.data.toList, 0) := ⟨s, 0, by rw [hw1, hR]; exact Blk.at_ (by simp) _ _, rfl, fun _ => (oct.tx_eta s).symm⟩
  have hB : Below w.heap.size w w1 := by rw [hw1]; exact ((Below.refl _ _).alloc (Nat.le_refl _) _).alloc (by simp) _
  have hsz : w1.heap.size = R + 2 := by rw [hw1, hR]; simp
  obtain ⟨l, hl⟩ : ∃ l, l = s.data.toList := ⟨_, rfl⟩
  have hll : l.length ≤ 1000000 := by rw [hl, Array.length_toList]; exact hs
  rw [← hl] at hG hk hst ⊢
  have HNUM := opn.num1_s (R + 1) (l, 0) w1 hG
  rw [← hst, ← hk] at HNUM
  have HOF := Lib.hid (ofE_eq l k st hk hst)
  have hstl : st.1.length ≤ 1000000 := by
    rw [hst]
    have : (rdN 1 (l, 0)).2.1.length ≤ l.length := rd_left 1 (l, 0)
    omega
  have HSTL := Lib.hid hstl
  have HX := Lib.hid hX
  have HB := Lib.hid hB
  have HW := Lib.hid hw1
  have HR := Lib.hid hR
  have HSZ := Lib.hid hsz
  have HNUM := Lib.hid HNUM
  clear hX hG hB hw1 hR hsz hl hst hk hs hll hstl
  obtain ⟨p, hp⟩ : ∃ p, p = hasB k := ⟨_, rfl⟩
  have hhas := fun u => has_any k u
  rw [← hp] at hhas
  have HHAS := Lib.hid hhas
  have inT := Lib.hid (in_lit p 84 84 rfl true (by rw [hp]; unfold hasB hasL; rw [hkk]; decide +kernel) (by rw [hp, has_size]; unfold hasL; rw [hkk]; decide))
  have inC := Lib.hid (in_lit p 67 67 rfl false (by rw [hp]; unfold hasB hasL; rw [hkk]; decide +kernel) (by rw [hp, has_size]; unfold hasL; rw [hkk]; decide))
  have inB := Lib.hid (in_lit p 66 66 rfl true (by rw [hp]; unfold hasB hasL; rw [hkk]; decide +kernel) (by rw [hp, has_size]; unfold hasL; rw [hkk]; decide))
  have pE : p.toList.isEmpty = false := by rw [hp]; unfold hasB hasL; rw [hkk]; decide +kernel
  have hrd : rdE k st = (⟨k, (rdT st).1, (rdB (rdT st).2).1, zid⟩, (rdB (rdT st).2).2) := by unfold rdE; rw [if_neg (by rw [hkk]; decide), if_neg (by rw [hkk]; decide), if_neg (by rw [hkk]; decide)]
  have HE : Hid (ofE l = (zen, endE (rdE k st).2)) := Lib.hid (by rw [HOF.out, if_neg (fun h => h h0), if_neg (by rw [hkk]; decide), if_pos h1])
  obtain ⟨e1, he1⟩ : ∃ x, x = (rdE k st).1 := ⟨_, rfl⟩
  obtain ⟨sE, hsE⟩ : ∃ x, x = (rdE k st).2 := ⟨_, rfl⟩
  rw [← hsE] at h1
  rw [← hsE] at HE
  obtain ⟨en, hen⟩ : ∃ x, x = endE sE := ⟨_, rfl⟩
  rw [← hen] at h1
  rw [← hen] at HE
  have hne : (en != 0) = true := bne_iff_ne.2 h1
  have heq : (en == 0) = false := beq_eq_false_iff_ne.2 h1
  have HEND := Lib.hid (fun (u : World) (hu : RdrS u (R + 1) sE) => opn.end_s (R + 1) sE u hu)
  rw [← hen] at HEND
  obtain ⟨y1, hy1⟩ : ∃ y, y = (rdT st).1 := ⟨_, rfl⟩
  obtain ⟨s1, hs1⟩ : ∃ y, y = (rdT st).2 := ⟨_, rfl⟩
  obtain ⟨n1, hn1⟩ : ∃ y, y = (rdN 1 st).1 := ⟨_, rfl⟩
  obtain ⟨s0, hs0⟩ : ∃ y, y = (rdN 1 st).2 := ⟨_, rfl⟩
  have hn10 : 0 ≤ n1 := by rw [hn1]; exact opn.rdN_nonneg 1 st
  have HT1 : Hid (rd n1.toNat s0 = (y1, s1)) := Lib.hid (by rw [hn1, hs0, hy1, hs1]; rfl)
  obtain ⟨t1, ht1⟩ : ∃ t, t = oct.tx y1 := ⟨_, rfl⟩
  have HTX1 := Lib.hid ht1
  have HN1 := Lib.hid hn1
  have HS0 := Lib.hid hs0
  obtain ⟨y2, hy2⟩ : ∃ y, y = (rdB s1).1 := ⟨_, rfl⟩
  obtain ⟨s2, hs2⟩ : ∃ y, y = (rdB s1).2 := ⟨_, rfl⟩
  obtain ⟨t2, ht2x⟩ : ∃ t, t = oct.tx y2 := ⟨_, rfl⟩
  have HT2 : Hid (rd s1.1.length s1 = (y2, s2)) := Lib.hid (by rw [hy2, hs2]; rfl)
  have HTX2 := Lib.hid ht2x
  obtain ⟨tr, htr⟩ : ∃ t, t = oct.tx s1.1 := ⟨_, rfl⟩
  have HTR := Lib.hid htr
  have HTRZ : Hid (tr.size = s1.1.length) := Lib.hid (by rw [htr, oct.tx_size])
  have HX0 : Hid (s1.2 = 0) := Lib.hid (by rw [hs1]; exact hx)
  have HSE : Hid (sE = s2) := Lib.hid (by rw [hsE, hrd, hs2, hs1])
  have HE1 : Hid (e1 = { { (ken k) with topic := y1 } with body := y2 }) := Lib.hid (by rw [he1, hrd, hy2, hs1, hy1]; rfl)
  have H0 := Lib.hid h0
  clear h0 hkk hp hhas hrd he1 hsE hen hy1 hs1 hn1 hs0 ht1 hy2 hs2 ht2x htr hx h1
  go_enter Tryd.func13, Tryd.ntmps13
  go_upto_region 2 with fail
  refine wp_at HW.out.symm ?_
  rw [← HR.out]
  clear HW
  go_wp2_with (first
    | (go_at_call 38; (with_reducible refine HRB.out.mono ?_); rintro x w7 ⟨rfl, hr7, ht7⟩; have HP7 := Lib.hid (HP6.out.read ht7 (fun b hb => .inl hb) hr7); have cb := (EnBlk.of HP7.out.op HP7.out.ref).body; have fb := HP7.out.op.frozen 2; have hp8 := HP7.out.putb y2; rw [← HTX2.out] at hp8; have HP8 := Lib.hid hp8; have HED := Lib.hid (HEND.out (w7.setCell ⟨w2.heap.size, 2, none⟩ (.string t2)) (HSE.out ▸ HP8.out.rdr)); have HRUN := Lib.hid HP8.out.zero; have HPF := HP8; clear hr7 ht7 hp8 HRB)
    | (go_at_call 38; (with_reducible refine HRA.out.mono ?_); rintro x w5 ⟨rfl, hr5, ht5⟩; have HP5 := Lib.hid (HP4.out.read ht5 (fun b hb => .inl hb) hr5); have ct := (EnBlk.of HP5.out.op HP5.out.ref).topic; have ft := HP5.out.op.frozen 1; have hp6 := HP5.out.putt y1; rw [← HTX1.out] at hp6; have HP6 := Lib.hid hp6; clear ce; have ce := hp6.rdr.err; rw [HX0.out] at ce; have crd := HP6.out.text HX0.out; rw [← HTR.out] at crd; have hRB := opn.raw_s (R + 1) s1 (s1.1.length : Int) (Int.natCast_nonneg _) (w5.setCell ⟨w2.heap.size, 1, none⟩ (.string t1)) HP6.out.rdr; rw [Int.toNat_natCast, HT2.out, ← HTX2.out, ← HTRZ.out] at hRB; have HRB := Lib.hid hRB; clear hRB; clear hr5 ht5 hp6 HRA)
    | (go_at_call 37; (with_reducible refine HNA.out.mono ?_); rintro x w4 ⟨rfl, hr4, ht4⟩; have HP4 := Lib.hid (HP3.out.read ht4 (fun b hb => .inl hb) hr4); have hRA := opn.raw_s (R + 1) s0 n1 hn10 w4 HP4.out.rdr; rw [HT1.out, ← HTX1.out] at hRA; have HRA := Lib.hid hRA; clear hr4 ht4 hRA HNA)
    | (go_at_call 37; (with_reducible refine HNUM.out.mono ?_); rintro x w2 ⟨rfl, hr2, ht2⟩; obtain ⟨w3, hw3⟩ : ∃ u, u = (w2.alloc (.cells (enc zen).toArray 25)).setRow w2.heap.size (enc (ken k)).toArray := ⟨_, rfl⟩; have HST3 := Lib.hid (held_en w2 (ken k) (ken_commit k)); rw [← hw3] at HST3; have HP3 : Hid (OfP w R w2.heap.size (ken k) st w3) := Lib.hid (by have a1 := HR.out; have a2 := HSZ.out; have a3 := ht2.size; have a4 := hr2.lt; have hX2 := HX.out.turn ht2 (by omega); have hbb : Below w2.heap.size w2 w3 := (by rw [hw3]; exact below_row' ((Below.refl _ _).alloc (Nat.le_refl _) _) (Nat.le_refl _) _); exact ⟨by rw [hw3]; exact setRow_heap _ _ _ _ _ _ (Blk.new w2 _ _), hr2.turn (Turn.fresh (F := fun b => w2.heap.size ≤ b) hbb (fun b hb => hb)) (by have := hr2.lt; omega), hX2.below hbb hX2.lt, (HB.out.trans (ht2.below fun b hb => by omega)).trans (hbb.mono (by omega)), by omega, by omega, ken_commit k⟩); have ce := HP3.out.rdr.err; rw [H0.out] at ce; have c0 : w3.cell? ⟨w2.heap.size, 0, none⟩ = some (.int .i64 k) := (EnBlk.of HP3.out.op HP3.out.ref).k; have hN1 := opn.num1_s (R + 1) st w3 HP3.out.rdr; rw [← HN1.out, ← HS0.out] at hN1; have HNA := Lib.hid hN1; clear hN1; clear hr2 ht2 hw3)
    | ((with_reducible refine step_build (t := 25) (parts := #[(0, .tmp 12)]) (ps := ?bpu56) (v := ?bvu56) ?bgu56 ?bou56 ?bxu56 ?bru56 ?bhu56); (case bgu56 => rfl); (case bou56 => rfl); (case bxu56 => rfl); (case bru56 => exact run_build_k _ k))
    | ((with_reducible refine step_store_run (t := 25) (x := .tmp 5) (y := .tmp 13) (p := ?spu57) (v := ?svu57) (w' := ?swu57) ?sgu57 ?sou57 ?sxu57 ?syu57 ?sru57 ?shu57); (case sgu57 => rfl); (case sou57 => rfl); (case sxu57 => rfl); (case syu57 => rfl); (case sru57 => exact HST3.out))
    | (go_at_call 25; (with_reducible refine (HHAS.out _).mono ?_); rintro x w4 ⟨rfl, rfl⟩)
    | (go_at_call 26; (with_reducible refine (inT.out _).mono ?_); rintro x w4 ⟨rfl, rfl⟩)
    | (go_at_call 26; (with_reducible refine (inC.out _).mono ?_); rintro x w4 ⟨rfl, rfl⟩)
    | (go_at_call 26; (with_reducible refine (inB.out _).mono ?_); rintro x w4 ⟨rfl, rfl⟩)
    | (go_at_call 40; (with_reducible refine HED.out.mono ?_); rintro x w9 ⟨rfl, rfl⟩)
    | ((with_reducible refine step_build (t := 25) (parts := #[]) (ps := #[]) (v := ?bvu58) ?bgu58 ?bou58 ?bxu58 ?bru58 ?bhu58); (case bgu58 => rfl); (case bou58 => rfl); (case bxu58 => simp); (case bru58 => exact run_build_z _))
    | ((with_reducible refine step_store_run (t := 25) (x := .tmp 2) (y := .tmp 67) (p := ?spu59) (v := ?svu59) (w' := ?swu59) ?sgu59 ?sou59 ?sxu59 ?syu59 ?sru59 ?shu59); (case sgu59 => rfl); (case sou59 => rfl); (case sxu59 => rfl); (case syu59 => rfl); (case sru59 => exact HRUN.out)))
  refine bodyPost_ret (results_en rfl _ _ R _ zen rfl (setRow_heap _ _ _ _ _ _ HPF.out.res) zlen) rfl ⟨by rw [HE.out]; rfl, below_row' HPF.out.below (by rw [HR.out]; exact Nat.le_refl _) _⟩

set_option maxHeartbeats 8000000 in
set_option maxRecDepth 100000 in
theorem of_4check (s : ByteArray) (w : World) (hs : s.size ≤ 1000000) (k : Int) (st : St) (hk : k = (rdN 1 (s.data.toList, 0)).1) (hst : st = (rdN 1 (s.data.toList, 0)).2) (h0 : st.2 = 0) (hkk : kindE k = 4) (hx : (rdT st).2.2 = 0) (h1 : endE (rdE k st).2 = 0) (h2 : checkE (rdE k st).1 ≠ 0) :
    Calls Tryd.prog 13 #[.string s] w fun x w' => OfOut s.data.toList w x w' := by
  obtain ⟨R, hR⟩ : ∃ S, S = w.heap.size := ⟨_, rfl⟩
  obtain ⟨w1, hw1⟩ : ∃ u, u = (w.alloc (.cells (enc zen).toArray 25)).alloc (.cells #[.string s, .int .i64 0] 72) := ⟨_, rfl⟩
  have hX : Blk w1 R 25 (enc zen).toArray := by rw [hw1, hR]; exact (Blk.new w _ _).alloc _
  have hG : RdrS w1 (R + 1) (s.data.toList, 0) := ⟨s, 0, by rw [hw1, hR]; exact Blk.at_ (by simp) _ _, rfl, fun _ => (oct.tx_eta s).symm⟩
  have hB : Below w.heap.size w w1 := by rw [hw1]; exact ((Below.refl _ _).alloc (Nat.le_refl _) _).alloc (by simp) _
  have hsz : w1.heap.size = R + 2 := by rw [hw1, hR]; simp
  obtain ⟨l, hl⟩ : ∃ l, l = s.data.toList := ⟨_, rfl⟩
  have hll : l.length ≤ 1000000 := by rw [hl, Array.length_toList]; exact hs
  rw [← hl] at hG hk hst ⊢
  have HNUM := opn.num1_s (R + 1) (l, 0) w1 hG
  rw [← hst, ← hk] at HNUM
  have HOF := Lib.hid (ofE_eq l k st hk hst)
  have hstl : st.1.length ≤ 1000000 := by
    rw [hst]
    have : (rdN 1 (l, 0)).2.1.length ≤ l.length := rd_left 1 (l, 0)
    omega
  have HSTL := Lib.hid hstl
  have HX := Lib.hid hX
  have HB := Lib.hid hB
  have HW := Lib.hid hw1
  have HR := Lib.hid hR
  have HSZ := Lib.hid hsz
  have HNUM := Lib.hid HNUM
  clear hX hG hB hw1 hR hsz hl hst hk hs hll hstl
  obtain ⟨p, hp⟩ : ∃ p, p = hasB k := ⟨_, rfl⟩
  have hhas := fun u => has_any k u
  rw [← hp] at hhas
  have HHAS := Lib.hid hhas
  have inT := Lib.hid (in_lit p 84 84 rfl true (by rw [hp]; unfold hasB hasL; rw [hkk]; decide +kernel) (by rw [hp, has_size]; unfold hasL; rw [hkk]; decide))
  have inC := Lib.hid (in_lit p 67 67 rfl false (by rw [hp]; unfold hasB hasL; rw [hkk]; decide +kernel) (by rw [hp, has_size]; unfold hasL; rw [hkk]; decide))
  have inB := Lib.hid (in_lit p 66 66 rfl true (by rw [hp]; unfold hasB hasL; rw [hkk]; decide +kernel) (by rw [hp, has_size]; unfold hasL; rw [hkk]; decide))
  have pE : p.toList.isEmpty = false := by rw [hp]; unfold hasB hasL; rw [hkk]; decide +kernel
  have hrd : rdE k st = (⟨k, (rdT st).1, (rdB (rdT st).2).1, zid⟩, (rdB (rdT st).2).2) := by unfold rdE; rw [if_neg (by rw [hkk]; decide), if_neg (by rw [hkk]; decide), if_neg (by rw [hkk]; decide)]
  have HE : Hid (ofE l = (zen, checkE (rdE k st).1)) := Lib.hid (by rw [HOF.out, if_neg (fun h => h h0), if_neg (by rw [hkk]; decide), if_neg (fun h => h h1), if_pos h2])
  obtain ⟨e1, he1⟩ : ∃ x, x = (rdE k st).1 := ⟨_, rfl⟩
  obtain ⟨sE, hsE⟩ : ∃ x, x = (rdE k st).2 := ⟨_, rfl⟩
  rw [← hsE] at h1
  rw [← he1] at HE h2
  obtain ⟨en, hen⟩ : ∃ x, x = endE sE := ⟨_, rfl⟩
  rw [← hen] at h1
  subst h1
  have HEND := Lib.hid (fun (u : World) (hu : RdrS u (R + 1) sE) => opn.end_s (R + 1) sE u hu)
  rw [← hen] at HEND
  obtain ⟨ck, hck⟩ : ∃ x, x = checkE e1 := ⟨_, rfl⟩
  rw [← hck] at h2
  rw [← hck] at HE
  have hnc : (ck != 0) = true := bne_iff_ne.2 h2
  have HCK := Lib.hid (fun (u : World) => check_any e1 u (by rw [he1]; exact rdE_commit k st) (by rw [he1]; exact Nat.le_trans (rdE_topic k st) (by decide)) (by rw [he1]; exact Nat.le_trans (rdE_body k st) (by have := HSTL.out; omega)))
  rw [← hck] at HCK
  obtain ⟨y1, hy1⟩ : ∃ y, y = (rdT st).1 := ⟨_, rfl⟩
  obtain ⟨s1, hs1⟩ : ∃ y, y = (rdT st).2 := ⟨_, rfl⟩
  obtain ⟨n1, hn1⟩ : ∃ y, y = (rdN 1 st).1 := ⟨_, rfl⟩
  obtain ⟨s0, hs0⟩ : ∃ y, y = (rdN 1 st).2 := ⟨_, rfl⟩
  have hn10 : 0 ≤ n1 := by rw [hn1]; exact opn.rdN_nonneg 1 st
  have HT1 : Hid (rd n1.toNat s0 = (y1, s1)) := Lib.hid (by rw [hn1, hs0, hy1, hs1]; rfl)
  obtain ⟨t1, ht1⟩ : ∃ t, t = oct.tx y1 := ⟨_, rfl⟩
  have HTX1 := Lib.hid ht1
  have HN1 := Lib.hid hn1
  have HS0 := Lib.hid hs0
  obtain ⟨y2, hy2⟩ : ∃ y, y = (rdB s1).1 := ⟨_, rfl⟩
  obtain ⟨s2, hs2⟩ : ∃ y, y = (rdB s1).2 := ⟨_, rfl⟩
  obtain ⟨t2, ht2x⟩ : ∃ t, t = oct.tx y2 := ⟨_, rfl⟩
  have HT2 : Hid (rd s1.1.length s1 = (y2, s2)) := Lib.hid (by rw [hy2, hs2]; rfl)
  have HTX2 := Lib.hid ht2x
  obtain ⟨tr, htr⟩ : ∃ t, t = oct.tx s1.1 := ⟨_, rfl⟩
  have HTR := Lib.hid htr
  have HTRZ : Hid (tr.size = s1.1.length) := Lib.hid (by rw [htr, oct.tx_size])
  have HX0 : Hid (s1.2 = 0) := Lib.hid (by rw [hs1]; exact hx)
  have HSE : Hid (sE = s2) := Lib.hid (by rw [hsE, hrd, hs2, hs1])
  have HE1 : Hid (e1 = { { (ken k) with topic := y1 } with body := y2 }) := Lib.hid (by rw [he1, hrd, hy2, hs1, hy1]; rfl)
  have H0 := Lib.hid h0
  clear h0 hkk hp hhas hrd he1 hsE hen hy1 hs1 hn1 hs0 ht1 hy2 hs2 ht2x htr hx h2 hck
  go_enter Tryd.func13, Tryd.ntmps13
  go_upto_region 2 with fail
  refine wp_at HW.out.symm ?_
  rw [← HR.out]
  clear HW
  go_wp2_with (first
    | (go_at_call 38; (with_reducible refine HRB.out.mono ?_); rintro x w7 ⟨rfl, hr7, ht7⟩; have HP7 := Lib.hid (HP6.out.read ht7 (fun b hb => .inl hb) hr7); have cb := (EnBlk.of HP7.out.op HP7.out.ref).body; have fb := HP7.out.op.frozen 2; have hp8 := HP7.out.putb y2; rw [← HTX2.out] at hp8; have HP8 := Lib.hid hp8; have HED := Lib.hid (HEND.out (w7.setCell ⟨w2.heap.size, 2, none⟩ (.string t2)) (HSE.out ▸ HP8.out.rdr)); have hld := run_load_en HP8.out.op HP8.out.ref; rw [← HE1.out] at hld; have HLD := Lib.hid hld; have HPF := HP8; have HCC := Lib.hid (HCK.out (w7.setCell ⟨w2.heap.size, 2, none⟩ (.string t2))); clear hld; clear hr7 ht7 hp8 HRB)
    | (go_at_call 38; (with_reducible refine HRA.out.mono ?_); rintro x w5 ⟨rfl, hr5, ht5⟩; have HP5 := Lib.hid (HP4.out.read ht5 (fun b hb => .inl hb) hr5); have ct := (EnBlk.of HP5.out.op HP5.out.ref).topic; have ft := HP5.out.op.frozen 1; have hp6 := HP5.out.putt y1; rw [← HTX1.out] at hp6; have HP6 := Lib.hid hp6; clear ce; have ce := hp6.rdr.err; rw [HX0.out] at ce; have crd := HP6.out.text HX0.out; rw [← HTR.out] at crd; have hRB := opn.raw_s (R + 1) s1 (s1.1.length : Int) (Int.natCast_nonneg _) (w5.setCell ⟨w2.heap.size, 1, none⟩ (.string t1)) HP6.out.rdr; rw [Int.toNat_natCast, HT2.out, ← HTX2.out, ← HTRZ.out] at hRB; have HRB := Lib.hid hRB; clear hRB; clear hr5 ht5 hp6 HRA)
    | (go_at_call 37; (with_reducible refine HNA.out.mono ?_); rintro x w4 ⟨rfl, hr4, ht4⟩; have HP4 := Lib.hid (HP3.out.read ht4 (fun b hb => .inl hb) hr4); have hRA := opn.raw_s (R + 1) s0 n1 hn10 w4 HP4.out.rdr; rw [HT1.out, ← HTX1.out] at hRA; have HRA := Lib.hid hRA; clear hr4 ht4 hRA HNA)
    | (go_at_call 37; (with_reducible refine HNUM.out.mono ?_); rintro x w2 ⟨rfl, hr2, ht2⟩; obtain ⟨w3, hw3⟩ : ∃ u, u = (w2.alloc (.cells (enc zen).toArray 25)).setRow w2.heap.size (enc (ken k)).toArray := ⟨_, rfl⟩; have HST3 := Lib.hid (held_en w2 (ken k) (ken_commit k)); rw [← hw3] at HST3; have HP3 : Hid (OfP w R w2.heap.size (ken k) st w3) := Lib.hid (by have a1 := HR.out; have a2 := HSZ.out; have a3 := ht2.size; have a4 := hr2.lt; have hX2 := HX.out.turn ht2 (by omega); have hbb : Below w2.heap.size w2 w3 := (by rw [hw3]; exact below_row' ((Below.refl _ _).alloc (Nat.le_refl _) _) (Nat.le_refl _) _); exact ⟨by rw [hw3]; exact setRow_heap _ _ _ _ _ _ (Blk.new w2 _ _), hr2.turn (Turn.fresh (F := fun b => w2.heap.size ≤ b) hbb (fun b hb => hb)) (by have := hr2.lt; omega), hX2.below hbb hX2.lt, (HB.out.trans (ht2.below fun b hb => by omega)).trans (hbb.mono (by omega)), by omega, by omega, ken_commit k⟩); have ce := HP3.out.rdr.err; rw [H0.out] at ce; have c0 : w3.cell? ⟨w2.heap.size, 0, none⟩ = some (.int .i64 k) := (EnBlk.of HP3.out.op HP3.out.ref).k; have hN1 := opn.num1_s (R + 1) st w3 HP3.out.rdr; rw [← HN1.out, ← HS0.out] at hN1; have HNA := Lib.hid hN1; clear hN1; clear hr2 ht2 hw3)
    | ((with_reducible refine step_build (t := 25) (parts := #[(0, .tmp 12)]) (ps := ?bpu60) (v := ?bvu60) ?bgu60 ?bou60 ?bxu60 ?bru60 ?bhu60); (case bgu60 => rfl); (case bou60 => rfl); (case bxu60 => rfl); (case bru60 => exact run_build_k _ k))
    | ((with_reducible refine step_store_run (t := 25) (x := .tmp 5) (y := .tmp 13) (p := ?spu61) (v := ?svu61) (w' := ?swu61) ?sgu61 ?sou61 ?sxu61 ?syu61 ?sru61 ?shu61); (case sgu61 => rfl); (case sou61 => rfl); (case sxu61 => rfl); (case syu61 => rfl); (case sru61 => exact HST3.out))
    | (go_at_call 25; (with_reducible refine (HHAS.out _).mono ?_); rintro x w4 ⟨rfl, rfl⟩)
    | (go_at_call 26; (with_reducible refine (inT.out _).mono ?_); rintro x w4 ⟨rfl, rfl⟩)
    | (go_at_call 26; (with_reducible refine (inC.out _).mono ?_); rintro x w4 ⟨rfl, rfl⟩)
    | (go_at_call 26; (with_reducible refine (inB.out _).mono ?_); rintro x w4 ⟨rfl, rfl⟩)
    | (go_at_call 40; (with_reducible refine HED.out.mono ?_); rintro x w9 ⟨rfl, rfl⟩)
    | ((with_reducible refine step_load (t := 25) (x := .tmp 5) (p := ?lpu62) (v := ?lvu62) ?lgu62 ?lou62 ?lxu62 ?lru62 ?lhu62); (case lgu62 => rfl); (case lou62 => rfl); (case lxu62 => rfl); (case lru62 => exact HLD.out))
    | (go_at_call 11; (with_reducible refine HCC.out.mono ?_); rintro x w9 ⟨rfl, hb9⟩; have HRUN := Lib.hid (run_store_en (HPF.out.res.below hb9 HPF.out.res.lt) (enc_size _ zlen) zen zlen); have HB9 := Lib.hid hb9; clear hb9)
    | ((with_reducible refine step_build (t := 25) (parts := #[]) (ps := #[]) (v := ?bvu63) ?bgu63 ?bou63 ?bxu63 ?bru63 ?bhu63); (case bgu63 => rfl); (case bou63 => rfl); (case bxu63 => simp); (case bru63 => exact run_build_z _))
    | ((with_reducible refine step_store_run (t := 25) (x := .tmp 2) (y := .tmp 67) (p := ?spu64) (v := ?svu64) (w' := ?swu64) ?sgu64 ?sou64 ?sxu64 ?syu64 ?sru64 ?shu64); (case sgu64 => rfl); (case sou64 => rfl); (case sxu64 => rfl); (case syu64 => rfl); (case sru64 => exact HRUN.out)))
  refine bodyPost_ret (results_en rfl _ _ R _ zen rfl (setRow_heap _ _ _ _ _ _ (HPF.out.res.below HB9.out HPF.out.res.lt)) zlen) rfl ⟨by rw [HE.out]; rfl, below_row' (HPF.out.below.trans (HB9.out.mono HPF.out.below.size)) (by rw [HR.out]; exact Nat.le_refl _) _⟩

set_option maxHeartbeats 8000000 in
set_option maxRecDepth 100000 in
theorem of_4ok (s : ByteArray) (w : World) (hs : s.size ≤ 1000000) (k : Int) (st : St) (hk : k = (rdN 1 (s.data.toList, 0)).1) (hst : st = (rdN 1 (s.data.toList, 0)).2) (h0 : st.2 = 0) (hkk : kindE k = 4) (hx : (rdT st).2.2 = 0) (h1 : endE (rdE k st).2 = 0) (h2 : checkE (rdE k st).1 = 0) :
    Calls Tryd.prog 13 #[.string s] w fun x w' => OfOut s.data.toList w x w' := by
  obtain ⟨R, hR⟩ : ∃ S, S = w.heap.size := ⟨_, rfl⟩
  obtain ⟨w1, hw1⟩ : ∃ u, u = (w.alloc (.cells (enc zen).toArray 25)).alloc (.cells #[.string s, .int .i64 0] 72) := ⟨_, rfl⟩
  have hX : Blk w1 R 25 (enc zen).toArray := by rw [hw1, hR]; exact (Blk.new w _ _).alloc _
  have hG : RdrS w1 (R + 1) (s.data.toList, 0) := ⟨s, 0, by rw [hw1, hR]; exact Blk.at_ (by simp) _ _, rfl, fun _ => (oct.tx_eta s).symm⟩
  have hB : Below w.heap.size w w1 := by rw [hw1]; exact ((Below.refl _ _).alloc (Nat.le_refl _) _).alloc (by simp) _
  have hsz : w1.heap.size = R + 2 := by rw [hw1, hR]; simp
  obtain ⟨l, hl⟩ : ∃ l, l = s.data.toList := ⟨_, rfl⟩
  have hll : l.length ≤ 1000000 := by rw [hl, Array.length_toList]; exact hs
  rw [← hl] at hG hk hst ⊢
  have HNUM := opn.num1_s (R + 1) (l, 0) w1 hG
  rw [← hst, ← hk] at HNUM
  have HOF := Lib.hid (ofE_eq l k st hk hst)
  have hstl : st.1.length ≤ 1000000 := by
    rw [hst]
    have : (rdN 1 (l, 0)).2.1.length ≤ l.length := rd_left 1 (l, 0)
    omega
  have HSTL := Lib.hid hstl
  have HX := Lib.hid hX
  have HB := Lib.hid hB
  have HW := Lib.hid hw1
  have HR := Lib.hid hR
  have HSZ := Lib.hid hsz
  have HNUM := Lib.hid HNUM
  clear hX hG hB hw1 hR hsz hl hst hk hs hll hstl
  obtain ⟨p, hp⟩ : ∃ p, p = hasB k := ⟨_, rfl⟩
  have hhas := fun u => has_any k u
  rw [← hp] at hhas
  have HHAS := Lib.hid hhas
  have inT := Lib.hid (in_lit p 84 84 rfl true (by rw [hp]; unfold hasB hasL; rw [hkk]; decide +kernel) (by rw [hp, has_size]; unfold hasL; rw [hkk]; decide))
  have inC := Lib.hid (in_lit p 67 67 rfl false (by rw [hp]; unfold hasB hasL; rw [hkk]; decide +kernel) (by rw [hp, has_size]; unfold hasL; rw [hkk]; decide))
  have inB := Lib.hid (in_lit p 66 66 rfl true (by rw [hp]; unfold hasB hasL; rw [hkk]; decide +kernel) (by rw [hp, has_size]; unfold hasL; rw [hkk]; decide))
  have pE : p.toList.isEmpty = false := by rw [hp]; unfold hasB hasL; rw [hkk]; decide +kernel
  have hrd : rdE k st = (⟨k, (rdT st).1, (rdB (rdT st).2).1, zid⟩, (rdB (rdT st).2).2) := by unfold rdE; rw [if_neg (by rw [hkk]; decide), if_neg (by rw [hkk]; decide), if_neg (by rw [hkk]; decide)]
  have HE : Hid (ofE l = ((rdE k st).1, 0)) := Lib.hid (by rw [HOF.out, if_neg (fun h => h h0), if_neg (by rw [hkk]; decide), if_neg (fun h => h h1), if_neg (fun h => h h2)])
  obtain ⟨e1, he1⟩ : ∃ x, x = (rdE k st).1 := ⟨_, rfl⟩
  obtain ⟨sE, hsE⟩ : ∃ x, x = (rdE k st).2 := ⟨_, rfl⟩
  rw [← hsE] at h1
  rw [← he1] at HE h2
  obtain ⟨en, hen⟩ : ∃ x, x = endE sE := ⟨_, rfl⟩
  rw [← hen] at h1
  subst h1
  have HEND := Lib.hid (fun (u : World) (hu : RdrS u (R + 1) sE) => opn.end_s (R + 1) sE u hu)
  rw [← hen] at HEND
  obtain ⟨ck, hck⟩ : ∃ x, x = checkE e1 := ⟨_, rfl⟩
  rw [← hck] at h2
  have HCK := Lib.hid (fun (u : World) => check_any e1 u (by rw [he1]; exact rdE_commit k st) (by rw [he1]; exact Nat.le_trans (rdE_topic k st) (by decide)) (by rw [he1]; exact Nat.le_trans (rdE_body k st) (by have := HSTL.out; omega)))
  rw [← hck] at HCK
  subst h2
  obtain ⟨y1, hy1⟩ : ∃ y, y = (rdT st).1 := ⟨_, rfl⟩
  obtain ⟨s1, hs1⟩ : ∃ y, y = (rdT st).2 := ⟨_, rfl⟩
  obtain ⟨n1, hn1⟩ : ∃ y, y = (rdN 1 st).1 := ⟨_, rfl⟩
  obtain ⟨s0, hs0⟩ : ∃ y, y = (rdN 1 st).2 := ⟨_, rfl⟩
  have hn10 : 0 ≤ n1 := by rw [hn1]; exact opn.rdN_nonneg 1 st
  have HT1 : Hid (rd n1.toNat s0 = (y1, s1)) := Lib.hid (by rw [hn1, hs0, hy1, hs1]; rfl)
  obtain ⟨t1, ht1⟩ : ∃ t, t = oct.tx y1 := ⟨_, rfl⟩
  have HTX1 := Lib.hid ht1
  have HN1 := Lib.hid hn1
  have HS0 := Lib.hid hs0
  obtain ⟨y2, hy2⟩ : ∃ y, y = (rdB s1).1 := ⟨_, rfl⟩
  obtain ⟨s2, hs2⟩ : ∃ y, y = (rdB s1).2 := ⟨_, rfl⟩
  obtain ⟨t2, ht2x⟩ : ∃ t, t = oct.tx y2 := ⟨_, rfl⟩
  have HT2 : Hid (rd s1.1.length s1 = (y2, s2)) := Lib.hid (by rw [hy2, hs2]; rfl)
  have HTX2 := Lib.hid ht2x
  obtain ⟨tr, htr⟩ : ∃ t, t = oct.tx s1.1 := ⟨_, rfl⟩
  have HTR := Lib.hid htr
  have HTRZ : Hid (tr.size = s1.1.length) := Lib.hid (by rw [htr, oct.tx_size])
  have HX0 : Hid (s1.2 = 0) := Lib.hid (by rw [hs1]; exact hx)
  have HSE : Hid (sE = s2) := Lib.hid (by rw [hsE, hrd, hs2, hs1])
  have HE1 : Hid (e1 = { { (ken k) with topic := y1 } with body := y2 }) := Lib.hid (by rw [he1, hrd, hy2, hs1, hy1]; rfl)
  have H0 := Lib.hid h0
  clear h0 hkk hp hhas hrd he1 hsE hen hy1 hs1 hn1 hs0 ht1 hy2 hs2 ht2x htr hx hck
  go_enter Tryd.func13, Tryd.ntmps13
  go_upto_region 2 with fail
  refine wp_at HW.out.symm ?_
  rw [← HR.out]
  clear HW
  go_wp2_with (first
    | (go_at_call 38; (with_reducible refine HRB.out.mono ?_); rintro x w7 ⟨rfl, hr7, ht7⟩; have HP7 := Lib.hid (HP6.out.read ht7 (fun b hb => .inl hb) hr7); have cb := (EnBlk.of HP7.out.op HP7.out.ref).body; have fb := HP7.out.op.frozen 2; have hp8 := HP7.out.putb y2; rw [← HTX2.out] at hp8; have HP8 := Lib.hid hp8; have HED := Lib.hid (HEND.out (w7.setCell ⟨w2.heap.size, 2, none⟩ (.string t2)) (HSE.out ▸ HP8.out.rdr)); have hld := run_load_en HP8.out.op HP8.out.ref; rw [← HE1.out] at hld; have HLD := Lib.hid hld; have HPF := HP8; have HCC := Lib.hid (HCK.out (w7.setCell ⟨w2.heap.size, 2, none⟩ (.string t2))); clear hld; clear hr7 ht7 hp8 HRB)
    | (go_at_call 38; (with_reducible refine HRA.out.mono ?_); rintro x w5 ⟨rfl, hr5, ht5⟩; have HP5 := Lib.hid (HP4.out.read ht5 (fun b hb => .inl hb) hr5); have ct := (EnBlk.of HP5.out.op HP5.out.ref).topic; have ft := HP5.out.op.frozen 1; have hp6 := HP5.out.putt y1; rw [← HTX1.out] at hp6; have HP6 := Lib.hid hp6; clear ce; have ce := hp6.rdr.err; rw [HX0.out] at ce; have crd := HP6.out.text HX0.out; rw [← HTR.out] at crd; have hRB := opn.raw_s (R + 1) s1 (s1.1.length : Int) (Int.natCast_nonneg _) (w5.setCell ⟨w2.heap.size, 1, none⟩ (.string t1)) HP6.out.rdr; rw [Int.toNat_natCast, HT2.out, ← HTX2.out, ← HTRZ.out] at hRB; have HRB := Lib.hid hRB; clear hRB; clear hr5 ht5 hp6 HRA)
    | (go_at_call 37; (with_reducible refine HNA.out.mono ?_); rintro x w4 ⟨rfl, hr4, ht4⟩; have HP4 := Lib.hid (HP3.out.read ht4 (fun b hb => .inl hb) hr4); have hRA := opn.raw_s (R + 1) s0 n1 hn10 w4 HP4.out.rdr; rw [HT1.out, ← HTX1.out] at hRA; have HRA := Lib.hid hRA; clear hr4 ht4 hRA HNA)
    | (go_at_call 37; (with_reducible refine HNUM.out.mono ?_); rintro x w2 ⟨rfl, hr2, ht2⟩; obtain ⟨w3, hw3⟩ : ∃ u, u = (w2.alloc (.cells (enc zen).toArray 25)).setRow w2.heap.size (enc (ken k)).toArray := ⟨_, rfl⟩; have HST3 := Lib.hid (held_en w2 (ken k) (ken_commit k)); rw [← hw3] at HST3; have HP3 : Hid (OfP w R w2.heap.size (ken k) st w3) := Lib.hid (by have a1 := HR.out; have a2 := HSZ.out; have a3 := ht2.size; have a4 := hr2.lt; have hX2 := HX.out.turn ht2 (by omega); have hbb : Below w2.heap.size w2 w3 := (by rw [hw3]; exact below_row' ((Below.refl _ _).alloc (Nat.le_refl _) _) (Nat.le_refl _) _); exact ⟨by rw [hw3]; exact setRow_heap _ _ _ _ _ _ (Blk.new w2 _ _), hr2.turn (Turn.fresh (F := fun b => w2.heap.size ≤ b) hbb (fun b hb => hb)) (by have := hr2.lt; omega), hX2.below hbb hX2.lt, (HB.out.trans (ht2.below fun b hb => by omega)).trans (hbb.mono (by omega)), by omega, by omega, ken_commit k⟩); have ce := HP3.out.rdr.err; rw [H0.out] at ce; have c0 : w3.cell? ⟨w2.heap.size, 0, none⟩ = some (.int .i64 k) := (EnBlk.of HP3.out.op HP3.out.ref).k; have hN1 := opn.num1_s (R + 1) st w3 HP3.out.rdr; rw [← HN1.out, ← HS0.out] at hN1; have HNA := Lib.hid hN1; clear hN1; clear hr2 ht2 hw3)
    | ((with_reducible refine step_build (t := 25) (parts := #[(0, .tmp 12)]) (ps := ?bpu65) (v := ?bvu65) ?bgu65 ?bou65 ?bxu65 ?bru65 ?bhu65); (case bgu65 => rfl); (case bou65 => rfl); (case bxu65 => rfl); (case bru65 => exact run_build_k _ k))
    | ((with_reducible refine step_store_run (t := 25) (x := .tmp 5) (y := .tmp 13) (p := ?spu66) (v := ?svu66) (w' := ?swu66) ?sgu66 ?sou66 ?sxu66 ?syu66 ?sru66 ?shu66); (case sgu66 => rfl); (case sou66 => rfl); (case sxu66 => rfl); (case syu66 => rfl); (case sru66 => exact HST3.out))
    | (go_at_call 25; (with_reducible refine (HHAS.out _).mono ?_); rintro x w4 ⟨rfl, rfl⟩)
    | (go_at_call 26; (with_reducible refine (inT.out _).mono ?_); rintro x w4 ⟨rfl, rfl⟩)
    | (go_at_call 26; (with_reducible refine (inC.out _).mono ?_); rintro x w4 ⟨rfl, rfl⟩)
    | (go_at_call 26; (with_reducible refine (inB.out _).mono ?_); rintro x w4 ⟨rfl, rfl⟩)
    | (go_at_call 40; (with_reducible refine HED.out.mono ?_); rintro x w9 ⟨rfl, rfl⟩)
    | ((with_reducible refine step_load (t := 25) (x := .tmp 5) (p := ?lpu67) (v := ?lvu67) ?lgu67 ?lou67 ?lxu67 ?lru67 ?lhu67); (case lgu67 => rfl); (case lou67 => rfl); (case lxu67 => rfl); (case lru67 => exact HLD.out))
    | (go_at_call 11; (with_reducible refine HCC.out.mono ?_); rintro x w9 ⟨rfl, hb9⟩; have hl9 := run_load_en (HPF.out.op.below hb9 HPF.out.op.lt) HPF.out.ref; rw [← HE1.out] at hl9; have HL9 := Lib.hid hl9; have hl8 := HPF.out.last hb9; rw [← HE1.out] at hl8; have HRUN := Lib.hid hl8; have HB9 := Lib.hid hb9; clear hb9 hl9 hl8)
    | ((with_reducible refine step_load (t := 25) (x := .tmp 5) (p := ?lpu68) (v := ?lvu68) ?lgu68 ?lou68 ?lxu68 ?lru68 ?lhu68); (case lgu68 => rfl); (case lou68 => rfl); (case lxu68 => rfl); (case lru68 => exact HL9.out))
    | ((with_reducible refine step_store_run (t := 25) (x := .tmp 2) (y := .tmp 69) (p := ?spu69) (v := ?svu69) (w' := ?swu69) ?sgu69 ?sou69 ?sxu69 ?syu69 ?sru69 ?shu69); (case sgu69 => rfl); (case sou69 => rfl); (case sxu69 => rfl); (case syu69 => rfl); (case sru69 => exact HRUN.out)))
  have hrf : e1.commit.length = 32 := by rw [HE1.out]; exact HPF.out.ref
  refine bodyPost_ret (results_en rfl _ _ R _ e1 rfl (setRow_heap _ _ _ _ _ _ (HPF.out.res.below HB9.out HPF.out.res.lt)) hrf) rfl ⟨by rw [HE.out]; rfl, below_row' (HPF.out.below.trans (HB9.out.mono HPF.out.below.size)) (by rw [HR.out]; exact Nat.le_refl _) _⟩
end Go.Proofs.YtbhkegdohiekfaaDoor.ent
