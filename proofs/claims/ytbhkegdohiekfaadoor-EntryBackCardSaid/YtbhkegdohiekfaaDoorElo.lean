/-
  The landed entry: Of.
-/
import Derived.Test.YtbhkegdohiekfaaDoorElc
import Derived.Test.YtbhkegdohiekfaaDoorElr
namespace Go.Proofs.YtbhkegdohiekfaaDoor.ent
open Go.RowKit Go.Proofs.YtbhkegdohiekfaaDoor.mem Go.Proofs.YtbhkegdohiekfaaDoor.sha Go.Proofs.YtbhkegdohiekfaaDoor.ids
open Go.Proofs.YtbhkegdohiekfaaDoor.opn (b1 b2 b4 num txt idl byte rd rdN rdT rdI rdS rdL St Reads Stays endE zid mkId)
open Go.Proofs.YtbhkegdohiekfaaDoor.topic (kindOf)

open Go.Proofs.YtbhkegdohiekfaaDoor.opn (RdL Sr lnum1_s lerr_s lend_s)
theorem readT_bound (st : St) : (rdT st).1.length ≤ 255 := by
  show (rd (rdN 1 st).1.toNat (rdN 1 st).2).1.length ≤ 255
  have h1 := opn.rdN1_lt st
  have h2 := opn.rdN_nonneg 1 st
  rcases opn.rd_len (rdN 1 st).1.toNat (rdN 1 st).2 with h | h <;> omega
theorem readB_len (st : St) : (rdB st).1.length ≤ st.1.length := by
  show (rd st.1.length st).1.length ≤ _
  rcases opn.rd_len st.1.length st with h | h <;> omega
theorem rd_leftL (n : Nat) (st : St) : (rd n st).2.1.length ≤ st.1.length := by
  unfold rd
  repeat' split
  · exact Nat.zero_le _
  · exact Nat.zero_le _
  · show (st.1.drop n).length ≤ _
    rw [List.length_drop]; omega
theorem readE_commit (k : Int) (st : St) : (readE k st).1.commit.length = 32 := by
  unfold readE
  repeat' split
  · exact zlen
  · exact opn.rdI_len st
  · exact zlen
  · exact zlen
  · exact zlen
theorem readE_topic (k : Int) (st : St) : (readE k st).1.topic.length ≤ 255 := by
  unfold readE
  repeat' split
  · exact Nat.zero_le _
  · exact Nat.zero_le _
  · exact readT_bound st
  · exact readT_bound st
  · exact Nat.zero_le _
theorem readE_body (k : Int) (st : St) : (readE k st).1.body.length ≤ st.1.length := by
  unfold readE
  repeat' split
  · exact readB_len st
  · exact Nat.zero_le _
  · exact Nat.zero_le _
  · exact Nat.le_trans (readB_len _) (Nat.le_trans (rd_leftL _ _) (rd_leftL _ _))
  · exact Nat.zero_le _
theorem rdN1_err {s : List UInt8} (h : (rdN 1 (s, 0)).2.2 ≠ 0) : (rdN 1 (s, 0)).1 = 0 ∧ endE (rdN 1 (s, 0)).2 = (rdN 1 (s, 0)).2.2 := by
  refine ⟨?_, by unfold endE; rw [if_pos h]⟩
  unfold rdN rd at h ⊢
  by_cases hl : s.length < 1
  · simp [hl]; rfl
  · simp [hl] at h
theorem readE_zero (st : St) : readE 0 st = (⟨0, [], [], zid⟩, st) := rfl
theorem ofE_land (s : List UInt8) (h0 : ¬ ((rdN 1 (s, 0)).2.2 = 0 ∧ kindE (rdN 1 (s, 0)).1 = 0)) :
    ofE s = if endE (readE (rdN 1 (s, 0)).1 (rdN 1 (s, 0)).2).2 ≠ 0 then (zen, endE (readE (rdN 1 (s, 0)).1 (rdN 1 (s, 0)).2).2) else if checkE (readE (rdN 1 (s, 0)).1 (rdN 1 (s, 0)).2).1 ≠ 0 then (zen, checkE (readE (rdN 1 (s, 0)).1 (rdN 1 (s, 0)).2).1) else ((readE (rdN 1 (s, 0)).1 (rdN 1 (s, 0)).2).1, 0) := by
  unfold ofE
  by_cases he : (rdN 1 (s, 0)).2.2 ≠ 0
  · obtain ⟨h1, h2⟩ := rdN1_err he
    rw [if_pos he, h1, readE_zero]
    simp only [h2]
    rw [if_pos he]
  have he' : (rdN 1 (s, 0)).2.2 = 0 := Decidable.not_not.1 he
  have hk : kindE (rdN 1 (s, 0)).1 ≠ 0 := fun h => h0 ⟨he', h⟩
  rw [if_neg he, if_neg hk]
  have e : rdE (rdN 1 (s, 0)).1 (rdN 1 (s, 0)).2 = readE (rdN 1 (s, 0)).1 (rdN 1 (s, 0)).2 := by
    unfold rdE readE
    rcases kindE_cases (rdN 1 (s, 0)).1 with ⟨a, -⟩ | ⟨a, -⟩ | ⟨a, -⟩ | ⟨a, -⟩ | ⟨a, -⟩
    · rw [if_pos a, if_pos a]
    · rw [a]; rfl
    · rw [a]; rfl
    · rw [a]; rfl
    · exact absurd a hk
  rw [e]
set_option maxHeartbeats 8000000 in
set_option maxRecDepth 100000 in
theorem lof_any (s : ByteArray) (w : World) (hT : topic.Tab w) (hs : s.size ≤ 281474976710656) :
    Calls Tryd.prog 12 #[.string s] w fun e w' => e = .returned (.tuple #[env (ofE s.data.toList).1, .int .i64 (ofE s.data.toList).2]) ∧ Below w.heap.size w w' := by
  obtain ⟨R, hR⟩ : ∃ S, S = w.heap.size := ⟨_, rfl⟩
  obtain ⟨w1, hw1⟩ : ∃ u, u = w.alloc (.cells (enc zen).toArray 25) := ⟨_, rfl⟩
  have hX : Blk w1 R 25 (enc zen).toArray := by rw [hw1, hR]; exact Blk.new w _ _
  have hB : Below w.heap.size w w1 := by rw [hw1]; exact (Below.refl _ _).alloc (Nat.le_refl _) _
  have hsz : w1.heap.size = R + 1 := by rw [hw1, hR]; simp
  obtain ⟨l, hl⟩ : ∃ l, l = s.data.toList := ⟨_, rfl⟩
  have hlen : s.size = l.length := by rw [hl]; exact Lib.size_eq s
  rw [← hl]
  have hopen : Calls Tryd.prog 32 #[.string s] w1 fun e w' => e = .returned (.pointer (some ⟨R + 1, 0, none⟩)) ∧ RdL w' (R + 1) (l, 0) ∧ Turn (R + 1 ≤ ·) w1 w' := by
    refine (oct.open_any s w1).mono ?_
    rintro e w2 ⟨rfl, h2, hb2⟩
    rw [hsz] at h2 hb2 ⊢
    exact ⟨rfl, ⟨s, 0, h2, ⟨rfl, fun _ => by rw [hl]; exact (oct.tx_eta s).symm⟩, hs⟩, Turn.fresh (by rw [hsz]; exact hb2) (fun k hk => by rw [hsz] at hk; exact hk)⟩
  have HOFL := Lib.hid (ofE_land l)
  have hnl := rd_leftL 1 (l, 0)
  obtain ⟨k, hk⟩ : ∃ k, k = (rdN 1 (l, 0)).1 := ⟨_, rfl⟩
  obtain ⟨s0, hs0⟩ : ∃ o, o = (rdN 1 (l, 0)).2 := ⟨_, rfl⟩
  have hs0l : s0.1.length ≤ 281474976710656 := by rw [hs0]; have : (rd 1 (l, 0)).2.1.length ≤ l.length := hnl; show (rd 1 (l, 0)).2.1.length ≤ _; omega
  have hE10 : s0.2 = 0 ∧ kindE k = 0 → ofE l = (zen, 10) := fun ⟨a, b⟩ => by
    rw [hs0] at a
    rw [hk] at b
    unfold ofE
    rw [if_neg (fun h => h a), if_pos b]
  have HNUM : Hid (∀ u : World, RdL u (R + 1) (l, 0) → New (R + 1 ≤ ·) u → Calls Tryd.prog 33 #[.pointer (some ⟨R + 1, 0, none⟩), .int .i64 1] u fun e w' => e = .returned (.int .i64 k) ∧ RdL w' (R + 1) s0 ∧ Turn (R + 1 ≤ ·) u w') := Lib.hid fun u hu hn => by
    rw [hk, hs0]
    exact lnum1_s (R + 1 ≤ ·) (R + 1) (l, 0) u hu (Nat.le_refl (R + 1)) hn
  rw [← hk, ← hs0] at HOFL
  obtain ⟨er, her⟩ : ∃ e, e = s0.2 := ⟨_, rfl⟩
  have HERR := Lib.hid (fun (u : World) (hu : RdL u (R + 1) s0) => lerr_s (R + 1) s0 u hu)
  rw [← her] at HERR HOFL hE10
  obtain ⟨kk, hkk⟩ : ∃ x, x = hasK k := ⟨_, rfl⟩
  have hkz : kindE k = 0 ↔ kk = 0 := by rw [hkk]; exact (hasK_zero k).symm
  have hhas := fun u => lhas_any k u
  rw [← hkk] at hhas
  rw [hkz] at HOFL hE10
  have HAS := Lib.hid hhas
  obtain ⟨o1, ho1⟩ : ∃ o, o = (readE k s0).1 := ⟨_, rfl⟩
  obtain ⟨s1, hs1⟩ : ∃ o, o = (readE k s0).2 := ⟨_, rfl⟩
  have hcm : o1.commit.length = 32 := by rw [ho1]; exact readE_commit _ _
  have htl : o1.topic.length ≤ 281474976710656 := by rw [ho1]; exact Nat.le_trans (readE_topic _ _) (by decide)
  have hbl : o1.body.length ≤ 281474976710656 := by rw [ho1]; exact Nat.le_trans (readE_body _ _) hs0l
  have HREAD : Hid (∀ u : World, RdL u (R + 1) s0 → New (R + 1 ≤ ·) u → Calls Tryd.prog 35 #[.pointer (some ⟨R + 1, 0, none⟩), .int .i64 k] u fun e w' => e = .returned (env o1) ∧ RdL w' (R + 1) s1 ∧ Turn (R + 1 ≤ ·) u w') := Lib.hid fun u hu hn => by
    rw [ho1, hs1]
    exact lread_any (R + 1 ≤ ·) (R + 1) k s0 u hu (Nat.le_refl (R + 1)) hn
  rw [← ho1, ← hs1] at HOFL
  obtain ⟨e1, he1⟩ : ∃ e, e = endE s1 := ⟨_, rfl⟩
  have HEND := Lib.hid (fun (u : World) (hu : RdL u (R + 1) s1) => lend_s (R + 1) s1 u hu)
  rw [← he1] at HEND HOFL
  have hB1 : er ≠ 0 → e1 ≠ 0 := fun h => by
    have h' : (rdN 1 (l, 0)).2.2 ≠ 0 := by rw [her, hs0] at h; exact h
    obtain ⟨h1, h2⟩ := rdN1_err h'
    have h3 : readE k s0 = (⟨0, [], [], zid⟩, s0) := by rw [hk, h1]; rfl
    rw [he1, hs1, h3, hs0]
    show endE (rdN 1 (l, 0)).2 ≠ 0
    rw [h2]
    exact h'
  obtain ⟨c, hc⟩ : ∃ c, c = checkE o1 := ⟨_, rfl⟩
  rw [← hc] at HOFL
  have HCK := Lib.hid (fun (u : World) (hu : topic.Tab u) => lcheck_any o1 u hu hcm htl hbl)
  rw [← hc] at HCK
  have HX := Lib.hid hX
  have HB := Lib.hid hB
  have HW := Lib.hid hw1
  have HR := Lib.hid hR
  have HSZ := Lib.hid hsz
  have HOPEN := Lib.hid hopen
  have HCM := Lib.hid hcm
  have HE10 := Lib.hid hE10
  have HB1 := Lib.hid hB1
  have HT := Lib.hid hT
  clear hR hs hl hlen hX hB hsz hw1 hopen hnl hs0l hs0 hk hE10 her hkk hkz hhas ho1 hs1 hcm htl hbl he1 hB1 hc hT
  by_cases h0 : er = 0
  case neg =>
    have hre : (er == 0) = false := beq_eq_false_iff_ne.2 h0
    have h1 := HB1.out h0
    have HO := Lib.hid (HOFL.out (fun h => h0 h.1))
    clear h0
    have hne : (e1 != 0) = true := bne_iff_ne.2 h1
    have HE : Hid (ofE l = (zen, e1)) := Lib.hid (by rw [HO.out, if_pos h1])
    clear h1
    go_enter Tryd.func12, Tryd.ntmps12
    go_upto_region 1 with fail
    refine wp_at HW.out.symm ?_
    rw [← HR.out]
    clear HW
    go_wp2_with (first
      | (go_at_call 32; (with_reducible refine HOPEN.out.mono ?_); rintro e w2 ⟨rfl, hr2, ht2⟩; have HT2 := Lib.hid ht2; have HNM := Lib.hid (HNUM.out w2 hr2 (fun b hb => by have := HSZ.out; have := ht2.size; omega)); clear hr2 ht2)
      | (go_at_call 33; (with_reducible refine HNM.out.mono ?_); rintro e w3 ⟨rfl, hr3, ht3⟩; have HT3 := Lib.hid (HT2.out.trans ht3); have HER := Lib.hid (HERR.out w3 hr3); have HRD := Lib.hid (HREAD.out w3 hr3 (fun b hb => by have := HSZ.out; have := HT3.out.size; omega)); have hx3 := HX.out.turn HT3.out (by omega); have HX3 := Lib.hid hx3; have HS3 := Lib.hid (run_store_en hx3 (enc_size _ zlen) zen zlen); clear hr3 ht3 hx3)
      | (go_at_call 34; (with_reducible refine HER.out.mono ?_); rintro e w4 ⟨rfl, rfl⟩)
      | (go_at_call 19; (with_reducible refine (HAS.out _).mono ?_); rintro e w4 ⟨rfl, rfl⟩)
      | (go_at_call 35; (with_reducible refine HRD.out.mono ?_); rintro e w5 ⟨rfl, hr5, ht5⟩; have HH := Lib.hid (run_lheld w5 o1 HCM.out); obtain ⟨w6, hw6⟩ : ∃ u, u = lheld w5 o1 := ⟨_, rfl⟩; have hb6 := lheld_below w5 o1; have hk6 := lheld_blk w5 o1; rw [← hw6] at HH hb6 hk6; have ht6 : Turn (R + 1 ≤ ·) w1 w6 := (HT3.out.trans ht5).trans (Turn.fresh hb6 (fun b hb => by have := HSZ.out; have := HT3.out.size; have := ht5.size; omega)); have HE6 := Lib.hid (HEND.out w6 (by obtain ⟨sx, ex, hx, hsx⟩ := hr5; exact ⟨sx, ex, Blk.below hx hb6 (Blk.lt hx), hsx⟩)); have hX6 := HX.out.turn ht6 (by omega); have HX6 := Lib.hid hX6; have HS6 := Lib.hid (run_store_en hX6 (enc_size _ zlen) zen zlen); have hB6 := HB.out.trans (ht6.below fun b hb => by have := HR.out; omega); have HC6 := Lib.hid (HCK.out w6 (HT.out.next hB6)); have HK6 := Lib.hid hk6; have HL6 := Lib.hid (run_load_en hk6 HCM.out); have HB6 := Lib.hid hB6; clear hw6 hb6 hk6 ht6 hX6 hB6 hr5 ht5)
      | ((with_reducible refine step_store_run (t := 25) (x := .tmp 6) (y := .tmp 24) (p := ?spa1a) (v := ?sva1a) (w' := ?swa1a) ?sga1a ?soa1a ?sxa1a ?sya1a ?sra1a ?sha1a); (case sga1a => rfl); (case soa1a => rfl); (case sxa1a => rfl); (case sya1a => rfl); (case sra1a => exact HH.out))
      | (go_at_call 36; (with_reducible refine HE6.out.mono ?_); rintro e w7 ⟨rfl, rfl⟩)
      | ((with_reducible refine step_build (t := 25) (parts := #[]) (ps := #[]) (v := ?bva1b) ?bga1b ?boa1b ?bxa1b ?bra1b ?bha1b); (case bga1b => rfl); (case boa1b => rfl); (case bxa1b => simp); (case bra1b => exact run_build_z _))
      | ((with_reducible refine step_store_run (t := 25) (x := .tmp 2) (y := .tmp 29) (p := ?spa1c) (v := ?sva1c) (w' := ?swa1c) ?sga1c ?soa1c ?sxa1c ?sya1c ?sra1c ?sha1c); (case sga1c => rfl); (case soa1c => rfl); (case sxa1c => rfl); (case sya1c => rfl); (case sra1c => exact HS6.out)))
    refine bodyPost_ret (results_en rfl _ _ R _ zen rfl (setRow_heap _ _ _ _ _ _ HX6.out) zlen) rfl ⟨by rw [HE.out]; rfl, ?_⟩
    exact below_row' HB6.out (by rw [HR.out]; exact Nat.le_refl _) _
  subst h0
  by_cases h2 : kk = 0
  case pos =>
    subst h2
    have HE : Hid (ofE l = (zen, 10)) := Lib.hid (HE10.out ⟨rfl, rfl⟩)
    go_enter Tryd.func12, Tryd.ntmps12
    go_upto_region 1 with fail
    refine wp_at HW.out.symm ?_
    rw [← HR.out]
    clear HW
    go_wp2_with (first
      | (go_at_call 32; (with_reducible refine HOPEN.out.mono ?_); rintro e w2 ⟨rfl, hr2, ht2⟩; have HT2 := Lib.hid ht2; have HNM := Lib.hid (HNUM.out w2 hr2 (fun b hb => by have := HSZ.out; have := ht2.size; omega)); clear hr2 ht2)
      | (go_at_call 33; (with_reducible refine HNM.out.mono ?_); rintro e w3 ⟨rfl, hr3, ht3⟩; have HT3 := Lib.hid (HT2.out.trans ht3); have HER := Lib.hid (HERR.out w3 hr3); have HRD := Lib.hid (HREAD.out w3 hr3 (fun b hb => by have := HSZ.out; have := HT3.out.size; omega)); have hx3 := HX.out.turn HT3.out (by omega); have HX3 := Lib.hid hx3; have HS3 := Lib.hid (run_store_en hx3 (enc_size _ zlen) zen zlen); clear hr3 ht3 hx3)
      | (go_at_call 34; (with_reducible refine HER.out.mono ?_); rintro e w4 ⟨rfl, rfl⟩)
      | (go_at_call 19; (with_reducible refine (HAS.out _).mono ?_); rintro e w4 ⟨rfl, rfl⟩)
      | ((with_reducible refine step_build (t := 25) (parts := #[]) (ps := #[]) (v := ?bva2b) ?bga2b ?boa2b ?bxa2b ?bra2b ?bha2b); (case bga2b => rfl); (case boa2b => rfl); (case bxa2b => simp); (case bra2b => exact run_build_z _))
      | ((with_reducible refine step_store_run (t := 25) (x := .tmp 2) (y := .tmp 21) (p := ?spa2c) (v := ?sva2c) (w' := ?swa2c) ?sga2c ?soa2c ?sxa2c ?sya2c ?sra2c ?sha2c); (case sga2c => rfl); (case soa2c => rfl); (case sxa2c => rfl); (case sya2c => rfl); (case sra2c => exact HS3.out)))
    refine bodyPost_ret (results_en rfl _ _ R _ zen rfl (setRow_heap _ _ _ _ _ _ HX3.out) zlen) rfl ⟨by rw [HE.out]; rfl, ?_⟩
    exact below_row' (HB.out.trans (HT3.out.below fun b hb => by have := HR.out; omega)) (by rw [HR.out]; exact Nat.le_refl _) _
  have hk2 : (kk == 0) = false := beq_eq_false_iff_ne.2 h2
  have HO := Lib.hid (HOFL.out (fun h => h2 h.2))
  clear h2
  by_cases h1 : e1 = 0
  case neg =>
    have hne : (e1 != 0) = true := bne_iff_ne.2 h1
    have HE : Hid (ofE l = (zen, e1)) := Lib.hid (by rw [HO.out, if_pos h1])
    clear h1
    go_enter Tryd.func12, Tryd.ntmps12
    go_upto_region 1 with fail
    refine wp_at HW.out.symm ?_
    rw [← HR.out]
    clear HW
    go_wp2_with (first
      | (go_at_call 32; (with_reducible refine HOPEN.out.mono ?_); rintro e w2 ⟨rfl, hr2, ht2⟩; have HT2 := Lib.hid ht2; have HNM := Lib.hid (HNUM.out w2 hr2 (fun b hb => by have := HSZ.out; have := ht2.size; omega)); clear hr2 ht2)
      | (go_at_call 33; (with_reducible refine HNM.out.mono ?_); rintro e w3 ⟨rfl, hr3, ht3⟩; have HT3 := Lib.hid (HT2.out.trans ht3); have HER := Lib.hid (HERR.out w3 hr3); have HRD := Lib.hid (HREAD.out w3 hr3 (fun b hb => by have := HSZ.out; have := HT3.out.size; omega)); have hx3 := HX.out.turn HT3.out (by omega); have HX3 := Lib.hid hx3; have HS3 := Lib.hid (run_store_en hx3 (enc_size _ zlen) zen zlen); clear hr3 ht3 hx3)
      | (go_at_call 34; (with_reducible refine HER.out.mono ?_); rintro e w4 ⟨rfl, rfl⟩)
      | (go_at_call 19; (with_reducible refine (HAS.out _).mono ?_); rintro e w4 ⟨rfl, rfl⟩)
      | (go_at_call 35; (with_reducible refine HRD.out.mono ?_); rintro e w5 ⟨rfl, hr5, ht5⟩; have HH := Lib.hid (run_lheld w5 o1 HCM.out); obtain ⟨w6, hw6⟩ : ∃ u, u = lheld w5 o1 := ⟨_, rfl⟩; have hb6 := lheld_below w5 o1; have hk6 := lheld_blk w5 o1; rw [← hw6] at HH hb6 hk6; have ht6 : Turn (R + 1 ≤ ·) w1 w6 := (HT3.out.trans ht5).trans (Turn.fresh hb6 (fun b hb => by have := HSZ.out; have := HT3.out.size; have := ht5.size; omega)); have HE6 := Lib.hid (HEND.out w6 (by obtain ⟨sx, ex, hx, hsx⟩ := hr5; exact ⟨sx, ex, Blk.below hx hb6 (Blk.lt hx), hsx⟩)); have hX6 := HX.out.turn ht6 (by omega); have HX6 := Lib.hid hX6; have HS6 := Lib.hid (run_store_en hX6 (enc_size _ zlen) zen zlen); have hB6 := HB.out.trans (ht6.below fun b hb => by have := HR.out; omega); have HC6 := Lib.hid (HCK.out w6 (HT.out.next hB6)); have HK6 := Lib.hid hk6; have HL6 := Lib.hid (run_load_en hk6 HCM.out); have HB6 := Lib.hid hB6; clear hw6 hb6 hk6 ht6 hX6 hB6 hr5 ht5)
      | ((with_reducible refine step_store_run (t := 25) (x := .tmp 6) (y := .tmp 24) (p := ?spa3a) (v := ?sva3a) (w' := ?swa3a) ?sga3a ?soa3a ?sxa3a ?sya3a ?sra3a ?sha3a); (case sga3a => rfl); (case soa3a => rfl); (case sxa3a => rfl); (case sya3a => rfl); (case sra3a => exact HH.out))
      | (go_at_call 36; (with_reducible refine HE6.out.mono ?_); rintro e w7 ⟨rfl, rfl⟩)
      | ((with_reducible refine step_build (t := 25) (parts := #[]) (ps := #[]) (v := ?bva3b) ?bga3b ?boa3b ?bxa3b ?bra3b ?bha3b); (case bga3b => rfl); (case boa3b => rfl); (case bxa3b => simp); (case bra3b => exact run_build_z _))
      | ((with_reducible refine step_store_run (t := 25) (x := .tmp 2) (y := .tmp 29) (p := ?spa3c) (v := ?sva3c) (w' := ?swa3c) ?sga3c ?soa3c ?sxa3c ?sya3c ?sra3c ?sha3c); (case sga3c => rfl); (case soa3c => rfl); (case sxa3c => rfl); (case sya3c => rfl); (case sra3c => exact HS6.out)))
    refine bodyPost_ret (results_en rfl _ _ R _ zen rfl (setRow_heap _ _ _ _ _ _ HX6.out) zlen) rfl ⟨by rw [HE.out]; rfl, ?_⟩
    exact below_row' HB6.out (by rw [HR.out]; exact Nat.le_refl _) _
  subst h1
  by_cases h3 : c = 0
  case neg =>
    have hne : (c != 0) = true := bne_iff_ne.2 h3
    have HE : Hid (ofE l = (zen, c)) := Lib.hid (by rw [HO.out, if_neg (fun h => h rfl), if_pos h3])
    clear h3
    go_enter Tryd.func12, Tryd.ntmps12
    go_upto_region 1 with fail
    refine wp_at HW.out.symm ?_
    rw [← HR.out]
    clear HW
    go_wp2_with (first
      | (go_at_call 32; (with_reducible refine HOPEN.out.mono ?_); rintro e w2 ⟨rfl, hr2, ht2⟩; have HT2 := Lib.hid ht2; have HNM := Lib.hid (HNUM.out w2 hr2 (fun b hb => by have := HSZ.out; have := ht2.size; omega)); clear hr2 ht2)
      | (go_at_call 33; (with_reducible refine HNM.out.mono ?_); rintro e w3 ⟨rfl, hr3, ht3⟩; have HT3 := Lib.hid (HT2.out.trans ht3); have HER := Lib.hid (HERR.out w3 hr3); have HRD := Lib.hid (HREAD.out w3 hr3 (fun b hb => by have := HSZ.out; have := HT3.out.size; omega)); have hx3 := HX.out.turn HT3.out (by omega); have HX3 := Lib.hid hx3; have HS3 := Lib.hid (run_store_en hx3 (enc_size _ zlen) zen zlen); clear hr3 ht3 hx3)
      | (go_at_call 34; (with_reducible refine HER.out.mono ?_); rintro e w4 ⟨rfl, rfl⟩)
      | (go_at_call 19; (with_reducible refine (HAS.out _).mono ?_); rintro e w4 ⟨rfl, rfl⟩)
      | (go_at_call 35; (with_reducible refine HRD.out.mono ?_); rintro e w5 ⟨rfl, hr5, ht5⟩; have HH := Lib.hid (run_lheld w5 o1 HCM.out); obtain ⟨w6, hw6⟩ : ∃ u, u = lheld w5 o1 := ⟨_, rfl⟩; have hb6 := lheld_below w5 o1; have hk6 := lheld_blk w5 o1; rw [← hw6] at HH hb6 hk6; have ht6 : Turn (R + 1 ≤ ·) w1 w6 := (HT3.out.trans ht5).trans (Turn.fresh hb6 (fun b hb => by have := HSZ.out; have := HT3.out.size; have := ht5.size; omega)); have HE6 := Lib.hid (HEND.out w6 (by obtain ⟨sx, ex, hx, hsx⟩ := hr5; exact ⟨sx, ex, Blk.below hx hb6 (Blk.lt hx), hsx⟩)); have hX6 := HX.out.turn ht6 (by omega); have HX6 := Lib.hid hX6; have HS6 := Lib.hid (run_store_en hX6 (enc_size _ zlen) zen zlen); have hB6 := HB.out.trans (ht6.below fun b hb => by have := HR.out; omega); have HC6 := Lib.hid (HCK.out w6 (HT.out.next hB6)); have HK6 := Lib.hid hk6; have HL6 := Lib.hid (run_load_en hk6 HCM.out); have HB6 := Lib.hid hB6; clear hw6 hb6 hk6 ht6 hX6 hB6 hr5 ht5)
      | ((with_reducible refine step_store_run (t := 25) (x := .tmp 6) (y := .tmp 24) (p := ?spa4a) (v := ?sva4a) (w' := ?swa4a) ?sga4a ?soa4a ?sxa4a ?sya4a ?sra4a ?sha4a); (case sga4a => rfl); (case soa4a => rfl); (case sxa4a => rfl); (case sya4a => rfl); (case sra4a => exact HH.out))
      | (go_at_call 36; (with_reducible refine HE6.out.mono ?_); rintro e w7 ⟨rfl, rfl⟩)
      | ((with_reducible refine step_load (t := 25) (x := .tmp 6) (p := ?lpa4l) (v := ?lva4l) ?lga4l ?loa4l ?lxa4l ?lra4l ?lha4l); (case lga4l => rfl); (case loa4l => rfl); (case lxa4l => rfl); (case lra4l => exact HL6.out))
      | (go_at_call 10; (with_reducible refine HC6.out.mono ?_); rintro e w7 ⟨rfl, hb7⟩; have hX7 := HX6.out.below hb7 HX6.out.lt; have HX7 := Lib.hid hX7; have HS7 := Lib.hid (run_store_en hX7 (enc_size _ zlen) zen zlen); have HL7 := Lib.hid (run_load_en (HK6.out.below hb7 HK6.out.lt) HCM.out); have HS8 := Lib.hid (run_store_en hX7 (enc_size _ zlen) o1 HCM.out); have HB7 := Lib.hid (HB6.out.trans (hb7.mono HB6.out.size)); clear hb7 hX7)
      | ((with_reducible refine step_build (t := 25) (parts := #[]) (ps := #[]) (v := ?bva4b) ?bga4b ?boa4b ?bxa4b ?bra4b ?bha4b); (case bga4b => rfl); (case boa4b => rfl); (case bxa4b => simp); (case bra4b => exact run_build_z _))
      | ((with_reducible refine step_store_run (t := 25) (x := .tmp 2) (y := .tmp 35) (p := ?spa4c) (v := ?sva4c) (w' := ?swa4c) ?sga4c ?soa4c ?sxa4c ?sya4c ?sra4c ?sha4c); (case sga4c => rfl); (case soa4c => rfl); (case sxa4c => rfl); (case sya4c => rfl); (case sra4c => exact HS7.out)))
    refine bodyPost_ret (results_en rfl _ _ R _ zen rfl (setRow_heap _ _ _ _ _ _ HX7.out) zlen) rfl ⟨by rw [HE.out]; rfl, ?_⟩
    exact below_row' HB7.out (by rw [HR.out]; exact Nat.le_refl _) _
  subst h3
  have HE : Hid (ofE l = (o1, 0)) := Lib.hid (by rw [HO.out]; rfl)
  go_enter Tryd.func12, Tryd.ntmps12
  go_upto_region 1 with fail
  refine wp_at HW.out.symm ?_
  rw [← HR.out]
  clear HW
  go_wp2_with (first
    | (go_at_call 32; (with_reducible refine HOPEN.out.mono ?_); rintro e w2 ⟨rfl, hr2, ht2⟩; have HT2 := Lib.hid ht2; have HNM := Lib.hid (HNUM.out w2 hr2 (fun b hb => by have := HSZ.out; have := ht2.size; omega)); clear hr2 ht2)
    | (go_at_call 33; (with_reducible refine HNM.out.mono ?_); rintro e w3 ⟨rfl, hr3, ht3⟩; have HT3 := Lib.hid (HT2.out.trans ht3); have HER := Lib.hid (HERR.out w3 hr3); have HRD := Lib.hid (HREAD.out w3 hr3 (fun b hb => by have := HSZ.out; have := HT3.out.size; omega)); have hx3 := HX.out.turn HT3.out (by omega); have HX3 := Lib.hid hx3; have HS3 := Lib.hid (run_store_en hx3 (enc_size _ zlen) zen zlen); clear hr3 ht3 hx3)
    | (go_at_call 34; (with_reducible refine HER.out.mono ?_); rintro e w4 ⟨rfl, rfl⟩)
    | (go_at_call 19; (with_reducible refine (HAS.out _).mono ?_); rintro e w4 ⟨rfl, rfl⟩)
    | (go_at_call 35; (with_reducible refine HRD.out.mono ?_); rintro e w5 ⟨rfl, hr5, ht5⟩; have HH := Lib.hid (run_lheld w5 o1 HCM.out); obtain ⟨w6, hw6⟩ : ∃ u, u = lheld w5 o1 := ⟨_, rfl⟩; have hb6 := lheld_below w5 o1; have hk6 := lheld_blk w5 o1; rw [← hw6] at HH hb6 hk6; have ht6 : Turn (R + 1 ≤ ·) w1 w6 := (HT3.out.trans ht5).trans (Turn.fresh hb6 (fun b hb => by have := HSZ.out; have := HT3.out.size; have := ht5.size; omega)); have HE6 := Lib.hid (HEND.out w6 (by obtain ⟨sx, ex, hx, hsx⟩ := hr5; exact ⟨sx, ex, Blk.below hx hb6 (Blk.lt hx), hsx⟩)); have hX6 := HX.out.turn ht6 (by omega); have HX6 := Lib.hid hX6; have HS6 := Lib.hid (run_store_en hX6 (enc_size _ zlen) zen zlen); have hB6 := HB.out.trans (ht6.below fun b hb => by have := HR.out; omega); have HC6 := Lib.hid (HCK.out w6 (HT.out.next hB6)); have HK6 := Lib.hid hk6; have HL6 := Lib.hid (run_load_en hk6 HCM.out); have HB6 := Lib.hid hB6; clear hw6 hb6 hk6 ht6 hX6 hB6 hr5 ht5)
    | ((with_reducible refine step_store_run (t := 25) (x := .tmp 6) (y := .tmp 24) (p := ?spa5a) (v := ?sva5a) (w' := ?swa5a) ?sga5a ?soa5a ?sxa5a ?sya5a ?sra5a ?sha5a); (case sga5a => rfl); (case soa5a => rfl); (case sxa5a => rfl); (case sya5a => rfl); (case sra5a => exact HH.out))
    | (go_at_call 36; (with_reducible refine HE6.out.mono ?_); rintro e w7 ⟨rfl, rfl⟩)
    | ((with_reducible refine step_load (t := 25) (x := .tmp 6) (p := ?lpa5l) (v := ?lva5l) ?lga5l ?loa5l ?lxa5l ?lra5l ?lha5l); (case lga5l => rfl); (case loa5l => rfl); (case lxa5l => rfl); (case lra5l => exact HL6.out))
    | (go_at_call 10; (with_reducible refine HC6.out.mono ?_); rintro e w7 ⟨rfl, hb7⟩; have hX7 := HX6.out.below hb7 HX6.out.lt; have HX7 := Lib.hid hX7; have HS7 := Lib.hid (run_store_en hX7 (enc_size _ zlen) zen zlen); have HL7 := Lib.hid (run_load_en (HK6.out.below hb7 HK6.out.lt) HCM.out); have HS8 := Lib.hid (run_store_en hX7 (enc_size _ zlen) o1 HCM.out); have HB7 := Lib.hid (HB6.out.trans (hb7.mono HB6.out.size)); clear hb7 hX7)
    | ((with_reducible refine step_load (t := 25) (x := .tmp 6) (p := ?lpa5m) (v := ?lva5m) ?lga5m ?loa5m ?lxa5m ?lra5m ?lha5m); (case lga5m => rfl); (case loa5m => rfl); (case lxa5m => rfl); (case lra5m => exact HL7.out))
    | ((with_reducible refine step_store_run (t := 25) (x := .tmp 2) (y := .tmp 37) (p := ?spa5c) (v := ?sva5c) (w' := ?swa5c) ?sga5c ?soa5c ?sxa5c ?sya5c ?sra5c ?sha5c); (case sga5c => rfl); (case soa5c => rfl); (case sxa5c => rfl); (case sya5c => rfl); (case sra5c => exact HS8.out)))
  refine bodyPost_ret (results_en rfl _ _ R _ o1 rfl (setRow_heap _ _ _ _ _ _ HX7.out) HCM.out) rfl ⟨by rw [HE.out]; rfl, ?_⟩
  exact below_row' HB7.out (by rw [HR.out]; exact Nat.le_refl _) _
end Go.Proofs.YtbhkegdohiekfaaDoor.ent
