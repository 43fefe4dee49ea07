/-
  The landed msg: Of.
-/
import Derived.Test.YtbfjljbllfjicaaMlr
import Derived.Test.YtbfjljbllfjicaaMlc
namespace Go.Proofs.Ytbfjljbllfjicaa.msg
open Go.RowKit Go.Proofs.Ytbfjljbllfjicaa.mem Go.Proofs.Ytbfjljbllfjicaa.sha Go.Proofs.Ytbfjljbllfjicaa.ids
open Go.Proofs.Ytbfjljbllfjicaa.opn (b1 b2 b4 num txt idl byte rd rdN rdT rdI rdS rdL rdS' St Reads Stays endE zid mkId RdL Sr lend_s lerr_s lnum1_s)

theorem readM_ids (k : Int) (st : St) : (readM k st).1.ids.length ≤ 255 := by
  unfold readM
  split
  · exact opn.rdS'_le st
  · split <;> exact Nat.zero_le _
theorem readM_body (k : Int) (st : St) : (readM k st).1.body.length ≤ 100000 := by
  unfold readM
  split
  · exact Nat.zero_le _
  · split
    · exact rdT2_len st
    · exact Nat.zero_le _
theorem rdN1_err {s : List UInt8} (h : (rdN 1 (s, 0)).2.2 ≠ 0) : (rdN 1 (s, 0)).1 = 0 ∧ endE (rdN 1 (s, 0)).2 = (rdN 1 (s, 0)).2.2 := by
  refine ⟨?_, by unfold endE; rw [if_pos h]⟩
  unfold rdN rd at h ⊢
  by_cases hl : s.length < 1
  · simp [hl]; rfl
  · simp [hl] at h
theorem ofM_eq (s : List UInt8) (hl : ¬ 1024 < s.length) (h0 : ¬ ((rdN 1 (s, 0)).2.2 = 0 ∧ kindM (rdN 1 (s, 0)).1 = 0)) :
    ofM s = if endE (readM (rdN 1 (s, 0)).1 (rdN 1 (s, 0)).2).2 ≠ 0 then (zmg, endE (readM (rdN 1 (s, 0)).1 (rdN 1 (s, 0)).2).2) else if checkM (readM (rdN 1 (s, 0)).1 (rdN 1 (s, 0)).2).1 ≠ 0 then (zmg, checkM (readM (rdN 1 (s, 0)).1 (rdN 1 (s, 0)).2).1) else ((readM (rdN 1 (s, 0)).1 (rdN 1 (s, 0)).2).1, 0) := by
  unfold ofM
  rw [if_neg hl]
  by_cases he : (rdN 1 (s, 0)).2.2 ≠ 0
  · rw [if_pos he]
    obtain ⟨h1, h2⟩ := rdN1_err he
    have h3 : readM (rdN 1 (s, 0)).1 (rdN 1 (s, 0)).2 = (⟨(rdN 1 (s, 0)).1, [], []⟩, (rdN 1 (s, 0)).2) := by
      unfold readM
      rw [if_neg (by rw [h1]; decide), if_neg (by rw [h1]; decide)]
    rw [h3]
    simp only [h2]
    rw [if_pos he]
  rw [if_neg he]
  have he' : (rdN 1 (s, 0)).2.2 = 0 := Decidable.not_not.1 he
  rw [if_neg (fun h => h0 ⟨he', h⟩)]
  generalize (rdN 1 (s, 0)).1 = k at h0
  generalize (rdN 1 (s, 0)).2 = st at h0 he'
  rcases kindM_cases k with ⟨a, -⟩ | ⟨a, -⟩ | ⟨a, -⟩
  · have e1 : rdM k st = (⟨k, (rdS st).1, []⟩, (rdS st).2) := by unfold rdM; rw [if_pos a]
    have e2 : readM k st = (⟨k, (rdS' st).1, []⟩, (rdS' st).2) := by unfold readM; rw [if_pos a]
    rw [e1, e2]
    simp only [opn.rdS'_snd]
    by_cases hz : endE (rdS st).2 = 0
    · have h1 : (rdS st).2.2 = 0 := by
        unfold endE at hz
        by_cases a : (rdS st).2.2 = 0
        · exact a
        · rw [if_pos a] at hz; exact hz
      rw [opn.rdS'_ok _ h1]
    · rw [if_pos hz, if_pos hz]
  · have e1 : rdM k st = (⟨k, [], (rdT2 st).1⟩, (rdT2 st).2) := by unfold rdM; rw [if_neg (by rw [a]; decide)]
    have e2 : readM k st = (⟨k, [], (rdT2 st).1⟩, (rdT2 st).2) := by unfold readM; rw [if_neg (by rw [a]; decide), if_pos a]
    rw [e1, e2]
  · exact absurd ⟨he', a⟩ h0
set_option maxHeartbeats 8000000 in
set_option maxRecDepth 100000 in
theorem lof_any (s : ByteArray) (w : World) (hs : s.size ≤ 281474976710656) :
    Calls Try.prog 14 #[.string s] w fun e w' => ∃ v, e = .returned (.tuple #[mgv (ofM s.data.toList).1 v, .int .i64 (ofM s.data.toList).2]) ∧ RdV w' v (ofM s.data.toList).1.ids ∧ Below w.heap.size w w' := by
  obtain ⟨R, hR⟩ : ∃ S, S = w.heap.size := ⟨_, rfl⟩
  obtain ⟨w1, hw1⟩ : ∃ u, u = w.alloc (.cells #[.int .i64 zmg.k, nv, .string (oct.tx zmg.body)] 24) := ⟨_, rfl⟩
  have hX : Blk w1 R 24 #[.int .i64 zmg.k, nv, .string (oct.tx zmg.body)] := by rw [hw1, hR]; exact Blk.new w _ _
  have hB : Below w.heap.size w w1 := by rw [hw1]; exact (Below.refl _ _).alloc (Nat.le_refl _) _
  have hsz : w1.heap.size = R + 1 := by rw [hw1, hR]; simp
  obtain ⟨l, hl⟩ : ∃ l, l = s.data.toList := ⟨_, rfl⟩
  have hlen : s.size = l.length := by rw [hl]; exact Lib.size_eq s
  rw [← hl]
  have hopen : Calls Try.prog 32 #[.string s] w1 fun e w' => e = .returned (.pointer (some ⟨R + 1, 0, none⟩)) ∧ RdL w' (R + 1) (l, 0) ∧ Turn (R + 1 ≤ ·) w1 w' := by
    refine (oct.open_any s w1).mono ?_
    rintro e w2 ⟨rfl, h2, hb2⟩
    rw [hsz] at h2 hb2 ⊢
    exact ⟨rfl, ⟨s, 0, h2, ⟨rfl, fun _ => by rw [hl]; exact (oct.tx_eta s).symm⟩, hs⟩, Turn.fresh (by rw [hsz]; exact hb2) (fun k hk => by rw [hsz] at hk; exact hk)⟩
  have HOFL := Lib.hid (ofM_eq l)
  obtain ⟨k, hk⟩ : ∃ k, k = (rdN 1 (l, 0)).1 := ⟨_, rfl⟩
  obtain ⟨s0, hs0⟩ : ∃ o, o = (rdN 1 (l, 0)).2 := ⟨_, rfl⟩
  have hE10 : ¬ 1024 < l.length → s0.2 = 0 ∧ kindM k = 0 → ofM l = (zmg, 10) := fun h ⟨a, b⟩ => by
    rw [hs0] at a
    rw [hk] at b
    unfold ofM
    rw [if_neg h, if_neg (fun h => h a), if_pos b]
  have HNUM : Hid (∀ u : World, RdL u (R + 1) (l, 0) → New (R + 1 ≤ ·) u → Calls Try.prog 33 #[.pointer (some ⟨R + 1, 0, none⟩), .int .i64 1] u fun e w' => e = .returned (.int .i64 k) ∧ RdL w' (R + 1) s0 ∧ Turn (R + 1 ≤ ·) u w') := Lib.hid fun u hu hn => by
    rw [hk, hs0]
    exact lnum1_s (R + 1 ≤ ·) (R + 1) (l, 0) u hu (Nat.le_refl (R + 1)) hn
  rw [← hk, ← hs0] at HOFL
  obtain ⟨er, her⟩ : ∃ e, e = s0.2 := ⟨_, rfl⟩
  have HERR := Lib.hid (fun (u : World) (hu : RdL u (R + 1) s0) => lerr_s (R + 1) s0 u hu)
  rw [← her] at HERR HOFL hE10
  obtain ⟨kk, hkk⟩ : ∃ x, x = kindM k := ⟨_, rfl⟩
  have HAS := Lib.hid (fun u => has_any k u)
  rw [← hkk] at HAS HOFL hE10
  obtain ⟨o1, ho1⟩ : ∃ o, o = (readM k s0).1 := ⟨_, rfl⟩
  obtain ⟨s1, hs1⟩ : ∃ o, o = (readM k s0).2 := ⟨_, rfl⟩
  have hidl : o1.ids.length ≤ 255 := by rw [ho1]; exact readM_ids _ _
  have hbdl : o1.body.length ≤ 100000 := by rw [ho1]; exact readM_body _ _
  have HREAD : Hid (∀ u : World, RdL u (R + 1) s0 → New (R + 1 ≤ ·) u → Calls Try.prog 35 #[.pointer (some ⟨R + 1, 0, none⟩), .int .i64 k] u fun e w' => ∃ v, e = .returned (mgv o1 v) ∧ OwnI w' (u.heap.size ≤ ·) v o1.ids ∧ RdL w' (R + 1) s1 ∧ Turn (R + 1 ≤ ·) u w') := Lib.hid fun u hu hn => by
    rw [ho1, hs1]
    exact mread_any (R + 1 ≤ ·) (R + 1) k s0 u hu (Nat.le_refl (R + 1)) hn
  rw [← ho1, ← hs1] at HOFL
  obtain ⟨e1, he1⟩ : ∃ e, e = endE s1 := ⟨_, rfl⟩
  have HEND := Lib.hid (fun (u : World) (hu : RdL u (R + 1) s1) => lend_s (R + 1) s1 u hu)
  rw [← he1] at HEND HOFL
  have hB1 : er ≠ 0 → e1 ≠ 0 := fun h => by
    have h' : (rdN 1 (l, 0)).2.2 ≠ 0 := by rw [her, hs0] at h; exact h
    obtain ⟨h1, h2⟩ := rdN1_err h'
    have h3 : readM k s0 = (⟨k, [], []⟩, s0) := by
      rw [← hk] at h1
      unfold readM
      rw [if_neg (by rw [h1]; decide), if_neg (by rw [h1]; decide)]
    rw [he1, hs1, h3, hs0]
    show endE (rdN 1 (l, 0)).2 ≠ 0
    rw [h2]
    exact h'
  obtain ⟨c, hc⟩ : ∃ c, c = checkM o1 := ⟨_, rfl⟩
  rw [← hc] at HOFL
  have HCK := Lib.hid (fun (u : World) (v : Value) (hv : RdV u v o1.ids) => lcheck_any o1 v u hv (Nat.le_trans hbdl (by decide)))
  rw [← hc] at HCK
  have HX := Lib.hid hX
  have HB := Lib.hid hB
  have HW := Lib.hid hw1
  have HR := Lib.hid hR
  have HSZ := Lib.hid hsz
  have HOPEN := Lib.hid hopen
  have HRL := Lib.hid hidl
  have HS1 := Lib.hid (run_store_mg hX rfl zmg nv rfl)
  have HE10 := Lib.hid hE10
  have HB1 := Lib.hid hB1
  clear hX hB hw1 hR hsz hopen hs hl ho1 hs1 hidl hbdl he1 hc hk hs0 hE10 her hkk hB1
  by_cases hlong : 1024 < l.length
  · have hl1 : (1024 : Int) < (s.size : Int) := by omega
    have HE : Hid (ofM l = (zmg, 3)) := Lib.hid (by unfold ofM; rw [if_pos hlong])
    clear hlong hlen
    go_enter Try.func14, Try.ntmps14
    go_upto_region 1 with fail
    refine wp_at HW.out.symm ?_
    rw [← HR.out]
    clear HW
    go_wp2_with (first
      | ((with_reducible refine step_store_run (t := 24) (x := .tmp 2) (y := .tmp 12) (p := ?spa1) (v := ?sva1) (w' := ?swa1) ?sga1 ?soa1 ?sxa1 ?sya1 ?sra1 ?sha1); (case sga1 => rfl); (case soa1 => rfl); (case sxa1 => rfl); (case sya1 => rfl); (case sra1 => exact HS1.out)))
    refine bodyPost_ret (results_mg rfl _ _ R _ zmg nv rfl (setRow_heap _ _ _ _ _ _ HX.out)) rfl ⟨nv, by rw [HE.out]; rfl, ?_, ?_⟩
    · rw [HE.out]; exact (OwnI.nil _ (fun _ => True)).rdv (by decide) |>.1
    · exact below_row' HB.out (by rw [HR.out]; exact Nat.le_refl _) _
  have hl1 : (s.size : Int) ≤ 1024 := by omega
  have HE10 := Lib.hid (HE10.out hlong)
  have HO := Lib.hid (HOFL.out hlong)
  clear hlong hlen HOFL
  by_cases h0 : er = 0
  case neg =>
    have hne0 : (er == 0) = false := beq_eq_false_iff_ne.2 h0
    have h1 : e1 ≠ 0 := HB1.out h0
    have hne : (e1 != 0) = true := bne_iff_ne.2 h1
    have HE : Hid (ofM l = (zmg, e1)) := Lib.hid (by rw [HO.out (fun h => h0 h.1), if_pos h1])
    clear h0 h1
    go_enter Try.func14, Try.ntmps14
    go_upto_region 1 with fail
    refine wp_at HW.out.symm ?_
    rw [← HR.out]
    clear HW
    go_wp2_with (first
      | (go_at_call 32; (with_reducible refine HOPEN.out.mono ?_); rintro e w2 ⟨rfl, hr2, ht2⟩; have HT2 := Lib.hid ht2; have HNM := Lib.hid (HNUM.out w2 hr2 (fun b hb => by have := HSZ.out; have := ht2.size; omega)); clear hr2 ht2)
      | (go_at_call 33; (with_reducible refine HNM.out.mono ?_); rintro e w3 ⟨rfl, hr3, ht3⟩; have HT3 := Lib.hid (HT2.out.trans ht3); have HER := Lib.hid (HERR.out w3 hr3); have HRD := Lib.hid (HREAD.out w3 hr3 (fun b hb => by have := HSZ.out; have := HT3.out.size; omega)); have hx3 := HX.out.turn HT3.out (by omega); have HX3 := Lib.hid hx3; have HS3 := Lib.hid (run_store_mg hx3 rfl zmg nv rfl); clear hr3 ht3 hx3)
      | (go_at_call 34; (with_reducible refine HER.out.mono ?_); rintro e w4 ⟨rfl, rfl⟩)
      | (go_at_call 35; (with_reducible refine HRD.out.mono ?_); rintro e w5 ⟨v, rfl, how5, hr5, ht5⟩; have hv5 := (how5.rdv (Nat.le_trans HRL.out (by decide))).1; have HH := Lib.hid (run_hold w5 o1 v (rdv_one hv5)); obtain ⟨w6, hw6⟩ : ∃ u, u = heldW w5 o1 v := ⟨_, rfl⟩; have hb6 := held_below w5 o1 v; have hk6 := held_blk w5 o1 v; rw [← hw6] at HH hb6 hk6; have ht6 : Turn (R + 1 ≤ ·) w1 w6 := (HT3.out.trans ht5).trans (Turn.fresh hb6 (fun b hb => by have := HSZ.out; have := HT3.out.size; have := ht5.size; omega)); have HE6 := Lib.hid (HEND.out w6 (by obtain ⟨sx, ex, hx, hsx⟩ := hr5; exact ⟨sx, ex, Blk.below hx hb6 (Blk.lt hx), hsx⟩)); have hX6 := HX.out.turn ht6 (by omega); have HX6 := Lib.hid hX6; have HS6 := Lib.hid (run_store_mg hX6 rfl zmg nv rfl); have HL6 := Lib.hid (run_load_mg hk6); have hv6 := hv5.next hb6; have hB6 : Below w.heap.size w w6 := HB.out.trans (ht6.below fun b hb => by have := HR.out; omega); have HC6 := Lib.hid (HCK.out w6 v hv6); have HV6 := Lib.hid hv6; have HB6 := Lib.hid hB6; have HK6 := Lib.hid hk6; have HO6 : Hid (v.oneCell' = true) := Lib.hid (rdv_one hv5); have HW6 := Lib.hid ((how5.below hb6).mono (G := (R < ·)) fun b hb => by have hb : w3.heap.size ≤ b := hb; have := HSZ.out; have := HT3.out.size; omega); clear how5 hv5 hr5 ht5 hb6 hk6 ht6 hX6 hv6 hB6 hw6)
      | ((with_reducible refine step_store_run (t := 24) (x := .tmp 6) (y := .tmp 28) (p := ?spb1) (v := ?svb1) (w' := ?swb1) ?sgb1 ?sob1 ?sxb1 ?syb1 ?srb1 ?shb1); (case sgb1 => rfl); (case sob1 => rfl); (case sxb1 => rfl); (case syb1 => rfl); (case srb1 => exact HH.out))
      | (go_at_call 36; (with_reducible refine HE6.out.mono ?_); rintro e w7 ⟨rfl, rfl⟩)
      | ((with_reducible refine step_store_run (t := 24) (x := .tmp 2) (y := .tmp 33) (p := ?spb2) (v := ?svb2) (w' := ?swb2) ?sgb2 ?sob2 ?sxb2 ?syb2 ?srb2 ?shb2); (case sgb2 => rfl); (case sob2 => rfl); (case sxb2 => rfl); (case syb2 => rfl); (case srb2 => exact HS6.out)))
    refine bodyPost_ret (results_mg rfl _ _ R _ zmg nv rfl (setRow_heap _ _ _ _ _ _ HX6.out)) rfl ⟨nv, by rw [HE.out]; rfl, ?_, ?_⟩
    · rw [HE.out]; exact (OwnI.nil _ (fun _ => True)).rdv (by decide) |>.1
    · exact below_row' HB6.out (by rw [HR.out]; exact Nat.le_refl _) _
  subst h0
  by_cases h2 : kk = 0
  · subst h2
    have HE : Hid (ofM l = (zmg, 10)) := Lib.hid (HE10.out ⟨rfl, rfl⟩)
    go_enter Try.func14, Try.ntmps14
    go_upto_region 1 with fail
    refine wp_at HW.out.symm ?_
    rw [← HR.out]
    clear HW
    go_wp2_with (first
      | (go_at_call 32; (with_reducible refine HOPEN.out.mono ?_); rintro e w2 ⟨rfl, hr2, ht2⟩; have HT2 := Lib.hid ht2; have HNM := Lib.hid (HNUM.out w2 hr2 (fun b hb => by have := HSZ.out; have := ht2.size; omega)); clear hr2 ht2)
      | (go_at_call 33; (with_reducible refine HNM.out.mono ?_); rintro e w3 ⟨rfl, hr3, ht3⟩; have HT3 := Lib.hid (HT2.out.trans ht3); have HER := Lib.hid (HERR.out w3 hr3); have HRD := Lib.hid (HREAD.out w3 hr3 (fun b hb => by have := HSZ.out; have := HT3.out.size; omega)); have hx3 := HX.out.turn HT3.out (by omega); have HX3 := Lib.hid hx3; have HS3 := Lib.hid (run_store_mg hx3 rfl zmg nv rfl); clear hr3 ht3 hx3)
      | (go_at_call 34; (with_reducible refine HER.out.mono ?_); rintro e w4 ⟨rfl, rfl⟩)
      | (go_at_call 20; (with_reducible refine (HAS.out _).mono ?_); rintro e w4 ⟨rfl, rfl⟩)
      | ((with_reducible refine step_store_run (t := 24) (x := .tmp 2) (y := .tmp 25) (p := ?spc1) (v := ?svc1) (w' := ?swc1) ?sgc1 ?soc1 ?sxc1 ?syc1 ?src1 ?shc1); (case sgc1 => rfl); (case soc1 => rfl); (case sxc1 => rfl); (case syc1 => rfl); (case src1 => exact HS3.out)))
    refine bodyPost_ret (results_mg rfl _ _ R _ zmg nv rfl (setRow_heap _ _ _ _ _ _ HX3.out)) rfl ⟨nv, by rw [HE.out]; rfl, ?_, ?_⟩
    · rw [HE.out]; exact (OwnI.nil _ (fun _ => True)).rdv (by decide) |>.1
    · exact below_row' (HB.out.trans (HT3.out.below fun b hb => by have := HR.out; omega)) (by rw [HR.out]; exact Nat.le_refl _) _
  have hk2 : (kk == 0) = false := beq_eq_false_iff_ne.2 h2
  have HO := Lib.hid (HO.out (fun h => h2 h.2))
  clear h2
  by_cases h1 : e1 = 0
  case neg =>
    have hne : (e1 != 0) = true := bne_iff_ne.2 h1
    have HE : Hid (ofM l = (zmg, e1)) := Lib.hid (by rw [HO.out, if_pos h1])
    clear h1
    go_enter Try.func14, Try.ntmps14
    go_upto_region 1 with fail
    refine wp_at HW.out.symm ?_
    rw [← HR.out]
    clear HW
    go_wp2_with (first
      | (go_at_call 32; (with_reducible refine HOPEN.out.mono ?_); rintro e w2 ⟨rfl, hr2, ht2⟩; have HT2 := Lib.hid ht2; have HNM := Lib.hid (HNUM.out w2 hr2 (fun b hb => by have := HSZ.out; have := ht2.size; omega)); clear hr2 ht2)
      | (go_at_call 33; (with_reducible refine HNM.out.mono ?_); rintro e w3 ⟨rfl, hr3, ht3⟩; have HT3 := Lib.hid (HT2.out.trans ht3); have HER := Lib.hid (HERR.out w3 hr3); have HRD := Lib.hid (HREAD.out w3 hr3 (fun b hb => by have := HSZ.out; have := HT3.out.size; omega)); have hx3 := HX.out.turn HT3.out (by omega); have HX3 := Lib.hid hx3; have HS3 := Lib.hid (run_store_mg hx3 rfl zmg nv rfl); clear hr3 ht3 hx3)
      | (go_at_call 34; (with_reducible refine HER.out.mono ?_); rintro e w4 ⟨rfl, rfl⟩)
      | (go_at_call 20; (with_reducible refine (HAS.out _).mono ?_); rintro e w4 ⟨rfl, rfl⟩)
      | (go_at_call 35; (with_reducible refine HRD.out.mono ?_); rintro e w5 ⟨v, rfl, how5, hr5, ht5⟩; have hv5 := (how5.rdv (Nat.le_trans HRL.out (by decide))).1; have HH := Lib.hid (run_hold w5 o1 v (rdv_one hv5)); obtain ⟨w6, hw6⟩ : ∃ u, u = heldW w5 o1 v := ⟨_, rfl⟩; have hb6 := held_below w5 o1 v; have hk6 := held_blk w5 o1 v; rw [← hw6] at HH hb6 hk6; have ht6 : Turn (R + 1 ≤ ·) w1 w6 := (HT3.out.trans ht5).trans (Turn.fresh hb6 (fun b hb => by have := HSZ.out; have := HT3.out.size; have := ht5.size; omega)); have HE6 := Lib.hid (HEND.out w6 (by obtain ⟨sx, ex, hx, hsx⟩ := hr5; exact ⟨sx, ex, Blk.below hx hb6 (Blk.lt hx), hsx⟩)); have hX6 := HX.out.turn ht6 (by omega); have HX6 := Lib.hid hX6; have HS6 := Lib.hid (run_store_mg hX6 rfl zmg nv rfl); have HL6 := Lib.hid (run_load_mg hk6); have hv6 := hv5.next hb6; have hB6 : Below w.heap.size w w6 := HB.out.trans (ht6.below fun b hb => by have := HR.out; omega); have HC6 := Lib.hid (HCK.out w6 v hv6); have HV6 := Lib.hid hv6; have HB6 := Lib.hid hB6; have HK6 := Lib.hid hk6; have HO6 : Hid (v.oneCell' = true) := Lib.hid (rdv_one hv5); have HW6 := Lib.hid ((how5.below hb6).mono (G := (R < ·)) fun b hb => by have hb : w3.heap.size ≤ b := hb; have := HSZ.out; have := HT3.out.size; omega); clear how5 hv5 hr5 ht5 hb6 hk6 ht6 hX6 hv6 hB6 hw6)
      | ((with_reducible refine step_store_run (t := 24) (x := .tmp 6) (y := .tmp 28) (p := ?spd1) (v := ?svd1) (w' := ?swd1) ?sgd1 ?sod1 ?sxd1 ?syd1 ?srd1 ?shd1); (case sgd1 => rfl); (case sod1 => rfl); (case sxd1 => rfl); (case syd1 => rfl); (case srd1 => exact HH.out))
      | (go_at_call 36; (with_reducible refine HE6.out.mono ?_); rintro e w7 ⟨rfl, rfl⟩)
      | ((with_reducible refine step_store_run (t := 24) (x := .tmp 2) (y := .tmp 33) (p := ?spd2) (v := ?svd2) (w' := ?swd2) ?sgd2 ?sod2 ?sxd2 ?syd2 ?srd2 ?shd2); (case sgd2 => rfl); (case sod2 => rfl); (case sxd2 => rfl); (case syd2 => rfl); (case srd2 => exact HS6.out)))
    refine bodyPost_ret (results_mg rfl _ _ R _ zmg nv rfl (setRow_heap _ _ _ _ _ _ HX6.out)) rfl ⟨nv, by rw [HE.out]; rfl, ?_, ?_⟩
    · rw [HE.out]; exact (OwnI.nil _ (fun _ => True)).rdv (by decide) |>.1
    · exact below_row' HB6.out (by rw [HR.out]; exact Nat.le_refl _) _
  subst h1
  by_cases h3 : c = 0
  case neg =>
    have hne : (c != 0) = true := bne_iff_ne.2 h3
    have HE : Hid (ofM l = (zmg, c)) := Lib.hid (by rw [HO.out, if_neg (fun h => h rfl), if_pos h3])
    clear h3
    go_enter Try.func14, Try.ntmps14
    go_upto_region 1 with fail
    refine wp_at HW.out.symm ?_
    rw [← HR.out]
    clear HW
    go_wp2_with (first
      | (go_at_call 32; (with_reducible refine HOPEN.out.mono ?_); rintro e w2 ⟨rfl, hr2, ht2⟩; have HT2 := Lib.hid ht2; have HNM := Lib.hid (HNUM.out w2 hr2 (fun b hb => by have := HSZ.out; have := ht2.size; omega)); clear hr2 ht2)
      | (go_at_call 33; (with_reducible refine HNM.out.mono ?_); rintro e w3 ⟨rfl, hr3, ht3⟩; have HT3 := Lib.hid (HT2.out.trans ht3); have HER := Lib.hid (HERR.out w3 hr3); have HRD := Lib.hid (HREAD.out w3 hr3 (fun b hb => by have := HSZ.out; have := HT3.out.size; omega)); have hx3 := HX.out.turn HT3.out (by omega); have HX3 := Lib.hid hx3; have HS3 := Lib.hid (run_store_mg hx3 rfl zmg nv rfl); clear hr3 ht3 hx3)
      | (go_at_call 34; (with_reducible refine HER.out.mono ?_); rintro e w4 ⟨rfl, rfl⟩)
      | (go_at_call 20; (with_reducible refine (HAS.out _).mono ?_); rintro e w4 ⟨rfl, rfl⟩)
      | (go_at_call 35; (with_reducible refine HRD.out.mono ?_); rintro e w5 ⟨v, rfl, how5, hr5, ht5⟩; have hv5 := (how5.rdv (Nat.le_trans HRL.out (by decide))).1; have HH := Lib.hid (run_hold w5 o1 v (rdv_one hv5)); obtain ⟨w6, hw6⟩ : ∃ u, u = heldW w5 o1 v := ⟨_, rfl⟩; have hb6 := held_below w5 o1 v; have hk6 := held_blk w5 o1 v; rw [← hw6] at HH hb6 hk6; have ht6 : Turn (R + 1 ≤ ·) w1 w6 := (HT3.out.trans ht5).trans (Turn.fresh hb6 (fun b hb => by have := HSZ.out; have := HT3.out.size; have := ht5.size; omega)); have HE6 := Lib.hid (HEND.out w6 (by obtain ⟨sx, ex, hx, hsx⟩ := hr5; exact ⟨sx, ex, Blk.below hx hb6 (Blk.lt hx), hsx⟩)); have hX6 := HX.out.turn ht6 (by omega); have HX6 := Lib.hid hX6; have HS6 := Lib.hid (run_store_mg hX6 rfl zmg nv rfl); have HL6 := Lib.hid (run_load_mg hk6); have hv6 := hv5.next hb6; have hB6 : Below w.heap.size w w6 := HB.out.trans (ht6.below fun b hb => by have := HR.out; omega); have HC6 := Lib.hid (HCK.out w6 v hv6); have HV6 := Lib.hid hv6; have HB6 := Lib.hid hB6; have HK6 := Lib.hid hk6; have HO6 : Hid (v.oneCell' = true) := Lib.hid (rdv_one hv5); have HW6 := Lib.hid ((how5.below hb6).mono (G := (R < ·)) fun b hb => by have hb : w3.heap.size ≤ b := hb; have := HSZ.out; have := HT3.out.size; omega); clear how5 hv5 hr5 ht5 hb6 hk6 ht6 hX6 hv6 hB6 hw6)
      | ((with_reducible refine step_store_run (t := 24) (x := .tmp 6) (y := .tmp 28) (p := ?spe1) (v := ?sve1) (w' := ?swe1) ?sge1 ?soe1 ?sxe1 ?sye1 ?sre1 ?she1); (case sge1 => rfl); (case soe1 => rfl); (case sxe1 => rfl); (case sye1 => rfl); (case sre1 => exact HH.out))
      | (go_at_call 36; (with_reducible refine HE6.out.mono ?_); rintro e w7 ⟨rfl, rfl⟩)
      | ((with_reducible refine step_load (t := 24) (x := .tmp 6) (p := ?lpe2) (v := ?lve2) ?lge2 ?loe2 ?lxe2 ?lre2 ?lhe2); (case lge2 => rfl); (case loe2 => rfl); (case lxe2 => rfl); (case lre2 => exact HL6.out))
      | (go_at_call 10; (with_reducible refine HC6.out.mono ?_); rintro e w7 ⟨rfl, hb7⟩; have hX7 := HX6.out.below hb7 HX6.out.lt; have HX7 := Lib.hid hX7; have HS7 := Lib.hid (run_store_mg hX7 rfl zmg nv rfl); have HL7 := Lib.hid (run_load_mg (HK6.out.below hb7 HK6.out.lt)); have HS8 := Lib.hid (run_store_mg hX7 rfl o1 v HO6.out); have HV7 := Lib.hid (HW6.out.below hb7); have HB7 := Lib.hid (HB6.out.trans (hb7.mono HB6.out.size)); clear hb7 hX7)
      | ((with_reducible refine step_store_run (t := 24) (x := .tmp 2) (y := .tmp 39) (p := ?spe3) (v := ?sve3) (w' := ?swe3) ?sge3 ?soe3 ?sxe3 ?sye3 ?sre3 ?she3); (case sge3 => rfl); (case soe3 => rfl); (case sxe3 => rfl); (case sye3 => rfl); (case sre3 => exact HS7.out)))
    refine bodyPost_ret (results_mg rfl _ _ R _ zmg nv rfl (setRow_heap _ _ _ _ _ _ HX7.out)) rfl ⟨nv, by rw [HE.out]; rfl, ?_, ?_⟩
    · rw [HE.out]; exact (OwnI.nil _ (fun _ => True)).rdv (by decide) |>.1
    · exact below_row' HB7.out (by rw [HR.out]; exact Nat.le_refl _) _
  subst h3
  have HE : Hid (ofM l = (o1, 0)) := Lib.hid (by rw [HO.out]; rfl)
  go_enter Try.func14, Try.ntmps14
  go_upto_region 1 with fail
  refine wp_at HW.out.symm ?_
  rw [← HR.out]
  clear HW
  go_wp2_with (first
    | (go_at_call 32; (with_reducible refine HOPEN.out.mono ?_); rintro e w2 ⟨rfl, hr2, ht2⟩; have HT2 := Lib.hid ht2; have HNM := Lib.hid (HNUM.out w2 hr2 (fun b hb => by have := HSZ.out; have := ht2.size; omega)); clear hr2 ht2)
    | (go_at_call 33; (with_reducible refine HNM.out.mono ?_); rintro e w3 ⟨rfl, hr3, ht3⟩; have HT3 := Lib.hid (HT2.out.trans ht3); have HER := Lib.hid (HERR.out w3 hr3); have HRD := Lib.hid (HREAD.out w3 hr3 (fun b hb => by have := HSZ.out; have := HT3.out.size; omega)); have hx3 := HX.out.turn HT3.out (by omega); have HX3 := Lib.hid hx3; have HS3 := Lib.hid (run_store_mg hx3 rfl zmg nv rfl); clear hr3 ht3 hx3)
    | (go_at_call 34; (with_reducible refine HER.out.mono ?_); rintro e w4 ⟨rfl, rfl⟩)
    | (go_at_call 20; (with_reducible refine (HAS.out _).mono ?_); rintro e w4 ⟨rfl, rfl⟩)
    | (go_at_call 35; (with_reducible refine HRD.out.mono ?_); rintro e w5 ⟨v, rfl, how5, hr5, ht5⟩; have hv5 := (how5.rdv (Nat.le_trans HRL.out (by decide))).1; have HH := Lib.hid (run_hold w5 o1 v (rdv_one hv5)); obtain ⟨w6, hw6⟩ : ∃ u, u = heldW w5 o1 v := ⟨_, rfl⟩; have hb6 := held_below w5 o1 v; have hk6 := held_blk w5 o1 v; rw [← hw6] at HH hb6 hk6; have ht6 : Turn (R + 1 ≤ ·) w1 w6 := (HT3.out.trans ht5).trans (Turn.fresh hb6 (fun b hb => by have := HSZ.out; have := HT3.out.size; have := ht5.size; omega)); have HE6 := Lib.hid (HEND.out w6 (by obtain ⟨sx, ex, hx, hsx⟩ := hr5; exact ⟨sx, ex, Blk.below hx hb6 (Blk.lt hx), hsx⟩)); have hX6 := HX.out.turn ht6 (by omega); have HX6 := Lib.hid hX6; have HS6 := Lib.hid (run_store_mg hX6 rfl zmg nv rfl); have HL6 := Lib.hid (run_load_mg hk6); have hv6 := hv5.next hb6; have hB6 : Below w.heap.size w w6 := HB.out.trans (ht6.below fun b hb => by have := HR.out; omega); have HC6 := Lib.hid (HCK.out w6 v hv6); have HV6 := Lib.hid hv6; have HB6 := Lib.hid hB6; have HK6 := Lib.hid hk6; have HO6 : Hid (v.oneCell' = true) := Lib.hid (rdv_one hv5); have HW6 := Lib.hid ((how5.below hb6).mono (G := (R < ·)) fun b hb => by have hb : w3.heap.size ≤ b := hb; have := HSZ.out; have := HT3.out.size; omega); clear how5 hv5 hr5 ht5 hb6 hk6 ht6 hX6 hv6 hB6 hw6)
    | ((with_reducible refine step_store_run (t := 24) (x := .tmp 6) (y := .tmp 28) (p := ?spf1) (v := ?svf1) (w' := ?swf1) ?sgf1 ?sof1 ?sxf1 ?syf1 ?srf1 ?shf1); (case sgf1 => rfl); (case sof1 => rfl); (case sxf1 => rfl); (case syf1 => rfl); (case srf1 => exact HH.out))
    | (go_at_call 36; (with_reducible refine HE6.out.mono ?_); rintro e w7 ⟨rfl, rfl⟩)
    | ((with_reducible refine step_load (t := 24) (x := .tmp 6) (p := ?lpf2) (v := ?lvf2) ?lgf2 ?lof2 ?lxf2 ?lrf2 ?lhf2); (case lgf2 => rfl); (case lof2 => rfl); (case lxf2 => rfl); (case lrf2 => exact HL6.out))
    | (go_at_call 10; (with_reducible refine HC6.out.mono ?_); rintro e w7 ⟨rfl, hb7⟩; have hX7 := HX6.out.below hb7 HX6.out.lt; have HX7 := Lib.hid hX7; have HS7 := Lib.hid (run_store_mg hX7 rfl zmg nv rfl); have HL7 := Lib.hid (run_load_mg (HK6.out.below hb7 HK6.out.lt)); have HS8 := Lib.hid (run_store_mg hX7 rfl o1 v HO6.out); have HV7 := Lib.hid (HW6.out.below hb7); have HB7 := Lib.hid (HB6.out.trans (hb7.mono HB6.out.size)); clear hb7 hX7)
    | ((with_reducible refine step_load (t := 24) (x := .tmp 6) (p := ?lpf3) (v := ?lvf3) ?lgf3 ?lof3 ?lxf3 ?lrf3 ?lhf3); (case lgf3 => rfl); (case lof3 => rfl); (case lxf3 => rfl); (case lrf3 => exact HL7.out))
    | ((with_reducible refine step_store_run (t := 24) (x := .tmp 2) (y := .tmp 41) (p := ?spf4) (v := ?svf4) (w' := ?swf4) ?sgf4 ?sof4 ?sxf4 ?syf4 ?srf4 ?shf4); (case sgf4 => rfl); (case sof4 => rfl); (case sxf4 => rfl); (case syf4 => rfl); (case srf4 => exact HS8.out)))
  refine bodyPost_ret (results_mg rfl _ _ R _ o1 v rfl (setRow_heap _ _ _ _ _ _ HX7.out)) rfl ⟨v, by rw [HE.out]; rfl, ?_, ?_⟩
  · rw [HE.out]; exact ((HV7.out.turn (turn_row _ R _) fun k hk e => by have a : R < k := HV7.out.2.2 k hk; omega).rdv (Nat.le_trans HRL.out (by decide))).1
  · exact below_row' HB7.out (by rw [HR.out]; exact Nat.le_refl _) _
end Go.Proofs.Ytbfjljbllfjicaa.msg
