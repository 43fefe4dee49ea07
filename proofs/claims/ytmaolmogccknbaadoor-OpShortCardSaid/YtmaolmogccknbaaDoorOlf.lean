/-
  The landed op: Of.
-/
import Derived.Test.YtmaolmogccknbaaDoorOlra
import Derived.Test.YtmaolmogccknbaaDoorOlrb
import Derived.Test.YtmaolmogccknbaaDoorOlrc
import Derived.Test.YtmaolmogccknbaaDoorOlk
namespace Go.Proofs.YtmaolmogccknbaaDoor.opn
open Go.RowKit Go.Proofs.YtmaolmogccknbaaDoor.mem Go.Proofs.YtmaolmogccknbaaDoor.sha Go.Proofs.YtmaolmogccknbaaDoor.ids

theorem read_any (F : Nat → Prop) (g : Nat) (k : Int) (st : St) (w : World) (h : RdL w g st) (hF : F g) (hn : New F w) :
    Calls Tryd.prog 56 #[.pointer (some ⟨g, 0, none⟩), .int .i64 k] w fun e w' => RdOut F g k st w e w' := by
  by_cases h0 : has k = []
  · exact read0 F g k st w h0 h hF hn
  · rcases kind_of (o := kop k) h0 with h1 | h1 | h1 | h1 | h1 | h1 | h1 <;> (obtain rfl := show k = _ from h1)
    · exact read1 F g st w h hF hn
    · exact read2 F g st w h hF hn
    · exact read3 F g st w h hF hn
    · exact read4 F g st w h hF hn
    · exact read5 F g st w h hF hn
    · exact read6 F g st w h hF hn
    · exact read7 F g st w h hF hn
theorem ofL_eq (l : List UInt8) (k : Int) (st : St) (hk : k = (rdN 1 (l, 0)).1) (hst : st = (rdN 1 (l, 0)).2) (h : ¬ (st.2 = 0 ∧ has k = [])) :
    ofL rise l = if (if endE (parts (kop k) (has k) st).2 ≠ 0 then endE (parts (kop k) (has k) st).2 else check rise (parts (kop k) (has k) st).1) ≠ 0 then (zop, (if endE (parts (kop k) (has k) st).2 ≠ 0 then endE (parts (kop k) (has k) st).2 else check rise (parts (kop k) (has k) st).1)) else ((parts (kop k) (has k) st).1, 0) := by
  have e : ofL rise l = if st.2 ≠ 0 then (zop, st.2) else if has k = [] then (zop, 10) else
      if (if endE (parts (kop k) (has k) st).2 ≠ 0 then endE (parts (kop k) (has k) st).2 else check rise (parts (kop k) (has k) st).1) ≠ 0 then (zop, (if endE (parts (kop k) (has k) st).2 ≠ 0 then endE (parts (kop k) (has k) st).2 else check rise (parts (kop k) (has k) st).1)) else ((parts (kop k) (has k) st).1, 0) := by rw [hst, hk]; rfl
  rw [e]
  by_cases h0 : st.2 = 0
  · rw [if_neg (fun hh => hh h0), if_neg (fun hh => h ⟨h0, hh⟩)]
  · rw [if_pos h0]
    have hl : (rd 1 (l, 0)).1.length = 0 ∨ (rd 1 (l, 0)).1.length = 1 := rd_len 1 (l, 0)
    have hk0 : has k = [] := by
      rw [hk]
      have : (rdN 1 (l, 0)).1 = 0 := by
        show num (rd 1 (l, 0)).1 = 0
        have hd : (rd 1 (l, 0)).2.2 ≠ 0 := by rw [hst] at h0; exact h0
        unfold rd at hd ⊢
        simp only [ne_eq, not_true, if_false] at hd ⊢
        by_cases hh : l.length < 1
        · rw [if_pos hh]; rfl
        · rw [if_neg hh] at hd; exact absurd rfl hd
      rw [this]; rfl
    have hE : endE st = st.2 := by unfold endE; rw [if_pos h0]
    rw [hk0]
    show _ = if (if endE st ≠ 0 then endE st else check rise (kop k)) ≠ 0 then (zop, (if endE st ≠ 0 then endE st else check rise (kop k))) else (kop k, 0)
    rw [hE, if_pos h0, if_pos h0]

theorem ofL_eq' (l : List UInt8) (k : Int) (st : St) (hk : k = (rdN 1 (l, 0)).1) (hst : st = (rdN 1 (l, 0)).2) (h : ¬ (st.2 = 0 ∧ has k = [])) :
    ofL rise l = if (if endE (parts' (kop k) (has k) st).2 ≠ 0 then endE (parts' (kop k) (has k) st).2 else check rise (parts' (kop k) (has k) st).1) ≠ 0 then (zop, (if endE (parts' (kop k) (has k) st).2 ≠ 0 then endE (parts' (kop k) (has k) st).2 else check rise (parts' (kop k) (has k) st).1)) else ((parts' (kop k) (has k) st).1, 0) := by
  rw [ofL_eq l k st hk hst h, parts'_snd (has k) (kop k) (kop k) st]
  by_cases h0 : endE (parts (kop k) (has k) st).2 = 0
  · have h1 : (parts (kop k) (has k) st).2.2 = 0 := by
      unfold endE at h0
      by_cases a : (parts (kop k) (has k) st).2.2 = 0
      · exact a
      · rw [if_pos a] at h0; exact h0
    rw [parts'_ok _ _ _ h1]
  · have e : ∀ x : Int, (if endE (parts (kop k) (has k) st).2 ≠ 0 then endE (parts (kop k) (has k) st).2 else x) = endE (parts (kop k) (has k) st).2 := fun x => if_pos h0
    rw [e, e, if_pos h0, if_pos h0]
theorem endE_parts (k : Int) (st : St) (h : st.2 ≠ 0) : endE (parts (kop k) (has k) st).2 ≠ 0 := by
  have h2 : (parts (kop k) (has k) st).2.2 ≠ 0 := fun e => h (parts_err _ _ _ e)
  unfold endE
  rw [if_pos h2]
  exact h2
set_option maxHeartbeats 8000000 in
set_option maxRecDepth 100000 in
theorem lof_any (s : ByteArray) (w : World) (hT : Tab w) (hs : s.size ≤ 281474976710656) :
    Calls Tryd.prog 20 #[.string s] w fun e w' => ∃ v, e = .returned (.tuple #[opv (ofL rise s.data.toList).1 v, .int .i64 (ofL rise s.data.toList).2]) ∧ RdV w' v (ofL rise s.data.toList).1.refs ∧ Below w.heap.size w w' := by
  obtain ⟨R, hR⟩ : ∃ S, S = w.heap.size := ⟨_, rfl⟩
  obtain ⟨w1, hw1⟩ : ∃ u, u = w.alloc (.cells (opc zop nv).toArray 26) := ⟨_, rfl⟩
  have hX : Blk w1 R 26 (opc zop nv).toArray := by rw [hw1, hR]; exact Blk.new w _ _
  have hB : Below w.heap.size w w1 := by rw [hw1]; exact (Below.refl _ _).alloc (Nat.le_refl _) _
  have hsz : w1.heap.size = R + 1 := by rw [hw1, hR]; simp
  obtain ⟨l, hl⟩ : ∃ l, l = s.data.toList := ⟨_, rfl⟩
  rw [← hl]
  have hopen : Calls Tryd.prog 53 #[.string s] w1 fun e w' => e = .returned (.pointer (some ⟨R + 1, 0, none⟩)) ∧ RdL w' (R + 1) (l, 0) ∧ Turn (R + 1 ≤ ·) w1 w' := by
    refine (oct.open_any s w1).mono ?_
    rintro e w2 ⟨rfl, h2, hb2⟩
    rw [hsz] at h2 hb2 ⊢
    exact ⟨rfl, ⟨s, 0, h2, ⟨rfl, fun _ => by rw [hl]; exact (oct.tx_eta s).symm⟩, hs⟩, Turn.fresh (by rw [hsz]; exact hb2) (fun k hk => by rw [hsz] at hk; exact hk)⟩
  obtain ⟨st, hst⟩ : ∃ st, st = (rdN 1 (l, 0)).2 := ⟨_, rfl⟩
  obtain ⟨k, hk⟩ : ∃ k, k = (rdN 1 (l, 0)).1 := ⟨_, rfl⟩
  have HNUM := Lib.hid (fun (u : World) (hu : RdL u (R + 1) (l, 0)) (hn : New (R + 1 ≤ ·) u) => lnum1_s (R + 1 ≤ ·) (R + 1) (l, 0) u hu (Nat.le_refl (R + 1)) hn)
  rw [← hst, ← hk] at HNUM
  have HOFL := Lib.hid (ofL_eq' l k st hk hst)
  have HOF0 : Hid (st.2 = 0 → has k = [] → ofL rise l = (zop, 10)) := Lib.hid fun h1 h2 => by
    have e : ofL rise l = if st.2 ≠ 0 then (zop, st.2) else if has k = [] then (zop, 10) else
      if (if endE (parts (kop k) (has k) st).2 ≠ 0 then endE (parts (kop k) (has k) st).2 else check rise (parts (kop k) (has k) st).1) ≠ 0 then (zop, (if endE (parts (kop k) (has k) st).2 ≠ 0 then endE (parts (kop k) (has k) st).2 else check rise (parts (kop k) (has k) st).1)) else ((parts (kop k) (has k) st).1, 0) := by rw [hst, hk]; rfl
    rw [e, if_neg (fun e => e h1), if_pos h2]
  obtain ⟨st1, hst1⟩ : ∃ e, e = st.2 := ⟨_, rfl⟩
  have HERR := Lib.hid (fun (u : World) (hu : RdL u (R + 1) st) => lerr_s (R + 1) st u hu)
  rw [← hst1] at HERR HOF0
  have HST1 := Lib.hid hst1
  obtain ⟨o1, ho1⟩ : ∃ o, o = (parts' (kop k) (has k) st).1 := ⟨_, rfl⟩
  obtain ⟨s1, hs1⟩ : ∃ o, o = (parts' (kop k) (has k) st).2 := ⟨_, rfl⟩
  have href : o1.ref.length = 32 := by rw [ho1]; exact parts'_ref _ (kop_ref _) _
  have hrefs : o1.refs.length ≤ 255 := by rw [ho1]; exact parts'_refs _ (o := kop _) (Nat.zero_le _) _
  have HREAD : Hid (∀ u : World, RdL u (R + 1) st → New (R + 1 ≤ ·) u → Calls Tryd.prog 56 #[.pointer (some ⟨R + 1, 0, none⟩), .int .i64 k] u fun e w' => ∃ v, e = .returned (opv o1 v) ∧ OwnI w' (u.heap.size ≤ ·) v o1.refs ∧ RdL w' (R + 1) s1 ∧ Turn (R + 1 ≤ ·) u w') := Lib.hid fun u hu hn => by
    rw [ho1, hs1]
    exact read_any (R + 1 ≤ ·) (R + 1) k st u hu (Nat.le_refl (R + 1)) hn
  rw [← ho1, ← hs1] at HOFL
  obtain ⟨e1, he1⟩ : ∃ e, e = endE s1 := ⟨_, rfl⟩
  have HEND := Lib.hid (fun (u : World) (hu : RdL u (R + 1) s1) => lend_s (R + 1) s1 u hu)
  rw [← he1] at HEND HOFL
  have HEN : Hid (st.2 ≠ 0 → e1 ≠ 0) := Lib.hid fun h => by rw [he1, hs1, parts'_snd (has k) (kop k) (kop k) st]; exact endE_parts k st h
  obtain ⟨c, hc⟩ : ∃ c, c = check rise o1 := ⟨_, rfl⟩
  rw [← hc] at HOFL
  have HCK := Lib.hid (fun (u : World) (v : Value) (ht : Tab u) (hv : RdV u v o1.refs) => lcheck_any o1 v u ht href hv (Nat.le_trans hrefs (by decide)))
  rw [← hc] at HCK
  have HX := Lib.hid hX
  have HB := Lib.hid hB
  have HW := Lib.hid hw1
  have HR := Lib.hid hR
  have HSZ := Lib.hid hsz
  have HOPEN := Lib.hid hopen
  have HT := Lib.hid hT
  have HREF := Lib.hid href
  have HRL := Lib.hid hrefs
  clear hX hB hw1 hR hsz hopen hT hs hl hst hk hst1 ho1 hs1 href hrefs he1 hc
  by_cases h0 : st1 = 0
  · subst h0
    by_cases hh : has k = []
    · have HE : Hid (ofL rise l = (zop, 10)) := Lib.hid (HOF0.out rfl hh)
      have hkb : kindB k = false := by
        by_cases e : kindB k = true
        · exact absurd hh ((kindB_has k).1 e)
        · simpa using e
      clear hh
      go_enter Tryd.func20, Tryd.ntmps20
      go_upto_region 1 with fail
      refine wp_at HW.out.symm ?_
      rw [← HR.out]
      clear HW
      go_wp2_with (first
        | (go_at_call 53; (with_reducible refine HOPEN.out.mono ?_); rintro e w2 ⟨rfl, hr2, ht2⟩; have h2 := HNUM.out w2 hr2 (fun b hb => by have := HSZ.out; have := ht2.size; omega); have HN2 := Lib.hid h2; have HT2 := Lib.hid ht2; clear h2 hr2 ht2)
        | (go_at_call 54; (with_reducible refine HN2.out.mono ?_); rintro e w3 ⟨rfl, hr3, ht3⟩; have HT3 := Lib.hid (HT2.out.trans ht3); have hn3 : New (R + 1 ≤ ·) w3 := (fun b hb => by have := HSZ.out; have := HT3.out.size; omega); have HER := Lib.hid (HERR.out w3 hr3); have HRD := Lib.hid (HREAD.out w3 hr3 hn3); have hX3 := HX.out.turn HT3.out (by omega); have HX3 := Lib.hid hX3; have HS3 := Lib.hid (run_store_op hX3 (opc_size _ _ zid_len) zop nv zid_len nv_one); clear hr3 ht3 hn3 hX3)
        | (go_at_call 55; (with_reducible refine HER.out.mono ?_); rintro e w4 ⟨rfl, rfl⟩)
        | (go_at_call 45; (with_reducible refine (isKind_any _ _).mono ?_); rintro e w4 ⟨rfl, rfl⟩; rw [hkb])
        | ((with_reducible refine step_build (t := 26) (parts := #[]) (ps := #[]) (v := ?bvck) ?bgck ?bock ?bxck ?brck ?bhck); (case bgck => rfl); (case bock => rfl); (case bxck => simp); (case brck => exact run_build_z _))
        | ((with_reducible refine step_store_run (t := 26) (x := .tmp 2) (y := .tmp 21) (p := ?spek) (v := ?svek) (w' := ?swek) ?sgek ?soek ?sxek ?syek ?srek ?shek); (case sgek => rfl); (case soek => rfl); (case sxek => rfl); (case syek => rfl); (case srek => exact HS3.out)))
      refine bodyPost_ret (results_op rfl _ _ R _ zop nv rfl (setRow_heap _ _ _ _ _ _ HX3.out) zid_len) rfl ⟨nv, by rw [HE.out]; rfl, ?_, ?_⟩
      · rw [HE.out]; exact (OwnI.nil _ (fun _ => True)).rdv (by decide) |>.1
      · exact below_row' (HB.out.trans (HT3.out.below fun b hb => by have := HR.out; omega)) (by rw [HR.out]; exact Nat.le_refl _) _
    · have hkb : kindB k = true := (kindB_has k).2 hh
      have HO := Lib.hid (HOFL.out fun e => hh e.2)
      clear hh
      by_cases h1 : e1 = 0
      · subst h1
        by_cases h2 : c = 0
        · subst h2
          have HE : Hid (ofL rise l = (o1, 0)) := Lib.hid (by rw [HO.out]; rfl)
          go_enter Tryd.func20, Tryd.ntmps20
          go_upto_region 1 with fail
          refine wp_at HW.out.symm ?_
          rw [← HR.out]
          clear HW
          go_wp2_with (first
            | (go_at_call 53; (with_reducible refine HOPEN.out.mono ?_); rintro e w2 ⟨rfl, hr2, ht2⟩; have h2 := HNUM.out w2 hr2 (fun b hb => by have := HSZ.out; have := ht2.size; omega); have HN2 := Lib.hid h2; have HT2 := Lib.hid ht2; clear h2 hr2 ht2)
            | (go_at_call 54; (with_reducible refine HN2.out.mono ?_); rintro e w3 ⟨rfl, hr3, ht3⟩; have HT3 := Lib.hid (HT2.out.trans ht3); have hn3 : New (R + 1 ≤ ·) w3 := (fun b hb => by have := HSZ.out; have := HT3.out.size; omega); have HER := Lib.hid (HERR.out w3 hr3); have HRD := Lib.hid (HREAD.out w3 hr3 hn3); have hX3 := HX.out.turn HT3.out (by omega); have HX3 := Lib.hid hX3; have HS3 := Lib.hid (run_store_op hX3 (opc_size _ _ zid_len) zop nv zid_len nv_one); clear hr3 ht3 hn3 hX3)
            | (go_at_call 55; (with_reducible refine HER.out.mono ?_); rintro e w4 ⟨rfl, rfl⟩)
            | (go_at_call 45; (with_reducible refine (isKind_any _ _).mono ?_); rintro e w4 ⟨rfl, rfl⟩; rw [hkb])
            | (go_at_call 56; (with_reducible refine HRD.out.mono ?_); rintro e w5 ⟨v, rfl, how5, hr5, ht5⟩; have hv5 := (how5.rdv (Nat.le_trans HRL.out (by decide))).1; have HH := Lib.hid (run_hold w5 o1 v HREF.out (rdv_one hv5)); obtain ⟨w6, hw6⟩ : ∃ u, u = heldW w5 o1 v := ⟨_, rfl⟩; have hb6 := held_below w5 o1 v; have hk6 := held_blk w5 o1 v; rw [← hw6] at HH hb6 hk6; have ht6 : Turn (R + 1 ≤ ·) w1 w6 := (HT3.out.trans ht5).trans (Turn.fresh hb6 (fun b hb => by have := HSZ.out; have := HT3.out.size; have := ht5.size; omega)); have HE6 := Lib.hid (HEND.out w6 (by obtain ⟨sx, ex, hx, hsx⟩ := hr5; exact ⟨sx, ex, Blk.below hx hb6 (Blk.lt hx), hsx⟩)); have hX6 := HX.out.turn ht6 (by omega); have HX6 := Lib.hid hX6; have HS6 := Lib.hid (run_store_op hX6 (opc_size _ _ zid_len) zop nv zid_len nv_one); have HL6 := Lib.hid (run_load_op hk6 HREF.out); have hv6 := hv5.next hb6; have hB6 : Below w.heap.size w w6 := HB.out.trans (ht6.below fun b hb => by have := HR.out; omega); have HC6 := Lib.hid (HCK.out w6 v (HT.out.next hB6) hv6); have HV6 := Lib.hid hv6; have HB6 := Lib.hid hB6; have HK6 := Lib.hid hk6; have HO6 : Hid (v.oneCell' = true) := Lib.hid (rdv_one hv5); have HW6 := Lib.hid ((how5.below hb6).mono (G := (R < ·)) fun b hb => by have hb : w3.heap.size ≤ b := hb; have := HSZ.out; have := HT3.out.size; omega); clear how5 hv5 hr5 ht5 hb6 hk6 ht6 hX6 hv6 hB6 hw6)
            | ((with_reducible refine step_store_run (t := 26) (x := .tmp 6) (y := .tmp 24) (p := ?spao) (v := ?svao) (w' := ?swao) ?sgao ?soao ?sxao ?syao ?srao ?shao); (case sgao => rfl); (case soao => rfl); (case sxao => rfl); (case syao => rfl); (case srao => exact HH.out))
            | (go_at_call 57; (with_reducible refine HE6.out.mono ?_); rintro e w7 ⟨rfl, rfl⟩)
            | ((with_reducible refine step_load (t := 26) (x := .tmp 6) (p := ?lpbo) (v := ?lvbo) ?lgbo ?lobo ?lxbo ?lrbo ?lhbo); (case lgbo => rfl); (case lobo => rfl); (case lxbo => rfl); (case lrbo => exact HL6.out))
            | (go_at_call 14; (with_reducible refine HC6.out.mono ?_); rintro e w7 ⟨rfl, hb7⟩; have hX7 := HX6.out.below hb7 HX6.out.lt; have HX7 := Lib.hid hX7; have HS7 := Lib.hid (run_store_op hX7 (opc_size _ _ zid_len) zop nv zid_len nv_one); have HL7 := Lib.hid (run_load_op (HK6.out.below hb7 HK6.out.lt) HREF.out); have HS8 := Lib.hid (run_store_op hX7 (opc_size _ _ zid_len) o1 v HREF.out HO6.out); have HV7 := Lib.hid (HW6.out.below hb7); have HB7 := Lib.hid (HB6.out.trans (hb7.mono HB6.out.size)); clear hb7 hX7)
            | ((with_reducible refine step_load (t := 26) (x := .tmp 6) (p := ?lpdo) (v := ?lvdo) ?lgdo ?lodo ?lxdo ?lrdo ?lhdo); (case lgdo => rfl); (case lodo => rfl); (case lxdo => rfl); (case lrdo => exact HL7.out))
            | ((with_reducible refine step_store_run (t := 26) (x := .tmp 2) (y := .tmp 37) (p := ?speo) (v := ?sveo) (w' := ?sweo) ?sgeo ?soeo ?sxeo ?syeo ?sreo ?sheo); (case sgeo => rfl); (case soeo => rfl); (case sxeo => rfl); (case syeo => rfl); (case sreo => exact HS8.out)))
          refine bodyPost_ret (results_op rfl _ _ R _ o1 v rfl (setRow_heap _ _ _ _ _ _ HX7.out) HREF.out) rfl ⟨v, by rw [HE.out]; rfl, ?_, ?_⟩
          · rw [HE.out]; exact ((HV7.out.turn (turn_row _ R _) fun k hk e => by have a : R < k := HV7.out.2.2 k hk; omega).rdv (Nat.le_trans HRL.out (by decide))).1
          · exact below_row' HB7.out (by rw [HR.out]; exact Nat.le_refl _) _
        · have hne : (c != 0) = true := bne_iff_ne.2 h2
          have HE : Hid (ofL rise l = (zop, c)) := Lib.hid (by rw [HO.out, if_neg (show ¬ ((0 : Int) ≠ 0) from fun e => e rfl), if_pos h2])
          clear h2
          go_enter Tryd.func20, Tryd.ntmps20
          go_upto_region 1 with fail
          refine wp_at HW.out.symm ?_
          rw [← HR.out]
          clear HW
          go_wp2_with (first
            | (go_at_call 53; (with_reducible refine HOPEN.out.mono ?_); rintro e w2 ⟨rfl, hr2, ht2⟩; have h2 := HNUM.out w2 hr2 (fun b hb => by have := HSZ.out; have := ht2.size; omega); have HN2 := Lib.hid h2; have HT2 := Lib.hid ht2; clear h2 hr2 ht2)
            | (go_at_call 54; (with_reducible refine HN2.out.mono ?_); rintro e w3 ⟨rfl, hr3, ht3⟩; have HT3 := Lib.hid (HT2.out.trans ht3); have hn3 : New (R + 1 ≤ ·) w3 := (fun b hb => by have := HSZ.out; have := HT3.out.size; omega); have HER := Lib.hid (HERR.out w3 hr3); have HRD := Lib.hid (HREAD.out w3 hr3 hn3); have hX3 := HX.out.turn HT3.out (by omega); have HX3 := Lib.hid hX3; have HS3 := Lib.hid (run_store_op hX3 (opc_size _ _ zid_len) zop nv zid_len nv_one); clear hr3 ht3 hn3 hX3)
            | (go_at_call 55; (with_reducible refine HER.out.mono ?_); rintro e w4 ⟨rfl, rfl⟩)
            | (go_at_call 45; (with_reducible refine (isKind_any _ _).mono ?_); rintro e w4 ⟨rfl, rfl⟩; rw [hkb])
            | (go_at_call 56; (with_reducible refine HRD.out.mono ?_); rintro e w5 ⟨v, rfl, how5, hr5, ht5⟩; have hv5 := (how5.rdv (Nat.le_trans HRL.out (by decide))).1; have HH := Lib.hid (run_hold w5 o1 v HREF.out (rdv_one hv5)); obtain ⟨w6, hw6⟩ : ∃ u, u = heldW w5 o1 v := ⟨_, rfl⟩; have hb6 := held_below w5 o1 v; have hk6 := held_blk w5 o1 v; rw [← hw6] at HH hb6 hk6; have ht6 : Turn (R + 1 ≤ ·) w1 w6 := (HT3.out.trans ht5).trans (Turn.fresh hb6 (fun b hb => by have := HSZ.out; have := HT3.out.size; have := ht5.size; omega)); have HE6 := Lib.hid (HEND.out w6 (by obtain ⟨sx, ex, hx, hsx⟩ := hr5; exact ⟨sx, ex, Blk.below hx hb6 (Blk.lt hx), hsx⟩)); have hX6 := HX.out.turn ht6 (by omega); have HX6 := Lib.hid hX6; have HS6 := Lib.hid (run_store_op hX6 (opc_size _ _ zid_len) zop nv zid_len nv_one); have HL6 := Lib.hid (run_load_op hk6 HREF.out); have hv6 := hv5.next hb6; have hB6 : Below w.heap.size w w6 := HB.out.trans (ht6.below fun b hb => by have := HR.out; omega); have HC6 := Lib.hid (HCK.out w6 v (HT.out.next hB6) hv6); have HV6 := Lib.hid hv6; have HB6 := Lib.hid hB6; have HK6 := Lib.hid hk6; have HO6 : Hid (v.oneCell' = true) := Lib.hid (rdv_one hv5); have HW6 := Lib.hid ((how5.below hb6).mono (G := (R < ·)) fun b hb => by have hb : w3.heap.size ≤ b := hb; have := HSZ.out; have := HT3.out.size; omega); clear how5 hv5 hr5 ht5 hb6 hk6 ht6 hX6 hv6 hB6 hw6)
            | ((with_reducible refine step_store_run (t := 26) (x := .tmp 6) (y := .tmp 24) (p := ?spac) (v := ?svac) (w' := ?swac) ?sgac ?soac ?sxac ?syac ?srac ?shac); (case sgac => rfl); (case soac => rfl); (case sxac => rfl); (case syac => rfl); (case srac => exact HH.out))
            | (go_at_call 57; (with_reducible refine HE6.out.mono ?_); rintro e w7 ⟨rfl, rfl⟩)
            | ((with_reducible refine step_load (t := 26) (x := .tmp 6) (p := ?lpbc) (v := ?lvbc) ?lgbc ?lobc ?lxbc ?lrbc ?lhbc); (case lgbc => rfl); (case lobc => rfl); (case lxbc => rfl); (case lrbc => exact HL6.out))
            | (go_at_call 14; (with_reducible refine HC6.out.mono ?_); rintro e w7 ⟨rfl, hb7⟩; have hX7 := HX6.out.below hb7 HX6.out.lt; have HX7 := Lib.hid hX7; have HS7 := Lib.hid (run_store_op hX7 (opc_size _ _ zid_len) zop nv zid_len nv_one); have HL7 := Lib.hid (run_load_op (HK6.out.below hb7 HK6.out.lt) HREF.out); have HS8 := Lib.hid (run_store_op hX7 (opc_size _ _ zid_len) o1 v HREF.out HO6.out); have HV7 := Lib.hid (HW6.out.below hb7); have HB7 := Lib.hid (HB6.out.trans (hb7.mono HB6.out.size)); clear hb7 hX7)
            | ((with_reducible refine step_build (t := 26) (parts := #[]) (ps := #[]) (v := ?bvcc) ?bgcc ?bocc ?bxcc ?brcc ?bhcc); (case bgcc => rfl); (case bocc => rfl); (case bxcc => simp); (case brcc => exact run_build_z _))
            | ((with_reducible refine step_store_run (t := 26) (x := .tmp 2) (y := .tmp 35) (p := ?spec) (v := ?svec) (w' := ?swec) ?sgec ?soec ?sxec ?syec ?srec ?shec); (case sgec => rfl); (case soec => rfl); (case sxec => rfl); (case syec => rfl); (case srec => exact HS7.out)))
          refine bodyPost_ret (results_op rfl _ _ R _ zop nv rfl (setRow_heap _ _ _ _ _ _ HX7.out) zid_len) rfl ⟨nv, by rw [HE.out]; rfl, ?_, ?_⟩
          · rw [HE.out]; exact (OwnI.nil _ (fun _ => True)).rdv (by decide) |>.1
          · exact below_row' HB7.out (by rw [HR.out]; exact Nat.le_refl _) _
      · have hne : (e1 != 0) = true := bne_iff_ne.2 h1
        have HE : Hid (ofL rise l = (zop, e1)) := Lib.hid (by rw [HO.out, if_pos h1, if_pos h1])
        clear h1
        go_enter Tryd.func20, Tryd.ntmps20
        go_upto_region 1 with fail
        refine wp_at HW.out.symm ?_
        rw [← HR.out]
        clear HW
        go_wp2_with (first
          | (go_at_call 53; (with_reducible refine HOPEN.out.mono ?_); rintro e w2 ⟨rfl, hr2, ht2⟩; have h2 := HNUM.out w2 hr2 (fun b hb => by have := HSZ.out; have := ht2.size; omega); have HN2 := Lib.hid h2; have HT2 := Lib.hid ht2; clear h2 hr2 ht2)
          | (go_at_call 54; (with_reducible refine HN2.out.mono ?_); rintro e w3 ⟨rfl, hr3, ht3⟩; have HT3 := Lib.hid (HT2.out.trans ht3); have hn3 : New (R + 1 ≤ ·) w3 := (fun b hb => by have := HSZ.out; have := HT3.out.size; omega); have HER := Lib.hid (HERR.out w3 hr3); have HRD := Lib.hid (HREAD.out w3 hr3 hn3); have hX3 := HX.out.turn HT3.out (by omega); have HX3 := Lib.hid hX3; have HS3 := Lib.hid (run_store_op hX3 (opc_size _ _ zid_len) zop nv zid_len nv_one); clear hr3 ht3 hn3 hX3)
          | (go_at_call 55; (with_reducible refine HER.out.mono ?_); rintro e w4 ⟨rfl, rfl⟩)
          | (go_at_call 45; (with_reducible refine (isKind_any _ _).mono ?_); rintro e w4 ⟨rfl, rfl⟩; rw [hkb])
          | (go_at_call 56; (with_reducible refine HRD.out.mono ?_); rintro e w5 ⟨v, rfl, how5, hr5, ht5⟩; have hv5 := (how5.rdv (Nat.le_trans HRL.out (by decide))).1; have HH := Lib.hid (run_hold w5 o1 v HREF.out (rdv_one hv5)); obtain ⟨w6, hw6⟩ : ∃ u, u = heldW w5 o1 v := ⟨_, rfl⟩; have hb6 := held_below w5 o1 v; have hk6 := held_blk w5 o1 v; rw [← hw6] at HH hb6 hk6; have ht6 : Turn (R + 1 ≤ ·) w1 w6 := (HT3.out.trans ht5).trans (Turn.fresh hb6 (fun b hb => by have := HSZ.out; have := HT3.out.size; have := ht5.size; omega)); have HE6 := Lib.hid (HEND.out w6 (by obtain ⟨sx, ex, hx, hsx⟩ := hr5; exact ⟨sx, ex, Blk.below hx hb6 (Blk.lt hx), hsx⟩)); have hX6 := HX.out.turn ht6 (by omega); have HX6 := Lib.hid hX6; have HS6 := Lib.hid (run_store_op hX6 (opc_size _ _ zid_len) zop nv zid_len nv_one); have HL6 := Lib.hid (run_load_op hk6 HREF.out); have hv6 := hv5.next hb6; have hB6 : Below w.heap.size w w6 := HB.out.trans (ht6.below fun b hb => by have := HR.out; omega); have HC6 := Lib.hid (HCK.out w6 v (HT.out.next hB6) hv6); have HV6 := Lib.hid hv6; have HB6 := Lib.hid hB6; have HK6 := Lib.hid hk6; have HO6 : Hid (v.oneCell' = true) := Lib.hid (rdv_one hv5); have HW6 := Lib.hid ((how5.below hb6).mono (G := (R < ·)) fun b hb => by have hb : w3.heap.size ≤ b := hb; have := HSZ.out; have := HT3.out.size; omega); clear how5 hv5 hr5 ht5 hb6 hk6 ht6 hX6 hv6 hB6 hw6)
          | ((with_reducible refine step_store_run (t := 26) (x := .tmp 6) (y := .tmp 24) (p := ?spae) (v := ?svae) (w' := ?swae) ?sgae ?soae ?sxae ?syae ?srae ?shae); (case sgae => rfl); (case soae => rfl); (case sxae => rfl); (case syae => rfl); (case srae => exact HH.out))
          | (go_at_call 57; (with_reducible refine HE6.out.mono ?_); rintro e w7 ⟨rfl, rfl⟩)
          | ((with_reducible refine step_load (t := 26) (x := .tmp 6) (p := ?lpbe) (v := ?lvbe) ?lgbe ?lobe ?lxbe ?lrbe ?lhbe); (case lgbe => rfl); (case lobe => rfl); (case lxbe => rfl); (case lrbe => exact HL6.out))
          | (go_at_call 14; (with_reducible refine HC6.out.mono ?_); rintro e w7 ⟨rfl, hb7⟩; have hX7 := HX6.out.below hb7 HX6.out.lt; have HX7 := Lib.hid hX7; have HS7 := Lib.hid (run_store_op hX7 (opc_size _ _ zid_len) zop nv zid_len nv_one); have HL7 := Lib.hid (run_load_op (HK6.out.below hb7 HK6.out.lt) HREF.out); have HS8 := Lib.hid (run_store_op hX7 (opc_size _ _ zid_len) o1 v HREF.out HO6.out); have HV7 := Lib.hid (HW6.out.below hb7); have HB7 := Lib.hid (HB6.out.trans (hb7.mono HB6.out.size)); clear hb7 hX7)
          | ((with_reducible refine step_build (t := 26) (parts := #[]) (ps := #[]) (v := ?bvce) ?bgce ?boce ?bxce ?brce ?bhce); (case bgce => rfl); (case boce => rfl); (case bxce => simp); (case brce => exact run_build_z _))
          | ((with_reducible refine step_store_run (t := 26) (x := .tmp 2) (y := .tmp 29) (p := ?spee) (v := ?svee) (w' := ?swee) ?sgee ?soee ?sxee ?syee ?sree ?shee); (case sgee => rfl); (case soee => rfl); (case sxee => rfl); (case syee => rfl); (case sree => exact HS6.out)))
        refine bodyPost_ret (results_op rfl _ _ R _ zop nv rfl (setRow_heap _ _ _ _ _ _ HX6.out) zid_len) rfl ⟨nv, by rw [HE.out]; rfl, ?_, ?_⟩
        · rw [HE.out]; exact (OwnI.nil _ (fun _ => True)).rdv (by decide) |>.1
        · exact below_row' HB6.out (by rw [HR.out]; exact Nat.le_refl _) _
  · have hne0 : (st1 == 0) = false := beq_eq_false_iff_ne.2 h0
    have HO := Lib.hid (HOFL.out fun e => h0 (by rw [HST1.out]; exact e.1))
    have h1 : e1 ≠ 0 := HEN.out (by rw [← HST1.out]; exact h0)
    have hne : (e1 != 0) = true := bne_iff_ne.2 h1
    have HE : Hid (ofL rise l = (zop, e1)) := Lib.hid (by rw [HO.out, if_pos h1, if_pos h1])
    clear h0 h1
    go_enter Tryd.func20, Tryd.ntmps20
    go_upto_region 1 with fail
    refine wp_at HW.out.symm ?_
    rw [← HR.out]
    clear HW
    go_wp2_with (first
      | (go_at_call 53; (with_reducible refine HOPEN.out.mono ?_); rintro e w2 ⟨rfl, hr2, ht2⟩; have h2 := HNUM.out w2 hr2 (fun b hb => by have := HSZ.out; have := ht2.size; omega); have HN2 := Lib.hid h2; have HT2 := Lib.hid ht2; clear h2 hr2 ht2)
      | (go_at_call 54; (with_reducible refine HN2.out.mono ?_); rintro e w3 ⟨rfl, hr3, ht3⟩; have HT3 := Lib.hid (HT2.out.trans ht3); have hn3 : New (R + 1 ≤ ·) w3 := (fun b hb => by have := HSZ.out; have := HT3.out.size; omega); have HER := Lib.hid (HERR.out w3 hr3); have HRD := Lib.hid (HREAD.out w3 hr3 hn3); have hX3 := HX.out.turn HT3.out (by omega); have HX3 := Lib.hid hX3; have HS3 := Lib.hid (run_store_op hX3 (opc_size _ _ zid_len) zop nv zid_len nv_one); clear hr3 ht3 hn3 hX3)
      | (go_at_call 55; (with_reducible refine HER.out.mono ?_); rintro e w4 ⟨rfl, rfl⟩)
      | (go_at_call 45; (with_reducible refine (isKind_any _ _).mono ?_); rintro e w4 ⟨rfl, rfl⟩; rw [hkb0])
      | (go_at_call 56; (with_reducible refine HRD.out.mono ?_); rintro e w5 ⟨v, rfl, how5, hr5, ht5⟩; have hv5 := (how5.rdv (Nat.le_trans HRL.out (by decide))).1; have HH := Lib.hid (run_hold w5 o1 v HREF.out (rdv_one hv5)); obtain ⟨w6, hw6⟩ : ∃ u, u = heldW w5 o1 v := ⟨_, rfl⟩; have hb6 := held_below w5 o1 v; have hk6 := held_blk w5 o1 v; rw [← hw6] at HH hb6 hk6; have ht6 : Turn (R + 1 ≤ ·) w1 w6 := (HT3.out.trans ht5).trans (Turn.fresh hb6 (fun b hb => by have := HSZ.out; have := HT3.out.size; have := ht5.size; omega)); have HE6 := Lib.hid (HEND.out w6 (by obtain ⟨sx, ex, hx, hsx⟩ := hr5; exact ⟨sx, ex, Blk.below hx hb6 (Blk.lt hx), hsx⟩)); have hX6 := HX.out.turn ht6 (by omega); have HX6 := Lib.hid hX6; have HS6 := Lib.hid (run_store_op hX6 (opc_size _ _ zid_len) zop nv zid_len nv_one); have HL6 := Lib.hid (run_load_op hk6 HREF.out); have hv6 := hv5.next hb6; have hB6 : Below w.heap.size w w6 := HB.out.trans (ht6.below fun b hb => by have := HR.out; omega); have HC6 := Lib.hid (HCK.out w6 v (HT.out.next hB6) hv6); have HV6 := Lib.hid hv6; have HB6 := Lib.hid hB6; have HK6 := Lib.hid hk6; have HO6 : Hid (v.oneCell' = true) := Lib.hid (rdv_one hv5); have HW6 := Lib.hid ((how5.below hb6).mono (G := (R < ·)) fun b hb => by have hb : w3.heap.size ≤ b := hb; have := HSZ.out; have := HT3.out.size; omega); clear how5 hv5 hr5 ht5 hb6 hk6 ht6 hX6 hv6 hB6 hw6)
      | ((with_reducible refine step_store_run (t := 26) (x := .tmp 6) (y := .tmp 24) (p := ?spas) (v := ?svas) (w' := ?swas) ?sgas ?soas ?sxas ?syas ?sras ?shas); (case sgas => rfl); (case soas => rfl); (case sxas => rfl); (case syas => rfl); (case sras => exact HH.out))
      | (go_at_call 57; (with_reducible refine HE6.out.mono ?_); rintro e w7 ⟨rfl, rfl⟩)
      | ((with_reducible refine step_load (t := 26) (x := .tmp 6) (p := ?lpbs) (v := ?lvbs) ?lgbs ?lobs ?lxbs ?lrbs ?lhbs); (case lgbs => rfl); (case lobs => rfl); (case lxbs => rfl); (case lrbs => exact HL6.out))
      | (go_at_call 14; (with_reducible refine HC6.out.mono ?_); rintro e w7 ⟨rfl, hb7⟩; have hX7 := HX6.out.below hb7 HX6.out.lt; have HX7 := Lib.hid hX7; have HS7 := Lib.hid (run_store_op hX7 (opc_size _ _ zid_len) zop nv zid_len nv_one); have HL7 := Lib.hid (run_load_op (HK6.out.below hb7 HK6.out.lt) HREF.out); have HS8 := Lib.hid (run_store_op hX7 (opc_size _ _ zid_len) o1 v HREF.out HO6.out); have HV7 := Lib.hid (HW6.out.below hb7); have HB7 := Lib.hid (HB6.out.trans (hb7.mono HB6.out.size)); clear hb7 hX7)
      | ((with_reducible refine step_build (t := 26) (parts := #[]) (ps := #[]) (v := ?bvcs) ?bgcs ?bocs ?bxcs ?brcs ?bhcs); (case bgcs => rfl); (case bocs => rfl); (case bxcs => simp); (case brcs => exact run_build_z _))
      | ((with_reducible refine step_store_run (t := 26) (x := .tmp 2) (y := .tmp 29) (p := ?spes) (v := ?sves) (w' := ?swes) ?sges ?soes ?sxes ?syes ?sres ?shes); (case sges => rfl); (case soes => rfl); (case sxes => rfl); (case syes => rfl); (case sres => exact HS6.out)))
    refine bodyPost_ret (results_op rfl _ _ R _ zop nv rfl (setRow_heap _ _ _ _ _ _ HX6.out) zid_len) rfl ⟨nv, by rw [HE.out]; rfl, ?_, ?_⟩
    · rw [HE.out]; exact (OwnI.nil _ (fun _ => True)).rdv (by decide) |>.1
    · exact below_row' HB6.out (by rw [HR.out]; exact Nat.le_refl _) _
end Go.Proofs.YtmaolmogccknbaaDoor.opn
