/-
  petrelref07.Of.
-/
import Derived.Test.YtmaolmogccknbaaDoorOppu
import Derived.Test.YtmaolmogccknbaaDoorRdn
namespace Go.Proofs.YtmaolmogccknbaaDoor.opn
open Go.RowKit Go.Proofs.YtmaolmogccknbaaDoor.mem Go.Proofs.YtmaolmogccknbaaDoor.sha Go.Proofs.YtmaolmogccknbaaDoor.ids

/-- what stands while a part is read: the operation so far, its refs of the call's own, the Reader, the result -/
def OfS (w : World) (R S : Nat) (o : Opn) (s : St) (wr : World) (v : Value) : Prop := Blk wr S 26 (opc o v).toArray ∧ OwnI wr (S < ·) v o.refs ∧ RdrS wr (R + 1) s ∧ Blk wr R 26 (opc zop nv).toArray ∧ Below w.heap.size w wr
theorem OfS.read {w : World} {R S : Nat} {o : Opn} {s s2 : St} {wr w2 : World} {v : Value} (h : OfS w R S o s wr v) (hRS : R + 1 < S) (hw : w.heap.size ≤ R) {F : Nat → Prop} (ht : Turn F wr w2) (hF : ∀ b, F b → b = R + 1 ∨ wr.heap.size ≤ b) (hr : RdrS w2 (R + 1) s2) : OfS w R S o s2 w2 v := by
  obtain ⟨h1, h2, h3, h4, h5⟩ := h
  have hS := h1.lt
  refine ⟨h1.turn ht fun hb => by rcases hF _ hb with e | e <;> omega, h2.turn ht fun k hk hb => ?_, hr, h4.turn ht fun hb => by rcases hF _ hb with e | e <;> omega, h5.trans (ht.below fun b hb => by rcases hF _ hb with e | e <;> have := h5.size <;> omega)⟩
  have a : S < k := h2.2.2 k hk
  have b := h2.lt hk
  rcases hF _ hb with e | e <;> omega
theorem OfS.put {w : World} {R S : Nat} {o o' : Opn} {s : St} {w2 w3 : World} {v : Value} (h : OfS w R S o s w2 v) (ht : Turn (· = S) w2 w3) (hS : Blk w3 S 26 (opc o' v).toArray) (hrefs : o'.refs = o.refs) (hRS : R + 1 < S := by assumption) (hw : w.heap.size ≤ R := by assumption) : OfS w R S o' s w3 v := by
  obtain ⟨h1, h2, h3, h4, h5⟩ := h
  refine ⟨hS, ?_, h3.turn ht (by omega), h4.turn ht (by omega), h5.trans (ht.below fun b hb => by omega)⟩
  rw [hrefs]
  exact h2.turn ht fun k hk e => by
    have a : S < k := h2.2.2 k hk
    omega

set_option maxHeartbeats 4000000 in
set_option maxRecDepth 100000 in
theorem of_any (s : ByteArray) (w : World) (hs : s.size ≤ 100000) :
    Calls Tryd.prog 21 #[.string s] w fun e w' => ∃ v, e = .returned (.tuple #[opv (ofL rise s.data.toList).1 v, .int .i64 (ofL rise s.data.toList).2]) ∧ RdV w' v (ofL rise s.data.toList).1.refs ∧ Below w.heap.size w w' := by
  obtain ⟨R, hR⟩ : ∃ S, S = w.heap.size := ⟨_, rfl⟩
  obtain ⟨w1, hw1⟩ : ∃ u, u = (w.alloc (.cells (opc zop nv).toArray 26)).alloc (.cells #[.string s, .int .i64 0] 86) := ⟨_, rfl⟩
  have hX : Blk w1 R 26 (opc zop nv).toArray := by rw [hw1, hR]; exact (Blk.new w _ _).alloc _
  have hG : RdrS w1 (R + 1) (s.data.toList, 0) := ⟨s, 0, by rw [hw1, hR]; exact Blk.at_ (by simp) _ _, rfl, fun _ => (oct.tx_eta s).symm⟩
  have hB : Below w.heap.size w w1 := by rw [hw1]; exact ((Below.refl _ _).alloc (Nat.le_refl _) _).alloc (by simp) _
  have hsz : w1.heap.size = R + 2 := by rw [hw1, hR]; simp
  obtain ⟨l, hl⟩ : ∃ l, l = s.data.toList := ⟨_, rfl⟩
  rw [← hl] at hG ⊢
  obtain ⟨st, hst⟩ : ∃ st, st = (rdN 1 (l, 0)).2 := ⟨_, rfl⟩
  obtain ⟨k, hk⟩ : ∃ k, k = (rdN 1 (l, 0)).1 := ⟨_, rfl⟩
  have HNUM := num1_s (R + 1) (l, 0) w1 hG
  rw [← hst, ← hk] at HNUM
  have HOF : Hid (ofL rise l = if st.2 ≠ 0 then (zop, st.2) else if has k = [] then (zop, 10) else
      if (if endE (parts (kop k) (has k) st).2 ≠ 0 then endE (parts (kop k) (has k) st).2 else check rise (parts (kop k) (has k) st).1) ≠ 0 then (zop, (if endE (parts (kop k) (has k) st).2 ≠ 0 then endE (parts (kop k) (has k) st).2 else check rise (parts (kop k) (has k) st).1)) else ((parts (kop k) (has k) st).1, 0)) := Lib.hid (by rw [hst, hk]; rfl)
  have HX := Lib.hid hX
  have HB := Lib.hid hB
  have HW := Lib.hid hw1
  have HR := Lib.hid hR
  have HSZ := Lib.hid hsz
  have HNUM := Lib.hid HNUM
  have HKR : Hid (0 ≤ k ∧ k < 256) := Lib.hid (by rw [hk]; exact ⟨rdN_nonneg _ _, rdN1_lt _⟩)
  clear hX hG hB hw1 hR hsz hl hst hk hs
  go_enter Tryd.func21, Tryd.ntmps21
  go_upto_region 2 with fail
  refine wp_at HW.out.symm ?_
  rw [← HR.out]
  clear HW
  go_cut [5] from 14 to 16 (fun p5 wx => ∃ S, p5 = .pointer (some ⟨S, 0, none⟩) ∧ R + 1 < S ∧ Blk wx S 26 (opc (kop k) nv).toArray ∧ RdrS wx (R + 1) st ∧ Blk wx R 26 (opc zop nv).toArray ∧ Below w.heap.size w wx)
  case first =>
    go_wp2_with (first
      | (go_at_call 58; (with_reducible refine HNUM.out.mono ?_); rintro e w2 ⟨rfl, hr2, ht2⟩; have hst2 := run_store_op (Blk.new w2 26 (opc zop nv).toArray) (opc_size _ _ zid_len) (kop k) nv (kop_ref k) nv_one)
      | ((with_reducible refine step_build (t := 26) (parts := #[(0, .tmp 15)]) (ps := ?bp1) (v := ?bv1) ?bg1 ?bo1 ?bx1 ?br1 ?bh1); (case bg1 => rfl); (case bo1 => rfl); (case bx1 => rfl); (case br1 => exact run_build_k _ k))
      | ((with_reducible refine step_store_run (t := 26) (x := .tmp 5) (y := .tmp 16) (p := ?sp1) (v := ?sv1) (w' := ?sw1) ?sg1 ?so1 ?sx1 ?sy1 ?sr1 ?sh1); (case sg1 => rfl); (case so1 => rfl); (case sx1 => rfl); (case sy1 => rfl); (case sr1 => exact hst2)))
    go_meet
    have hlt : R + 1 < w2.heap.size := hr2.lt
    have hX2 : Blk w2 R 26 (opc zop nv).toArray := HX.out.turn ht2 (by omega)
    have hT : Turn (w2.heap.size ≤ ·) w2 ((w2.alloc (.cells (opc zop nv).toArray 26)).setRow w2.heap.size (opc (kop k) nv).toArray) := ((Turn.refl (w2.heap.size ≤ ·) w2).alloc (fun _ h => h) _).trans ((turn_row _ _ _).mono fun b hb => by subst hb; exact Nat.le_refl _)
    have hb1 : Below w.heap.size w1 w2 := ht2.below fun b hb => by have := HR.out; omega
    have hb2 := hT.below (B := w.heap.size) fun b hb => by have := HR.out; omega
    exact ⟨w2.heap.size, rfl, hlt, setRow_heap _ _ _ _ _ _ (Blk.new w2 26 (opc zop nv).toArray), hr2.turn hT (by omega), hX2.turn hT (by omega), (HB.out.trans hb1).trans hb2⟩
  case rest =>
    obtain ⟨S, rfl, hRS, hS, hG, hX, hB⟩ := hcut
    have hE := hG.err
    clear HNUM HX HB HSZ
    have HS := Lib.hid hS
    have HG := Lib.hid hG
    have HX := Lib.hid hX
    have HB := Lib.hid hB
    clear hS hG hX hB
    by_cases h0 : st.2 = 0
    · rw [h0] at hE
      have c0 : wc.cell? ⟨S, 0, none⟩ = some (.int .i64 k) := (OpBlk.of HS.out (kop_ref k)).k
      have hhas := fun u => has_any k u
      obtain ⟨p, hp⟩ : ∃ p, p = hasB k := ⟨_, rfl⟩
      rw [← hp] at hhas
      have HHAS := Lib.hid hhas
      by_cases hh : has k = []
      · have HE : Hid (ofL rise l = (zop, 10)) := Lib.hid (by rw [HOF.out, if_neg (fun e => e h0), if_pos hh])
        have pE : p.toList.isEmpty = true := by rw [hp, has_none hh, ByteArray.toList_eq]; rfl
        have hrun := run_store_op HX.out (opc_size _ _ zid_len) zop nv zid_len nv_one
        have hst2 := setRow_heap wc R _ (opc zop nv).toArray _ _ HX.out
        have HRUN := Lib.hid hrun
        clear hrun hh h0 hhas hp HOF
        go_wp2_with (first
          | (go_at_call 41; with_reducible refine (HHAS.out _).mono ?_; rintro e w4 ⟨rfl, rfl⟩)
          | ((with_reducible refine step_build (t := 26) (parts := #[]) (ps := #[]) (v := ?bvz1) ?bgz1 ?boz1 ?bxz1 ?brz1 ?bhz1); (case bgz1 => rfl); (case boz1 => rfl); (case bxz1 => simp); (case brz1 => exact run_build_z _))
          | ((with_reducible refine step_store_run (t := 26) (x := .tmp 2) (y := .tmp 32) (p := ?spt1) (v := ?svt1) (w' := ?swt1) ?sgt1 ?sot1 ?sxt1 ?syt1 ?srt1 ?sht1); (case sgt1 => rfl); (case sot1 => rfl); (case sxt1 => rfl); (case syt1 => rfl); (case srt1 => exact HRUN.out)))
        refine bodyPost_ret (results_op rfl _ _ R _ zop nv rfl hst2 zid_len) rfl ⟨nv, by rw [HE.out]; rfl, ?_, ?_⟩
        · rw [HE.out]; exact (OwnI.nil _ (fun _ => True)).rdv (by decide) |>.1
        · exact below_row' HB.out (by rw [HR.out]; exact Nat.le_refl _) _
      · have HPS : Hid (p.size = (has k).length) := Lib.hid (by rw [hp, has_size])
        have pE : p.toList.isEmpty = false := by
          rw [hp, ByteArray.toList_eq]
          show ((has k).map chr).toArray.toList.isEmpty = false
          cases hk : has k with
          | nil => exact absurd hk hh
          | cons a t => rfl
        have HOF2 : Hid (ofL rise l = if (if endE (parts (kop k) (has k) st).2 ≠ 0 then endE (parts (kop k) (has k) st).2 else check rise (parts (kop k) (has k) st).1) ≠ 0 then (zop, (if endE (parts (kop k) (has k) st).2 ≠ 0 then endE (parts (kop k) (has k) st).2 else check rise (parts (kop k) (has k) st).1)) else ((parts (kop k) (has k) st).1, 0)) := Lib.hid (by rw [HOF.out, if_neg (fun e => e h0), if_neg hh])
        have HPP := Lib.hid hp
        have hof : OfS w R S (kop k) st wc nv := ⟨HS.out, OwnI.nil _ _, HG.out, HX.out, HB.out⟩
        have HOS := Lib.hid hof
        clear hh h0 hhas hp HOF hof
        go_wp2_with ((go_at_call 41; with_reducible refine (HHAS.out _).mono ?_; rintro e w4 ⟨rfl, rfl⟩))
        clear c0 hE HS HG HX HB HHAS
        go_loopw [7] (fun i wr => ∃ (j : Nat) (v : Value), j ≤ (has k).length ∧ i = .int .i64 (j : Int) ∧ OfS w R S (parts (kop k) ((has k).take j) st).1 (parts (kop k) ((has k).take j) st).2 wr v) (fun i _ => (has k).length - (intOf i).toNat)
        case atStart => exact ⟨0, nv, Nat.zero_le _, rfl, HOS.out⟩
        case round =>
          clear HOS
          obtain ⟨j, v, hj, rfl, hof⟩ := hrel
          have k0 : (0 : Int) ≤ (j : Int) := Int.natCast_nonneg _
          have hwR : w.heap.size ≤ R := by rw [HR.out]; exact Nat.le_refl _
          have HWR := Lib.hid hwR
          by_cases hlt : j < (has k).length
          · have kI : (j : Int) < (p.size : Int) := by rw [HPS.out]; omega
            have jI : (j : Int) < 3 := by have := has_len k; omega
            have hstep := parts_step (kop k) (has k) st j hlt
            have hk1 : (parts (kop k) ((has k).take j) st).1.k = k := parts_k _ _ _
            have hrf := parts_ref ((has k).take j) (kop_ref k) st
            have hnb := not_before (has_nodup k) hlt
            have hno : (has k)[j] = .S → (parts (kop k) ((has k).take j) st).1.refs = [] := fun e => by rw [e] at hnb; exact parts_norefs _ _ _ hnb
            have hix := fun u => strx.run_index_str p j (by rw [HPS.out]; exact hlt) u
            have hbyte : p.data.toList.getD j 0 = chr ((has k)[j]) := by rw [HPP.out]; exact has_chr k j hlt
            rw [hbyte] at hix
            obtain ⟨q, hq⟩ : ∃ q, (has k)[j] = q := ⟨_, rfl⟩
            rw [hq] at hix hstep hno
            obtain ⟨o1, ho1⟩ : ∃ o1, o1 = (parts (kop k) ((has k).take j) st).1 := ⟨_, rfl⟩
            obtain ⟨s1, hs1⟩ : ∃ s1, s1 = (parts (kop k) ((has k).take j) st).2 := ⟨_, rfl⟩
            rw [← ho1] at hof hk1 hrf hno hstep
            rw [← hs1] at hof hstep
            have HSTEP := Lib.hid hstep
            have HK1 := Lib.hid hk1
            have HRF := Lib.hid hrf
            have HNO := Lib.hid hno
            have HI := Lib.hid hix
            have HOF1 := Lib.hid hof
            have HJ := Lib.hid hj
            clear hstep hk1 hrf hno hix hof hj hnb hbyte hq ho1 hs1 hwR
            cases q with
            | N =>
              have hidx : ∀ u, (Instr.index 9 (.string p) (.int .i64 (j : Int))).run Tryd.prog u = .ok (.int .u8 78) u := fun u => by rw [HI.out u]; rfl
              obtain ⟨m, hm⟩ : ∃ m, m = (rdN 4 s1).1 := ⟨_, rfl⟩
              have HN4 := Lib.hid (num4_s (R + 1) s1 wr HOF1.out.2.2.1)
              rw [← hm] at HN4
              have m0 : 0 ≤ m := by rw [hm]; exact rdN_nonneg _ _
              have m1 : m < 4294967296 := by rw [hm]; exact rdN4_lt _
              have HPA : Hid (part o1 s1 .N = ({ o1 with n := m - off k }, (rdN 4 s1).2)) := Lib.hid (by rw [hm, ← HK1.out]; rfl)
              clear hm
              by_cases h1 : k = 1
              · subst h1
                go_wp2_with (go_at_call 58; (with_reducible refine HN4.out.mono ?_); rintro e w2 ⟨rfl, hr2, ht2⟩; have h2 := HOF1.out.read hRS HWR.out ht2 (fun b hb => .inl hb) hr2; have HO2 := Lib.hid h2; have c02 := (OpBlk.of h2.1 HRF.out).k; rw [HK1.out] at c02; have c12 := (OpBlk.of h2.1 HRF.out).n; have hf2 := h2.1.frozen 1; clear h2 hr2 ht2)
                exact ⟨⟨j + 1, v, hlt, by simp, by rw [HSTEP.out, HPA.out]; exact (HO2.out.put (((Turn.refl (· = S) w2).setCell rfl _).setCell rfl _) (opm_n (opm_n HO2.out.1 m) (m - 2147483648)) rfl)⟩, by simp [intOf]; omega⟩
              · have e1 : (k == 1) = false := beq_eq_false_iff_ne.2 h1
                have HOFF : Hid (off k = 0) := Lib.hid (if_neg h1)
                clear h1
                go_wp2_with (go_at_call 58; (with_reducible refine HN4.out.mono ?_); rintro e w2 ⟨rfl, hr2, ht2⟩; have h2 := HOF1.out.read hRS HWR.out ht2 (fun b hb => .inl hb) hr2; have HO2 := Lib.hid h2; have c02 := (OpBlk.of h2.1 HRF.out).k; rw [HK1.out] at c02; have c12 := (OpBlk.of h2.1 HRF.out).n; have hf2 := h2.1.frozen 1; clear h2 hr2 ht2)
                exact ⟨⟨j + 1, v, hlt, by simp, by rw [HSTEP.out, HPA.out, HOFF.out, Int.sub_zero]; exact (HO2.out.put ((Turn.refl (· = S) w2).setCell rfl _) (opm_n HO2.out.1 m) rfl)⟩, by simp [intOf]; omega⟩
            | K =>
              have hidx : ∀ u, (Instr.index 9 (.string p) (.int .i64 (j : Int))).run Tryd.prog u = .ok (.int .u8 75) u := fun u => by rw [HI.out u]; rfl
              obtain ⟨m, hm⟩ : ∃ m, m = (rdN 1 s1).1 := ⟨_, rfl⟩
              obtain ⟨s2, hs2⟩ : ∃ s2, s2 = (rdN 1 s1).2 := ⟨_, rfl⟩
              have HN1 := Lib.hid (num1_s (R + 1) s1 wr HOF1.out.2.2.1)
              rw [← hm, ← hs2] at HN1
              have m0 : 0 ≤ m := by rw [hm]; exact rdN_nonneg _ _
              have HPA : Hid (part o1 s1 .K = ({ o1 with key := (rd m.toNat s2).1 }, (rd m.toNat s2).2)) := Lib.hid (by rw [hm, hs2]; rfl)
              clear hm hs2
              obtain ⟨tx, htx⟩ : ∃ t, t = oct.tx (rd m.toNat s2).1 := ⟨_, rfl⟩
              have HTX := Lib.hid htx
              clear htx
              go_wp2_with (first
                | (go_at_call 58; (with_reducible refine HN1.out.mono ?_); rintro e w2 ⟨rfl, hr2, ht2⟩; have h2 := HOF1.out.read hRS HWR.out ht2 (fun b hb => .inl hb) hr2; have HO2 := Lib.hid h2; have HRAW := raw_s (R + 1) s2 m m0 w2 h2.2.2.1; rw [← HTX.out] at HRAW; have HRAW := Lib.hid HRAW; clear h2 hr2 ht2)
                | (go_at_call 59; (with_reducible refine HRAW.out.mono ?_); rintro e w3 ⟨rfl, hr3, ht3⟩; have h3 := HO2.out.read hRS HWR.out ht3 (fun b hb => .inl hb) hr3; have HO3 := Lib.hid h3; have c13 := (OpBlk.of h3.1 HRF.out).key; have hf3 := h3.1.frozen 2; clear h3 hr3 ht3))
              exact ⟨⟨j + 1, v, hlt, by simp, by rw [HSTEP.out, HPA.out, HTX.out]; exact (HO3.out.put ((Turn.refl (· = S) w3).setCell rfl _) (opm_key HO3.out.1 (rd m.toNat s2).1) rfl)⟩, by simp [intOf]; omega⟩
            | V =>
              have hidx : ∀ u, (Instr.index 9 (.string p) (.int .i64 (j : Int))).run Tryd.prog u = .ok (.int .u8 86) u := fun u => by rw [HI.out u]; rfl
              obtain ⟨m, hm⟩ : ∃ m, m = (rdN 1 s1).1 := ⟨_, rfl⟩
              obtain ⟨s2, hs2⟩ : ∃ s2, s2 = (rdN 1 s1).2 := ⟨_, rfl⟩
              have HN1 := Lib.hid (num1_s (R + 1) s1 wr HOF1.out.2.2.1)
              rw [← hm, ← hs2] at HN1
              have m0 : 0 ≤ m := by rw [hm]; exact rdN_nonneg _ _
              have HPA : Hid (part o1 s1 .V = ({ o1 with val := (rd m.toNat s2).1 }, (rd m.toNat s2).2)) := Lib.hid (by rw [hm, hs2]; rfl)
              clear hm hs2
              obtain ⟨tx, htx⟩ : ∃ t, t = oct.tx (rd m.toNat s2).1 := ⟨_, rfl⟩
              have HTX := Lib.hid htx
              clear htx
              go_wp2_with (first
                | (go_at_call 58; (with_reducible refine HN1.out.mono ?_); rintro e w2 ⟨rfl, hr2, ht2⟩; have h2 := HOF1.out.read hRS HWR.out ht2 (fun b hb => .inl hb) hr2; have HO2 := Lib.hid h2; have HRAW := raw_s (R + 1) s2 m m0 w2 h2.2.2.1; rw [← HTX.out] at HRAW; have HRAW := Lib.hid HRAW; clear h2 hr2 ht2)
                | (go_at_call 59; (with_reducible refine HRAW.out.mono ?_); rintro e w3 ⟨rfl, hr3, ht3⟩; have h3 := HO2.out.read hRS HWR.out ht3 (fun b hb => .inl hb) hr3; have HO3 := Lib.hid h3; have c13 := (OpBlk.of h3.1 HRF.out).val; have hf3 := h3.1.frozen 3; clear h3 hr3 ht3))
              exact ⟨⟨j + 1, v, hlt, by simp, by rw [HSTEP.out, HPA.out, HTX.out]; exact (HO3.out.put ((Turn.refl (· = S) w3).setCell rfl _) (opm_val HO3.out.1 (rd m.toNat s2).1) rfl)⟩, by simp [intOf]; omega⟩
            | R =>
              have hidx : ∀ u, (Instr.index 9 (.string p) (.int .i64 (j : Int))).run Tryd.prog u = .ok (.int .u8 82) u := fun u => by rw [HI.out u]; rfl
              have HID := Lib.hid (id_s (fun b => b = R + 1 ∨ wr.heap.size ≤ b) (R + 1) s1 wr HOF1.out.2.2.1 (.inl rfl) (fun b hb => .inr hb))
              go_wp2_with (first
                | (go_at_call 60; (with_reducible refine HID.out.mono ?_); rintro e w2 ⟨rfl, hr2, ht2⟩; have h2 := HOF1.out.read hRS HWR.out ht2 (fun b hb => hb) hr2; have HO2 := Lib.hid h2; have hrun := opm_ref h2.1 HRF.out (rdI s1).1 (rdI_len s1); have HRUN := Lib.hid hrun; clear h2 hr2 ht2 hrun)
                | ((with_reducible refine step_store_run (t := 23) (x := .tmp 86) (y := .tmp 85) (p := ?spid1) (v := ?svid1) (w' := ?swid1) ?sgid1 ?soid1 ?sxid1 ?syid1 ?srid1 ?shid1); (case sgid1 => rfl); (case soid1 => rfl); (case sxid1 => rfl); (case syid1 => rfl); (case srid1 => exact HRUN.out)))
              exact ⟨⟨j + 1, v, hlt, by simp, by rw [HSTEP.out]; exact (HO2.out.put (turn_row w2 S _) (setRow_heap w2 S _ _ _ _ HO2.out.1) rfl)⟩, by simp [intOf]; omega⟩
            | S =>
              have hidx : ∀ u, (Instr.index 9 (.string p) (.int .i64 (j : Int))).run Tryd.prog u = .ok (.int .u8 83) u := fun u => by rw [HI.out u]; rfl
              obtain ⟨m, hm⟩ : ∃ m, m = (rdN 1 s1).1 := ⟨_, rfl⟩
              obtain ⟨s2, hs2⟩ : ∃ s2, s2 = (rdN 1 s1).2 := ⟨_, rfl⟩
              have HN1 := Lib.hid (num1_s (R + 1) s1 wr HOF1.out.2.2.1)
              rw [← hm, ← hs2] at HN1
              have m0 : 0 ≤ m := by rw [hm]; exact rdN_nonneg _ _
              have m1 : m < 256 := by rw [hm]; exact rdN1_lt _
              have HPA : Hid (part o1 s1 .S = ({ o1 with refs := (rdL m.toNat s2).1 }, (rdL m.toNat s2).2)) := Lib.hid (by rw [hm, hs2]; rfl)
              have HNIL : Hid (o1 = { o1 with refs := [] }) := Lib.hid (by have := HNO.out rfl; cases o1; simp only at this; subst this; rfl)
              clear hm hs2
              go_wp2_with (go_at_call 58; (with_reducible refine HN1.out.mono ?_); rintro e w2 ⟨rfl, hr2, ht2⟩; have h2 := HOF1.out.read hRS HWR.out ht2 (fun b hb => .inl hb) hr2; rw [HNIL.out] at h2; have HO2 := Lib.hid h2; clear h2 hr2 ht2)
              go_loopw [9] (fun kk wr2 => ∃ (i : Nat) (v : Value), (i : Int) ≤ m ∧ kk = .int .i64 (i : Int) ∧ OfS w R S { o1 with refs := (rdL i s2).1 } (rdL i s2).2 wr2 v) (fun kk _ => m.toNat - (intOf kk).toNat)
              case atStart => exact ⟨0, v, m0, rfl, HO2.out⟩
              case round =>
                obtain ⟨i, v, hi, rfl, ho⟩ := hrel
                have i0 : (0 : Int) ≤ (i : Int) := Int.natCast_nonneg _
                by_cases hin : (i : Int) < m
                · go_upto_region 16 with fail
                  have hin : ((i + 1 : Nat) : Int) ≤ m := by omega
                  have hod : OfS w R S { o1 with refs := (rdL i s2).1 } (rdL i s2).2 wr.drew v := ho.read hRS HWR.out (Turn.drew (Turn.refl (fun _ => False) wr)) (fun b hb => hb.elim) (ho.2.2.1.turn (Turn.drew (Turn.refl (fun _ => False) wr)) (fun h => h))
                  have c36 := (OpBlk.of hod.1 HRF.out).refs
                  have HGD := Lib.hid hod.2.2.1
                  have HOD := Lib.hid hod
                  have HEQ : ∀ v' u, OfS w R S { o1 with refs := (rdL i s2).1 ++ [(rdI (rdL i s2).2).1] } (rdI (rdL i s2).2).2 u v' → OfS w R S { o1 with refs := (rdL (i + 1) s2).1 } (rdL (i + 1) s2).2 u v' := fun v' u h => by rw [rdL_snoc]; exact h
                  have HEQ := Lib.hid HEQ
                  clear ho hod hi
                  refine wp_region_any (by kernel_rfl) ?_
                  refine' wpAny_take (i := 0) ?hizr10 (by kernel_rfl) (by kernel_rfl) (by kernel_rfl) ?hqzr10 (Or.inl ⟨?hwzr10, ?hyzr10⟩) ?hrzr10
                  case hizr10 => (simp only [List.getElem?_toArray, List.getElem?_cons_succ, List.getElem?_cons_zero]; rfl)
                  case hqzr10 => exact fun _ _ _ h => h
                  case hwzr10 => rfl
                  case hyzr10 => (intro w0; go_simp; try with_reducible rfl)
                  (try simp only [Act.put, List.setIfInBounds_toArray, List.set_cons_zero, List.set_cons_succ])
                  refine' wpAny_take (i := 2) ?hizr11 (by kernel_rfl) (by kernel_rfl) (by kernel_rfl) ?hqzr11 (Or.inl ⟨?hwzr11, ?hyzr11⟩) ?hrzr11
                  case hizr11 => (simp only [List.getElem?_toArray, List.getElem?_cons_succ, List.getElem?_cons_zero]; rfl)
                  case hqzr11 => exact fun _ _ _ h => h
                  case hwzr11 => rfl
                  case hyzr11 => (intro w0; go_simp; try with_reducible rfl)
                  (try simp only [Act.put, List.setIfInBounds_toArray, List.set_cons_zero, List.set_cons_succ])
                  refine wpAny_ready (rs := [1, 3]) (by kernel_rfl) (by simp) ?_
                  refine' AllReady.cons ?hazr26 (fun K hK => ?hczr26) (AllReady.cons ?hbzr26 (fun K hK => ?hdzr26) AllReady.nil)
                  case hazr26 => (simp only [List.getElem?_toArray, List.getElem?_cons_succ, List.getElem?_cons_zero]; rfl)
                  case hbzr26 => (simp only [List.getElem?_toArray, List.getElem?_cons_succ, List.getElem?_cons_zero]; rfl)
                  case hczr26 =>
                    go_simp
                    refine hK _ _ ?_
                    clear hK K
                    (try simp only [Act.put, List.setIfInBounds_toArray, List.set_cons_zero, List.set_cons_succ])
                    refine wpAny_ready (rs := [3]) (by kernel_rfl) (by simp) ?_
                    refine' AllReady.cons ?hizr12 (fun K hK => ?hrzr12) AllReady.nil
                    case hizr12 => (simp only [List.getElem?_toArray, List.getElem?_cons_succ, List.getElem?_cons_zero]; rfl)
                    go_simp
                    (refine (id_s (fun b => b = R + 1 ∨ wr.drew.heap.size ≤ b) (R + 1) (rdL i s2).2 wr.drew HGD.out (.inl rfl) (fun b hb => .inr hb)).mono ?_; rintro e w3 ⟨rfl, hr3, ht3⟩)
                    have h3 := HOD.out.read hRS HWR.out ht3 (fun b hb => hb) hr3
                    have c36b := (OpBlk.of h3.1 HRF.out).refs
                    refine hK _ _ ?_
                    clear hK K
                    (try simp only [Act.put, List.setIfInBounds_toArray, List.set_cons_zero, List.set_cons_succ])
                    refine wpAny_ready (rs := [4]) (by kernel_rfl) (by simp) ?_
                    refine' AllReady.cons ?hizr13 (fun K hK => ?hrzr13) AllReady.nil
                    case hizr13 => (simp only [List.getElem?_toArray, List.getElem?_cons_succ, List.getElem?_cons_zero]; rfl)
                    refine want_build1 (y := (rdI (rdL i s2).2).1) rfl rfl rfl (rdI_len _) (hK _ _ ?_)
                    clear hK K
                    (try simp only [Act.put, List.setIfInBounds_toArray, List.set_cons_zero, List.set_cons_succ])
                    obtain ⟨v', w4, hap, hsr, hS', ho', ht'⟩ := push_s w3 h3.1 HRF.out h3.2.1 (rdI_len (rdL i s2).2) (by rw [rdL_len]; omega) 24
                    have hR' := h3.2.2.1.turn ht' (by omega)
                    have hX' := h3.2.2.2.1.turn ht' (by omega)
                    have hB' := h3.2.2.2.2.trans (ht'.below fun b hb => by have := HWR.out; omega)
                    refine wpAny_ready (rs := [5]) (by kernel_rfl) (by simp) ?_
                    refine' AllReady.cons ?hizr14 (fun K hK => ?hrzr14) AllReady.nil
                    case hizr14 => (simp only [List.getElem?_toArray, List.getElem?_cons_succ, List.getElem?_cons_zero]; rfl)
                    refine want_append rfl rfl rfl rfl hap (hK _ _ ?_)
                    clear hK K
                    (try simp only [Act.put, List.setIfInBounds_toArray, List.set_cons_zero, List.set_cons_succ])
                    refine' wpAny_take (i := 6) ?hizr15 (by kernel_rfl) (by kernel_rfl) (by kernel_rfl) ?hqzr15 (Or.inl ⟨?hwzr15, ?hyzr15⟩) ?hrzr15
                    case hizr15 => (simp only [List.getElem?_toArray, List.getElem?_cons_succ, List.getElem?_cons_zero]; rfl)
                    case hqzr15 => exact fun _ _ _ h => h
                    case hwzr15 => rfl
                    case hyzr15 => (intro w0; go_simp; try with_reducible rfl)
                    (try simp only [Act.put, List.setIfInBounds_toArray, List.set_cons_zero, List.set_cons_succ])
                    refine wpAny_ready (rs := [7]) (by kernel_rfl) (by simp) ?_
                    refine' AllReady.cons ?hizr16 (fun K hK => ?hrzr16) AllReady.nil
                    case hizr16 => (simp only [List.getElem?_toArray, List.getElem?_cons_succ, List.getElem?_cons_zero]; rfl)
                    refine want_store_run rfl rfl rfl rfl hsr (hK _ _ ?_)
                    clear hK K
                    (try simp only [Act.put, List.setIfInBounds_toArray, List.set_cons_zero, List.set_cons_succ])
                    refine wpAny_done (by kernel_rfl) ?_ _
                    go_wp2_with fail
                    exact ⟨⟨i + 1, v', hin, by push_cast; rfl, HEQ.out v' _ ⟨hS', ho', hR', hX', hB'⟩⟩, by simp [intOf]; omega⟩
                  case hdzr26 =>
                    go_simp
                    (refine (id_s (fun b => b = R + 1 ∨ wr.drew.heap.size ≤ b) (R + 1) (rdL i s2).2 wr.drew HGD.out (.inl rfl) (fun b hb => .inr hb)).mono ?_; rintro e w3 ⟨rfl, hr3, ht3⟩)
                    have h3 := HOD.out.read hRS HWR.out ht3 (fun b hb => hb) hr3
                    have c36b := (OpBlk.of h3.1 HRF.out).refs
                    refine hK _ _ ?_
                    clear hK K
                    (try simp only [Act.put, List.setIfInBounds_toArray, List.set_cons_zero, List.set_cons_succ])
                    refine wpAny_ready (rs := [1, 4]) (by kernel_rfl) (by simp) ?_
                    refine' AllReady.cons ?hazr25 (fun K hK => ?hczr25) (AllReady.cons ?hbzr25 (fun K hK => ?hdzr25) AllReady.nil)
                    case hazr25 => (simp only [List.getElem?_toArray, List.getElem?_cons_succ, List.getElem?_cons_zero]; rfl)
                    case hbzr25 => (simp only [List.getElem?_toArray, List.getElem?_cons_succ, List.getElem?_cons_zero]; rfl)
                    case hczr25 =>
                      go_simp
                      refine hK _ _ ?_
                      clear hK K
                      (try simp only [Act.put, List.setIfInBounds_toArray, List.set_cons_zero, List.set_cons_succ])
                      refine wpAny_ready (rs := [4]) (by kernel_rfl) (by simp) ?_
                      refine' AllReady.cons ?hizr17 (fun K hK => ?hrzr17) AllReady.nil
                      case hizr17 => (simp only [List.getElem?_toArray, List.getElem?_cons_succ, List.getElem?_cons_zero]; rfl)
                      refine want_build1 (y := (rdI (rdL i s2).2).1) rfl rfl rfl (rdI_len _) (hK _ _ ?_)
                      clear hK K
                      (try simp only [Act.put, List.setIfInBounds_toArray, List.set_cons_zero, List.set_cons_succ])
                      obtain ⟨v', w4, hap, hsr, hS', ho', ht'⟩ := push_s w3 h3.1 HRF.out h3.2.1 (rdI_len (rdL i s2).2) (by rw [rdL_len]; omega) 24
                      have hR' := h3.2.2.1.turn ht' (by omega)
                      have hX' := h3.2.2.2.1.turn ht' (by omega)
                      have hB' := h3.2.2.2.2.trans (ht'.below fun b hb => by have := HWR.out; omega)
                      refine wpAny_ready (rs := [5]) (by kernel_rfl) (by simp) ?_
                      refine' AllReady.cons ?hizr18 (fun K hK => ?hrzr18) AllReady.nil
                      case hizr18 => (simp only [List.getElem?_toArray, List.getElem?_cons_succ, List.getElem?_cons_zero]; rfl)
                      refine want_append rfl rfl rfl rfl hap (hK _ _ ?_)
                      clear hK K
                      (try simp only [Act.put, List.setIfInBounds_toArray, List.set_cons_zero, List.set_cons_succ])
                      refine' wpAny_take (i := 6) ?hizr19 (by kernel_rfl) (by kernel_rfl) (by kernel_rfl) ?hqzr19 (Or.inl ⟨?hwzr19, ?hyzr19⟩) ?hrzr19
                      case hizr19 => (simp only [List.getElem?_toArray, List.getElem?_cons_succ, List.getElem?_cons_zero]; rfl)
                      case hqzr19 => exact fun _ _ _ h => h
                      case hwzr19 => rfl
                      case hyzr19 => (intro w0; go_simp; try with_reducible rfl)
                      (try simp only [Act.put, List.setIfInBounds_toArray, List.set_cons_zero, List.set_cons_succ])
                      refine wpAny_ready (rs := [7]) (by kernel_rfl) (by simp) ?_
                      refine' AllReady.cons ?hizr20 (fun K hK => ?hrzr20) AllReady.nil
                      case hizr20 => (simp only [List.getElem?_toArray, List.getElem?_cons_succ, List.getElem?_cons_zero]; rfl)
                      refine want_store_run rfl rfl rfl rfl hsr (hK _ _ ?_)
                      clear hK K
                      (try simp only [Act.put, List.setIfInBounds_toArray, List.set_cons_zero, List.set_cons_succ])
                      refine wpAny_done (by kernel_rfl) ?_ _
                      go_wp2_with fail
                      exact ⟨⟨i + 1, v', hin, by push_cast; rfl, HEQ.out v' _ ⟨hS', ho', hR', hX', hB'⟩⟩, by simp [intOf]; omega⟩
                    case hdzr25 =>
                      refine want_build1 (y := (rdI (rdL i s2).2).1) rfl rfl rfl (rdI_len _) (hK _ _ ?_)
                      clear hK K
                      (try simp only [Act.put, List.setIfInBounds_toArray, List.set_cons_zero, List.set_cons_succ])
                      have c36c := (OpBlk.of (h3.1.alloc (.cells (bv (rdI (rdL i s2).2).1).toArray 23)) HRF.out).refs
                      refine wpAny_ready (rs := [1]) (by kernel_rfl) (by simp) ?_
                      refine' AllReady.cons ?hizr21 (fun K hK => ?hrzr21) AllReady.nil
                      case hizr21 => (simp only [List.getElem?_toArray, List.getElem?_cons_succ, List.getElem?_cons_zero]; rfl)
                      go_simp
                      refine hK _ _ ?_
                      clear hK K
                      (try simp only [Act.put, List.setIfInBounds_toArray, List.set_cons_zero, List.set_cons_succ])
                      obtain ⟨v', w4, hap, hsr, hS', ho', ht'⟩ := push_s w3 h3.1 HRF.out h3.2.1 (rdI_len (rdL i s2).2) (by rw [rdL_len]; omega) 24
                      have hR' := h3.2.2.1.turn ht' (by omega)
                      have hX' := h3.2.2.2.1.turn ht' (by omega)
                      have hB' := h3.2.2.2.2.trans (ht'.below fun b hb => by have := HWR.out; omega)
                      refine wpAny_ready (rs := [5]) (by kernel_rfl) (by simp) ?_
                      refine' AllReady.cons ?hizr22 (fun K hK => ?hrzr22) AllReady.nil
                      case hizr22 => (simp only [List.getElem?_toArray, List.getElem?_cons_succ, List.getElem?_cons_zero]; rfl)
                      refine want_append rfl rfl rfl rfl hap (hK _ _ ?_)
                      clear hK K
                      (try simp only [Act.put, List.setIfInBounds_toArray, List.set_cons_zero, List.set_cons_succ])
                      refine' wpAny_take (i := 6) ?hizr23 (by kernel_rfl) (by kernel_rfl) (by kernel_rfl) ?hqzr23 (Or.inl ⟨?hwzr23, ?hyzr23⟩) ?hrzr23
                      case hizr23 => (simp only [List.getElem?_toArray, List.getElem?_cons_succ, List.getElem?_cons_zero]; rfl)
                      case hqzr23 => exact fun _ _ _ h => h
                      case hwzr23 => rfl
                      case hyzr23 => (intro w0; go_simp; try with_reducible rfl)
                      (try simp only [Act.put, List.setIfInBounds_toArray, List.set_cons_zero, List.set_cons_succ])
                      refine wpAny_ready (rs := [7]) (by kernel_rfl) (by simp) ?_
                      refine' AllReady.cons ?hizr24 (fun K hK => ?hrzr24) AllReady.nil
                      case hizr24 => (simp only [List.getElem?_toArray, List.getElem?_cons_succ, List.getElem?_cons_zero]; rfl)
                      refine want_store_run rfl rfl rfl rfl hsr (hK _ _ ?_)
                      clear hK K
                      (try simp only [Act.put, List.setIfInBounds_toArray, List.set_cons_zero, List.set_cons_succ])
                      refine wpAny_done (by kernel_rfl) ?_ _
                      go_wp2_with fail
                      exact ⟨⟨i + 1, v', hin, by push_cast; rfl, HEQ.out v' _ ⟨hS', ho', hR', hX', hB'⟩⟩, by simp [intOf]; omega⟩
                · obtain rfl : m = (i : Int) := by omega
                  rw [Int.toNat_natCast] at HPA
                  have HO := Lib.hid ho
                  clear ho hi hin
                  go_wp2_with fail
                  exact ⟨⟨j + 1, v, hlt, by simp, by rw [HSTEP.out, HPA.out]; exact HO.out⟩, by simp [intOf]; omega⟩
          · obtain rfl : j = (has k).length := by omega
            rw [List.take_length] at hof
            have kI : (p.size : Int) ≤ (((has k).length : Nat) : Int) := by rw [HPS.out]; exact Int.le_refl _
            have hrf := parts_ref (has k) (kop_ref k) st
            have hrl := parts_refs (has k) (o := kop k) (Nat.zero_le _) st
            obtain ⟨o1, ho1⟩ : ∃ o1, o1 = (parts (kop k) (has k) st).1 := ⟨_, rfl⟩
            obtain ⟨s1, hs1⟩ : ∃ s1, s1 = (parts (kop k) (has k) st).2 := ⟨_, rfl⟩
            have hof2 := HOF2.out
            rw [← ho1] at hof hrf hrl hof2
            rw [← hs1] at hof hof2
            have HEND := Lib.hid (end_s (R + 1) s1 wr hof.2.2.1)
            have hrd := (hof.2.1.rdv (by omega)).1
            have HCK := Lib.hid (check_any o1 v wr hrf hrd (by omega))
            have HRD := Lib.hid hrd
            have HLD := Lib.hid (run_load_op hof.1 hrf)
            have hrun := run_store_op hof.2.2.2.1 (opc_size _ _ zid_len) zop nv zid_len nv_one
            have HRUN := Lib.hid hrun
            have hst2 := setRow_heap wr R _ (opc zop nv).toArray _ _ hof.2.2.2.1
            have HST2 := Lib.hid hst2
            have HOFF := Lib.hid hof
            have HRFF := Lib.hid hrf
            have HRL := Lib.hid hrl
            obtain ⟨en, hen⟩ : ∃ en, en = endE s1 := ⟨_, rfl⟩
            rw [← hen] at HEND hof2
            have HOF3 := Lib.hid hof2
            clear hlt hj hof hrf hrl hof2 hrd hrun hst2 ho1 hs1 hen hwR HOF2
            by_cases h0 : en = 0
            · subst h0
              obtain ⟨c, hc⟩ : ∃ c, c = check rise o1 := ⟨_, rfl⟩
              have HOF4 : Hid (ofL rise l = if c ≠ 0 then (zop, c) else (o1, 0)) := Lib.hid (by rw [HOF3.out, hc]; rfl)
              rw [← hc] at HCK
              clear hc HOF3
              by_cases hc0 : c = 0
              · subst hc0
                have HE : Hid (ofL rise l = (o1, 0)) := Lib.hid (by rw [HOF4.out]; rfl)
                clear HOF4
                go_wp2_with (first
                  | (go_at_call 61; with_reducible refine HEND.out.mono ?_; rintro e w5 ⟨rfl, rfl⟩)
                  | ((with_reducible refine step_load (t := 26) (x := .tmp 5) (p := ?lpl91) (v := ?lvl91) ?lgl91 ?lol91 ?lxl91 ?lrl91 ?lhl91); (case lgl91 => rfl); (case lol91 => rfl); (case lxl91 => rfl); (case lrl91 => exact HLD.out))
                  | (go_at_call 15; (with_reducible refine HCK.out.mono ?_); rintro e w6 ⟨rfl, hb6⟩; have hX6 := HOFF.out.2.2.2.1.below hb6 HOFF.out.2.2.2.1.lt; have hS6 := HOFF.out.1.below hb6 HOFF.out.1.lt; have hv1 : v.oneCell' = true := (by obtain ⟨ad, cap, hvf, -, -⟩ := HOFF.out.2.1.form; rw [hvf]; rfl); have hld6 := run_load_op hS6 HRFF.out; have hrun6 := run_store_op hX6 (opc_size _ _ zid_len) o1 v HRFF.out hv1; have hst6 := setRow_heap w6 R _ (opc o1 v).toArray _ _ hX6)
                  | ((with_reducible refine step_load (t := 26) (x := .tmp 5) (p := ?lpl97) (v := ?lvl97) ?lgl97 ?lol97 ?lxl97 ?lrl97 ?lhl97); (case lgl97 => rfl); (case lol97 => rfl); (case lxl97 => rfl); (case lrl97 => exact hld6))
                  | ((with_reducible refine step_store_run (t := 26) (x := .tmp 2) (y := .tmp 97) (p := ?spt97) (v := ?svt97) (w' := ?swt97) ?sgt97 ?sot97 ?sxt97 ?syt97 ?srt97 ?sht97); (case sgt97 => rfl); (case sot97 => rfl); (case sxt97 => rfl); (case syt97 => rfl); (case srt97 => exact hrun6)))
                refine bodyPost_ret (results_op rfl _ _ R _ o1 v rfl hst6 HRFF.out) rfl ⟨v, by rw [HE.out]; rfl, ?_, ?_⟩
                · rw [HE.out]
                  have h1 := (HOFF.out.2.1.below hb6).turn (turn_row w6 R (opc o1 v).toArray) fun b hb hbR => by
                    have h2 : S < b := HOFF.out.2.1.2.2 b hb
                    omega
                  exact (h1.rdv (by have := HRL.out; omega)).1
                · exact below_row' (HOFF.out.2.2.2.2.trans (hb6.mono HOFF.out.2.2.2.2.size)) (by rw [HR.out]; exact Nat.le_refl _) _
              · have hc1 : (c == 0) = false := beq_eq_false_iff_ne.2 hc0
                have hc2 : (c != 0) = true := bne_iff_ne.2 hc0
                have HE : Hid (ofL rise l = (zop, c)) := Lib.hid (by rw [HOF4.out, if_pos hc0])
                clear HOF4 hc0
                go_wp2_with (first
                  | (go_at_call 61; with_reducible refine HEND.out.mono ?_; rintro e w5 ⟨rfl, rfl⟩)
                  | ((with_reducible refine step_load (t := 26) (x := .tmp 5) (p := ?lpl92) (v := ?lvl92) ?lgl92 ?lol92 ?lxl92 ?lrl92 ?lhl92); (case lgl92 => rfl); (case lol92 => rfl); (case lxl92 => rfl); (case lrl92 => exact HLD.out))
                  | (go_at_call 15; (with_reducible refine HCK.out.mono ?_); rintro e w6 ⟨rfl, hb6⟩; have hX6 := HOFF.out.2.2.2.1.below hb6 HOFF.out.2.2.2.1.lt; have hrun6 := run_store_op hX6 (opc_size _ _ zid_len) zop nv zid_len nv_one; have hst2 := setRow_heap w6 R _ (opc zop nv).toArray _ _ hX6)
                  | ((with_reducible refine step_build (t := 26) (parts := #[]) (ps := #[]) (v := ?bvz2) ?bgz2 ?boz2 ?bxz2 ?brz2 ?bhz2); (case bgz2 => rfl); (case boz2 => rfl); (case bxz2 => simp); (case brz2 => exact run_build_z _))
                  | ((with_reducible refine step_store_run (t := 26) (x := .tmp 2) (y := .tmp 95) (p := ?spt2) (v := ?svt2) (w' := ?swt2) ?sgt2 ?sot2 ?sxt2 ?syt2 ?srt2 ?sht2); (case sgt2 => rfl); (case sot2 => rfl); (case sxt2 => rfl); (case syt2 => rfl); (case srt2 => exact hrun6)))
                refine bodyPost_ret (results_op rfl _ _ R _ zop nv rfl hst2 zid_len) rfl ⟨nv, by rw [HE.out]; rfl, ?_, ?_⟩
                · rw [HE.out]; exact (OwnI.nil _ (fun _ => True)).rdv (by decide) |>.1
                · exact below_row' (HOFF.out.2.2.2.2.trans (hb6.mono HOFF.out.2.2.2.2.size)) (by rw [HR.out]; exact Nat.le_refl _) _
            · have hc1 : (en == 0) = false := beq_eq_false_iff_ne.2 h0
              have hc2 : (en != 0) = true := bne_iff_ne.2 h0
              have HE : Hid (ofL rise l = (zop, en)) := Lib.hid (by rw [HOF3.out, if_pos h0, if_pos h0])
              have hst2 := HST2.out
              clear HOF3 h0
              go_wp2_with (first
                | (go_at_call 61; with_reducible refine HEND.out.mono ?_; rintro e w5 ⟨rfl, rfl⟩)
                | ((with_reducible refine step_build (t := 26) (parts := #[]) (ps := #[]) (v := ?bvz3) ?bgz3 ?boz3 ?bxz3 ?brz3 ?bhz3); (case bgz3 => rfl); (case boz3 => rfl); (case bxz3 => simp); (case brz3 => exact run_build_z _))
                | ((with_reducible refine step_store_run (t := 26) (x := .tmp 2) (y := .tmp 95) (p := ?spt3) (v := ?svt3) (w' := ?swt3) ?sgt3 ?sot3 ?sxt3 ?syt3 ?srt3 ?sht3); (case sgt3 => rfl); (case sot3 => rfl); (case sxt3 => rfl); (case syt3 => rfl); (case srt3 => exact HRUN.out)))
              refine bodyPost_ret (results_op rfl _ _ R _ zop nv rfl hst2 zid_len) rfl ⟨nv, by rw [HE.out]; rfl, ?_, ?_⟩
              · rw [HE.out]; exact (OwnI.nil _ (fun _ => True)).rdv (by decide) |>.1
              · exact below_row' HOFF.out.2.2.2.2 (by rw [HR.out]; exact Nat.le_refl _) _
    · have hE1 : (st.2 != 0) = true := bne_iff_ne.2 h0
      have HE : Hid (ofL rise l = (zop, st.2)) := Lib.hid (by rw [HOF.out, if_pos h0])
      obtain ⟨er, her⟩ : ∃ er, er = st.2 := ⟨_, rfl⟩
      rw [← her] at hE hE1 HE
      clear h0 HOF
      go_upto_region 4 with fail
      have hrun := run_store_op (w := wc.drew) HX.out (opc_size _ _ zid_len) zop nv zid_len nv_one
      have hst2 := setRow_heap wc.drew R _ (opc zop nv).toArray _ _ HX.out
      have HRUN := Lib.hid hrun
      have hE2 := (HG.out.turn (((Turn.refl (· = R) wc).drew).trans (turn_row wc.drew R (opc zop nv).toArray)) (by omega)).err
      rw [← her] at hE2
      clear hrun her
      refine wp_region_any (by kernel_rfl) ?_
      refine' wpAny_take (i := 0) ?hiza1 (by kernel_rfl) (by kernel_rfl) (by kernel_rfl) ?hqza1 (Or.inl ⟨?hwza1, ?hyza1⟩) ?hrza1
      case hiza1 => (simp only [List.getElem?_toArray, List.getElem?_cons_succ, List.getElem?_cons_zero]; rfl)
      case hqza1 => exact fun _ _ _ h => h
      case hwza1 => rfl
      case hyza1 => exact fun w0 => exec_build (ps := #[]) rfl (by simp) (run_build_z w0)
      (try simp only [Act.put, List.setIfInBounds_toArray, List.set_cons_zero, List.set_cons_succ])
      refine' wpAny_take (i := 1) ?hiza2 (by kernel_rfl) (by kernel_rfl) (by kernel_rfl) ?hqza2 (Or.inl ⟨?hwza2, ?hyza2⟩) ?hrza2
      case hiza2 => (simp only [List.getElem?_toArray, List.getElem?_cons_succ, List.getElem?_cons_zero]; rfl)
      case hqza2 => exact fun _ _ _ h => h
      case hwza2 => rfl
      case hyza2 => (intro w0; go_simp; try with_reducible rfl)
      (try simp only [Act.put, List.setIfInBounds_toArray, List.set_cons_zero, List.set_cons_succ])
      refine' wpAny_take (i := 2) ?hiza3 (by kernel_rfl) (by kernel_rfl) (by kernel_rfl) ?hqza3 (Or.inl ⟨?hwza3, ?hyza3⟩) ?hrza3
      case hiza3 => (simp only [List.getElem?_toArray, List.getElem?_cons_succ, List.getElem?_cons_zero]; rfl)
      case hqza3 => exact fun _ _ _ h => h
      case hwza3 => rfl
      case hyza3 => (intro w0; go_simp; try with_reducible rfl)
      (try simp only [Act.put, List.setIfInBounds_toArray, List.set_cons_zero, List.set_cons_succ])
      refine' wpAny_take (i := 3) ?hiza4 (by kernel_rfl) (by kernel_rfl) (by kernel_rfl) ?hqza4 (Or.inl ⟨?hwza4, ?hyza4⟩) ?hrza4
      case hiza4 => (simp only [List.getElem?_toArray, List.getElem?_cons_succ, List.getElem?_cons_zero]; rfl)
      case hqza4 => exact fun _ _ _ h => h
      case hwza4 => rfl
      case hyza4 => (intro w0; go_simp; try with_reducible rfl)
      (try simp only [Act.put, List.setIfInBounds_toArray, List.set_cons_zero, List.set_cons_succ])
      refine wpAny_ready (rs := [4, 5]) (by kernel_rfl) (by simp) ?_
      refine' AllReady.cons ?haza9 (fun K hK => ?hcza9) (AllReady.cons ?hbza9 (fun K hK => ?hdza9) AllReady.nil)
      case haza9 => (simp only [List.getElem?_toArray, List.getElem?_cons_succ, List.getElem?_cons_zero]; rfl)
      case hbza9 => (simp only [List.getElem?_toArray, List.getElem?_cons_succ, List.getElem?_cons_zero]; rfl)
      case hcza9 =>
        go_simp
        refine hK _ _ ?_
        clear hK K
        (try simp only [Act.put, List.setIfInBounds_toArray, List.set_cons_zero, List.set_cons_succ])
        refine wpAny_ready (rs := [5]) (by kernel_rfl) (by simp) ?_
        refine' AllReady.cons ?hiza6 (fun K hK => ?hrza6) AllReady.nil
        case hiza6 => (simp only [List.getElem?_toArray, List.getElem?_cons_succ, List.getElem?_cons_zero]; rfl)
        refine want_store_run rfl rfl rfl rfl HRUN.out (hK _ _ ?_)
        clear hK K
        (try simp only [Act.put, List.setIfInBounds_toArray, List.set_cons_zero, List.set_cons_succ])
        refine' wpAny_take (i := 6) ?hiza5 (by kernel_rfl) (by kernel_rfl) (by kernel_rfl) ?hqza5 (Or.inl ⟨?hwza5, ?hyza5⟩) ?hrza5
        case hiza5 => (simp only [List.getElem?_toArray, List.getElem?_cons_succ, List.getElem?_cons_zero]; rfl)
        case hqza5 => exact fun _ _ _ h => h
        case hwza5 => rfl
        case hyza5 => (intro w0; go_simp; try with_reducible rfl)
        (try simp only [Act.put, List.setIfInBounds_toArray, List.set_cons_zero, List.set_cons_succ])
        refine wpAny_done (by kernel_rfl) ?_ _
        go_wp2_with fail
        refine bodyPost_ret (results_op rfl _ _ R _ zop nv rfl hst2 zid_len) rfl ⟨nv, by rw [HE.out]; rfl, ?_, ?_⟩
        · rw [HE.out]; exact (OwnI.nil _ (fun _ => True)).rdv (by decide) |>.1
        · exact below_row' HB.out.drew (by rw [HR.out]; exact Nat.le_refl _) _
      case hdza9 =>
        refine want_store_run rfl rfl rfl rfl HRUN.out (hK _ _ ?_)
        clear hK K
        (try simp only [Act.put, List.setIfInBounds_toArray, List.set_cons_zero, List.set_cons_succ])
        refine wpAny_ready (rs := [4]) (by kernel_rfl) (by simp) ?_
        refine' AllReady.cons ?hiza8 (fun K hK => ?hrza8) AllReady.nil
        case hiza8 => (simp only [List.getElem?_toArray, List.getElem?_cons_succ, List.getElem?_cons_zero]; rfl)
        go_simp
        refine hK _ _ ?_
        clear hK K
        (try simp only [Act.put, List.setIfInBounds_toArray, List.set_cons_zero, List.set_cons_succ])
        refine' wpAny_take (i := 6) ?hiza7 (by kernel_rfl) (by kernel_rfl) (by kernel_rfl) ?hqza7 (Or.inl ⟨?hwza7, ?hyza7⟩) ?hrza7
        case hiza7 => (simp only [List.getElem?_toArray, List.getElem?_cons_succ, List.getElem?_cons_zero]; rfl)
        case hqza7 => exact fun _ _ _ h => h
        case hwza7 => rfl
        case hyza7 => (intro w0; go_simp; try with_reducible rfl)
        (try simp only [Act.put, List.setIfInBounds_toArray, List.set_cons_zero, List.set_cons_succ])
        refine wpAny_done (by kernel_rfl) ?_ _
        go_wp2_with fail
        refine bodyPost_ret (results_op rfl _ _ R _ zop nv rfl hst2 zid_len) rfl ⟨nv, by rw [HE.out]; rfl, ?_, ?_⟩
        · rw [HE.out]; exact (OwnI.nil _ (fun _ => True)).rdv (by decide) |>.1
        · exact below_row' HB.out.drew (by rw [HR.out]; exact Nat.le_refl _) _
end Go.Proofs.YtmaolmogccknbaaDoor.opn
