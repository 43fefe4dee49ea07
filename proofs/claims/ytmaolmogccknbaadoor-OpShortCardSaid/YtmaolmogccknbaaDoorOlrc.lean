/-
  The landed op: read, kinds [5, 6].
-/
import Derived.Test.YtmaolmogccknbaaDoorOlr
namespace Go.Proofs.YtmaolmogccknbaaDoor.opn
open Go.RowKit Go.Proofs.YtmaolmogccknbaaDoor.mem Go.Proofs.YtmaolmogccknbaaDoor.sha Go.Proofs.YtmaolmogccknbaaDoor.ids

set_option maxHeartbeats 4000000 in
set_option maxRecDepth 100000 in
theorem read5 (F : Nat → Prop) (g : Nat) (st : St) (w : World) (h : RdL w g st) (hF : F g) (hn : New F w) :
    Calls Tryd.prog 56 #[.pointer (some ⟨g, 0, none⟩), .int .i64 5] w fun e w' => RdOut F g 5 st w e w' := by
  obtain ⟨w1, hw1⟩ : ∃ u, u = ((w.alloc (.cells (opc zop nv).toArray 26)).alloc (.cells (opc zop nv).toArray 26)).setRow (w.heap.size + 1) (opc (kop 5) nv).toArray := ⟨_, rfl⟩
  obtain ⟨R, hR⟩ : ∃ S, S = w.heap.size := ⟨_, rfl⟩
  have hb0 : Blk ((w.alloc (.cells (opc zop nv).toArray 26)).alloc (.cells (opc zop nv).toArray 26)) (w.heap.size + 1) 26 (opc zop nv).toArray := Blk.at_ (by simp) _ _
  have hst := run_store_op hb0 (opc_size _ _ zid_len) (kop 5) nv (kop_ref 5) nv_one
  have hta : Turn (w.heap.size ≤ ·) w w1 := by rw [hw1]; exact (((Turn.refl (w.heap.size ≤ ·) w).alloc (fun _ h => h) _).alloc (fun _ h => h) _).trans ((turn_row _ _ _).mono fun b hb => by subst hb; exact Nat.le_succ _)
  have HP0 : RdP w1 g R (R + 1) (kop 5) st nv w1 := by
    have h1 := h.lt
    refine ⟨by rw [hw1, hR]; exact setRow_heap _ _ _ _ _ _ hb0, OwnI.nil _ _, h.turn hta (by omega), ?_, Turn.refl _ _, by omega, by omega, Nat.zero_le _, kop_ref _⟩
    rw [hw1, hR]
    exact ((Blk.new w _ _).alloc _).turn (turn_row _ _ _) (by omega)
  have HT0 := Lib.hid (hta.mono fun b hb => hn b hb)
  have HR := Lib.hid hR
  have HF := Lib.hid hF
  have HN := Lib.hid hn
  have HW := Lib.hid hw1
  have HST := Lib.hid hst
  have HP0 := Lib.hid HP0
  clear h hF hn hw1 hR hb0 hst hta
  go_enter Tryd.func56, Tryd.ntmps56
  go_upto_region 2 with (first
    | ((with_reducible refine step_build (t := 26) (parts := #[(0, .tmp 6)]) (ps := ?bpr5) (v := ?bvr5) ?bgr5 ?bor5 ?bxr5 ?brr5 ?bhr5); (case bgr5 => rfl); (case bor5 => rfl); (case bxr5 => rfl); (case brr5 => exact run_build_k _ 5))
    | ((with_reducible refine step_store_run (t := 26) (x := .tmp 5) (y := .tmp 7) (p := ?spr5) (v := ?svr5) (w' := ?swr5) ?sgr5 ?sor5 ?sxr5 ?syr5 ?srr5 ?shr5); (case sgr5 => rfl); (case sor5 => rfl); (case sxr5 => rfl); (case syr5 => rfl); (case srr5 => exact HST.out)))
  refine wp_at HW.out.symm ?_
  rw [← HR.out]
  clear HW HST
  obtain ⟨s0, hs0⟩ : ∃ s, s = st := ⟨_, rfl⟩
  obtain ⟨y0, hy0⟩ : ∃ y, y = (rdT s0).1 := ⟨_, rfl⟩
  obtain ⟨s1, hs1⟩ : ∃ s, s = (rdT s0).2 := ⟨_, rfl⟩
  obtain ⟨t0, ht0⟩ : ∃ t, t = oct.tx y0 := ⟨_, rfl⟩
  obtain ⟨y1, hy1⟩ : ∃ y, y = (rdT s1).1 := ⟨_, rfl⟩
  obtain ⟨s2, hs2⟩ : ∃ s, s = (rdT s1).2 := ⟨_, rfl⟩
  obtain ⟨t1, ht1⟩ : ∃ t, t = oct.tx y1 := ⟨_, rfl⟩
  obtain ⟨y2, hy2⟩ : ∃ y, y = (rdS' s2).1 := ⟨_, rfl⟩
  obtain ⟨s3, hs3⟩ : ∃ s, s = (rdS' s2).2 := ⟨_, rfl⟩
  have HL2 : Hid (y2.length ≤ 255) := Lib.hid (by rw [hy2]; exact rdS'_le _)
  have HE : Hid (parts' (kop 5) (has 5) st = ({ { { (kop 5) with key := y0 } with val := y1 } with refs := y2 }, s3)) := Lib.hid (by subst hs0 hy0 hs1 hy1 hs2 hy2 hs3; rfl)
  have HS1 := Lib.hid hs1
  have HY0 := Lib.hid hy0
  have HTX0 := Lib.hid ht0
  have HS2 := Lib.hid hs2
  have HY1 := Lib.hid hy1
  have HTX1 := Lib.hid ht1
  have HS3 := Lib.hid hs3
  have HY2 := Lib.hid hy2
  rw [← hs0] at HP0
  clear hs0 hs1 hs2 hs3 hy0 hy1 hy2 ht0 ht1
  have HC0 := Lib.hid (rtext_s (fun b => b = g ∨ w1.heap.size ≤ b) g s0 w1 HP0.out.rdr (.inl rfl) (fun b hb => .inr hb))
  have HC0 := HC0.out
  rw [← HY0.out, ← HS1.out, ← HTX0.out] at HC0
  have HC0 := Lib.hid HC0
  go_wp2_with (first
    | (go_at_call 86; (with_reducible refine HC2.out.mono ?_); rintro e u2 ⟨v2, rfl, ho2, hr2, ht2⟩; have hq2 := HP2.out.read ht2 hr2; have cc2 := (OpBlk.of hq2.op hq2.ref).refs; have hf2 := hq2.op.frozen 36; have hos2 : OwnI u2 (R + 1 < ·) v2 y2 := ho2.mono fun b hb => Nat.lt_of_lt_of_le HP2.out.op.lt hb; obtain ⟨ad2, cap2, hvf2, -, -⟩ := hos2.form; obtain ⟨ln2, hln2⟩ : ∃ n, n = y2.length := ⟨_, rfl⟩; rw [← hln2] at hvf2; subst hvf2; have hp3 := hq2.puts hos2 HL2.out; clear hln2 hos2 ho2; have HP3 := Lib.hid hp3; have HLD := Lib.hid (run_load_op HP3.out.op HP3.out.ref); have HLS := Lib.hid HP3.out.last; clear hq2 hp3 hr2 ht2 HC2)
    | (go_at_call 85; (with_reducible refine HC1.out.mono ?_); rintro e u1 ⟨rfl, hr1, ht1⟩; have hq1 := HP1.out.read ht1 hr1; have cc1 := (OpBlk.of hq1.op hq1.ref).val; have hf1 := hq1.op.frozen 3; have hp2 := hq1.putv y1; rw [← HTX1.out] at hp2; have HP2 := Lib.hid hp2; have HC2 := Lib.hid (rids_s (fun b => b = g ∨ (u1.setCell ⟨R + 1, 3, none⟩ (.string t1)).heap.size ≤ b) g s2 (u1.setCell ⟨R + 1, 3, none⟩ (.string t1)) HP2.out.rdr (.inl rfl) (fun b hb => .inr hb)); have HC2 := HC2.out; rw [← HY2.out, ← HS3.out] at HC2; have HC2 := Lib.hid HC2; clear hq1 hp2 hr1 ht1 HC1)
    | (go_at_call 85; (with_reducible refine HC0.out.mono ?_); rintro e u0 ⟨rfl, hr0, ht0⟩; have hq0 := HP0.out.read ht0 hr0; have cc0 := (OpBlk.of hq0.op hq0.ref).key; have hf0 := hq0.op.frozen 2; have hp1 := hq0.putk y0; rw [← HTX0.out] at hp1; have HP1 := Lib.hid hp1; have HC1 := Lib.hid (rtext_s (fun b => b = g ∨ (u0.setCell ⟨R + 1, 2, none⟩ (.string t0)).heap.size ≤ b) g s1 (u0.setCell ⟨R + 1, 2, none⟩ (.string t0)) HP1.out.rdr (.inl rfl) (fun b hb => .inr hb)); have HC1 := HC1.out; rw [← HY1.out, ← HS2.out, ← HTX1.out] at HC1; have HC1 := Lib.hid HC1; clear hq0 hp1 hr0 ht0 HC0)
    | ((with_reducible refine step_load (t := 26) (x := .tmp 5) (p := ?lplz5) (v := ?lvlz5) ?lglz5 ?lolz5 ?lxlz5 ?lrlz5 ?lhlz5); (case lglz5 => rfl); (case lolz5 => rfl); (case lxlz5 => rfl); (case lrlz5 => exact HLD.out))
    | ((with_reducible refine step_store_run (t := 26) (x := .tmp 4) (y := .tmp 54) (p := ?spz5) (v := ?svz5) (w' := ?swz5) ?sgz5 ?soz5 ?sxz5 ?syz5 ?srz5 ?shz5); (case sgz5 => rfl); (case soz5 => rfl); (case sxz5 => rfl); (case syz5 => rfl); (case srz5 => exact HLS.out)))
  exact bodyPost_ret (results_op1 rfl _ _ R _ _ _ rfl (setRow_heap _ _ _ _ _ _ HP3.out.res) HP3.out.ref) rfl (HP3.out.out HF.out HN.out (by rw [HR.out]; exact Nat.le_refl _) HT0.out HE.out)

set_option maxHeartbeats 4000000 in
set_option maxRecDepth 100000 in
theorem read6 (F : Nat → Prop) (g : Nat) (st : St) (w : World) (h : RdL w g st) (hF : F g) (hn : New F w) :
    Calls Tryd.prog 56 #[.pointer (some ⟨g, 0, none⟩), .int .i64 6] w fun e w' => RdOut F g 6 st w e w' := by
  obtain ⟨w1, hw1⟩ : ∃ u, u = ((w.alloc (.cells (opc zop nv).toArray 26)).alloc (.cells (opc zop nv).toArray 26)).setRow (w.heap.size + 1) (opc (kop 6) nv).toArray := ⟨_, rfl⟩
  obtain ⟨R, hR⟩ : ∃ S, S = w.heap.size := ⟨_, rfl⟩
  have hb0 : Blk ((w.alloc (.cells (opc zop nv).toArray 26)).alloc (.cells (opc zop nv).toArray 26)) (w.heap.size + 1) 26 (opc zop nv).toArray := Blk.at_ (by simp) _ _
  have hst := run_store_op hb0 (opc_size _ _ zid_len) (kop 6) nv (kop_ref 6) nv_one
  have hta : Turn (w.heap.size ≤ ·) w w1 := by rw [hw1]; exact (((Turn.refl (w.heap.size ≤ ·) w).alloc (fun _ h => h) _).alloc (fun _ h => h) _).trans ((turn_row _ _ _).mono fun b hb => by subst hb; exact Nat.le_succ _)
  have HP0 : RdP w1 g R (R + 1) (kop 6) st nv w1 := by
    have h1 := h.lt
    refine ⟨by rw [hw1, hR]; exact setRow_heap _ _ _ _ _ _ hb0, OwnI.nil _ _, h.turn hta (by omega), ?_, Turn.refl _ _, by omega, by omega, Nat.zero_le _, kop_ref _⟩
    rw [hw1, hR]
    exact ((Blk.new w _ _).alloc _).turn (turn_row _ _ _) (by omega)
  have HT0 := Lib.hid (hta.mono fun b hb => hn b hb)
  have HR := Lib.hid hR
  have HF := Lib.hid hF
  have HN := Lib.hid hn
  have HW := Lib.hid hw1
  have HST := Lib.hid hst
  have HP0 := Lib.hid HP0
  clear h hF hn hw1 hR hb0 hst hta
  go_enter Tryd.func56, Tryd.ntmps56
  go_upto_region 2 with (first
    | ((with_reducible refine step_build (t := 26) (parts := #[(0, .tmp 6)]) (ps := ?bpr6) (v := ?bvr6) ?bgr6 ?bor6 ?bxr6 ?brr6 ?bhr6); (case bgr6 => rfl); (case bor6 => rfl); (case bxr6 => rfl); (case brr6 => exact run_build_k _ 6))
    | ((with_reducible refine step_store_run (t := 26) (x := .tmp 5) (y := .tmp 7) (p := ?spr6) (v := ?svr6) (w' := ?swr6) ?sgr6 ?sor6 ?sxr6 ?syr6 ?srr6 ?shr6); (case sgr6 => rfl); (case sor6 => rfl); (case sxr6 => rfl); (case syr6 => rfl); (case srr6 => exact HST.out)))
  refine wp_at HW.out.symm ?_
  rw [← HR.out]
  clear HW HST
  obtain ⟨s0, hs0⟩ : ∃ s, s = st := ⟨_, rfl⟩
  obtain ⟨y0, hy0⟩ : ∃ y, y = (rdI s0).1 := ⟨_, rfl⟩
  obtain ⟨s1, hs1⟩ : ∃ s, s = (rdI s0).2 := ⟨_, rfl⟩
  have HL0 : Hid (y0.length = 32) := Lib.hid (by rw [hy0]; exact rdI_len _)
  obtain ⟨y1, hy1⟩ : ∃ y, y = (rdT s1).1 := ⟨_, rfl⟩
  obtain ⟨s2, hs2⟩ : ∃ s, s = (rdT s1).2 := ⟨_, rfl⟩
  obtain ⟨t1, ht1⟩ : ∃ t, t = oct.tx y1 := ⟨_, rfl⟩
  have HE : Hid (parts' (kop 6) (has 6) st = ({ { (kop 6) with ref := y0 } with val := y1 }, s2)) := Lib.hid (by subst hs0 hy0 hs1 hy1 hs2; rfl)
  have HS1 := Lib.hid hs1
  have HY0 := Lib.hid hy0
  have HS2 := Lib.hid hs2
  have HY1 := Lib.hid hy1
  have HTX1 := Lib.hid ht1
  rw [← hs0] at HP0
  clear hs0 hs1 hs2 hy0 hy1 ht1
  have HC0 := Lib.hid (rid_s (fun b => b = g ∨ w1.heap.size ≤ b) g s0 w1 HP0.out.rdr (.inl rfl) (fun b hb => .inr hb))
  have HC0 := HC0.out
  rw [← HY0.out, ← HS1.out] at HC0
  have HC0 := Lib.hid HC0
  go_wp2_with (first
    | (go_at_call 85; (with_reducible refine HC1.out.mono ?_); rintro e u1 ⟨rfl, hr1, ht1⟩; have hq1 := HP1.out.read ht1 hr1; have cc1 := (OpBlk.of hq1.op hq1.ref).val; have hf1 := hq1.op.frozen 3; have hp2 := hq1.putv y1; rw [← HTX1.out] at hp2; have HP2 := Lib.hid hp2; have HLD := Lib.hid (run_load_op HP2.out.op HP2.out.ref); have HLS := Lib.hid HP2.out.last; clear hq1 hp2 hr1 ht1 HC1)
    | ((with_reducible refine step_store_run (t := 23) (x := .tmp 47) (y := .tmp 46) (p := ?spi60) (v := ?svi60) (w' := ?swi60) ?sgi60 ?soi60 ?sxi60 ?syi60 ?sri60 ?shi60); (case sgi60 => rfl); (case soi60 => rfl); (case sxi60 => rfl); (case syi60 => rfl); (case sri60 => exact HRUN0.out))
    | (go_at_call 87; (with_reducible refine HC0.out.mono ?_); rintro e u0 ⟨rfl, hr0, ht0⟩; have hq0 := HP0.out.read ht0 hr0; have HRUN0 := Lib.hid (opm_ref hq0.op hq0.ref y0 HL0.out); have hp1 := hq0.puti y0 HL0.out; have HP1 := Lib.hid hp1; obtain ⟨ww0, hww0⟩ : ∃ u, u = u0.setRow (R + 1) (opc { (kop 6) with ref := y0 } nv).toArray := ⟨_, rfl⟩; rw [← hww0] at hp1 HRUN0; have HP1 := Lib.hid hp1; have HC1 := Lib.hid (rtext_s (fun b => b = g ∨ ww0.heap.size ≤ b) g s1 ww0 HP1.out.rdr (.inl rfl) (fun b hb => .inr hb)); have HC1 := HC1.out; rw [← HY1.out, ← HS2.out, ← HTX1.out] at HC1; have HC1 := Lib.hid HC1; clear hq0 hp1 hr0 ht0 HC0 hww0)
    | ((with_reducible refine step_load (t := 26) (x := .tmp 5) (p := ?lplz6) (v := ?lvlz6) ?lglz6 ?lolz6 ?lxlz6 ?lrlz6 ?lhlz6); (case lglz6 => rfl); (case lolz6 => rfl); (case lxlz6 => rfl); (case lrlz6 => exact HLD.out))
    | ((with_reducible refine step_store_run (t := 26) (x := .tmp 4) (y := .tmp 54) (p := ?spz6) (v := ?svz6) (w' := ?swz6) ?sgz6 ?soz6 ?sxz6 ?syz6 ?srz6 ?shz6); (case sgz6 => rfl); (case soz6 => rfl); (case sxz6 => rfl); (case syz6 => rfl); (case srz6 => exact HLS.out)))
  exact bodyPost_ret (results_op1 rfl _ _ R _ _ _ rfl (setRow_heap _ _ _ _ _ _ HP2.out.res) HP2.out.ref) rfl (HP2.out.out HF.out HN.out (by rw [HR.out]; exact Nat.le_refl _) HT0.out HE.out)
end Go.Proofs.YtmaolmogccknbaaDoor.opn
