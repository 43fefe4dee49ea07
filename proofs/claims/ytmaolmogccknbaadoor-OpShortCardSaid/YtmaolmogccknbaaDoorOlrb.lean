/-
  The landed op: read, kinds [3, 4].
-/
import Derived.Test.YtmaolmogccknbaaDoorOlr
namespace Go.Proofs.YtmaolmogccknbaaDoor.opn
open Go.RowKit Go.Proofs.YtmaolmogccknbaaDoor.mem Go.Proofs.YtmaolmogccknbaaDoor.sha Go.Proofs.YtmaolmogccknbaaDoor.ids

set_option maxHeartbeats 4000000 in
set_option maxRecDepth 100000 in
theorem read3 (F : Nat → Prop) (g : Nat) (st : St) (w : World) (h : RdL w g st) (hF : F g) (hn : New F w) :
    Calls Tryd.prog 56 #[.pointer (some ⟨g, 0, none⟩), .int .i64 3] w fun e w' => RdOut F g 3 st w e w' := by
  obtain ⟨w1, hw1⟩ : ∃ u, u = ((w.alloc (.cells (opc zop nv).toArray 26)).alloc (.cells (opc zop nv).toArray 26)).setRow (w.heap.size + 1) (opc (kop 3) nv).toArray := ⟨_, rfl⟩
  obtain ⟨R, hR⟩ : ∃ S, S = w.heap.size := ⟨_, rfl⟩
  have hb0 : Blk ((w.alloc (.cells (opc zop nv).toArray 26)).alloc (.cells (opc zop nv).toArray 26)) (w.heap.size + 1) 26 (opc zop nv).toArray := Blk.at_ (by simp) _ _
  have hst := run_store_op hb0 (opc_size _ _ zid_len) (kop 3) nv (kop_ref 3) nv_one
  have hta : Turn (w.heap.size ≤ ·) w w1 := by rw [hw1]; exact (((Turn.refl (w.heap.size ≤ ·) w).alloc (fun _ h => h) _).alloc (fun _ h => h) _).trans ((turn_row _ _ _).mono fun b hb => by subst hb; exact Nat.le_succ _)
  have HP0 : RdP w1 g R (R + 1) (kop 3) st nv w1 := by
    have h1 := h.lt
    refine ⟨by rw [hw1, hR]; exact setRow_heap _ _ _ _ _ _ hb0, OwnI.nil _ _, h.turn hta (by omega), ?_, Turn.refl _ _, by omega, by omega, Nat.zero_le _, kop_ref _⟩
    rw [hw1, hR]
    exact ((Blk.new w _ _).alloc _).turn (turn_row _ _ _) (by omega)
  have HT0 := Lib.hid (hta.mono fun b hb => hn b hb)
  have HR := Lib.hid hR
  have HF := Lib.hid hF
  have HN := Lib.hid hn
  have HW := Lib.hid hw1
  have HST := Lib.hid hst
  have HP0 := Lib.hid HP0
  clear h hF hn hw1 hR hb0 hst hta
  go_enter Tryd.func56, Tryd.ntmps56
  go_upto_region 2 with (first
    | ((with_reducible refine step_build (t := 26) (parts := #[(0, .tmp 6)]) (ps := ?bpr3) (v := ?bvr3) ?bgr3 ?bor3 ?bxr3 ?brr3 ?bhr3); (case bgr3 => rfl); (case bor3 => rfl); (case bxr3 => rfl); (case brr3 => exact run_build_k _ 3))
    | ((with_reducible refine step_store_run (t := 26) (x := .tmp 5) (y := .tmp 7) (p := ?spr3) (v := ?svr3) (w' := ?swr3) ?sgr3 ?sor3 ?sxr3 ?syr3 ?srr3 ?shr3); (case sgr3 => rfl); (case sor3 => rfl); (case sxr3 => rfl); (case syr3 => rfl); (case srr3 => exact HST.out)))
  refine wp_at HW.out.symm ?_
  rw [← HR.out]
  clear HW HST
  obtain ⟨s0, hs0⟩ : ∃ s, s = st := ⟨_, rfl⟩
  obtain ⟨y0, hy0⟩ : ∃ y, y = (rdT s0).1 := ⟨_, rfl⟩
  obtain ⟨s1, hs1⟩ : ∃ s, s = (rdT s0).2 := ⟨_, rfl⟩
  obtain ⟨t0, ht0⟩ : ∃ t, t = oct.tx y0 := ⟨_, rfl⟩
  obtain ⟨y1, hy1⟩ : ∃ y, y = (rdS' s1).1 := ⟨_, rfl⟩
  obtain ⟨s2, hs2⟩ : ∃ s, s = (rdS' s1).2 := ⟨_, rfl⟩
  have HL1 : Hid (y1.length ≤ 255) := Lib.hid (by rw [hy1]; exact rdS'_le _)
  have HE : Hid (parts' (kop 3) (has 3) st = ({ { (kop 3) with val := y0 } with refs := y1 }, s2)) := Lib.hid (by subst hs0 hy0 hs1 hy1 hs2; rfl)
  have HS1 := Lib.hid hs1
  have HY0 := Lib.hid hy0
  have HTX0 := Lib.hid ht0
  have HS2 := Lib.hid hs2
  have HY1 := Lib.hid hy1
  rw [← hs0] at HP0
  clear hs0 hs1 hs2 hy0 hy1 ht0
  have HC0 := Lib.hid (rtext_s (fun b => b = g ∨ w1.heap.size ≤ b) g s0 w1 HP0.out.rdr (.inl rfl) (fun b hb => .inr hb))
  have HC0 := HC0.out
  rw [← HY0.out, ← HS1.out, ← HTX0.out] at HC0
  have HC0 := Lib.hid HC0
  go_wp2_with (first
    | (go_at_call 86; (with_reducible refine HC1.out.mono ?_); rintro e u1 ⟨v1, rfl, ho1, hr1, ht1⟩; have hq1 := HP1.out.read ht1 hr1; have cc1 := (OpBlk.of hq1.op hq1.ref).refs; have hf1 := hq1.op.frozen 36; have hos1 : OwnI u1 (R + 1 < ·) v1 y1 := ho1.mono fun b hb => Nat.lt_of_lt_of_le HP1.out.op.lt hb; obtain ⟨ad1, cap1, hvf1, -, -⟩ := hos1.form; obtain ⟨ln1, hln1⟩ : ∃ n, n = y1.length := ⟨_, rfl⟩; rw [← hln1] at hvf1; subst hvf1; have hp2 := hq1.puts hos1 HL1.out; clear hln1 hos1 ho1; have HP2 := Lib.hid hp2; have HLD := Lib.hid (run_load_op HP2.out.op HP2.out.ref); have HLS := Lib.hid HP2.out.last; clear hq1 hp2 hr1 ht1 HC1)
    | (go_at_call 85; (with_reducible refine HC0.out.mono ?_); rintro e u0 ⟨rfl, hr0, ht0⟩; have hq0 := HP0.out.read ht0 hr0; have cc0 := (OpBlk.of hq0.op hq0.ref).val; have hf0 := hq0.op.frozen 3; have hp1 := hq0.putv y0; rw [← HTX0.out] at hp1; have HP1 := Lib.hid hp1; have HC1 := Lib.hid (rids_s (fun b => b = g ∨ (u0.setCell ⟨R + 1, 3, none⟩ (.string t0)).heap.size ≤ b) g s1 (u0.setCell ⟨R + 1, 3, none⟩ (.string t0)) HP1.out.rdr (.inl rfl) (fun b hb => .inr hb)); have HC1 := HC1.out; rw [← HY1.out, ← HS2.out] at HC1; have HC1 := Lib.hid HC1; clear hq0 hp1 hr0 ht0 HC0)
    | ((with_reducible refine step_load (t := 26) (x := .tmp 5) (p := ?lplz3) (v := ?lvlz3) ?lglz3 ?lolz3 ?lxlz3 ?lrlz3 ?lhlz3); (case lglz3 => rfl); (case lolz3 => rfl); (case lxlz3 => rfl); (case lrlz3 => exact HLD.out))
    | ((with_reducible refine step_store_run (t := 26) (x := .tmp 4) (y := .tmp 54) (p := ?spz3) (v := ?svz3) (w' := ?swz3) ?sgz3 ?soz3 ?sxz3 ?syz3 ?srz3 ?shz3); (case sgz3 => rfl); (case soz3 => rfl); (case sxz3 => rfl); (case syz3 => rfl); (case srz3 => exact HLS.out)))
  exact bodyPost_ret (results_op1 rfl _ _ R _ _ _ rfl (setRow_heap _ _ _ _ _ _ HP2.out.res) HP2.out.ref) rfl (HP2.out.out HF.out HN.out (by rw [HR.out]; exact Nat.le_refl _) HT0.out HE.out)

set_option maxHeartbeats 4000000 in
set_option maxRecDepth 100000 in
theorem read4 (F : Nat → Prop) (g : Nat) (st : St) (w : World) (h : RdL w g st) (hF : F g) (hn : New F w) :
    Calls Tryd.prog 56 #[.pointer (some ⟨g, 0, none⟩), .int .i64 4] w fun e w' => RdOut F g 4 st w e w' := by
  obtain ⟨w1, hw1⟩ : ∃ u, u = ((w.alloc (.cells (opc zop nv).toArray 26)).alloc (.cells (opc zop nv).toArray 26)).setRow (w.heap.size + 1) (opc (kop 4) nv).toArray := ⟨_, rfl⟩
  obtain ⟨R, hR⟩ : ∃ S, S = w.heap.size := ⟨_, rfl⟩
  have hb0 : Blk ((w.alloc (.cells (opc zop nv).toArray 26)).alloc (.cells (opc zop nv).toArray 26)) (w.heap.size + 1) 26 (opc zop nv).toArray := Blk.at_ (by simp) _ _
  have hst := run_store_op hb0 (opc_size _ _ zid_len) (kop 4) nv (kop_ref 4) nv_one
  have hta : Turn (w.heap.size ≤ ·) w w1 := by rw [hw1]; exact (((Turn.refl (w.heap.size ≤ ·) w).alloc (fun _ h => h) _).alloc (fun _ h => h) _).trans ((turn_row _ _ _).mono fun b hb => by subst hb; exact Nat.le_succ _)
  have HP0 : RdP w1 g R (R + 1) (kop 4) st nv w1 := by
    have h1 := h.lt
    refine ⟨by rw [hw1, hR]; exact setRow_heap _ _ _ _ _ _ hb0, OwnI.nil _ _, h.turn hta (by omega), ?_, Turn.refl _ _, by omega, by omega, Nat.zero_le _, kop_ref _⟩
    rw [hw1, hR]
    exact ((Blk.new w _ _).alloc _).turn (turn_row _ _ _) (by omega)
  have HT0 := Lib.hid (hta.mono fun b hb => hn b hb)
  have HR := Lib.hid hR
  have HF := Lib.hid hF
  have HN := Lib.hid hn
  have HW := Lib.hid hw1
  have HST := Lib.hid hst
  have HP0 := Lib.hid HP0
  clear h hF hn hw1 hR hb0 hst hta
  go_enter Tryd.func56, Tryd.ntmps56
  go_upto_region 2 with (first
    | ((with_reducible refine step_build (t := 26) (parts := #[(0, .tmp 6)]) (ps := ?bpr4) (v := ?bvr4) ?bgr4 ?bor4 ?bxr4 ?brr4 ?bhr4); (case bgr4 => rfl); (case bor4 => rfl); (case bxr4 => rfl); (case brr4 => exact run_build_k _ 4))
    | ((with_reducible refine step_store_run (t := 26) (x := .tmp 5) (y := .tmp 7) (p := ?spr4) (v := ?svr4) (w' := ?swr4) ?sgr4 ?sor4 ?sxr4 ?syr4 ?srr4 ?shr4); (case sgr4 => rfl); (case sor4 => rfl); (case sxr4 => rfl); (case syr4 => rfl); (case srr4 => exact HST.out)))
  refine wp_at HW.out.symm ?_
  rw [← HR.out]
  clear HW HST
  obtain ⟨s0, hs0⟩ : ∃ s, s = st := ⟨_, rfl⟩
  obtain ⟨y0, hy0⟩ : ∃ y, y = (rdT s0).1 := ⟨_, rfl⟩
  obtain ⟨s1, hs1⟩ : ∃ s, s = (rdT s0).2 := ⟨_, rfl⟩
  obtain ⟨t0, ht0⟩ : ∃ t, t = oct.tx y0 := ⟨_, rfl⟩
  obtain ⟨y1, hy1⟩ : ∃ y, y = (rdT s1).1 := ⟨_, rfl⟩
  obtain ⟨s2, hs2⟩ : ∃ s, s = (rdT s1).2 := ⟨_, rfl⟩
  obtain ⟨t1, ht1⟩ : ∃ t, t = oct.tx y1 := ⟨_, rfl⟩
  obtain ⟨y2, hy2⟩ : ∃ y, y = (rdN 4 s2).1 := ⟨_, rfl⟩
  obtain ⟨s3, hs3⟩ : ∃ s, s = (rdN 4 s2).2 := ⟨_, rfl⟩
  have m02 : 0 ≤ y2 := by rw [hy2]; exact rdN_nonneg _ _
  have m12 : y2 < 4294967296 := by rw [hy2]; exact rdN4_lt _
  have HE : Hid (parts' (kop 4) (has 4) st = ({ { { (kop 4) with key := y0 } with val := y1 } with n := y2 }, s3)) := Lib.hid (by have e : parts' (kop 4) (has 4) st = ({ { { (kop 4) with key := y0 } with val := y1 } with n := y2 - 0 }, s3) := (by subst hs0 hy0 hs1 hy1 hs2 hy2 hs3; rfl); rw [Int.sub_zero] at e; exact e)
  have HS1 := Lib.hid hs1
  have HY0 := Lib.hid hy0
  have HTX0 := Lib.hid ht0
  have HS2 := Lib.hid hs2
  have HY1 := Lib.hid hy1
  have HTX1 := Lib.hid ht1
  have HS3 := Lib.hid hs3
  have HY2 := Lib.hid hy2
  rw [← hs0] at HP0
  clear hs0 hs1 hs2 hs3 hy0 hy1 hy2 ht0 ht1
  have HC0 := Lib.hid (rtext_s (fun b => b = g ∨ w1.heap.size ≤ b) g s0 w1 HP0.out.rdr (.inl rfl) (fun b hb => .inr hb))
  have HC0 := HC0.out
  rw [← HY0.out, ← HS1.out, ← HTX0.out] at HC0
  have HC0 := Lib.hid HC0
  go_wp2_with (first
    | (go_at_call 54; (with_reducible refine HC2.out.mono ?_); rintro e u2 ⟨rfl, hr2, ht2⟩; have hq2 := HP2.out.read ht2 hr2; have cc2 := (OpBlk.of hq2.op hq2.ref).n; have hf2 := hq2.op.frozen 1; have hp3 := hq2.putn (y2); have HP3 := Lib.hid hp3; have HLD := Lib.hid (run_load_op HP3.out.op HP3.out.ref); have HLS := Lib.hid HP3.out.last; clear hq2 hp3 hr2 ht2 HC2)
    | (go_at_call 85; (with_reducible refine HC1.out.mono ?_); rintro e u1 ⟨rfl, hr1, ht1⟩; have hq1 := HP1.out.read ht1 hr1; have cc1 := (OpBlk.of hq1.op hq1.ref).val; have hf1 := hq1.op.frozen 3; have hp2 := hq1.putv y1; rw [← HTX1.out] at hp2; have HP2 := Lib.hid hp2; have HC2 := Lib.hid (lnum4_s (fun b => b = g ∨ (u1.setCell ⟨R + 1, 3, none⟩ (.string t1)).heap.size ≤ b) g s2 (u1.setCell ⟨R + 1, 3, none⟩ (.string t1)) HP2.out.rdr (.inl rfl) (fun b hb => .inr hb)); have HC2 := HC2.out; rw [← HY2.out, ← HS3.out] at HC2; have HC2 := Lib.hid HC2; clear hq1 hp2 hr1 ht1 HC1)
    | (go_at_call 85; (with_reducible refine HC0.out.mono ?_); rintro e u0 ⟨rfl, hr0, ht0⟩; have hq0 := HP0.out.read ht0 hr0; have cc0 := (OpBlk.of hq0.op hq0.ref).key; have hf0 := hq0.op.frozen 2; have hp1 := hq0.putk y0; rw [← HTX0.out] at hp1; have HP1 := Lib.hid hp1; have HC1 := Lib.hid (rtext_s (fun b => b = g ∨ (u0.setCell ⟨R + 1, 2, none⟩ (.string t0)).heap.size ≤ b) g s1 (u0.setCell ⟨R + 1, 2, none⟩ (.string t0)) HP1.out.rdr (.inl rfl) (fun b hb => .inr hb)); have HC1 := HC1.out; rw [← HY1.out, ← HS2.out, ← HTX1.out] at HC1; have HC1 := Lib.hid HC1; clear hq0 hp1 hr0 ht0 HC0)
    | ((with_reducible refine step_load (t := 26) (x := .tmp 5) (p := ?lplz4) (v := ?lvlz4) ?lglz4 ?lolz4 ?lxlz4 ?lrlz4 ?lhlz4); (case lglz4 => rfl); (case lolz4 => rfl); (case lxlz4 => rfl); (case lrlz4 => exact HLD.out))
    | ((with_reducible refine step_store_run (t := 26) (x := .tmp 4) (y := .tmp 54) (p := ?spz4) (v := ?svz4) (w' := ?swz4) ?sgz4 ?soz4 ?sxz4 ?syz4 ?srz4 ?shz4); (case sgz4 => rfl); (case soz4 => rfl); (case sxz4 => rfl); (case syz4 => rfl); (case srz4 => exact HLS.out)))
  exact bodyPost_ret (results_op1 rfl _ _ R _ _ _ rfl (setRow_heap _ _ _ _ _ _ HP3.out.res) HP3.out.ref) rfl (HP3.out.out HF.out HN.out (by rw [HR.out]; exact Nat.le_refl _) HT0.out HE.out)
end Go.Proofs.YtmaolmogccknbaaDoor.opn
