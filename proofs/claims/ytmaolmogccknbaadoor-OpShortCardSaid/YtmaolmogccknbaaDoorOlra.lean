/-
  The landed op: read, kinds [0, 1, 2, 7].
-/
import Derived.Test.YtmaolmogccknbaaDoorOlr
namespace Go.Proofs.YtmaolmogccknbaaDoor.opn
open Go.RowKit Go.Proofs.YtmaolmogccknbaaDoor.mem Go.Proofs.YtmaolmogccknbaaDoor.sha Go.Proofs.YtmaolmogccknbaaDoor.ids

set_option maxHeartbeats 4000000 in
set_option maxRecDepth 100000 in
theorem read0 (F : Nat → Prop) (g : Nat) (k : Int) (st : St) (w : World) (hk : has k = []) (h : RdL w g st) (hF : F g) (hn : New F w) :
    Calls Tryd.prog 56 #[.pointer (some ⟨g, 0, none⟩), .int .i64 k] w fun e w' => RdOut F g k st w e w' := by
  obtain ⟨w1, hw1⟩ : ∃ u, u = ((w.alloc (.cells (opc zop nv).toArray 26)).alloc (.cells (opc zop nv).toArray 26)).setRow (w.heap.size + 1) (opc (kop k) nv).toArray := ⟨_, rfl⟩
  obtain ⟨R, hR⟩ : ∃ S, S = w.heap.size := ⟨_, rfl⟩
  have hb0 : Blk ((w.alloc (.cells (opc zop nv).toArray 26)).alloc (.cells (opc zop nv).toArray 26)) (w.heap.size + 1) 26 (opc zop nv).toArray := Blk.at_ (by simp) _ _
  have hst := run_store_op hb0 (opc_size _ _ zid_len) (kop k) nv (kop_ref k) nv_one
  have hta : Turn (w.heap.size ≤ ·) w w1 := by rw [hw1]; exact (((Turn.refl (w.heap.size ≤ ·) w).alloc (fun _ h => h) _).alloc (fun _ h => h) _).trans ((turn_row _ _ _).mono fun b hb => by subst hb; exact Nat.le_succ _)
  have HP0 : RdP w1 g R (R + 1) (kop k) st nv w1 := by
    have h1 := h.lt
    refine ⟨by rw [hw1, hR]; exact setRow_heap _ _ _ _ _ _ hb0, OwnI.nil _ _, h.turn hta (by omega), ?_, Turn.refl _ _, by omega, by omega, Nat.zero_le _, kop_ref _⟩
    rw [hw1, hR]
    exact ((Blk.new w _ _).alloc _).turn (turn_row _ _ _) (by omega)
  have HT0 := Lib.hid (hta.mono fun b hb => hn b hb)
  have HR := Lib.hid hR
  have HF := Lib.hid hF
  have HN := Lib.hid hn
  have HW := Lib.hid hw1
  have HST := Lib.hid hst
  have b1 : (k == 1) = false := beq_eq_false_iff_ne.2 fun e => by rw [e] at hk; cases hk
  have b2 : (k == 2) = false := beq_eq_false_iff_ne.2 fun e => by rw [e] at hk; cases hk
  have b3 : (k == 3) = false := beq_eq_false_iff_ne.2 fun e => by rw [e] at hk; cases hk
  have b4 : (k == 4) = false := beq_eq_false_iff_ne.2 fun e => by rw [e] at hk; cases hk
  have b5 : (k == 5) = false := beq_eq_false_iff_ne.2 fun e => by rw [e] at hk; cases hk
  have b6 : (k == 6) = false := beq_eq_false_iff_ne.2 fun e => by rw [e] at hk; cases hk
  have b7 : (k == 7) = false := beq_eq_false_iff_ne.2 fun e => by rw [e] at hk; cases hk
  have HK := Lib.hid hk
  have hldz := run_load_op HP0.op HP0.ref
  have hstz := HP0.last
  clear hk
  have HP0 := Lib.hid HP0
  clear h hF hn hw1 hR hb0 hst hta
  go_enter Tryd.func56, Tryd.ntmps56
  go_upto_region 2 with (first
    | ((with_reducible refine step_build (t := 26) (parts := #[(0, .tmp 6)]) (ps := ?bpr0) (v := ?bvr0) ?bgr0 ?bor0 ?bxr0 ?brr0 ?bhr0); (case bgr0 => rfl); (case bor0 => rfl); (case bxr0 => rfl); (case brr0 => exact run_build_k _ k))
    | ((with_reducible refine step_store_run (t := 26) (x := .tmp 5) (y := .tmp 7) (p := ?spr0) (v := ?svr0) (w' := ?swr0) ?sgr0 ?sor0 ?sxr0 ?syr0 ?srr0 ?shr0); (case sgr0 => rfl); (case sor0 => rfl); (case sxr0 => rfl); (case syr0 => rfl); (case srr0 => exact HST.out)))
  refine wp_at HW.out.symm ?_
  rw [← HR.out]
  clear HW HST
  go_wp2_with (first
    | ((with_reducible refine step_load (t := 26) (x := .tmp 5) (p := ?lplz0) (v := ?lvlz0) ?lglz0 ?lolz0 ?lxlz0 ?lrlz0 ?lhlz0); (case lglz0 => rfl); (case lolz0 => rfl); (case lxlz0 => rfl); (case lrlz0 => exact hldz))
    | ((with_reducible refine step_store_run (t := 26) (x := .tmp 4) (y := .tmp 54) (p := ?spz0) (v := ?svz0) (w' := ?swz0) ?sgz0 ?soz0 ?sxz0 ?syz0 ?srz0 ?shz0); (case sgz0 => rfl); (case soz0 => rfl); (case sxz0 => rfl); (case syz0 => rfl); (case srz0 => exact hstz)))
  exact bodyPost_ret (results_op1 rfl _ _ R _ _ _ rfl (setRow_heap _ _ _ _ _ _ HP0.out.res) HP0.out.ref) rfl (HP0.out.out HF.out HN.out (by rw [HR.out]; exact Nat.le_refl _) HT0.out (by rw [HK.out]; rfl))

set_option maxHeartbeats 4000000 in
set_option maxRecDepth 100000 in
theorem read1 (F : Nat → Prop) (g : Nat) (st : St) (w : World) (h : RdL w g st) (hF : F g) (hn : New F w) :
    Calls Tryd.prog 56 #[.pointer (some ⟨g, 0, none⟩), .int .i64 1] w fun e w' => RdOut F g 1 st w e w' := by
  obtain ⟨w1, hw1⟩ : ∃ u, u = ((w.alloc (.cells (opc zop nv).toArray 26)).alloc (.cells (opc zop nv).toArray 26)).setRow (w.heap.size + 1) (opc (kop 1) nv).toArray := ⟨_, rfl⟩
  obtain ⟨R, hR⟩ : ∃ S, S = w.heap.size := ⟨_, rfl⟩
  have hb0 : Blk ((w.alloc (.cells (opc zop nv).toArray 26)).alloc (.cells (opc zop nv).toArray 26)) (w.heap.size + 1) 26 (opc zop nv).toArray := Blk.at_ (by simp) _ _
  have hst := run_store_op hb0 (opc_size _ _ zid_len) (kop 1) nv (kop_ref 1) nv_one
  have hta : Turn (w.heap.size ≤ ·) w w1 := by rw [hw1]; exact (((Turn.refl (w.heap.size ≤ ·) w).alloc (fun _ h => h) _).alloc (fun _ h => h) _).trans ((turn_row _ _ _).mono fun b hb => by subst hb; exact Nat.le_succ _)
  have HP0 : RdP w1 g R (R + 1) (kop 1) st nv w1 := by
    have h1 := h.lt
    refine ⟨by rw [hw1, hR]; exact setRow_heap _ _ _ _ _ _ hb0, OwnI.nil _ _, h.turn hta (by omega), ?_, Turn.refl _ _, by omega, by omega, Nat.zero_le _, kop_ref _⟩
    rw [hw1, hR]
    exact ((Blk.new w _ _).alloc _).turn (turn_row _ _ _) (by omega)
  have HT0 := Lib.hid (hta.mono fun b hb => hn b hb)
  have HR := Lib.hid hR
  have HF := Lib.hid hF
  have HN := Lib.hid hn
  have HW := Lib.hid hw1
  have HST := Lib.hid hst
  have HP0 := Lib.hid HP0
  clear h hF hn hw1 hR hb0 hst hta
  go_enter Tryd.func56, Tryd.ntmps56
  go_upto_region 2 with (first
    | ((with_reducible refine step_build (t := 26) (parts := #[(0, .tmp 6)]) (ps := ?bpr1) (v := ?bvr1) ?bgr1 ?bor1 ?bxr1 ?brr1 ?bhr1); (case bgr1 => rfl); (case bor1 => rfl); (case bxr1 => rfl); (case brr1 => exact run_build_k _ 1))
    | ((with_reducible refine step_store_run (t := 26) (x := .tmp 5) (y := .tmp 7) (p := ?spr1) (v := ?svr1) (w' := ?swr1) ?sgr1 ?sor1 ?sxr1 ?syr1 ?srr1 ?shr1); (case sgr1 => rfl); (case sor1 => rfl); (case sxr1 => rfl); (case syr1 => rfl); (case srr1 => exact HST.out)))
  refine wp_at HW.out.symm ?_
  rw [← HR.out]
  clear HW HST
  obtain ⟨s0, hs0⟩ : ∃ s, s = st := ⟨_, rfl⟩
  obtain ⟨y0, hy0⟩ : ∃ y, y = (rdN 4 s0).1 := ⟨_, rfl⟩
  obtain ⟨s1, hs1⟩ : ∃ s, s = (rdN 4 s0).2 := ⟨_, rfl⟩
  have m00 : 0 ≤ y0 := by rw [hy0]; exact rdN_nonneg _ _
  have m10 : y0 < 4294967296 := by rw [hy0]; exact rdN4_lt _
  have HE : Hid (parts' (kop 1) (has 1) st = ({ (kop 1) with n := y0 - 2147483648 }, s1)) := Lib.hid (by subst hs0 hy0 hs1; rfl)
  have HS1 := Lib.hid hs1
  have HY0 := Lib.hid hy0
  rw [← hs0] at HP0
  clear hs0 hs1 hy0
  have HC0 := Lib.hid (lnum4_s (fun b => b = g ∨ w1.heap.size ≤ b) g s0 w1 HP0.out.rdr (.inl rfl) (fun b hb => .inr hb))
  have HC0 := HC0.out
  rw [← HY0.out, ← HS1.out] at HC0
  have HC0 := Lib.hid HC0
  go_wp2_with (first
    | (go_at_call 54; (with_reducible refine HC0.out.mono ?_); rintro e u0 ⟨rfl, hr0, ht0⟩; have hq0 := HP0.out.read ht0 hr0; have cc0 := (OpBlk.of hq0.op hq0.ref).n; have hf0 := hq0.op.frozen 1; have hp1 := hq0.putn (y0 - 2147483648); have HP1 := Lib.hid hp1; have HLD := Lib.hid (run_load_op HP1.out.op HP1.out.ref); have HLS := Lib.hid HP1.out.last; clear hq0 hp1 hr0 ht0 HC0)
    | ((with_reducible refine step_load (t := 26) (x := .tmp 5) (p := ?lplz1) (v := ?lvlz1) ?lglz1 ?lolz1 ?lxlz1 ?lrlz1 ?lhlz1); (case lglz1 => rfl); (case lolz1 => rfl); (case lxlz1 => rfl); (case lrlz1 => exact HLD.out))
    | ((with_reducible refine step_store_run (t := 26) (x := .tmp 4) (y := .tmp 54) (p := ?spz1) (v := ?svz1) (w' := ?swz1) ?sgz1 ?soz1 ?sxz1 ?syz1 ?srz1 ?shz1); (case sgz1 => rfl); (case soz1 => rfl); (case sxz1 => rfl); (case syz1 => rfl); (case srz1 => exact HLS.out)))
  exact bodyPost_ret (results_op1 rfl _ _ R _ _ _ rfl (setRow_heap _ _ _ _ _ _ HP1.out.res) HP1.out.ref) rfl (HP1.out.out HF.out HN.out (by rw [HR.out]; exact Nat.le_refl _) HT0.out HE.out)

set_option maxHeartbeats 4000000 in
set_option maxRecDepth 100000 in
theorem read2 (F : Nat → Prop) (g : Nat) (st : St) (w : World) (h : RdL w g st) (hF : F g) (hn : New F w) :
    Calls Tryd.prog 56 #[.pointer (some ⟨g, 0, none⟩), .int .i64 2] w fun e w' => RdOut F g 2 st w e w' := by
  obtain ⟨w1, hw1⟩ : ∃ u, u = ((w.alloc (.cells (opc zop nv).toArray 26)).alloc (.cells (opc zop nv).toArray 26)).setRow (w.heap.size + 1) (opc (kop 2) nv).toArray := ⟨_, rfl⟩
  obtain ⟨R, hR⟩ : ∃ S, S = w.heap.size := ⟨_, rfl⟩
  have hb0 : Blk ((w.alloc (.cells (opc zop nv).toArray 26)).alloc (.cells (opc zop nv).toArray 26)) (w.heap.size + 1) 26 (opc zop nv).toArray := Blk.at_ (by simp) _ _
  have hst := run_store_op hb0 (opc_size _ _ zid_len) (kop 2) nv (kop_ref 2) nv_one
  have hta : Turn (w.heap.size ≤ ·) w w1 := by rw [hw1]; exact (((Turn.refl (w.heap.size ≤ ·) w).alloc (fun _ h => h) _).alloc (fun _ h => h) _).trans ((turn_row _ _ _).mono fun b hb => by subst hb; exact Nat.le_succ _)
  have HP0 : RdP w1 g R (R + 1) (kop 2) st nv w1 := by
    have h1 := h.lt
    refine ⟨by rw [hw1, hR]; exact setRow_heap _ _ _ _ _ _ hb0, OwnI.nil _ _, h.turn hta (by omega), ?_, Turn.refl _ _, by omega, by omega, Nat.zero_le _, kop_ref _⟩
    rw [hw1, hR]
    exact ((Blk.new w _ _).alloc _).turn (turn_row _ _ _) (by omega)
  have HT0 := Lib.hid (hta.mono fun b hb => hn b hb)
  have HR := Lib.hid hR
  have HF := Lib.hid hF
  have HN := Lib.hid hn
  have HW := Lib.hid hw1
  have HST := Lib.hid hst
  have HP0 := Lib.hid HP0
  clear h hF hn hw1 hR hb0 hst hta
  go_enter Tryd.func56, Tryd.ntmps56
  go_upto_region 2 with (first
    | ((with_reducible refine step_build (t := 26) (parts := #[(0, .tmp 6)]) (ps := ?bpr2) (v := ?bvr2) ?bgr2 ?bor2 ?bxr2 ?brr2 ?bhr2); (case bgr2 => rfl); (case bor2 => rfl); (case bxr2 => rfl); (case brr2 => exact run_build_k _ 2))
    | ((with_reducible refine step_store_run (t := 26) (x := .tmp 5) (y := .tmp 7) (p := ?spr2) (v := ?svr2) (w' := ?swr2) ?sgr2 ?sor2 ?sxr2 ?syr2 ?srr2 ?shr2); (case sgr2 => rfl); (case sor2 => rfl); (case sxr2 => rfl); (case syr2 => rfl); (case srr2 => exact HST.out)))
  refine wp_at HW.out.symm ?_
  rw [← HR.out]
  clear HW HST
  obtain ⟨s0, hs0⟩ : ∃ s, s = st := ⟨_, rfl⟩
  obtain ⟨y0, hy0⟩ : ∃ y, y = (rdT s0).1 := ⟨_, rfl⟩
  obtain ⟨s1, hs1⟩ : ∃ s, s = (rdT s0).2 := ⟨_, rfl⟩
  obtain ⟨t0, ht0⟩ : ∃ t, t = oct.tx y0 := ⟨_, rfl⟩
  have HE : Hid (parts' (kop 2) (has 2) st = ({ (kop 2) with val := y0 }, s1)) := Lib.hid (by subst hs0 hy0 hs1; rfl)
  have HS1 := Lib.hid hs1
  have HY0 := Lib.hid hy0
  have HTX0 := Lib.hid ht0
  rw [← hs0] at HP0
  clear hs0 hs1 hy0 ht0
  have HC0 := Lib.hid (rtext_s (fun b => b = g ∨ w1.heap.size ≤ b) g s0 w1 HP0.out.rdr (.inl rfl) (fun b hb => .inr hb))
  have HC0 := HC0.out
  rw [← HY0.out, ← HS1.out, ← HTX0.out] at HC0
  have HC0 := Lib.hid HC0
  go_wp2_with (first
    | (go_at_call 85; (with_reducible refine HC0.out.mono ?_); rintro e u0 ⟨rfl, hr0, ht0⟩; have hq0 := HP0.out.read ht0 hr0; have cc0 := (OpBlk.of hq0.op hq0.ref).val; have hf0 := hq0.op.frozen 3; have hp1 := hq0.putv y0; rw [← HTX0.out] at hp1; have HP1 := Lib.hid hp1; have HLD := Lib.hid (run_load_op HP1.out.op HP1.out.ref); have HLS := Lib.hid HP1.out.last; clear hq0 hp1 hr0 ht0 HC0)
    | ((with_reducible refine step_load (t := 26) (x := .tmp 5) (p := ?lplz2) (v := ?lvlz2) ?lglz2 ?lolz2 ?lxlz2 ?lrlz2 ?lhlz2); (case lglz2 => rfl); (case lolz2 => rfl); (case lxlz2 => rfl); (case lrlz2 => exact HLD.out))
    | ((with_reducible refine step_store_run (t := 26) (x := .tmp 4) (y := .tmp 54) (p := ?spz2) (v := ?svz2) (w' := ?swz2) ?sgz2 ?soz2 ?sxz2 ?syz2 ?srz2 ?shz2); (case sgz2 => rfl); (case soz2 => rfl); (case sxz2 => rfl); (case syz2 => rfl); (case srz2 => exact HLS.out)))
  exact bodyPost_ret (results_op1 rfl _ _ R _ _ _ rfl (setRow_heap _ _ _ _ _ _ HP1.out.res) HP1.out.ref) rfl (HP1.out.out HF.out HN.out (by rw [HR.out]; exact Nat.le_refl _) HT0.out HE.out)

set_option maxHeartbeats 4000000 in
set_option maxRecDepth 100000 in
theorem read7 (F : Nat → Prop) (g : Nat) (st : St) (w : World) (h : RdL w g st) (hF : F g) (hn : New F w) :
    Calls Tryd.prog 56 #[.pointer (some ⟨g, 0, none⟩), .int .i64 7] w fun e w' => RdOut F g 7 st w e w' := by
  obtain ⟨w1, hw1⟩ : ∃ u, u = ((w.alloc (.cells (opc zop nv).toArray 26)).alloc (.cells (opc zop nv).toArray 26)).setRow (w.heap.size + 1) (opc (kop 7) nv).toArray := ⟨_, rfl⟩
  obtain ⟨R, hR⟩ : ∃ S, S = w.heap.size := ⟨_, rfl⟩
  have hb0 : Blk ((w.alloc (.cells (opc zop nv).toArray 26)).alloc (.cells (opc zop nv).toArray 26)) (w.heap.size + 1) 26 (opc zop nv).toArray := Blk.at_ (by simp) _ _
  have hst := run_store_op hb0 (opc_size _ _ zid_len) (kop 7) nv (kop_ref 7) nv_one
  have hta : Turn (w.heap.size ≤ ·) w w1 := by rw [hw1]; exact (((Turn.refl (w.heap.size ≤ ·) w).alloc (fun _ h => h) _).alloc (fun _ h => h) _).trans ((turn_row _ _ _).mono fun b hb => by subst hb; exact Nat.le_succ _)
  have HP0 : RdP w1 g R (R + 1) (kop 7) st nv w1 := by
    have h1 := h.lt
    refine ⟨by rw [hw1, hR]; exact setRow_heap _ _ _ _ _ _ hb0, OwnI.nil _ _, h.turn hta (by omega), ?_, Turn.refl _ _, by omega, by omega, Nat.zero_le _, kop_ref _⟩
    rw [hw1, hR]
    exact ((Blk.new w _ _).alloc _).turn (turn_row _ _ _) (by omega)
  have HT0 := Lib.hid (hta.mono fun b hb => hn b hb)
  have HR := Lib.hid hR
  have HF := Lib.hid hF
  have HN := Lib.hid hn
  have HW := Lib.hid hw1
  have HST := Lib.hid hst
  have HP0 := Lib.hid HP0
  clear h hF hn hw1 hR hb0 hst hta
  go_enter Tryd.func56, Tryd.ntmps56
  go_upto_region 2 with (first
    | ((with_reducible refine step_build (t := 26) (parts := #[(0, .tmp 6)]) (ps := ?bpr7) (v := ?bvr7) ?bgr7 ?bor7 ?bxr7 ?brr7 ?bhr7); (case bgr7 => rfl); (case bor7 => rfl); (case bxr7 => rfl); (case brr7 => exact run_build_k _ 7))
    | ((with_reducible refine step_store_run (t := 26) (x := .tmp 5) (y := .tmp 7) (p := ?spr7) (v := ?svr7) (w' := ?swr7) ?sgr7 ?sor7 ?sxr7 ?syr7 ?srr7 ?shr7); (case sgr7 => rfl); (case sor7 => rfl); (case sxr7 => rfl); (case syr7 => rfl); (case srr7 => exact HST.out)))
  refine wp_at HW.out.symm ?_
  rw [← HR.out]
  clear HW HST
  obtain ⟨s0, hs0⟩ : ∃ s, s = st := ⟨_, rfl⟩
  obtain ⟨y0, hy0⟩ : ∃ y, y = (rdI s0).1 := ⟨_, rfl⟩
  obtain ⟨s1, hs1⟩ : ∃ s, s = (rdI s0).2 := ⟨_, rfl⟩
  have HL0 : Hid (y0.length = 32) := Lib.hid (by rw [hy0]; exact rdI_len _)
  have HE : Hid (parts' (kop 7) (has 7) st = ({ (kop 7) with ref := y0 }, s1)) := Lib.hid (by subst hs0 hy0 hs1; rfl)
  have HS1 := Lib.hid hs1
  have HY0 := Lib.hid hy0
  rw [← hs0] at HP0
  clear hs0 hs1 hy0
  have HC0 := Lib.hid (rid_s (fun b => b = g ∨ w1.heap.size ≤ b) g s0 w1 HP0.out.rdr (.inl rfl) (fun b hb => .inr hb))
  have HC0 := HC0.out
  rw [← HY0.out, ← HS1.out] at HC0
  have HC0 := Lib.hid HC0
  go_wp2_with (first
    | ((with_reducible refine step_store_run (t := 23) (x := .tmp 53) (y := .tmp 52) (p := ?spi70) (v := ?svi70) (w' := ?swi70) ?sgi70 ?soi70 ?sxi70 ?syi70 ?sri70 ?shi70); (case sgi70 => rfl); (case soi70 => rfl); (case sxi70 => rfl); (case syi70 => rfl); (case sri70 => exact HRUN0.out))
    | (go_at_call 87; (with_reducible refine HC0.out.mono ?_); rintro e u0 ⟨rfl, hr0, ht0⟩; have hq0 := HP0.out.read ht0 hr0; have HRUN0 := Lib.hid (opm_ref hq0.op hq0.ref y0 HL0.out); have hp1 := hq0.puti y0 HL0.out; have HP1 := Lib.hid hp1; obtain ⟨ww0, hww0⟩ : ∃ u, u = u0.setRow (R + 1) (opc { (kop 7) with ref := y0 } nv).toArray := ⟨_, rfl⟩; rw [← hww0] at hp1 HRUN0; have HP1 := Lib.hid hp1; have HLD := Lib.hid (run_load_op HP1.out.op HP1.out.ref); have HLS := Lib.hid HP1.out.last; clear hq0 hp1 hr0 ht0 HC0 hww0)
    | ((with_reducible refine step_load (t := 26) (x := .tmp 5) (p := ?lplz7) (v := ?lvlz7) ?lglz7 ?lolz7 ?lxlz7 ?lrlz7 ?lhlz7); (case lglz7 => rfl); (case lolz7 => rfl); (case lxlz7 => rfl); (case lrlz7 => exact HLD.out))
    | ((with_reducible refine step_store_run (t := 26) (x := .tmp 4) (y := .tmp 54) (p := ?spz7) (v := ?svz7) (w' := ?swz7) ?sgz7 ?soz7 ?sxz7 ?syz7 ?srz7 ?shz7); (case sgz7 => rfl); (case soz7 => rfl); (case sxz7 => rfl); (case syz7 => rfl); (case srz7 => exact HLS.out)))
  exact bodyPost_ret (results_op1 rfl _ _ R _ _ _ rfl (setRow_heap _ _ _ _ _ _ HP1.out.res) HP1.out.ref) rfl (HP1.out.out HF.out HN.out (by rw [HR.out]; exact Nat.le_refl _) HT0.out HE.out)
end Go.Proofs.YtmaolmogccknbaaDoor.opn
