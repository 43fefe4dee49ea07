/-
  The walk of EntryBack, by what entry's functions answer.
-/
import Derived.Test.YtbhkegdohiekfaaDoorEnis
import Derived.Test.YtbhkegdohiekfaaDoorEnwp
namespace Go.Proofs.YtbhkegdohiekfaaDoor.ent
open Go.RowKit Go.Proofs.YtbhkegdohiekfaaDoor.mem Go.Proofs.YtbhkegdohiekfaaDoor.sha Go.Proofs.YtbhkegdohiekfaaDoor.ids Go.Proofs.YtbhkegdohiekfaaDoor.rows
open Go.Proofs.YtbhkegdohiekfaaDoor.opn (b1 b2 b4 num txt idl byte rd rdN rdT rdI rdS rdL St Reads Stays endE zid mkId)
open Go.Proofs.YtbhkegdohiekfaaDoor.kit (Strs)

set_option maxHeartbeats 8000000 in
set_option maxRecDepth 100000 in
theorem back_walk {T : World → Prop} (hI : EnIs T) (e : En) (s : ByteArray) (w : World) (hT : T w) (hr : e.commit.length = 32) (ht : e.topic.length ≤ 140737488351232) (hb : e.body.length ≤ 140737488351232) (hs : s.size ≤ 140737488351232) :
    Calls Tryd.prog 5 #[env e, .string s] w fun x w' => x = .returned (.bool true) ∧ Below w.heap.size w w' := by
  obtain ⟨w1, hw1⟩ : ∃ u, u = w.alloc (.cells (enc e).toArray 25) := ⟨_, rfl⟩
  obtain ⟨S, hS⟩ : ∃ S, S = w.heap.size := ⟨_, rfl⟩
  have hB : Below w.heap.size w w1 := by rw [hw1]; exact (Below.refl _ _).alloc (Nat.le_refl _) _
  have hX : PuS T S e w w1 := ⟨by rw [hw1, hS]; exact Blk.new w _ _, hI.next hT hB, hB⟩
  have HI := Lib.hid hI
  have HR := Lib.hid hr
  have HX := Lib.hid hX
  have HW := Lib.hid hw1
  have HS := Lib.hid hS
  have c1 := (EnBlk.of hX.op hr).topic
  have c2 := (EnBlk.of hX.op hr).body
  obtain ⟨ts, hts⟩ : ∃ b, b = oct.tx e.topic := ⟨_, rfl⟩
  obtain ⟨bs, hbs⟩ : ∃ b, b = oct.tx e.body := ⟨_, rfl⟩
  rw [← hts] at c1
  rw [← hbs] at c2
  have htz : ts.size = e.topic.length := by rw [hts, oct.tx_size]
  have hbz : bs.size = e.body.length := by rw [hbs, oct.tx_size]
  have hbI : (bs.size : Int) ≤ 140737488351232 := by omega
  have sI : (s.size : Int) ≤ 140737488351232 := by omega
  have hld := run_load_en hX.op hr
  have HP := Lib.hid (fun (u : World) (hu : T u) => hI.put e u hu hr ht hb)
  have HOS := Lib.hid (fun (u : World) (hu : T u) => hI.of s u hu (by omega))
  obtain ⟨t, ht2⟩ : ∃ s, s = oct.tx (putE e).1 := ⟨_, rfl⟩
  obtain ⟨f, hf⟩ : ∃ f, f = (putE e).2 := ⟨_, rfl⟩
  obtain ⟨q, hq⟩ : ∃ q, q = (ofE s.data.toList).1 := ⟨_, rfl⟩
  obtain ⟨g, hg⟩ : ∃ g, g = (ofE s.data.toList).2 := ⟨_, rfl⟩
  have HQ : Hid (q.commit.length = 32) := Lib.hid (by rw [hq]; exact ofE_commit _)
  have hqs := ofE_sizes s.data.toList
  rw [← hq] at hqs
  have HPS := Lib.hid (fun (u : World) (hu : T u) => hI.put q u hu HQ.out (Nat.le_trans hqs.1 (by decide)) (by have := hqs.2; rw [Array.length_toList] at this; have h2 : s.data.size = s.size := rfl; omega))
  have HOT : Hid (f = 0 → ∀ u : World, T u → Calls Tryd.prog 12 #[.string t] u fun x w' => x = .returned (.tuple #[env e, .int .i64 0]) ∧ Below u.heap.size u w') := Lib.hid fun h u hu => by
    have hc : checkE e = 0 := by
      by_cases h0 : checkE e = 0
      · exact h0
      · rw [hf, put_no h0] at h; exact absurd h h0
    have := hI.of t u hu (by rw [ht2, oct.tx_size, put_ok hc]; have := en_len hc hr; simp only; omega)
    rw [ht2, oct.tx_list, put_ok hc, of_put hc hr, ← put_ok hc, ← ht2] at this
    exact this
  have HBK : Hid (g = 0 → ∀ u : World, T u → Calls Tryd.prog 8 #[env q] u fun x w' => x = .returned (.tuple #[.string s, .int .i64 0]) ∧ Below u.heap.size u w') := Lib.hid fun h u hu => by
    have hk := of_back (s := s.data.toList) (q := q) (by rw [hq, ← h, hg])
    have := HPS.out u hu
    rw [put_ok hk.1, ← hk.2.1, oct.tx_eta] at this
    exact this
  have HZZ : Hid (g ≠ 0 → q = zen) := Lib.hid fun h => of_err (s := s.data.toList) (f := g) (by rw [hq, hg]) h
  rw [← ht2, ← hf] at HP
  rw [← hq, ← hg] at HOS
  clear hI hT hB hX hw1 hS ht2 hf hq hg hr ht hb hts hbs htz hbz hs hqs HPS
  unfold env
  by_cases h1 : 5000 < (bs.size : Int)
  · go_enter Tryd.func5, Tryd.ntmps5
    go_upto_region 1 with fail
    refine wp_at HW.out.symm ?_
    rw [← HS.out]
    clear HW
    go_wp2_with (go_at_call 7; refine (awake_any HI.out _ HX.out.t).mono ?_; rintro x w9 ⟨rfl, hb9⟩)
    go_ret
    exact ⟨rfl, HX.out.below.trans (hb9.mono HX.out.below.size)⟩
  have h1 : (bs.size : Int) ≤ 5000 := by omega
  by_cases h2 : 5000 < (s.size : Int)
  · go_enter Tryd.func5, Tryd.ntmps5
    go_upto_region 1 with fail
    refine wp_at HW.out.symm ?_
    rw [← HS.out]
    clear HW
    go_wp2_with (go_at_call 7; refine (awake_any HI.out _ HX.out.t).mono ?_; rintro x w9 ⟨rfl, hb9⟩)
    go_ret
    exact ⟨rfl, HX.out.below.trans (hb9.mono HX.out.below.size)⟩
  have h2 : (s.size : Int) ≤ 5000 := by omega
  by_cases hf0 : f = 0
  · subst hf0
    have HOT := Lib.hid (HOT.out rfl)
    by_cases hg0 : g = 0
    · subst hg0
      have HPS := Lib.hid (HBK.out rfl)
      go_enter Tryd.func5, Tryd.ntmps5
      go_upto_region 1 with fail
      refine wp_at HW.out.symm ?_
      rw [← HS.out]
      clear HW
      go_wp2_with (first
        | (go_at_call 8; (with_reducible refine HPQ.out.mono ?_); rintro x w7 ⟨rfl, hb7⟩; have HX7 := Lib.hid (HX6.out.next HI.out hb7); clear hb7)
        | (go_at_call 12; (with_reducible refine HOF.out.mono ?_); rintro x w5 ⟨rfl, hb5⟩; have HH5 := Lib.hid (run_hold w5 q HQ.out); obtain ⟨w6, hw6⟩ : ∃ u, u = heldW w5 q := ⟨_, rfl⟩; have hk6 := held_blk w5 q; have hb6 := held_below w5 q; rw [← hw6] at HH5 hk6 hb6; have HX6 := Lib.hid (HXA.out.next HI.out (hb5.trans (hb6.mono hb5.size))); have HLQ := Lib.hid (run_load_en hk6 HQ.out); have HPQ := Lib.hid (HPS.out w6 HX6.out.t); clear hb5 hb6 hk6 hw6)
        | (go_at_call 12; (with_reducible refine HO1.out.mono ?_); rintro x w3 ⟨rfl, hb3⟩; have HH3 := Lib.hid (run_hold w3 e HR.out); obtain ⟨w4, hw4⟩ : ∃ u, u = heldW w3 e := ⟨_, rfl⟩; have hk4 := held_blk w3 e; have hb4 := held_below w3 e; rw [← hw4] at HH3 hk4 hb4; have HXA := Lib.hid (HX2.out.next HI.out (hb3.trans (hb4.mono hb3.size))); have HLA := Lib.hid (run_load_en hk4 HR.out); have HLB := Lib.hid (run_load_en HXA.out.op HR.out); have HQE : Hid ((binOp .neq 25 (env e) (env e)).run Tryd.prog w4 = .ok (.bool false) w4) := Lib.hid (by rw [neq_ens w4 e e HR.out HR.out]; simp); have HGD := Lib.hid (run_eqGuard_agg w4 .neq 25 (.tmp 38) (.tmp 39) (enc e).toArray (enc e).toArray Tryd.eqGuardType25); have HOF := Lib.hid (HOS.out w4 HXA.out.t); clear hb3 hb4 hk4 hw4 HO1)
        | ((with_reducible refine step_load (t := 25) (x := .tmp 2) (p := ?lpb11a) (v := ?lvb11a) ?lgb11a ?lob11a ?lxb11a ?lrb11a ?lhb11a); (case lgb11a => rfl); (case lob11a => rfl); (case lxb11a => rfl); (case lrb11a => exact hld))
        | (go_at_call 8; (with_reducible refine (HP.out w1 HX.out.t).mono ?_); rintro x w2 ⟨rfl, hb2⟩; have HX2 := Lib.hid (HX.out.next HI.out hb2); have HO1 := Lib.hid (HOT.out w2 HX2.out.t); clear hb2)
        | ((with_reducible refine step_store_run (t := 25) (x := .tmp 7) (y := .tmp 33) (p := ?spb11b) (v := ?svb11b) (w' := ?swb11b) ?sgb11b ?sob11b ?sxb11b ?syb11b ?srb11b ?shb11b); (case sgb11b => rfl); (case sob11b => rfl); (case sxb11b => rfl); (case syb11b => rfl); (case srb11b => exact HH3.out))
        | ((with_reducible refine step_load_w (t := 25) (x := .tmp 7) (p := ?lpb11c) (v := ?lvb11c) ?lgb11c ?lob11c ?lxb11c ?lrb11c ?lhb11c); (case lob11c => rfl); (case lgb11c => rfl); (case lxb11c => rfl); (case lrb11c => exact HLA.out))
        | ((with_reducible refine step_load_w (t := 25) (x := .tmp 2) (p := ?lpb11d) (v := ?lvb11d) ?lgb11d ?lob11d ?lxb11d ?lrb11d ?lhb11d); (case lob11d => rfl); (case lgb11d => rfl); (case lxb11d => rfl); (case lrb11d => exact HLB.out))
        | ((with_reducible refine step_bin_w (op := .neq) (t := 25) (x := .tmp 38) (y := .tmp 39) (t2 := ?nbb11e) (u := ?nub11e) (v := ?nvb11e) (r := ?nrb11e) ?nwb11e ?nob11e ?nxb11e ?nyb11e ?ngb11e ?nqb11e ?nhb11e); (case nob11e => rfl); (case nwb11e => rfl); (case nxb11e => rfl); (case nyb11e => rfl); (case ngb11e => exact HGD.out); (case nqb11e => exact HQE.out))
        | ((with_reducible refine step_store_run (t := 25) (x := .tmp 9) (y := .tmp 45) (p := ?spb11f) (v := ?svb11f) (w' := ?swb11f) ?sgb11f ?sob11f ?sxb11f ?syb11f ?srb11f ?shb11f); (case sgb11f => rfl); (case sob11f => rfl); (case sxb11f => rfl); (case syb11f => rfl); (case srb11f => exact HH5.out))
        | ((with_reducible refine step_load (t := 25) (x := .tmp 9) (p := ?lpb11g) (v := ?lvb11g) ?lgb11g ?lob11g ?lxb11g ?lrb11g ?lhb11g); (case lgb11g => rfl); (case lob11g => rfl); (case lxb11g => rfl); (case lrb11g => exact HLQ.out))
        | (go_at_call 7; refine (awake_any HI.out _ HX7.out.t).mono ?_; rintro x w9 ⟨rfl, hb9⟩))
      go_ret
      exact ⟨rfl, HX7.out.below.trans (hb9.mono HX7.out.below.size)⟩
    · have hg0 := hg0
      have HQZ := Lib.hid (HZZ.out hg0)
      have hgn : (g != 0) = true := bne_iff_ne.2 hg0
      clear hg0
      go_enter Tryd.func5, Tryd.ntmps5
      go_upto_region 1 with fail
      refine wp_at HW.out.symm ?_
      rw [← HS.out]
      clear HW
      go_wp2_with (first
        | ((with_reducible refine step_load (t := 25) (x := .tmp 2) (p := ?lpb10a) (v := ?lvb10a) ?lgb10a ?lob10a ?lxb10a ?lrb10a ?lhb10a); (case lgb10a => rfl); (case lob10a => rfl); (case lxb10a => rfl); (case lrb10a => exact hld))
        | (go_at_call 12; (with_reducible refine HOF.out.mono ?_); rintro x w5 ⟨rfl, hb5⟩; have HH5 := Lib.hid (run_hold w5 q HQ.out); obtain ⟨w6, hw6⟩ : ∃ u, u = heldW w5 q := ⟨_, rfl⟩; have hk6 := held_blk w5 q; have hb6 := held_below w5 q; rw [← hw6] at HH5 hk6 hb6; have HX6 := Lib.hid (HXA.out.next HI.out (hb5.trans (hb6.mono hb5.size))); have HLQ := Lib.hid (run_load_en hk6 HQ.out); have HZE : Hid ((binOp .eql 25 (env q) (env zen)).run Tryd.prog w6 = .ok (.bool true) w6) := Lib.hid (by rw [eql_ens w6 q zen HQ.out zlen, HQZ.out, beq_self_eq_true]); have HGZ := Lib.hid (run_eqGuard_agg w6 .eql 25 (.tmp 49) (.tmp 50) (enc q).toArray (enc zen).toArray Tryd.eqGuardType25); clear hb5 hb6 hk6 hw6)
        | (go_at_call 12; (with_reducible refine HO1.out.mono ?_); rintro x w3 ⟨rfl, hb3⟩; have HH3 := Lib.hid (run_hold w3 e HR.out); obtain ⟨w4, hw4⟩ : ∃ u, u = heldW w3 e := ⟨_, rfl⟩; have hk4 := held_blk w3 e; have hb4 := held_below w3 e; rw [← hw4] at HH3 hk4 hb4; have HXA := Lib.hid (HX2.out.next HI.out (hb3.trans (hb4.mono hb3.size))); have HLA := Lib.hid (run_load_en hk4 HR.out); have HLB := Lib.hid (run_load_en HXA.out.op HR.out); have HQE : Hid ((binOp .neq 25 (env e) (env e)).run Tryd.prog w4 = .ok (.bool false) w4) := Lib.hid (by rw [neq_ens w4 e e HR.out HR.out]; simp); have HGD := Lib.hid (run_eqGuard_agg w4 .neq 25 (.tmp 38) (.tmp 39) (enc e).toArray (enc e).toArray Tryd.eqGuardType25); have HOF := Lib.hid (HOS.out w4 HXA.out.t); clear hb3 hb4 hk4 hw4 HO1)
        | (go_at_call 8; (with_reducible refine (HP.out w1 HX.out.t).mono ?_); rintro x w2 ⟨rfl, hb2⟩; have HX2 := Lib.hid (HX.out.next HI.out hb2); have HO1 := Lib.hid (HOT.out w2 HX2.out.t); clear hb2)
        | ((with_reducible refine step_store_run (t := 25) (x := .tmp 7) (y := .tmp 33) (p := ?spb10b) (v := ?svb10b) (w' := ?swb10b) ?sgb10b ?sob10b ?sxb10b ?syb10b ?srb10b ?shb10b); (case sgb10b => rfl); (case sob10b => rfl); (case sxb10b => rfl); (case syb10b => rfl); (case srb10b => exact HH3.out))
        | ((with_reducible refine step_load_w (t := 25) (x := .tmp 7) (p := ?lpb10c) (v := ?lvb10c) ?lgb10c ?lob10c ?lxb10c ?lrb10c ?lhb10c); (case lob10c => rfl); (case lgb10c => rfl); (case lxb10c => rfl); (case lrb10c => exact HLA.out))
        | ((with_reducible refine step_load_w (t := 25) (x := .tmp 2) (p := ?lpb10d) (v := ?lvb10d) ?lgb10d ?lob10d ?lxb10d ?lrb10d ?lhb10d); (case lob10d => rfl); (case lgb10d => rfl); (case lxb10d => rfl); (case lrb10d => exact HLB.out))
        | ((with_reducible refine step_bin_w (op := .neq) (t := 25) (x := .tmp 38) (y := .tmp 39) (t2 := ?nbb10e) (u := ?nub10e) (v := ?nvb10e) (r := ?nrb10e) ?nwb10e ?nob10e ?nxb10e ?nyb10e ?ngb10e ?nqb10e ?nhb10e); (case nob10e => rfl); (case nwb10e => rfl); (case nxb10e => rfl); (case nyb10e => rfl); (case ngb10e => exact HGD.out); (case nqb10e => exact HQE.out))
        | ((with_reducible refine step_store_run (t := 25) (x := .tmp 9) (y := .tmp 45) (p := ?spb10f) (v := ?svb10f) (w' := ?swb10f) ?sgb10f ?sob10f ?sxb10f ?syb10f ?srb10f ?shb10f); (case sgb10f => rfl); (case sob10f => rfl); (case sxb10f => rfl); (case syb10f => rfl); (case srb10f => exact HH5.out))
        | ((with_reducible refine step_load (t := 25) (x := .tmp 9) (p := ?lpb10g) (v := ?lvb10g) ?lgb10g ?lob10g ?lxb10g ?lrb10g ?lhb10g); (case lgb10g => rfl); (case lob10g => rfl); (case lxb10g => rfl); (case lrb10g => exact HLQ.out))
        | ((with_reducible refine step_build (t := 25) (parts := #[]) (ps := #[]) (v := ?bvb10h) ?bgb10h ?bob10h ?bxb10h ?brb10h ?bhb10h); (case bgb10h => rfl); (case bob10h => rfl); (case bxb10h => simp); (case brb10h => exact run_build_z _))
        | ((with_reducible refine step_bin_w (op := .eql) (t := 25) (x := .tmp 49) (y := .tmp 50) (t2 := ?nbb10i) (u := ?nub10i) (v := ?nvb10i) (r := ?nrb10i) ?nwb10i ?nob10i ?nxb10i ?nyb10i ?ngb10i ?nqb10i ?nhb10i); (case nob10i => rfl); (case nwb10i => rfl); (case nxb10i => rfl); (case nyb10i => rfl); (case ngb10i => exact HGZ.out); (case nqb10i => exact HZE.out))
        | (go_at_call 7; refine (awake_any HI.out _ HX6.out.t).mono ?_; rintro x w9 ⟨rfl, hb9⟩))
      go_ret
      exact ⟨rfl, HX6.out.below.trans (hb9.mono HX6.out.below.size)⟩
  · have hfn : (f == 0) = false := beq_eq_false_iff_ne.2 hf0
    clear hf0 HOT
    by_cases hg0 : g = 0
    · subst hg0
      have HPS := Lib.hid (HBK.out rfl)
      go_enter Tryd.func5, Tryd.ntmps5
      go_upto_region 1 with fail
      refine wp_at HW.out.symm ?_
      rw [← HS.out]
      clear HW
      go_wp2_with (first
        | (go_at_call 8; (with_reducible refine HPQ.out.mono ?_); rintro x w7 ⟨rfl, hb7⟩; have HX7 := Lib.hid (HX6.out.next HI.out hb7); clear hb7)
        | (go_at_call 12; (with_reducible refine HOF.out.mono ?_); rintro x w5 ⟨rfl, hb5⟩; have HH5 := Lib.hid (run_hold w5 q HQ.out); obtain ⟨w6, hw6⟩ : ∃ u, u = heldW w5 q := ⟨_, rfl⟩; have hk6 := held_blk w5 q; have hb6 := held_below w5 q; rw [← hw6] at HH5 hk6 hb6; have HX6 := Lib.hid (HXA.out.next HI.out (hb5.trans (hb6.mono hb5.size))); have HLQ := Lib.hid (run_load_en hk6 HQ.out); have HPQ := Lib.hid (HPS.out w6 HX6.out.t); clear hb5 hb6 hk6 hw6)
        | ((with_reducible refine step_load (t := 25) (x := .tmp 2) (p := ?lpb01a) (v := ?lvb01a) ?lgb01a ?lob01a ?lxb01a ?lrb01a ?lhb01a); (case lgb01a => rfl); (case lob01a => rfl); (case lxb01a => rfl); (case lrb01a => exact hld))
        | (go_at_call 8; (with_reducible refine (HP.out w1 HX.out.t).mono ?_); rintro x w2 ⟨rfl, hb2⟩; have HX2 := Lib.hid (HX.out.next HI.out hb2); have HOF := Lib.hid (HOS.out w2 HX2.out.t); have HXA := HX2; clear hb2)
        | ((with_reducible refine step_store_run (t := 25) (x := .tmp 9) (y := .tmp 45) (p := ?spb01f) (v := ?svb01f) (w' := ?swb01f) ?sgb01f ?sob01f ?sxb01f ?syb01f ?srb01f ?shb01f); (case sgb01f => rfl); (case sob01f => rfl); (case sxb01f => rfl); (case syb01f => rfl); (case srb01f => exact HH5.out))
        | ((with_reducible refine step_load (t := 25) (x := .tmp 9) (p := ?lpb01g) (v := ?lvb01g) ?lgb01g ?lob01g ?lxb01g ?lrb01g ?lhb01g); (case lgb01g => rfl); (case lob01g => rfl); (case lxb01g => rfl); (case lrb01g => exact HLQ.out))
        | (go_at_call 7; refine (awake_any HI.out _ HX7.out.t).mono ?_; rintro x w9 ⟨rfl, hb9⟩))
      go_ret
      exact ⟨rfl, HX7.out.below.trans (hb9.mono HX7.out.below.size)⟩
    · have hg0 := hg0
      have HQZ := Lib.hid (HZZ.out hg0)
      have hgn : (g != 0) = true := bne_iff_ne.2 hg0
      clear hg0
      go_enter Tryd.func5, Tryd.ntmps5
      go_upto_region 1 with fail
      refine wp_at HW.out.symm ?_
      rw [← HS.out]
      clear HW
      go_wp2_with (first
        | ((with_reducible refine step_load (t := 25) (x := .tmp 2) (p := ?lpb00a) (v := ?lvb00a) ?lgb00a ?lob00a ?lxb00a ?lrb00a ?lhb00a); (case lgb00a => rfl); (case lob00a => rfl); (case lxb00a => rfl); (case lrb00a => exact hld))
        | (go_at_call 12; (with_reducible refine HOF.out.mono ?_); rintro x w5 ⟨rfl, hb5⟩; have HH5 := Lib.hid (run_hold w5 q HQ.out); obtain ⟨w6, hw6⟩ : ∃ u, u = heldW w5 q := ⟨_, rfl⟩; have hk6 := held_blk w5 q; have hb6 := held_below w5 q; rw [← hw6] at HH5 hk6 hb6; have HX6 := Lib.hid (HXA.out.next HI.out (hb5.trans (hb6.mono hb5.size))); have HLQ := Lib.hid (run_load_en hk6 HQ.out); have HZE : Hid ((binOp .eql 25 (env q) (env zen)).run Tryd.prog w6 = .ok (.bool true) w6) := Lib.hid (by rw [eql_ens w6 q zen HQ.out zlen, HQZ.out, beq_self_eq_true]); have HGZ := Lib.hid (run_eqGuard_agg w6 .eql 25 (.tmp 49) (.tmp 50) (enc q).toArray (enc zen).toArray Tryd.eqGuardType25); clear hb5 hb6 hk6 hw6)
        | (go_at_call 8; (with_reducible refine (HP.out w1 HX.out.t).mono ?_); rintro x w2 ⟨rfl, hb2⟩; have HX2 := Lib.hid (HX.out.next HI.out hb2); have HOF := Lib.hid (HOS.out w2 HX2.out.t); have HXA := HX2; clear hb2)
        | ((with_reducible refine step_store_run (t := 25) (x := .tmp 9) (y := .tmp 45) (p := ?spb00f) (v := ?svb00f) (w' := ?swb00f) ?sgb00f ?sob00f ?sxb00f ?syb00f ?srb00f ?shb00f); (case sgb00f => rfl); (case sob00f => rfl); (case sxb00f => rfl); (case syb00f => rfl); (case srb00f => exact HH5.out))
        | ((with_reducible refine step_load (t := 25) (x := .tmp 9) (p := ?lpb00g) (v := ?lvb00g) ?lgb00g ?lob00g ?lxb00g ?lrb00g ?lhb00g); (case lgb00g => rfl); (case lob00g => rfl); (case lxb00g => rfl); (case lrb00g => exact HLQ.out))
        | ((with_reducible refine step_build (t := 25) (parts := #[]) (ps := #[]) (v := ?bvb00h) ?bgb00h ?bob00h ?bxb00h ?brb00h ?bhb00h); (case bgb00h => rfl); (case bob00h => rfl); (case bxb00h => simp); (case brb00h => exact run_build_z _))
        | ((with_reducible refine step_bin_w (op := .eql) (t := 25) (x := .tmp 49) (y := .tmp 50) (t2 := ?nbb00i) (u := ?nub00i) (v := ?nvb00i) (r := ?nrb00i) ?nwb00i ?nob00i ?nxb00i ?nyb00i ?ngb00i ?nqb00i ?nhb00i); (case nob00i => rfl); (case nwb00i => rfl); (case nxb00i => rfl); (case nyb00i => rfl); (case ngb00i => exact HGZ.out); (case nqb00i => exact HZE.out))
        | (go_at_call 7; refine (awake_any HI.out _ HX6.out.t).mono ?_; rintro x w9 ⟨rfl, hb9⟩))
      go_ret
      exact ⟨rfl, HX6.out.below.trans (hb9.mono HX6.out.below.size)⟩
end Go.Proofs.YtbhkegdohiekfaaDoor.ent
