/-
  What package block answers: Cut, Sync, Crash, Write of the landed code; bk_is.
-/
import Derived.Test.YtkbbeioednhefaaGreatDoorBkit
namespace Go.Proofs.YtkbbeioednhefaaGreatDoor.bk
open Go.RowKit Go.Proofs.YtkbbeioednhefaaGreatDoor.mem Go.Proofs.YtkbbeioednhefaaGreatDoor.sha Go.Proofs.YtkbbeioednhefaaGreatDoor.strx

set_option maxHeartbeats 4000000 in
theorem crash_no (p : Value) (n : Int) (w : World) (h : BlkNo w p) : Calls Tryz.prog 58 #[p, .int .i64 n] w fun e w' => e = .returned (.int .i64 0) ∧ w = w' := by
  have HT := Lib.hid (tail_no p w h)
  have HS := Lib.hid (size_no p w h)
  have HC := Lib.hid (cut_no p 0 w h)
  clear h
  rcases (show n < 0 ∨ n = 0 ∨ 0 < n by omega) with h0 | rfl | h0
  · go_enter Tryz.func58, Tryz.ntmps58
    go_wp2_with (first
      | (go_at_call 81; (with_reducible refine HT.out.mono ?_); rintro e w1 ⟨rfl, rfl⟩)
      | (go_at_call 83; (with_reducible refine HS.out.mono ?_); rintro e w1 ⟨rfl, rfl⟩)
      | (go_at_call 82; (with_reducible refine HC.out.mono ?_); rintro e w1 ⟨rfl, rfl⟩))
    go_ret
    exact ⟨rfl, rfl⟩
  · go_enter Tryz.func58, Tryz.ntmps58
    go_wp2_with (first
      | (go_at_call 81; (with_reducible refine HT.out.mono ?_); rintro e w1 ⟨rfl, rfl⟩)
      | (go_at_call 83; (with_reducible refine HS.out.mono ?_); rintro e w1 ⟨rfl, rfl⟩)
      | (go_at_call 82; (with_reducible refine HC.out.mono ?_); rintro e w1 ⟨rfl, rfl⟩))
    go_ret
    exact ⟨rfl, rfl⟩
  · have h1 : ¬ n < 0 := by omega
    have h2 : ¬ n ≤ 0 := by omega
    have h3 : ¬ n = 0 := by omega
    go_enter Tryz.func58, Tryz.ntmps58
    go_wp2_with (first
      | (go_at_call 81; (with_reducible refine HT.out.mono ?_); rintro e w1 ⟨rfl, rfl⟩)
      | (go_at_call 83; (with_reducible refine HS.out.mono ?_); rintro e w1 ⟨rfl, rfl⟩)
      | (go_at_call 82; (with_reducible refine HC.out.mono ?_); rintro e w1 ⟨rfl, rfl⟩))
    go_ret
    exact ⟨rfl, rfl⟩

/-- the Block with other bytes -/
theorem BlkIs.put {G : Nat → Prop} {w : World} {g : Nat} {v v' : Value} {s : List UInt8} {k k' : Nat} (hb : BBlk w g v k) (hg : G g) (hd : DB w (fun j => G j ∧ j ≠ g) v' s) (hk : k' ≤ s.length) :
    BlkIs G ((w.setCell ⟨g, 1, none⟩ v').setCell ⟨g, 2, none⟩ (.int .i64 (k' : Int))) (.pointer (some ⟨g, 0, none⟩)) s k' ∧ Turn G w ((w.setCell ⟨g, 1, none⟩ v').setCell ⟨g, 2, none⟩ (.int .i64 (k' : Int))) := by
  have h2 := (Blk.set_ hb 1 v').set_ 2 (.int .i64 (k' : Int))
  have ht : Turn (· = g) w ((w.setCell ⟨g, 1, none⟩ v').setCell ⟨g, 2, none⟩ (.int .i64 (k' : Int))) := ((Turn.refl (· = g) w).setCell (p := ⟨g, 1, none⟩) rfl _).setCell (p := ⟨g, 2, none⟩) rfl _
  exact ⟨⟨g, v', rfl, h2, hd.turn ht fun j _ hj => hj.2, hg, hk⟩, ht.mono fun j hj => hj ▸ hg⟩

set_option maxHeartbeats 4000000 in
theorem lcut_any (G : Nat → Prop) (p : Value) (s : List UInt8) (k : Nat) (n : Int) (w : World) (h : BlkIs G w p s k) : Calls Tryz.prog 82 #[p, .int .i64 n] w fun e w' => e = .returned (.int .i64 (cutB s k n).2.2) ∧ BlkIs G w' p (cutB s k n).1 (cutB s k n).2.1 ∧ Turn G w w' := by
  have hi := h
  obtain ⟨g, v, rfl, hb, hd, hg, hk⟩ := h
  have h1 := hb.c1
  have HM := Lib.hid (made_ok g _ k w hb)
  have HI := Lib.hid hi
  unfold cutB
  by_cases h0 : n < 0
  · rw [if_pos (.inl h0)]
    obtain ⟨a, c, rfl, _, _⟩ := hd.form
    clear hb hd hi
    go_enter Tryz.func82, Tryz.ntmps82
    go_wp2_with (go_at_call 51; (with_reducible refine HM.out.mono ?_); rintro e w1 ⟨rfl, rfl⟩)
    go_ret
    exact ⟨rfl, HI.out, Turn.refl _ _⟩
  · by_cases hl : (s.length : Int) < n
    · rw [if_pos (.inr hl)]
      obtain ⟨a, c, rfl, _, _⟩ := hd.form
      clear hb hd hi
      go_enter Tryz.func82, Tryz.ntmps82
      go_wp2_with (go_at_call 51; (with_reducible refine HM.out.mono ?_); rintro e w1 ⟨rfl, rfl⟩)
      go_ret
      exact ⟨rfl, HI.out, Turn.refl _ _⟩
    · rw [if_neg (by omega)]
      obtain ⟨m, rfl⟩ : ∃ m : Nat, n = (m : Int) := ⟨n.toNat, by omega⟩
      have hm : m ≤ s.length := by omega
      have f1 : w.frozen? ⟨g, 1, none⟩ = false := Blk.frozen hb 1
      have f2 : w.frozen? ⟨g, 2, none⟩ = false := Blk.frozen hb 2
      have h2 := hb.c2
      have htk : (s.take m).length = m := by rw [List.length_take]; omega
      simp only [Int.toNat_natCast]
      rcases hd with ⟨rfl, rfl⟩ | ⟨g2, cap, rfl, hR⟩
      · obtain rfl : m = 0 := by simpa using hm
        have HP := Lib.hid (BlkIs.put (k' := 0) hb hg (v' := .slice none 0 0) (s := []) (.inl ⟨rfl, rfl⟩) (Nat.le_refl _))
        clear hb hi hm htk
        go_enter Tryz.func82, Tryz.ntmps82
        go_wp2_with (go_at_call 51; (with_reducible refine HM.out.mono ?_); rintro e w1 ⟨rfl, rfl⟩)
        go_ret
        exact ⟨rfl, HP.out.1, HP.out.2⟩
      · have hcap : s.length ≤ cap := by
          obtain ⟨cur, _, _, h3, _⟩ := hR
          exact h3
        have hR2 := hR.take m
        have hsl := fun u n => run_to u g2 n cap m (by omega)
        have HP := Lib.hid (BlkIs.put (k' := m) hb hg (v' := .slice (some ⟨g2, 0, none⟩) m cap) (s := s.take m) (.inr ⟨g2, cap, by rw [htk], hR2⟩) (by omega))
        obtain ⟨N, hN⟩ : ∃ N, N = s.length := ⟨_, rfl⟩
        rw [← hN] at h1 hl
        clear hb hi hm htk hcap hR2 hR hN hk
        go_enter Tryz.func82, Tryz.ntmps82
        go_wp2_with (go_at_call 51; (with_reducible refine HM.out.mono ?_); rintro e w1 ⟨rfl, rfl⟩)
        go_ret
        exact ⟨rfl, HP.out.1, HP.out.2⟩
theorem cutB_all (s : List UInt8) (k : Nat) : cutB s k (s.length : Int) = (s, s.length, 0) := by
  unfold cutB
  rw [if_neg (by omega), Int.toNat_natCast, List.take_of_length_le (Nat.le_refl _)]
set_option maxHeartbeats 4000000 in
theorem sync_any (G : Nat → Prop) (p : Value) (s : List UInt8) (k : Nat) (w : World) (hn : New G w) (h : BlkIs G w p s k) : Calls Tryz.prog 57 #[p] w fun e w' => e = .returned (.int .i64 ((s.length : Int) - (k : Int))) ∧ BlkIs G w' p s s.length ∧ Turn G w w' := by
  have HT := Lib.hid (tail_any G p s k w h)
  have HS := Lib.hid fun u => size_any G p s k u
  have HC := Lib.hid fun u (hu : BlkIs G u p s k) => lcut_any G p s k (s.length : Int) u hu
  rw [cutB_all] at HC
  have HI := Lib.hid h
  clear h
  go_enter Tryz.func57, Tryz.ntmps57
  go_wp2_with (first
    | (go_at_call 81; (with_reducible refine HT.out.mono ?_); rintro e w1 ⟨rfl, hb1⟩; have HI1 := Lib.hid (HI.out.next hb1))
    | (go_at_call 83; (with_reducible refine (HS.out _ HI1.out).mono ?_); rintro e w2 ⟨rfl, rfl⟩)
    | (go_at_call 82; (with_reducible refine (HC.out _ HI1.out).mono ?_); rintro e w3 ⟨rfl, hi3, ht3⟩))
  go_ret
  exact ⟨rfl, hi3, (Turn.fresh hb1 hn).trans ht3⟩
set_option maxHeartbeats 4000000 in
theorem lcrash_any (G : Nat → Prop) (p : Value) (s : List UInt8) (k : Nat) (n : Int) (w : World) (hn : New G w) (h : BlkIs G w p s k) : Calls Tryz.prog 58 #[p, .int .i64 n] w fun e w' => e = .returned (.int .i64 (crashB s k n).2.2) ∧ BlkIs G w' p (crashB s k n).1 (crashB s k n).2.1 ∧ Turn G w w' := by
  have hl : s.length ≤ maxLen := by
    obtain ⟨_, _, _, _, hd, _⟩ := h
    exact hd.len
  have hk : k ≤ s.length := by
    obtain ⟨_, _, _, _, _, _, hk⟩ := h
    exact hk
  unfold maxLen at hl
  obtain ⟨q, hq⟩ : ∃ q, q = keepB s k n := ⟨_, rfl⟩
  have HC := Lib.hid fun u (hu : BlkIs G u p s k) => lcut_any G p s k ((k + q : Nat) : Int) u hu
  have hcut : cutB s k ((k + q : Nat) : Int) = (s.take (k + q), k + q, 0) := by
    have := keepB_le s k n hk
    unfold cutB
    rw [if_neg (by omega), Int.toNat_natCast]
  rw [hcut] at HC
  unfold crashB
  rw [← hq]
  unfold keepB at hq
  obtain ⟨N, hN⟩ : ∃ N, N = s.length := ⟨_, rfl⟩
  have HT := Lib.hid fun u => tail_any G p s k u
  have HS := Lib.hid fun u => size_any G p s k u
  rw [← hN] at HT HS hq hl hk
  rw [← hN]
  have HI := Lib.hid h
  clear h hcut hN
  have e1 : IntKind.i64.wrap ((N : Int) - (k : Int) - 0) = (N : Int) - (k : Int) - 0 := by rw [IntKind.wrap_i64]; omega
  rcases (show n < 0 ∨ 0 ≤ n ∧ n ≤ (N : Int) - (k : Int) ∨ 0 ≤ n ∧ (N : Int) - (k : Int) < n by omega) with h0 | ⟨h0, h1⟩ | ⟨h0, h1⟩
  · obtain rfl : q = 0 := by omega
    have h2 : (0 : Int) ≤ (N : Int) - (k : Int) := by omega
    have h3 : (k : Int) ≤ (N : Int) := by omega
    have e3 : IntKind.i64.wrap ((N : Int) - (k : Int) - 0) = (N : Int) - (k : Int) := by rw [IntKind.wrap_i64]; omega
    have e4 : IntKind.i64.wrap ((N : Int) - (k : Int)) = (N : Int) - (k : Int) := by rw [IntKind.wrap_i64]; omega
    have e5 : IntKind.i64.wrap ((N : Int) - ((N : Int) - (k : Int))) = (k : Int) := by rw [IntKind.wrap_i64]; omega
    clear hq hl
    rw [Nat.add_zero] at HC ⊢
    go_enter Tryz.func58, Tryz.ntmps58
    go_wp2_with (first
      | (go_at_call 81; (with_reducible refine (HT.out _ HI.out).mono ?_); rintro e w1 ⟨rfl, hb1⟩; have HI1 := Lib.hid (HI.out.next hb1); clear HI)
      | (go_at_call 81; (with_reducible refine (HT.out _ HI1.out).mono ?_); rintro e w2 ⟨rfl, hb2⟩; have HI2 := Lib.hid (HI1.out.next hb2); clear HI1)
      | (go_at_call 83; (with_reducible refine (HS.out _ HI2.out).mono ?_); rintro e w3 ⟨rfl, rfl⟩)
      | (go_at_call 82; (with_reducible refine (HC.out _ HI2.out).mono ?_); rintro e w4 ⟨rfl, hi4, ht4⟩))
    go_ret
    exact ⟨by simp, hi4, ((Turn.fresh hb1 hn).trans (Turn.fresh hb2 (hn.of hb1.size))).trans ht4⟩
  · obtain ⟨m, rfl⟩ : ∃ m : Nat, n = (m : Int) := ⟨n.toNat, by omega⟩
    obtain rfl : q = m := by omega
    have h2 : ¬ (q : Int) < 0 := by omega
    have e3 : IntKind.i64.wrap ((N : Int) - (k : Int) - (q : Int)) = (N : Int) - (k : Int) - (q : Int) := by rw [IntKind.wrap_i64]; omega
    have e5 : IntKind.i64.wrap ((N : Int) - ((N : Int) - (k : Int) - (q : Int))) = (k : Int) + (q : Int) := by rw [IntKind.wrap_i64]; omega
    rw [Int.natCast_add] at HC
    clear hq hl
    go_enter Tryz.func58, Tryz.ntmps58
    go_wp2_with (first
      | (go_at_call 81; (with_reducible refine (HT.out _ HI.out).mono ?_); rintro e w1 ⟨rfl, hb1⟩; have HI1 := Lib.hid (HI.out.next hb1); clear HI)
      | (go_at_call 81; (with_reducible refine (HT.out _ HI1.out).mono ?_); rintro e w2 ⟨rfl, hb2⟩; have HI2 := Lib.hid (HI1.out.next hb2); clear HI1)
      | (go_at_call 83; (with_reducible refine (HS.out _ HI2.out).mono ?_); rintro e w3 ⟨rfl, rfl⟩)
      | (go_at_call 82; (with_reducible refine (HC.out _ HI2.out).mono ?_); rintro e w4 ⟨rfl, hi4, ht4⟩))
    go_ret
    exact ⟨rfl, hi4, ((Turn.fresh hb1 hn).trans (Turn.fresh hb2 (hn.of hb1.size))).trans ht4⟩
  · have hqq : (q : Int) = (N : Int) - (k : Int) := by omega
    have h2 : ¬ n < 0 := by omega
    have h3 : ¬ n ≤ (N : Int) - (k : Int) := by omega
    have e3 : IntKind.i64.wrap ((N : Int) - (k : Int) - ((N : Int) - (k : Int))) = 0 := by rw [IntKind.wrap_i64]; omega
    have e5 : IntKind.i64.wrap ((N : Int)) = (N : Int) := by rw [IntKind.wrap_i64]; omega
    have HQ := Lib.hid hqq
    have e6 : ((k + q : Nat) : Int) = (N : Int) := by omega
    rw [e6] at HC
    clear hq hl hqq e6
    go_enter Tryz.func58, Tryz.ntmps58
    go_wp2_with (first
      | (go_at_call 81; (with_reducible refine (HT.out _ HI.out).mono ?_); rintro e w1 ⟨rfl, hb1⟩; have HI1 := Lib.hid (HI.out.next hb1); clear HI)
      | (go_at_call 81; (with_reducible refine (HT.out _ HI1.out).mono ?_); rintro e w2 ⟨rfl, hb2⟩; have HI2 := Lib.hid (HI1.out.next hb2); clear HI1)
      | (go_at_call 83; (with_reducible refine (HS.out _ HI2.out).mono ?_); rintro e w3 ⟨rfl, rfl⟩)
      | (go_at_call 82; (with_reducible refine (HC.out _ HI2.out).mono ?_); rintro e w4 ⟨rfl, hi4, ht4⟩))
    go_ret
    exact ⟨by rw [HQ.out, Int.sub_self]; rfl, hi4, ((Turn.fresh hb1 hn).trans (Turn.fresh hb2 (hn.of hb1.size))).trans ht4⟩

set_option maxHeartbeats 4000000 in
set_option maxRecDepth 100000 in
/-- slices.Grow over the file's bytes -/
theorem lgrow_any (F : Nat → Prop) (v : Value) (s : List UInt8) (m : Nat) (w : World) (h : DB w F v s) (hm : s.length + m ≤ 50000000) (hn : New F w) :
    Calls Tryz.prog 93 #[v, .int .i64 (m : Int)] w fun e w' => ∃ a c, e = .returned (.slice a s.length c) ∧ DB w' F (.slice a s.length c) s ∧ s.length + m ≤ c ∧ Below w.heap.size w w' := by
  have hd := h
  obtain ⟨a, c, rfl, hle, hc⟩ := h.form
  unfold maxLen at hc
  obtain ⟨N, hN⟩ : ∃ N, N = s.length := ⟨_, rfl⟩
  have m0 : ¬ (m : Int) < 0 := by omega
  have e1 : IntKind.i64.wrap ((c : Int) - (N : Int)) = (c : Int) - (N : Int) := by rw [IntKind.wrap_i64]; omega
  have e2 : IntKind.i64.wrap ((m : Int) - ((c : Int) - (N : Int))) = (m : Int) - ((c : Int) - (N : Int)) := by rw [IntKind.wrap_i64]; omega
  by_cases hr : (m : Int) - ((c : Int) - (N : Int)) ≤ 0
  · have hr' : ¬ 0 < (m : Int) - ((c : Int) - (N : Int)) := by omega
    have hcc : N + m ≤ c := by omega
    have HD := Lib.hid hd
    rw [← hN] at HD ⊢
    clear h hd hN hr hle
    go_enter Tryz.func93, Tryz.ntmps93
    go_wp2
    go_ret
    exact ⟨_, _, rfl, HD.out, hcc, Below.refl _ _⟩
  · obtain ⟨q, hq⟩ : ∃ q : Nat, (q : Int) = (m : Int) - ((c : Int) - (N : Int)) := ⟨((m : Int) - ((c : Int) - (N : Int))).toNat, by omega⟩
    have e3 : IntKind.i64.wrap ((m : Int) - ((c : Int) - (N : Int))) = (q : Int) := e2.trans hq.symm
    rw [← hq] at hr
    clear e2
    have hr' : 0 < (q : Int) := by omega
    have hr2 : (c : Int) - (N : Int) < (m : Int) := by omega
    obtain ⟨cap2, w2, hrun, hR, hc2, hB⟩ := run_grow w 95 F (.slice a s.length c) s c q a rfl hd (by omega) (by omega) hn
    have hcap : ∀ u : World, (Instr.sliceAt 95 (.slice a N c) none (some (.int .i64 (c : Int))) none).run Tryz.prog u = .ok (.slice a c c) u := by
      rcases hd with ⟨e, hs0⟩ | ⟨g, cap, e, _⟩
      · subst hs0
        simp only [List.length_nil, Value.slice.injEq, true_and] at e
        obtain ⟨rfl, rfl⟩ := e
        obtain rfl : N = 0 := hN
        intro u
        obtain ⟨y, hy, _, hs, _⟩ := info_parts info5
        simp only [Instr.sliceAt, Instr.slice, Instr.sliceBounds, Instr.sliceBound, asIntOf, sizeOf, typeInfo, Sem.run_bind, Sem.run_pure, Result.andThen_ok, run_underlying Tryz.underlying95]
        simp [hy, hs]
      · cases e
        exact fun u => run_to u g N c c (Nat.le_refl _)
    have hcut := fun u => run_to u w.heap.size (c + q) cap2 N (by omega)
    have HD : Hid (DB w2 F (.slice (some ⟨w.heap.size, 0, none⟩) s.length cap2) s) := Lib.hid (.inr ⟨w.heap.size, cap2, rfl, hR⟩)
    have hfin : N + m ≤ cap2 := by omega
    rw [← hN] at HD ⊢
    have HB := Lib.hid hB
    have HF := Lib.hid hfin
    clear h hd hN hr hle hR hB hfin hc2 hq hm
    go_enter Tryz.func93, Tryz.ntmps93
    go_wp2_with ((with_reducible refine Lib.wpList_append_run _ ?agg2 (.tmp 20) (.tmp 21) 95 3 ?aog2 ?asg2 ?axg2 ?apg2 ?aqg2 ?avg2 ?awg2 ?arg2 ?ahg2); (case agg2 => rfl); (case aog2 => rfl); (case apg2 => rfl); (case aqg2 => rfl); (case arg2 => exact hrun))
    go_ret
    exact ⟨_, _, rfl, HD.out, HF.out, HB.out⟩

theorem DB.room {w : World} {F : Nat → Prop} {a : Option Addr} {N c : Nat} {s : List UInt8} (h : DB w F (.slice a N c) s) (_hN : N = s.length) (hc : 0 < c) : ∃ g, a = some ⟨g, 0, none⟩ ∧ RowB w F g c s := by
  rcases h with ⟨e, _⟩ | ⟨g, cap, e, hR⟩
  · cases e
    omega
  · cases e
    exact ⟨g, rfl, hR⟩
theorem run_30 (u : World) (g cap n : Nat) (hc : n ≤ cap) : (Instr.sliceAt 95 (.slice (some ⟨g, 0, none⟩) n cap) (some (.int .i64 (n : Int))) (some (.int .i64 (n : Int))) (some (.int .i64 (n : Int)))).run Tryz.prog u = .ok (.slice (some ⟨g, 0, none⟩) 0 0) u := by
  obtain ⟨y, hy, _, hs, _⟩ := info_parts info5
  have h0 : (0 : Int) ≤ (n : Int) := Int.natCast_nonneg _
  have h3 : (n : Int) ≤ (cap : Int) := by omega
  simp only [Instr.sliceAt, Instr.slice, Instr.sliceBounds, Instr.sliceBound, asIntOf, sizeOf, typeInfo, Sem.run_bind, Sem.run_pure, Result.andThen_ok, run_underlying Tryz.underlying95]
  simp [hy, hs, h3, Addr.add]
theorem DB.zero {w : World} {F : Nat → Prop} {a : Option Addr} {N c : Nat} {s : List UInt8} (h : DB w F (.slice a N c) s) (hN : N = s.length) (hc : N + 0 ≤ c) :
    ∃ a2, (∀ u : World, (Instr.sliceAt 95 (.slice a N c) none (some (.int .i64 (N : Int))) none).run Tryz.prog u = .ok (.slice a N c) u) ∧
      (∀ u : World, (Instr.sliceAt 95 (.slice a N c) (some (.int .i64 (N : Int))) (some (.int .i64 (N : Int))) (some (.int .i64 (N : Int)))).run Tryz.prog u = .ok (.slice a2 0 0) u) := by
  rcases h with ⟨e, rfl⟩ | ⟨g, cap, e, hR⟩
  · cases e
    obtain ⟨y, hy, _, hs, _⟩ := info_parts info5
    refine ⟨none, fun u => ?_, fun u => ?_⟩
    · simp only [Instr.sliceAt, Instr.slice, Instr.sliceBounds, Instr.sliceBound, asIntOf, sizeOf, typeInfo, Sem.run_bind, Sem.run_pure, Result.andThen_ok, run_underlying Tryz.underlying95]
      simp [hy, hs]
    · simp only [Instr.sliceAt, Instr.slice, Instr.sliceBounds, Instr.sliceBound, asIntOf, sizeOf, typeInfo, Sem.run_bind, Sem.run_pure, Result.andThen_ok, run_underlying Tryz.underlying95]
      simp [hy, hs]
  · cases e
    exact ⟨some ⟨g, 0, none⟩, fun u => run_to u g s.length c s.length hc, fun u => run_30 u g c s.length hc⟩
set_option maxHeartbeats 4000000 in
theorem room_any (G : Nat → Prop) (g : Nat) (v : Value) (s : List UInt8) (k m : Nat) (w : World) (hb : BBlk w g v k) (hd : DB w (fun j => G j ∧ j ≠ g) v s) (hg : G g) (hm : s.length + m ≤ 50000000) (hp : 0 < m) (hn : New G w) :
    Calls Tryz.prog 80 #[.pointer (some ⟨g, 0, none⟩), .int .i64 (m : Int)] w fun e w' => ∃ g2 cap, e = .returned (.slice (some ⟨g2, s.length, none⟩) m m) ∧ BBlk w' g (.slice (some ⟨g2, 0, none⟩) (s.length + m) cap) k ∧ RowB w' (fun j => G j ∧ j ≠ g) g2 cap s ∧ s.length + m ≤ cap ∧ Turn G w w' := by
  have h1 := hb.c1
  have hn' : New (fun j => G j ∧ j ≠ g) w := fun j hj => ⟨hn j hj, by have := Blk.lt hb; omega⟩
  have HG := Lib.hid (lgrow_any _ v s m w hd hm hn')
  obtain ⟨a, c, rfl, hle, hc⟩ := hd.form
  obtain ⟨N, hN⟩ : ∃ N, N = s.length := ⟨_, rfl⟩
  rw [← hN] at HG h1 hb hd hm ⊢
  have e1 : IntKind.i64.wrap ((N : Int) + (m : Int)) = ((N + m : Nat) : Int) := by rw [IntKind.wrap_i64]; omega
  have HN := Lib.hid hN
  have HB := Lib.hid hb
  clear hb hd hn' hN hle hc
  go_enter Tryz.func80, Tryz.ntmps80
  go_wp2_with (go_at_call 93; (with_reducible refine HG.out.mono ?_); rintro e w1 ⟨a1, c1, rfl, hD1, hc1, hB1⟩; obtain ⟨g2, rfl, hR⟩ := hD1.room HN.out (by omega); have HB1 := Lib.hid (Blk.below HB.out hB1 (Blk.lt HB.out)); have d1 := BBlk.c1 HB1.out; have f1 := Blk.frozen HB1.out 1; have hs1 := fun u => run_to u g2 N c1 (N + m) hc1; have hs2 := fun u => run_3 u g2 (N + m) c1 N (N + m) (by omega) hc1; rw [Nat.add_sub_cancel_left] at hs2; rw [Int.natCast_add] at hs1 hs2; have HR := Lib.hid hR; have HB2 := Lib.hid hB1; have HC := Lib.hid hc1; clear hR hB1 hD1 hc1)
  go_ret
  have ht : Turn (· = g) w1 (w1.setCell ⟨g, 1, none⟩ (.slice (some ⟨g2, 0, none⟩) (N + m) c1)) := (Turn.refl (· = g) w1).setCell (p := ⟨g, 1, none⟩) rfl _
  exact ⟨g2, c1, rfl, Blk.set_ HB1.out 1 _, HR.out.turn ht HR.out.of_.2, HC.out, (Turn.fresh HB2.out hn).trans (ht.mono fun j hj => hj ▸ hg)⟩
set_option maxHeartbeats 4000000 in
theorem room_zero (G : Nat → Prop) (g : Nat) (v : Value) (s : List UInt8) (k : Nat) (w : World) (hb : BBlk w g v k) (hd : DB w (fun j => G j ∧ j ≠ g) v s) (hg : G g) (hk : k ≤ s.length) (hm : s.length ≤ 50000000) (hn : New G w) :
    Calls Tryz.prog 80 #[.pointer (some ⟨g, 0, none⟩), .int .i64 0] w fun e w' => ∃ a, e = .returned (.slice a 0 0) ∧ BlkIs G w' (.pointer (some ⟨g, 0, none⟩)) s k ∧ Turn G w w' := by
  have h1 := hb.c1
  have hn' : New (fun j => G j ∧ j ≠ g) w := fun j hj => ⟨hn j hj, by have := Blk.lt hb; omega⟩
  have HG := Lib.hid (lgrow_any _ v s 0 w hd hm hn')
  rw [show ((0 : Nat) : Int) = 0 from rfl] at HG
  obtain ⟨a, c, rfl, hle, hc⟩ := hd.form
  obtain ⟨N, hN⟩ : ∃ N, N = s.length := ⟨_, rfl⟩
  rw [← hN] at HG h1 hb hd hm hk
  have HN := Lib.hid hN
  have HB := Lib.hid hb
  have e1 : IntKind.i64.wrap (N : Int) = (N : Int) := by rw [IntKind.wrap_i64]; omega
  clear hb hd hn' hN hle hc
  have fin : ∀ (w1 : World) (v' : Value), Below w.heap.size w w1 → BBlk w1 g (.slice a N c) k → DB w1 (fun j => G j ∧ j ≠ g) v' s → BlkIs G (w1.setCell ⟨g, 1, none⟩ v') (.pointer (some ⟨g, 0, none⟩)) s k ∧ Turn G w (w1.setCell ⟨g, 1, none⟩ v') := by
    intro w1 v' hB1 hb1 hD
    have ht : Turn (· = g) w1 (w1.setCell ⟨g, 1, none⟩ v') := (Turn.refl (· = g) w1).setCell (p := ⟨g, 1, none⟩) rfl _
    exact ⟨⟨g, v', rfl, Blk.set_ hb1 1 _, hD.turn ht fun j _ hj => hj.2, hg, HN.out ▸ hk⟩, (Turn.fresh hB1 hn).trans (ht.mono fun j hj => hj ▸ hg)⟩
  have HF := Lib.hid fin
  clear fin
  go_enter Tryz.func80, Tryz.ntmps80
  go_wp2_with (go_at_call 93; (with_reducible refine HG.out.mono ?_); rintro e w1 ⟨a1, c1, rfl, hD1, hc1, hB1⟩; have HB1 := Lib.hid (Blk.below HB.out hB1 (Blk.lt HB.out)); have d1 := BBlk.c1 HB1.out; have f1 := Blk.frozen HB1.out 1; obtain ⟨a2, hs1, hs2⟩ := hD1.zero HN.out hc1; have HD := Lib.hid hD1; have HB2 := Lib.hid hB1; clear hD1 hB1 hc1)
  go_ret
  exact ⟨_, rfl, HF.out _ _ HB2.out HB1.out HD.out⟩
theorem run_copy_0 (w : World) (ty : TypeId) (a : Option Addr) (c : Nat) (t : ByteArray) (ht : t.size = 0) : (Builtin.copy_ #[95, 9] ty #[.slice a 0 c, .string t]).run Tryz.prog w = .ok (goInt 0) w := by
  obtain ⟨i, hi, _, hs, _⟩ := info_parts info5
  have hl : t.data.toList = [] := List.eq_nil_of_length_eq_zero (by rw [← size_list]; exact ht)
  cases a <;> simp [Builtin.copy_, run_underlying Tryz.underlying95, Builtin.lenOf, Builtin.firstCells, sizeOf, typeInfo, hi, storeCells]
set_option maxHeartbeats 4000000 in
theorem lwrite_any (G : Nat → Prop) (p : Value) (s : List UInt8) (k : Nat) (t : ByteArray) (w : World) (hn : New G w) (h : BlkIs G w p s k) (hm : s.length + t.size ≤ 50000000) : Calls Tryz.prog 56 #[p, .string t] w fun e w' => e = .returned (.int .i64 0) ∧ BlkIs G w' p (s ++ t.data.toList) k ∧ Turn G w w' := by
  obtain ⟨g, v, rfl, hb, hd, hg, hk⟩ := h
  have HM := Lib.hid (made_ok g _ k w hb)
  by_cases h0 : t.size = 0
  · have hl : t.data.toList = [] := List.eq_nil_of_length_eq_zero (by rw [← size_list]; exact h0)
    rw [hl, List.append_nil]
    have HR := Lib.hid (room_zero G g v s k w hb hd hg hk (by omega) hn)
    have hcp := fun u ty a => run_copy_0 u ty a 0 t h0
    have hsz : ((t.size : Nat) : Int) = 0 := by omega
    clear hb hd hk hm h0 hl
    go_enter Tryz.func56, Tryz.ntmps56
    go_wp2_with (first
      | (go_at_call 51; (with_reducible refine HM.out.mono ?_); rintro e w1 ⟨rfl, rfl⟩)
      | (go_at_call 80; (with_reducible refine HR.out.mono ?_); rintro e w2 ⟨a2, rfl, hi2, ht2⟩))
    go_ret
    exact ⟨rfl, hi2, ht2⟩
  · have HR := Lib.hid (room_any G g v s k t.size w hb hd hg hm (by omega) hn)
    have HK := Lib.hid hk
    have HS : Hid (t.size = t.data.toList.length) := Lib.hid (size_list t)
    clear hb hd hk hm h0
    go_enter Tryz.func56, Tryz.ntmps56
    go_wp2_with (first
      | (go_at_call 51; (with_reducible refine HM.out.mono ?_); rintro e w1 ⟨rfl, rfl⟩)
      | (go_at_call 80; (with_reducible refine HR.out.mono ?_); rintro e w2 ⟨g2, cap, rfl, hb2, hR2, hc2, ht2⟩; obtain ⟨w3, hrun, hR3, ht3⟩ := run_copy_b w2 3 _ g2 cap t.size s t hR2 hc2; have hF : G g2 ∧ g2 ≠ g := hR2.of_; have HB3 := Lib.hid (Blk.turn hb2 ht3 hF.2.symm); have HT := Lib.hid (ht2.trans (ht3.mono fun j hj => hj ▸ hF.1)); have H3 := Lib.hid hR3; clear hb2 hR2 hc2 ht2 hR3 ht3 hF))
    go_ret
    refine ⟨rfl, ⟨g, _, rfl, HB3.out, .inr ⟨g2, cap, by rw [List.length_append, HS.out], H3.out⟩, hg, by rw [List.length_append]; have := HK.out; omega⟩, HT.out⟩

theorem bk_is : BkIs (fun _ => True) BlkIs where
  next := fun _ _ => trivial
  le := fun h => by obtain ⟨_, _, _, _, _, _, hk⟩ := h; exact hk
  cap := fun {G w p s k} h => by
    obtain ⟨g, v, hp, hb, hd, hg, hk⟩ := h
    exact ⟨g, v, hp, hb, hd.mono fun j hj h => ⟨⟨h.1, hj⟩, h.2⟩, ⟨hg, Blk.lt hb⟩, hk⟩
  mono := fun {G H w p s k} h hh => by
    obtain ⟨g, v, hp, hb, hd, hg, hk⟩ := h
    exact ⟨g, v, hp, hb, hd.mono fun j _ h => ⟨hh j h.1, h.2⟩, hh g hg, hk⟩
  turn := fun {G H w w' p s k} h ht hd => by
    obtain ⟨g, v, hp, hb, hD, hg, hk⟩ := h
    exact ⟨g, v, hp, Blk.turn hb ht (hd g (Blk.lt hb) hg), hD.turn ht fun j hj h => hd j hj h.1, hg, hk⟩
  new := fun w _ => new_any w
  write := fun G p s k t w _ hn h hm => lwrite_any G p s k t w hn h hm
  sync := fun G p s k w _ hn h => sync_any G p s k w hn h
  cut := fun G p s k n w _ _ h => lcut_any G p s k n w h
  crash := fun G p s k n w _ hn h => lcrash_any G p s k n w hn h
  data := fun G p s k w _ h => data_any G p s k w h
  size := fun G p s k w _ h => (size_any G p s k w h).mono fun e w' ⟨he, hw⟩ => ⟨he, hw ▸ Below.refl _ _⟩
  tail := fun G p s k w _ h => tail_any G p s k w h
end Go.Proofs.YtkbbeioednhefaaGreatDoor.bk
