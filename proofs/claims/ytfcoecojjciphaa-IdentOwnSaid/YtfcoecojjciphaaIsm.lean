/-
  slices.Concat of two lists of ids; ident.Both (as 'Set(slices.Concat(l, m))'); what package ident answers, all of it, of the landed code.
-/
import Derived.Test.YtfcoecojjciphaaIsl
import Derived.Test.YtfcoecojjciphaaIse
import Derived.Test.YtfcoecojjciphaaIdti
namespace Go.Proofs.Ytfcoecojjciphaa.ids
open Go.Proofs Go.RowKit Go.Proofs.Ytfcoecojjciphaa.mem Go.Proofs.Ytfcoecojjciphaa.sha Go.Proofs.Ytfcoecojjciphaa.srt

/-- 'append([]Id(nil), make([]Id, m)...)' -/
theorem run_grow_nil (w : World) (ty : TypeId) (m : Nat) (h0 : 0 < m) (hm : m ≤ 1000000) :
    ∃ cap2 w2, (Builtin.append_ #[33, 3] ty #[.slice none 0 0, .int .i64 (m : Int)]).run Try.prog w = .ok (.slice (some ⟨w.heap.size, 0, none⟩) m cap2) w2 ∧
      OwnI w2 (w.heap.size ≤ ·) (.slice (some ⟨w.heap.size, 0, none⟩) 0 cap2) [] ∧ Below w.heap.size w w2 := by
  obtain ⟨y, hy, hz, hs, hb⟩ := info_parts info_id
  have hold : (Builtin.firstCells y.size 0 (.slice none 0 0)).run Try.prog w.drew = .ok ([] : List Value).toArray w.drew := by
    rw [hs]
    rfl
  have hroom : 0 < 0 + m := by omega
  have hfit : Builtin.nextslicecap (0 + m) 0 * y.bytes ≤ 281474976710656 := growslice_fits hroom (by rw [hb]; omega)
  have hr := Lib.run_append_grow_zeros (P := Try.prog) w 33 3 ty 23 y _ .i64 .i64 Try.underlying33 Try.underlying3 hy hz none 0 0 [] hold m h0 (by rw [hs]; decide) hroom (by omega) (by rw [hb]; omega) hfit
  have hge := grownCap_ge w (0 + m) 0 23
  have hmax := grownCap_le_maxLen w (0 + m) 0 23 (by unfold maxLen; omega)
  rw [Nat.zero_add] at hr hge hmax
  refine ⟨_, _, hr, ⟨okIds.nil, ⟨rfl, .inr ⟨w.heap.size, grownCap w m 0 23, _, rfl, Nat.zero_le _, heap_alloc_new w.drew _, Nat.zero_le _, hmax, ?_, rfl⟩⟩, fun k hk => by injection hk with hk; subst hk; exact Nat.le_refl _⟩, ((Below.refl _ w).drew).alloc (Nat.le_refl _) _⟩
  rw [Array.size_append, Array.size_append, List.size_toArray, zeroCells_len, zeroCells_len, List.length_nil]
  omega

set_option maxHeartbeats 4000000 in
set_option maxRecDepth 100000 in
theorem grow_any (m : Nat) (w : World) (hm : m ≤ 1000000) :
    Calls Try.prog 56 #[.slice none 0 0, .int .i64 m] w fun e w' => ∃ v', e = .returned v' ∧ OwnI w' (w.heap.size ≤ ·) v' [] ∧ Below w.heap.size w w' := by
  have m0 : ¬ (m : Int) < 0 := by omega
  have hmw : IntKind.i64.wrap (m : Int) = (m : Int) := by rw [IntKind.wrap_i64]; omega
  by_cases h0 : 0 < m
  · have hp : (0 : Int) < (m : Int) := by omega
    obtain ⟨cap2, w2, hrun, hO, hB⟩ := run_grow_nil w 33 m h0 hm
    have hpc := fun u => run_cap u w.heap.size m cap2 0 (Nat.zero_le _)
    have HO := Lib.hid hO
    have HB := Lib.hid hB
    clear hO hB h0
    go_enter Try.func56, Try.ntmps56
    go_wp2_with ((with_reducible refine Lib.wpList_append_run _ ?agg2 (.tmp 20) (.tmp 21) 33 3 ?aog2 ?asg2 ?axg2 ?apg2 ?aqg2 ?avg2 ?awg2 ?arg2 ?ahg2); (case agg2 => rfl); (case aog2 => rfl); (case apg2 => rfl); (case aqg2 => rfl); (case arg2 => exact hrun))
    go_ret
    exact ⟨_, rfl, HO.out, HB.out⟩
  · obtain rfl : m = 0 := by omega
    clear h0
    go_enter Try.func56, Try.ntmps56
    go_wp2_with fail
    go_ret
    exact ⟨_, rfl, OwnI.nil _ _, Below.refl _ _⟩

set_option maxHeartbeats 4000000 in
set_option maxRecDepth 100000 in
theorem concat_any {L M : List (List UInt8)} {v u : Value} {w : World} {g : Nat} (hR : RdV w v L) (hU : RdV w u M) (hB : Blk w g 33 #[v, u]) (hm : L.length ≤ 1000) (hmm : M.length ≤ 1000) :
    Calls Try.prog 43 #[.slice (some ⟨g, 0, none⟩) 2 2] w fun e w' => ∃ v', e = .returned v' ∧ OwnI w' (w.heap.size ≤ ·) v' (L ++ M) ∧ Below w.heap.size w w' := by
  obtain ⟨a1, c1, rfl⟩ := hR.form
  obtain ⟨a2, c2, rfl⟩ := hU.form
  obtain ⟨n, hn⟩ : ∃ n, n = L.length := ⟨_, rfl⟩
  obtain ⟨m, hm'⟩ : ∃ m, m = M.length := ⟨_, rfl⟩
  rw [← hn, ← hm'] at hB
  rw [← hn] at hR
  rw [← hm'] at hU
  have hc0 : w.cell? ⟨g, 0, none⟩ = some (.slice a1 n c1) := hB.cell 0
  have hc1 : w.cell? ⟨g, 1, none⟩ = some (.slice a2 m c2) := hB.cell 1
  have HN := Lib.hid hn
  have HM := Lib.hid hm'
  have hn1 : n ≤ 1000 := by omega
  have hm1 : m ≤ 1000 := by omega
  have hgl : g < w.heap.size := hB.lt
  have HR := Lib.hid hR
  have HU := Lib.hid hU
  have n0 : ¬ (n : Int) < 0 := by omega
  have nm0 : ¬ (n : Int) + (m : Int) < 0 := by omega
  have nw : IntKind.i64.wrap (n : Int) = (n : Int) := by rw [IntKind.wrap_i64]; omega
  have nmw : IntKind.i64.wrap ((n : Int) + (m : Int)) = (n : Int) + (m : Int) := by rw [IntKind.wrap_i64]; omega
  have HG := Lib.hid (grow_any (n + m) w (by omega))
  rw [Int.natCast_add] at HG
  clear hR hU hB hn hm' hm hmm
  go_enter Try.func43, Try.ntmps43
  go_wp2_with fail
  go_loopg [3, 11] 3 (fun gk s3 s11 wr => w = wr ∧ ((s11 = .int .i64 0 ∧ s3 = .int .i64 0 ∧ 2 ≤ gk) ∨ (s11 = .int .i64 1 ∧ s3 = .int .i64 n ∧ 1 ≤ gk) ∨ (s11 = .int .i64 2 ∧ s3 = .int .i64 ((n : Int) + m))))
  case atStart => exact ⟨rfl, .inl ⟨rfl, rfl, by omega⟩⟩
  case round =>
    obtain ⟨rfl, ⟨rfl, rfl, hgk⟩ | ⟨rfl, rfl, hgk⟩ | ⟨rfl, rfl⟩⟩ := hrel
    · go_wp2_with fail
      go_roundg 1
      case measure => omega
      case rel => exact ⟨rfl, .inr (.inl ⟨rfl, rfl, by omega⟩)⟩
    · go_wp2_with fail
      go_roundg 0
      case measure => omega
      case rel => exact ⟨rfl, .inr (.inr ⟨rfl, rfl⟩)⟩
    · go_wp2_with (go_at_call 56; (with_reducible refine HG.out.mono ?_); rintro e w1 ⟨v1, rfl, hO1, hB1⟩)
      have HO1 := Lib.hid hO1
      have HB1 := Lib.hid hB1
      clear hO1 hB1 HG
      go_loopg [6, 27] 3 (fun gk s6 s27 wr => ∃ v', s6 = v' ∧ Hid (Below w.heap.size w wr) ∧ ((s27 = .int .i64 0 ∧ Hid (OwnI wr (w.heap.size ≤ ·) v' []) ∧ 2 ≤ gk) ∨ (s27 = .int .i64 1 ∧ Hid (OwnI wr (w.heap.size ≤ ·) v' L) ∧ 1 ≤ gk) ∨ (s27 = .int .i64 2 ∧ Hid (OwnI wr (w.heap.size ≤ ·) v' (L ++ M)))))
      case atStart => exact ⟨v1, rfl, HB1, .inl ⟨rfl, HO1, by omega⟩⟩
      case round =>
        obtain ⟨v', rfl, HB2, ⟨rfl, HO2, hgk⟩ | ⟨rfl, HO2, hgk⟩ | ⟨rfl, HO2⟩⟩ := hrel
        · have hd0 : wr.cell? ⟨g, 0, none⟩ = some (.slice a1 n c1) := ((Turn.ofBelow HB2.out).cell (b := g) (i := 0) (by omega)).trans hc0
          obtain ⟨v3, w3, hrun, hO3, hT3⟩ := run_append_rd HO2.out (HR.out.next HB2.out) (by have := HN.out; simp; omega) (fun j hj => Nat.le_trans HB2.out.size hj) 33
          have HO3 := Lib.hid hO3
          have HB3 := Lib.hid (HB2.out.trans (hT3.below fun k hk => hk.elim (fun h => HO2.out.2.2 k h) (fun h => Nat.le_trans HB2.out.size h)))
          clear hO3 hT3
          go_wp2_with ((with_reducible refine step_append (s := .tmp 31) (x := .tmp 32) (t := 33) (vs := ?as1) (vx := ?ax1) (v' := ?av1) (w' := ?aw1) ?ag1 ?ao1 ?ap1 ?aq1 ?ar1 ?ah1); (case ag1 => rfl); (case ao1 => rfl); (case ap1 => rfl); (case aq1 => rfl); (case ar1 => exact hrun))
          go_roundg 1
          case measure => omega
          case rel => exact ⟨v3, rfl, HB3, .inr (.inl ⟨rfl, HO3, by omega⟩)⟩
        · have hd1 : wr.cell? ⟨g, 1, none⟩ = some (.slice a2 m c2) := ((Turn.ofBelow HB2.out).cell (b := g) (i := 1) (by omega)).trans hc1
          obtain ⟨v3, w3, hrun, hO3, hT3⟩ := run_append_rd HO2.out (HU.out.next HB2.out) (by have := HN.out; have := HM.out; omega) (fun j hj => Nat.le_trans HB2.out.size hj) 33
          have HO3 := Lib.hid hO3
          have HB3 := Lib.hid (HB2.out.trans (hT3.below fun k hk => hk.elim (fun h => HO2.out.2.2 k h) (fun h => Nat.le_trans HB2.out.size h)))
          clear hO3 hT3
          go_wp2_with ((with_reducible refine step_append (s := .tmp 31) (x := .tmp 32) (t := 33) (vs := ?as2) (vx := ?ax2) (v' := ?av2) (w' := ?aw2) ?ag2 ?ao2 ?ap2 ?aq2 ?ar2 ?ah2); (case ag2 => rfl); (case ao2 => rfl); (case ap2 => rfl); (case aq2 => rfl); (case ar2 => exact hrun))
          go_roundg 0
          case measure => omega
          case rel => exact ⟨v3, rfl, HB3, .inr (.inr ⟨rfl, HO3⟩)⟩
        · go_wp2_with fail
          go_ret
          exact ⟨_, rfl, HO2.out, HB2.out⟩

set_option maxHeartbeats 4000000 in
set_option maxRecDepth 100000 in
theorem both_any (L M : List (List UInt8)) (v u : Value) (w : World) (hR : RdV w v L) (hU : RdV w u M) (hm : L.length ≤ 1000) (hmm : M.length ≤ 1000) :
    Calls Try.prog 29 #[v, u] w fun e w' => ∃ v', e = .returned v' ∧ OwnI w' (w.heap.size ≤ ·) v' (bothL L M) ∧ Below w.heap.size w w' := by
  obtain ⟨a1, c1, rfl⟩ := hR.form
  obtain ⟨a2, c2, rfl⟩ := hU.form
  have HV := Lib.hid (show setL (L ++ M) = bothL L M by unfold setL bothL setL; rw [List.foldl_append])
  have hb1 : Below w.heap.size w (w.alloc (.cells #[.slice a1 L.length c1, .slice a2 M.length c2] 33)) := (Below.refl _ w).alloc (Nat.le_refl _) _
  have HC := Lib.hid (concat_any (g := w.heap.size) (hR.next hb1) (hU.next hb1) (Blk.new w _ _) hm hmm)
  have HB1 := Lib.hid hb1
  clear hR hU hb1
  go_enter Try.func29, Try.ntmps29
  go_wp2_with (first
    | (go_at_call 18; (with_reducible refine HS.out.mono ?_); rintro e w3 ⟨v3, rfl, hO3, hB3⟩)
    | (go_at_call 43; (with_reducible refine HC.out.mono ?_); rintro e w2 ⟨v2, rfl, hO2, hB2⟩; have HB2 := Lib.hid (HB1.out.trans (hB2.mono HB1.out.size)); have HS := Lib.hid (set_any (L ++ M) v2 w2 (hO2.rdv (by rw [List.length_append]; omega)).1 (by rw [List.length_append]; omega)); clear hO2 hB2 HC))
  go_ret
  rw [HV.out] at hO3
  exact ⟨_, rfl, hO3.mono fun k hk => Nat.le_trans HB2.out.size hk, HB2.out.trans (hB3.mono HB2.out.size)⟩

theorem ident_is : IdentIs (fun _ => True) where
  toIdentA := identA
  has := fun L x v w _ hR hm hx => has_any L x v w hR hx (by omega)
  with_ := fun L x v w _ hR hm hx => (with_any L x v w hR hm hx).mono fun _ _ ⟨v', he, hO, hB⟩ => ⟨v', he, hO.mine (by have := withL_len (setL L) x; have := setL_len L; omega), hB⟩
  without := fun L x v w _ hR hm hx => (without_any L x v w hR hm hx).mono fun _ _ ⟨v', he, hO, hB⟩ => ⟨v', he, hO.mine (by have h1 : (woutL (setL L) x).length ≤ (setL L).length := List.length_filter_le _ _; have := setL_len L; omega), hB⟩
  less := fun L M v u w _ hR hU hm hmm => (less_any L M v u w hR hU hm hmm).mono fun _ _ ⟨v', he, hO, hB⟩ => ⟨v', he, hO.mine (by have h1 : (lessL L M).length ≤ (setL L).length := List.length_filter_le _ _; have := setL_len L; omega), hB⟩
  both := fun L M v u w _ hR hU hm hmm => (both_any L M v u w hR hU hm hmm).mono fun _ _ ⟨v', he, hO, hB⟩ => ⟨v', he, hO.mine (by have h1 := foldl_with_len M (setL L); have := setL_len L; unfold bothL; omega), hB⟩
end Go.Proofs.Ytfcoecojjciphaa.ids
