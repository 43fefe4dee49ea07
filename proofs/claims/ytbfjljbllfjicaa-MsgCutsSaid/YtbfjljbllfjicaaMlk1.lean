/-
  The pieces of a list of ids by their places (built clean over a copy of cutN alone, for want of a seat with messages).
  slices.Clone of a list of ids.
  Lists of messages: one more with its ids; pieces of a list of ids as Chunk gives them.
-/
import Derived.Test.YtbfjljbllfjicaaMsct
import Derived.Test.YtbfjljbllfjicaaIds
import Derived.Test.YtbfjljbllfjicaaMlk0
import Derived.Test.YtbfjljbllfjicaaMla
namespace Go.Proofs.Ytbfjljbllfjicaa.msg

/-- the i-th piece of what was cut so far -/
def pcN (L : List (List UInt8)) (n i : Nat) : List (List UInt8) := ((L.take n).drop (16 * i)).take 16
theorem pcN_get (L : List (List UInt8)) (n i t : Nat) : (pcN L n i)[t]? = if t < 16 ∧ 16 * i + t < n then L[16 * i + t]? else none := by
  unfold pcN
  rw [List.getElem?_take]
  by_cases h : t < 16
  · rw [if_pos h, List.getElem?_drop, List.getElem?_take]
    by_cases h2 : 16 * i + t < n
    · rw [if_pos h2, if_pos ⟨h, h2⟩]
    · rw [if_neg h2, if_neg (fun c => h2 c.2)]
  · rw [if_neg h, if_neg (fun c => h c.1)]
theorem pcN_low (L : List (List UInt8)) {n i : Nat} (h : 16 * i + 16 ≤ n) : pcN L (n + 1) i = pcN L n i := by
  apply List.ext_getElem?
  intro t
  rw [pcN_get, pcN_get]
  by_cases ht : t < 16
  · rw [if_pos ⟨ht, by omega⟩, if_pos ⟨ht, by omega⟩]
  · rw [if_neg (fun c => ht c.1), if_neg (fun c => ht c.1)]
theorem pcN_len (L : List (List UInt8)) (n i : Nat) (hn : n ≤ L.length) : (pcN L n i).length = min 16 (n - 16 * i) := by
  unfold pcN
  rw [List.length_take, List.length_drop, List.length_take]
  omega
theorem pcN_snoc (L : List (List UInt8)) {n i : Nat} (hn : n < L.length) (h : 16 * i ≤ n) (h2 : n < 16 * i + 16) : pcN L (n + 1) i = pcN L n i ++ [L.getD n []] := by
  apply List.ext_getElem?
  intro t
  have hl := pcN_len L n i (by omega)
  rw [pcN_get]
  by_cases ht : 16 * i + t < n
  · rw [List.getElem?_append_left (by omega), pcN_get, if_pos ⟨by omega, by omega⟩, if_pos ⟨by omega, ht⟩]
  · rw [List.getElem?_append_right (by omega)]
    by_cases he : 16 * i + t = n
    · rw [if_pos ⟨by omega, by omega⟩, he, show t - (pcN L n i).length = 0 by omega, List.getD_eq_getElem?_getD, List.getElem?_eq_getElem hn]
      rfl
    · rw [if_neg (by omega), List.getElem?_eq_none (by simp; omega)]
/-- the pieces by their places -/
theorem cutN_at (k : Int) (L : List (List UInt8)) : ∀ n, n ≤ L.length → cutN k L n = (List.range ((n + 15) / 16)).map fun i => ⟨k, pcN L n i, []⟩
  | 0, _ => rfl
  | n + 1, h => by
    have ih := cutN_at k L n (by omega)
    unfold cutN
    by_cases h0 : n % 16 = 0
    · rw [if_pos h0, addL_snoc, ih, show (n + 1 + 15) / 16 = (n + 15) / 16 + 1 by omega, List.range_succ, List.map_append]
      congr 1
      · exact List.map_congr_left fun i hi => by
          have := List.mem_range.1 hi
          rw [pcN_low L (by omega)]
      · rw [List.map_singleton, pcN_snoc L (by omega) (by omega) (by omega)]
        have : pcN L n ((n + 15) / 16) = [] := List.eq_nil_of_length_eq_zero (by rw [pcN_len L n _ (by omega)]; omega)
        rw [this]
    · obtain ⟨j, hj⟩ : ∃ j, (n + 15) / 16 = j + 1 := ⟨(n + 15) / 16 - 1, by omega⟩
      rw [if_neg h0, ih, hj, List.range_succ, List.map_append, List.map_singleton, addL_snoc, show (n + 1 + 15) / 16 = j + 1 by omega, List.range_succ, List.map_append, List.map_singleton]
      congr 1
      · exact List.map_congr_left fun i hi => by
          have := List.mem_range.1 hi
          rw [pcN_low L (by omega)]
      · rw [pcN_snoc L (by omega) (by omega) (by omega)]
/-- .. of all, as a program cuts them: the i-th from 16 i on, at most 16 -/
theorem cutN_all (k : Int) (L : List (List UInt8)) : cutN k L L.length = (List.range ((L.length + 15) / 16)).map fun i => ⟨k, (L.drop (16 * i)).take 16, []⟩ := by
  rw [cutN_at k L L.length (Nat.le_refl _)]
  exact List.map_congr_left fun i _ => by unfold pcN; rw [List.take_length]
end Go.Proofs.Ytbfjljbllfjicaa.msg

namespace Go.Proofs.Ytbfjljbllfjicaa.ids
open Go.RowKit Go.Proofs.Ytbfjljbllfjicaa.mem Go.Proofs.Ytbfjljbllfjicaa.sha

set_option maxHeartbeats 1000000 in
set_option maxRecDepth 100000 in
theorem iclone_any {L : List (List UInt8)} {v : Value} {w : World} (h : RdV w v L) (hmax : L.length < 1000000) : Calls Try.prog 42 #[v] w fun x w' =>
    ∃ v', x = .returned v' ∧ OwnI w' (w.heap.size ≤ ·) v' L ∧ Below w.heap.size w w' := by
  obtain ⟨ad, cap, rfl⟩ := h.form
  cases ad with
  | none =>
    have hL : L = [] := by
      cases L with
      | nil => rfl
      | cons x L => obtain ⟨b, off, e, _⟩ := h.load (i := 0) (by simp); cases e
    subst hL
    have hc : cap = 0 := by
      obtain ⟨_, _, ad', cap', hv, _, _, h5, _⟩ := h
      cases hv
      exact h5 rfl
    subst hc
    have hnil := fun w => Lib.run_eql_slice_nil (P := Try.prog) w 22 58 none 0 0 0 0 Try.underlying22
    clear h
    go_enter Try.func42, Try.ntmps42
    go_wp2_with fail
    go_ret
    exact ⟨_, rfl, OwnI.nil _ _, Below.refl _ _⟩
  | some a =>
    have hnil := fun w => Lib.run_eql_slice_nil (P := Try.prog) w 22 58 (some a) L.length cap 0 0 Try.underlying22
    have hn0 : New (w.heap.size ≤ ·) w := fun _ h => h
    have hO0 := OwnI.laid0 w (w.heap.size ≤ ·) hn0
    have hb1 : Below w.heap.size w (w.alloc (.cells #[] 58)) := (Below.refl _ _).alloc (Nat.le_refl _) _
    obtain ⟨v', w', hrun, hO, ht⟩ := run_append_rd hO0 (h.next hb1) (by rw [List.length_nil]; omega) (hn0.alloc _) 22
    have hbt : Below w.heap.size w w' := hb1.trans ((ht.mono fun k hk => hk.elim (hO0.2.2 k) (fun h => hn0.alloc _ k h)).below fun k hk => hk)
    rw [List.nil_append] at hO
    have HO := Lib.hid hO
    have HB := Lib.hid hbt
    clear hO hbt ht hO0 hb1 hn0 h
    go_enter Try.func42, Try.ntmps42
    go_wp2_with ((with_reducible refine step_append (s := .tmp 5) (x := .tmp 6) (t := 22) (vs := ?asma) (vx := ?axma) (v' := ?avma) (w' := ?awma) ?agma ?aoma ?apma ?aqma ?arma ?ahma); (case agma => rfl); (case aoma => rfl); (case apma => rfl); (case aqma => rfl); (case arma => exact hrun))
    go_ret
    exact ⟨_, rfl, HO.out, HB.out⟩

end Go.Proofs.Ytbfjljbllfjicaa.ids

namespace Go.Proofs.Ytbfjljbllfjicaa.msg
open Go.RowKit Go.Proofs.Ytbfjljbllfjicaa.mem Go.Proofs.Ytbfjljbllfjicaa.sha Go.Proofs.Ytbfjljbllfjicaa.ids
open Go.Proofs.Ytbfjljbllfjicaa.opn (b1 b2 b4 num txt idl byte rd rdN rdT rdI rdS rdL St Reads Stays endE zid mkId)

/-- one more -/
theorem OwnM.push {w : World} {v : Value} {P : List (Mg × Value)} (h : OwnM w v P) (m : Mg) {u : Value} (hu : OwnI w (fun _ => True) u m.ids) (hl : P.length ≤ 1000000) (ty : TypeId) :
    ∃ v' w', (Builtin.append_ #[40, 40] ty #[v, .slice (some ⟨w.heap.size, 0, none⟩) 1 1]).run Try.prog (w.alloc (.cells #[.int .i64 m.k, u, .string (oct.tx m.body)] 24)) = .ok v' w' ∧ OwnM w' v' (P ++ [(m, u)]) ∧ Turn (fun j => v.ownBlock = some j ∨ w.heap.size ≤ j) w w' ∧ (v'.ownBlock = v.ownBlock ∨ v'.ownBlock = some (w.heap.size + 1)) := by
  obtain ⟨w1, hw1⟩ : ∃ y, y = w.alloc (.cells #[.int .i64 m.k, u, .string (oct.tx m.body)] 24) := ⟨_, rfl⟩
  have hB : Below w.heap.size w w1 := by rw [hw1]; exact (Below.refl _ _).alloc (Nat.le_refl _) _
  have hX : Blk w1 w.heap.size 24 #[.int .i64 m.k, u, .string (oct.tx m.body)] := by rw [hw1]; exact Blk.new w _ _
  have hs : w1.heap.size = w.heap.size + 1 := by rw [hw1]; simp
  have h1 := h.below hB
  have hu1 := hu.below hB
  have huo : u.oneCell' = true := by
    obtain ⟨ad, cap, rfl, -, -⟩ := hu.form
    rfl
  rw [← hw1]
  clear hw1
  have hmi : ∃ i, Try.prog.info? 24 = some i ∧ ∃ z, i.zero = some z ∧ i.size = 3 ∧ z.cells.size = 3 ∧ i.bytes ≤ 100 := by
    have h : ((Try.prog.info? 24).map fun i => (decide (i.size = 3) && decide (i.bytes ≤ 100) && (match i.zero with | some z => decide (z.cells.size = 3) | none => false))) = some true := by kernel_rfl
    cases hq : Try.prog.info? 24 with
    | none => rw [hq] at h; cases h
    | some i =>
      rw [hq] at h
      simp only [Option.map_some, Option.some.injEq, Bool.and_eq_true, decide_eq_true_eq] at h
      cases hz : i.zero with
      | none => rw [hz] at h; exact absurd h.2 (by simp)
      | some z =>
        rw [hz] at h
        exact ⟨i, rfl, z, hz, h.1.1, by simpa using h.2, h.1.2⟩
  obtain ⟨i, hi, z, hz, hz1, hz2, hz3⟩ := hmi
  obtain ⟨v', w', hrun, hown', hg, _, hat⟩ := run_append_own_at (P := Try.prog) w1 0 40 ty 24 i z 3 i.bytes Try.underlying40 hi hz hz1 rfl hz2 (by decide) v P.length (flM P) h1.1 ⟨w.heap.size, 0, none⟩ 1 1 [.int .i64 m.k, u, .string (oct.tx m.body)] rfl (fun j u hu => by
      rw [Addr.add_lit, Nat.zero_add, hX.cell]
      rw [List.getElem?_toArray]
      exact hu) (fun z hu => by
      simp only [List.mem_cons, List.not_mem_nil, or_false] at hu
      rcases hu with rfl | rfl | rfl
      · rfl
      · exact huo
      · rfl) (by unfold maxLen; omega) (Nat.le_trans (Nat.mul_le_mul (Nat.add_le_add_right hl 1) hz3) (by decide)) (Nat.zero_le _)
  have ht1 : Turn (fun j => v.ownBlock = some j ∨ w1.heap.size ≤ j) w1 w' := Turn.grown hg (fun k hk => .inl hk) (fun k hk => .inr hk)
  refine ⟨v', w', hrun, ⟨?_, fun p hp => ?_⟩, ?_, by rw [hs] at hat; exact hat⟩
  · rw [List.length_append, List.length_singleton, flM_append]
    exact hown'
  · rcases List.mem_append.1 hp with hp | hp
    · exact (h1.2 p hp).turn ht1 fun j hj hh => by
        rcases hh with hh | hh
        · exact own_apart h1.1 (h1.2 p hp) hj hh
        · have := (h1.2 p hp).lt hj
          omega
    · rw [List.mem_singleton.1 hp]
      exact hu1.turn ht1 fun j hj hh => by
        rcases hh with hh | hh
        · exact own_apart h1.1 hu1 hj hh
        · have := hu1.lt hj
          omega
  · exact (((Turn.ofBelow hB).mono fun j hj => .inr hj)).trans (ht1.mono fun j hj => hj.imp id fun hh => by omega)
/-- what turns no cells leaves the messages -/
theorem OwnM.turn {F : Nat → Prop} {w w' : World} {v : Value} {P : List (Mg × Value)} (h : OwnM w v P) (ht : Turn F w w') (hF : ∀ k cs t z, t = 24 ∨ t = 58 → w.heap[k]? = some (.cells cs t z) → ¬ F k) : OwnM w' v P := by
  obtain ⟨⟨h1, h2⟩, h3⟩ := h
  refine ⟨⟨h1, ?_⟩, fun p hp => (h3 p hp).turn ht fun k hk hh => ?_⟩
  · rcases h2 with h0 | ⟨g, cap, cur, rfl, hb', hh, hr⟩
    · exact .inl h0
    · exact .inr ⟨g, cap, cur, rfl, hb', (ht.block g (hF g _ _ _ (.inl rfl) hh)).trans hh, hr⟩
  · rcases (h3 p hp).2.1.2 with ⟨h0, _⟩ | ⟨g, cap, cur, h0, _, hh', _⟩
    · rw [h0] at hk; simp [Value.ownBlock] at hk
    · rw [h0] at hk
      obtain rfl : g = k := by simpa [Value.ownBlock] using hk
      exact hF g _ _ _ (.inr rfl) hh' hh
theorem OwnM.own_cells {w : World} {v : Value} {P : List (Mg × Value)} (h : OwnM w v P) {j : Nat} (hj : v.ownBlock = some j) : ∃ cs, w.heap[j]? = some (.cells cs 24 (0, 0)) := by
  rcases h.1.2 with ⟨rfl, _⟩ | ⟨g, cap, cur, rfl, _, hh, _⟩
  · simp [Value.ownBlock] at hj
  · obtain rfl : g = j := by simpa [Value.ownBlock] using hj
    exact ⟨cur, hh⟩
/-- a piece -/
def pieceC (L : List (List UInt8)) (x : Nat) : List (List UInt8) := (L.drop (16 * x)).take 16
theorem pieceC_len (L : List (List UInt8)) (x : Nat) : (pieceC L x).length = chE L.length x := by
  unfold pieceC chE
  rw [List.length_take, List.length_drop]
theorem piece_rd {w : World} {ad : Option Addr} {cap : Nat} {L : List (List UInt8)} (h : RdV w (.slice ad L.length cap) L) {x : Nat} (hx : 16 * x < L.length) : RdV w (chV ((ad.getD ⟨0, 0, none⟩).block) ((ad.getD ⟨0, 0, none⟩).off) L.length x) (pieceC L x) := by
  obtain ⟨b, off, rfl, -, -, -⟩ := h.load (i := 0) (by omega)
  obtain ⟨h1, h2, ad', cap', hv, h3, h4, h5, h6, h7⟩ := h
  cases hv
  have hl := pieceC_len L x
  have hr : Rd w (some ⟨b, off + 16 * x * 32, none⟩) (fl (pieceC L x)) := by
    unfold pieceC
    rcases h7 with h | ⟨b', off', e, hb, hc⟩
    · exfalso
      have := congrArg List.length h
      rw [fl_len h1, List.length_nil] at this
      omega
    · cases e
      refine .inr ⟨b, _, rfl, hb, fun j v hv => ?_⟩
      rw [← fl_take _ (h1.drop _), List.getElem?_take] at hv
      split at hv
      · rw [← fl_drop _ h1, List.getElem?_drop] at hv
        have := hc _ _ hv
        rw [← Nat.add_assoc] at this
        exact this
      · cases hv
  have he : chE L.length x ≤ 16 := Nat.min_le_left _ _
  have hm : chE L.length x ≤ maxLen := by unfold maxLen at h4 ⊢; omega
  exact ⟨(h1.drop _).take _, by rw [hl]; omega, some ⟨b, off + 16 * x * 32, none⟩, chE L.length x, by rw [hl]; rfl, by rw [hl]; exact Nat.le_refl _, hm, (fun h => by cases h), (fun a ha _ => ⟨b, _, (Option.some.inj ha).symm⟩), hr⟩
end Go.Proofs.Ytbfjljbllfjicaa.msg
