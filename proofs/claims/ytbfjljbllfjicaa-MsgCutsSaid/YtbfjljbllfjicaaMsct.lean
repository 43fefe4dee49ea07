/-
  Lists of messages: pieces of a list of ids; how they lie in memory.
-/
import Derived.Test.YtbfjljbllfjicaaMsis
import Derived.Test.YtbfjljbllfjicaaOpenms
namespace Go.Proofs.Ytbfjljbllfjicaa.msg
open Go.RowKit Go.Proofs.Ytbfjljbllfjicaa.mem Go.Proofs.Ytbfjljbllfjicaa.sha Go.Proofs.Ytbfjljbllfjicaa.ids
open Go.Proofs.Ytbfjljbllfjicaa.opn (b1 b2 b4 num txt idl byte rd rdN rdT rdI rdS rdL St Reads Stays endE zid mkId)

/-- .. the first n ids, cut -/
def addL (P : List Mg) (x : List UInt8) : List Mg := P.dropLast ++ [⟨(P.getLast?.getD zmg).k, (P.getLast?.getD zmg).ids ++ [x], (P.getLast?.getD zmg).body⟩]
def cutN (k : Int) (L : List (List UInt8)) : Nat → List Mg
  | 0 => []
  | n + 1 => addL (if n % 16 = 0 then cutN k L n ++ [⟨k, [], []⟩] else cutN k L n) (L.getD n [])
def cutM (k : Int) (L : List (List UInt8)) : List Mg := if kindM k = 1 then cutN k L L.length else []
theorem addL_snoc (P : List Mg) (m : Mg) (x : List UInt8) : addL (P ++ [m]) x = P ++ [⟨m.k, m.ids ++ [x], m.body⟩] := by
  unfold addL
  simp
/-- what stands of the pieces -/
theorem cutN_is (k : Int) (L : List (List UInt8)) (hL : okIds L) : ∀ n, n ≤ L.length → ((cutN k L n).map (·.ids)).flatten = L.take n ∧ (∀ m ∈ cutN k L n, m.k = k ∧ m.body = [] ∧ 1 ≤ m.ids.length ∧ m.ids.length ≤ 16 ∧ okIds m.ids) ∧
    (0 < n → ∃ P m, cutN k L n = P ++ [m] ∧ m.ids.length = (n - 1) % 16 + 1)
  | 0, _ => ⟨rfl, fun m h => (by cases h), fun h => (by omega)⟩
  | n + 1, h => by
    obtain ⟨h1, h2, h3⟩ := cutN_is k L hL n (by omega)
    have hx : (L.getD n []).length = 32 := by
      rw [List.getD_eq_getElem?_getD, List.getElem?_eq_getElem (by omega)]
      exact hL _ (List.getElem_mem _)
    have ht : L.take (n + 1) = L.take n ++ [L.getD n []] := by
      rw [List.take_succ_eq_append_getElem (by omega), List.getD_eq_getElem?_getD, List.getElem?_eq_getElem (by omega)]
      rfl
    have key : ∃ Q m, cutN k L (n + 1) = Q ++ [⟨m.k, m.ids ++ [L.getD n []], m.body⟩] ∧ ((Q ++ [m]).map (·.ids)).flatten = L.take n ∧ (∀ m ∈ Q, m.k = k ∧ m.body = [] ∧ 1 ≤ m.ids.length ∧ m.ids.length ≤ 16 ∧ okIds m.ids) ∧ m.k = k ∧ m.body = [] ∧ okIds m.ids ∧ m.ids.length = n % 16 := by
      by_cases h0 : n % 16 = 0
      · refine ⟨cutN k L n, ⟨k, [], []⟩, ?_, by rw [List.map_append, List.flatten_append, h1]; simp, h2, rfl, rfl, okIds.nil, h0.symm⟩
        show addL (if n % 16 = 0 then _ else _) _ = _
        rw [if_pos h0, addL_snoc]
      · obtain ⟨P, m, e, hm⟩ := h3 (by omega)
        rw [e] at h1 h2
        have hmm := h2 m (by simp)
        refine ⟨P, m, ?_, h1, fun z hz => h2 z (List.mem_append_left _ hz), hmm.1, hmm.2.1, hmm.2.2.2.2, by omega⟩
        show addL (if n % 16 = 0 then _ else _) _ = _
        rw [if_neg h0, e, addL_snoc]
    obtain ⟨Q, m, e, hf, hQ, hk, hb, ho, hl⟩ := key
    refine ⟨?_, fun z hz => ?_, fun _ => ⟨Q, _, e, ?_⟩⟩
    · rw [e, ht, ← hf]
      simp
    · rw [e] at hz
      rcases List.mem_append.1 hz with hz | hz
      · exact hQ z hz
      · rw [List.mem_singleton.1 hz]
        refine ⟨hk, hb, ?_, ?_, ho.append (okIds.one hx)⟩
        · show 1 ≤ (m.ids ++ [L.getD n []]).length
          rw [List.length_append, List.length_singleton]; omega
        · show (m.ids ++ [L.getD n []]).length ≤ 16
          rw [List.length_append, List.length_singleton]; omega
    · show (m.ids ++ [L.getD n []]).length = _
      rw [List.length_append, List.length_singleton, hl]
      rfl
theorem cutM_is {k : Int} {L : List (List UInt8)} (hL : okIds L) {m : Mg} (hm : m ∈ cutM k L) : checkM m = 0 ∧ 1 ≤ m.ids.length ∧ m.ids.length ≤ 16 ∧ okIds m.ids := by
  unfold cutM at hm
  split at hm
  case isFalse => cases hm
  case isTrue hk =>
    obtain ⟨h1, h2, h3, h4, h5⟩ := (cutN_is k L hL L.length (Nat.le_refl _)).2.1 m hm
    refine ⟨?_, h3, h4, h5⟩
    have hkm : kindM m.k = 1 := by rw [h1]; exact hk
    have hnf : ¬ badForm m := by
      unfold badForm
      rw [hkm, h2]
      simp
    have hnl : ¬ badLong m := by
      unfold badLong
      rw [h2]
      simp
    unfold checkM
    rw [hkm]
    simp [hnf, hnl, h4]
theorem cutM_all {k : Int} {L : List (List UInt8)} (hL : okIds L) (h : cutM k L ≠ []) : ((cutM k L).map (·.ids)).flatten = L := by
  unfold cutM at h ⊢
  split at h
  case isFalse => exact absurd rfl h
  case isTrue hk => rw [if_pos hk, (cutN_is k L hL L.length (Nat.le_refl _)).1, List.take_length]

def flM : List (Mg × Value) → List Value
  | [] => []
  | p :: P => .int .i64 p.1.k :: p.2 :: .string (oct.tx p.1.body) :: flM P
theorem flM_append : ∀ (P Q : List (Mg × Value)), flM (P ++ Q) = flM P ++ flM Q
  | [], _ => rfl
  | p :: P, Q => by show _ :: _ :: _ :: flM (P ++ Q) = _; rw [flM_append P Q]; rfl
theorem flM_len : ∀ (P : List (Mg × Value)), (flM P).length = P.length * 3
  | [] => rfl
  | p :: P => by show (flM P).length + 1 + 1 + 1 = (P.length + 1) * 3; rw [flM_len P]; omega
theorem flM_get : ∀ (P : List (Mg × Value)) (j : Nat) (p : Mg × Value), P[j]? = some p → (flM P)[j * 3]? = some (.int .i64 p.1.k) ∧ (flM P)[j * 3 + 1]? = some p.2 ∧ (flM P)[j * 3 + 2]? = some (.string (oct.tx p.1.body))
  | [], j, p, h => by cases h
  | q :: P, 0, p, h => by
    cases h
    exact ⟨rfl, rfl, rfl⟩
  | q :: P, j + 1, p, h => by
    have := flM_get P j p h
    rw [show (j + 1) * 3 = j * 3 + 1 + 1 + 1 by omega]
    exact this
theorem one_flM {P : List (Mg × Value)} (h : ∀ p ∈ P, p.2.oneCell' = true) : ∀ u ∈ flM P, u.oneCell' = true := by
  induction P with
  | nil => intro u hu; cases hu
  | cons p P ih =>
    intro u hu
    rcases List.mem_cons.1 hu with rfl | hu
    · rfl
    rcases List.mem_cons.1 hu with rfl | hu
    · exact h p List.mem_cons_self
    rcases List.mem_cons.1 hu with rfl | hu
    · rfl
    · exact ih (fun q hq => h q (List.mem_cons_of_mem _ hq)) u hu
/-- a list of messages that reads -/
def MsV (w : World) (v : Value) (ms : List Mg) : Prop := ∃ P : List (Mg × Value), P.map (·.1) = ms ∧ (∃ ad cap, v = .slice ad ms.length cap ∧ Rd w ad (flM P)) ∧ ∀ p ∈ P, RdV w p.2 p.1.ids
theorem MsV.next {w w' : World} {v : Value} {ms : List Mg} (h : MsV w v ms) (hb : Below w.heap.size w w') : MsV w' v ms := by
  obtain ⟨P, h1, ⟨ad, cap, h2, h3⟩, h4⟩ := h
  exact ⟨P, h1, ⟨ad, cap, h2, h3.below hb (Nat.le_refl _)⟩, fun p hp => (h4 p hp).next hb⟩
theorem MsV.form {w : World} {v : Value} {ms : List Mg} (h : MsV w v ms) : ∃ ad cap, v = .slice ad ms.length cap := by
  obtain ⟨P, h1, ⟨ad, cap, h2, h3⟩, h4⟩ := h
  exact ⟨ad, cap, h2⟩
/-- the j-th -/
theorem MsV.at_ {w : World} {ad : Option Addr} {n cap : Nat} {ms : List Mg} (h : MsV w (.slice ad n cap) ms) {j : Nat} (hj : j < ms.length) {m : Mg} (hm : ms[j]? = some m) :
    ∃ b off u, ad = some ⟨b, off, none⟩ ∧ b < w.heap.size ∧ RdV w u m.ids ∧ w.cell? ⟨b, off + j * 3, none⟩ = some (.int .i64 m.k) ∧ w.cell? ⟨b, off + (j * 3 + 1), none⟩ = some u ∧ w.cell? ⟨b, off + (j * 3 + 2), none⟩ = some (.string (oct.tx m.body)) := by
  obtain ⟨P, h1, ⟨ad', cap', h2, h3⟩, h4⟩ := h
  cases h2
  subst h1
  rw [List.getElem?_map] at hm
  cases hp : P[j]? with
  | none => rw [hp] at hm; cases hm
  | some p =>
    rw [hp] at hm
    cases hm
    obtain ⟨g1, g2, g3⟩ := flM_get P j p hp
    rcases h3 with h3 | ⟨b, off, rfl, hb, hc⟩
    · rw [h3] at g1; cases g1
    · exact ⟨b, off, p.2, rfl, hb, h4 p (List.mem_of_getElem? hp), hc _ _ g1, hc _ _ g2, hc _ _ g3⟩
theorem run_load_mid_mg {w : World} {b o : Nat} {m : Mg} {u : Value} (h0 : w.cell? ⟨b, o, none⟩ = some (.int .i64 m.k)) (h1 : w.cell? ⟨b, o + 1, none⟩ = some u) (h2 : w.cell? ⟨b, o + 2, none⟩ = some (.string (oct.tx m.body))) : (Instr.loadAt 24 (.pointer (some ⟨b, o, none⟩))).run Try.prog w = .ok (mgv m u) w := by
  have hl : (loadCells ⟨b, o, none⟩ 3).run Try.prog w = .ok #[.int .i64 m.k, u, .string (oct.tx m.body)] w :=
    run_loadCells_list (P := Try.prog) w ⟨b, o, none⟩ (mgc m u) (fun j z hz => by
      rw [Addr.add_lit]
      unfold mgc at hz
      match j, hz with
      | 0, hz => cases hz; exact h0
      | 1, hz => cases hz; exact h1
      | 2, hz => cases hz; exact h2)
  have hi := info_mg
  cases hq : Try.prog.info? 24 with
  | none => simp [hq] at hi
  | some i =>
    have hs : i.size = 3 := by simpa [hq] using hi
    simp [Instr.loadAt, Instr.sureAddr, loadVar, Sem.run_bind, agg_mg, sizeOf, typeInfo, hq, hs, hl]
/-- a list of messages of the call's own, each with ids of its own -/
def OwnM (w : World) (v : Value) (P : List (Mg × Value)) : Prop := w.ownsRow 0 24 3 v P.length (flM P) ∧ ∀ p ∈ P, OwnI w (fun _ => True) p.2 p.1.ids
theorem OwnM.nil (w : World) : OwnM w (.slice none 0 0) [] := ⟨World.ownsRow_nil w 0 _ 3, fun p hp => by cases hp⟩
theorem own_apart {w : World} {v u : Value} {n : Nat} {xs : List Value} {L : List (List UInt8)} {F : Nat → Prop} (h : w.ownsRow 0 24 3 v n xs) (hu : OwnI w F u L) {k : Nat} (hk : u.ownBlock = some k) (hv : v.ownBlock = some k) : False := by
  rcases h.2 with ⟨rfl, _⟩ | ⟨g, cap, cur, rfl, _, hg, _⟩
  · simp [Value.ownBlock] at hv
  rcases hu.2.1.2 with ⟨rfl, _⟩ | ⟨g', cap', cur', rfl, _, hg', _⟩
  · simp [Value.ownBlock] at hk
  simp [Value.ownBlock] at hk hv
  subst hk
  subst hv
  rw [hg] at hg'
  have := hg'
  injection this with this
  injection this with _ ht _
  exact absurd ht (by decide)
theorem OwnM.below {w w' : World} {v : Value} {P : List (Mg × Value)} (h : OwnM w v P) (hb : Below w.heap.size w w') : OwnM w' v P := by
  obtain ⟨⟨h1, h2⟩, h3⟩ := h
  refine ⟨⟨h1, ?_⟩, fun p hp => (h3 p hp).below hb⟩
  rcases h2 with h0 | ⟨g, cap, cur, rfl, hb', hh, hr⟩
  · exact .inl h0
  · exact .inr ⟨g, cap, cur, rfl, hb', (hb.block g (Array.getElem?_eq_some_iff.1 hh).1).trans hh, hr⟩
/-- the pieces read -/
theorem OwnM.msv {w : World} {v : Value} {P : List (Mg × Value)} (h : OwnM w v P) (hl : ∀ p ∈ P, p.1.ids.length ≤ 1099511627776) : MsV w v (P.map (·.1)) := by
  refine ⟨P, rfl, ?_, fun p hp => ((h.2 p hp).rdv (hl p hp)).1⟩
  rw [List.length_map]
  rcases h.1.2 with ⟨rfl, hn⟩ | ⟨g, cap, cur, rfl, hb, hh, hr⟩
  · have : P = [] := List.eq_nil_of_length_eq_zero hn
    subst this
    exact ⟨none, 0, rfl, .inl rfl⟩
  · refine ⟨some ⟨g, 0, none⟩, cap, rfl, .inr ⟨g, 0, rfl, (Array.getElem?_eq_some_iff.1 hh).1, fun k u hu => ?_⟩⟩
    have := h.1.cells (g := g) rfl k u hu
    rw [Addr.add_lit] at this
    exact this
/-- one more, empty -/
theorem OwnM.grow {w : World} {v : Value} {P : List (Mg × Value)} (h : OwnM w v P) (k : Int) (hl : P.length ≤ 1000000) (ty : TypeId) :
    ∃ v' w', (Builtin.append_ #[40, 40] ty #[v, .slice (some ⟨w.heap.size, 0, none⟩) 1 1]).run Try.prog (w.alloc (.cells #[.int .i64 k, nv, .string (oct.tx [])] 24)) = .ok v' w' ∧ OwnM w' v' (P ++ [(⟨k, [], []⟩, nv)]) ∧ Turn (fun j => v.ownBlock = some j ∨ w.heap.size ≤ j) w w' ∧ (v'.ownBlock = v.ownBlock ∨ v'.ownBlock = some (w.heap.size + 1)) := by
  obtain ⟨w1, hw1⟩ : ∃ u, u = w.alloc (.cells #[.int .i64 k, nv, .string (oct.tx [])] 24) := ⟨_, rfl⟩
  have hB : Below w.heap.size w w1 := by rw [hw1]; exact (Below.refl _ _).alloc (Nat.le_refl _) _
  have hX : Blk w1 w.heap.size 24 #[.int .i64 k, nv, .string (oct.tx [])] := by rw [hw1]; exact Blk.new w _ _
  have hs : w1.heap.size = w.heap.size + 1 := by rw [hw1]; simp
  have h1 := h.below hB
  rw [← hw1]
  clear hw1
  have hmi : ∃ i, Try.prog.info? 24 = some i ∧ ∃ z, i.zero = some z ∧ i.size = 3 ∧ z.cells.size = 3 ∧ i.bytes ≤ 100 := by
    have h : ((Try.prog.info? 24).map fun i => (decide (i.size = 3) && decide (i.bytes ≤ 100) && (match i.zero with | some z => decide (z.cells.size = 3) | none => false))) = some true := by kernel_rfl
    cases hq : Try.prog.info? 24 with
    | none => rw [hq] at h; cases h
    | some i =>
      rw [hq] at h
      simp only [Option.map_some, Option.some.injEq, Bool.and_eq_true, decide_eq_true_eq] at h
      cases hz : i.zero with
      | none => rw [hz] at h; exact absurd h.2 (by simp)
      | some z =>
        rw [hz] at h
        exact ⟨i, rfl, z, hz, h.1.1, by simpa using h.2, h.1.2⟩
  obtain ⟨i, hi, z, hz, hz1, hz2, hz3⟩ := hmi
  obtain ⟨v', w', hrun, hown', hg, _, hat⟩ := run_append_own_at (P := Try.prog) w1 0 40 ty 24 i z 3 i.bytes Try.underlying40 hi hz hz1 rfl hz2 (by decide) v P.length (flM P) h1.1 ⟨w.heap.size, 0, none⟩ 1 1 [.int .i64 k, nv, .string (oct.tx [])] rfl (fun j u hu => by
      rw [Addr.add_lit, Nat.zero_add, hX.cell]
      rw [List.getElem?_toArray]
      exact hu) (fun u hu => by
      simp only [List.mem_cons, List.not_mem_nil, or_false] at hu
      rcases hu with rfl | rfl | rfl <;> rfl) (by unfold maxLen; omega) (Nat.le_trans (Nat.mul_le_mul (Nat.add_le_add_right hl 1) hz3) (by decide)) (Nat.zero_le _)
  have ht1 : Turn (fun j => v.ownBlock = some j ∨ w1.heap.size ≤ j) w1 w' := Turn.grown hg (fun k hk => .inl hk) (fun k hk => .inr hk)
  refine ⟨v', w', hrun, ⟨?_, fun p hp => ?_⟩, ?_, by rw [hs] at hat; exact hat⟩
  · rw [List.length_append, List.length_singleton, flM_append]
    exact hown'
  · rcases List.mem_append.1 hp with hp | hp
    · exact (h1.2 p hp).turn ht1 fun j hj hh => by
        rcases hh with hh | hh
        · exact own_apart h1.1 (h1.2 p hp) hj hh
        · have := (h1.2 p hp).lt hj
          omega
    · rw [List.mem_singleton.1 hp]
      exact OwnI.nil w' _
  · exact (((Turn.ofBelow hB).mono fun j hj => .inr hj)).trans (ht1.mono fun j hj => hj.imp id fun hh => by omega)
/-- the last one's ids anew -/
theorem OwnM.last {w : World} {v : Value} {P : List (Mg × Value)} {m : Mg} {u u' : Value} {L : List (List UInt8)} (h : OwnM w v (P ++ [(m, u)])) (hu : OwnI w (fun _ => True) u' L) :
    ∃ g cap, v = .slice (some ⟨g, 0, none⟩) (P.length + 1) cap ∧ w.cell? ⟨g, P.length * 3 + 1, none⟩ = some u ∧ w.frozen? ⟨g, P.length * 3 + 1, none⟩ = false ∧ OwnM (w.setCell ⟨g, P.length * 3 + 1, none⟩ u') v (P ++ [(⟨m.k, L, m.body⟩, u')]) ∧ Turn (· = g) w (w.setCell ⟨g, P.length * 3 + 1, none⟩ u') := by
  obtain ⟨⟨h1, h2⟩, h3⟩ := h
  have hlen : (P ++ [(m, u)]).length = P.length + 1 := by simp
  rcases h2 with ⟨rfl, hn⟩ | ⟨g, cap, cur, hv, hb, hh, hle, hcm, hcs, htk⟩
  · rw [hlen] at hn; omega
  have hX : Blk w g 24 cur := hh
  have hown : w.ownsRow 0 24 3 v (P ++ [(m, u)]).length (flM (P ++ [(m, u)])) := ⟨h1, .inr ⟨g, cap, cur, hv, hb, hh, hle, hcm, hcs, htk⟩⟩
  have hfl : flM (P ++ [(m, u)]) = flM P ++ [.int .i64 m.k, u, .string (oct.tx m.body)] := flM_append _ _
  have hPl := flM_len P
  have hvb : v.ownBlock = some g := by rw [hv]; rfl
  have hc1 : w.cell? ⟨g, P.length * 3 + 1, none⟩ = some u := by
    have := hown.cells hvb (P.length * 3 + 1) u (by rw [hfl, List.getElem?_append_right (by omega)]; rw [show P.length * 3 + 1 - (flM P).length = 1 by omega]; rfl)
    rw [Addr.add_lit, Nat.zero_add] at this
    exact this
  have hT : Turn (· = g) w (w.setCell ⟨g, P.length * 3 + 1, none⟩ u') := (Turn.refl (· = g) w).setCell rfl _
  refine ⟨g, cap, by rw [hv, hlen], hc1, hX.frozen _, ⟨⟨by rw [flM_len], .inr ⟨g, cap, cur.setIfInBounds (P.length * 3 + 1) u', by rw [hv]; simp, hb, hX.set_ _ u', by simpa using hle, hcm, by simpa using hcs, ?_⟩⟩, fun p hp => ?_⟩, hT⟩
  · rw [flM_append, Array.toList_setIfInBounds, List.take_set, show (P ++ [((⟨m.k, L, m.body⟩ : Mg), u')]).length = (P ++ [(m, u)]).length by simp, htk, hfl, List.set_append_right _ _ (by omega), show P.length * 3 + 1 - (flM P).length = 1 by omega]
    rfl
  · rcases List.mem_append.1 hp with hp | hp
    · exact (h3 p (List.mem_append_left _ hp)).turn hT fun k hk e => own_apart hown (h3 p (List.mem_append_left _ hp)) hk (by rw [hvb, e])
    · rw [List.mem_singleton.1 hp]
      exact hu.turn hT fun k hk e => own_apart hown hu hk (by rw [hvb, e])
end Go.Proofs.Ytbfjljbllfjicaa.msg
