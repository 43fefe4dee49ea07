/-
  How the arguments of petrellaw01's statements are read where they are small: a slice of calls, each text's length known.
-/
import Derived.Test.YtbloijnkkjmldaaOpen
import Derived.JoinedCond
import Derived.Deep.CondSized
namespace Go.Proofs.Ytbloijnkkjmldaa.kit
open Go.ChangeShapes Go.WideShapes Go.ChangeAt Go.RowKit Go.Deep

/-- a part's bulk is at most the whole's -/
theorem part_le {H : Type} {d : DataW H} {l : List (DataW H)} (h : d ∈ l) : Rows.uptoBulk d ≤ Rows.uptoBulkAll l := by
  induction l with
  | nil => cases h
  | cons x r ih =>
    simp only [Rows.uptoBulkAll]
    cases List.mem_cons.1 h with
    | inl e => subst e; omega
    | inr e => have := ih e; omega

theorem open_acts_small {H : Type} {enc : TypeId × Value → H} {W : World} {base : Nat} {ts : List TypeId} {ds : List (DataW H)} {j : Nat} {v : Value} {d : DataW H} {p : List MemPlace}
    (hv : Value.okWide Try.prog W .any base 22 v) (h : DataW.Trod enc Try.prog W 0 (fun _ => true) true 22 v d p)
    (hsz : (DataW.weightsEach Try.prog ts ds).all (· ≤ reachBytes) = true) (htj : ts[j]? = some 22) (hdj : ds[j]? = some d) (hk : Rows.uptoBulk d ≤ 1048576) :
    ∃ (ad : Option Addr) (n cap : Nat) (K N Z : Nat → Int) (S : Nat → ByteArray), v = .slice ad n cap ∧ n ≤ 9223372036854775807 ∧ oct.Acts W ad n K N Z S ∧ ∀ i, i < n → (S i).size ≤ 1048576 := by
  obtain ⟨a0, len0, cap0, rfl⟩ := okWide_slice Try.underlying22 hv
  obtain ⟨fuel, hf⟩ := h
  rcases open_slice_fields Try.underlying22 Try.underlying26 (by kernel_rfl) (by rw [cellsAct]; rfl) hf with ⟨hcs, _⟩ | ⟨a, len, cap, m, D, Pl, hcs, _, hl, hm, hmm, hx, hi⟩
  · refine ⟨a0, len0, cap0, fun _ => 0, fun _ => 0, fun _ => 0, fun _ => ByteArray.empty, rfl, ?_, ?_, fun i _ => by show (0 : Nat) ≤ _; omega⟩
    · simp only [Value.cells] at hcs
      injection hcs with h1 _
      injection h1 with _ h2 _
      omega
    · simp only [Value.cells] at hcs
      injection hcs with h1 _
      injection h1 with _ h2 _
      intro i hi
      omega
  · simp only [Value.cells] at hcs
    injection hcs with h1 _
    injection h1 with h1 h2 h3
    subst h1 h2 h3
    have hm' : m = cap0 := by rw [hmm]; simp
    subst hm'
    injection hx with hd _
    have hfld : ∀ i, i < m → ∃ (x0 x1 x2 : Int) (s : ByteArray), W.cell? (a.add (i * 4)) = some (.int .i64 x0) ∧ W.cell? (a.add (i * 4 + 1)) = some (.int .i64 x1) ∧ W.cell? (a.add (i * 4 + 2)) = some (.int .i64 x2) ∧ W.cell? (a.add (i * 4 + 3)) = some (.string s) ∧
        x1 ≤ 9223372036854775807 ∧ (i < len0 → s.size ≤ 140737488351232 ∧ s.size ≤ 1048576) := by
      intro i him
      obtain ⟨ys, n, hD, _, hyl, hff⟩ := hi i him
      obtain ⟨v0, y0, hc0, hy0, ht0⟩ := hff 0 _ rfl
      obtain ⟨v1, y1, hc1, hy1, ht1⟩ := hff 1 _ rfl
      obtain ⟨v2, y2, hc2, hy2, ht2⟩ := hff 2 _ rfl
      obtain ⟨v3, y3, hc3, hy3, ht3⟩ := hff 3 _ rfl
      obtain ⟨x0, e0, _, _⟩ := DataW.trod_int Try.underlying3 ht0
      obtain ⟨x1, e1, _, hw1⟩ := DataW.trod_int Try.underlying3 ht1
      obtain ⟨x2, e2, _, _⟩ := DataW.trod_int Try.underlying3 ht2
      obtain ⟨s, e3, e3', _⟩ := DataW.trod_string Try.underlying9 ht3
      simp only [List.cons.injEq, and_true] at e0 e1 e2 e3
      subst e0 e1 e2 e3
      refine ⟨x0, x1, x2, s, hc0, hc1, hc2, hc3, ?_, ?_⟩
      · have := (show -9223372036854775808 ≤ x1 ∧ x1 ≤ 9223372036854775807 by simpa [Lit.wf, IntKind.min, IntKind.max, IntKind.signed, IntKind.bits] using hw1)
        exact this.2
      · intro hil
        have hmem : D i ∈ (List.range len0).map D := List.mem_map.2 ⟨i, List.mem_range.2 hil, rfl⟩
        have hw : s.data.toList.length ∈ DataW.weights Try.prog 26 (D i) := by
          rw [hD]
          simp only [DataW.weights, Try.underlying26]
          refine DataW.weights_mem_each (j := 3) (t := 9) (d := y3.1) rfl (by rw [List.getElem?_map, hy3]; rfl) _ ?_
          rw [e3']
          simp [DataW.weights]
        have h1 := List.all_eq_true.1 hsz _ (DataW.weights_mem_each htj hdj _ (show s.data.toList.length ∈ _ by
          rw [hd]
          simp only [DataW.weights, Try.underlying22, List.mem_cons, List.mem_append]
          exact .inr (.inl (weights_all hmem _ hw))))
        have e : s.data.toList.length = s.size := by rw [Array.length_toList]; rfl
        rw [e] at h1
        have h2 : s.size ≤ reachBytes := by simpa using h1
        refine ⟨h2, ?_⟩
        have hb1 := part_le (l := (List.range len0).map D) hmem
        have hb2 : Rows.uptoBulk (D i) ≤ 1048576 := by
          rw [hd] at hk
          simp only [Rows.uptoBulk] at hk
          omega
        rw [hD] at hb2
        simp only [Rows.uptoBulk] at hb2
        have hb3 := part_le (l := ys.map (·.1)) (List.mem_map.2 ⟨y3, List.mem_of_getElem? hy3, rfl⟩)
        rw [e3'] at hb3
        simp only [Rows.uptoBulk, e] at hb3
        omega
    have hsel : ∀ i, ∃ (q : Int × Int × Int × ByteArray), i < m → W.cell? (a.add (i * 4)) = some (.int .i64 q.1) ∧ W.cell? (a.add (i * 4 + 1)) = some (.int .i64 q.2.1) ∧ W.cell? (a.add (i * 4 + 2)) = some (.int .i64 q.2.2.1) ∧ W.cell? (a.add (i * 4 + 3)) = some (.string q.2.2.2) ∧
        q.2.1 ≤ 9223372036854775807 ∧ (i < len0 → q.2.2.2.size ≤ 140737488351232 ∧ q.2.2.2.size ≤ 1048576) := by
      intro i
      by_cases him : i < m
      · obtain ⟨x0, x1, x2, s, hh⟩ := hfld i him
        exact ⟨(x0, x1, x2, s), fun _ => hh⟩
      · exact ⟨(0, 0, 0, ByteArray.empty), fun h => absurd h him⟩
    obtain ⟨Q, hQ⟩ := Classical.axiomOfChoice hsel
    refine ⟨some a, len0, m, fun i => (Q i).1, fun i => (Q i).2.1, fun i => (Q i).2.2.1, fun i => (Q i).2.2.2, rfl, by unfold maxLen at hm; omega, ?_, fun i hil => ((hQ i (by omega)).2.2.2.2.2 hil).2⟩
    intro i hil
    obtain ⟨z0, _⟩ := hQ 0 (by omega)
    obtain ⟨g0, g1, g2, g3, g4, g5⟩ := hQ i (by omega)
    obtain ⟨b, off, spot⟩ := a
    have hspot : spot = none := by simpa [Addr.add] using World.cell?_spot z0
    subst hspot
    rw [Addr.add_lit] at g0 g1 g2 g3
    exact ⟨b, off, rfl, World.block_lt_of_cell? W _ g0, g0, g1, g2, g3, g4, (g5 hil).1⟩
end Go.Proofs.Ytbloijnkkjmldaa.kit
