/-
  How petrellaw04's steps are read.
-/
import Derived.Test.YtlbieneklijpeaaDoorOpenf
import Derived.Test.YtlbieneklijpeaaDoorOpenid
import Derived.Test.YtlbieneklijpeaaDoorFmd
namespace Go.Proofs.YtlbieneklijpeaaDoor.kit
open Go.ChangeShapes Go.WideShapes Go.ChangeAt Go.RowKit Go.Deep Go.Proofs.YtlbieneklijpeaaDoor.ids

theorem cellsStep : Tryd.prog.cellsOf 56 = 4 := by kernel_rfl
set_option maxRecDepth 100000 in
theorem open_steps {H : Type} {enc : TypeId × Value → H} {W : World} {base : Nat} {ts : List TypeId} {ds : List (DataW H)} {j : Nat} {v : Value} {d : DataW H} {p : List MemPlace}
    (hv : Value.okWide Tryd.prog W .any base 22 v) (h : DataW.Trod enc Tryd.prog W 0 (fun _ => true) true 22 v d p)
    (hsz : (DataW.weightsEach Tryd.prog ts ds).all (· ≤ reachBytes) = true) (htj : ts[j]? = some 22) (hdj : ds[j]? = some d) :
    ∃ (ad : Option Addr) (n cap : Nat) (A : Nat → fault.Stp), v = .slice ad n cap ∧ n ≤ 9223372036854775807 ∧ fault.Steps W ad n A := by
  obtain ⟨a0, len0, cap0, rfl⟩ := okWide_slice Tryd.underlying22 hv
  obtain ⟨fuel, hf⟩ := h
  rcases open_slice_fields Tryd.underlying22 Tryd.underlying56 (by kernel_rfl) (by rw [cellsStep]; rfl) hf with ⟨hcs, _⟩ | ⟨a, len, cap, m, D, Pl, hcs, _, hl, hm, hmm, hx, hi⟩
  · refine ⟨a0, len0, cap0, fun _ => ⟨0, 0, ByteArray.empty, []⟩, rfl, ?_, ?_⟩
    · simp only [Value.cells] at hcs
      injection hcs with h1 _
      injection h1 with _ h2 _
      omega
    · simp only [Value.cells] at hcs
      injection hcs with h1 _
      injection h1 with _ h2 _
      intro i hi
      omega
  · simp only [Value.cells] at hcs
    injection hcs with h1 _
    injection h1 with h1 h2 h3
    subst h1 h2 h3
    have hm' : m = cap0 := by rw [hmm]; simp
    subst hm'
    injection hx with hd _
    have hsel : ∀ i, ∃ (q : fault.Stp × Value), i < len0 → W.cell? (a.add (i * 4)) = some (.int .i64 q.1.k) ∧ W.cell? (a.add (i * 4 + 1)) = some (.int .i64 q.1.e) ∧ W.cell? (a.add (i * 4 + 2)) = some (.string q.1.op) ∧ W.cell? (a.add (i * 4 + 3)) = some q.2 ∧
        RdV W q.2 q.1.ids ∧ q.1.op.size ≤ 140737488351232 := by
      intro i
      by_cases hil : i < len0
      case neg => exact ⟨(⟨0, 0, ByteArray.empty, []⟩, undef), fun h => absurd h hil⟩
      obtain ⟨ys, n, hD, _, hyl, hff⟩ := hi i (by omega)
      obtain ⟨v0, y0, hc0, hy0, ht0⟩ := hff 0 _ rfl
      obtain ⟨v1, y1, hc1, hy1, ht1⟩ := hff 1 _ rfl
      obtain ⟨v2, y2, hc2, hy2, ht2⟩ := hff 2 _ rfl
      obtain ⟨v3, y3, hc3, hy3, ht3⟩ := hff 3 _ rfl
      obtain ⟨x0, e0, _, _⟩ := DataW.trod_int Tryd.underlying3 ht0
      obtain ⟨x1, e1, _, _⟩ := DataW.trod_int Tryd.underlying3 ht1
      obtain ⟨s, e2, e2', _⟩ := DataW.trod_string Tryd.underlying9 ht2
      have hmem : D i ∈ (List.range len0).map D := List.mem_map.2 ⟨i, List.mem_range.2 hil, rfl⟩
      have hin : ∀ n ∈ DataW.weights Tryd.prog 56 (D i), n ≤ reachBytes := fun n hn => by
        have h1 := List.all_eq_true.1 hsz _ (DataW.weights_mem_each htj hdj _ (show n ∈ _ by
          rw [hd]
          simp only [DataW.weights, Tryd.underlying22, List.mem_cons, List.mem_append]
          exact .inr (.inl (weights_all hmem _ hn))))
        simpa using h1
      obtain ⟨v, L, e3, hR⟩ := ids_of_trod ht3 fun n hn => hin n (by
        rw [hD]
        simp only [DataW.weights, Tryd.underlying56]
        exact DataW.weights_mem_each (j := 3) (t := 37) (d := y3.1) rfl (by rw [List.getElem?_map, hy3]; rfl) _ hn)
      have hop : s.size ≤ 140737488351232 := by
        have := hin s.data.toList.length (by
          rw [hD]
          simp only [DataW.weights, Tryd.underlying56]
          refine DataW.weights_mem_each (j := 2) (t := 9) (d := y2.1) rfl (by rw [List.getElem?_map, hy2]; rfl) _ ?_
          rw [e2']
          simp [DataW.weights])
        have e : s.data.toList.length = s.size := by rw [Array.length_toList]; rfl
        rw [e] at this
        exact this
      simp only [List.cons.injEq, and_true] at e0 e1 e2 e3
      subst e0 e1 e2 e3
      exact ⟨(⟨x0, x1, s, L⟩, v3), fun _ => ⟨hc0, hc1, hc2, hc3, hR, hop⟩⟩
    obtain ⟨Q, hQ⟩ := Classical.axiomOfChoice hsel
    refine ⟨some a, len0, m, fun i => (Q i).1, rfl, by unfold maxLen at hm; omega, ?_⟩
    intro i hil
    obtain ⟨g0, g1, g2, g3, g4, g5⟩ := hQ i hil
    obtain ⟨z0, _⟩ := hQ 0 (by omega)
    obtain ⟨b, off, spot⟩ := a
    have hspot : spot = none := by simpa [Addr.add] using World.cell?_spot z0
    subst hspot
    rw [Addr.add_lit] at g0 g1 g2 g3
    exact ⟨b, off, (Q i).2, rfl, World.block_lt_of_cell? W _ g0, g0, g1, g2, g3, g4, g5⟩
end Go.Proofs.YtlbieneklijpeaaDoor.kit
