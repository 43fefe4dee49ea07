/-
  How petrellaw10's acts are read, and a row of texts whose bulk is small.
-/
import Derived.Test.YtgehhadnjllkdaaOpenf
import Derived.Test.YtgehhadnjllkdaaStrs
import Derived.Test.YtgehhadnjllkdaaBkpb
import Derived.JoinedCond
import Derived.Deep.CondSized
namespace Go.Proofs.Ytgehhadnjllkdaa.kit
open Go.ChangeShapes Go.WideShapes Go.ChangeAt Go.RowKit Go.Deep

theorem cellsBact : Try.prog.cellsOf 29 = 3 := by kernel_rfl
set_option maxRecDepth 100000 in
theorem open_bacts {H : Type} {enc : TypeId × Value → H} {W : World} {base : Nat} {v : Value} {d : DataW H} {p : List MemPlace}
    (hv : Value.okWide Try.prog W .any base 22 v) (h : DataW.Trod enc Try.prog W 0 (fun _ => true) true 22 v d p) :
    ∃ (ad : Option Addr) (n cap : Nat) (K N : Nat → Int) (S : Nat → ByteArray), v = .slice ad n cap ∧ n ≤ 9223372036854775807 ∧ bk.Acts W ad n K N S := by
  obtain ⟨a0, len0, cap0, rfl⟩ := okWide_slice Try.underlying22 hv
  obtain ⟨fuel, hf⟩ := h
  rcases open_slice_fields Try.underlying22 Try.underlying29 (by kernel_rfl) (by rw [cellsBact]; rfl) hf with ⟨hcs, _⟩ | ⟨a, len, cap, m, D, Pl, hcs, _, hl, hm, hmm, hx, hi⟩
  · refine ⟨a0, len0, cap0, fun _ => 0, fun _ => 0, fun _ => ByteArray.empty, rfl, ?_, ?_⟩
    · simp only [Value.cells] at hcs
      injection hcs with h1 _
      injection h1 with _ h2 _
      omega
    · simp only [Value.cells] at hcs
      injection hcs with h1 _
      injection h1 with _ h2 _
      intro i hi
      omega
  · simp only [Value.cells] at hcs
    injection hcs with h1 _
    injection h1 with h1 h2 h3
    subst h1 h2 h3
    have hm' : m = cap0 := by rw [hmm]; simp
    subst hm'
    have hsel : ∀ i, ∃ (q : Int × Int × ByteArray), i < len0 → W.cell? (a.add (i * 3)) = some (.int .i64 q.1) ∧ W.cell? (a.add (i * 3 + 1)) = some (.int .i64 q.2.1) ∧ W.cell? (a.add (i * 3 + 2)) = some (.string q.2.2) := by
      intro i
      by_cases hil : i < len0
      case neg => exact ⟨(0, 0, ByteArray.empty), fun h => absurd h hil⟩
      obtain ⟨ys, n, hD, _, hyl, hff⟩ := hi i (by omega)
      obtain ⟨v0, y0, hc0, hy0, ht0⟩ := hff 0 _ rfl
      obtain ⟨v1, y1, hc1, hy1, ht1⟩ := hff 1 _ rfl
      obtain ⟨v2, y2, hc2, hy2, ht2⟩ := hff 2 _ rfl
      obtain ⟨x0, e0, _, _⟩ := DataW.trod_int Try.underlying3 ht0
      obtain ⟨x1, e1, _, _⟩ := DataW.trod_int Try.underlying3 ht1
      obtain ⟨s, e2, e2', _⟩ := DataW.trod_string Try.underlying9 ht2
      simp only [List.cons.injEq, and_true] at e0 e1 e2
      subst e0 e1 e2
      exact ⟨(x0, x1, s), fun _ => ⟨hc0, hc1, hc2⟩⟩
    obtain ⟨Q, hQ⟩ := Classical.axiomOfChoice hsel
    refine ⟨some a, len0, m, fun i => (Q i).1, fun i => (Q i).2.1, fun i => (Q i).2.2, rfl, by unfold maxLen at hm; omega, ?_⟩
    intro i hil
    obtain ⟨g0, g1, g2⟩ := hQ i hil
    obtain ⟨z0, _⟩ := hQ 0 (by omega)
    obtain ⟨b, off, spot⟩ := a
    have hspot : spot = none := by simpa [Addr.add] using World.cell?_spot z0
    subst hspot
    rw [Addr.add_lit] at g0 g1 g2
    exact ⟨b, off, rfl, World.block_lt_of_cell? W _ g0, g0, g1, g2⟩
end Go.Proofs.Ytgehhadnjllkdaa.kit
