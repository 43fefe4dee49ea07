/-
  A row of texts that came in: how it lies in memory, how it is read.
-/
import Derived.Test.YtgehhadnjllkdaaOpenf
import Derived.SliceStrings
namespace Go.Proofs.Ytgehhadnjllkdaa.kit
open Go.ChangeShapes Go.WideShapes Go.ChangeAt Go.RowKit

/-- a slice of n texts, in memory that was there -/
def Strs (w : World) (ad : Option Addr) (n : Nat) (S : Nat → ByteArray) : Prop :=
  ∀ i, i < n → ∃ b off, ad = some ⟨b, off, none⟩ ∧ b < w.heap.size ∧ w.cell? ⟨b, off + i, none⟩ = some (.string (S i)) ∧ (S i).size ≤ 140737488351232
theorem Strs.below {w w' : World} {ad : Option Addr} {n : Nat} {S : Nat → ByteArray} (h : Strs w ad n S) {B : Nat} (hb : Below B w w') (hB : w.heap.size ≤ B) : Strs w' ad n S := by
  intro i hi
  obtain ⟨b, off, rfl, hlt, h0, h1⟩ := h i hi
  exact ⟨b, off, rfl, Nat.lt_of_lt_of_le hlt hb.size, (hb.cell (p := ⟨b, off + i, none⟩) (Nat.lt_of_lt_of_le hlt hB)).trans h0, h1⟩

set_option maxRecDepth 100000 in
theorem open_strs {H : Type} {enc : TypeId × Value → H} {W : World} {base : Nat} {ts : List TypeId} {ds : List (DataW H)} {j : Nat} {v : Value} {d : DataW H} {p : List MemPlace}
    (hv : Value.okWide Try.prog W .any base 38 v) (h : DataW.Trod enc Try.prog W 0 (fun _ => true) true 38 v d p)
    (hsz : (DataW.weightsEach Try.prog ts ds).all (· ≤ reachBytes) = true) (htj : ts[j]? = some 38) (hdj : ds[j]? = some d) :
    ∃ (ad : Option Addr) (n cap : Nat) (S : Nat → ByteArray), v = .slice ad n cap ∧ n ≤ 9223372036854775807 ∧ Strs W ad n S := by
  obtain ⟨a0, len0, cap0, rfl⟩ := okWide_slice Try.underlying38 hv
  obtain ⟨fuel, hf⟩ := h
  rcases open_strings Try.underlying38 Try.underlying9 (by kernel_rfl) hf with ⟨hcs, _⟩ | ⟨a, len, cap, ss, hcs, _, hl, hm, hz, hx, hcell, _⟩
  · simp only [Value.cells] at hcs
    injection hcs with h1 _
    injection h1 with _ h2 _
    refine ⟨a0, len0, cap0, fun _ => ByteArray.empty, rfl, by omega, fun i hi => ?_⟩
    omega
  · simp only [Value.cells] at hcs
    injection hcs with h1 _
    injection h1 with h1 h2 h3
    subst h1 h2 h3
    have hz' : ss.length = cap0 := by rw [hz]; simp
    injection hx with hd _
    refine ⟨some a, len0, cap0, fun i => ss.getD i ByteArray.empty, rfl, by unfold maxLen at hm; omega, fun i hi => ?_⟩
    have hc0 := hcell i (by omega)
    obtain ⟨b, off, spot⟩ := a
    have hspot : spot = none := by
      have z0 := hcell 0 (by omega)
      simpa [Addr.add] using World.cell?_spot z0
    subst hspot
    rw [Addr.add_lit] at hc0
    refine ⟨b, off, rfl, World.block_lt_of_cell? W _ hc0, hc0, ?_⟩
    have hi2 : i < ss.length := by omega
    have hget : ss.getD i ByteArray.empty = ss[i] := by rw [List.getD_eq_getElem?_getD, List.getElem?_eq_getElem hi2]; rfl
    have hmem : (DataW.lit (.string (ss[i]).data.toList) : DataW H) ∈ strs (ss.take len0) := by
      refine List.mem_map.2 ⟨ss[i], ?_, rfl⟩
      rw [List.mem_take_iff_getElem]
      exact ⟨i, by omega, rfl⟩
    have hw : (ss[i]).data.toList.length ∈ DataW.weights Try.prog 9 (DataW.lit (.string (ss[i]).data.toList) : DataW H) := by simp [DataW.weights]
    have h1 := List.all_eq_true.1 hsz _ (DataW.weights_mem_each htj hdj _ (show (ss[i]).data.toList.length ∈ _ by
      rw [hd]
      simp only [DataW.weights, Try.underlying38, List.mem_cons, List.mem_append]
      exact .inr (.inl (weights_all hmem _ hw))))
    have e : (ss[i]).data.toList.length = (ss[i]).size := by rw [Array.length_toList]; rfl
    rw [e] at h1
    show (ss.getD i ByteArray.empty).size ≤ _
    rw [hget]
    have h2 : (ss[i]).size ≤ reachBytes := by simpa using h1
    exact h2
end Go.Proofs.Ytgehhadnjllkdaa.kit
