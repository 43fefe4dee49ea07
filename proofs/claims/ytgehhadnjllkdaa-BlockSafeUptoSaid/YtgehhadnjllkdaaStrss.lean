/-
  A row of texts whose bulk is at most 1048576: no text has more bytes.
-/
import Derived.Test.YtgehhadnjllkdaaStrs
import Derived.JoinedCond
import Derived.Deep.CondSized
namespace Go.Proofs.Ytgehhadnjllkdaa.kit
open Go.ChangeShapes Go.WideShapes Go.ChangeAt Go.RowKit Go.Deep

theorem bulk_le {H : Type} {d : DataW H} {l : List (DataW H)} (h : d ∈ l) : Rows.uptoBulk d ≤ Rows.uptoBulkAll l := by
  induction l with
  | nil => cases h
  | cons x r ih =>
    simp only [Rows.uptoBulkAll]
    cases List.mem_cons.1 h with
    | inl e => subst e; omega
    | inr e => have := ih e; omega
set_option maxRecDepth 100000 in
theorem open_strs_small {H : Type} {enc : TypeId × Value → H} {W : World} {base : Nat} {ts : List TypeId} {ds : List (DataW H)} {j : Nat} {v : Value} {d : DataW H} {p : List MemPlace}
    (hv : Value.okWide Try.prog W .any base 38 v) (h : DataW.Trod enc Try.prog W 0 (fun _ => true) true 38 v d p)
    (hsz : (DataW.weightsEach Try.prog ts ds).all (· ≤ reachBytes) = true) (htj : ts[j]? = some 38) (hdj : ds[j]? = some d) (hk : Rows.uptoBulk d ≤ 1048576) :
    ∃ (ad : Option Addr) (n cap : Nat) (S : Nat → ByteArray), v = .slice ad n cap ∧ n ≤ 9223372036854775807 ∧ Strs W ad n S ∧ ∀ i, i < n → (S i).size ≤ 1048576 := by
  obtain ⟨ad, n, cap, S, rfl, hn, hS⟩ := open_strs hv h hsz htj hdj
  refine ⟨ad, n, cap, S, rfl, hn, hS, fun i hin => ?_⟩
  obtain ⟨fuel, hf⟩ := h
  rcases open_strings Try.underlying38 Try.underlying9 (by kernel_rfl) hf with ⟨hcs, _⟩ | ⟨a, len, cap, ss, hcs, _, hl, hm, hz, hx, hcell, _⟩
  · simp only [Value.cells] at hcs
    injection hcs with h1 _
    injection h1 with _ h2 _
    omega
  · simp only [Value.cells] at hcs
    injection hcs with h1 _
    injection h1 with h1 h2 h3
    subst h1 h2 h3
    injection hx with hd _
    have hzl : ss.length = cap := by rw [hz]; simp
    have hi2 : i < ss.length := by omega
    obtain ⟨b, off, e, _, hc, _⟩ := hS i hin
    cases e
    have hc0 := hcell i (by omega)
    rw [Addr.add_lit] at hc0
    rw [hc] at hc0
    have hget : ss.getD i ByteArray.empty = ss[i] := by rw [List.getD_eq_getElem?_getD, List.getElem?_eq_getElem hi2]; rfl
    have e1 : S i = ss[i] := by
      injection hc0 with h1
      injection h1 with h2
      exact h2.trans hget
    have hmem : (DataW.lit (.string (ss[i]).data.toList) : DataW H) ∈ strs (ss.take n) := by
      refine List.mem_map.2 ⟨ss[i], ?_, rfl⟩
      rw [List.mem_take_iff_getElem]
      exact ⟨i, by omega, rfl⟩
    have hb := bulk_le hmem
    have hbd : Rows.uptoBulkAll (strs (ss.take n) : List (DataW H)) ≤ 1048576 := by
      rw [hd] at hk
      simp only [Rows.uptoBulk] at hk
      omega
    simp only [Rows.uptoBulk] at hb
    have e2 : (ss[i]).data.toList.length = (ss[i]).size := by rw [Array.length_toList]; rfl
    rw [e1]
    omega
end Go.Proofs.Ytgehhadnjllkdaa.kit
