/-
  A message that came in.
-/
import Derived.Test.YtbfjljbllfjicaaOpenid
import Derived.Test.YtbfjljbllfjicaaMsm
namespace Go.Proofs.Ytbfjljbllfjicaa.kit
open Go.ChangeShapes Go.WideShapes Go.ChangeAt Go.RowKit Go.Proofs.Ytbfjljbllfjicaa.sha Go.Proofs.Ytbfjljbllfjicaa.ids Go.Proofs.Ytbfjljbllfjicaa.msg

theorem cells_mg : Try.prog.cellsOf 24 = 3 := by kernel_rfl
theorem one_int_m : Try.prog.cellsOf 3 = 1 := by kernel_rfl
theorem one_str_m : Try.prog.cellsOf 9 = 1 := by kernel_rfl
theorem one_ids_m : Try.prog.cellsOf 22 = 1 := by kernel_rfl
theorem cut_at_m (l : List Value) (n m : Nat) : l.drop n = (l.drop n).take m ++ l.drop (n + m) := by
  rw [← List.drop_drop, List.take_append_drop]
theorem mg_of_trod {H : Type} {enc : TypeId × Value → H} {W : World} {fuel : Nat} {cs0 : List Value} {x : DataW H × List MemPlace}
    (hf : DataW.trod enc Try.prog W 0 (fun _ => true) true fuel 24 cs0 = some x) (hsz : ∀ n ∈ DataW.weights Try.prog 24 x.1, n ≤ reachBytes) :
    ∃ (o : Mg) (v : Value), cs0 = mgc o v ∧ RdV W v o.ids ∧ o.body.length ≤ 140737488351232 := by
  obtain ⟨xs, n, _, hx, hlen, hn, hff⟩ := DataW.trod_struct Try.underlying24 hf
  rw [cells_mg] at hlen
  have h0 := hff 0 _ rfl
  have h1 := hff 1 _ rfl
  have h2 := hff 2 _ rfl
  have hxs : xs.length = 3 := hn
  have e : ∀ i, i < 3 → ∃ y, xs[i]? = some y := fun i hi => ⟨_, List.getElem?_eq_getElem (by omega)⟩
  obtain ⟨y0, k0⟩ := e 0 (by decide)
  obtain ⟨y1, k1⟩ := e 1 (by decide)
  obtain ⟨y2, k2⟩ := e 2 (by decide)
  rw [k0] at h0
  rw [k1] at h1
  rw [k2] at h2
  replace h0 : DataW.trod enc Try.prog W 0 (fun _ => true) true n 3 ((cs0.drop 0).take 1) = some y0 := one_int_m ▸ h0
  replace h1 : DataW.trod enc Try.prog W 0 (fun _ => true) true n 22 ((cs0.drop 1).take 1) = some y1 := one_ids_m ▸ h1
  replace h2 : DataW.trod enc Try.prog W 0 (fun _ => true) true n 9 ((cs0.drop 2).take 1) = some y2 := one_str_m ▸ h2
  have hw : ∀ j t d, (Try.prog.types.size = Try.prog.types.size) → ([3, 22, 9] : List TypeId)[j]? = some t → (xs.map (·.1))[j]? = some d → ∀ n ∈ DataW.weights Try.prog t d, n ≤ reachBytes := fun j t d _ ht hd n hn => hsz n (by
    rw [hx]
    simp only [DataW.weights, Try.underlying24]
    exact DataW.weights_mem_each (j := j) (t := t) (d := d) ht hd _ hn)
  obtain ⟨n1, e0, _, _⟩ := DataW.trod_int Try.underlying3 h0
  obtain ⟨v, L, e1, hR⟩ := ids_of_trod h1 (hw 1 _ _ rfl rfl (by rw [List.getElem?_map, k1]; rfl))
  obtain ⟨ts, e2, e2', _⟩ := DataW.trod_string Try.underlying9 h2
  refine ⟨⟨n1, L, ts.data.toList⟩, v, ?_, hR, ?_⟩
  · have c : cs0 = cs0.drop 0 := rfl
    rw [c, cut_at_m cs0 0 1, cut_at_m cs0 (0 + 1) 1, cut_at_m cs0 (0 + 1 + 1) 1, List.drop_of_length_le (i := 0 + 1 + 1 + 1) (by omega)]
    unfold mgc
    rw [oct.tx_eta]
    show List.take 1 (List.drop 0 cs0) ++ (List.take 1 (List.drop 1 cs0) ++ (List.take 1 (List.drop 2 cs0) ++ [])) = _
    rw [e0, e1, e2, List.append_nil]
    rfl
  · have := hw 2 _ _ rfl rfl (by rw [List.getElem?_map, k2]; rfl) ts.data.toList.length (by rw [e2']; simp [DataW.weights])
    exact this
set_option maxRecDepth 100000 in
theorem open_mg {H : Type} {enc : TypeId × Value → H} {W : World} {base : Nat} {ts : List TypeId} {ds : List (DataW H)} {j : Nat} {v : Value} {d : DataW H} {p : List MemPlace}
    (hv : Value.okWide Try.prog W .any base 24 v) (h : DataW.Trod enc Try.prog W 0 (fun _ => true) true 24 v d p)
    (hsz : (DataW.weightsEach Try.prog ts ds).all (· ≤ reachBytes) = true) (htj : ts[j]? = some 24) (hdj : ds[j]? = some d) :
    ∃ (o : Mg) (u : Value), v = mgv o u ∧ RdV W u o.ids ∧ o.body.length ≤ 140737488351232 := by
  obtain ⟨cs, rfl, _⟩ := okWide_struct Try.underlying24 hv
  obtain ⟨fuel, hf⟩ := h
  obtain ⟨o, u, hc, h2, h3⟩ := mg_of_trod hf fun n hn => by
    have h1 := List.all_eq_true.1 hsz _ (DataW.weights_mem_each htj hdj _ hn)
    simpa using h1
  refine ⟨o, u, ?_, h2, h3⟩
  simp only [Value.cells] at hc
  rw [show cs = cs.toList.toArray by simp, hc]
  rfl
end Go.Proofs.Ytbfjljbllfjicaa.kit
