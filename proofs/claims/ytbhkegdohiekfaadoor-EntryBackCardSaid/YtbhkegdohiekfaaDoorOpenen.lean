/-
  An entry that came in.
-/
import Derived.Test.YtbhkegdohiekfaaDoorOpenida
import Derived.Test.YtbhkegdohiekfaaDoorEnm
namespace Go.Proofs.YtbhkegdohiekfaaDoor.kit
open Go.ChangeShapes Go.WideShapes Go.ChangeAt Go.RowKit Go.Proofs.YtbhkegdohiekfaaDoor.sha Go.Proofs.YtbhkegdohiekfaaDoor.ids Go.Proofs.YtbhkegdohiekfaaDoor.ent

theorem cells_en : Tryd.prog.cellsOf 25 = 35 := by kernel_rfl
theorem one_int_e : Tryd.prog.cellsOf 3 = 1 := by kernel_rfl
theorem one_str_e : Tryd.prog.cellsOf 9 = 1 := by kernel_rfl
theorem cut_at_e (l : List Value) (n m : Nat) : l.drop n = (l.drop n).take m ++ l.drop (n + m) := by
  rw [← List.drop_drop, List.take_append_drop]
theorem en_of_trod {H : Type} {enc0 : TypeId × Value → H} {W : World} {fuel : Nat} {cs0 : List Value} {x : DataW H × List MemPlace}
    (hf : DataW.trod enc0 Tryd.prog W 0 (fun _ => true) true fuel 25 cs0 = some x) (hsz : ∀ n ∈ DataW.weights Tryd.prog 25 x.1, n ≤ reachBytes) :
    ∃ e : En, cs0 = ent.enc e ∧ e.commit.length = 32 ∧ e.topic.length ≤ 140737488351232 ∧ e.body.length ≤ 140737488351232 := by
  obtain ⟨xs, n, _, hx, hlen, hn, hff⟩ := DataW.trod_struct Tryd.underlying25 hf
  rw [cells_en] at hlen
  have h0 := hff 0 _ rfl
  have h1 := hff 1 _ rfl
  have h2 := hff 2 _ rfl
  have h3 := hff 3 _ rfl
  have hxs : xs.length = 4 := hn
  have e : ∀ i, i < 4 → ∃ y, xs[i]? = some y := fun i hi => ⟨_, List.getElem?_eq_getElem (by omega)⟩
  obtain ⟨y0, k0⟩ := e 0 (by decide)
  obtain ⟨y1, k1⟩ := e 1 (by decide)
  obtain ⟨y2, k2⟩ := e 2 (by decide)
  obtain ⟨y3, k3⟩ := e 3 (by decide)
  rw [k0] at h0
  rw [k1] at h1
  rw [k2] at h2
  rw [k3] at h3
  replace h0 : DataW.trod enc0 Tryd.prog W 0 (fun _ => true) true n 3 ((cs0.drop 0).take 1) = some y0 := one_int_e ▸ h0
  replace h1 : DataW.trod enc0 Tryd.prog W 0 (fun _ => true) true n 9 ((cs0.drop 1).take 1) = some y1 := one_str_e ▸ h1
  replace h2 : DataW.trod enc0 Tryd.prog W 0 (fun _ => true) true n 9 ((cs0.drop 2).take 1) = some y2 := one_str_e ▸ h2
  replace h3 : DataW.trod enc0 Tryd.prog W 0 (fun _ => true) true n 23 ((cs0.drop 3).take 32) = some y3 := cells_id ▸ h3
  have hw : ∀ j t d, (Tryd.prog.types.size = Tryd.prog.types.size) → ([3, 9, 9, 23] : List TypeId)[j]? = some t → (xs.map (·.1))[j]? = some d → ∀ n ∈ DataW.weights Tryd.prog t d, n ≤ reachBytes := fun j t d _ ht hd n hn => hsz n (by
    rw [hx]
    simp only [DataW.weights, Tryd.underlying25]
    exact DataW.weights_mem_each (j := j) (t := t) (d := d) ht hd _ hn)
  obtain ⟨n0, e0, _, _⟩ := DataW.trod_int Tryd.underlying3 h0
  obtain ⟨ts, e1, e1', _⟩ := DataW.trod_string Tryd.underlying9 h1
  obtain ⟨bs, e2, e2', _⟩ := DataW.trod_string Tryd.underlying9 h2
  obtain ⟨y, hy, e3⟩ := id_of_trod h3
  refine ⟨⟨n0, ts.data.toList, bs.data.toList, y⟩, ?_, hy, ?_, ?_⟩
  · have c : cs0 = cs0.drop 0 := rfl
    rw [c, cut_at_e cs0 0 1, cut_at_e cs0 (0 + 1) 1, cut_at_e cs0 (0 + 1 + 1) 1, cut_at_e cs0 (0 + 1 + 1 + 1) 32, List.drop_of_length_le (i := 0 + 1 + 1 + 1 + 32) (by omega)]
    unfold ent.enc
    rw [oct.tx_eta, oct.tx_eta]
    show List.take 1 (List.drop 0 cs0) ++ (List.take 1 (List.drop 1 cs0) ++ (List.take 1 (List.drop 2 cs0) ++ (List.take 32 (List.drop 3 cs0) ++ []))) = _
    rw [e0, e1, e2, e3, List.append_nil]
    rfl
  · exact hw 1 _ _ rfl rfl (by rw [List.getElem?_map, k1]; rfl) ts.data.toList.length (by rw [e1']; simp [DataW.weights])
  · exact hw 2 _ _ rfl rfl (by rw [List.getElem?_map, k2]; rfl) bs.data.toList.length (by rw [e2']; simp [DataW.weights])
set_option maxRecDepth 100000 in
theorem open_en {H : Type} {enc0 : TypeId × Value → H} {W : World} {base : Nat} {ts : List TypeId} {ds : List (DataW H)} {j : Nat} {v : Value} {d : DataW H} {p : List MemPlace}
    (hv : Value.okWide Tryd.prog W .any base 25 v) (h : DataW.Trod enc0 Tryd.prog W 0 (fun _ => true) true 25 v d p)
    (hsz : (DataW.weightsEach Tryd.prog ts ds).all (· ≤ reachBytes) = true) (htj : ts[j]? = some 25) (hdj : ds[j]? = some d) :
    ∃ e : En, v = env e ∧ e.commit.length = 32 ∧ e.topic.length ≤ 140737488351232 ∧ e.body.length ≤ 140737488351232 := by
  obtain ⟨cs, rfl, _⟩ := okWide_struct Tryd.underlying25 hv
  obtain ⟨fuel, hf⟩ := h
  obtain ⟨e, hc, h1, h2, h3⟩ := en_of_trod hf fun n hn => by
    have h1 := List.all_eq_true.1 hsz _ (DataW.weights_mem_each htj hdj _ hn)
    simpa using h1
  refine ⟨e, ?_, h1, h2, h3⟩
  simp only [Value.cells] at hc
  unfold env
  rw [← hc]
end Go.Proofs.YtbhkegdohiekfaaDoor.kit
