/-
  petrelref11.Same.
  A record, and a list of records, that came in.
-/
import Derived.Test.YtlnpemnolldooaaDoorRcaa
import Derived.Test.YtlnpemnolldooaaDoorOpenf
namespace Go.Proofs.YtlnpemnolldooaaDoor.rcd
open Go.RowKit Go.Proofs.YtlnpemnolldooaaDoor.mem Go.Proofs.YtlnpemnolldooaaDoor.sha Go.Proofs.YtlnpemnolldooaaDoor.opn Go.Proofs.YtlnpemnolldooaaDoor.rows Go.Proofs.YtlnpemnolldooaaDoor.ids

/-- two lists that are one -/
theorem same_eq {w : World} {va vb : Value} {L : List Rc} (hA : RcV w va L) (hB : RcV w vb L) (hm : L.length ≤ 1000000) :
    Calls Tryd.prog 11 #[va, vb] w fun e w' => e = .returned (.bool true) ∧ Below w.heap.size w w' := by
  obtain ⟨ad, c1, rfl, hC1⟩ := hA
  obtain ⟨bd, c2, rfl, hC2⟩ := hB
  obtain ⟨n, hn⟩ : ∃ n, n = L.length := ⟨_, rfl⟩
  rw [← hn] at hC1 hC2 hm ⊢
  have n0 : (0 : Int) ≤ (n : Int) := Int.natCast_nonneg _
  clear hn
  go_enter Tryd.func11, Tryd.ntmps11
  go_wp2_with fail
  go_loopg [5] (n + 1) (fun gk s5 wr => ∃ i : Nat, s5 = .int .i64 i ∧ i ≤ n ∧ n - i < gk ∧ Hid (Below w.heap.size w wr))
  case atStart => exact ⟨0, rfl, Nat.zero_le _, by omega, Lib.hid (Below.refl _ _)⟩
  case round =>
    obtain ⟨i, rfl, hi, hgk, HB⟩ := hrel
    have i0 : (0 : Int) ≤ (i : Int) := Int.natCast_nonneg _
    by_cases hlt : i < n
    · have hltz : (i : Int) < (n : Int) := by omega
      obtain ⟨b, off, rfl, hbl, a0, a1⟩ := hC1 i hlt
      obtain ⟨b', off', rfl, hbl', a0', a1'⟩ := hC2 i hlt
      replace a0 := (HB.out.cell (p := ⟨b, off + i * 2, none⟩) hbl).trans a0
      replace a1 := (HB.out.cell (p := ⟨b, off + i * 2 + 1, none⟩) hbl).trans a1
      replace a0' := (HB.out.cell (p := ⟨b', off' + i * 2, none⟩) hbl').trans a0'
      replace a1' := (HB.out.cell (p := ⟨b', off' + i * 2 + 1, none⟩) hbl').trans a1'
      obtain ⟨k, hk⟩ : ∃ k, k = (L.getD i zrc).k := ⟨_, rfl⟩
      obtain ⟨t, ht⟩ : ∃ t, t = oct.tx (L.getD i zrc).body := ⟨_, rfl⟩
      rw [← hk] at a0 a0'
      rw [← ht] at a1 a1'
      clear hk ht hC1 hC2
      go_upto_region 6 with fail
      go_quiet (fail)
      go_wp2_with fail
      go_roundg (n - i)
      case measure => omega
      case rel => exact ⟨i + 1, by go_num, hlt, by omega, Lib.hid (below_drewN HB.out _)⟩
    · have hlt' : ¬ (i : Int) < (n : Int) := by omega
      go_wp2_with fail
      go_ret
      exact ⟨rfl, HB.out⟩
end Go.Proofs.YtlnpemnolldooaaDoor.rcd

namespace Go.Proofs.YtlnpemnolldooaaDoor.kit
open Go.ChangeShapes Go.WideShapes Go.ChangeAt Go.RowKit Go.Deep Go.Proofs.YtlnpemnolldooaaDoor.sha Go.Proofs.YtlnpemnolldooaaDoor.rcd

theorem cells_rc : Tryd.prog.cellsOf 39 = 2 := by kernel_rfl
theorem one_int_r : Tryd.prog.cellsOf 3 = 1 := by kernel_rfl
theorem one_str_r : Tryd.prog.cellsOf 9 = 1 := by kernel_rfl
theorem cut_at_r (l : List Value) (n m : Nat) : l.drop n = (l.drop n).take m ++ l.drop (n + m) := by
  rw [← List.drop_drop, List.take_append_drop]
set_option maxRecDepth 100000 in
theorem rc_of_trod {H : Type} {enc : TypeId × Value → H} {W : World} {fuel : Nat} {cs0 : List Value} {x : DataW H × List MemPlace}
    (hf : DataW.trod enc Tryd.prog W 0 (fun _ => true) true fuel 39 cs0 = some x) (hsz : ∀ n ∈ DataW.weights Tryd.prog 39 x.1, n ≤ reachBytes) :
    ∃ (k : Int) (b : ByteArray), cs0 = [.int .i64 k, .string b] ∧ b.size ≤ 140737488351232 := by
  obtain ⟨xs, n, _, hx, hlen, hn, hff⟩ := DataW.trod_struct Tryd.underlying39 hf
  rw [cells_rc] at hlen
  have h0 := hff 0 _ rfl
  have h1 := hff 1 _ rfl
  have hxs : xs.length = 2 := hn
  have e : ∀ i, i < 2 → ∃ y, xs[i]? = some y := fun i hi => ⟨_, List.getElem?_eq_getElem (by omega)⟩
  obtain ⟨y0, k0⟩ := e 0 (by decide)
  obtain ⟨y1, k1⟩ := e 1 (by decide)
  rw [k0] at h0
  rw [k1] at h1
  replace h0 : DataW.trod enc Tryd.prog W 0 (fun _ => true) true n 3 ((cs0.drop 0).take 1) = some y0 := one_int_r ▸ h0
  replace h1 : DataW.trod enc Tryd.prog W 0 (fun _ => true) true n 9 ((cs0.drop 1).take 1) = some y1 := one_str_r ▸ h1
  have hw : ∀ j t d, ([3, 9] : List TypeId)[j]? = some t → (xs.map (·.1))[j]? = some d → ∀ n ∈ DataW.weights Tryd.prog t d, n ≤ reachBytes := fun j t d ht hd n hn => hsz n (by
    rw [hx]
    simp only [DataW.weights, Tryd.underlying39]
    exact DataW.weights_mem_each (j := j) (t := t) (d := d) ht hd _ hn)
  obtain ⟨n1, e0, _, _⟩ := DataW.trod_int Tryd.underlying3 h0
  obtain ⟨ts, e1, e1', _⟩ := DataW.trod_string Tryd.underlying9 h1
  refine ⟨n1, ts, ?_, ?_⟩
  · have c : cs0 = cs0.drop 0 := rfl
    rw [c, cut_at_r cs0 0 1, cut_at_r cs0 (0 + 1) 1, List.drop_of_length_le (i := 0 + 1 + 1) (by omega)]
    show List.take 1 (List.drop 0 cs0) ++ (List.take 1 (List.drop 1 cs0) ++ []) = _
    rw [e0, e1, List.append_nil]
    rfl
  · have := hw 1 _ _ rfl (by rw [List.getElem?_map, k1]; rfl) ts.data.toList.length (by rw [e1']; simp [DataW.weights])
    rw [Array.length_toList] at this
    exact this
set_option maxRecDepth 100000 in
theorem open_rc {H : Type} {enc : TypeId × Value → H} {W : World} {base : Nat} {ts : List TypeId} {ds : List (DataW H)} {j : Nat} {v : Value} {d : DataW H} {p : List MemPlace}
    (hv : Value.okWide Tryd.prog W .any base 39 v) (h : DataW.Trod enc Tryd.prog W 0 (fun _ => true) true 39 v d p)
    (hsz : (DataW.weightsEach Tryd.prog ts ds).all (· ≤ reachBytes) = true) (htj : ts[j]? = some 39) (hdj : ds[j]? = some d) :
    ∃ (k : Int) (b : ByteArray), v = .agg #[.int .i64 k, .string b] ∧ b.size ≤ 140737488351232 := by
  obtain ⟨cs, rfl, _⟩ := okWide_struct Tryd.underlying39 hv
  obtain ⟨fuel, hf⟩ := h
  obtain ⟨k, b, hc, h2⟩ := rc_of_trod hf fun n hn => by
    have h1 := List.all_eq_true.1 hsz _ (DataW.weights_mem_each htj hdj _ hn)
    simpa using h1
  refine ⟨k, b, ?_, h2⟩
  simp only [Value.cells] at hc
  rw [show cs = cs.toList.toArray by simp, hc]
set_option maxRecDepth 100000 in
theorem open_rcs {H : Type} {enc : TypeId × Value → H} {W : World} {base : Nat} {ts : List TypeId} {ds : List (DataW H)} {j : Nat} {v : Value} {d : DataW H} {p : List MemPlace}
    (hv : Value.okWide Tryd.prog W .any base 29 v) (h : DataW.Trod enc Tryd.prog W 0 (fun _ => true) true 29 v d p)
    (hsz : (DataW.weightsEach Tryd.prog ts ds).all (· ≤ reachBytes) = true) (htj : ts[j]? = some 29) (hdj : ds[j]? = some d) :
    ∃ (L : List Rc), RcV W v L ∧ (∀ r ∈ L, r.body.length ≤ 140737488355328) ∧ L.length ≤ 9223372036854775807 := by
  obtain ⟨a0, len0, cap0, rfl⟩ := okWide_slice Tryd.underlying29 hv
  obtain ⟨fuel, hf⟩ := h
  rcases open_slice_fields Tryd.underlying29 Tryd.underlying39 (by kernel_rfl) (by rw [cells_rc]; rfl) hf with ⟨hcs, _⟩ | ⟨a, len, cap, m, D, Pl, hcs, _, hl, hm, hmm, hx, hi⟩
  · simp only [Value.cells] at hcs
    injection hcs with h1 _
    injection h1 with h1 h2 h3
    subst h2
    exact ⟨[], ⟨a0, cap0, rfl, fun i hi => by simp at hi⟩, fun r hr => (by cases hr), by simp⟩
  · simp only [Value.cells] at hcs
    injection hcs with h1 _
    injection h1 with h1 h2 h3
    subst h1 h2 h3
    have hm' : m = cap0 := by rw [hmm]; simp
    subst hm'
    injection hx with hd _
    have hsel : ∀ i, ∃ (q : Int × ByteArray), i < len0 → W.cell? (a.add (i * 2)) = some (.int .i64 q.1) ∧ W.cell? (a.add (i * 2 + 1)) = some (.string q.2) ∧ q.2.size ≤ 140737488351232 := by
      intro i
      by_cases hil : i < len0
      case neg => exact ⟨(0, ByteArray.empty), fun h => absurd h hil⟩
      obtain ⟨ys, n, hD, _, hyl, hff⟩ := hi i (by omega)
      obtain ⟨v0, y0, hc0, hy0, ht0⟩ := hff 0 _ rfl
      obtain ⟨v1, y1, hc1, hy1, ht1⟩ := hff 1 _ rfl
      obtain ⟨x0, e0, _, _⟩ := DataW.trod_int Tryd.underlying3 ht0
      obtain ⟨s, e1, e1', _⟩ := DataW.trod_string Tryd.underlying9 ht1
      have hmem : D i ∈ (List.range len0).map D := List.mem_map.2 ⟨i, List.mem_range.2 hil, rfl⟩
      have hin : ∀ n ∈ DataW.weights Tryd.prog 39 (D i), n ≤ reachBytes := fun n hn => by
        have h1 := List.all_eq_true.1 hsz _ (DataW.weights_mem_each htj hdj _ (show n ∈ _ by
          rw [hd]
          simp only [DataW.weights, Tryd.underlying29, List.mem_cons, List.mem_append]
          exact .inr (.inl (weights_all hmem _ hn))))
        simpa using h1
      have hop : s.size ≤ 140737488351232 := by
        have := hin s.data.toList.length (by
          rw [hD]
          simp only [DataW.weights, Tryd.underlying39]
          refine DataW.weights_mem_each (j := 1) (t := 9) (d := y1.1) rfl (by rw [List.getElem?_map, hy1]; rfl) _ ?_
          rw [e1']
          simp [DataW.weights])
        have e : s.data.toList.length = s.size := by rw [Array.length_toList]; rfl
        rw [e] at this
        exact this
      simp only [List.cons.injEq, and_true] at e0 e1
      subst e0 e1
      exact ⟨(x0, s), fun _ => ⟨hc0, hc1, hop⟩⟩
    obtain ⟨Q, hQ⟩ := Classical.axiomOfChoice hsel
    have hgd : ∀ i, i < len0 → ((List.range len0).map fun i => (⟨(Q i).1, (Q i).2.data.toList⟩ : Rc)).getD i zrc = ⟨(Q i).1, (Q i).2.data.toList⟩ := fun i hi => by
      rw [List.getD_eq_getElem?_getD, List.getElem?_map, List.getElem?_range hi]
      rfl
    refine ⟨(List.range len0).map fun i => ⟨(Q i).1, (Q i).2.data.toList⟩, ⟨some a, m, by rw [List.length_map, List.length_range], fun i hil => ?_⟩, fun r hr => ?_, by rw [List.length_map, List.length_range]; unfold maxLen at hm; omega⟩
    · rw [List.length_map, List.length_range] at hil
      obtain ⟨g0, g1, g2⟩ := hQ i hil
      obtain ⟨b, off, spot⟩ := a
      have hspot : spot = none := by
        obtain ⟨z0, _⟩ := hQ 0 (by omega)
        simpa [Addr.add] using World.cell?_spot z0
      subst hspot
      rw [Addr.add_lit] at g0 g1
      rw [hgd i hil]
      exact ⟨b, off, rfl, World.block_lt_of_cell? W _ g0, g0, by rw [oct.tx_eta]; exact g1⟩
    · obtain ⟨i, hi, rfl⟩ := List.mem_map.1 hr
      have := (hQ i (List.mem_range.1 hi)).2.2
      have e : (Q i).2.data.toList.length = (Q i).2.size := Array.length_toList
      show (Q i).2.data.toList.length ≤ _
      omega
end Go.Proofs.YtlnpemnolldooaaDoor.kit
