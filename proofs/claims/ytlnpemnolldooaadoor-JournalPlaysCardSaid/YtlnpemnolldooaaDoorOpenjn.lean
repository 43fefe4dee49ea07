/-
  A list of bools that came in.
  petrellaw12's acts, and a list of bools, that came in.
-/
import Derived.Test.YtlnpemnolldooaaDoorOpenf
import Derived.Test.YtlnpemnolldooaaDoorBls
import Derived.Deep.Slices
import Derived.Deep.Grids
import Derived.Test.YtlnpemnolldooaaDoorOpenrc
import Derived.Test.YtlnpemnolldooaaDoorJnk
namespace Go.Proofs.YtlnpemnolldooaaDoor.kit
open Go.ChangeShapes Go.WideShapes Go.ChangeAt Go.RowKit Go.Deep

theorem cells_bool : Tryd.prog.cellsOf 4 = 1 := by kernel_rfl
set_option maxRecDepth 100000 in
theorem open_bools1 {H : Type} {enc : TypeId × Value → H} {W : World} {base : Nat} {v : Value} {d : DataW H} {p : List MemPlace}
    (hv : Value.okWide Tryd.prog W .any base 49 v) (h : DataW.Trod enc Tryd.prog W 0 (fun _ => true) true 49 v d p) :
    ∃ (ad : Option Addr) (n cap : Nat) (S : Nat → Bool), v = .slice ad n cap ∧ n ≤ 9223372036854775807 ∧ bls.Bools W ad n S := by
  obtain ⟨a0, len0, cap0, rfl⟩ := okWide_slice Tryd.underlying49 hv
  obtain ⟨fuel, hf⟩ := h
  rcases open_bools Tryd.underlying49 Tryd.underlying4 cells_bool hf with ⟨hcs, _⟩ | ⟨a, len, cap, zs, hcs, _, hl, hm, hx, hcell⟩
  · simp only [Value.cells] at hcs
    injection hcs with h1 _
    injection h1 with h1 h2 h3
    subst h2
    exact ⟨a0, 0, cap0, fun _ => false, rfl, by omega, fun i hi => by omega⟩
  · simp only [Value.cells] at hcs
    injection hcs with h1 _
    injection h1 with h1 h2 h3
    subst h1 h2 h3
    refine ⟨some a, len0, cap0, zs, rfl, by unfold maxLen at hm; omega, fun i hi => ?_⟩
    have hc0 := hcell i (by omega)
    obtain ⟨b, off, spot⟩ := a
    have hspot : spot = none := by
      have z0 := hcell 0 (by omega)
      simpa [Addr.add] using World.cell?_spot z0
    subst hspot
    rw [Addr.add_lit] at hc0
    exact ⟨b, off, rfl, World.block_lt_of_cell? W _ hc0, hc0⟩
end Go.Proofs.YtlnpemnolldooaaDoor.kit

namespace Go.Proofs.YtlnpemnolldooaaDoor.kit
open Go.ChangeShapes Go.WideShapes Go.ChangeAt Go.RowKit Go.Deep Go.Proofs.YtlnpemnolldooaaDoor.sha Go.Proofs.YtlnpemnolldooaaDoor.rcd

theorem cells_jact : Tryd.prog.cellsOf 41 = 4 := by kernel_rfl
set_option maxRecDepth 100000 in
theorem open_jacts {H : Type} {enc : TypeId × Value → H} {W : World} {base : Nat} {ts : List TypeId} {ds : List (DataW H)} {j : Nat} {v : Value} {d : DataW H} {p : List MemPlace}
    (hv : Value.okWide Tryd.prog W .any base 22 v) (h : DataW.Trod enc Tryd.prog W 0 (fun _ => true) true 22 v d p)
    (hsz : (DataW.weightsEach Tryd.prog ts ds).all (· ≤ reachBytes) = true) (htj : ts[j]? = some 22) (hdj : ds[j]? = some d) :
    ∃ (ad : Option Addr) (n cap : Nat) (K N : Nat → Int) (R : Nat → Rc), v = .slice ad n cap ∧ n ≤ 9223372036854775807 ∧ jn.JActs W ad n K N R := by
  obtain ⟨a0, len0, cap0, rfl⟩ := okWide_slice Tryd.underlying22 hv
  obtain ⟨fuel, hf⟩ := h
  rcases open_slice Tryd.underlying22 hf with ⟨hcs, _⟩ | ⟨a, len, cap, m, n, D, Pl, hcs, _, hl, hm, hmm, hx, hi⟩
  · simp only [Value.cells] at hcs
    injection hcs with h1 _
    injection h1 with h1 h2 h3
    subst h2
    exact ⟨a0, 0, cap0, fun _ => 0, fun _ => 0, fun _ => zrc, rfl, by omega, fun i hi => by omega⟩
  · simp only [Value.cells] at hcs
    injection hcs with h1 _
    injection h1 with h1 h2 h3
    subst h1 h2 h3
    have hm' : m = cap0 := by rw [hmm]; simp
    subst hm'
    injection hx with hd _
    have hsel : ∀ i, ∃ (q : Int × Int × ByteArray × Int), i < len0 → W.cell? (a.add (i * 4)) = some (.int .i64 q.1) ∧ W.cell? (a.add (i * 4 + 1)) = some (.int .i64 q.2.1) ∧ W.cell? (a.add (i * 4 + 2)) = some (.string q.2.2.1) ∧ W.cell? (a.add (i * 4 + 3)) = some (.int .i64 q.2.2.2) := by
      intro i
      by_cases hil : i < len0
      case neg => exact ⟨(0, 0, ByteArray.empty, 0), fun h => absurd h hil⟩
      obtain ⟨cs', hc, ht'⟩ := hi i (by omega)
      rw [cells_jact] at hc
      obtain ⟨xs, n', hn', hy, hlen, hyl, hff⟩ := DataW.trod_struct Tryd.underlying41 ht'
      rw [cells_jact] at hlen
      have hmem : D i ∈ (List.range len0).map D := List.mem_map.2 ⟨i, List.mem_range.2 hil, rfl⟩
      have hin : ∀ n ∈ DataW.weights Tryd.prog 41 (D i), n ≤ reachBytes := fun n hn => by
        have h1 := List.all_eq_true.1 hsz _ (DataW.weights_mem_each htj hdj _ (show n ∈ _ by
          rw [hd]
          simp only [DataW.weights, Tryd.underlying22, List.mem_cons, List.mem_append]
          exact .inr (.inl (weights_all hmem _ hn))))
        simpa using h1
      have h0 := hff 0 _ rfl
      have h1 := hff 1 _ rfl
      have h2 := hff 2 _ rfl
      have hxs : xs.length = 3 := hyl
      have e : ∀ i, i < 3 → ∃ y, xs[i]? = some y := fun i hi => ⟨_, List.getElem?_eq_getElem (by omega)⟩
      obtain ⟨y0, k0⟩ := e 0 (by decide)
      obtain ⟨y1, k1⟩ := e 1 (by decide)
      obtain ⟨y2, k2⟩ := e 2 (by decide)
      rw [k0] at h0
      rw [k1] at h1
      rw [k2] at h2
      replace h0 : DataW.trod enc Tryd.prog W 0 (fun _ => true) true n' 3 ((cs'.drop 0).take 1) = some y0 := one_int_r ▸ h0
      replace h1 : DataW.trod enc Tryd.prog W 0 (fun _ => true) true n' 39 ((cs'.drop 1).take 2) = some y1 := cells_rc ▸ h1
      replace h2 : DataW.trod enc Tryd.prog W 0 (fun _ => true) true n' 3 ((cs'.drop 3).take 1) = some y2 := one_int_r ▸ h2
      obtain ⟨x0, e0, _, _⟩ := DataW.trod_int Tryd.underlying3 h0
      obtain ⟨x2, e2, _, _⟩ := DataW.trod_int Tryd.underlying3 h2
      have hw1 : ∀ n ∈ DataW.weights Tryd.prog 39 y1.1, n ≤ reachBytes := fun n hn => hin n (by
        have hyD : D i = .agg (xs.map (·.1)) := by simpa using congrArg Prod.fst hy
        rw [hyD]
        simp only [DataW.weights, Tryd.underlying41]
        exact DataW.weights_mem_each (j := 1) (t := 39) (d := y1.1) rfl (by rw [List.getElem?_map, k1]; rfl) _ hn)
      obtain ⟨rk, rb, e1, _⟩ := rc_of_trod h1 hw1
      obtain ⟨_, hcl, hat⟩ := World.cells?_some hc
      have g : ∀ q, q < 4 → W.cell? (a.add (i * 4 + q)) = cs'[q]? := fun q hq => by
        have := hat q (by omega)
        rw [Go.Deep.add_add] at this
        exact this
      have f0 : cs'[0]? = some (.int .i64 x0) := by
        have := congrArg (fun l : List Value => l[0]?) e0
        simpa [List.getElem?_take, List.getElem?_drop] using this
      have f1 : cs'[1]? = some (.int .i64 rk) := by
        have := congrArg (fun l : List Value => l[0]?) e1
        simpa [List.getElem?_take, List.getElem?_drop] using this
      have f2 : cs'[2]? = some (.string rb) := by
        have := congrArg (fun l : List Value => l[1]?) e1
        simpa [List.getElem?_take, List.getElem?_drop] using this
      have f3 : cs'[3]? = some (.int .i64 x2) := by
        have := congrArg (fun l : List Value => l[0]?) e2
        simpa [List.getElem?_take, List.getElem?_drop] using this
      exact ⟨(x0, rk, rb, x2), fun _ => ⟨(g 0 (by decide)).trans f0, (g 1 (by decide)).trans f1, (g 2 (by decide)).trans f2, (g 3 (by decide)).trans f3⟩⟩
    obtain ⟨Q, hQ⟩ := Classical.axiomOfChoice hsel
    refine ⟨some a, len0, m, fun i => (Q i).1, fun i => (Q i).2.2.2, fun i => ⟨(Q i).2.1, (Q i).2.2.1.data.toList⟩, rfl, by unfold maxLen at hm; omega, ?_⟩
    intro i hil
    obtain ⟨g0, g1, g2, g3⟩ := hQ i hil
    obtain ⟨b, off, spot⟩ := a
    have hspot : spot = none := by
      obtain ⟨z0, _⟩ := hQ 0 (by omega)
      simpa [Addr.add] using World.cell?_spot z0
    subst hspot
    rw [Addr.add_lit] at g0 g1 g2 g3
    exact ⟨b, off, rfl, World.block_lt_of_cell? W _ g0, g0, g1, by rw [oct.tx_eta]; exact g2, g3⟩
end Go.Proofs.YtlnpemnolldooaaDoor.kit
