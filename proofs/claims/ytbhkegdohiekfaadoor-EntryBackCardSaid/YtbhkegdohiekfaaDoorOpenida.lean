/-
  A byte that came in.
  An id that came in: how it lies in memory.
-/
import Derived.Test.YtbhkegdohiekfaaDoorSha
import Derived.Test.YtbhkegdohiekfaaDoorMem
import Derived.Test.YtbhkegdohiekfaaDoorIda
import Derived.SliceStrings
namespace Go.Proofs.YtbhkegdohiekfaaDoor.kit
open Go.RowKit Go.Proofs.YtbhkegdohiekfaaDoor.sha

theorem byte_of {a : Int} (h : Lit.wf (.int .u8 a)) : ∃ c : UInt8, a = B c := by
  have hb : 0 ≤ a ∧ a ≤ 255 := by simpa [Lit.wf, IntKind.min, IntKind.max, IntKind.signed, IntKind.bits] using h
  refine ⟨UInt8.ofNat a.toNat, ?_⟩
  unfold B
  rw [UInt8.toNat_ofNat_of_lt' (by show a.toNat < 256; omega)]
  omega
end Go.Proofs.YtbhkegdohiekfaaDoor.kit

namespace Go.Proofs.YtbhkegdohiekfaaDoor.kit
open Go.ChangeShapes Go.WideShapes Go.ChangeAt Go.RowKit Go.Proofs.YtbhkegdohiekfaaDoor.sha Go.Proofs.YtbhkegdohiekfaaDoor.ids

theorem one_u8 : Tryd.prog.cellsOf 5 = 1 := by kernel_rfl
theorem cells_id : Tryd.prog.cellsOf 23 = 32 := by kernel_rfl
theorem bytes_id : Tryd.prog.bytesOf 23 = 32 := by kernel_rfl
/-- the cells of an id -/
theorem id_of_trod {H : Type} {enc : TypeId × Value → H} {w : World} {base : Nat} {sp : Nat → Bool} {held : Bool} {fuel : Nat} {cs : List Value} {x : DataW H × List MemPlace}
    (h : DataW.trod enc Tryd.prog w base sp held fuel 23 cs = some x) : ∃ y : List UInt8, y.length = 32 ∧ cs = bv y := by
  obtain ⟨xs, m1, rfl, hx1, hlen, hn, hel⟩ := DataW.trod_array Tryd.underlying23 h
  rw [cells_id] at hlen
  have each : ∀ j, j < 32 → ∃ c : UInt8, cs[j]? = some (.int .u8 (B c)) := fun j hj => by
    have hj2 := hel j hj
    rw [one_u8, Nat.mul_one] at hj2
    have hxj : xs[j]? = some (xs[j]'(by omega)) := List.getElem?_eq_getElem (by omega)
    rw [hxj] at hj2
    obtain ⟨k, e1, e2, hw⟩ := DataW.trod_int Tryd.underlying5 hj2
    obtain ⟨c, rfl⟩ := byte_of hw
    refine ⟨c, ?_⟩
    have := congrArg (fun l : List Value => l[0]?) e1
    simpa [List.getElem?_take, List.getElem?_drop] using this
  have hch : ∃ f : Nat → UInt8, ∀ j, j < 32 → cs[j]? = some (.int .u8 (B (f j))) := by
    have := fun j => Classical.em (j < 32)
    refine ⟨fun j => if hj : j < 32 then Classical.choose (each j hj) else 0, fun j hj => ?_⟩
    simp only [hj, dif_pos]
    exact Classical.choose_spec (each j hj)
  obtain ⟨f, hf⟩ := hch
  refine ⟨(List.range 32).map f, by simp, ?_⟩
  apply List.ext_getElem?
  intro j
  by_cases hj : j < 32
  · rw [hf j hj, bv_get _ _ (by simp; exact hj), List.getD_eq_getElem?_getD, List.getElem?_map, List.getElem?_range hj]
    rfl
  · rw [List.getElem?_eq_none (by omega), List.getElem?_eq_none (by rw [bv_length]; simp; omega)]
set_option maxRecDepth 100000 in
theorem okWide_id {w : World} {r : Reach} {b0 : Nat} {v : Value} (h : Value.okWide Tryd.prog w r b0 23 v) : ∃ xs : Array Value, v = .agg xs := by
  simp only [Value.okWide, Tryd.underlying23] at h
  obtain ⟨cs, h1, _⟩ := h
  exact ⟨cs, h1⟩
set_option maxRecDepth 100000 in
theorem open_id {H : Type} {enc : TypeId × Value → H} {W : World} {base : Nat} {v : Value} {d : DataW H} {p : List MemPlace}
    (hv : Value.okWide Tryd.prog W .any base 23 v) (h : DataW.Trod enc Tryd.prog W 0 (fun _ => true) true 23 v d p) : ∃ y : List UInt8, v = .agg (bv y).toArray ∧ y.length = 32 := by
  obtain ⟨xs, rfl⟩ := okWide_id hv
  obtain ⟨fuel, hf⟩ := h
  obtain ⟨y, hy, hc⟩ := id_of_trod hf
  refine ⟨y, ?_, hy⟩
  simp only [Value.cells] at hc
  rw [← hc]
end Go.Proofs.YtbhkegdohiekfaaDoor.kit
