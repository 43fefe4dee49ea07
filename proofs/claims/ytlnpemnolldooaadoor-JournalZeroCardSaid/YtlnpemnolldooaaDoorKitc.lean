/-
  An array of words that is listed as laid: what its places hold.
  What the listed variable gives the walks of crc; and that the program's own start lays it.
-/
import Derived.Test.YtlnpemnolldooaaDoorOpenf
import Derived.Test.YtlnpemnolldooaaDoorSha
import Derived.LaidMore
import Derived.Stop.Joined
import Derived.Test.YtlnpemnolldooaaDoorCrcht
namespace Go.Proofs.YtlnpemnolldooaaDoor.kit
open Go.ChangeShapes Go.WideShapes Go.ChangeAt Go.RowKit Go.Proofs.YtlnpemnolldooaaDoor.sha

/-- what a number of 32 bits and one of 16 are -/
theorem word_of {a : Int} (h : Lit.wf (.int .u32 a)) : ∃ c : UInt32, a = U c := by
  have hb : 0 ≤ a ∧ a ≤ 4294967295 := by simpa [Lit.wf, IntKind.min, IntKind.max, IntKind.signed, IntKind.bits] using h
  refine ⟨UInt32.ofNat a.toNat, ?_⟩
  unfold U
  rw [UInt32.toNat_ofNat_of_lt' (by show a.toNat < 4294967296; omega)]
  omega
theorem words_of_trod {H : Type} {enc : TypeId × Value → H} {w : World} {base : Nat} {sp : Nat → Bool} {held : Bool} {fuel n : Nat} {t : TypeId} {p : List MemPlace} (L : List UInt32) (ht : Tryd.prog.underlying t = some (.array n 82)) (cs : List Value)
    (h : DataW.trod enc Tryd.prog w base sp held fuel t cs = some (.agg (L.map fun x => DataW.lit (.int .u32 (U x))), p)) (j : Nat) (hj : j < n) (hL : L.length = n) : cs[j]? = some (.int .u32 (U (L.getD j 0))) := by
  obtain ⟨xs, m1, rfl, hx1, hlen, hn, hel⟩ := DataW.trod_array ht h
  have c1 : Tryd.prog.cellsOf 82 = 1 := by kernel_rfl
  simp only [Prod.mk.injEq, DataW.agg.injEq] at hx1
  have hj2 := hel j hj
  rw [c1, Nat.mul_one] at hj2
  have hxj : xs[j]? = some (xs[j]'(by omega)) := List.getElem?_eq_getElem (by omega)
  rw [hxj] at hj2
  obtain ⟨k, e1, e2, _⟩ := DataW.trod_int Tryd.underlying82 hj2
  have hk : (xs.map (·.1))[j]? = some (.lit (.int .u32 k)) := by rw [List.getElem?_map, hxj]; simp [e2]
  have hLj : L[j]? = some (L[j]'(by rw [hL]; exact hj)) := List.getElem?_eq_getElem (by rw [hL]; exact hj)
  rw [← hx1.1, List.getElem?_map, hLj] at hk
  have hkU : U (L[j]'(by rw [hL]; exact hj)) = k := by simpa using hk
  rw [List.getD_eq_getElem?_getD, hLj, Option.getD_some, hkU]
  have := congrArg (fun l : List Value => l[0]?) e1
  simpa [List.getElem?_take, List.getElem?_drop] using this
end Go.Proofs.YtlnpemnolldooaaDoor.kit

namespace Go.Proofs.YtlnpemnolldooaaDoor.kit
open Go.ChangeShapes Go.WideShapes Go.ChangeAt Go.RowKit Go.Proofs.YtlnpemnolldooaaDoor.sha

def listedC : List (String × DataW Unit) := [("petrel/crc.steps", Rows.laid_petrel_crc_steps)]
theorem gSteps : Tryd.prog.globalNamed "petrel/crc.steps" = some 0 := by kernel_rfl
theorem tSteps : (Tryd.prog.globals[0]?).map (·.type) = some 108 := by kernel_rfl
theorem door_metC (os : Os) (args : Array Value) : laidMetH Tryd.prog listedC ((World.doorLaid Tryd.prog 400 os).forCall (fun _ _ => 0) ⟨#[], args, []⟩).memory :=
  laidMetH_of_parts3 (fuel := 8) (laidMet_of_run' 8 (by kernel_rfl) (by kernel_rfl)) (by kernel_rfl) (by kernel_rfl)
theorem steps_of_laid {W : World} (h : laidMetH Tryd.prog listedC W) : crc.Tab W := by
  rw [MakeChecks.laidMetH_plain _ _ _ (by kernel_rfl)] at h
  obtain ⟨ps, ⟨g0, t0, cs0, f0, p0, q0, hg0, ht0, hv0, hd0, _, _⟩, _, _⟩ := h
  obtain rfl := Option.some.inj (gSteps.symm.trans hg0)
  obtain rfl := Option.some.inj (tSteps.symm.trans ht0)
  have k0 := words_of_trod crc.stepsL Tryd.underlying108 _ hd0
  have c0 : ∀ j, j < 16 → W.cell? ⟨0, j, none⟩ = some (.int .u32 (U (crc.stepsL.getD j 0))) := fun j hj => by
    rw [World.var?_cell hg0 hv0 j, ← k0 j hj rfl]
    simp
  exact ⟨block_lt_of_cell (c0 0 (by decide)), c0⟩
end Go.Proofs.YtlnpemnolldooaaDoor.kit
