/-
 What the listed table of letters gives the walks of topic; and that the program's own start lays it.
-/
import Derived.Test.YtpeneeddfgmjpaaGreatDoorKit
import Derived.Test.YtpeneeddfgmjpaaGreatDoorOpenid
import Derived.Test.YtpeneeddfgmjpaaGreatDoorTopj
import Derived.LaidMore
import Derived.Stop.Joined
namespace Go.Proofs.YtpeneeddfgmjpaaGreatDoor.kit
open Go.ChangeShapes Go.WideShapes Go.ChangeAt Go.RowKit Go.Proofs.YtpeneeddfgmjpaaGreatDoor.sha Go.Proofs.YtpeneeddfgmjpaaGreatDoor.strx

/-- what the places of an array of texts hold -/
theorem strs_of_trod {H : Type} {enc : TypeId × Value → H} {w : World} {base : Nat} {sp : Nat → Bool} {held : Bool} {fuel n : Nat} {t : TypeId} {p : List MemPlace} (L : List (List UInt8)) (ht : Tryz.prog.underlying t = some (.array n 9)) (cs : List Value)
  (h : DataW.trod enc Tryz.prog w base sp held fuel t cs = some (.agg (L.map fun x => DataW.lit (.string x)), p)) (j : Nat) (hj : j < n) (hL : L.length = n) : cs[j]? = some (.string (bt (L.getD j []))) := by
 obtain ⟨xs, m1, rfl, hx1, hlen, hn, hel⟩ := DataW.trod_array ht h
 have c1 : Tryz.prog.cellsOf 9 = 1 := by kernel_rfl
 simp only [Prod.mk.injEq, DataW.agg.injEq] at hx1
 have hj2 := hel j hj
 rw [c1, Nat.mul_one] at hj2
 have hxj : xs[j]? = some (xs[j]'(by omega)) := List.getElem?_eq_getElem (by omega)
 rw [hxj] at hj2
 obtain ⟨k, e1, e2, _⟩ := DataW.trod_string Tryz.underlying9 hj2
 have hk : (xs.map (·.1))[j]? = some (.lit (.string k.data.toList)) := by rw [List.getElem?_map, hxj]; simp [e2]
 have hLj : L[j]? = some (L[j]'(by rw [hL]; exact hj)) := List.getElem?_eq_getElem (by rw [hL]; exact hj)
 rw [← hx1.1, List.getElem?_map, hLj] at hk
 have hkU : (L[j]'(by rw [hL]; exact hj)) = k.data.toList := by simpa using hk
 rw [List.getD_eq_getElem?_getD, hLj, Option.getD_some, hkU]
 have := congrArg (fun l : List Value => l[0]?) e1
 simpa [List.getElem?_take, List.getElem?_drop, bt_of] using this

def listedT : List (String × DataW Unit) := [("petrel/topic.letters", Rows.laid_petrel_topic_letters)]
theorem gLetters : Tryz.prog.globalNamed "petrel/topic.letters" = some 1 := by kernel_rfl
theorem tLetters : (Tryz.prog.globals[1]?).map (·.type) = some 173 := by kernel_rfl
theorem door_metT (os : Os) (args : Array Value) : laidMetH Tryz.prog listedT ((World.doorLaid Tryz.prog 400 os).forCall (fun _ _ => 0) ⟨#[], args, []⟩).memory :=
 laidMetH_of_parts3 (fuel := 8) (laidMet_of_run' 8 (by kernel_rfl) (by kernel_rfl)) (by kernel_rfl) (by kernel_rfl)
theorem letters_of_laid {W : World} (h : laidMetH Tryz.prog listedT W) : topic.Tab W := by
 rw [MakeChecks.laidMetH_plain _ _ _ (by kernel_rfl)] at h
 obtain ⟨ps, ⟨g0, t0, cs0, f0, p0, q0, hg0, ht0, hv0, hd0, _, _⟩, _, _⟩ := h
 obtain rfl := Option.some.inj (gLetters.symm.trans hg0)
 obtain rfl := Option.some.inj (tLetters.symm.trans ht0)
 have k0 := strs_of_trod topic.letL Tryz.underlying173 _ hd0
 have c0 : ∀ j, j < 6 → W.cell? ⟨1, j, none⟩ = some (.string (bt (topic.letL.getD j []))) := fun j hj => by
  rw [World.var?_cell hg0 hv0 j, ← k0 j hj rfl]
  simp
 exact ⟨block_lt_of_cell (c0 0 (by decide)), c0⟩
end Go.Proofs.YtpeneeddfgmjpaaGreatDoor.kit
