/-
 What the listed variables give the walks; and that the program's own start lays them.
-/
import Derived.Test.YtpeneeddfgmjpaaGreatDoorKitw
import Derived.Test.YtpeneeddfgmjpaaGreatDoorTurn
namespace Go.Proofs.YtpeneeddfgmjpaaGreatDoor.kit
open Go.ChangeShapes Go.WideShapes Go.ChangeAt Go.RowKit Go.Proofs.YtpeneeddfgmjpaaGreatDoor.sha

def listed : List (String × DataW Unit) := [("petrel/sha.first", Rows.laid_petrel_sha_first), ("petrel/sha.k", Rows.laid_petrel_sha_k)]
theorem gFirst : Tryz.prog.globalNamed "petrel/sha.first" = some 0 := by kernel_rfl
theorem gK : Tryz.prog.globalNamed "petrel/sha.k" = some 2 := by kernel_rfl
theorem tFirst : (Tryz.prog.globals[0]?).map (·.type) = some 106 := by kernel_rfl
theorem tK : (Tryz.prog.globals[2]?).map (·.type) = some 141 := by kernel_rfl

theorem door_met (os : Os) (args : Array Value) : laidMetH Tryz.prog listed ((World.doorLaid Tryz.prog 400 os).forCall (fun _ _ => 0) ⟨#[], args, []⟩).memory :=
 laidMetH_of_parts3 (fuel := 8) (laidMet_of_run' 8 (by kernel_rfl) (by kernel_rfl)) (by kernel_rfl) (by kernel_rfl)

theorem tab_of_laid {W : World} (h : laidMetH Tryz.prog listed W) : Tab W := by
 rw [MakeChecks.laidMetH_plain _ _ _ (by kernel_rfl)] at h
 obtain ⟨ps, ⟨g0, t0, cs0, f0, p0, q0, hg0, ht0, hv0, hd0, ⟨g1, t1, cs1, f1, p1, q1, hg1, ht1, hv1, hd1, _, _⟩, _⟩, _, _⟩ := h
 obtain rfl := Option.some.inj (gFirst.symm.trans hg0)
 obtain rfl := Option.some.inj (gK.symm.trans hg1)
 obtain rfl := Option.some.inj (tFirst.symm.trans ht0)
 obtain rfl := Option.some.inj (tK.symm.trans ht1)
 have k0 := words_of_trod firstL Tryz.underlying106 _ hd0
 have k1 := words_of_trod kL Tryz.underlying141 _ hd1
 have c0 : ∀ j, j < 8 → W.cell? ⟨0, j, none⟩ = some (.int .u32 (U (firstL.getD j 0))) := fun j hj => by
  rw [World.var?_cell hg0 hv0 j, ← k0 j hj rfl]
  simp
 have c1 : ∀ j, j < 64 → W.cell? ⟨2, j, none⟩ = some (.int .u32 (U (kk j))) := fun j hj => by
  rw [World.var?_cell hg1 hv1 j]
  have := k1 j hj rfl
  unfold kk
  rw [← this]
  simp
 exact ⟨block_lt_of_cell (c1 0 (by decide)), c0, c1⟩
end Go.Proofs.YtpeneeddfgmjpaaGreatDoor.kit
