/-
  What the listed variables give the walks; and that the program's own start lays them.
-/
import Derived.Test.YtjpbhnflhejbpaaDoorKit
import Derived.Test.YtjpbhnflhejbpaaDoorLaw
import Derived.LaidMore
import Derived.Stop.Joined
namespace Go.Proofs.YtjpbhnflhejbpaaDoor.kit
open Go.ChangeShapes Go.WideShapes Go.ChangeAt Go.RowKit Go.Proofs.YtjpbhnflhejbpaaDoor.sha

def listed : List (String × DataW Unit) := [("petrel/sha.first", Rows.laid_petrel_sha_first), ("petrel/sha.k", Rows.laid_petrel_sha_k)]
theorem gFirst : Tryd.prog.globalNamed "petrel/sha.first" = some 0 := by kernel_rfl
theorem gK : Tryd.prog.globalNamed "petrel/sha.k" = some 1 := by kernel_rfl
theorem tFirst : (Tryd.prog.globals[0]?).map (·.type) = some 38 := by kernel_rfl
theorem tK : (Tryd.prog.globals[1]?).map (·.type) = some 51 := by kernel_rfl

theorem door_met (os : Os) (args : Array Value) : laidMetH Tryd.prog listed ((World.doorLaid Tryd.prog 400 os).forCall (fun _ _ => 0) ⟨#[], args, []⟩).memory :=
  laidMetH_of_parts3 (fuel := 8) (laidMet_of_run' 8 (by kernel_rfl) (by kernel_rfl)) (by kernel_rfl) (by kernel_rfl)

theorem words_of_trod {H : Type} {enc : TypeId × Value → H} {w : World} {base : Nat} {sp : Nat → Bool} {held : Bool} {fuel n : Nat} {t : TypeId} {p : List MemPlace} (L : List UInt32) (ht : Tryd.prog.underlying t = some (.array n 37)) (cs : List Value)
    (h : DataW.trod enc Tryd.prog w base sp held fuel t cs = some (.agg (L.map fun x => DataW.lit (.int .u32 (U x))), p)) (j : Nat) (hj : j < n) (hL : L.length = n) : cs[j]? = some (.int .u32 (U (L.getD j 0))) := by
  obtain ⟨xs, m1, rfl, hx1, hlen, hn, hel⟩ := DataW.trod_array ht h
  have c1 : Tryd.prog.cellsOf 37 = 1 := by kernel_rfl
  simp only [Prod.mk.injEq, DataW.agg.injEq] at hx1
  have hj2 := hel j hj
  rw [c1, Nat.mul_one] at hj2
  have hxj : xs[j]? = some (xs[j]'(by omega)) := List.getElem?_eq_getElem (by omega)
  rw [hxj] at hj2
  obtain ⟨k, e1, e2, _⟩ := DataW.trod_int Tryd.underlying37 hj2
  have hk : (xs.map (·.1))[j]? = some (.lit (.int .u32 k)) := by rw [List.getElem?_map, hxj]; simp [e2]
  have hLj : L[j]? = some (L[j]'(by rw [hL]; exact hj)) := List.getElem?_eq_getElem (by rw [hL]; exact hj)
  rw [← hx1.1, List.getElem?_map, hLj] at hk
  have hkU : U (L[j]'(by rw [hL]; exact hj)) = k := by simpa using hk
  rw [List.getD_eq_getElem?_getD, hLj, Option.getD_some, hkU]
  have := congrArg (fun l : List Value => l[0]?) e1
  simpa [List.getElem?_take, List.getElem?_drop] using this

theorem tab_of_laid {W : World} (h : laidMetH Tryd.prog listed W) : Tab W := by
  rw [MakeChecks.laidMetH_plain _ _ _ (by kernel_rfl)] at h
  obtain ⟨ps, ⟨g0, t0, cs0, f0, p0, q0, hg0, ht0, hv0, hd0, ⟨g1, t1, cs1, f1, p1, q1, hg1, ht1, hv1, hd1, _, _⟩, _⟩, _, _⟩ := h
  obtain rfl := Option.some.inj (gFirst.symm.trans hg0)
  obtain rfl := Option.some.inj (gK.symm.trans hg1)
  obtain rfl := Option.some.inj (tFirst.symm.trans ht0)
  obtain rfl := Option.some.inj (tK.symm.trans ht1)
  have k0 := words_of_trod firstL Tryd.underlying38 _ hd0
  have k1 := words_of_trod kL Tryd.underlying51 _ hd1
  have c0 : ∀ j, j < 8 → W.cell? ⟨0, j, none⟩ = some (.int .u32 (U (firstL.getD j 0))) := fun j hj => by
    rw [World.var?_cell hg0 hv0 j, ← k0 j hj rfl]
    simp
  have c1 : ∀ j, j < 64 → W.cell? ⟨1, j, none⟩ = some (.int .u32 (U (kk j))) := fun j hj => by
    rw [World.var?_cell hg1 hv1 j]
    have := k1 j hj rfl
    unfold kk
    rw [← this]
    simp
  exact ⟨block_lt_of_cell (c1 0 (by decide)), c0, c1⟩
end Go.Proofs.YtjpbhnflhejbpaaDoor.kit
