/-
 A row of bytes that came in: how it lies in memory.
-/
import Derived.Test.YtpeneeddfgmjpaaGreatDoorOpenid
namespace Go.Proofs.YtpeneeddfgmjpaaGreatDoor.kit
open Go.ChangeShapes Go.WideShapes Go.ChangeAt Go.RowKit Go.Proofs.YtpeneeddfgmjpaaGreatDoor.sha Go.Proofs.YtpeneeddfgmjpaaGreatDoor.ids

set_option maxRecDepth 100000 in
theorem open_bytes {H : Type} {enc : TypeId × Value → H} {W : World} {base : Nat} {ts : List TypeId} {ds : List (DataW H)} {j : Nat} {v : Value} {d : DataW H} {p : List MemPlace}
  (hv : Value.okWide Tryz.prog W .any base 42 v) (h : DataW.Trod enc Tryz.prog W 0 (fun _ => true) true 42 v d p)
  (hsz : (DataW.weightsEach Tryz.prog ts ds).all (· ≤ reachBytes) = true) (htj : ts[j]? = some 42) (hdj : ds[j]? = some d) :
  ∃ (n : Nat) (t : Nat → Int) (ad : Option Addr) (cap : Nat), v = .slice ad n cap ∧ n ≤ 1099511627776 * 1024 ∧ ∀ i, i < n → ∃ b off, ad = some ⟨b, off, none⟩ ∧ b < W.heap.size ∧ W.cell? ⟨b, off + i, none⟩ = some (.int .u8 (t i)) ∧ 0 ≤ t i ∧ t i ≤ 255 := by
 obtain ⟨a0, len0, cap0, rfl⟩ := okWide_slice Tryz.underlying42 hv
 obtain ⟨fuel, hf⟩ := h
 rcases open_ints Tryz.underlying42 Tryz.underlying5 one_u8 hf with ⟨hcs, _⟩ | ⟨a, len, cap, zs, hcs, _, hl, hm, hz, hx, hcell, hwf⟩
 ·
  simp only [Value.cells] at hcs
  injection hcs with h1 _
  injection h1 with h1 h2 h3
  subst h1 h2 h3
  exact ⟨0, fun _ => 0, none, 0, rfl, by omega, fun i hi => by omega⟩
 ·
  simp only [Value.cells] at hcs
  injection hcs with h1 _
  injection h1 with h1 h2 h3
  subst h1 h2 h3
  have hz' : zs.length = cap0 := by rw [hz]; simp
  injection hx with hd _
  have hmax : zs.length * 1 ≤ 140737488351232 := by
   have hbytes : Tryz.prog.bytesOf 5 = 1 := by kernel_rfl
   have h1 := List.all_eq_true.1 hsz _ (DataW.weights_mem_each htj hdj _ (show zs.length * 1 ∈ _ by
    rw [hd]
    simp only [DataW.weights, Tryz.underlying42, List.mem_cons, lits, List.length_map, List.length_take, List.length_drop, hbytes]
    left; omega))
   have h2 : zs.length * 1 ≤ reachBytes := by simpa using h1
   exact h2
  refine ⟨len0, fun i => zs.getD i 0, some a, cap0, rfl, by omega, fun i hi => ?_⟩
  have hc0 := hcell i (by omega)
  obtain ⟨b, off, spot⟩ := a
  have hspot : spot = none := by
   have z0 := hcell 0 (by omega)
   simpa [Addr.add] using World.cell?_spot z0
  subst hspot
  rw [Addr.add_lit] at hc0
  have hmem : zs.getD i 0 ∈ zs := by
   rw [List.getD_eq_getElem?_getD, List.getElem?_eq_getElem (by omega)]
   exact List.getElem_mem _
  have hw := hwf _ hmem
  have hb : 0 ≤ zs.getD i 0 ∧ zs.getD i 0 ≤ 255 := by
   generalize zs.getD i 0 = z at hw
   simpa [Lit.wf, IntKind.min, IntKind.max, IntKind.signed, IntKind.bits] using hw
  exact ⟨b, off, rfl, World.block_lt_of_cell? W _ hc0, hc0, hb.1, hb.2⟩
end Go.Proofs.YtpeneeddfgmjpaaGreatDoor.kit
