/-
  A byte that came in.
  An id that came in: how it lies in memory.
  A list of ids that came in: how it lies in memory.
-/
import Derived.Test.YtpeneeddfgmjpaaGreatDoorIda
import Derived.Test.YtpeneeddfgmjpaaGreatDoorKit
import Derived.SliceStrings
namespace Go.Proofs.YtpeneeddfgmjpaaGreatDoor.kit
open Go.RowKit Go.Proofs.YtpeneeddfgmjpaaGreatDoor.sha

theorem byte_of {a : Int} (h : Lit.wf (.int .u8 a)) : ∃ c : UInt8, a = B c := by
 have hb : 0 ≤ a ∧ a ≤ 255 := by simpa [Lit.wf, IntKind.min, IntKind.max, IntKind.signed, IntKind.bits] using h
 refine ⟨UInt8.ofNat a.toNat, ?_⟩
 unfold B
 rw [UInt8.toNat_ofNat_of_lt' (by show a.toNat < 256; omega)]
 omega
end Go.Proofs.YtpeneeddfgmjpaaGreatDoor.kit

namespace Go.Proofs.YtpeneeddfgmjpaaGreatDoor.kit
open Go.ChangeShapes Go.WideShapes Go.ChangeAt Go.RowKit Go.Proofs.YtpeneeddfgmjpaaGreatDoor.sha Go.Proofs.YtpeneeddfgmjpaaGreatDoor.ids

theorem one_u8 : Tryz.prog.cellsOf 5 = 1 := by kernel_rfl
theorem cells_id : Tryz.prog.cellsOf 24 = 32 := by kernel_rfl
theorem bytes_id : Tryz.prog.bytesOf 24 = 32 := by kernel_rfl
/-- the cells of an id -/
theorem id_of_trod {H : Type} {enc : TypeId × Value → H} {w : World} {base : Nat} {sp : Nat → Bool} {held : Bool} {fuel : Nat} {cs : List Value} {x : DataW H × List MemPlace}
  (h : DataW.trod enc Tryz.prog w base sp held fuel 24 cs = some x) : ∃ y : List UInt8, y.length = 32 ∧ cs = bv y := by
 obtain ⟨xs, m1, rfl, hx1, hlen, hn, hel⟩ := DataW.trod_array Tryz.underlying24 h
 rw [cells_id] at hlen
 have each : ∀ j, j < 32 → ∃ c : UInt8, cs[j]? = some (.int .u8 (B c)) := fun j hj => by
  have hj2 := hel j hj
  rw [one_u8, Nat.mul_one] at hj2
  have hxj : xs[j]? = some (xs[j]'(by omega)) := List.getElem?_eq_getElem (by omega)
  rw [hxj] at hj2
  obtain ⟨k, e1, e2, hw⟩ := DataW.trod_int Tryz.underlying5 hj2
  obtain ⟨c, rfl⟩ := byte_of hw
  refine ⟨c, ?_⟩
  have := congrArg (fun l : List Value => l[0]?) e1
  simpa [List.getElem?_take, List.getElem?_drop] using this
 have hch : ∃ f : Nat → UInt8, ∀ j, j < 32 → cs[j]? = some (.int .u8 (B (f j))) := by
  have := fun j => Classical.em (j < 32)
  refine ⟨fun j => if hj : j < 32 then Classical.choose (each j hj) else 0, fun j hj => ?_⟩
  simp only [hj, dif_pos]
  exact Classical.choose_spec (each j hj)
 obtain ⟨f, hf⟩ := hch
 refine ⟨(List.range 32).map f, by simp, ?_⟩
 apply List.ext_getElem?
 intro j
 by_cases hj : j < 32
 ·
  rw [hf j hj, bv_get _ _ (by simp; exact hj), List.getD_eq_getElem?_getD, List.getElem?_map, List.getElem?_range hj]
  rfl
 ·
  rw [List.getElem?_eq_none (by omega), List.getElem?_eq_none (by rw [bv_length]; simp; omega)]
set_option maxRecDepth 100000 in
theorem okWide_id {w : World} {r : Reach} {b0 : Nat} {v : Value} (h : Value.okWide Tryz.prog w r b0 24 v) : ∃ xs : Array Value, v = .agg xs := by
 simp only [Value.okWide, Tryz.underlying24] at h
 obtain ⟨cs, h1, _⟩ := h
 exact ⟨cs, h1⟩
set_option maxRecDepth 100000 in
theorem open_id {H : Type} {enc : TypeId × Value → H} {W : World} {base : Nat} {v : Value} {d : DataW H} {p : List MemPlace}
  (hv : Value.okWide Tryz.prog W .any base 24 v) (h : DataW.Trod enc Tryz.prog W 0 (fun _ => true) true 24 v d p) : ∃ y : List UInt8, v = .agg (bv y).toArray ∧ y.length = 32 := by
 obtain ⟨xs, rfl⟩ := okWide_id hv
 obtain ⟨fuel, hf⟩ := h
 obtain ⟨y, hy, hc⟩ := id_of_trod hf
 refine ⟨y, ?_, hy⟩
 simp only [Value.cells] at hc
 rw [← hc]
end Go.Proofs.YtpeneeddfgmjpaaGreatDoor.kit

namespace Go.Proofs.YtpeneeddfgmjpaaGreatDoor.kit
open Go.ChangeShapes Go.WideShapes Go.ChangeAt Go.RowKit Go.Proofs.YtpeneeddfgmjpaaGreatDoor.sha Go.Proofs.YtpeneeddfgmjpaaGreatDoor.ids

set_option maxRecDepth 100000 in
theorem ids_of_trod {H : Type} {enc : TypeId × Value → H} {W : World} {fuel : Nat} {cs0 : List Value} {x : DataW H × List MemPlace}
  (hf : DataW.trod enc Tryz.prog W 0 (fun _ => true) true fuel 22 cs0 = some x) (hsz : ∀ n ∈ DataW.weights Tryz.prog 22 x.1, n ≤ reachBytes) : ∃ v L, cs0 = [v] ∧ RdV W v L := by
 rcases DataW.trod_slice Tryz.underlying22 hf with ⟨hcs, _⟩ | ⟨a, len0, cap0, elems, rest, n, _, hcs, hx, _, hl, hm, hlen, hel, hsp, _⟩
 ·
  exact ⟨_, [], hcs, okIds.nil, Nat.zero_le _, none, 0, rfl, Nat.le_refl _, Nat.zero_le _, fun _ => rfl, (fun a h => by cases h), .inl rfl⟩
 ·
  subst hx
  obtain ⟨hrl, hr⟩ := hsp rfl
  rw [cells_id] at hel hr
  have hmax : (elems.length + rest.length) * 32 ≤ 140737488351232 := by
   exact hsz _ (by simp only [DataW.weights, Tryz.underlying22, List.length_map, bytes_id, List.mem_cons, true_or])
  have cell : ∀ i, i < len0 → ∃ y : List UInt8, y.length = 32 ∧ W.cells? 0 (a.add (i * 32)) 32 = some (bv y) := fun i hi => by
   have hi2 : i < elems.length := by omega
   have := hel i hi
   rw [List.getElem?_eq_getElem hi2, Option.bind_eq_some_iff] at this
   obtain ⟨cs, hcs, ht⟩ := this
   obtain ⟨y, hy, rfl⟩ := id_of_trod ht
   exact ⟨y, hy, hcs⟩
  have hspot : 0 < cap0 → ∃ b off, a = ⟨b, off, none⟩ := fun hpos => by
   have hany : ∃ cs, W.cells? 0 (a.add (0 * 32)) 32 = some cs := by
    by_cases h0 : 0 < len0
    ·
     obtain ⟨y, _, hc⟩ := cell 0 h0
     exact ⟨_, hc⟩
    ·
     have := hr 0 (by omega)
     obtain rfl : len0 = 0 := by omega
     have h0r : 0 < rest.length := by omega
     rw [List.getElem?_eq_getElem h0r, Option.bind_eq_some_iff] at this
     obtain ⟨cs, hcs, _⟩ := this
     exact ⟨cs, hcs⟩
   obtain ⟨cs, hcs⟩ := hany
   obtain ⟨_, hcl, hk⟩ := World.cells?_some hcs
   have z0 := hk 0 (by decide)
   obtain ⟨b, off, spot⟩ := a
   have e0 : cs[0]? = some (cs[0]'(by omega)) := List.getElem?_eq_getElem (by omega)
   rw [e0] at z0
   have hspot : spot = none := by simpa [Addr.add] using World.cell?_spot z0
   subst hspot
   exact ⟨b, off, rfl⟩
  have hch : ∃ f : Nat → List UInt8, ∀ i, i < len0 → (f i).length = 32 ∧ W.cells? 0 (a.add (i * 32)) 32 = some (bv (f i)) := by
   refine ⟨fun i => if hi : i < len0 then Classical.choose (cell i hi) else [], fun i hi => ?_⟩
   simp only [hi, dif_pos]
   exact Classical.choose_spec (cell i hi)
  obtain ⟨f, hf2⟩ := hch
  have hget : ∀ i, i < len0 → ((List.range len0).map f).getD i [] = f i := fun i hi => by
   rw [List.getD_eq_getElem?_getD, List.getElem?_map, List.getElem?_range hi]; rfl
  have hok : okIds ((List.range len0).map f) := fun y hy => by
   obtain ⟨i, hi, rfl⟩ := List.mem_map.1 hy
   exact (hf2 i (List.mem_range.1 hi)).1
  have hL : ((List.range len0).map f).length = len0 := by simp
  refine ⟨_, (List.range len0).map f, hcs, hok, by rw [hL]; omega, some a, cap0, by rw [hL], by rw [hL]; exact hl, hm, (fun h => by cases h), (fun a' ha' hp => ?_), ?_⟩
  ·
   cases ha'; exact hspot hp
  ·
   by_cases h0 : len0 = 0
   ·
    left
    rw [h0]; rfl
   ·
    obtain ⟨b, off, rfl⟩ := hspot (by omega)
    have hbl : b < W.heap.size := by
     obtain ⟨_, hcl, hk⟩ := World.cells?_some (hf2 0 (by omega)).2
     have z0 := hk 0 (by decide)
     have e0 : (bv (f 0))[0]? = some ((bv (f 0))[0]'(by omega)) := List.getElem?_eq_getElem (by omega)
     rw [e0] at z0
     exact World.block_lt_of_cell? W _ z0
    refine .inr ⟨b, off, rfl, hbl, fun k u hu => ?_⟩
    have hk : k < len0 * 32 := by
     have := (List.getElem?_eq_some_iff.1 hu).1
     rw [fl_len hok, hL] at this
     exact this
    have hi : k / 32 < len0 := by omega
    have hkk : k = k / 32 * 32 + k % 32 := by omega
    rw [hkk, fl_get hok (by rw [hL]; exact hi) (Nat.mod_lt _ (by decide)), hget _ hi] at hu
    obtain ⟨_, _, hc⟩ := World.cells?_some (hf2 (k / 32) hi).2
    have := hc (k % 32) (Nat.mod_lt _ (by decide))
    rw [Addr.add_lit, Addr.add_lit, bv_get _ _ (by rw [(hf2 _ hi).1]; exact Nat.mod_lt _ (by decide)), hu] at this
    rw [show off + k = off + k / 32 * 32 + k % 32 by omega]
    exact this
set_option maxRecDepth 100000 in
theorem open_ids {H : Type} {enc : TypeId × Value → H} {W : World} {base : Nat} {ts : List TypeId} {ds : List (DataW H)} {j : Nat} {v : Value} {d : DataW H} {p : List MemPlace}
  (hv : Value.okWide Tryz.prog W .any base 22 v) (h : DataW.Trod enc Tryz.prog W 0 (fun _ => true) true 22 v d p)
  (hsz : (DataW.weightsEach Tryz.prog ts ds).all (· ≤ reachBytes) = true) (htj : ts[j]? = some 22) (hdj : ds[j]? = some d) : ∃ L : List (List UInt8), RdV W v L := by
 obtain ⟨a0, len0, cap0, rfl⟩ := okWide_slice Tryz.underlying22 hv
 obtain ⟨fuel, hf⟩ := h
 obtain ⟨v, L, hcs, hR⟩ := ids_of_trod hf fun n hn => by
  have h1 := List.all_eq_true.1 hsz _ (DataW.weights_mem_each htj hdj _ hn)
  simpa using h1
 simp only [Value.cells] at hcs
 injection hcs with h1 _
 exact ⟨L, h1 ▸ hR⟩
end Go.Proofs.YtpeneeddfgmjpaaGreatDoor.kit
