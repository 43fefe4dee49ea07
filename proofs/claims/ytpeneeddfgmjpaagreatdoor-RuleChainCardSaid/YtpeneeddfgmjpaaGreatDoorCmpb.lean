/-
 bytes.Compare over two arrays, ident.Compare.
-/
import Derived.Test.YtpeneeddfgmjpaaGreatDoorIdsp
import Derived.Test.YtpeneeddfgmjpaaGreatDoorIda
import Derived.Test.YtpeneeddfgmjpaaGreatDoorStrx
import Derived.Lib.BytesEntry
import Derived.Lib.Bytealg
import Derived.Laws.Externs
import Derived.BigQuiet
import Derived.Deep.Cut
namespace Go.Proofs.YtpeneeddfgmjpaaGreatDoor.ids
open Go.RowKit Go.Proofs.YtpeneeddfgmjpaaGreatDoor.mem Go.Proofs.YtpeneeddfgmjpaaGreatDoor.sha Go.Proofs.YtpeneeddfgmjpaaGreatDoor.strx

/-- the entry's own words, over lists -/
def cmpF (x y : List UInt8) : Int :=
 match (List.range x.length).find? (fun i => x.getD i 0 != y.getD i 0) with
 | some i => if x.getD i 0 < y.getD i 0 then -1 else 1
 | none => 0
theorem cmpF_eq : ∀ x y : List UInt8, x.length = y.length → cmpF x y = cmpL x y
 | [], [], _ => rfl
 | [], _ :: _, h => by cases h
 | _ :: _, [], h => by cases h
 | a :: x, b :: y, h => by
  have hl : x.length = y.length := by simpa using h
  have ih := cmpF_eq x y hl
  unfold cmpF at ih ⊢
  rw [List.length_cons, List.range_succ_eq_map, List.find?_cons, cmpL]
  by_cases hab : a = b
  ·
   subst hab
   rw [if_neg (Nat.lt_irrefl _), if_neg (Nat.lt_irrefl _), ← ih, show ((a :: x).getD 0 0 != (a :: y).getD 0 0) = false by simp]
   simp only [List.find?_map]
   have e : ((fun i => (a :: x).getD i 0 != (a :: y).getD i 0) ∘ Nat.succ) = (fun i => x.getD i 0 != y.getD i 0) := by
    funext i
    simp only [Function.comp, Nat.succ_eq_add_one, List.getD_cons_succ]
   rw [e]
   cases (List.range x.length).find? (fun i => x.getD i 0 != y.getD i 0) with
   | none => rfl
   | some i => simp only [Option.map_some, Nat.succ_eq_add_one, List.getD_cons_succ]
  ·
   have hne : (a != b) = true := by simpa using hab
   rw [show ((a :: x).getD 0 0 != (b :: y).getD 0 0) = true from hne]
   have hn : ¬ a.toNat = b.toNat := fun e => hab (UInt8.toNat_inj.1 e)
   by_cases hlt : a.toNat < b.toNat
   ·
    rw [if_pos hlt]
    have : a < b := UInt8.lt_iff_toNat_lt.2 hlt
    simp [this]
   ·
    rw [if_neg hlt, if_pos (show b.toNat < a.toNat by omega)]
    have : ¬ a < b := fun h => hlt (UInt8.lt_iff_toNat_lt.1 h)
    simp [this]
theorem bt_get (x : List UInt8) (i : Nat) : (bt x)[i]! = x.getD i 0 := by
 by_cases h : i < x.length
 ·
  have h2 : i < (bt x).size := by rw [bt_size]; exact h
  rw [getElem!_pos (bt x) i h2, List.getD_eq_getElem?_getD, List.getElem?_eq_getElem h]
  rfl
 ·
  have h2 : ¬ i < (bt x).size := by rw [bt_size]; exact h
  rw [getElem!_neg (bt x) i h2, List.getD_eq_getElem?_getD, List.getElem?_eq_none (by omega)]
  rfl
theorem cmp_eq (x y : List UInt8) (h : x.length = y.length) : Extern.BytealgCompare.cmp (bt x) (bt y) = cmpL x y := by
 rw [← cmpF_eq x y h]
 unfold Extern.BytealgCompare.cmp cmpF
 rw [bt_size, bt_size, ← h, Nat.min_self]
 have e : (fun i => (bt x)[i]! != (bt y)[i]!) = (fun i => x.getD i 0 != y.getD i 0) := by funext i; rw [bt_get, bt_get]
 rw [e]
 cases (List.range x.length).find? (fun i => x.getD i 0 != y.getD i 0) with
 | none => simp
 | some i => simp only [bt_get]
theorem run_bytesOf {P : Program} (w : World) (b : Nat) (x : List UInt8) (c : Nat) (hc : ∀ j v, (bv x)[j]? = some v → w.cell? ⟨b, j, none⟩ = some v) :
  (Extern.Bytes.bytesOf (.slice (some ⟨b, 0, none⟩) x.length c)).run P w = .ok (bt x) w := by
 have h := Lib.run_loadBytesX (P := P) w (x.map fun y => (y.toNat : Int)) ⟨b, 0, none⟩ .empty (fun j z hz => by
  rw [Addr.add_lit, Nat.zero_add]
  refine hc j _ ?_
  unfold bv
  rw [List.getElem?_map] at hz ⊢
  cases hx : x[j]? with
  | none => rw [hx] at hz; cases hz
  | some u => rw [hx] at hz; injection hz with hz; subst hz; rfl)
 rw [List.length_map] at h
 show (Extern.Bytes.loadBytes ⟨b, 0, none⟩ x.length .empty).run P w = _
 rw [h]
 congr 1
 unfold bt
 congr 1
 apply Array.ext'
 simp [Lib.bytesOf, List.map_map, Function.comp_def]
theorem run_cmp (w : World) (b g : Nat) (x y : List UInt8) (c e : Nat) (hl : x.length = y.length) (hx : ∀ j v, (bv x)[j]? = some v → w.cell? ⟨b, j, none⟩ = some v) (hy : ∀ j v, (bv y)[j]? = some v → w.cell? ⟨g, j, none⟩ = some v) :
  (callFunc 113 #[.slice (some ⟨b, 0, none⟩) x.length c, .slice (some ⟨g, 0, none⟩) y.length e]).run Tryz.prog w = .ok (.value (.int .i64 (cmpL x y))) w := by
 rw [run_callFunc_extern Tryz.func113 (by kernel_rfl) (by kernel_rfl) (by kernel_rfl) (e := Extern.BytealgCompare.compare) (by kernel_rfl)]
 show ((do pure (goInt (Extern.BytealgCompare.cmp (← Extern.Bytes.bytesOf (.slice (some ⟨b, 0, none⟩) x.length c)) (← Extern.Bytes.bytesOf (.slice (some ⟨g, 0, none⟩) y.length e)))) : Sem Value).run Tryz.prog w).andThen _ = _
 rw [Sem.run_bind, run_bytesOf w b x c hx]
 simp only [Result.andThen]
 rw [Sem.run_bind, run_bytesOf w g y e hy]
 simp only [Result.andThen, Sem.run_pure, cmp_eq x y hl]
 rfl
set_option maxHeartbeats 2000000 in
set_option maxRecDepth 100000 in
theorem bcmp_any (w : World) (b g : Nat) (x y : List UInt8) (hx32 : x.length = 32) (hy32 : y.length = 32) (hx : ∀ j v, (bv x)[j]? = some v → w.cell? ⟨b, j, none⟩ = some v) (hy : ∀ j v, (bv y)[j]? = some v → w.cell? ⟨g, j, none⟩ = some v) :
  Calls Tryz.prog 93 #[.slice (some ⟨b, 0, none⟩) 32 32, .slice (some ⟨g, 0, none⟩) 32 32] w fun e w' => e = .returned (.int .i64 (cmpL x y)) ∧ w' = w := by
 have hc := run_cmp w b g x y 32 32 (hx32.trans hy32.symm) hx hy
 rw [hx32, hy32] at hc
 clear hx hy
 go_enter Tryz.func93, Tryz.ntmps93
 go_wp2_with fail
 go_ret
 exact ⟨rfl, rfl⟩
set_option maxHeartbeats 2000000 in
set_option maxRecDepth 100000 in
theorem compare_any (x y : Id) (w : World) (hx : x.length = 32) (hy : y.length = 32) :
  Calls Tryz.prog 68 #[.agg (bv x).toArray, .agg (bv y).toArray] w fun e w' => e = .returned (.int .i64 (cmpL x y)) ∧ Below w.heap.size w w' := by
 obtain ⟨w1, hw1⟩ : ∃ u, u = (w.alloc (.cells (bv x).toArray 24)).alloc (.cells (bv y).toArray 24) := ⟨_, rfl⟩
 have hb : Below w.heap.size w w1 := by rw [hw1]; exact ((Below.refl _ w).alloc (Nat.le_refl _) _).alloc (by simp) _
 have hcx : ∀ j v, (bv x)[j]? = some v → w1.cell? ⟨w.heap.size, j, none⟩ = some v := fun j v hv => by
  rw [hw1, ((Blk.new w 24 (bv x).toArray).alloc _).cell j]
  simpa using hv
 have hcy : ∀ j v, (bv y)[j]? = some v → w1.cell? ⟨w.heap.size + 1, j, none⟩ = some v := fun j v hv => by
  rw [hw1, (Blk.at_ (w := w.alloc (.cells (bv x).toArray 24)) (by simp) 24 (bv y).toArray).cell j]
  simpa using hv
 have HC := Lib.hid (fun n : Nat => bcmp_any (w1.drewN n) w.heap.size (w.heap.size + 1) x y hx hy hcx hcy)
 have HW1 := Lib.hid hw1
 have HB := Lib.hid hb
 clear hw1 hb hcx hcy
 go_enter Tryz.func68, Tryz.ntmps68
 go_upto_region 1 with fail
 refine wp_at HW1.out.symm ?_
 clear HW1
 go_quiet ((go_at_call 93; exact quiet_left ((HC.out _).mono fun _ _ ⟨he, hw⟩ => ⟨he, hw.symm⟩)))
 go_wp2_with fail
 go_ret
 exact ⟨rfl, below_drewN HB.out _⟩
end Go.Proofs.YtpeneeddfgmjpaaGreatDoor.ids
