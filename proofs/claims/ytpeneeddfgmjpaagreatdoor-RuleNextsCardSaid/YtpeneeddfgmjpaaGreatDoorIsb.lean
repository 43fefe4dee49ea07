/-
  bytes.Compare over two arrays, ident.Compare.
  list.ahead over a list that is read; ident.Is.
-/
import Derived.Test.YtpeneeddfgmjpaaGreatDoorHdp
import Derived.Test.YtpeneeddfgmjpaaGreatDoorStepl
import Derived.Test.YtpeneeddfgmjpaaGreatDoorHdck
import Derived.Lib.BytesEntry
import Derived.Lib.Bytealg
import Derived.Laws.Externs
import Derived.BigQuiet
import Derived.Deep.Cut
import Derived.Deep.RegionHeld3
import Derived.Deep.LoopGhost
import Derived.Deep.CutRange
import Derived.Deep.CutBlock
import Derived.Test.YtpeneeddfgmjpaaGreatDoorIds
import Derived.Test.YtpeneeddfgmjpaaGreatDoorRufa
namespace Go.Proofs.YtpeneeddfgmjpaaGreatDoor.ids
open Go.RowKit Go.Proofs.YtpeneeddfgmjpaaGreatDoor.mem Go.Proofs.YtpeneeddfgmjpaaGreatDoor.sha Go.Proofs.YtpeneeddfgmjpaaGreatDoor.strx

/-- the entry's own words, over lists -/
def cmpF (x y : List UInt8) : Int :=
 match (List.range x.length).find? (fun i => x.getD i 0 != y.getD i 0) with
 | some i => if x.getD i 0 < y.getD i 0 then -1 else 1
 | none => 0
theorem cmpF_eq : ∀ x y : List UInt8, x.length = y.length → cmpF x y = cmpL x y
 | [], [], _ => rfl
 | [], _ :: _, h => by cases h
 | _ :: _, [], h => by cases h
 | a :: x, b :: y, h => by
  have hl : x.length = y.length := by simpa using h
  have ih := cmpF_eq x y hl
  unfold cmpF at ih ⊢
  rw [List.length_cons, List.range_succ_eq_map, List.find?_cons, cmpL]
  by_cases hab : a = b
  ·
   subst hab
   rw [if_neg (Nat.lt_irrefl _), if_neg (Nat.lt_irrefl _), ← ih, show ((a :: x).getD 0 0 != (a :: y).getD 0 0) = false by simp]
   simp only [List.find?_map]
   have e : ((fun i => (a :: x).getD i 0 != (a :: y).getD i 0) ∘ Nat.succ) = (fun i => x.getD i 0 != y.getD i 0) := by
    funext i
    simp only [Function.comp, Nat.succ_eq_add_one, List.getD_cons_succ]
   rw [e]
   cases (List.range x.length).find? (fun i => x.getD i 0 != y.getD i 0) with
   | none => rfl
   | some i => simp only [Option.map_some, Nat.succ_eq_add_one, List.getD_cons_succ]
  ·
   have hne : (a != b) = true := by simpa using hab
   rw [show ((a :: x).getD 0 0 != (b :: y).getD 0 0) = true from hne]
   have hn : ¬ a.toNat = b.toNat := fun e => hab (UInt8.toNat_inj.1 e)
   by_cases hlt : a.toNat < b.toNat
   ·
    rw [if_pos hlt]
    have : a < b := UInt8.lt_iff_toNat_lt.2 hlt
    simp [this]
   ·
    rw [if_neg hlt, if_pos (show b.toNat < a.toNat by omega)]
    have : ¬ a < b := fun h => hlt (UInt8.lt_iff_toNat_lt.1 h)
    simp [this]
theorem bt_get (x : List UInt8) (i : Nat) : (bt x)[i]! = x.getD i 0 := by
 by_cases h : i < x.length
 ·
  have h2 : i < (bt x).size := by rw [bt_size]; exact h
  rw [getElem!_pos (bt x) i h2, List.getD_eq_getElem?_getD, List.getElem?_eq_getElem h]
  rfl
 ·
  have h2 : ¬ i < (bt x).size := by rw [bt_size]; exact h
  rw [getElem!_neg (bt x) i h2, List.getD_eq_getElem?_getD, List.getElem?_eq_none (by omega)]
  rfl
theorem cmp_eq (x y : List UInt8) (h : x.length = y.length) : Extern.BytealgCompare.cmp (bt x) (bt y) = cmpL x y := by
 rw [← cmpF_eq x y h]
 unfold Extern.BytealgCompare.cmp cmpF
 rw [bt_size, bt_size, ← h, Nat.min_self]
 have e : (fun i => (bt x)[i]! != (bt y)[i]!) = (fun i => x.getD i 0 != y.getD i 0) := by funext i; rw [bt_get, bt_get]
 rw [e]
 cases (List.range x.length).find? (fun i => x.getD i 0 != y.getD i 0) with
 | none => simp
 | some i => simp only [bt_get]
theorem run_bytesOf {P : Program} (w : World) (b : Nat) (x : List UInt8) (c : Nat) (hc : ∀ j v, (bv x)[j]? = some v → w.cell? ⟨b, j, none⟩ = some v) :
  (Extern.Bytes.bytesOf (.slice (some ⟨b, 0, none⟩) x.length c)).run P w = .ok (bt x) w := by
 have h := Lib.run_loadBytesX (P := P) w (x.map fun y => (y.toNat : Int)) ⟨b, 0, none⟩ .empty (fun j z hz => by
  rw [Addr.add_lit, Nat.zero_add]
  refine hc j _ ?_
  unfold bv
  rw [List.getElem?_map] at hz ⊢
  cases hx : x[j]? with
  | none => rw [hx] at hz; cases hz
  | some u => rw [hx] at hz; injection hz with hz; subst hz; rfl)
 rw [List.length_map] at h
 show (Extern.Bytes.loadBytes ⟨b, 0, none⟩ x.length .empty).run P w = _
 rw [h]
 congr 1
 unfold bt
 congr 1
 apply Array.ext'
 simp [Lib.bytesOf, List.map_map, Function.comp_def]
theorem run_cmp (w : World) (b g : Nat) (x y : List UInt8) (c e : Nat) (hl : x.length = y.length) (hx : ∀ j v, (bv x)[j]? = some v → w.cell? ⟨b, j, none⟩ = some v) (hy : ∀ j v, (bv y)[j]? = some v → w.cell? ⟨g, j, none⟩ = some v) :
  (callFunc 113 #[.slice (some ⟨b, 0, none⟩) x.length c, .slice (some ⟨g, 0, none⟩) y.length e]).run Tryz.prog w = .ok (.value (.int .i64 (cmpL x y))) w := by
 rw [run_callFunc_extern Tryz.func113 (by kernel_rfl) (by kernel_rfl) (by kernel_rfl) (e := Extern.BytealgCompare.compare) (by kernel_rfl)]
 show ((do pure (goInt (Extern.BytealgCompare.cmp (← Extern.Bytes.bytesOf (.slice (some ⟨b, 0, none⟩) x.length c)) (← Extern.Bytes.bytesOf (.slice (some ⟨g, 0, none⟩) y.length e)))) : Sem Value).run Tryz.prog w).andThen _ = _
 rw [Sem.run_bind, run_bytesOf w b x c hx]
 simp only [Result.andThen]
 rw [Sem.run_bind, run_bytesOf w g y e hy]
 simp only [Result.andThen, Sem.run_pure, cmp_eq x y hl]
 rfl
set_option maxHeartbeats 2000000 in
set_option maxRecDepth 100000 in
theorem bcmp_any (w : World) (b g : Nat) (x y : List UInt8) (hx32 : x.length = 32) (hy32 : y.length = 32) (hx : ∀ j v, (bv x)[j]? = some v → w.cell? ⟨b, j, none⟩ = some v) (hy : ∀ j v, (bv y)[j]? = some v → w.cell? ⟨g, j, none⟩ = some v) :
  Calls Tryz.prog 93 #[.slice (some ⟨b, 0, none⟩) 32 32, .slice (some ⟨g, 0, none⟩) 32 32] w fun e w' => e = .returned (.int .i64 (cmpL x y)) ∧ w' = w := by
 have hc := run_cmp w b g x y 32 32 (hx32.trans hy32.symm) hx hy
 rw [hx32, hy32] at hc
 clear hx hy
 go_enter Tryz.func93, Tryz.ntmps93
 go_wp2_with fail
 go_ret
 exact ⟨rfl, rfl⟩
set_option maxHeartbeats 2000000 in
set_option maxRecDepth 100000 in
theorem compare_any (x y : Id) (w : World) (hx : x.length = 32) (hy : y.length = 32) :
  Calls Tryz.prog 68 #[.agg (bv x).toArray, .agg (bv y).toArray] w fun e w' => e = .returned (.int .i64 (cmpL x y)) ∧ Below w.heap.size w w' := by
 obtain ⟨w1, hw1⟩ : ∃ u, u = (w.alloc (.cells (bv x).toArray 24)).alloc (.cells (bv y).toArray 24) := ⟨_, rfl⟩
 have hb : Below w.heap.size w w1 := by rw [hw1]; exact ((Below.refl _ w).alloc (Nat.le_refl _) _).alloc (by simp) _
 have hcx : ∀ j v, (bv x)[j]? = some v → w1.cell? ⟨w.heap.size, j, none⟩ = some v := fun j v hv => by
  rw [hw1, ((Blk.new w 24 (bv x).toArray).alloc _).cell j]
  simpa using hv
 have hcy : ∀ j v, (bv y)[j]? = some v → w1.cell? ⟨w.heap.size + 1, j, none⟩ = some v := fun j v hv => by
  rw [hw1, (Blk.at_ (w := w.alloc (.cells (bv x).toArray 24)) (by simp) 24 (bv y).toArray).cell j]
  simpa using hv
 have HC := Lib.hid (fun n : Nat => bcmp_any (w1.drewN n) w.heap.size (w.heap.size + 1) x y hx hy hcx hcy)
 have HW1 := Lib.hid hw1
 have HB := Lib.hid hb
 clear hw1 hb hcx hcy
 go_enter Tryz.func68, Tryz.ntmps68
 go_upto_region 1 with fail
 refine wp_at HW1.out.symm ?_
 clear HW1
 go_quiet ((go_at_call 93; exact quiet_left ((HC.out _).mono fun _ _ ⟨he, hw⟩ => ⟨he, hw.symm⟩)))
 go_wp2_with fail
 go_ret
 exact ⟨rfl, below_drewN HB.out _⟩
end Go.Proofs.YtpeneeddfgmjpaaGreatDoor.ids

namespace Go.Proofs.YtpeneeddfgmjpaaGreatDoor.ids
open Go.RowKit Go.Proofs.YtpeneeddfgmjpaaGreatDoor.mem Go.Proofs.YtpeneeddfgmjpaaGreatDoor.sha

structure RdS (v : Value) (L : List (List UInt8)) (w0 w : World) : Prop where
 rd : RdV w v L
 below : Below w0.heap.size w0 w
theorem RdS.next {v : Value} {L : List (List UInt8)} {w0 w w' : World} (h : RdS v L w0 w) (hb : Below w.heap.size w w') : RdS v L w0 w' := ⟨h.rd.next hb, h.below.trans (hb.mono h.below.size)⟩
theorem dec_eq {c x : Int} (h : x = c) : decide (x < 0) = decide (c < 0) := by rw [h]

set_option maxHeartbeats 2000000 in
set_option maxRecDepth 100000 in
theorem ahead_rd {w : World} {v : Value} {L : List (List UInt8)} (h : RdV w v L) {i j : Nat} (hi : i < L.length) (hj : j < L.length) :
  Calls Tryz.prog 70 #[v, .int .i64 i, .int .i64 j] w fun e w' => e = .returned (.bool (decide (cmpL (L.getD i []) (L.getD j []) < 0))) ∧ Below w.heap.size w w' := by
 obtain ⟨ad, cap, rfl⟩ := h.form
 obtain ⟨b, off, rfl, -, -, -⟩ := h.load hi
 have HS := Lib.hid (show RdS (.slice (some ⟨b, off, none⟩) L.length cap) L w w from ⟨h, Below.refl _ _⟩)
 obtain ⟨x, hx⟩ : ∃ x, x = L.getD i [] := ⟨_, rfl⟩
 obtain ⟨y, hy⟩ : ∃ y, y = L.getD j [] := ⟨_, rfl⟩
 have hx32 : x.length = 32 := by rw [hx]; exact h.ok.get hi
 have hy32 : y.length = 32 := by rw [hy]; exact h.ok.get hj
 have HX := Lib.hid hx.symm
 have HY := Lib.hid hy.symm
 rw [← hx, ← hy]
 obtain ⟨c, hc⟩ : ∃ c, cmpL x y = c := ⟨_, rfl⟩
 have HD := Lib.hid (dec_eq hc)
 have i0 : (0 : Int) ≤ (i : Int) := Int.natCast_nonneg _
 have j0 : (0 : Int) ≤ (j : Int) := Int.natCast_nonneg _
 have iI : (i : Int) < (L.length : Int) := by omega
 have jI : (j : Int) < (L.length : Int) := by omega
 have HC := Lib.hid (fun w : World => compare_any x y w hx32 hy32)
 rw [hc] at HC
 clear h hx hy hc
 go_enter Tryz.func70, Tryz.ntmps70
 go_upto_region 1 with fail
 refine wp_region_held_drew (S := RdS (.slice (some ⟨b, off, none⟩) L.length cap) L w) (by kernel_rfl) ?_ (fun hHeld => ?_)
 ·
  exact HS.out.next ((Below.refl _ _).drew)
 refine' wpAnyH_take (i := 0) ?hiar0 (by kernel_rfl) (by kernel_rfl) (by kernel_rfl) ?hqar0 (Or.inl ⟨?hwar0, ?hyar0⟩) (by assumption) ?hrar0
 case hiar0 => (simp only [List.getElem?_toArray, List.getElem?_cons_zero]; rfl)
 case hqar0 => exact fun _ _ _ h => h
 case hwar0 => rfl
 case hyar0 => (intro w0 hSw; (try dsimp only at hSw); go_simp; try with_reducible rfl)
 (try simp only [Act.put, List.setIfInBounds_toArray, List.set_cons_zero, List.set_cons_succ])
 refine' wpAnyH_take (i := 1) ?hiar1 (by kernel_rfl) (by kernel_rfl) (by kernel_rfl) ?hqar1 (Or.inl ⟨?hwar1, ?hyar1⟩) (by assumption) ?hrar1
 case hiar1 => (simp only [List.getElem?_toArray, List.getElem?_cons_succ, List.getElem?_cons_zero]; rfl)
 case hqar1 => exact fun _ _ _ h => h
 case hwar1 => rfl
 case hyar1 => (intro w0 hSw; (try dsimp only at hSw); go_simp; try with_reducible rfl)
 (try simp only [Act.put, List.setIfInBounds_toArray, List.set_cons_zero, List.set_cons_succ])
 refine' wpAnyH_take (i := 2) ?hiar2 (by kernel_rfl) (by kernel_rfl) (by kernel_rfl) ?hqar2 (Or.inl ⟨?hwar2, ?hyar2⟩) (by assumption) ?hrar2
 case hiar2 => (simp only [List.getElem?_toArray, List.getElem?_cons_succ, List.getElem?_cons_zero]; rfl)
 case hqar2 => exact fun _ _ _ h => h
 case hwar2 => rfl
 case hyar2 => (intro w0 hSw; (try dsimp only at hSw); go_simp; try with_reducible rfl)
 (try simp only [Act.put, List.setIfInBounds_toArray, List.set_cons_zero, List.set_cons_succ])
 refine' wpAnyH_take (i := 3) ?hiar3 (by kernel_rfl) (by kernel_rfl) (by kernel_rfl) ?hqar3 (Or.inl ⟨?hwar3, ?hyar3⟩) (by assumption) ?hrar3
 case hiar3 => (simp only [List.getElem?_toArray, List.getElem?_cons_succ, List.getElem?_cons_zero]; rfl)
 case hqar3 => exact fun _ _ _ h => h
 case hwar3 => rfl
 case hyar3 => exact fun w0 hSw => run_exec_load rfl rfl (hSw.rd.load_y hi HX.out)
 (try simp only [Act.put, List.setIfInBounds_toArray, List.set_cons_zero, List.set_cons_succ])
 refine' wpAnyH_take (i := 4) ?hiar4 (by kernel_rfl) (by kernel_rfl) (by kernel_rfl) ?hqar4 (Or.inl ⟨?hwar4, ?hyar4⟩) (by assumption) ?hrar4
 case hiar4 => (simp only [List.getElem?_toArray, List.getElem?_cons_succ, List.getElem?_cons_zero]; rfl)
 case hqar4 => exact fun _ _ _ h => h
 case hwar4 => rfl
 case hyar4 => (intro w0 hSw; (try dsimp only at hSw); go_simp; try with_reducible rfl)
 (try simp only [Act.put, List.setIfInBounds_toArray, List.set_cons_zero, List.set_cons_succ])
 refine' wpAnyH_take (i := 5) ?hiar5 (by kernel_rfl) (by kernel_rfl) (by kernel_rfl) ?hqar5 (Or.inl ⟨?hwar5, ?hyar5⟩) (by assumption) ?hrar5
 case hiar5 => (simp only [List.getElem?_toArray, List.getElem?_cons_succ, List.getElem?_cons_zero]; rfl)
 case hqar5 => exact fun _ _ _ h => h
 case hwar5 => rfl
 case hyar5 => (intro w0 hSw; (try dsimp only at hSw); go_simp; try with_reducible rfl)
 (try simp only [Act.put, List.setIfInBounds_toArray, List.set_cons_zero, List.set_cons_succ])
 refine' wpAnyH_take (i := 6) ?hiar6 (by kernel_rfl) (by kernel_rfl) (by kernel_rfl) ?hqar6 (Or.inl ⟨?hwar6, ?hyar6⟩) (by assumption) ?hrar6
 case hiar6 => (simp only [List.getElem?_toArray, List.getElem?_cons_succ, List.getElem?_cons_zero]; rfl)
 case hqar6 => exact fun _ _ _ h => h
 case hwar6 => rfl
 case hyar6 => (intro w0 hSw; (try dsimp only at hSw); go_simp; try with_reducible rfl)
 (try simp only [Act.put, List.setIfInBounds_toArray, List.set_cons_zero, List.set_cons_succ])
 refine' wpAnyH_take (i := 7) ?hiar7 (by kernel_rfl) (by kernel_rfl) (by kernel_rfl) ?hqar7 (Or.inl ⟨?hwar7, ?hyar7⟩) (by assumption) ?hrar7
 case hiar7 => (simp only [List.getElem?_toArray, List.getElem?_cons_succ, List.getElem?_cons_zero]; rfl)
 case hqar7 => exact fun _ _ _ h => h
 case hwar7 => rfl
 case hyar7 => exact fun w0 hSw => run_exec_load rfl rfl (hSw.rd.load_y hj HY.out)
 (try simp only [Act.put, List.setIfInBounds_toArray, List.set_cons_zero, List.set_cons_succ])
 refine wpAnyH_ready (rs := [8]) (by kernel_rfl) (by simp) ?_
 refine' AllReadyH.cons ?hiar8 (fun K hK => ?hrar8) AllReadyH.nil
 case hiar8 => (simp only [List.getElem?_toArray, List.getElem?_cons_succ, List.getElem?_cons_zero]; rfl)
 go_simp
 refine (HC.out _).mono ?_; rintro e wA ⟨rfl, hbA⟩
 refine hK.out _ _ ?_ (fun hHeld => ?_)
 ·
  exact hHeld.next hbA
 clear hK K
 (try simp only [Act.put, List.setIfInBounds_toArray, List.set_cons_zero, List.set_cons_succ])
 refine' wpAnyH_take (i := 9) ?hiar9 (by kernel_rfl) (by kernel_rfl) (by kernel_rfl) ?hqar9 (Or.inl ⟨?hwar9, ?hyar9⟩) (by assumption) ?hrar9
 case hiar9 => (simp only [List.getElem?_toArray, List.getElem?_cons_succ, List.getElem?_cons_zero]; rfl)
 case hqar9 => exact fun _ _ _ h => h
 case hwar9 => rfl
 case hyar9 => (intro w0 hSw; (try dsimp only at hSw); go_simp; try with_reducible rfl)
 (try simp only [Act.put, List.setIfInBounds_toArray, List.set_cons_zero, List.set_cons_succ])
 refine' wpAnyH_take (i := 10) ?hiar10 (by kernel_rfl) (by kernel_rfl) (by kernel_rfl) ?hqar10 (Or.inl ⟨?hwar10, ?hyar10⟩) (by assumption) ?hrar10
 case hiar10 => (simp only [List.getElem?_toArray, List.getElem?_cons_succ, List.getElem?_cons_zero]; rfl)
 case hqar10 => exact fun _ _ _ h => h
 case hwar10 => rfl
 case hyar10 => (intro w0 hSw; (try dsimp only at hSw); go_simp; try with_reducible rfl)
 (try simp only [Act.put, List.setIfInBounds_toArray, List.set_cons_zero, List.set_cons_succ])
 refine wpAnyH_done (by kernel_rfl) ?_ _
 go_wp2_with fail
 go_ret
 rw [HD.out]
 exact ⟨rfl, hHeld.below⟩

theorem sorted_of_adj : ∀ L : List (List UInt8), (∀ j, j + 1 < L.length → cmpL (L.getD j []) (L.getD (j + 1) []) < 0) → Sorted L
 | [], _ => List.Pairwise.nil
 | [a], _ => List.pairwise_singleton _ _
 | a :: b :: L, h => by
  have ih := sorted_of_adj (b :: L) fun j hj => by
   have := h (j + 1) (by simpa using hj)
   rwa [List.getD_cons_succ, List.getD_cons_succ] at this
  have hab : cmpL a b < 0 := h 0 (by simp)
  refine List.pairwise_cons.2 ⟨fun y hy => ?_, ih⟩
  rcases List.mem_cons.1 hy with rfl | hy
  ·
   exact hab
  ·
   exact cmpL_trans a b y hab ((List.pairwise_cons.1 ih).1 y hy)
theorem adj_of_sorted : ∀ (L : List (List UInt8)), Sorted L → ∀ j, j + 1 < L.length → cmpL (L.getD j []) (L.getD (j + 1) []) < 0
 | [], _, j, hj => by simp at hj
 | a :: L, h, 0, hj => by
  cases L with
  | nil => simp at hj
  | cons b L => exact (List.pairwise_cons.1 h).1 b List.mem_cons_self
 | a :: L, h, j + 1, hj => by
  have := adj_of_sorted L (List.pairwise_cons.1 h).2 j (by simpa using hj)
  rwa [List.getD_cons_succ, List.getD_cons_succ]
theorem is_true {L : List (List UInt8)} (h : Sorted L) : (L == setL L) = true := by rw [setL_of_sorted L h]; exact beq_self_eq_true L
theorem is_false {L : List (List UInt8)} {j : Nat} (hj : j + 1 < L.length) (h : ¬ cmpL (L.getD j []) (L.getD (j + 1) []) < 0) : (L == setL L) = false := by
 rw [beq_eq_false_iff_ne]
 intro e
 exact h (adj_of_sorted L (by rw [e]; exact setL_sorted L) j hj)

set_option maxHeartbeats 2000000 in
set_option maxRecDepth 100000 in
theorem is_any (L : List (List UInt8)) (v : Value) (w : World) (hR : RdV w v L) (hm : L.length ≤ 1000) : Calls Tryz.prog 46 #[v] w fun e w' => e = .returned (.bool (L == setL L)) ∧ Below w.heap.size w w' := by
 obtain ⟨ad, cap, rfl⟩ := hR.form
 have HS := Lib.hid (show RdS (.slice ad L.length cap) L w w from ⟨hR, Below.refl _ _⟩)
 obtain ⟨r, hr⟩ : ∃ r, r = (L == setL L) := ⟨_, rfl⟩
 rw [← hr]
 have HV := Lib.hid hr
 clear hR hr
 go_enter Tryz.func46, Tryz.ntmps46
 go_wp2_with fail
 go_loopg [3] (L.length + 1) (fun gk s3 wr => ∃ i : Nat, s3 = .int .i64 ((i : Int) + 1) ∧ L.length + 1 - i ≤ gk ∧ Hid (∀ j, j < i → j + 1 < L.length → cmpL (L.getD j []) (L.getD (j + 1) []) < 0) ∧ Hid (RdS (.slice ad L.length cap) L w wr))
 case atStart => exact ⟨0, rfl, by omega, Lib.hid fun j hj => by omega, HS⟩
 case round =>
  obtain ⟨i, rfl, hgk, HN, HS2⟩ := hrel
  clear HS
  have i0 : (0 : Int) ≤ (i : Int) := Int.natCast_nonneg _
  by_cases hlt : i + 1 < L.length
  ·
   have hltz : (i : Int) + 1 < (L.length : Int) := by omega
   have hA := ahead_rd HS2.out.rd (i := i) (j := i + 1) (by omega) hlt
   rw [show ((i + 1 : Nat) : Int) = (i : Int) + 1 by omega] at hA
   by_cases hc : cmpL (L.getD i []) (L.getD (i + 1) []) < 0
   ·
    rw [decide_eq_true hc] at hA
    have HA := Lib.hid hA
    have HC := Lib.hid hc
    clear hA hc
    go_wp2_with (go_at_call 70; (with_reducible refine HA.out.mono ?_); rintro e w3 ⟨rfl, hB3⟩; have HB3 := Lib.hid hB3; clear hB3 HA)
    go_roundg (L.length + 1 - (i + 1))
    case measure => omega
    case rel => exact ⟨i + 1, by go_num, Nat.le_refl _, Lib.hid fun j hj hj2 => by
      rcases Nat.lt_or_ge j i with h | h
      ·
       exact HN.out j h hj2
      ·
       obtain rfl : j = i := by omega
       exact HC.out, Lib.hid (HS2.out.next HB3.out)⟩
   ·
    rw [decide_eq_false hc] at hA
    have HA := Lib.hid hA
    have HC := Lib.hid (is_false hlt hc)
    clear hA hc
    go_wp2_with (go_at_call 70; (with_reducible refine HA.out.mono ?_); rintro e w3 ⟨rfl, hB3⟩; have HB3 := Lib.hid hB3; clear hB3 HA)
    go_ret
    rw [HV.out, HC.out]
    exact ⟨rfl, (HS2.out.next HB3.out).below⟩
  ·
   have hltz : ¬ (i : Int) + 1 < (L.length : Int) := by omega
   have HC := Lib.hid (is_true (sorted_of_adj L fun j hj => HN.out j (by omega) hj))
   go_wp2_with fail
   go_ret
   rw [HV.out, HC.out]
   exact ⟨rfl, HS2.out.below⟩
end Go.Proofs.YtpeneeddfgmjpaaGreatDoor.ids
