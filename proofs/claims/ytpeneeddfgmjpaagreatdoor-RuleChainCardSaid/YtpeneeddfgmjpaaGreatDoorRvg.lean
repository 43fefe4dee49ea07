/-
 Worlds in which blocks have been laid and nothing else has turned; ident.Compare, header.Ahead, the order of places leave such ones.
-/
import Derived.Test.YtpeneeddfgmjpaaGreatDoorRvp
import Derived.Shelf.SlSortCmp.WholeK
namespace Go.Proofs.YtpeneeddfgmjpaaGreatDoor.rul
open Go.RowKit Go.Proofs.YtpeneeddfgmjpaaGreatDoor.mem Go.Proofs.YtpeneeddfgmjpaaGreatDoor.sha Go.Proofs.YtpeneeddfgmjpaaGreatDoor.ids Go.Proofs.YtpeneeddfgmjpaaGreatDoor.hdr
open Go.Sort (grow grow_grow grow_empty alloc_eq_grow heap_grow_old)

/-- blocks laid, orders drawn, nothing else -/
def Grown (w w' : World) : Prop := ∃ q os, w' = grow (w.drewN q) os
theorem Grown.refl (w : World) : Grown w w := ⟨0, #[], by rw [grow_empty]; rfl⟩
theorem Grown.trans {a b c : World} (h : Grown a b) (k : Grown b c) : Grown a c := by
 obtain ⟨q, os, rfl⟩ := h
 obtain ⟨q', os', rfl⟩ := k
 refine ⟨q + q', os ++ os', ?_⟩
 have e : (a.drewN q).drewN q' = a.drewN (q + q') := by unfold World.drewN; simp [Nat.add_assoc]
 rw [← e, ← grow_grow]
 rfl
theorem Grown.alloc (w : World) (o : Obj) : Grown w (w.alloc o) := ⟨0, #[o], by rw [alloc_eq_grow]; rfl⟩
theorem Grown.drewN (w : World) (n : Nat) : Grown w (w.drewN n) := ⟨n, #[], by rw [grow_empty]⟩
theorem Grown.below {w w' : World} (h : Grown w w') : Below w.heap.size w w' := by
 obtain ⟨q, os, rfl⟩ := h
 have hd := below_drewN (Below.refl w.heap.size w) q
 exact ⟨hd.os, hd.tape, hd.output, Nat.le_trans hd.size (by rw [Go.Sort.size_grow]; exact Nat.le_add_right _ _), fun k hk => (heap_grow_old _ os (Nat.lt_of_lt_of_le hk hd.size)).trans (hd.block k hk)⟩

set_option maxHeartbeats 2000000 in
set_option maxRecDepth 100000 in
theorem compare_g (x y : Id) (w : World) (hx : x.length = 32) (hy : y.length = 32) :
  Calls Tryz.prog 68 #[.agg (bv x).toArray, .agg (bv y).toArray] w fun e w' => e = .returned (.int .i64 (cmpL x y)) ∧ Grown w w' := by
 obtain ⟨w1, hw1⟩ : ∃ u, u = (w.alloc (.cells (bv x).toArray 24)).alloc (.cells (bv y).toArray 24) := ⟨_, rfl⟩
 have hb : Grown w w1 := by rw [hw1]; exact (Grown.alloc w _).trans (Grown.alloc _ _)
 have hcx : ∀ j v, (bv x)[j]? = some v → w1.cell? ⟨w.heap.size, j, none⟩ = some v := fun j v hv => by
  rw [hw1, ((Blk.new w 24 (bv x).toArray).alloc _).cell j]
  simpa using hv
 have hcy : ∀ j v, (bv y)[j]? = some v → w1.cell? ⟨w.heap.size + 1, j, none⟩ = some v := fun j v hv => by
  rw [hw1, (Blk.at_ (w := w.alloc (.cells (bv x).toArray 24)) (by simp) 24 (bv y).toArray).cell j]
  simpa using hv
 have HC := Lib.hid (fun n : Nat => bcmp_any (w1.drewN n) w.heap.size (w.heap.size + 1) x y hx hy hcx hcy)
 have HW1 := Lib.hid hw1
 have HB := Lib.hid hb
 clear hw1 hb hcx hcy
 go_enter Tryz.func68, Tryz.ntmps68
 go_upto_region 1 with fail
 refine wp_at HW1.out.symm ?_
 clear HW1
 go_quiet ((go_at_call 93; exact quiet_left ((HC.out _).mono fun _ _ ⟨he, hw⟩ => ⟨he, hw.symm⟩)))
 go_wp2_with fail
 go_ret
 exact ⟨rfl, HB.out.trans (Grown.drewN _ _)⟩

set_option maxHeartbeats 4000000 in
set_option maxRecDepth 100000 in
theorem ahead_g (x : Int) (a : List UInt8) (y : Int) (b : List UInt8) (w : World) (ha : a.length = 32) (hb : b.length = 32) :
  Calls Tryz.prog 38 #[.int .i64 x, .agg (bv a).toArray, .int .i64 y, .agg (bv b).toArray] w fun e w' => e = .returned (.bool (aheadB x a y b)) ∧ Grown w w' := by
 obtain ⟨w1, hw1⟩ : ∃ u, u = (w.alloc (.cells (bv a).toArray 24)).alloc (.cells (bv b).toArray 24) := ⟨_, rfl⟩
 obtain ⟨S, hS⟩ : ∃ S, S = w.heap.size := ⟨_, rfl⟩
 have hX : Blk w1 S 24 (bv a).toArray := by rw [hw1, hS]; exact (Blk.new w _ _).alloc _
 have hY : Blk w1 (S + 1) 24 (bv b).toArray := by rw [hw1, hS]; exact Blk.at_ (by simp) _ _
 have hB : Grown w w1 := by rw [hw1]; exact (Grown.alloc w _).trans (Grown.alloc _ _)
 have hla := box_load hX ha 0
 have hlb := box_load hY hb 0
 have HB := Lib.hid hB
 have HS := Lib.hid hS
 have HW := Lib.hid hw1
 have HCM := Lib.hid (fun u => compare_g a b u ha hb)
 have HE : Hid (aheadB x a y b = (decide (x < y) || (decide (x = y) && decide (cmpL a b < 0)))) := Lib.hid rfl
 clear hX hY hB hS hw1 ha hb
 obtain ⟨c, hc⟩ : ∃ c, c = cmpL a b := ⟨_, rfl⟩
 rw [← hc] at HCM HE
 clear hc
 by_cases h2 : x = y
 ·
  have HE : Hid (aheadB x a y b = decide (c < 0)) := Lib.hid (by rw [HE.out, decide_eq_false (by omega : ¬ x < y), decide_eq_true h2]; rfl)
  have e2 : (x != y) = false := by rw [h2]; simp
  clear h2
  go_enter Tryz.func38, Tryz.ntmps38
  go_upto_region 1 with fail
  refine wp_at HW.out.symm ?_
  rw [← HS.out]
  clear HW
  go_wp2_with (first
   | ((with_reducible refine step_load (t := 24) (x := .tmp 5) (p := ?lpa1) (v := ?lva1) ?lga1 ?loa1 ?lxa1 ?lra1 ?lha1); (case lga1 => rfl); (case loa1 => rfl); (case lxa1 => rfl); (case lra1 => exact hla))
   | ((with_reducible refine step_load (t := 24) (x := .tmp 7) (p := ?lpa2) (v := ?lva2) ?lga2 ?loa2 ?lxa2 ?lra2 ?lha2); (case lga2 => rfl); (case loa2 => rfl); (case lxa2 => rfl); (case lra2 => exact hlb))
   | (go_at_call 68; go_loud (refine (HCM.out _).mono ?_); rintro e w2 ⟨rfl, hb2⟩))
  go_ret
  exact ⟨by rw [HE.out]; rfl, HB.out.trans hb2⟩
 ·
  have HE : Hid (aheadB x a y b = decide (x < y)) := Lib.hid (by rw [HE.out, decide_eq_false h2]; simp)
  have e2 : (x != y) = true := bne_iff_ne.2 h2
  clear h2
  go_enter Tryz.func38, Tryz.ntmps38
  go_upto_region 1 with fail
  refine wp_at HW.out.symm ?_
  rw [← HS.out]
  clear HW
  go_wp2_with fail
  go_ret
  exact ⟨by rw [HE.out]; rfl, HB.out⟩

/-! Places. -/
/-- a place's cells -/
def plv (x : Ky) : List Value := .int .i64 x.1 :: bv x.2
theorem plv_len {x : Ky} (h : x.2.length = 32) : (plv x).length = 33 := by unfold plv; rw [List.length_cons, bv_length, h]
theorem plv_one (x : Ky) : ∀ v ∈ plv x, v.oneCell' = true := fun v hv => by
 rcases List.mem_cons.1 hv with rfl | hv
 ·
  rfl
 ·
  exact (by have := Array.all_eq_true_iff_forall_mem.1 (one_bv x.2) v (by simpa using hv); exact this)
abbrev P32 := Int × {l : List UInt8 // l.length = 32}
instance : Inhabited P32 := ⟨(0, ⟨List.replicate 32 0, rfl⟩)⟩
def kyp (x : P32) : Ky := (x.1, x.2.1)
def encP (x : P32) : List Value := plv (kyp x)
theorem encP_len (x : P32) : (encP x).length = 33 := plv_len x.2.2
def cfK (x y : Ky) : Int := if aheadK x y = true then -1 else if aheadK y x = true then 1 else 0
def cfP (x y : P32) : Int := cfK (kyp x) (kyp y)
theorem lt_cf (x y : P32) : ltOf cfP x y = aheadK (kyp x) (kyp y) := by
 unfold ltOf cfP cfK
 by_cases h : aheadK (kyp x) (kyp y) = true
 ·
  rw [if_pos h, h]; rfl
 ·
  rw [if_neg h, (Bool.not_eq_true _).mp h]
  split <;> rfl
theorem swo_p : Go.Sort.SWO (ltOf cfP) where
 irrefl x := by rw [lt_cf]; exact aheadK_irr _
 trans x y z h1 h2 := by rw [lt_cf] at *; exact aheadK_trans h1 h2
 ntrans x y z h1 h2 := by rw [lt_cf] at *; exact aheadK_ntrans h1 h2
/-- a place in a block of its own: its height, its id -/
theorem pl_height {w : World} {S : Nat} {x : Ky} {t : TypeId} (h : Blk w S t (plv x).toArray) : w.cell? ⟨S, 0, none⟩ = some (.int .i64 x.1) := by
 rw [h.cell]; rfl
theorem pl_id {w : World} {S : Nat} {x : Ky} {t : TypeId} (h : Blk w S t (plv x).toArray) (hx : x.2.length = 32) : (Instr.loadAt 24 (.pointer (some ⟨S, 1, none⟩))).run Tryz.prog w = .ok (.agg (bv x.2).toArray) w := by
 have := run_load_id (w := w) (b := S) (off := 1) (L := [x.2]) (fun y hy => by rw [List.mem_singleton.1 hy]; exact hx) (fun k v hv => by
  rw [h.cell, List.getElem?_toArray]
  unfold plv
  rw [Nat.add_comm, List.getElem?_cons_succ]
  simpa [fl] using hv) (i := 0) Nat.zero_lt_one
 simpa [idv] using this
set_option maxHeartbeats 4000000 in
set_option maxRecDepth 100000 in
theorem against_g (x y : Ky) (w : World) (hx : x.2.length = 32) (hy : y.2.length = 32) :
  Calls Tryz.prog 27 #[.agg (plv x).toArray, .agg (plv y).toArray] w fun e w' => e = .returned (.int .i64 (cfK x y)) ∧ Grown w w' := by
 obtain ⟨w1, hw1⟩ : ∃ u, u = (w.alloc (.cells (plv x).toArray 60)).alloc (.cells (plv y).toArray 60) := ⟨_, rfl⟩
 obtain ⟨S, hS⟩ : ∃ S, S = w.heap.size := ⟨_, rfl⟩
 have hX : Blk w1 S 60 (plv x).toArray := by rw [hw1, hS]; exact (Blk.new w _ _).alloc _
 have hY : Blk w1 (S + 1) 60 (plv y).toArray := by rw [hw1, hS]; exact Blk.at_ (by simp) _ _
 have hB : Grown w w1 := by rw [hw1]; exact (Grown.alloc w _).trans (Grown.alloc _ _)
 have hcx := pl_height hX
 have hcy := pl_height hY
 have hix := pl_id hX hx
 have hiy := pl_id hY hy
 obtain ⟨xh, xi⟩ := x
 obtain ⟨yh, yi⟩ := y
 dsimp only at hcx hcy hix hiy hx hy
 have ha1 := ahead_g xh xi yh yi w1 hx hy
 have HA1 := Lib.hid ha1
 have HA2 := Lib.hid (fun u => ahead_g yh yi xh xi u hy hx)
 have HX := Lib.hid hX
 have HY := Lib.hid hY
 have HB := Lib.hid hB
 have HS := Lib.hid hS
 have HW := Lib.hid hw1
 have HL : Hid (xi.length = 32 ∧ yi.length = 32) := Lib.hid ⟨hx, hy⟩
 have HE : Hid (cfK (xh, xi) (yh, yi) = if aheadB xh xi yh yi = true then -1 else if aheadB yh yi xh xi = true then 1 else 0) := Lib.hid rfl
 obtain ⟨b1, hb1⟩ : ∃ b, b = aheadB xh xi yh yi := ⟨_, rfl⟩
 obtain ⟨b2, hb2⟩ : ∃ b, b = aheadB yh yi xh xi := ⟨_, rfl⟩
 rw [← hb1] at HA1 HE
 rw [← hb2] at HA2 HE
 clear hX hY hB hS hw1 hx hy ha1 hb1 hb2
 obtain ⟨ax, hax⟩ : ∃ a, a = (plv (xh, xi)).toArray := ⟨_, rfl⟩
 obtain ⟨ay, hay⟩ : ∃ a, a = (plv (yh, yi)).toArray := ⟨_, rfl⟩
 rw [← hax] at HW HX ⊢
 rw [← hay] at HW HY ⊢
 have HAX := Lib.hid hax
 have HAY := Lib.hid hay
 clear hax hay
 cases b1 with
 | true =>
  go_enter Tryz.func27, Tryz.ntmps27
  go_upto_region 1 with fail
  refine wp_at HW.out.symm ?_
  rw [← HS.out]
  clear HW
  go_wp2_with (first
   | ((with_reducible refine step_load (t := 24) (x := .tmp 8) (p := ?lpa1) (v := ?lva1) ?lga1 ?loa1 ?lxa1 ?lra1 ?lha1); (case lga1 => rfl); (case loa1 => rfl); (case lxa1 => rfl); (case lra1 => exact hix))
   | ((with_reducible refine step_load (t := 24) (x := .tmp 12) (p := ?lpa2) (v := ?lva2) ?lga2 ?loa2 ?lxa2 ?lra2 ?lha2); (case lga2 => rfl); (case loa2 => rfl); (case lxa2 => rfl); (case lra2 => exact hiy))
   | (go_at_call 38; (with_reducible refine HA1.out.mono ?_); rintro e w2 ⟨rfl, hb2⟩))
  go_ret
  exact ⟨by rw [HE.out]; rfl, HB.out.trans hb2⟩
 | false =>
  go_enter Tryz.func27, Tryz.ntmps27
  go_upto_region 1 with fail
  refine wp_at HW.out.symm ?_
  rw [← HS.out]
  clear HW
  go_upto_region 3 with (first
   | ((with_reducible refine step_load (t := 24) (x := .tmp 8) (p := ?lpb1) (v := ?lvb1) ?lgb1 ?lob1 ?lxb1 ?lrb1 ?lhb1); (case lgb1 => rfl); (case lob1 => rfl); (case lxb1 => rfl); (case lrb1 => exact hix))
   | ((with_reducible refine step_load (t := 24) (x := .tmp 12) (p := ?lpb2) (v := ?lvb2) ?lgb2 ?lob2 ?lxb2 ?lrb2 ?lhb2); (case lgb2 => rfl); (case lob2 => rfl); (case lxb2 => rfl); (case lrb2 => exact hiy))
   | (go_at_call 38; (with_reducible refine HA1.out.mono ?_); rintro e w2 ⟨rfl, hb2⟩))
  clear hcx hcy hix hiy
  have hX2 := HX.out.below hb2.below HX.out.lt
  have hY2 := HY.out.below hb2.below HY.out.lt
  rw [HAX.out] at hX2
  rw [HAY.out] at hY2
  have hcx := pl_height hX2
  have hcy := pl_height hY2
  have hix := pl_id hX2 HL.out.1
  have hiy := pl_id hY2 HL.out.2
  dsimp only at hcx hcy hix hiy
  have HB2 := Lib.hid hb2
  clear hX2 hY2 hb2
  cases b2 with
  | true =>
   go_wp2_with (first
    | ((with_reducible refine step_load (t := 24) (x := .tmp 18) (p := ?lpc1) (v := ?lvc1) ?lgc1 ?loc1 ?lxc1 ?lrc1 ?lhc1); (case lgc1 => rfl); (case loc1 => rfl); (case lxc1 => rfl); (case lrc1 => exact hiy))
    | ((with_reducible refine step_load (t := 24) (x := .tmp 22) (p := ?lpc2) (v := ?lvc2) ?lgc2 ?loc2 ?lxc2 ?lrc2 ?lhc2); (case lgc2 => rfl); (case loc2 => rfl); (case lxc2 => rfl); (case lrc2 => exact hix))
    | (go_at_call 38; (with_reducible refine (HA2.out _).mono ?_); rintro e w3 ⟨rfl, hb3⟩))
   go_ret
   exact ⟨by rw [HE.out]; rfl, (HB.out.trans HB2.out).trans hb3⟩
  | false =>
   go_wp2_with (first
    | ((with_reducible refine step_load (t := 24) (x := .tmp 18) (p := ?lpd1) (v := ?lvd1) ?lgd1 ?lod1 ?lxd1 ?lrd1 ?lhd1); (case lgd1 => rfl); (case lod1 => rfl); (case lxd1 => rfl); (case lrd1 => exact hiy))
    | ((with_reducible refine step_load (t := 24) (x := .tmp 22) (p := ?lpd2) (v := ?lvd2) ?lgd2 ?lod2 ?lxd2 ?lrd2 ?lhd2); (case lgd2 => rfl); (case lod2 => rfl); (case lxd2 => rfl); (case lrd2 => exact hix))
    | (go_at_call 38; (with_reducible refine (HA2.out _).mono ?_); rintro e w3 ⟨rfl, hb3⟩))
   go_ret
   exact ⟨by rw [HE.out]; rfl, (HB.out.trans HB2.out).trans hb3⟩
/-- the order of places, as slices.SortFunc asks it -/
theorem cmp_lays (blk off size : Nat) (w : World) : CmpLays Tryz.prog 27 #[] encP 33 cfP blk off size w := fun _ _ _ _ x y => (against_g (kyp x) (kyp y) _ x.2.2 y.2.2).mono fun _ _ ⟨he, q, os, hw⟩ => ⟨he, q, os, hw⟩
end Go.Proofs.YtpeneeddfgmjpaaGreatDoor.rul
