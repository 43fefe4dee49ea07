/-
  The walk of IdentTexts, by what ident's functions answer.
-/
import Derived.Test.YtkfhlnpbklchmaaIdta
import Derived.Deep.RegionHeld3
import Derived.Test.YtkfhlnpbklchmaaIdcm
namespace Go.Proofs.Ytkfhlnpbklchmaa.ids
open Go.RowKit Go.Proofs.Ytkfhlnpbklchmaa.mem Go.Proofs.Ytkfhlnpbklchmaa.sha Go.Proofs.Ytkfhlnpbklchmaa.strx

theorem rcompare_v (x y : Id) (w : World) (hx : x.length = 32) (hy : y.length = 32) : Calls Try.prog 10 #[.agg (bv x).toArray, .agg (bv y).toArray] w fun e w' => e = .returned (.int .i64 (cmpL x y)) ∧ Below w.heap.size w w' := rcompare_any x y w hx hy
theorem parse_len (l : List UInt8) : (parseOf l).1.length = 32 := by
  by_cases h : fine l
  · rw [parse_fine h]; exact pAcc_len l 32 (Nat.le_refl _)
  · rw [parse_bad h]; rfl

/-- what the drawn region of IdentTexts keeps -/
structure PSt (T : World → Prop) (w0 : World) (A B2 X Y Z : Nat) (a b x y : Id) (w : World) : Prop where
  tt : T w
  below : Below w0.heap.size w0 w
  ha : Blk w A 23 (bv a).toArray
  hb : Blk w B2 23 (bv b).toArray
  hX : Blk w X 23 (bv x).toArray
  hY : Blk w Y 23 (bv x).toArray
  hZ : Blk w Z 23 (bv y).toArray
  la0 : a.length = 32
  lb0 : b.length = 32
  lx0 : x.length = 32
  ly0 : y.length = 32
  nx : ∀ {w w' : World}, T w → Below w.heap.size w w' → T w'
section
variable {T : World → Prop} {w0 w w' : World} {A B2 X Y Z : Nat} {a b x y : Id}
theorem PSt.next (h : PSt T w0 A B2 X Y Z a b x y w) (hb : Below w.heap.size w w') : PSt T w0 A B2 X Y Z a b x y w' :=
  ⟨h.nx h.tt hb, h.below.trans (hb.mono h.below.size), h.ha.below hb h.ha.lt, h.hb.below hb h.hb.lt, h.hX.below hb h.hX.lt, h.hY.below hb h.hY.lt, h.hZ.below hb h.hZ.lt, h.la0, h.lb0, h.lx0, h.ly0, h.nx⟩
theorem PSt.drew (h : PSt T w0 A B2 X Y Z a b x y w) : PSt T w0 A B2 X Y Z a b x y w.drew := h.next (Below.refl _ _).drew
theorem PSt.la (h : PSt T w0 A B2 X Y Z a b x y w) : (Instr.loadAt 23 (.pointer (some ⟨A, 0, none⟩))).run Try.prog w = .ok (.agg (bv a).toArray) w := ids.box_load h.ha h.la0 0
theorem PSt.lb (h : PSt T w0 A B2 X Y Z a b x y w) : (Instr.loadAt 23 (.pointer (some ⟨B2, 0, none⟩))).run Try.prog w = .ok (.agg (bv b).toArray) w := ids.box_load h.hb h.lb0 0
theorem PSt.lx (h : PSt T w0 A B2 X Y Z a b x y w) : (Instr.loadAt 23 (.pointer (some ⟨X, 0, none⟩))).run Try.prog w = .ok (.agg (bv x).toArray) w := ids.box_load h.hX h.lx0 0
theorem PSt.ly (h : PSt T w0 A B2 X Y Z a b x y w) : (Instr.loadAt 23 (.pointer (some ⟨Y, 0, none⟩))).run Try.prog w = .ok (.agg (bv x).toArray) w := ids.box_load h.hY h.lx0 0
theorem PSt.lz (h : PSt T w0 A B2 X Y Z a b x y w) : (Instr.loadAt 23 (.pointer (some ⟨Z, 0, none⟩))).run Try.prog w = .ok (.agg (bv y).toArray) w := ids.box_load h.hZ h.ly0 0
end

set_option maxHeartbeats 4000000 in
set_option maxRecDepth 100000 in
theorem texts_walk {T : World → Prop} (hI : IdentA T) (a b : Id) (l : List UInt8) (w : World) (hT : T w) (ha : a.length = 32) (hb : b.length = 32) (hl : l.length ≤ 281474976710656) :
    Calls Try.prog 3 #[.agg (bv a).toArray, .agg (bv b).toArray, .string (bt l)] w fun e w' => e = .returned (.bool true) ∧ Below w.heap.size w w' := by
  obtain ⟨w1, hw1⟩ : ∃ u, u = (w.alloc (.cells (bv a).toArray 23)).alloc (.cells (bv b).toArray 23) := ⟨_, rfl⟩
  obtain ⟨A, hA⟩ : ∃ S, S = w.heap.size := ⟨_, rfl⟩
  have hXa : Blk w1 A 23 (bv a).toArray := by rw [hw1, hA]; exact (Blk.new w _ _).alloc _
  have hXb : Blk w1 (A + 1) 23 (bv b).toArray := by rw [hw1, hA]; exact Blk.at_ (by simp) _ _
  have hB : Below w.heap.size w w1 := by rw [hw1]; exact ((Below.refl _ _).alloc (Nat.le_refl _) _).alloc (by simp) _
  have HI := Lib.hid hI
  have HXa := Lib.hid hXa
  have HXb := Lib.hid hXb
  have HB := Lib.hid hB
  have HT := Lib.hid (hI.next hT hB)
  have HW := Lib.hid hw1
  have HAA := Lib.hid hA
  obtain ⟨x, hx⟩ : ∃ x, x = (parseOf l).1 := ⟨_, rfl⟩
  obtain ⟨n, hn⟩ : ∃ n, n = (parseOf l).2 := ⟨_, rfl⟩
  have hxl : x.length = 32 := by rw [hx]; exact parse_len l
  have HP := Lib.hid (hI.parse l w1 HT.out hl)
  have HP2 : Hid (∀ u : World, Calls Try.prog 7 #[.string (bt l)] u fun e w' => e = .returned (.tuple #[.agg (bv (parseOf l).1).toArray, .int .i64 (parseOf l).2]) ∧ Below u.heap.size u w') := Lib.hid fun u => rparse_any l u hl
  have HP3 : Hid (∀ u : World, T u → Calls Try.prog 6 #[.string (bt (textL a))] u fun e w' => e = .returned (.tuple #[.agg (bv a).toArray, .int .i64 0]) ∧ Below u.heap.size u w') := Lib.hid fun u h => by
    have := hI.parse (textL a) u h (by rw [textL_len, ha]; decide)
    rw [parse_text a ha] at this
    exact this
  have HTX : Hid (n = 0 → ∀ u : World, T u → Calls Try.prog 8 #[.agg (bv x).toArray] u fun e w' => e = .returned (.string (bt l)) ∧ Below u.heap.size u w') := Lib.hid fun h0 u h => by
    have := hI.text x u h hxl
    rw [hx, text_parse l (by rw [← hn]; exact h0)] at this
    rw [hx]
    exact this
  rw [← hx, ← hn] at HP HP2
  clear hI hXa hXb hB hw1 hA hT hx hn
  go_enter Try.func3, Try.ntmps3
  go_upto_region 1 with fail
  refine wp_at HW.out.symm ?_
  rw [← HAA.out]
  clear HW
  go_upto_region 2 with (first
    | (go_at_call 6; with_reducible refine HP.out.mono ?_; rintro e w2 ⟨rfl, hb2⟩)
    | ((with_reducible refine step_store_id (x := .tmp 7) (y := .tmp 16) (g := ?srt1) (z := ?szt1) (y' := ?syt1) ?sgt1 ?sot1 ?sat1 ?sbt1 ?sct1 ?sdt1 ?set1 ?sht1); (case sgt1 => rfl); (case sot1 => rfl); (case sat1 => rfl); (case sbt1 => rfl); (case sct1 => exact Blk.new w2 _ (bv zid).toArray); (case sdt1 => exact zid_len); (case set1 => exact hxl)))
  have hB2 := HB.out.trans (hb2.mono HB.out.size)
  refine wp_at (show _ = laidId w2 x from rfl) ?_
  obtain ⟨w3, hw3⟩ : ∃ u, u = laidId w2 x := ⟨_, rfl⟩
  obtain ⟨X, hXX⟩ : ∃ u, u = w2.heap.size := ⟨_, rfl⟩
  have hX3 : Blk w3 X 23 (bv x).toArray := by rw [hw3, hXX]; exact laidId_blk w2 x
  have hb3 : Below w2.heap.size w2 w3 := by rw [hw3]; exact laidId_below w2 x
  rw [← hw3, ← hXX]
  have hB3 := hB2.trans (hb3.mono hB2.size)
  have HX3 := Lib.hid hX3
  have HB3 := Lib.hid hB3
  have HXa3 := Lib.hid ((HXa.out.below hb2 HXa.out.lt).below hb3 (Nat.lt_of_lt_of_le HXa.out.lt hb2.size))
  have HXb3 := Lib.hid ((HXb.out.below hb2 HXb.out.lt).below hb3 (Nat.lt_of_lt_of_le HXb.out.lt hb2.size))
  have HT3 := Lib.hid (HI.out.next (HI.out.next HT.out hb2) hb3)
  clear hX3 hB3 hB2 hb2 hb3 hw3 hXX HXa HXb HB HT HP
  go_upto_region 3 with (first
    | (go_at_call 7; with_reducible refine (HP2.out _).mono ?_; rintro e w4 ⟨rfl, hb4⟩)
    | ((with_reducible refine step_store_id (x := .tmp 9) (y := .tmp 21) (g := ?srt2) (z := ?szt2) (y' := ?syt2) ?sgt2 ?sot2 ?sat2 ?sbt2 ?sct2 ?sdt2 ?set2 ?sht2); (case sgt2 => rfl); (case sot2 => rfl); (case sat2 => rfl); (case sbt2 => rfl); (case sct2 => exact Blk.new w4 _ (bv zid).toArray); (case sdt2 => exact zid_len); (case set2 => exact hxl)))
  refine wp_at (show _ = laidId w4 x from rfl) ?_
  obtain ⟨w5, hw5⟩ : ∃ u, u = laidId w4 x := ⟨_, rfl⟩
  obtain ⟨Y, hYY⟩ : ∃ u, u = w4.heap.size := ⟨_, rfl⟩
  have hY5 : Blk w5 Y 23 (bv x).toArray := by rw [hw5, hYY]; exact laidId_blk w4 x
  have hb5 : Below w4.heap.size w4 w5 := by rw [hw5]; exact laidId_below w4 x
  rw [← hw5, ← hYY]
  have hb45 : Below w3.heap.size w3 w5 := hb4.trans (hb5.mono hb4.size)
  have HY5 := Lib.hid hY5
  have HX5 := Lib.hid (HX3.out.below hb45 HX3.out.lt)
  have HXa5 := Lib.hid (HXa3.out.below hb45 HXa3.out.lt)
  have HXb5 := Lib.hid (HXb3.out.below hb45 HXb3.out.lt)
  have HB5 := Lib.hid (HB3.out.trans (hb45.mono HB3.out.size))
  have HT5 := Lib.hid (HI.out.next HT3.out hb45)
  have hla := box_load HXa5.out ha 0
  clear hY5 hb5 hb45 hb4 hw5 hYY HX3 HXa3 HXb3 HB3 HT3 HP2
  go_upto_region 4 with (first
    | ((with_reducible refine step_load (t := 23) (x := .tmp 3) (p := ?lpt4) (v := ?lvt4) ?lgt4 ?lot4 ?lxt4 ?lrt4 ?lht4); (case lgt4 => rfl); (case lot4 => rfl); (case lxt4 => rfl); (case lrt4 => exact hla))
    | (go_at_call 8; with_reducible refine (HI.out.text a _ HT5.out ha).mono ?_; rintro e w6 ⟨rfl, hb6⟩; have hT6 := HI.out.next HT5.out hb6)
    | (go_at_call 6; with_reducible refine (HP3.out _ hT6).mono ?_; rintro e w7 ⟨rfl, hb7⟩; have hb57 := hb6.trans (hb7.mono hb6.size))
    | ((with_reducible refine step_store_id (x := .tmp 11) (y := .tmp 27) (g := ?srt3) (z := ?szt3) (y' := ?syt3) ?sgt3 ?sot3 ?sat3 ?sbt3 ?sct3 ?sdt3 ?set3 ?sht3); (case sgt3 => rfl); (case sot3 => rfl); (case sat3 => rfl); (case sbt3 => rfl); (case sct3 => exact Blk.new w7 _ (bv zid).toArray); (case sdt3 => exact zid_len); (case set3 => exact ha)))
  refine wp_at (show _ = laidId w7 a from rfl) ?_
  obtain ⟨w8, hw8⟩ : ∃ u, u = laidId w7 a := ⟨_, rfl⟩
  obtain ⟨Z, hZZ⟩ : ∃ u, u = w7.heap.size := ⟨_, rfl⟩
  have hZ8 : Blk w8 Z 23 (bv a).toArray := by rw [hw8, hZZ]; exact laidId_blk w7 a
  have hb8 : Below w7.heap.size w7 w8 := by rw [hw8]; exact laidId_below w7 a
  rw [← hw8, ← hZZ]
  have hb58 := hb57.trans (hb8.mono hb57.size)
  have HST := Lib.hid (show PSt T w A (A + 1) X Y Z a b x a w8 from ⟨HI.out.next HT5.out hb58, HB5.out.trans (hb58.mono HB5.out.size), HXa5.out.below hb58 HXa5.out.lt, HXb5.out.below hb58 HXb5.out.lt, HX5.out.below hb58 HX5.out.lt, HY5.out.below hb58 HY5.out.lt, hZ8, ha, hb, hxl, ha, HI.out.next⟩)
  clear hZ8 hb8 hb58 hb57 hb7 hb6 hT6 hw8 hZZ HY5 HX5 HXa5 HXb5 HB5 HT5 HP3 hla
  have heqx := fun u : World => equalIn_ids u x x hxl hxl
  have heqa := fun u : World => equalIn_ids u a a ha ha
  rw [beq_self_eq_true] at heqx heqa
  by_cases h0 : n = 0
  · replace HTX := Lib.hid (HTX.out h0)
    subst h0
    refine wp_region_held_drew (S := PSt T w A (A + 1) X Y Z a b x a) (by kernel_rfl) ?_ (fun hHeld => ?_)
    · exact HST.out.drew
    refine' wpAnyH_take (i := 0) ?hiia0 (by kernel_rfl) (by kernel_rfl) (by kernel_rfl) ?hqia0 (Or.inl ⟨?hwia0, ?hyia0⟩) (by assumption) ?hria0
    case hiia0 => (simp only [List.getElem?_toArray, List.getElem?_cons_succ, List.getElem?_cons_zero]; rfl)
    case hqia0 => exact fun _ _ _ h => h
    case hwia0 => rfl
    case hyia0 => exact fun w0 hSw => run_exec_load rfl rfl (hSw.la)
    (try simp only [Act.put, List.setIfInBounds_toArray, List.set_cons_zero, List.set_cons_succ])
    refine' wpAnyH_take (i := 1) ?hiia1 (by kernel_rfl) (by kernel_rfl) (by kernel_rfl) ?hqia1 (Or.inl ⟨?hwia1, ?hyia1⟩) (by assumption) ?hria1
    case hiia1 => (simp only [List.getElem?_toArray, List.getElem?_cons_succ, List.getElem?_cons_zero]; rfl)
    case hqia1 => exact fun _ _ _ h => h
    case hwia1 => rfl
    case hyia1 => exact fun w0 hSw => run_exec_load rfl rfl (hSw.lb)
    (try simp only [Act.put, List.setIfInBounds_toArray, List.set_cons_zero, List.set_cons_succ])
    refine' wpAnyH_take (i := 3) ?hiia3 (by kernel_rfl) (by kernel_rfl) (by kernel_rfl) ?hqia3 (Or.inl ⟨?hwia3, ?hyia3⟩) (by assumption) ?hria3
    case hiia3 => (simp only [List.getElem?_toArray, List.getElem?_cons_succ, List.getElem?_cons_zero]; rfl)
    case hqia3 => exact fun _ _ _ h => h
    case hwia3 => rfl
    case hyia3 => exact fun w0 hSw => run_exec_load rfl rfl (hSw.la)
    (try simp only [Act.put, List.setIfInBounds_toArray, List.set_cons_zero, List.set_cons_succ])
    refine' wpAnyH_take (i := 4) ?hiia4 (by kernel_rfl) (by kernel_rfl) (by kernel_rfl) ?hqia4 (Or.inl ⟨?hwia4, ?hyia4⟩) (by assumption) ?hria4
    case hiia4 => (simp only [List.getElem?_toArray, List.getElem?_cons_succ, List.getElem?_cons_zero]; rfl)
    case hqia4 => exact fun _ _ _ h => h
    case hwia4 => rfl
    case hyia4 => exact fun w0 hSw => run_exec_load rfl rfl (hSw.lb)
    (try simp only [Act.put, List.setIfInBounds_toArray, List.set_cons_zero, List.set_cons_succ])
    refine wpAnyH_ready (rs := [2]) (by kernel_rfl) (by simp) ?_
    refine' AllReadyH.cons ?hiia2 (fun K hK => ?hria2) AllReadyH.nil
    case hiia2 => (simp only [List.getElem?_toArray, List.getElem?_cons_succ, List.getElem?_cons_zero]; rfl)
    go_simp
    refine (HI.out.compare a b _ hHeld.tt ha hb).mono ?_; rintro e wA1 ⟨rfl, hbwA1⟩
    refine hK.out _ _ ?_ (fun hHeld => ?_)
    · exact hHeld.next hbwA1
    clear hK K
    (try simp only [Act.put, List.setIfInBounds_toArray, List.set_cons_zero, List.set_cons_succ])
    refine wpAnyH_ready (rs := [5]) (by kernel_rfl) (by simp) ?_
    refine' AllReadyH.cons ?hiia5 (fun K hK => ?hria5) AllReadyH.nil
    case hiia5 => (simp only [List.getElem?_toArray, List.getElem?_cons_succ, List.getElem?_cons_zero]; rfl)
    go_simp
    refine (rcompare_v a b _ ha hb).mono ?_; rintro e wA2 ⟨rfl, hbwA2⟩
    refine hK.out _ _ ?_ (fun hHeld => ?_)
    · exact hHeld.next hbwA2
    clear hK K
    (try simp only [Act.put, List.setIfInBounds_toArray, List.set_cons_zero, List.set_cons_succ])
    refine' wpAnyH_take (i := 6) ?hiia6 (by kernel_rfl) (by kernel_rfl) (by kernel_rfl) ?hqia6 (Or.inl ⟨?hwia6, ?hyia6⟩) (by assumption) ?hria6
    case hiia6 => (simp only [List.getElem?_toArray, List.getElem?_cons_succ, List.getElem?_cons_zero]; rfl)
    case hqia6 => exact fun _ _ _ h => h
    case hwia6 => rfl
    case hyia6 => (intro w0 hSw; (try dsimp only at hSw); go_simp; try with_reducible rfl)
    (try simp only [Act.put, List.setIfInBounds_toArray, List.set_cons_zero, List.set_cons_succ])
    refine' wpAnyH_take (i := 7) ?hiia7 (by kernel_rfl) (by kernel_rfl) (by kernel_rfl) ?hqia7 (Or.inl ⟨?hwia7, ?hyia7⟩) (by assumption) ?hria7
    case hiia7 => (simp only [List.getElem?_toArray, List.getElem?_cons_succ, List.getElem?_cons_zero]; rfl)
    case hqia7 => exact fun _ _ _ h => h
    case hwia7 => rfl
    case hyia7 => (intro w0 hSw; (try dsimp only at hSw); go_simp; try with_reducible rfl)
    (try simp only [Act.put, List.setIfInBounds_toArray, List.set_cons_zero, List.set_cons_succ])
    refine' wpAnyH_take (i := 8) ?hiia8 (by kernel_rfl) (by kernel_rfl) (by kernel_rfl) ?hqia8 (Or.inl ⟨?hwia8, ?hyia8⟩) (by assumption) ?hria8
    case hiia8 => (simp only [List.getElem?_toArray, List.getElem?_cons_succ, List.getElem?_cons_zero]; rfl)
    case hqia8 => exact fun _ _ _ h => h
    case hwia8 => rfl
    case hyia8 => exact fun w0 hSw => run_exec_load rfl rfl (hSw.la)
    (try simp only [Act.put, List.setIfInBounds_toArray, List.set_cons_zero, List.set_cons_succ])
    refine' wpAnyH_take (i := 10) ?hiia10 (by kernel_rfl) (by kernel_rfl) (by kernel_rfl) ?hqia10 (Or.inl ⟨?hwia10, ?hyia10⟩) (by assumption) ?hria10
    case hiia10 => (simp only [List.getElem?_toArray, List.getElem?_cons_succ, List.getElem?_cons_zero]; rfl)
    case hqia10 => exact fun _ _ _ h => h
    case hwia10 => rfl
    case hyia10 => exact fun w0 hSw => run_exec_load rfl rfl (hSw.la)
    (try simp only [Act.put, List.setIfInBounds_toArray, List.set_cons_zero, List.set_cons_succ])
    refine wpAnyH_ready (rs := [9]) (by kernel_rfl) (by simp) ?_
    refine' AllReadyH.cons ?hiia9 (fun K hK => ?hria9) AllReadyH.nil
    case hiia9 => (simp only [List.getElem?_toArray, List.getElem?_cons_succ, List.getElem?_cons_zero]; rfl)
    go_simp
    refine (HI.out.text a _ hHeld.tt ha).mono ?_; rintro e wA3 ⟨rfl, hbwA3⟩
    refine hK.out _ _ ?_ (fun hHeld => ?_)
    · exact hHeld.next hbwA3
    clear hK K
    (try simp only [Act.put, List.setIfInBounds_toArray, List.set_cons_zero, List.set_cons_succ])
    refine wpAnyH_ready (rs := [11]) (by kernel_rfl) (by simp) ?_
    refine' AllReadyH.cons ?hiia11 (fun K hK => ?hria11) AllReadyH.nil
    case hiia11 => (simp only [List.getElem?_toArray, List.getElem?_cons_succ, List.getElem?_cons_zero]; rfl)
    go_simp
    refine (rtext_any a _ ha).mono ?_; rintro e wA4 ⟨rfl, hbwA4⟩
    refine hK.out _ _ ?_ (fun hHeld => ?_)
    · exact hHeld.next hbwA4
    clear hK K
    (try simp only [Act.put, List.setIfInBounds_toArray, List.set_cons_zero, List.set_cons_succ])
    refine' wpAnyH_take (i := 12) ?hiia12 (by kernel_rfl) (by kernel_rfl) (by kernel_rfl) ?hqia12 (Or.inl ⟨?hwia12, ?hyia12⟩) (by assumption) ?hria12
    case hiia12 => (simp only [List.getElem?_toArray, List.getElem?_cons_succ, List.getElem?_cons_zero]; rfl)
    case hqia12 => exact fun _ _ _ h => h
    case hwia12 => rfl
    case hyia12 => (intro w0 hSw; (try dsimp only at hSw); go_simp; try with_reducible rfl)
    (try simp only [Act.put, List.setIfInBounds_toArray, List.set_cons_zero, List.set_cons_succ])
    refine' wpAnyH_take (i := 13) ?hiia13 (by kernel_rfl) (by kernel_rfl) (by kernel_rfl) ?hqia13 (Or.inl ⟨?hwia13, ?hyia13⟩) (by assumption) ?hria13
    case hiia13 => (simp only [List.getElem?_toArray, List.getElem?_cons_succ, List.getElem?_cons_zero]; rfl)
    case hqia13 => exact fun _ _ _ h => h
    case hwia13 => rfl
    case hyia13 => (intro w0 hSw; (try dsimp only at hSw); go_simp; try with_reducible rfl)
    (try simp only [Act.put, List.setIfInBounds_toArray, List.set_cons_zero, List.set_cons_succ])
    refine' wpAnyH_take (i := 14) ?hiia14 (by kernel_rfl) (by kernel_rfl) (by kernel_rfl) ?hqia14 (Or.inl ⟨?hwia14, ?hyia14⟩) (by assumption) ?hria14
    case hiia14 => (simp only [List.getElem?_toArray, List.getElem?_cons_succ, List.getElem?_cons_zero]; rfl)
    case hqia14 => exact fun _ _ _ h => h
    case hwia14 => rfl
    case hyia14 => (intro w0 hSw; (try dsimp only at hSw); go_simp; try with_reducible rfl)
    (try simp only [Act.put, List.setIfInBounds_toArray, List.set_cons_zero, List.set_cons_succ])
    refine' wpAnyH_take (i := 15) ?hiia15 (by kernel_rfl) (by kernel_rfl) (by kernel_rfl) ?hqia15 (Or.inl ⟨?hwia15, ?hyia15⟩) (by assumption) ?hria15
    case hiia15 => (simp only [List.getElem?_toArray, List.getElem?_cons_succ, List.getElem?_cons_zero]; rfl)
    case hqia15 => exact fun _ _ _ h => h
    case hwia15 => rfl
    case hyia15 => exact fun w0 hSw => run_exec_load rfl rfl (hSw.lx)
    (try simp only [Act.put, List.setIfInBounds_toArray, List.set_cons_zero, List.set_cons_succ])
    refine' wpAnyH_take (i := 16) ?hiia16 (by kernel_rfl) (by kernel_rfl) (by kernel_rfl) ?hqia16 (Or.inl ⟨?hwia16, ?hyia16⟩) (by assumption) ?hria16
    case hiia16 => (simp only [List.getElem?_toArray, List.getElem?_cons_succ, List.getElem?_cons_zero]; rfl)
    case hqia16 => exact fun _ _ _ h => h
    case hwia16 => rfl
    case hyia16 => exact fun w0 hSw => run_exec_load rfl rfl (hSw.ly)
    (try simp only [Act.put, List.setIfInBounds_toArray, List.set_cons_zero, List.set_cons_succ])
    refine' wpAnyH_take (i := 17) ?hiia17 (by kernel_rfl) (by kernel_rfl) (by kernel_rfl) ?hqia17 (Or.inl ⟨?hwia17, ?hyia17⟩) (by assumption) ?hria17
    case hiia17 => (simp only [List.getElem?_toArray, List.getElem?_cons_succ, List.getElem?_cons_zero]; rfl)
    case hqia17 => exact fun _ _ _ h => h
    case hwia17 => rfl
    case hyia17 => (intro w0 hSw; (try dsimp only at hSw); go_simp; try with_reducible rfl)
    (try simp only [Act.put, List.setIfInBounds_toArray, List.set_cons_zero, List.set_cons_succ])
    refine' wpAnyH_take (i := 18) ?hiia18 (by kernel_rfl) (by kernel_rfl) (by kernel_rfl) ?hqia18 (Or.inl ⟨?hwia18, ?hyia18⟩) (by assumption) ?hria18
    case hiia18 => (simp only [List.getElem?_toArray, List.getElem?_cons_succ, List.getElem?_cons_zero]; rfl)
    case hqia18 => exact fun _ _ _ h => h
    case hwia18 => rfl
    case hyia18 => (intro w0 hSw; (try dsimp only at hSw); go_simp; try with_reducible rfl)
    (try simp only [Act.put, List.setIfInBounds_toArray, List.set_cons_zero, List.set_cons_succ])
    refine' wpAnyH_take (i := 19) ?hiia19 (by kernel_rfl) (by kernel_rfl) (by kernel_rfl) ?hqia19 (Or.inl ⟨?hwia19, ?hyia19⟩) (by assumption) ?hria19
    case hiia19 => (simp only [List.getElem?_toArray, List.getElem?_cons_succ, List.getElem?_cons_zero]; rfl)
    case hqia19 => exact fun _ _ _ h => h
    case hwia19 => rfl
    case hyia19 => (intro w0 hSw; (try dsimp only at hSw); go_simp; try with_reducible rfl)
    (try simp only [Act.put, List.setIfInBounds_toArray, List.set_cons_zero, List.set_cons_succ])
    refine' wpAnyH_take (i := 20) ?hiia20 (by kernel_rfl) (by kernel_rfl) (by kernel_rfl) ?hqia20 (Or.inl ⟨?hwia20, ?hyia20⟩) (by assumption) ?hria20
    case hiia20 => (simp only [List.getElem?_toArray, List.getElem?_cons_succ, List.getElem?_cons_zero]; rfl)
    case hqia20 => exact fun _ _ _ h => h
    case hwia20 => rfl
    case hyia20 => (intro w0 hSw; (try dsimp only at hSw); go_simp; try with_reducible rfl)
    (try simp only [Act.put, List.setIfInBounds_toArray, List.set_cons_zero, List.set_cons_succ])
    refine' wpAnyH_take (i := 21) ?hiia21 (by kernel_rfl) (by kernel_rfl) (by kernel_rfl) ?hqia21 (Or.inl ⟨?hwia21, ?hyia21⟩) (by assumption) ?hria21
    case hiia21 => (simp only [List.getElem?_toArray, List.getElem?_cons_succ, List.getElem?_cons_zero]; rfl)
    case hqia21 => exact fun _ _ _ h => h
    case hwia21 => rfl
    case hyia21 => (intro w0 hSw; (try dsimp only at hSw); go_simp; try with_reducible rfl)
    (try simp only [Act.put, List.setIfInBounds_toArray, List.set_cons_zero, List.set_cons_succ])
    refine' wpAnyH_take (i := 22) ?hiia22 (by kernel_rfl) (by kernel_rfl) (by kernel_rfl) ?hqia22 (Or.inl ⟨?hwia22, ?hyia22⟩) (by assumption) ?hria22
    case hiia22 => (simp only [List.getElem?_toArray, List.getElem?_cons_succ, List.getElem?_cons_zero]; rfl)
    case hqia22 => exact fun _ _ _ h => h
    case hwia22 => rfl
    case hyia22 => (intro w0 hSw; (try dsimp only at hSw); go_simp; try with_reducible rfl)
    (try simp only [Act.put, List.setIfInBounds_toArray, List.set_cons_zero, List.set_cons_succ])
    refine' wpAnyH_take (i := 23) ?hiia23 (by kernel_rfl) (by kernel_rfl) (by kernel_rfl) ?hqia23 (Or.inl ⟨?hwia23, ?hyia23⟩) (by assumption) ?hria23
    case hiia23 => (simp only [List.getElem?_toArray, List.getElem?_cons_succ, List.getElem?_cons_zero]; rfl)
    case hqia23 => exact fun _ _ _ h => h
    case hwia23 => rfl
    case hyia23 => (intro w0 hSw; (try dsimp only at hSw); go_simp; try with_reducible rfl)
    (try simp only [Act.put, List.setIfInBounds_toArray, List.set_cons_zero, List.set_cons_succ])
    refine' wpAnyH_take (i := 24) ?hiia24 (by kernel_rfl) (by kernel_rfl) (by kernel_rfl) ?hqia24 (Or.inl ⟨?hwia24, ?hyia24⟩) (by assumption) ?hria24
    case hiia24 => (simp only [List.getElem?_toArray, List.getElem?_cons_succ, List.getElem?_cons_zero]; rfl)
    case hqia24 => exact fun _ _ _ h => h
    case hwia24 => rfl
    case hyia24 => (intro w0 hSw; (try dsimp only at hSw); go_simp; try with_reducible rfl)
    (try simp only [Act.put, List.setIfInBounds_toArray, List.set_cons_zero, List.set_cons_succ])
    refine' wpAnyH_take (i := 25) ?hiia25 (by kernel_rfl) (by kernel_rfl) (by kernel_rfl) ?hqia25 (Or.inl ⟨?hwia25, ?hyia25⟩) (by assumption) ?hria25
    case hiia25 => (simp only [List.getElem?_toArray, List.getElem?_cons_succ, List.getElem?_cons_zero]; rfl)
    case hqia25 => exact fun _ _ _ h => h
    case hwia25 => rfl
    case hyia25 => exact fun w0 hSw => run_exec_load rfl rfl (hSw.lz)
    (try simp only [Act.put, List.setIfInBounds_toArray, List.set_cons_zero, List.set_cons_succ])
    refine' wpAnyH_take (i := 26) ?hiia26 (by kernel_rfl) (by kernel_rfl) (by kernel_rfl) ?hqia26 (Or.inl ⟨?hwia26, ?hyia26⟩) (by assumption) ?hria26
    case hiia26 => (simp only [List.getElem?_toArray, List.getElem?_cons_succ, List.getElem?_cons_zero]; rfl)
    case hqia26 => exact fun _ _ _ h => h
    case hwia26 => rfl
    case hyia26 => exact fun w0 hSw => run_exec_load rfl rfl (hSw.la)
    (try simp only [Act.put, List.setIfInBounds_toArray, List.set_cons_zero, List.set_cons_succ])
    refine' wpAnyH_take (i := 27) ?hiia27 (by kernel_rfl) (by kernel_rfl) (by kernel_rfl) ?hqia27 (Or.inl ⟨?hwia27, ?hyia27⟩) (by assumption) ?hria27
    case hiia27 => (simp only [List.getElem?_toArray, List.getElem?_cons_succ, List.getElem?_cons_zero]; rfl)
    case hqia27 => exact fun _ _ _ h => h
    case hwia27 => rfl
    case hyia27 => (intro w0 hSw; (try dsimp only at hSw); go_simp; try with_reducible rfl)
    (try simp only [Act.put, List.setIfInBounds_toArray, List.set_cons_zero, List.set_cons_succ])
    refine' wpAnyH_take (i := 28) ?hiia28 (by kernel_rfl) (by kernel_rfl) (by kernel_rfl) ?hqia28 (Or.inl ⟨?hwia28, ?hyia28⟩) (by assumption) ?hria28
    case hiia28 => (simp only [List.getElem?_toArray, List.getElem?_cons_succ, List.getElem?_cons_zero]; rfl)
    case hqia28 => exact fun _ _ _ h => h
    case hwia28 => rfl
    case hyia28 => (intro w0 hSw; (try dsimp only at hSw); go_simp; try with_reducible rfl)
    (try simp only [Act.put, List.setIfInBounds_toArray, List.set_cons_zero, List.set_cons_succ])
    refine' wpAnyH_take (i := 29) ?hiia29 (by kernel_rfl) (by kernel_rfl) (by kernel_rfl) ?hqia29 (Or.inl ⟨?hwia29, ?hyia29⟩) (by assumption) ?hria29
    case hiia29 => (simp only [List.getElem?_toArray, List.getElem?_cons_succ, List.getElem?_cons_zero]; rfl)
    case hqia29 => exact fun _ _ _ h => h
    case hwia29 => rfl
    case hyia29 => (intro w0 hSw; (try dsimp only at hSw); go_simp; try with_reducible rfl)
    (try simp only [Act.put, List.setIfInBounds_toArray, List.set_cons_zero, List.set_cons_succ])
    refine' wpAnyH_take (i := 30) ?hiia30 (by kernel_rfl) (by kernel_rfl) (by kernel_rfl) ?hqia30 (Or.inl ⟨?hwia30, ?hyia30⟩) (by assumption) ?hria30
    case hiia30 => (simp only [List.getElem?_toArray, List.getElem?_cons_succ, List.getElem?_cons_zero]; rfl)
    case hqia30 => exact fun _ _ _ h => h
    case hwia30 => rfl
    case hyia30 => (intro w0 hSw; (try dsimp only at hSw); go_simp; try with_reducible rfl)
    (try simp only [Act.put, List.setIfInBounds_toArray, List.set_cons_zero, List.set_cons_succ])
    refine' wpAnyH_take (i := 31) ?hiia31 (by kernel_rfl) (by kernel_rfl) (by kernel_rfl) ?hqia31 (Or.inl ⟨?hwia31, ?hyia31⟩) (by assumption) ?hria31
    case hiia31 => (simp only [List.getElem?_toArray, List.getElem?_cons_succ, List.getElem?_cons_zero]; rfl)
    case hqia31 => exact fun _ _ _ h => h
    case hwia31 => rfl
    case hyia31 => (intro w0 hSw; (try dsimp only at hSw); go_simp; try with_reducible rfl)
    (try simp only [Act.put, List.setIfInBounds_toArray, List.set_cons_zero, List.set_cons_succ])
    refine' wpAnyH_take (i := 32) ?hiia32 (by kernel_rfl) (by kernel_rfl) (by kernel_rfl) ?hqia32 (Or.inl ⟨?hwia32, ?hyia32⟩) (by assumption) ?hria32
    case hiia32 => (simp only [List.getElem?_toArray, List.getElem?_cons_succ, List.getElem?_cons_zero]; rfl)
    case hqia32 => exact fun _ _ _ h => h
    case hwia32 => rfl
    case hyia32 => (intro w0 hSw; (try dsimp only at hSw); go_simp; try with_reducible rfl)
    (try simp only [Act.put, List.setIfInBounds_toArray, List.set_cons_zero, List.set_cons_succ])
    refine' wpAnyH_take (i := 33) ?hiia33 (by kernel_rfl) (by kernel_rfl) (by kernel_rfl) ?hqia33 (Or.inl ⟨?hwia33, ?hyia33⟩) (by assumption) ?hria33
    case hiia33 => (simp only [List.getElem?_toArray, List.getElem?_cons_succ, List.getElem?_cons_zero]; rfl)
    case hqia33 => exact fun _ _ _ h => h
    case hwia33 => rfl
    case hyia33 => (intro w0 hSw; (try dsimp only at hSw); go_simp; try with_reducible rfl)
    (try simp only [Act.put, List.setIfInBounds_toArray, List.set_cons_zero, List.set_cons_succ])
    refine' wpAnyH_take (i := 34) ?hiia34 (by kernel_rfl) (by kernel_rfl) (by kernel_rfl) ?hqia34 (Or.inl ⟨?hwia34, ?hyia34⟩) (by assumption) ?hria34
    case hiia34 => (simp only [List.getElem?_toArray, List.getElem?_cons_succ, List.getElem?_cons_zero]; rfl)
    case hqia34 => exact fun _ _ _ h => h
    case hwia34 => rfl
    case hyia34 => (intro w0 hSw; (try dsimp only at hSw); go_simp; try with_reducible rfl)
    (try simp only [Act.put, List.setIfInBounds_toArray, List.set_cons_zero, List.set_cons_succ])
    refine' wpAnyH_take (i := 35) ?hiia35 (by kernel_rfl) (by kernel_rfl) (by kernel_rfl) ?hqia35 (Or.inl ⟨?hwia35, ?hyia35⟩) (by assumption) ?hria35
    case hiia35 => (simp only [List.getElem?_toArray, List.getElem?_cons_succ, List.getElem?_cons_zero]; rfl)
    case hqia35 => exact fun _ _ _ h => h
    case hwia35 => rfl
    case hyia35 => (intro w0 hSw; (try dsimp only at hSw); go_simp; try with_reducible rfl)
    (try simp only [Act.put, List.setIfInBounds_toArray, List.set_cons_zero, List.set_cons_succ])
    refine' wpAnyH_take (i := 36) ?hiia36 (by kernel_rfl) (by kernel_rfl) (by kernel_rfl) ?hqia36 (Or.inl ⟨?hwia36, ?hyia36⟩) (by assumption) ?hria36
    case hiia36 => (simp only [List.getElem?_toArray, List.getElem?_cons_succ, List.getElem?_cons_zero]; rfl)
    case hqia36 => exact fun _ _ _ h => h
    case hwia36 => rfl
    case hyia36 => (intro w0 hSw; (try dsimp only at hSw); go_simp; try with_reducible rfl)
    (try simp only [Act.put, List.setIfInBounds_toArray, List.set_cons_zero, List.set_cons_succ])
    refine' wpAnyH_take (i := 37) ?hiia37 (by kernel_rfl) (by kernel_rfl) (by kernel_rfl) ?hqia37 (Or.inl ⟨?hwia37, ?hyia37⟩) (by assumption) ?hria37
    case hiia37 => (simp only [List.getElem?_toArray, List.getElem?_cons_succ, List.getElem?_cons_zero]; rfl)
    case hqia37 => exact fun _ _ _ h => h
    case hwia37 => rfl
    case hyia37 => exact fun w0 hSw => run_exec_load rfl rfl (hSw.lx)
    (try simp only [Act.put, List.setIfInBounds_toArray, List.set_cons_zero, List.set_cons_succ])
    refine' wpAnyH_take (i := 39) ?hiia39 (by kernel_rfl) (by kernel_rfl) (by kernel_rfl) ?hqia39 (Or.inl ⟨?hwia39, ?hyia39⟩) (by assumption) ?hria39
    case hiia39 => (simp only [List.getElem?_toArray, List.getElem?_cons_succ, List.getElem?_cons_zero]; rfl)
    case hqia39 => exact fun _ _ _ h => h
    case hwia39 => rfl
    case hyia39 => (intro w0 hSw; (try dsimp only at hSw); go_simp; try with_reducible rfl)
    (try simp only [Act.put, List.setIfInBounds_toArray, List.set_cons_zero, List.set_cons_succ])
    refine wpAnyH_ready (rs := [38]) (by kernel_rfl) (by simp) ?_
    refine' AllReadyH.cons ?hiia38 (fun K hK => ?hria38) AllReadyH.nil
    case hiia38 => (simp only [List.getElem?_toArray, List.getElem?_cons_succ, List.getElem?_cons_zero]; rfl)
    go_simp
    refine (HTX.out _ hHeld.tt).mono ?_; rintro e wA5 ⟨rfl, hbwA5⟩
    refine hK.out _ _ ?_ (fun hHeld => ?_)
    · exact hHeld.next hbwA5
    clear hK K
    (try simp only [Act.put, List.setIfInBounds_toArray, List.set_cons_zero, List.set_cons_succ])
    refine' wpAnyH_take (i := 40) ?hiia40 (by kernel_rfl) (by kernel_rfl) (by kernel_rfl) ?hqia40 (Or.inl ⟨?hwia40, ?hyia40⟩) (by assumption) ?hria40
    case hiia40 => (simp only [List.getElem?_toArray, List.getElem?_cons_succ, List.getElem?_cons_zero]; rfl)
    case hqia40 => exact fun _ _ _ h => h
    case hwia40 => rfl
    case hyia40 => (intro w0 hSw; (try dsimp only at hSw); go_simp; try with_reducible rfl)
    (try simp only [Act.put, List.setIfInBounds_toArray, List.set_cons_zero, List.set_cons_succ])
    refine' wpAnyH_take (i := 41) ?hiia41 (by kernel_rfl) (by kernel_rfl) (by kernel_rfl) ?hqia41 (Or.inl ⟨?hwia41, ?hyia41⟩) (by assumption) ?hria41
    case hiia41 => (simp only [List.getElem?_toArray, List.getElem?_cons_succ, List.getElem?_cons_zero]; rfl)
    case hqia41 => exact fun _ _ _ h => h
    case hwia41 => rfl
    case hyia41 => (intro w0 hSw; (try dsimp only at hSw); go_simp; try with_reducible rfl)
    (try simp only [Act.put, List.setIfInBounds_toArray, List.set_cons_zero, List.set_cons_succ])
    refine' wpAnyH_take (i := 42) ?hiia42 (by kernel_rfl) (by kernel_rfl) (by kernel_rfl) ?hqia42 (Or.inl ⟨?hwia42, ?hyia42⟩) (by assumption) ?hria42
    case hiia42 => (simp only [List.getElem?_toArray, List.getElem?_cons_succ, List.getElem?_cons_zero]; rfl)
    case hqia42 => exact fun _ _ _ h => h
    case hwia42 => rfl
    case hyia42 => (intro w0 hSw; (try dsimp only at hSw); go_simp; try with_reducible rfl)
    (try simp only [Act.put, List.setIfInBounds_toArray, List.set_cons_zero, List.set_cons_succ])
    refine' wpAnyH_take (i := 43) ?hiia43 (by kernel_rfl) (by kernel_rfl) (by kernel_rfl) ?hqia43 (Or.inl ⟨?hwia43, ?hyia43⟩) (by assumption) ?hria43
    case hiia43 => (simp only [List.getElem?_toArray, List.getElem?_cons_succ, List.getElem?_cons_zero]; rfl)
    case hqia43 => exact fun _ _ _ h => h
    case hwia43 => rfl
    case hyia43 => (intro w0 hSw; (try dsimp only at hSw); go_simp; try with_reducible rfl)
    (try simp only [Act.put, List.setIfInBounds_toArray, List.set_cons_zero, List.set_cons_succ])
    refine wpAnyH_ready (rs := [44]) (by kernel_rfl) (by simp) ?_
    refine' AllReadyH.cons ?hiia44 (fun K hK => ?hria44) AllReadyH.nil
    case hiia44 => (simp only [List.getElem?_toArray, List.getElem?_cons_succ, List.getElem?_cons_zero]; rfl)
    go_simp
    refine (awake_any HI.out _ hHeld.tt).mono ?_; rintro e wA6 ⟨rfl, hbwA6⟩
    refine hK.out _ _ ?_ (fun hHeld => ?_)
    · exact hHeld.next hbwA6
    clear hK K
    (try simp only [Act.put, List.setIfInBounds_toArray, List.set_cons_zero, List.set_cons_succ])
    refine' wpAnyH_take (i := 45) ?hiia45 (by kernel_rfl) (by kernel_rfl) (by kernel_rfl) ?hqia45 (Or.inl ⟨?hwia45, ?hyia45⟩) (by assumption) ?hria45
    case hiia45 => (simp only [List.getElem?_toArray, List.getElem?_cons_succ, List.getElem?_cons_zero]; rfl)
    case hqia45 => exact fun _ _ _ h => h
    case hwia45 => rfl
    case hyia45 => (intro w0 hSw; (try dsimp only at hSw); go_simp; try with_reducible rfl)
    (try simp only [Act.put, List.setIfInBounds_toArray, List.set_cons_zero, List.set_cons_succ])
    refine' wpAnyH_take (i := 46) ?hiia46 (by kernel_rfl) (by kernel_rfl) (by kernel_rfl) ?hqia46 (Or.inl ⟨?hwia46, ?hyia46⟩) (by assumption) ?hria46
    case hiia46 => (simp only [List.getElem?_toArray, List.getElem?_cons_succ, List.getElem?_cons_zero]; rfl)
    case hqia46 => exact fun _ _ _ h => h
    case hwia46 => rfl
    case hyia46 => (intro w0 hSw; (try dsimp only at hSw); go_simp; try with_reducible rfl)
    (try simp only [Act.put, List.setIfInBounds_toArray, List.set_cons_zero, List.set_cons_succ])
    refine wpAnyH_done (by kernel_rfl) ?_ _
    go_wp2_with fail
    go_ret
    exact ⟨rfl, hHeld.below⟩
  · have hn0 : (n == 0) = false := beq_eq_false_iff_ne.2 h0
    have hn1 : (n != 0) = true := bne_iff_ne.2 h0
    clear HTX
    refine wp_region_held_drew (S := PSt T w A (A + 1) X Y Z a b x a) (by kernel_rfl) ?_ (fun hHeld => ?_)
    · exact HST.out.drew
    refine' wpAnyH_take (i := 0) ?hiib0 (by kernel_rfl) (by kernel_rfl) (by kernel_rfl) ?hqib0 (Or.inl ⟨?hwib0, ?hyib0⟩) (by assumption) ?hrib0
    case hiib0 => (simp only [List.getElem?_toArray, List.getElem?_cons_succ, List.getElem?_cons_zero]; rfl)
    case hqib0 => exact fun _ _ _ h => h
    case hwib0 => rfl
    case hyib0 => exact fun w0 hSw => run_exec_load rfl rfl (hSw.la)
    (try simp only [Act.put, List.setIfInBounds_toArray, List.set_cons_zero, List.set_cons_succ])
    refine' wpAnyH_take (i := 1) ?hiib1 (by kernel_rfl) (by kernel_rfl) (by kernel_rfl) ?hqib1 (Or.inl ⟨?hwib1, ?hyib1⟩) (by assumption) ?hrib1
    case hiib1 => (simp only [List.getElem?_toArray, List.getElem?_cons_succ, List.getElem?_cons_zero]; rfl)
    case hqib1 => exact fun _ _ _ h => h
    case hwib1 => rfl
    case hyib1 => exact fun w0 hSw => run_exec_load rfl rfl (hSw.lb)
    (try simp only [Act.put, List.setIfInBounds_toArray, List.set_cons_zero, List.set_cons_succ])
    refine' wpAnyH_take (i := 3) ?hiib3 (by kernel_rfl) (by kernel_rfl) (by kernel_rfl) ?hqib3 (Or.inl ⟨?hwib3, ?hyib3⟩) (by assumption) ?hrib3
    case hiib3 => (simp only [List.getElem?_toArray, List.getElem?_cons_succ, List.getElem?_cons_zero]; rfl)
    case hqib3 => exact fun _ _ _ h => h
    case hwib3 => rfl
    case hyib3 => exact fun w0 hSw => run_exec_load rfl rfl (hSw.la)
    (try simp only [Act.put, List.setIfInBounds_toArray, List.set_cons_zero, List.set_cons_succ])
    refine' wpAnyH_take (i := 4) ?hiib4 (by kernel_rfl) (by kernel_rfl) (by kernel_rfl) ?hqib4 (Or.inl ⟨?hwib4, ?hyib4⟩) (by assumption) ?hrib4
    case hiib4 => (simp only [List.getElem?_toArray, List.getElem?_cons_succ, List.getElem?_cons_zero]; rfl)
    case hqib4 => exact fun _ _ _ h => h
    case hwib4 => rfl
    case hyib4 => exact fun w0 hSw => run_exec_load rfl rfl (hSw.lb)
    (try simp only [Act.put, List.setIfInBounds_toArray, List.set_cons_zero, List.set_cons_succ])
    refine wpAnyH_ready (rs := [2]) (by kernel_rfl) (by simp) ?_
    refine' AllReadyH.cons ?hiib2 (fun K hK => ?hrib2) AllReadyH.nil
    case hiib2 => (simp only [List.getElem?_toArray, List.getElem?_cons_succ, List.getElem?_cons_zero]; rfl)
    go_simp
    refine (HI.out.compare a b _ hHeld.tt ha hb).mono ?_; rintro e wA1 ⟨rfl, hbwA1⟩
    refine hK.out _ _ ?_ (fun hHeld => ?_)
    · exact hHeld.next hbwA1
    clear hK K
    (try simp only [Act.put, List.setIfInBounds_toArray, List.set_cons_zero, List.set_cons_succ])
    refine wpAnyH_ready (rs := [5]) (by kernel_rfl) (by simp) ?_
    refine' AllReadyH.cons ?hiib5 (fun K hK => ?hrib5) AllReadyH.nil
    case hiib5 => (simp only [List.getElem?_toArray, List.getElem?_cons_succ, List.getElem?_cons_zero]; rfl)
    go_simp
    refine (rcompare_v a b _ ha hb).mono ?_; rintro e wA2 ⟨rfl, hbwA2⟩
    refine hK.out _ _ ?_ (fun hHeld => ?_)
    · exact hHeld.next hbwA2
    clear hK K
    (try simp only [Act.put, List.setIfInBounds_toArray, List.set_cons_zero, List.set_cons_succ])
    refine' wpAnyH_take (i := 6) ?hiib6 (by kernel_rfl) (by kernel_rfl) (by kernel_rfl) ?hqib6 (Or.inl ⟨?hwib6, ?hyib6⟩) (by assumption) ?hrib6
    case hiib6 => (simp only [List.getElem?_toArray, List.getElem?_cons_succ, List.getElem?_cons_zero]; rfl)
    case hqib6 => exact fun _ _ _ h => h
    case hwib6 => rfl
    case hyib6 => (intro w0 hSw; (try dsimp only at hSw); go_simp; try with_reducible rfl)
    (try simp only [Act.put, List.setIfInBounds_toArray, List.set_cons_zero, List.set_cons_succ])
    refine' wpAnyH_take (i := 7) ?hiib7 (by kernel_rfl) (by kernel_rfl) (by kernel_rfl) ?hqib7 (Or.inl ⟨?hwib7, ?hyib7⟩) (by assumption) ?hrib7
    case hiib7 => (simp only [List.getElem?_toArray, List.getElem?_cons_succ, List.getElem?_cons_zero]; rfl)
    case hqib7 => exact fun _ _ _ h => h
    case hwib7 => rfl
    case hyib7 => (intro w0 hSw; (try dsimp only at hSw); go_simp; try with_reducible rfl)
    (try simp only [Act.put, List.setIfInBounds_toArray, List.set_cons_zero, List.set_cons_succ])
    refine' wpAnyH_take (i := 8) ?hiib8 (by kernel_rfl) (by kernel_rfl) (by kernel_rfl) ?hqib8 (Or.inl ⟨?hwib8, ?hyib8⟩) (by assumption) ?hrib8
    case hiib8 => (simp only [List.getElem?_toArray, List.getElem?_cons_succ, List.getElem?_cons_zero]; rfl)
    case hqib8 => exact fun _ _ _ h => h
    case hwib8 => rfl
    case hyib8 => exact fun w0 hSw => run_exec_load rfl rfl (hSw.la)
    (try simp only [Act.put, List.setIfInBounds_toArray, List.set_cons_zero, List.set_cons_succ])
    refine' wpAnyH_take (i := 10) ?hiib10 (by kernel_rfl) (by kernel_rfl) (by kernel_rfl) ?hqib10 (Or.inl ⟨?hwib10, ?hyib10⟩) (by assumption) ?hrib10
    case hiib10 => (simp only [List.getElem?_toArray, List.getElem?_cons_succ, List.getElem?_cons_zero]; rfl)
    case hqib10 => exact fun _ _ _ h => h
    case hwib10 => rfl
    case hyib10 => exact fun w0 hSw => run_exec_load rfl rfl (hSw.la)
    (try simp only [Act.put, List.setIfInBounds_toArray, List.set_cons_zero, List.set_cons_succ])
    refine wpAnyH_ready (rs := [9]) (by kernel_rfl) (by simp) ?_
    refine' AllReadyH.cons ?hiib9 (fun K hK => ?hrib9) AllReadyH.nil
    case hiib9 => (simp only [List.getElem?_toArray, List.getElem?_cons_succ, List.getElem?_cons_zero]; rfl)
    go_simp
    refine (HI.out.text a _ hHeld.tt ha).mono ?_; rintro e wA3 ⟨rfl, hbwA3⟩
    refine hK.out _ _ ?_ (fun hHeld => ?_)
    · exact hHeld.next hbwA3
    clear hK K
    (try simp only [Act.put, List.setIfInBounds_toArray, List.set_cons_zero, List.set_cons_succ])
    refine wpAnyH_ready (rs := [11]) (by kernel_rfl) (by simp) ?_
    refine' AllReadyH.cons ?hiib11 (fun K hK => ?hrib11) AllReadyH.nil
    case hiib11 => (simp only [List.getElem?_toArray, List.getElem?_cons_succ, List.getElem?_cons_zero]; rfl)
    go_simp
    refine (rtext_any a _ ha).mono ?_; rintro e wA4 ⟨rfl, hbwA4⟩
    refine hK.out _ _ ?_ (fun hHeld => ?_)
    · exact hHeld.next hbwA4
    clear hK K
    (try simp only [Act.put, List.setIfInBounds_toArray, List.set_cons_zero, List.set_cons_succ])
    refine' wpAnyH_take (i := 12) ?hiib12 (by kernel_rfl) (by kernel_rfl) (by kernel_rfl) ?hqib12 (Or.inl ⟨?hwib12, ?hyib12⟩) (by assumption) ?hrib12
    case hiib12 => (simp only [List.getElem?_toArray, List.getElem?_cons_succ, List.getElem?_cons_zero]; rfl)
    case hqib12 => exact fun _ _ _ h => h
    case hwib12 => rfl
    case hyib12 => (intro w0 hSw; (try dsimp only at hSw); go_simp; try with_reducible rfl)
    (try simp only [Act.put, List.setIfInBounds_toArray, List.set_cons_zero, List.set_cons_succ])
    refine' wpAnyH_take (i := 13) ?hiib13 (by kernel_rfl) (by kernel_rfl) (by kernel_rfl) ?hqib13 (Or.inl ⟨?hwib13, ?hyib13⟩) (by assumption) ?hrib13
    case hiib13 => (simp only [List.getElem?_toArray, List.getElem?_cons_succ, List.getElem?_cons_zero]; rfl)
    case hqib13 => exact fun _ _ _ h => h
    case hwib13 => rfl
    case hyib13 => (intro w0 hSw; (try dsimp only at hSw); go_simp; try with_reducible rfl)
    (try simp only [Act.put, List.setIfInBounds_toArray, List.set_cons_zero, List.set_cons_succ])
    refine' wpAnyH_take (i := 14) ?hiib14 (by kernel_rfl) (by kernel_rfl) (by kernel_rfl) ?hqib14 (Or.inl ⟨?hwib14, ?hyib14⟩) (by assumption) ?hrib14
    case hiib14 => (simp only [List.getElem?_toArray, List.getElem?_cons_succ, List.getElem?_cons_zero]; rfl)
    case hqib14 => exact fun _ _ _ h => h
    case hwib14 => rfl
    case hyib14 => (intro w0 hSw; (try dsimp only at hSw); go_simp; try with_reducible rfl)
    (try simp only [Act.put, List.setIfInBounds_toArray, List.set_cons_zero, List.set_cons_succ])
    refine' wpAnyH_take (i := 15) ?hiib15 (by kernel_rfl) (by kernel_rfl) (by kernel_rfl) ?hqib15 (Or.inl ⟨?hwib15, ?hyib15⟩) (by assumption) ?hrib15
    case hiib15 => (simp only [List.getElem?_toArray, List.getElem?_cons_succ, List.getElem?_cons_zero]; rfl)
    case hqib15 => exact fun _ _ _ h => h
    case hwib15 => rfl
    case hyib15 => exact fun w0 hSw => run_exec_load rfl rfl (hSw.lx)
    (try simp only [Act.put, List.setIfInBounds_toArray, List.set_cons_zero, List.set_cons_succ])
    refine' wpAnyH_take (i := 16) ?hiib16 (by kernel_rfl) (by kernel_rfl) (by kernel_rfl) ?hqib16 (Or.inl ⟨?hwib16, ?hyib16⟩) (by assumption) ?hrib16
    case hiib16 => (simp only [List.getElem?_toArray, List.getElem?_cons_succ, List.getElem?_cons_zero]; rfl)
    case hqib16 => exact fun _ _ _ h => h
    case hwib16 => rfl
    case hyib16 => exact fun w0 hSw => run_exec_load rfl rfl (hSw.ly)
    (try simp only [Act.put, List.setIfInBounds_toArray, List.set_cons_zero, List.set_cons_succ])
    refine' wpAnyH_take (i := 17) ?hiib17 (by kernel_rfl) (by kernel_rfl) (by kernel_rfl) ?hqib17 (Or.inl ⟨?hwib17, ?hyib17⟩) (by assumption) ?hrib17
    case hiib17 => (simp only [List.getElem?_toArray, List.getElem?_cons_succ, List.getElem?_cons_zero]; rfl)
    case hqib17 => exact fun _ _ _ h => h
    case hwib17 => rfl
    case hyib17 => (intro w0 hSw; (try dsimp only at hSw); go_simp; try with_reducible rfl)
    (try simp only [Act.put, List.setIfInBounds_toArray, List.set_cons_zero, List.set_cons_succ])
    refine' wpAnyH_take (i := 18) ?hiib18 (by kernel_rfl) (by kernel_rfl) (by kernel_rfl) ?hqib18 (Or.inl ⟨?hwib18, ?hyib18⟩) (by assumption) ?hrib18
    case hiib18 => (simp only [List.getElem?_toArray, List.getElem?_cons_succ, List.getElem?_cons_zero]; rfl)
    case hqib18 => exact fun _ _ _ h => h
    case hwib18 => rfl
    case hyib18 => (intro w0 hSw; (try dsimp only at hSw); go_simp; try with_reducible rfl)
    (try simp only [Act.put, List.setIfInBounds_toArray, List.set_cons_zero, List.set_cons_succ])
    refine' wpAnyH_take (i := 19) ?hiib19 (by kernel_rfl) (by kernel_rfl) (by kernel_rfl) ?hqib19 (Or.inl ⟨?hwib19, ?hyib19⟩) (by assumption) ?hrib19
    case hiib19 => (simp only [List.getElem?_toArray, List.getElem?_cons_succ, List.getElem?_cons_zero]; rfl)
    case hqib19 => exact fun _ _ _ h => h
    case hwib19 => rfl
    case hyib19 => (intro w0 hSw; (try dsimp only at hSw); go_simp; try with_reducible rfl)
    (try simp only [Act.put, List.setIfInBounds_toArray, List.set_cons_zero, List.set_cons_succ])
    refine' wpAnyH_take (i := 20) ?hiib20 (by kernel_rfl) (by kernel_rfl) (by kernel_rfl) ?hqib20 (Or.inl ⟨?hwib20, ?hyib20⟩) (by assumption) ?hrib20
    case hiib20 => (simp only [List.getElem?_toArray, List.getElem?_cons_succ, List.getElem?_cons_zero]; rfl)
    case hqib20 => exact fun _ _ _ h => h
    case hwib20 => rfl
    case hyib20 => (intro w0 hSw; (try dsimp only at hSw); go_simp; try with_reducible rfl)
    (try simp only [Act.put, List.setIfInBounds_toArray, List.set_cons_zero, List.set_cons_succ])
    refine' wpAnyH_take (i := 21) ?hiib21 (by kernel_rfl) (by kernel_rfl) (by kernel_rfl) ?hqib21 (Or.inl ⟨?hwib21, ?hyib21⟩) (by assumption) ?hrib21
    case hiib21 => (simp only [List.getElem?_toArray, List.getElem?_cons_succ, List.getElem?_cons_zero]; rfl)
    case hqib21 => exact fun _ _ _ h => h
    case hwib21 => rfl
    case hyib21 => (intro w0 hSw; (try dsimp only at hSw); go_simp; try with_reducible rfl)
    (try simp only [Act.put, List.setIfInBounds_toArray, List.set_cons_zero, List.set_cons_succ])
    refine' wpAnyH_take (i := 22) ?hiib22 (by kernel_rfl) (by kernel_rfl) (by kernel_rfl) ?hqib22 (Or.inl ⟨?hwib22, ?hyib22⟩) (by assumption) ?hrib22
    case hiib22 => (simp only [List.getElem?_toArray, List.getElem?_cons_succ, List.getElem?_cons_zero]; rfl)
    case hqib22 => exact fun _ _ _ h => h
    case hwib22 => rfl
    case hyib22 => (intro w0 hSw; (try dsimp only at hSw); go_simp; try with_reducible rfl)
    (try simp only [Act.put, List.setIfInBounds_toArray, List.set_cons_zero, List.set_cons_succ])
    refine' wpAnyH_take (i := 23) ?hiib23 (by kernel_rfl) (by kernel_rfl) (by kernel_rfl) ?hqib23 (Or.inl ⟨?hwib23, ?hyib23⟩) (by assumption) ?hrib23
    case hiib23 => (simp only [List.getElem?_toArray, List.getElem?_cons_succ, List.getElem?_cons_zero]; rfl)
    case hqib23 => exact fun _ _ _ h => h
    case hwib23 => rfl
    case hyib23 => (intro w0 hSw; (try dsimp only at hSw); go_simp; try with_reducible rfl)
    (try simp only [Act.put, List.setIfInBounds_toArray, List.set_cons_zero, List.set_cons_succ])
    refine' wpAnyH_take (i := 24) ?hiib24 (by kernel_rfl) (by kernel_rfl) (by kernel_rfl) ?hqib24 (Or.inl ⟨?hwib24, ?hyib24⟩) (by assumption) ?hrib24
    case hiib24 => (simp only [List.getElem?_toArray, List.getElem?_cons_succ, List.getElem?_cons_zero]; rfl)
    case hqib24 => exact fun _ _ _ h => h
    case hwib24 => rfl
    case hyib24 => (intro w0 hSw; (try dsimp only at hSw); go_simp; try with_reducible rfl)
    (try simp only [Act.put, List.setIfInBounds_toArray, List.set_cons_zero, List.set_cons_succ])
    refine' wpAnyH_take (i := 25) ?hiib25 (by kernel_rfl) (by kernel_rfl) (by kernel_rfl) ?hqib25 (Or.inl ⟨?hwib25, ?hyib25⟩) (by assumption) ?hrib25
    case hiib25 => (simp only [List.getElem?_toArray, List.getElem?_cons_succ, List.getElem?_cons_zero]; rfl)
    case hqib25 => exact fun _ _ _ h => h
    case hwib25 => rfl
    case hyib25 => exact fun w0 hSw => run_exec_load rfl rfl (hSw.lz)
    (try simp only [Act.put, List.setIfInBounds_toArray, List.set_cons_zero, List.set_cons_succ])
    refine' wpAnyH_take (i := 26) ?hiib26 (by kernel_rfl) (by kernel_rfl) (by kernel_rfl) ?hqib26 (Or.inl ⟨?hwib26, ?hyib26⟩) (by assumption) ?hrib26
    case hiib26 => (simp only [List.getElem?_toArray, List.getElem?_cons_succ, List.getElem?_cons_zero]; rfl)
    case hqib26 => exact fun _ _ _ h => h
    case hwib26 => rfl
    case hyib26 => exact fun w0 hSw => run_exec_load rfl rfl (hSw.la)
    (try simp only [Act.put, List.setIfInBounds_toArray, List.set_cons_zero, List.set_cons_succ])
    refine' wpAnyH_take (i := 27) ?hiib27 (by kernel_rfl) (by kernel_rfl) (by kernel_rfl) ?hqib27 (Or.inl ⟨?hwib27, ?hyib27⟩) (by assumption) ?hrib27
    case hiib27 => (simp only [List.getElem?_toArray, List.getElem?_cons_succ, List.getElem?_cons_zero]; rfl)
    case hqib27 => exact fun _ _ _ h => h
    case hwib27 => rfl
    case hyib27 => (intro w0 hSw; (try dsimp only at hSw); go_simp; try with_reducible rfl)
    (try simp only [Act.put, List.setIfInBounds_toArray, List.set_cons_zero, List.set_cons_succ])
    refine' wpAnyH_take (i := 28) ?hiib28 (by kernel_rfl) (by kernel_rfl) (by kernel_rfl) ?hqib28 (Or.inl ⟨?hwib28, ?hyib28⟩) (by assumption) ?hrib28
    case hiib28 => (simp only [List.getElem?_toArray, List.getElem?_cons_succ, List.getElem?_cons_zero]; rfl)
    case hqib28 => exact fun _ _ _ h => h
    case hwib28 => rfl
    case hyib28 => (intro w0 hSw; (try dsimp only at hSw); go_simp; try with_reducible rfl)
    (try simp only [Act.put, List.setIfInBounds_toArray, List.set_cons_zero, List.set_cons_succ])
    refine' wpAnyH_take (i := 29) ?hiib29 (by kernel_rfl) (by kernel_rfl) (by kernel_rfl) ?hqib29 (Or.inl ⟨?hwib29, ?hyib29⟩) (by assumption) ?hrib29
    case hiib29 => (simp only [List.getElem?_toArray, List.getElem?_cons_succ, List.getElem?_cons_zero]; rfl)
    case hqib29 => exact fun _ _ _ h => h
    case hwib29 => rfl
    case hyib29 => (intro w0 hSw; (try dsimp only at hSw); go_simp; try with_reducible rfl)
    (try simp only [Act.put, List.setIfInBounds_toArray, List.set_cons_zero, List.set_cons_succ])
    refine' wpAnyH_take (i := 30) ?hiib30 (by kernel_rfl) (by kernel_rfl) (by kernel_rfl) ?hqib30 (Or.inl ⟨?hwib30, ?hyib30⟩) (by assumption) ?hrib30
    case hiib30 => (simp only [List.getElem?_toArray, List.getElem?_cons_succ, List.getElem?_cons_zero]; rfl)
    case hqib30 => exact fun _ _ _ h => h
    case hwib30 => rfl
    case hyib30 => (intro w0 hSw; (try dsimp only at hSw); go_simp; try with_reducible rfl)
    (try simp only [Act.put, List.setIfInBounds_toArray, List.set_cons_zero, List.set_cons_succ])
    refine' wpAnyH_take (i := 31) ?hiib31 (by kernel_rfl) (by kernel_rfl) (by kernel_rfl) ?hqib31 (Or.inl ⟨?hwib31, ?hyib31⟩) (by assumption) ?hrib31
    case hiib31 => (simp only [List.getElem?_toArray, List.getElem?_cons_succ, List.getElem?_cons_zero]; rfl)
    case hqib31 => exact fun _ _ _ h => h
    case hwib31 => rfl
    case hyib31 => (intro w0 hSw; (try dsimp only at hSw); go_simp; try with_reducible rfl)
    (try simp only [Act.put, List.setIfInBounds_toArray, List.set_cons_zero, List.set_cons_succ])
    refine' wpAnyH_take (i := 32) ?hiib32 (by kernel_rfl) (by kernel_rfl) (by kernel_rfl) ?hqib32 (Or.inl ⟨?hwib32, ?hyib32⟩) (by assumption) ?hrib32
    case hiib32 => (simp only [List.getElem?_toArray, List.getElem?_cons_succ, List.getElem?_cons_zero]; rfl)
    case hqib32 => exact fun _ _ _ h => h
    case hwib32 => rfl
    case hyib32 => (intro w0 hSw; (try dsimp only at hSw); go_simp; try with_reducible rfl)
    (try simp only [Act.put, List.setIfInBounds_toArray, List.set_cons_zero, List.set_cons_succ])
    refine' wpAnyH_take (i := 33) ?hiib33 (by kernel_rfl) (by kernel_rfl) (by kernel_rfl) ?hqib33 (Or.inl ⟨?hwib33, ?hyib33⟩) (by assumption) ?hrib33
    case hiib33 => (simp only [List.getElem?_toArray, List.getElem?_cons_succ, List.getElem?_cons_zero]; rfl)
    case hqib33 => exact fun _ _ _ h => h
    case hwib33 => rfl
    case hyib33 => (intro w0 hSw; (try dsimp only at hSw); go_simp; try with_reducible rfl)
    (try simp only [Act.put, List.setIfInBounds_toArray, List.set_cons_zero, List.set_cons_succ])
    refine' wpAnyH_take (i := 34) ?hiib34 (by kernel_rfl) (by kernel_rfl) (by kernel_rfl) ?hqib34 (Or.inl ⟨?hwib34, ?hyib34⟩) (by assumption) ?hrib34
    case hiib34 => (simp only [List.getElem?_toArray, List.getElem?_cons_succ, List.getElem?_cons_zero]; rfl)
    case hqib34 => exact fun _ _ _ h => h
    case hwib34 => rfl
    case hyib34 => (intro w0 hSw; (try dsimp only at hSw); go_simp; try with_reducible rfl)
    (try simp only [Act.put, List.setIfInBounds_toArray, List.set_cons_zero, List.set_cons_succ])
    refine' wpAnyH_take (i := 35) ?hiib35 (by kernel_rfl) (by kernel_rfl) (by kernel_rfl) ?hqib35 (Or.inl ⟨?hwib35, ?hyib35⟩) (by assumption) ?hrib35
    case hiib35 => (simp only [List.getElem?_toArray, List.getElem?_cons_succ, List.getElem?_cons_zero]; rfl)
    case hqib35 => exact fun _ _ _ h => h
    case hwib35 => rfl
    case hyib35 => (intro w0 hSw; (try dsimp only at hSw); go_simp; try with_reducible rfl)
    (try simp only [Act.put, List.setIfInBounds_toArray, List.set_cons_zero, List.set_cons_succ])
    refine' wpAnyH_take (i := 36) ?hiib36 (by kernel_rfl) (by kernel_rfl) (by kernel_rfl) ?hqib36 (Or.inl ⟨?hwib36, ?hyib36⟩) (by assumption) ?hrib36
    case hiib36 => (simp only [List.getElem?_toArray, List.getElem?_cons_succ, List.getElem?_cons_zero]; rfl)
    case hqib36 => exact fun _ _ _ h => h
    case hwib36 => rfl
    case hyib36 => (intro w0 hSw; (try dsimp only at hSw); go_simp; try with_reducible rfl)
    (try simp only [Act.put, List.setIfInBounds_toArray, List.set_cons_zero, List.set_cons_succ])
    refine' wpAnyH_take (i := 37) (v := undef) ?hiib37 (by kernel_rfl) (by kernel_rfl) (by kernel_rfl) ?hqib37 (Or.inr ⟨?hwib37, rfl⟩) (by assumption) ?hrib37
    case hiib37 => (simp only [List.getElem?_toArray, List.getElem?_cons_succ, List.getElem?_cons_zero]; rfl)
    case hqib37 => exact fun _ _ _ h => h
    case hwib37 => rfl
    (try simp only [Act.put, List.setIfInBounds_toArray, List.set_cons_zero, List.set_cons_succ])
    refine' wpAnyH_take (i := 38) (v := undef) ?hiib38 (by kernel_rfl) (by kernel_rfl) (by kernel_rfl) ?hqib38 (Or.inr ⟨?hwib38, rfl⟩) (by assumption) ?hrib38
    case hiib38 => (simp only [List.getElem?_toArray, List.getElem?_cons_succ, List.getElem?_cons_zero]; rfl)
    case hqib38 => exact fun _ _ _ h => h
    case hwib38 => rfl
    (try simp only [Act.put, List.setIfInBounds_toArray, List.set_cons_zero, List.set_cons_succ])
    refine' wpAnyH_take (i := 39) (v := undef) ?hiib39 (by kernel_rfl) (by kernel_rfl) (by kernel_rfl) ?hqib39 (Or.inr ⟨?hwib39, rfl⟩) (by assumption) ?hrib39
    case hiib39 => (simp only [List.getElem?_toArray, List.getElem?_cons_succ, List.getElem?_cons_zero]; rfl)
    case hqib39 => exact fun _ _ _ h => h
    case hwib39 => rfl
    (try simp only [Act.put, List.setIfInBounds_toArray, List.set_cons_zero, List.set_cons_succ])
    refine' wpAnyH_take (i := 40) (v := undef) ?hiib40 (by kernel_rfl) (by kernel_rfl) (by kernel_rfl) ?hqib40 (Or.inr ⟨?hwib40, rfl⟩) (by assumption) ?hrib40
    case hiib40 => (simp only [List.getElem?_toArray, List.getElem?_cons_succ, List.getElem?_cons_zero]; rfl)
    case hqib40 => exact fun _ _ _ h => h
    case hwib40 => rfl
    (try simp only [Act.put, List.setIfInBounds_toArray, List.set_cons_zero, List.set_cons_succ])
    refine' wpAnyH_take (i := 41) ?hiib41 (by kernel_rfl) (by kernel_rfl) (by kernel_rfl) ?hqib41 (Or.inl ⟨?hwib41, ?hyib41⟩) (by assumption) ?hrib41
    case hiib41 => (simp only [List.getElem?_toArray, List.getElem?_cons_succ, List.getElem?_cons_zero]; rfl)
    case hqib41 => exact fun _ _ _ h => h
    case hwib41 => rfl
    case hyib41 => (intro w0 hSw; (try dsimp only at hSw); go_simp; try with_reducible rfl)
    (try simp only [Act.put, List.setIfInBounds_toArray, List.set_cons_zero, List.set_cons_succ])
    refine' wpAnyH_take (i := 42) ?hiib42 (by kernel_rfl) (by kernel_rfl) (by kernel_rfl) ?hqib42 (Or.inl ⟨?hwib42, ?hyib42⟩) (by assumption) ?hrib42
    case hiib42 => (simp only [List.getElem?_toArray, List.getElem?_cons_succ, List.getElem?_cons_zero]; rfl)
    case hqib42 => exact fun _ _ _ h => h
    case hwib42 => rfl
    case hyib42 => (intro w0 hSw; (try dsimp only at hSw); go_simp; try with_reducible rfl)
    (try simp only [Act.put, List.setIfInBounds_toArray, List.set_cons_zero, List.set_cons_succ])
    refine' wpAnyH_take (i := 43) ?hiib43 (by kernel_rfl) (by kernel_rfl) (by kernel_rfl) ?hqib43 (Or.inl ⟨?hwib43, ?hyib43⟩) (by assumption) ?hrib43
    case hiib43 => (simp only [List.getElem?_toArray, List.getElem?_cons_succ, List.getElem?_cons_zero]; rfl)
    case hqib43 => exact fun _ _ _ h => h
    case hwib43 => rfl
    case hyib43 => (intro w0 hSw; (try dsimp only at hSw); go_simp; try with_reducible rfl)
    (try simp only [Act.put, List.setIfInBounds_toArray, List.set_cons_zero, List.set_cons_succ])
    refine wpAnyH_ready (rs := [44]) (by kernel_rfl) (by simp) ?_
    refine' AllReadyH.cons ?hiib44 (fun K hK => ?hrib44) AllReadyH.nil
    case hiib44 => (simp only [List.getElem?_toArray, List.getElem?_cons_succ, List.getElem?_cons_zero]; rfl)
    go_simp
    refine (awake_any HI.out _ hHeld.tt).mono ?_; rintro e wA6 ⟨rfl, hbwA6⟩
    refine hK.out _ _ ?_ (fun hHeld => ?_)
    · exact hHeld.next hbwA6
    clear hK K
    (try simp only [Act.put, List.setIfInBounds_toArray, List.set_cons_zero, List.set_cons_succ])
    refine' wpAnyH_take (i := 45) ?hiib45 (by kernel_rfl) (by kernel_rfl) (by kernel_rfl) ?hqib45 (Or.inl ⟨?hwib45, ?hyib45⟩) (by assumption) ?hrib45
    case hiib45 => (simp only [List.getElem?_toArray, List.getElem?_cons_succ, List.getElem?_cons_zero]; rfl)
    case hqib45 => exact fun _ _ _ h => h
    case hwib45 => rfl
    case hyib45 => (intro w0 hSw; (try dsimp only at hSw); go_simp; try with_reducible rfl)
    (try simp only [Act.put, List.setIfInBounds_toArray, List.set_cons_zero, List.set_cons_succ])
    refine' wpAnyH_take (i := 46) ?hiib46 (by kernel_rfl) (by kernel_rfl) (by kernel_rfl) ?hqib46 (Or.inl ⟨?hwib46, ?hyib46⟩) (by assumption) ?hrib46
    case hiib46 => (simp only [List.getElem?_toArray, List.getElem?_cons_succ, List.getElem?_cons_zero]; rfl)
    case hqib46 => exact fun _ _ _ h => h
    case hwib46 => rfl
    case hyib46 => (intro w0 hSw; (try dsimp only at hSw); go_simp; try with_reducible rfl)
    (try simp only [Act.put, List.setIfInBounds_toArray, List.set_cons_zero, List.set_cons_succ])
    refine wpAnyH_done (by kernel_rfl) ?_ _
    go_wp2_with fail
    go_ret
    exact ⟨rfl, hHeld.below⟩
end Go.Proofs.Ytkfhlnpbklchmaa.ids
