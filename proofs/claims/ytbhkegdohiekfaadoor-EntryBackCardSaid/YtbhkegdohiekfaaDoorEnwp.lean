/-
  The walk of EntryPuts, by what entry's functions answer.
-/
import Derived.Test.YtbhkegdohiekfaaDoorEnis
import Derived.Deep.RegionHeld3
namespace Go.Proofs.YtbhkegdohiekfaaDoor.ent
open Go.RowKit Go.Proofs.YtbhkegdohiekfaaDoor.mem Go.Proofs.YtbhkegdohiekfaaDoor.sha Go.Proofs.YtbhkegdohiekfaaDoor.ids Go.Proofs.YtbhkegdohiekfaaDoor.rows
open Go.Proofs.YtbhkegdohiekfaaDoor.opn (b1 b2 b4 num txt idl byte rd rdN rdT rdI rdS rdL St Reads Stays endE zid mkId)
open Go.Proofs.YtbhkegdohiekfaaDoor.kit (Strs)

structure PuS (T : World → Prop) (S : Nat) (e : En) (w0 w : World) : Prop where
  op : Blk w S 25 (enc e).toArray
  t : T w
  below : Below w0.heap.size w0 w
theorem PuS.next {T : World → Prop} (hI : EnIs T) {S : Nat} {e : En} {w0 w w' : World} (h : PuS T S e w0 w) (hb : Below w.heap.size w w') : PuS T S e w0 w' := ⟨h.op.below hb h.op.lt, hI.next h.t hb, h.below.trans (hb.mono h.below.size)⟩
set_option maxHeartbeats 4000000 in
set_option maxRecDepth 100000 in
theorem puts_walk {T : World → Prop} (hI : EnIs T) (e : En) (w : World) (hT : T w) (hr : e.commit.length = 32) (ht : e.topic.length ≤ 140737488351232) (hb : e.body.length ≤ 140737488351232) :
    Calls Tryd.prog 3 #[env e] w fun x w' => x = .returned (.bool true) ∧ Below w.heap.size w w' := by
  obtain ⟨w1, hw1⟩ : ∃ u, u = w.alloc (.cells (enc e).toArray 25) := ⟨_, rfl⟩
  obtain ⟨S, hS⟩ : ∃ S, S = w.heap.size := ⟨_, rfl⟩
  have hB : Below w.heap.size w w1 := by rw [hw1]; exact (Below.refl _ _).alloc (Nat.le_refl _) _
  have hX : PuS T S e w w1 := ⟨by rw [hw1, hS]; exact Blk.new w _ _, hI.next hT hB, hB⟩
  have HI := Lib.hid hI
  have HR := Lib.hid hr
  have HX := Lib.hid hX
  have HW := Lib.hid hw1
  have HS := Lib.hid hS
  have c1 := (EnBlk.of hX.op hr).topic
  have c2 := (EnBlk.of hX.op hr).body
  obtain ⟨ts, hts⟩ : ∃ b, b = oct.tx e.topic := ⟨_, rfl⟩
  obtain ⟨bs, hbs⟩ : ∃ b, b = oct.tx e.body := ⟨_, rfl⟩
  rw [← hts] at c1
  rw [← hbs] at c2
  have htz : ts.size = e.topic.length := by rw [hts, oct.tx_size]
  have hbz : bs.size = e.body.length := by rw [hbs, oct.tx_size]
  have hbI : (bs.size : Int) ≤ 140737488351232 := by omega
  have htI : (ts.size : Int) ≤ 140737488351232 := by omega
  have hld := run_load_en hX.op hr
  have HP := Lib.hid (fun (u : World) (hu : T u) => hI.put e u hu hr ht hb)
  have HQ := Lib.hid (fun (u : World) => put_any e u hr (Nat.le_trans ht (by decide)) hb)
  have HC := Lib.hid (fun (u : World) (hu : T u) => hI.check e u hu hr ht hb)
  have HD := Lib.hid (fun (u : World) => check_any e u hr (Nat.le_trans ht (by decide)) hb)
  obtain ⟨s, hs⟩ : ∃ s, s = oct.tx (putE e).1 := ⟨_, rfl⟩
  obtain ⟨f, hf⟩ : ∃ f, f = (putE e).2 := ⟨_, rfl⟩
  obtain ⟨c, hc⟩ : ∃ c, c = checkE e := ⟨_, rfl⟩
  rw [← hs, ← hf] at HP HQ
  rw [← hc] at HC HD
  clear hI hT hB hX hw1 hS hs hf hc hr ht hb hts hbs htz hbz
  unfold env
  by_cases h1 : 5000 < (bs.size : Int)
  · go_enter Tryd.func3, Tryd.ntmps3
    go_upto_region 1 with fail
    refine wp_at HW.out.symm ?_
    rw [← HS.out]
    clear HW
    go_wp2_with (go_at_call 7; refine (awake_any HI.out _ HX.out.t).mono ?_; rintro x w9 ⟨rfl, hb9⟩)
    go_ret
    exact ⟨rfl, HX.out.below.trans (hb9.mono HX.out.below.size)⟩
  have h1 : (bs.size : Int) ≤ 5000 := by omega
  by_cases h2 : 100 < (ts.size : Int)
  · go_enter Tryd.func3, Tryd.ntmps3
    go_upto_region 1 with fail
    refine wp_at HW.out.symm ?_
    rw [← HS.out]
    clear HW
    go_wp2_with (go_at_call 7; refine (awake_any HI.out _ HX.out.t).mono ?_; rintro x w9 ⟨rfl, hb9⟩)
    go_ret
    exact ⟨rfl, HX.out.below.trans (hb9.mono HX.out.below.size)⟩
  have h2 : (ts.size : Int) ≤ 100 := by omega
  go_enter Tryd.func3, Tryd.ntmps3
  go_upto_region 1 with fail
  refine wp_at HW.out.symm ?_
  rw [← HS.out]
  clear HW
  go_upto_region 5 with (first
    | ((with_reducible refine step_load (t := 25) (x := .tmp 1) (p := ?lpp1) (v := ?lvp1) ?lgp1 ?lop1 ?lxp1 ?lrp1 ?lhp1); (case lgp1 => rfl); (case lop1 => rfl); (case lxp1 => rfl); (case lrp1 => exact hld))
    | (go_at_call 8; (with_reducible refine (HP.out w1 HX.out.t).mono ?_); rintro x w2 ⟨rfl, hb2⟩; have hx2 := HX.out.next HI.out hb2; have HX2 := Lib.hid hx2; have hl2 := run_load_en hx2.op HR.out; clear hb2 hx2)
    | ((with_reducible refine step_load (t := 25) (x := .tmp 1) (p := ?lpp2) (v := ?lvp2) ?lgp2 ?lop2 ?lxp2 ?lrp2 ?lhp2); (case lgp2 => rfl); (case lop2 => rfl); (case lxp2 => rfl); (case lrp2 => exact hl2))
    | (go_at_call 9; (with_reducible refine (HQ.out _).mono ?_); rintro x w3 ⟨rfl, hb3⟩; have HX3 := Lib.hid (HX2.out.next HI.out hb3); clear hb3))
  clear hld hl2 HX HX2 HP HQ
  refine wp_region_held_drew (S := PuS T S e w) (by kernel_rfl) ?_ (fun hHeld => ?_)
  · exact HX3.out.next HI.out ((Below.refl _ _).drew)
  refine' wpAnyH_take (i := 0) ?hiq0 (by kernel_rfl) (by kernel_rfl) (by kernel_rfl) ?hqq0 (Or.inl ⟨?hwq0, ?hyq0⟩) (by assumption) ?hrq0
  case hiq0 => (simp only [List.getElem?_toArray, List.getElem?_cons_succ, List.getElem?_cons_zero]; rfl)
  case hqq0 => exact fun _ _ _ h => h
  case hwq0 => rfl
  case hyq0 => (intro w0 hSw; (try dsimp only at hSw); go_simp; try with_reducible rfl)
  (try simp only [Act.put, List.setIfInBounds_toArray, List.set_cons_zero, List.set_cons_succ])
  refine' wpAnyH_take (i := 1) ?hiq1 (by kernel_rfl) (by kernel_rfl) (by kernel_rfl) ?hqq1 (Or.inl ⟨?hwq1, ?hyq1⟩) (by assumption) ?hrq1
  case hiq1 => (simp only [List.getElem?_toArray, List.getElem?_cons_succ, List.getElem?_cons_zero]; rfl)
  case hqq1 => exact fun _ _ _ h => h
  case hwq1 => rfl
  case hyq1 => (intro w0 hSw; (try dsimp only at hSw); go_simp; try with_reducible rfl)
  (try simp only [Act.put, List.setIfInBounds_toArray, List.set_cons_zero, List.set_cons_succ])
  refine' wpAnyH_take (i := 2) ?hiq2 (by kernel_rfl) (by kernel_rfl) (by kernel_rfl) ?hqq2 (Or.inl ⟨?hwq2, ?hyq2⟩) (by assumption) ?hrq2
  case hiq2 => (simp only [List.getElem?_toArray, List.getElem?_cons_succ, List.getElem?_cons_zero]; rfl)
  case hqq2 => exact fun _ _ _ h => h
  case hwq2 => rfl
  case hyq2 => (intro w0 hSw; (try dsimp only at hSw); go_simp; try with_reducible rfl)
  (try simp only [Act.put, List.setIfInBounds_toArray, List.set_cons_zero, List.set_cons_succ])
  refine' wpAnyH_take (i := 3) ?hiq3 (by kernel_rfl) (by kernel_rfl) (by kernel_rfl) ?hqq3 (Or.inl ⟨?hwq3, ?hyq3⟩) (by assumption) ?hrq3
  case hiq3 => (simp only [List.getElem?_toArray, List.getElem?_cons_succ, List.getElem?_cons_zero]; rfl)
  case hqq3 => exact fun _ _ _ h => h
  case hwq3 => rfl
  case hyq3 => (intro w0 hSw; (try dsimp only at hSw); go_simp; try with_reducible rfl)
  (try simp only [Act.put, List.setIfInBounds_toArray, List.set_cons_zero, List.set_cons_succ])
  refine' wpAnyH_take (i := 4) ?hiq4 (by kernel_rfl) (by kernel_rfl) (by kernel_rfl) ?hqq4 (Or.inl ⟨?hwq4, ?hyq4⟩) (by assumption) ?hrq4
  case hiq4 => (simp only [List.getElem?_toArray, List.getElem?_cons_succ, List.getElem?_cons_zero]; rfl)
  case hqq4 => exact fun _ _ _ h => h
  case hwq4 => rfl
  case hyq4 => (intro w0 hSw; (try dsimp only at hSw); go_simp; try with_reducible rfl)
  (try simp only [Act.put, List.setIfInBounds_toArray, List.set_cons_zero, List.set_cons_succ])
  refine' wpAnyH_take (i := 5) ?hiq5 (by kernel_rfl) (by kernel_rfl) (by kernel_rfl) ?hqq5 (Or.inl ⟨?hwq5, ?hyq5⟩) (by assumption) ?hrq5
  case hiq5 => (simp only [List.getElem?_toArray, List.getElem?_cons_succ, List.getElem?_cons_zero]; rfl)
  case hqq5 => exact fun _ _ _ h => h
  case hwq5 => rfl
  case hyq5 => (intro w0 hSw; (try dsimp only at hSw); go_simp; try with_reducible rfl)
  (try simp only [Act.put, List.setIfInBounds_toArray, List.set_cons_zero, List.set_cons_succ])
  refine' wpAnyH_take (i := 6) ?hiq6 (by kernel_rfl) (by kernel_rfl) (by kernel_rfl) ?hqq6 (Or.inl ⟨?hwq6, ?hyq6⟩) (by assumption) ?hrq6
  case hiq6 => (simp only [List.getElem?_toArray, List.getElem?_cons_succ, List.getElem?_cons_zero]; rfl)
  case hqq6 => exact fun _ _ _ h => h
  case hwq6 => rfl
  case hyq6 => (intro w0 hSw; (try dsimp only at hSw); go_simp; try with_reducible rfl)
  (try simp only [Act.put, List.setIfInBounds_toArray, List.set_cons_zero, List.set_cons_succ])
  refine' wpAnyH_take (i := 7) ?hiq7 (by kernel_rfl) (by kernel_rfl) (by kernel_rfl) ?hqq7 (Or.inl ⟨?hwq7, ?hyq7⟩) (by assumption) ?hrq7
  case hiq7 => (simp only [List.getElem?_toArray, List.getElem?_cons_succ, List.getElem?_cons_zero]; rfl)
  case hqq7 => exact fun _ _ _ h => h
  case hwq7 => rfl
  case hyq7 => (intro w0 hSw; (try dsimp only at hSw); go_simp; try with_reducible rfl)
  (try simp only [Act.put, List.setIfInBounds_toArray, List.set_cons_zero, List.set_cons_succ])
  refine' wpAnyH_take (i := 8) ?hiq8 (by kernel_rfl) (by kernel_rfl) (by kernel_rfl) ?hqq8 (Or.inl ⟨?hwq8, ?hyq8⟩) (by assumption) ?hrq8
  case hiq8 => (simp only [List.getElem?_toArray, List.getElem?_cons_succ, List.getElem?_cons_zero]; rfl)
  case hqq8 => exact fun _ _ _ h => h
  case hwq8 => rfl
  case hyq8 => (intro w0 hSw; (try dsimp only at hSw); go_simp; try with_reducible rfl)
  (try simp only [Act.put, List.setIfInBounds_toArray, List.set_cons_zero, List.set_cons_succ])
  refine' wpAnyH_take (i := 9) ?hiq9 (by kernel_rfl) (by kernel_rfl) (by kernel_rfl) ?hqq9 (Or.inl ⟨?hwq9, ?hyq9⟩) (by assumption) ?hrq9
  case hiq9 => (simp only [List.getElem?_toArray, List.getElem?_cons_succ, List.getElem?_cons_zero]; rfl)
  case hqq9 => exact fun _ _ _ h => h
  case hwq9 => rfl
  case hyq9 => exact fun w0 hSw => run_exec_load rfl rfl (run_load_en hSw.op HR.out)
  (try simp only [Act.put, List.setIfInBounds_toArray, List.set_cons_zero, List.set_cons_succ])
  refine' wpAnyH_take (i := 11) ?hiq11 (by kernel_rfl) (by kernel_rfl) (by kernel_rfl) ?hqq11 (Or.inl ⟨?hwq11, ?hyq11⟩) (by assumption) ?hrq11
  case hiq11 => (simp only [List.getElem?_toArray, List.getElem?_cons_succ, List.getElem?_cons_zero]; rfl)
  case hqq11 => exact fun _ _ _ h => h
  case hwq11 => rfl
  case hyq11 => exact fun w0 hSw => run_exec_load rfl rfl (run_load_en hSw.op HR.out)
  (try simp only [Act.put, List.setIfInBounds_toArray, List.set_cons_zero, List.set_cons_succ])
  refine wpAnyH_ready (rs := [10]) (by kernel_rfl) (by simp) ?_
  refine' AllReadyH.cons ?hiq10 (fun K hK => ?hrq10) AllReadyH.nil
  case hiq10 => (simp only [List.getElem?_toArray, List.getElem?_cons_succ, List.getElem?_cons_zero]; rfl)
  go_simp
  refine (HC.out _ hHeld.t).mono ?_; rintro x w4 ⟨rfl, hb4⟩
  refine hK.out _ _ ?_ (fun hHeld => ?_)
  · exact hHeld.next HI.out hb4
  clear hK K
  (try simp only [Act.put, List.setIfInBounds_toArray, List.set_cons_zero, List.set_cons_succ])
  refine wpAnyH_ready (rs := [12]) (by kernel_rfl) (by simp) ?_
  refine' AllReadyH.cons ?hiq12 (fun K hK => ?hrq12) AllReadyH.nil
  case hiq12 => (simp only [List.getElem?_toArray, List.getElem?_cons_succ, List.getElem?_cons_zero]; rfl)
  go_simp
  refine (HD.out _).mono ?_; rintro x w5 ⟨rfl, hb5⟩
  refine hK.out _ _ ?_ (fun hHeld => ?_)
  · exact hHeld.next HI.out hb5
  clear hK K
  (try simp only [Act.put, List.setIfInBounds_toArray, List.set_cons_zero, List.set_cons_succ])
  refine' wpAnyH_take (i := 13) ?hiq13 (by kernel_rfl) (by kernel_rfl) (by kernel_rfl) ?hqq13 (Or.inl ⟨?hwq13, ?hyq13⟩) (by assumption) ?hrq13
  case hiq13 => (simp only [List.getElem?_toArray, List.getElem?_cons_succ, List.getElem?_cons_zero]; rfl)
  case hqq13 => exact fun _ _ _ h => h
  case hwq13 => rfl
  case hyq13 => (intro w0 hSw; (try dsimp only at hSw); go_simp; try with_reducible rfl)
  (try simp only [Act.put, List.setIfInBounds_toArray, List.set_cons_zero, List.set_cons_succ])
  refine' wpAnyH_take (i := 14) ?hiq14 (by kernel_rfl) (by kernel_rfl) (by kernel_rfl) ?hqq14 (Or.inl ⟨?hwq14, ?hyq14⟩) (by assumption) ?hrq14
  case hiq14 => (simp only [List.getElem?_toArray, List.getElem?_cons_succ, List.getElem?_cons_zero]; rfl)
  case hqq14 => exact fun _ _ _ h => h
  case hwq14 => rfl
  case hyq14 => (intro w0 hSw; (try dsimp only at hSw); go_simp; try with_reducible rfl)
  (try simp only [Act.put, List.setIfInBounds_toArray, List.set_cons_zero, List.set_cons_succ])
  refine' wpAnyH_take (i := 15) ?hiq15 (by kernel_rfl) (by kernel_rfl) (by kernel_rfl) ?hqq15 (Or.inl ⟨?hwq15, ?hyq15⟩) (by assumption) ?hrq15
  case hiq15 => (simp only [List.getElem?_toArray, List.getElem?_cons_succ, List.getElem?_cons_zero]; rfl)
  case hqq15 => exact fun _ _ _ h => h
  case hwq15 => rfl
  case hyq15 => (intro w0 hSw; (try dsimp only at hSw); go_simp; try with_reducible rfl)
  (try simp only [Act.put, List.setIfInBounds_toArray, List.set_cons_zero, List.set_cons_succ])
  refine wpAnyH_ready (rs := [16]) (by kernel_rfl) (by simp) ?_
  refine' AllReadyH.cons ?hiq16 (fun K hK => ?hrq16) AllReadyH.nil
  case hiq16 => (simp only [List.getElem?_toArray, List.getElem?_cons_succ, List.getElem?_cons_zero]; rfl)
  go_simp
  refine (awake_any HI.out _ hHeld.t).mono ?_; rintro x w6 ⟨rfl, hb6⟩
  refine hK.out _ _ ?_ (fun hHeld => ?_)
  · exact hHeld.next HI.out hb6
  clear hK K
  (try simp only [Act.put, List.setIfInBounds_toArray, List.set_cons_zero, List.set_cons_succ])
  refine' wpAnyH_take (i := 17) ?hiq17 (by kernel_rfl) (by kernel_rfl) (by kernel_rfl) ?hqq17 (Or.inl ⟨?hwq17, ?hyq17⟩) (by assumption) ?hrq17
  case hiq17 => (simp only [List.getElem?_toArray, List.getElem?_cons_succ, List.getElem?_cons_zero]; rfl)
  case hqq17 => exact fun _ _ _ h => h
  case hwq17 => rfl
  case hyq17 => (intro w0 hSw; (try dsimp only at hSw); go_simp; try with_reducible rfl)
  (try simp only [Act.put, List.setIfInBounds_toArray, List.set_cons_zero, List.set_cons_succ])
  refine' wpAnyH_take (i := 18) ?hiq18 (by kernel_rfl) (by kernel_rfl) (by kernel_rfl) ?hqq18 (Or.inl ⟨?hwq18, ?hyq18⟩) (by assumption) ?hrq18
  case hiq18 => (simp only [List.getElem?_toArray, List.getElem?_cons_succ, List.getElem?_cons_zero]; rfl)
  case hqq18 => exact fun _ _ _ h => h
  case hwq18 => rfl
  case hyq18 => (intro w0 hSw; (try dsimp only at hSw); go_simp; try with_reducible rfl)
  (try simp only [Act.put, List.setIfInBounds_toArray, List.set_cons_zero, List.set_cons_succ])
  refine wpAnyH_done (by kernel_rfl) ?_ _
  go_wp2_with fail
  go_ret
  exact ⟨rfl, hHeld.below⟩
end Go.Proofs.YtbhkegdohiekfaaDoor.ent
