/-
  The walk of IdentSets, by what ident's functions answer.
-/
import Derived.Test.YtfcoecojjciphaaIdsxb
import Derived.Test.YtfcoecojjciphaaIdti
import Derived.Deep.RegionHeld3
namespace Go.Proofs.Ytfcoecojjciphaa.ids
open Go.RowKit Go.Proofs.Ytfcoecojjciphaa.mem Go.Proofs.Ytfcoecojjciphaa.sha Go.Proofs.Ytfcoecojjciphaa.strx

/-! The reference's contracts by values. -/
theorem ris_v {w : World} {v : Value} {L : List Id} (h : RdV w v L) (hm : L.length < 500000) : Calls Try.prog 20 #[v] w fun e w' => e = .returned (.bool (L == setL L)) ∧ Below w.heap.size w w' := by
  obtain ⟨ad, cap, rfl⟩ := h.form
  exact ris_any L ad L.length cap w h hm
theorem rhas_v {w : World} {v : Value} {L : List Id} {x : Id} (h : RdV w v L) (hx : x.length = 32) : Calls Try.prog 22 #[v, .agg (bv x).toArray] w fun e w' => e = .returned (.bool (L.contains x)) ∧ Below w.heap.size w w' := by
  obtain ⟨ad, cap, rfl⟩ := h.form
  exact rhas_any L x ad L.length cap w h hx
theorem rset_v {w : World} {v : Value} {L : List Id} (h : RdV w v L) (hm : L.length < 500000) : Calls Try.prog 16 #[v] w fun e w' => ∃ v', e = .returned v' ∧ Got w' (w.heap.size ≤ ·) v' (setL L) ∧ Below w.heap.size w w' := by
  obtain ⟨ad, cap, rfl⟩ := h.form
  exact rset_any L ad L.length cap w h hm
theorem rwith_v {w : World} {v : Value} {L : List Id} {x : Id} (h : RdV w v L) (hx : x.length = 32) (hm : L.length < 1000000) : Calls Try.prog 24 #[v, .agg (bv x).toArray] w fun e w' => ∃ v', e = .returned v' ∧ Got w' (fun _ => True) v' (withL L x) ∧ Below w.heap.size w w' := by
  obtain ⟨ad, cap, rfl⟩ := h.form
  refine (rwith_any L x ad L.length cap w h hx hm).mono ?_
  rintro e w' ⟨v', rfl, hg, hb⟩
  exact ⟨v', rfl, hg.mono fun _ _ => trivial, hb⟩
theorem rwithout_v {w : World} {v : Value} {L : List Id} {x : Id} (h : RdV w v L) (hx : x.length = 32) (hm : L.length < 1000000) : Calls Try.prog 26 #[v, .agg (bv x).toArray] w fun e w' => ∃ v', e = .returned v' ∧ Got w' (w.heap.size ≤ ·) v' (woutL L x) ∧ Below w.heap.size w w' := by
  obtain ⟨ad, cap, rfl⟩ := h.form
  exact rwithout_any L x ad L.length cap w h hx hm
theorem rless_v {w : World} {v u : Value} {L M : List Id} (h : RdV w v L) (k : RdV w u M) (hm : L.length < 500000) : Calls Try.prog 28 #[v, u] w fun e w' => ∃ v', e = .returned v' ∧ Got w' (w.heap.size ≤ ·) v' (lessL L M) ∧ Below w.heap.size w w' := by
  obtain ⟨ad, cap, rfl⟩ := h.form
  obtain ⟨ad2, cap2, rfl⟩ := k.form
  exact rless_any L M ad ad2 L.length cap M.length cap2 w h k hm
theorem rboth_v {w : World} {v u : Value} {L M : List Id} (h : RdV w v L) (k : RdV w u M) (hm : L.length + M.length < 500000) : Calls Try.prog 30 #[v, u] w fun e w' => ∃ v', e = .returned v' ∧ Got w' (w.heap.size ≤ ·) v' (bothL L M) ∧ Below w.heap.size w w' := by
  obtain ⟨ad, cap, rfl⟩ := h.form
  obtain ⟨ad2, cap2, rfl⟩ := k.form
  exact rboth_any L M ad ad2 L.length cap M.length cap2 w h k hm
theorem much_any {w : World} {v u : Value} {L M : List Id} (h : RdV w v L) (k : RdV w u M) : Calls Try.prog 15 #[v, u] w fun e w' => e = .returned (.bool (decide (60 < L.length) || decide (60 < M.length))) ∧ w = w' := by
  obtain ⟨ad, cap, rfl⟩ := h.form
  obtain ⟨ad2, cap2, rfl⟩ := k.form
  have e1 : decide ((60 : Int) < (L.length : Int)) = decide (60 < L.length) := by simp; omega
  have e2 : decide ((60 : Int) < (M.length : Int)) = decide (60 < M.length) := by simp; omega
  by_cases hl : 60 < L.length
  · have hI : (60 : Int) < (L.length : Int) := by omega
    rw [decide_eq_true hl, Bool.true_or]
    clear e1 e2
    go_enter Try.func15, Try.ntmps15
    go_wp2_with fail
    go_ret
    exact ⟨rfl, rfl⟩
  · have hI : (L.length : Int) ≤ 60 := by omega
    have e0 : decide ((60 : Int) < (L.length : Int)) = false := decide_eq_false (by omega)
    rw [decide_eq_false hl, Bool.false_or, ← e2]
    have E0 := Lib.hid e0
    clear e0 e1 e2
    go_enter Try.func15, Try.ntmps15
    go_wp2_with fail
    go_ret
    refine ⟨?_, rfl⟩
    show Ending.returned (.bool (decide ((60 : Int) < (L.length : Int)) || decide ((60 : Int) < (M.length : Int)))) = _
    rw [E0.out, Bool.false_or]

/-- what the drawn regions of IdentSets keep -/
structure ISt (T : World → Prop) (w0 : World) (C : Nat) (x : Id) (v1 v2 vs : Value) (L M : List Id) (w : World) : Prop where
  tt : T w
  below : Below w0.heap.size w0 w
  box : Blk w C 23 (bv x).toArray
  hx : x.length = 32
  r1 : RdV w v1 L
  r2 : RdV w v2 M
  rs : RdV w vs (setL L)
  nx : ∀ {w w' : World}, T w → Below w.heap.size w w' → T w'
theorem ISt.next {T : World → Prop} {w0 w w' : World} {C : Nat} {x : Id} {v1 v2 vs : Value} {L M : List Id} (h : ISt T w0 C x v1 v2 vs L M w) (hb : Below w.heap.size w w') : ISt T w0 C x v1 v2 vs L M w' :=
  ⟨h.nx h.tt hb, h.below.trans (hb.mono h.below.size), h.box.below hb h.box.lt, h.hx, h.r1.next hb, h.r2.next hb, h.rs.next hb, h.nx⟩
theorem ISt.drew {T : World → Prop} {w0 w : World} {C : Nat} {x : Id} {v1 v2 vs : Value} {L M : List Id} (h : ISt T w0 C x v1 v2 vs L M w) : ISt T w0 C x v1 v2 vs L M w.drew := h.next (Below.refl _ _).drew
theorem ISt.box_load {T : World → Prop} {w0 w : World} {C : Nat} {x : Id} {v1 v2 vs : Value} {L M : List Id} (h : ISt T w0 C x v1 v2 vs L M w) : (Instr.loadAt 23 (.pointer (some ⟨C, 0, none⟩))).run Try.prog w = .ok (.agg (bv x).toArray) w := ids.box_load h.box h.hx 0

set_option maxHeartbeats 4000000 in
set_option maxRecDepth 100000 in
theorem sets_walk {T : World → Prop} (hI : IdentIs T) (L M : List Id) (x : Id) (v1 v2 : Value) (w : World) (hT : T w) (h1 : RdV w v1 L) (h2 : RdV w v2 M) (hx : x.length = 32) :
    Calls Try.prog 4 #[v1, v2, .agg (bv x).toArray] w fun e w' => e = .returned (.bool true) ∧ Below w.heap.size w w' := by
  obtain ⟨w1, hw1⟩ : ∃ u, u = w.alloc (.cells (bv x).toArray 23) := ⟨_, rfl⟩
  obtain ⟨C, hC⟩ : ∃ S, S = w.heap.size := ⟨_, rfl⟩
  have hX : Blk w1 C 23 (bv x).toArray := by rw [hw1, hC]; exact Blk.new w _ _
  have hB : Below w.heap.size w w1 := by rw [hw1]; exact (Below.refl _ _).alloc (Nat.le_refl _) _
  have HI := Lib.hid hI
  have HX := Lib.hid hX
  have HB := Lib.hid hB
  have HT := Lib.hid (hI.next hT hB)
  have H1 := Lib.hid (h1.next hB)
  have H2 := Lib.hid (h2.next hB)
  have HW := Lib.hid hw1
  have HCC := Lib.hid hC
  have HM := Lib.hid (much_any (h1.next hB) (h2.next hB))
  clear hI hX hB hw1 hC hT h1 h2
  by_cases hm : (decide (60 < L.length) || decide (60 < M.length)) = true
  · rw [hm] at HM
    go_enter Try.func4, Try.ntmps4
    go_upto_region 1 with fail
    refine wp_at HW.out.symm ?_
    clear HW hm
    go_wp2_with (first
      | (go_at_call 15; with_reducible refine HM.out.mono ?_; rintro e w2 ⟨rfl, rfl⟩)
      | (go_at_call 14; refine (awake_any HI.out.toIdentA _ HT.out).mono ?_; rintro e w3 ⟨rfl, hb3⟩))
    go_ret
    exact ⟨rfl, HB.out.trans (hb3.mono HB.out.size)⟩
  have hm' := hm
  rw [Bool.not_eq_true] at hm'
  rw [hm'] at HM
  have hl : L.length ≤ 60 := by simp at hm; omega
  have hl2 : M.length ≤ 60 := by simp at hm; omega
  have hsl := setL_len L
  clear hm hm'
  go_enter Try.func4, Try.ntmps4
  go_upto_region 1 with fail
  refine wp_at HW.out.symm ?_
  rw [← HCC.out]
  clear HW
  go_upto_region 4 with (first
    | (go_at_call 15; with_reducible refine HM.out.mono ?_; rintro e w2 ⟨rfl, rfl⟩)
    | (go_at_call 16; with_reducible refine (rset_v H1.out (by omega)).mono ?_; rintro e w3 ⟨vs, rfl, hgs, hb3⟩))
  have HST := Lib.hid (show ISt T w C x v1 v2 vs L M w3 from ⟨HI.out.next HT.out hb3, HB.out.trans (hb3.mono HB.out.size), HX.out.below hb3 HX.out.lt, hx, H1.out.next hb3, H2.out.next hb3, hgs.1, HI.out.next⟩)
  clear hgs hb3 HX HB HT H1 H2 HM
  refine wp_region_held_drew (S := ISt T w C x v1 v2 vs L M) (by kernel_rfl) ?_ (fun hHeld => ?_)
  · exact HST.out.drew
  refine' wpAnyH_take (i := 0) ?higa0 (by kernel_rfl) (by kernel_rfl) (by kernel_rfl) ?hqga0 (Or.inl ⟨?hwga0, ?hyga0⟩) (by assumption) ?hrga0
  case higa0 => (simp only [List.getElem?_toArray, List.getElem?_cons_succ, List.getElem?_cons_zero]; rfl)
  case hqga0 => exact fun _ _ _ h => h
  case hwga0 => rfl
  case hyga0 => (intro w0 hSw; (try dsimp only at hSw); go_simp; try with_reducible rfl)
  (try simp only [Act.put, List.setIfInBounds_toArray, List.set_cons_zero, List.set_cons_succ])
  refine' wpAnyH_take (i := 2) ?higa2 (by kernel_rfl) (by kernel_rfl) (by kernel_rfl) ?hqga2 (Or.inl ⟨?hwga2, ?hyga2⟩) (by assumption) ?hrga2
  case higa2 => (simp only [List.getElem?_toArray, List.getElem?_cons_succ, List.getElem?_cons_zero]; rfl)
  case hqga2 => exact fun _ _ _ h => h
  case hwga2 => rfl
  case hyga2 => (intro w0 hSw; (try dsimp only at hSw); go_simp; try with_reducible rfl)
  (try simp only [Act.put, List.setIfInBounds_toArray, List.set_cons_zero, List.set_cons_succ])
  refine wpAnyH_ready (rs := [1]) (by kernel_rfl) (by simp) ?_
  refine' AllReadyH.cons ?higa1 (fun K hK => ?hrga1) AllReadyH.nil
  case higa1 => (simp only [List.getElem?_toArray, List.getElem?_cons_succ, List.getElem?_cons_zero]; rfl)
  go_simp
  refine (HI.out.set L v1 _ hHeld.tt hHeld.r1 (by omega)).mono ?_; rintro e wA1 ⟨u1, rfl, hm1, hbwA1⟩
  refine hK.out _ _ ?_ (fun hHeld => ?_)
  · exact hHeld.next hbwA1
  clear hK K
  (try simp only [Act.put, List.setIfInBounds_toArray, List.set_cons_zero, List.set_cons_succ])
  refine wpAnyH_ready (rs := [3]) (by kernel_rfl) (by simp) ?_
  refine' AllReadyH.cons ?higa3 (fun K hK => ?hrga3) AllReadyH.nil
  case higa3 => (simp only [List.getElem?_toArray, List.getElem?_cons_succ, List.getElem?_cons_zero]; rfl)
  go_simp
  refine (rsame_eq hm1.rd (hHeld.rs)).mono ?_; rintro e wA2 ⟨rfl, hbwA2⟩
  refine hK.out _ _ ?_ (fun hHeld => ?_)
  · exact hHeld.next hbwA2
  clear hK K
  (try simp only [Act.put, List.setIfInBounds_toArray, List.set_cons_zero, List.set_cons_succ])
  refine' wpAnyH_take (i := 4) ?higa4 (by kernel_rfl) (by kernel_rfl) (by kernel_rfl) ?hqga4 (Or.inl ⟨?hwga4, ?hyga4⟩) (by assumption) ?hrga4
  case higa4 => (simp only [List.getElem?_toArray, List.getElem?_cons_succ, List.getElem?_cons_zero]; rfl)
  case hqga4 => exact fun _ _ _ h => h
  case hwga4 => rfl
  case hyga4 => (intro w0 hSw; (try dsimp only at hSw); go_simp; try with_reducible rfl)
  (try simp only [Act.put, List.setIfInBounds_toArray, List.set_cons_zero, List.set_cons_succ])
  refine' wpAnyH_take (i := 5) ?higa5 (by kernel_rfl) (by kernel_rfl) (by kernel_rfl) ?hqga5 (Or.inl ⟨?hwga5, ?hyga5⟩) (by assumption) ?hrga5
  case higa5 => (simp only [List.getElem?_toArray, List.getElem?_cons_succ, List.getElem?_cons_zero]; rfl)
  case hqga5 => exact fun _ _ _ h => h
  case hwga5 => rfl
  case hyga5 => (intro w0 hSw; (try dsimp only at hSw); go_simp; try with_reducible rfl)
  (try simp only [Act.put, List.setIfInBounds_toArray, List.set_cons_zero, List.set_cons_succ])
  refine' wpAnyH_take (i := 6) ?higa6 (by kernel_rfl) (by kernel_rfl) (by kernel_rfl) ?hqga6 (Or.inl ⟨?hwga6, ?hyga6⟩) (by assumption) ?hrga6
  case higa6 => (simp only [List.getElem?_toArray, List.getElem?_cons_succ, List.getElem?_cons_zero]; rfl)
  case hqga6 => exact fun _ _ _ h => h
  case hwga6 => rfl
  case hyga6 => (intro w0 hSw; (try dsimp only at hSw); go_simp; try with_reducible rfl)
  (try simp only [Act.put, List.setIfInBounds_toArray, List.set_cons_zero, List.set_cons_succ])
  refine' wpAnyH_take (i := 8) ?higa8 (by kernel_rfl) (by kernel_rfl) (by kernel_rfl) ?hqga8 (Or.inl ⟨?hwga8, ?hyga8⟩) (by assumption) ?hrga8
  case higa8 => (simp only [List.getElem?_toArray, List.getElem?_cons_succ, List.getElem?_cons_zero]; rfl)
  case hqga8 => exact fun _ _ _ h => h
  case hwga8 => rfl
  case hyga8 => (intro w0 hSw; (try dsimp only at hSw); go_simp; try with_reducible rfl)
  (try simp only [Act.put, List.setIfInBounds_toArray, List.set_cons_zero, List.set_cons_succ])
  refine wpAnyH_ready (rs := [7]) (by kernel_rfl) (by simp) ?_
  refine' AllReadyH.cons ?higa7 (fun K hK => ?hrga7) AllReadyH.nil
  case higa7 => (simp only [List.getElem?_toArray, List.getElem?_cons_succ, List.getElem?_cons_zero]; rfl)
  go_simp
  refine (HI.out.is L v1 _ hHeld.tt hHeld.r1 (by omega)).mono ?_; rintro e wA3 ⟨rfl, hbwA3⟩
  refine hK.out _ _ ?_ (fun hHeld => ?_)
  · exact hHeld.next hbwA3
  clear hK K
  (try simp only [Act.put, List.setIfInBounds_toArray, List.set_cons_zero, List.set_cons_succ])
  refine wpAnyH_ready (rs := [9]) (by kernel_rfl) (by simp) ?_
  refine' AllReadyH.cons ?higa9 (fun K hK => ?hrga9) AllReadyH.nil
  case higa9 => (simp only [List.getElem?_toArray, List.getElem?_cons_succ, List.getElem?_cons_zero]; rfl)
  go_simp
  refine (ris_v hHeld.r1 (by omega)).mono ?_; rintro e wA4 ⟨rfl, hbwA4⟩
  refine hK.out _ _ ?_ (fun hHeld => ?_)
  · exact hHeld.next hbwA4
  clear hK K
  (try simp only [Act.put, List.setIfInBounds_toArray, List.set_cons_zero, List.set_cons_succ])
  refine' wpAnyH_take (i := 10) ?higa10 (by kernel_rfl) (by kernel_rfl) (by kernel_rfl) ?hqga10 (Or.inl ⟨?hwga10, ?hyga10⟩) (by assumption) ?hrga10
  case higa10 => (simp only [List.getElem?_toArray, List.getElem?_cons_succ, List.getElem?_cons_zero]; rfl)
  case hqga10 => exact fun _ _ _ h => h
  case hwga10 => rfl
  case hyga10 => (intro w0 hSw; (try dsimp only at hSw); go_simp; try with_reducible rfl)
  (try simp only [Act.put, List.setIfInBounds_toArray, List.set_cons_zero, List.set_cons_succ])
  refine' wpAnyH_take (i := 11) ?higa11 (by kernel_rfl) (by kernel_rfl) (by kernel_rfl) ?hqga11 (Or.inl ⟨?hwga11, ?hyga11⟩) (by assumption) ?hrga11
  case higa11 => (simp only [List.getElem?_toArray, List.getElem?_cons_succ, List.getElem?_cons_zero]; rfl)
  case hqga11 => exact fun _ _ _ h => h
  case hwga11 => rfl
  case hyga11 => (intro w0 hSw; (try dsimp only at hSw); go_simp; try with_reducible rfl)
  (try simp only [Act.put, List.setIfInBounds_toArray, List.set_cons_zero, List.set_cons_succ])
  refine' wpAnyH_take (i := 12) ?higa12 (by kernel_rfl) (by kernel_rfl) (by kernel_rfl) ?hqga12 (Or.inl ⟨?hwga12, ?hyga12⟩) (by assumption) ?hrga12
  case higa12 => (simp only [List.getElem?_toArray, List.getElem?_cons_succ, List.getElem?_cons_zero]; rfl)
  case hqga12 => exact fun _ _ _ h => h
  case hwga12 => rfl
  case hyga12 => (intro w0 hSw; (try dsimp only at hSw); go_simp; try with_reducible rfl)
  (try simp only [Act.put, List.setIfInBounds_toArray, List.set_cons_zero, List.set_cons_succ])
  refine' wpAnyH_take (i := 13) ?higa13 (by kernel_rfl) (by kernel_rfl) (by kernel_rfl) ?hqga13 (Or.inl ⟨?hwga13, ?hyga13⟩) (by assumption) ?hrga13
  case higa13 => (simp only [List.getElem?_toArray, List.getElem?_cons_succ, List.getElem?_cons_zero]; rfl)
  case hqga13 => exact fun _ _ _ h => h
  case hwga13 => rfl
  case hyga13 => (intro w0 hSw; (try dsimp only at hSw); go_simp; try with_reducible rfl)
  (try simp only [Act.put, List.setIfInBounds_toArray, List.set_cons_zero, List.set_cons_succ])
  refine' wpAnyH_take (i := 14) ?higa14 (by kernel_rfl) (by kernel_rfl) (by kernel_rfl) ?hqga14 (Or.inl ⟨?hwga14, ?hyga14⟩) (by assumption) ?hrga14
  case higa14 => (simp only [List.getElem?_toArray, List.getElem?_cons_succ, List.getElem?_cons_zero]; rfl)
  case hqga14 => exact fun _ _ _ h => h
  case hwga14 => rfl
  case hyga14 => exact fun w0 hSw => run_exec_load rfl rfl (hSw.box_load)
  (try simp only [Act.put, List.setIfInBounds_toArray, List.set_cons_zero, List.set_cons_succ])
  refine' wpAnyH_take (i := 16) ?higa16 (by kernel_rfl) (by kernel_rfl) (by kernel_rfl) ?hqga16 (Or.inl ⟨?hwga16, ?hyga16⟩) (by assumption) ?hrga16
  case higa16 => (simp only [List.getElem?_toArray, List.getElem?_cons_succ, List.getElem?_cons_zero]; rfl)
  case hqga16 => exact fun _ _ _ h => h
  case hwga16 => rfl
  case hyga16 => (intro w0 hSw; (try dsimp only at hSw); go_simp; try with_reducible rfl)
  (try simp only [Act.put, List.setIfInBounds_toArray, List.set_cons_zero, List.set_cons_succ])
  refine' wpAnyH_take (i := 17) ?higa17 (by kernel_rfl) (by kernel_rfl) (by kernel_rfl) ?hqga17 (Or.inl ⟨?hwga17, ?hyga17⟩) (by assumption) ?hrga17
  case higa17 => (simp only [List.getElem?_toArray, List.getElem?_cons_succ, List.getElem?_cons_zero]; rfl)
  case hqga17 => exact fun _ _ _ h => h
  case hwga17 => rfl
  case hyga17 => exact fun w0 hSw => run_exec_load rfl rfl (hSw.box_load)
  (try simp only [Act.put, List.setIfInBounds_toArray, List.set_cons_zero, List.set_cons_succ])
  refine wpAnyH_ready (rs := [15]) (by kernel_rfl) (by simp) ?_
  refine' AllReadyH.cons ?higa15 (fun K hK => ?hrga15) AllReadyH.nil
  case higa15 => (simp only [List.getElem?_toArray, List.getElem?_cons_succ, List.getElem?_cons_zero]; rfl)
  go_simp
  refine (HI.out.has L x v1 _ hHeld.tt hHeld.r1 (by omega) hx).mono ?_; rintro e wA5 ⟨rfl, hbwA5⟩
  refine hK.out _ _ ?_ (fun hHeld => ?_)
  · exact hHeld.next hbwA5
  clear hK K
  (try simp only [Act.put, List.setIfInBounds_toArray, List.set_cons_zero, List.set_cons_succ])
  refine wpAnyH_ready (rs := [18]) (by kernel_rfl) (by simp) ?_
  refine' AllReadyH.cons ?higa18 (fun K hK => ?hrga18) AllReadyH.nil
  case higa18 => (simp only [List.getElem?_toArray, List.getElem?_cons_succ, List.getElem?_cons_zero]; rfl)
  go_simp
  refine (rhas_v hHeld.r1 hx).mono ?_; rintro e wA6 ⟨rfl, hbwA6⟩
  refine hK.out _ _ ?_ (fun hHeld => ?_)
  · exact hHeld.next hbwA6
  clear hK K
  (try simp only [Act.put, List.setIfInBounds_toArray, List.set_cons_zero, List.set_cons_succ])
  refine' wpAnyH_take (i := 19) ?higa19 (by kernel_rfl) (by kernel_rfl) (by kernel_rfl) ?hqga19 (Or.inl ⟨?hwga19, ?hyga19⟩) (by assumption) ?hrga19
  case higa19 => (simp only [List.getElem?_toArray, List.getElem?_cons_succ, List.getElem?_cons_zero]; rfl)
  case hqga19 => exact fun _ _ _ h => h
  case hwga19 => rfl
  case hyga19 => (intro w0 hSw; (try dsimp only at hSw); go_simp; try with_reducible rfl)
  (try simp only [Act.put, List.setIfInBounds_toArray, List.set_cons_zero, List.set_cons_succ])
  refine' wpAnyH_take (i := 20) ?higa20 (by kernel_rfl) (by kernel_rfl) (by kernel_rfl) ?hqga20 (Or.inl ⟨?hwga20, ?hyga20⟩) (by assumption) ?hrga20
  case higa20 => (simp only [List.getElem?_toArray, List.getElem?_cons_succ, List.getElem?_cons_zero]; rfl)
  case hqga20 => exact fun _ _ _ h => h
  case hwga20 => rfl
  case hyga20 => (intro w0 hSw; (try dsimp only at hSw); go_simp; try with_reducible rfl)
  (try simp only [Act.put, List.setIfInBounds_toArray, List.set_cons_zero, List.set_cons_succ])
  refine wpAnyH_done (by kernel_rfl) ?_ _
  go_wp2_with fail
  have HST2 := Lib.hid hHeld
  clear hHeld
  refine wp_region_held_drew (S := ISt T w C x v1 v2 vs L M) (by kernel_rfl) ?_ (fun hHeld => ?_)
  · exact HST2.out.drew
  refine' wpAnyH_take (i := 0) ?higb0 (by kernel_rfl) (by kernel_rfl) (by kernel_rfl) ?hqgb0 (Or.inl ⟨?hwgb0, ?hygb0⟩) (by assumption) ?hrgb0
  case higb0 => (simp only [List.getElem?_toArray, List.getElem?_cons_succ, List.getElem?_cons_zero]; rfl)
  case hqgb0 => exact fun _ _ _ h => h
  case hwgb0 => rfl
  case hygb0 => (intro w0 hSw; (try dsimp only at hSw); go_simp; try with_reducible rfl)
  (try simp only [Act.put, List.setIfInBounds_toArray, List.set_cons_zero, List.set_cons_succ])
  refine' wpAnyH_take (i := 1) ?higb1 (by kernel_rfl) (by kernel_rfl) (by kernel_rfl) ?hqgb1 (Or.inl ⟨?hwgb1, ?hygb1⟩) (by assumption) ?hrgb1
  case higb1 => (simp only [List.getElem?_toArray, List.getElem?_cons_succ, List.getElem?_cons_zero]; rfl)
  case hqgb1 => exact fun _ _ _ h => h
  case hwgb1 => rfl
  case hygb1 => exact fun w0 hSw => run_exec_load rfl rfl (hSw.box_load)
  (try simp only [Act.put, List.setIfInBounds_toArray, List.set_cons_zero, List.set_cons_succ])
  refine' wpAnyH_take (i := 3) ?higb3 (by kernel_rfl) (by kernel_rfl) (by kernel_rfl) ?hqgb3 (Or.inl ⟨?hwgb3, ?hygb3⟩) (by assumption) ?hrgb3
  case higb3 => (simp only [List.getElem?_toArray, List.getElem?_cons_succ, List.getElem?_cons_zero]; rfl)
  case hqgb3 => exact fun _ _ _ h => h
  case hwgb3 => rfl
  case hygb3 => (intro w0 hSw; (try dsimp only at hSw); go_simp; try with_reducible rfl)
  (try simp only [Act.put, List.setIfInBounds_toArray, List.set_cons_zero, List.set_cons_succ])
  refine' wpAnyH_take (i := 4) ?higb4 (by kernel_rfl) (by kernel_rfl) (by kernel_rfl) ?hqgb4 (Or.inl ⟨?hwgb4, ?hygb4⟩) (by assumption) ?hrgb4
  case higb4 => (simp only [List.getElem?_toArray, List.getElem?_cons_succ, List.getElem?_cons_zero]; rfl)
  case hqgb4 => exact fun _ _ _ h => h
  case hwgb4 => rfl
  case hygb4 => exact fun w0 hSw => run_exec_load rfl rfl (hSw.box_load)
  (try simp only [Act.put, List.setIfInBounds_toArray, List.set_cons_zero, List.set_cons_succ])
  refine wpAnyH_ready (rs := [2]) (by kernel_rfl) (by simp) ?_
  refine' AllReadyH.cons ?higb2 (fun K hK => ?hrgb2) AllReadyH.nil
  case higb2 => (simp only [List.getElem?_toArray, List.getElem?_cons_succ, List.getElem?_cons_zero]; rfl)
  go_simp
  refine (HI.out.with_ L x v1 _ hHeld.tt hHeld.r1 (by omega) hx).mono ?_; rintro e wB1 ⟨u1, rfl, hm1, hbwB1⟩
  refine hK.out _ _ ?_ (fun hHeld => ?_)
  · exact hHeld.next hbwB1
  clear hK K
  (try simp only [Act.put, List.setIfInBounds_toArray, List.set_cons_zero, List.set_cons_succ])
  refine wpAnyH_ready (rs := [5]) (by kernel_rfl) (by simp) ?_
  refine' AllReadyH.cons ?higb5 (fun K hK => ?hrgb5) AllReadyH.nil
  case higb5 => (simp only [List.getElem?_toArray, List.getElem?_cons_succ, List.getElem?_cons_zero]; rfl)
  go_simp
  refine (rwith_v hHeld.rs hx (by omega)).mono ?_; rintro e wB2 ⟨q1, rfl, hg1, hbwB2⟩
  refine hK.out _ _ ?_ (fun hHeld => ?_)
  · exact hHeld.next hbwB2
  clear hK K
  (try simp only [Act.put, List.setIfInBounds_toArray, List.set_cons_zero, List.set_cons_succ])
  refine wpAnyH_ready (rs := [6]) (by kernel_rfl) (by simp) ?_
  refine' AllReadyH.cons ?higb6 (fun K hK => ?hrgb6) AllReadyH.nil
  case higb6 => (simp only [List.getElem?_toArray, List.getElem?_cons_succ, List.getElem?_cons_zero]; rfl)
  go_simp
  refine (rsame_eq (hm1.rd.next hbwB2) hg1.1).mono ?_; rintro e wB3 ⟨rfl, hbwB3⟩
  refine hK.out _ _ ?_ (fun hHeld => ?_)
  · exact hHeld.next hbwB3
  clear hK K
  (try simp only [Act.put, List.setIfInBounds_toArray, List.set_cons_zero, List.set_cons_succ])
  refine' wpAnyH_take (i := 7) ?higb7 (by kernel_rfl) (by kernel_rfl) (by kernel_rfl) ?hqgb7 (Or.inl ⟨?hwgb7, ?hygb7⟩) (by assumption) ?hrgb7
  case higb7 => (simp only [List.getElem?_toArray, List.getElem?_cons_succ, List.getElem?_cons_zero]; rfl)
  case hqgb7 => exact fun _ _ _ h => h
  case hwgb7 => rfl
  case hygb7 => (intro w0 hSw; (try dsimp only at hSw); go_simp; try with_reducible rfl)
  (try simp only [Act.put, List.setIfInBounds_toArray, List.set_cons_zero, List.set_cons_succ])
  refine' wpAnyH_take (i := 8) ?higb8 (by kernel_rfl) (by kernel_rfl) (by kernel_rfl) ?hqgb8 (Or.inl ⟨?hwgb8, ?hygb8⟩) (by assumption) ?hrgb8
  case higb8 => (simp only [List.getElem?_toArray, List.getElem?_cons_succ, List.getElem?_cons_zero]; rfl)
  case hqgb8 => exact fun _ _ _ h => h
  case hwgb8 => rfl
  case hygb8 => (intro w0 hSw; (try dsimp only at hSw); go_simp; try with_reducible rfl)
  (try simp only [Act.put, List.setIfInBounds_toArray, List.set_cons_zero, List.set_cons_succ])
  refine' wpAnyH_take (i := 9) ?higb9 (by kernel_rfl) (by kernel_rfl) (by kernel_rfl) ?hqgb9 (Or.inl ⟨?hwgb9, ?hygb9⟩) (by assumption) ?hrgb9
  case higb9 => (simp only [List.getElem?_toArray, List.getElem?_cons_succ, List.getElem?_cons_zero]; rfl)
  case hqgb9 => exact fun _ _ _ h => h
  case hwgb9 => rfl
  case hygb9 => exact fun w0 hSw => run_exec_load rfl rfl (hSw.box_load)
  (try simp only [Act.put, List.setIfInBounds_toArray, List.set_cons_zero, List.set_cons_succ])
  refine' wpAnyH_take (i := 11) ?higb11 (by kernel_rfl) (by kernel_rfl) (by kernel_rfl) ?hqgb11 (Or.inl ⟨?hwgb11, ?hygb11⟩) (by assumption) ?hrgb11
  case higb11 => (simp only [List.getElem?_toArray, List.getElem?_cons_succ, List.getElem?_cons_zero]; rfl)
  case hqgb11 => exact fun _ _ _ h => h
  case hwgb11 => rfl
  case hygb11 => (intro w0 hSw; (try dsimp only at hSw); go_simp; try with_reducible rfl)
  (try simp only [Act.put, List.setIfInBounds_toArray, List.set_cons_zero, List.set_cons_succ])
  refine' wpAnyH_take (i := 12) ?higb12 (by kernel_rfl) (by kernel_rfl) (by kernel_rfl) ?hqgb12 (Or.inl ⟨?hwgb12, ?hygb12⟩) (by assumption) ?hrgb12
  case higb12 => (simp only [List.getElem?_toArray, List.getElem?_cons_succ, List.getElem?_cons_zero]; rfl)
  case hqgb12 => exact fun _ _ _ h => h
  case hwgb12 => rfl
  case hygb12 => exact fun w0 hSw => run_exec_load rfl rfl (hSw.box_load)
  (try simp only [Act.put, List.setIfInBounds_toArray, List.set_cons_zero, List.set_cons_succ])
  refine wpAnyH_ready (rs := [10]) (by kernel_rfl) (by simp) ?_
  refine' AllReadyH.cons ?higb10 (fun K hK => ?hrgb10) AllReadyH.nil
  case higb10 => (simp only [List.getElem?_toArray, List.getElem?_cons_succ, List.getElem?_cons_zero]; rfl)
  go_simp
  refine (HI.out.without L x v1 _ hHeld.tt hHeld.r1 (by omega) hx).mono ?_; rintro e wB4 ⟨u2, rfl, hm2, hbwB4⟩
  refine hK.out _ _ ?_ (fun hHeld => ?_)
  · exact hHeld.next hbwB4
  clear hK K
  (try simp only [Act.put, List.setIfInBounds_toArray, List.set_cons_zero, List.set_cons_succ])
  refine wpAnyH_ready (rs := [13]) (by kernel_rfl) (by simp) ?_
  refine' AllReadyH.cons ?higb13 (fun K hK => ?hrgb13) AllReadyH.nil
  case higb13 => (simp only [List.getElem?_toArray, List.getElem?_cons_succ, List.getElem?_cons_zero]; rfl)
  go_simp
  refine (rwithout_v hHeld.rs hx (by omega)).mono ?_; rintro e wB5 ⟨q2, rfl, hg2, hbwB5⟩
  refine hK.out _ _ ?_ (fun hHeld => ?_)
  · exact hHeld.next hbwB5
  clear hK K
  (try simp only [Act.put, List.setIfInBounds_toArray, List.set_cons_zero, List.set_cons_succ])
  refine wpAnyH_ready (rs := [14]) (by kernel_rfl) (by simp) ?_
  refine' AllReadyH.cons ?higb14 (fun K hK => ?hrgb14) AllReadyH.nil
  case higb14 => (simp only [List.getElem?_toArray, List.getElem?_cons_succ, List.getElem?_cons_zero]; rfl)
  go_simp
  refine (rsame_eq (hm2.rd.next hbwB5) hg2.1).mono ?_; rintro e wB6 ⟨rfl, hbwB6⟩
  refine hK.out _ _ ?_ (fun hHeld => ?_)
  · exact hHeld.next hbwB6
  clear hK K
  (try simp only [Act.put, List.setIfInBounds_toArray, List.set_cons_zero, List.set_cons_succ])
  refine' wpAnyH_take (i := 15) ?higb15 (by kernel_rfl) (by kernel_rfl) (by kernel_rfl) ?hqgb15 (Or.inl ⟨?hwgb15, ?hygb15⟩) (by assumption) ?hrgb15
  case higb15 => (simp only [List.getElem?_toArray, List.getElem?_cons_succ, List.getElem?_cons_zero]; rfl)
  case hqgb15 => exact fun _ _ _ h => h
  case hwgb15 => rfl
  case hygb15 => (intro w0 hSw; (try dsimp only at hSw); go_simp; try with_reducible rfl)
  (try simp only [Act.put, List.setIfInBounds_toArray, List.set_cons_zero, List.set_cons_succ])
  refine' wpAnyH_take (i := 16) ?higb16 (by kernel_rfl) (by kernel_rfl) (by kernel_rfl) ?hqgb16 (Or.inl ⟨?hwgb16, ?hygb16⟩) (by assumption) ?hrgb16
  case higb16 => (simp only [List.getElem?_toArray, List.getElem?_cons_succ, List.getElem?_cons_zero]; rfl)
  case hqgb16 => exact fun _ _ _ h => h
  case hwgb16 => rfl
  case hygb16 => (intro w0 hSw; (try dsimp only at hSw); go_simp; try with_reducible rfl)
  (try simp only [Act.put, List.setIfInBounds_toArray, List.set_cons_zero, List.set_cons_succ])
  refine' wpAnyH_take (i := 17) ?higb17 (by kernel_rfl) (by kernel_rfl) (by kernel_rfl) ?hqgb17 (Or.inl ⟨?hwgb17, ?hygb17⟩) (by assumption) ?hrgb17
  case higb17 => (simp only [List.getElem?_toArray, List.getElem?_cons_succ, List.getElem?_cons_zero]; rfl)
  case hqgb17 => exact fun _ _ _ h => h
  case hwgb17 => rfl
  case hygb17 => (intro w0 hSw; (try dsimp only at hSw); go_simp; try with_reducible rfl)
  (try simp only [Act.put, List.setIfInBounds_toArray, List.set_cons_zero, List.set_cons_succ])
  refine' wpAnyH_take (i := 18) ?higb18 (by kernel_rfl) (by kernel_rfl) (by kernel_rfl) ?hqgb18 (Or.inl ⟨?hwgb18, ?hygb18⟩) (by assumption) ?hrgb18
  case higb18 => (simp only [List.getElem?_toArray, List.getElem?_cons_succ, List.getElem?_cons_zero]; rfl)
  case hqgb18 => exact fun _ _ _ h => h
  case hwgb18 => rfl
  case hygb18 => (intro w0 hSw; (try dsimp only at hSw); go_simp; try with_reducible rfl)
  (try simp only [Act.put, List.setIfInBounds_toArray, List.set_cons_zero, List.set_cons_succ])
  refine' wpAnyH_take (i := 20) ?higb20 (by kernel_rfl) (by kernel_rfl) (by kernel_rfl) ?hqgb20 (Or.inl ⟨?hwgb20, ?hygb20⟩) (by assumption) ?hrgb20
  case higb20 => (simp only [List.getElem?_toArray, List.getElem?_cons_succ, List.getElem?_cons_zero]; rfl)
  case hqgb20 => exact fun _ _ _ h => h
  case hwgb20 => rfl
  case hygb20 => (intro w0 hSw; (try dsimp only at hSw); go_simp; try with_reducible rfl)
  (try simp only [Act.put, List.setIfInBounds_toArray, List.set_cons_zero, List.set_cons_succ])
  refine' wpAnyH_take (i := 21) ?higb21 (by kernel_rfl) (by kernel_rfl) (by kernel_rfl) ?hqgb21 (Or.inl ⟨?hwgb21, ?hygb21⟩) (by assumption) ?hrgb21
  case higb21 => (simp only [List.getElem?_toArray, List.getElem?_cons_succ, List.getElem?_cons_zero]; rfl)
  case hqgb21 => exact fun _ _ _ h => h
  case hwgb21 => rfl
  case hygb21 => (intro w0 hSw; (try dsimp only at hSw); go_simp; try with_reducible rfl)
  (try simp only [Act.put, List.setIfInBounds_toArray, List.set_cons_zero, List.set_cons_succ])
  refine wpAnyH_ready (rs := [19]) (by kernel_rfl) (by simp) ?_
  refine' AllReadyH.cons ?higb19 (fun K hK => ?hrgb19) AllReadyH.nil
  case higb19 => (simp only [List.getElem?_toArray, List.getElem?_cons_succ, List.getElem?_cons_zero]; rfl)
  go_simp
  refine (HI.out.less L M v1 v2 _ hHeld.tt hHeld.r1 hHeld.r2 (by omega) (by omega)).mono ?_; rintro e wB7 ⟨u3, rfl, hm3, hbwB7⟩
  refine hK.out _ _ ?_ (fun hHeld => ?_)
  · exact hHeld.next hbwB7
  clear hK K
  (try simp only [Act.put, List.setIfInBounds_toArray, List.set_cons_zero, List.set_cons_succ])
  refine wpAnyH_ready (rs := [22]) (by kernel_rfl) (by simp) ?_
  refine' AllReadyH.cons ?higb22 (fun K hK => ?hrgb22) AllReadyH.nil
  case higb22 => (simp only [List.getElem?_toArray, List.getElem?_cons_succ, List.getElem?_cons_zero]; rfl)
  go_simp
  refine (rless_v hHeld.r1 hHeld.r2 (by omega)).mono ?_; rintro e wB8 ⟨q3, rfl, hg3, hbwB8⟩
  refine hK.out _ _ ?_ (fun hHeld => ?_)
  · exact hHeld.next hbwB8
  clear hK K
  (try simp only [Act.put, List.setIfInBounds_toArray, List.set_cons_zero, List.set_cons_succ])
  refine wpAnyH_ready (rs := [23]) (by kernel_rfl) (by simp) ?_
  refine' AllReadyH.cons ?higb23 (fun K hK => ?hrgb23) AllReadyH.nil
  case higb23 => (simp only [List.getElem?_toArray, List.getElem?_cons_succ, List.getElem?_cons_zero]; rfl)
  go_simp
  refine (rsame_eq (hm3.rd.next hbwB8) hg3.1).mono ?_; rintro e wB9 ⟨rfl, hbwB9⟩
  refine hK.out _ _ ?_ (fun hHeld => ?_)
  · exact hHeld.next hbwB9
  clear hK K
  (try simp only [Act.put, List.setIfInBounds_toArray, List.set_cons_zero, List.set_cons_succ])
  refine' wpAnyH_take (i := 24) ?higb24 (by kernel_rfl) (by kernel_rfl) (by kernel_rfl) ?hqgb24 (Or.inl ⟨?hwgb24, ?hygb24⟩) (by assumption) ?hrgb24
  case higb24 => (simp only [List.getElem?_toArray, List.getElem?_cons_succ, List.getElem?_cons_zero]; rfl)
  case hqgb24 => exact fun _ _ _ h => h
  case hwgb24 => rfl
  case hygb24 => (intro w0 hSw; (try dsimp only at hSw); go_simp; try with_reducible rfl)
  (try simp only [Act.put, List.setIfInBounds_toArray, List.set_cons_zero, List.set_cons_succ])
  refine' wpAnyH_take (i := 25) ?higb25 (by kernel_rfl) (by kernel_rfl) (by kernel_rfl) ?hqgb25 (Or.inl ⟨?hwgb25, ?hygb25⟩) (by assumption) ?hrgb25
  case higb25 => (simp only [List.getElem?_toArray, List.getElem?_cons_succ, List.getElem?_cons_zero]; rfl)
  case hqgb25 => exact fun _ _ _ h => h
  case hwgb25 => rfl
  case hygb25 => (intro w0 hSw; (try dsimp only at hSw); go_simp; try with_reducible rfl)
  (try simp only [Act.put, List.setIfInBounds_toArray, List.set_cons_zero, List.set_cons_succ])
  refine' wpAnyH_take (i := 26) ?higb26 (by kernel_rfl) (by kernel_rfl) (by kernel_rfl) ?hqgb26 (Or.inl ⟨?hwgb26, ?hygb26⟩) (by assumption) ?hrgb26
  case higb26 => (simp only [List.getElem?_toArray, List.getElem?_cons_succ, List.getElem?_cons_zero]; rfl)
  case hqgb26 => exact fun _ _ _ h => h
  case hwgb26 => rfl
  case hygb26 => (intro w0 hSw; (try dsimp only at hSw); go_simp; try with_reducible rfl)
  (try simp only [Act.put, List.setIfInBounds_toArray, List.set_cons_zero, List.set_cons_succ])
  refine' wpAnyH_take (i := 27) ?higb27 (by kernel_rfl) (by kernel_rfl) (by kernel_rfl) ?hqgb27 (Or.inl ⟨?hwgb27, ?hygb27⟩) (by assumption) ?hrgb27
  case higb27 => (simp only [List.getElem?_toArray, List.getElem?_cons_succ, List.getElem?_cons_zero]; rfl)
  case hqgb27 => exact fun _ _ _ h => h
  case hwgb27 => rfl
  case hygb27 => (intro w0 hSw; (try dsimp only at hSw); go_simp; try with_reducible rfl)
  (try simp only [Act.put, List.setIfInBounds_toArray, List.set_cons_zero, List.set_cons_succ])
  refine' wpAnyH_take (i := 29) ?higb29 (by kernel_rfl) (by kernel_rfl) (by kernel_rfl) ?hqgb29 (Or.inl ⟨?hwgb29, ?hygb29⟩) (by assumption) ?hrgb29
  case higb29 => (simp only [List.getElem?_toArray, List.getElem?_cons_succ, List.getElem?_cons_zero]; rfl)
  case hqgb29 => exact fun _ _ _ h => h
  case hwgb29 => rfl
  case hygb29 => (intro w0 hSw; (try dsimp only at hSw); go_simp; try with_reducible rfl)
  (try simp only [Act.put, List.setIfInBounds_toArray, List.set_cons_zero, List.set_cons_succ])
  refine' wpAnyH_take (i := 30) ?higb30 (by kernel_rfl) (by kernel_rfl) (by kernel_rfl) ?hqgb30 (Or.inl ⟨?hwgb30, ?hygb30⟩) (by assumption) ?hrgb30
  case higb30 => (simp only [List.getElem?_toArray, List.getElem?_cons_succ, List.getElem?_cons_zero]; rfl)
  case hqgb30 => exact fun _ _ _ h => h
  case hwgb30 => rfl
  case hygb30 => (intro w0 hSw; (try dsimp only at hSw); go_simp; try with_reducible rfl)
  (try simp only [Act.put, List.setIfInBounds_toArray, List.set_cons_zero, List.set_cons_succ])
  refine wpAnyH_ready (rs := [28]) (by kernel_rfl) (by simp) ?_
  refine' AllReadyH.cons ?higb28 (fun K hK => ?hrgb28) AllReadyH.nil
  case higb28 => (simp only [List.getElem?_toArray, List.getElem?_cons_succ, List.getElem?_cons_zero]; rfl)
  go_simp
  refine (HI.out.both L M v1 v2 _ hHeld.tt hHeld.r1 hHeld.r2 (by omega) (by omega)).mono ?_; rintro e wC1 ⟨u4, rfl, hm4, hbwC1⟩
  refine hK.out _ _ ?_ (fun hHeld => ?_)
  · exact hHeld.next hbwC1
  clear hK K
  (try simp only [Act.put, List.setIfInBounds_toArray, List.set_cons_zero, List.set_cons_succ])
  refine wpAnyH_ready (rs := [31]) (by kernel_rfl) (by simp) ?_
  refine' AllReadyH.cons ?higb31 (fun K hK => ?hrgb31) AllReadyH.nil
  case higb31 => (simp only [List.getElem?_toArray, List.getElem?_cons_succ, List.getElem?_cons_zero]; rfl)
  go_simp
  refine (rboth_v hHeld.r1 hHeld.r2 (by omega)).mono ?_; rintro e wC2 ⟨q4, rfl, hg4, hbwC2⟩
  refine hK.out _ _ ?_ (fun hHeld => ?_)
  · exact hHeld.next hbwC2
  clear hK K
  (try simp only [Act.put, List.setIfInBounds_toArray, List.set_cons_zero, List.set_cons_succ])
  refine wpAnyH_ready (rs := [32]) (by kernel_rfl) (by simp) ?_
  refine' AllReadyH.cons ?higb32 (fun K hK => ?hrgb32) AllReadyH.nil
  case higb32 => (simp only [List.getElem?_toArray, List.getElem?_cons_succ, List.getElem?_cons_zero]; rfl)
  go_simp
  refine (rsame_eq (hm4.rd.next hbwC2) hg4.1).mono ?_; rintro e wC3 ⟨rfl, hbwC3⟩
  refine hK.out _ _ ?_ (fun hHeld => ?_)
  · exact hHeld.next hbwC3
  clear hK K
  (try simp only [Act.put, List.setIfInBounds_toArray, List.set_cons_zero, List.set_cons_succ])
  refine' wpAnyH_take (i := 33) ?higb33 (by kernel_rfl) (by kernel_rfl) (by kernel_rfl) ?hqgb33 (Or.inl ⟨?hwgb33, ?hygb33⟩) (by assumption) ?hrgb33
  case higb33 => (simp only [List.getElem?_toArray, List.getElem?_cons_succ, List.getElem?_cons_zero]; rfl)
  case hqgb33 => exact fun _ _ _ h => h
  case hwgb33 => rfl
  case hygb33 => (intro w0 hSw; (try dsimp only at hSw); go_simp; try with_reducible rfl)
  (try simp only [Act.put, List.setIfInBounds_toArray, List.set_cons_zero, List.set_cons_succ])
  refine' wpAnyH_take (i := 34) ?higb34 (by kernel_rfl) (by kernel_rfl) (by kernel_rfl) ?hqgb34 (Or.inl ⟨?hwgb34, ?hygb34⟩) (by assumption) ?hrgb34
  case higb34 => (simp only [List.getElem?_toArray, List.getElem?_cons_succ, List.getElem?_cons_zero]; rfl)
  case hqgb34 => exact fun _ _ _ h => h
  case hwgb34 => rfl
  case hygb34 => (intro w0 hSw; (try dsimp only at hSw); go_simp; try with_reducible rfl)
  (try simp only [Act.put, List.setIfInBounds_toArray, List.set_cons_zero, List.set_cons_succ])
  refine wpAnyH_ready (rs := [35]) (by kernel_rfl) (by simp) ?_
  refine' AllReadyH.cons ?higb35 (fun K hK => ?hrgb35) AllReadyH.nil
  case higb35 => (simp only [List.getElem?_toArray, List.getElem?_cons_succ, List.getElem?_cons_zero]; rfl)
  go_simp
  refine (awake_any HI.out.toIdentA _ hHeld.tt).mono ?_; rintro e wC4 ⟨rfl, hbwC4⟩
  refine hK.out _ _ ?_ (fun hHeld => ?_)
  · exact hHeld.next hbwC4
  clear hK K
  (try simp only [Act.put, List.setIfInBounds_toArray, List.set_cons_zero, List.set_cons_succ])
  refine' wpAnyH_take (i := 36) ?higb36 (by kernel_rfl) (by kernel_rfl) (by kernel_rfl) ?hqgb36 (Or.inl ⟨?hwgb36, ?hygb36⟩) (by assumption) ?hrgb36
  case higb36 => (simp only [List.getElem?_toArray, List.getElem?_cons_succ, List.getElem?_cons_zero]; rfl)
  case hqgb36 => exact fun _ _ _ h => h
  case hwgb36 => rfl
  case hygb36 => (intro w0 hSw; (try dsimp only at hSw); go_simp; try with_reducible rfl)
  (try simp only [Act.put, List.setIfInBounds_toArray, List.set_cons_zero, List.set_cons_succ])
  refine' wpAnyH_take (i := 37) ?higb37 (by kernel_rfl) (by kernel_rfl) (by kernel_rfl) ?hqgb37 (Or.inl ⟨?hwgb37, ?hygb37⟩) (by assumption) ?hrgb37
  case higb37 => (simp only [List.getElem?_toArray, List.getElem?_cons_succ, List.getElem?_cons_zero]; rfl)
  case hqgb37 => exact fun _ _ _ h => h
  case hwgb37 => rfl
  case hygb37 => (intro w0 hSw; (try dsimp only at hSw); go_simp; try with_reducible rfl)
  (try simp only [Act.put, List.setIfInBounds_toArray, List.set_cons_zero, List.set_cons_succ])
  refine wpAnyH_done (by kernel_rfl) ?_ _
  go_wp2_with fail
  go_ret
  exact ⟨rfl, hHeld.below⟩
end Go.Proofs.Ytfcoecojjciphaa.ids
