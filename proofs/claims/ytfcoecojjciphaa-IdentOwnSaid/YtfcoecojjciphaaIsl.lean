/-
  ident.With, Without, Less, Both.
-/
import Derived.Test.YtfcoecojjciphaaIsk
import Derived.Test.YtfcoecojjciphaaIsg
import Derived.Test.YtfcoecojjciphaaIdsw
namespace Go.Proofs.Ytfcoecojjciphaa.ids
open Go.Proofs Go.RowKit Go.Proofs.Ytfcoecojjciphaa.mem Go.Proofs.Ytfcoecojjciphaa.sha Go.Proofs.Ytfcoecojjciphaa.srt

theorem with_at {L : List (List UInt8)} {x : List UInt8} {k : Nat} (h : At L x k) (hc : L.contains x = false) : withL L x = L.take k ++ x :: L.drop k := by
  have hw := while_stop (fun y => decide (cmpL y x < 0)) L k h.le (fun j hj => decide_eq_true (h.lo j hj)) (fun hk => decide_eq_false (h.hi k (Nat.le_refl _) hk))
  unfold withL
  rw [if_neg (by rw [hc]; decide), hw.1, hw.2]
theorem wout_at {L : List (List UInt8)} {x : List UInt8} {k : Nat} (hs : Sorted L) (h : At L x k) (hc : L.contains x = true) : k < L.length ∧ woutL L x = L.take k ++ L.drop (k + 1) := by
  have hk : k < L.length ∧ L.getD k [] = x := by
    rw [List.contains_iff_mem] at hc
    obtain ⟨i, hi, e⟩ := List.getElem_of_mem hc
    have hxi : L.getD i [] = x := by rw [List.getD_eq_getElem?_getD, List.getElem?_eq_getElem hi]; exact e
    rcases Nat.lt_trichotomy i k with h1 | h1 | h1
    · have := h.lo i h1; rw [hxi, cmpL_self] at this; exact absurd this (by decide)
    · subst h1; exact ⟨hi, hxi⟩
    · have h2 := sorted_get hs h1 hi
      rw [hxi] at h2
      exact absurd h2 (h.hi k (Nat.le_refl _) (by omega))
  refine ⟨hk.1, ?_⟩
  have e : L = L.take k ++ x :: L.drop (k + 1) := by
    have h1 := List.take_append_drop k L
    rw [List.drop_eq_getElem_cons hk.1] at h1
    have h2 : L[k] = x := by have := hk.2; rw [List.getD_eq_getElem?_getD, List.getElem?_eq_getElem hk.1] at this; exact this
    rw [h2] at h1
    exact h1.symm
  have keep : ∀ M : List (List UInt8), (∀ y ∈ M, y ≠ x) → M.filter (neX x) = M := fun M hM => List.filter_eq_self.2 fun y hy => by unfold neX; simpa using hM y hy
  have hs' := hs
  rw [e] at hs'
  obtain ⟨_, p2, p3⟩ := List.pairwise_append.1 hs'
  have n1 : ∀ y ∈ L.take k, y ≠ x := fun y hy hyx => by have := p3 y hy x List.mem_cons_self; rw [hyx, cmpL_self] at this; exact absurd this (by decide)
  have n2 : ∀ y ∈ L.drop (k + 1), y ≠ x := fun y hy hyx => by have := (List.pairwise_cons.1 p2).1 y hy; rw [hyx, cmpL_self] at this; exact absurd this (by decide)
  have hself : neX x x = false := by unfold neX; simp
  unfold woutL
  conv => lhs; rw [e]
  rw [List.filter_append, List.filter_cons, if_neg (by rw [hself]; decide), keep _ n1, keep _ n2]
theorem wout_not {L : List (List UInt8)} {x : List UInt8} (hc : L.contains x = false) : woutL L x = L := by
  unfold woutL
  refine List.filter_eq_self.2 fun y hy => ?_
  unfold neX
  have : y ≠ x := fun e => by
    rw [Bool.eq_false_iff] at hc
    exact hc (List.contains_iff_mem.2 (e ▸ hy))
  simpa using this
theorem with_in {L : List (List UInt8)} {x : List UInt8} (hc : L.contains x = true) : withL L x = L := by unfold withL; rw [if_pos hc]

set_option maxHeartbeats 4000000 in
set_option maxRecDepth 100000 in
theorem with_any (L : List (List UInt8)) (x : List UInt8) (v : Value) (w : World) (hR : RdV w v L) (hm : L.length ≤ 1000) (hx : x.length = 32) :
    Calls Try.prog 23 #[v, .agg (bv x).toArray] w fun e w' => ∃ v', e = .returned v' ∧ OwnI w' (w.heap.size ≤ ·) v' (withL (setL L) x) ∧ Below w.heap.size w w' := by
  obtain ⟨w1, hw1⟩ : ∃ u, u = w.alloc (.cells (bv x).toArray 23) := ⟨_, rfl⟩
  obtain ⟨S, hS⟩ : ∃ S, S = w.heap.size := ⟨_, rfl⟩
  have hb1 : Below w.heap.size w w1 := by rw [hw1]; exact (Below.refl _ _).alloc (Nat.le_refl _) _
  have hX1 : Blk w1 S 23 (bv x).toArray := by rw [hw1, hS]; exact Blk.new w _ _
  have HSET := Lib.hid (set_any L v w1 (hR.next hb1) (by omega))
  have HX1 := Lib.hid hX1
  have HB1 := Lib.hid hb1
  have HW := Lib.hid hw1
  have HSS := Lib.hid hS
  have hsl : (setL L).length ≤ 1000 := Nat.le_trans (setL_len L) hm
  clear hR hb1 hX1 hw1 hS
  cases hc : (setL L).contains x with
  | true =>
    have HV := Lib.hid (with_in hc)
    go_enter Try.func23, Try.ntmps23
    go_upto_region 1 with fail
    refine wp_at HW.out.symm ?_
    rw [← HSS.out]
    clear HW
    go_wp2_with (first
      | (go_at_call 18; (with_reducible refine HSET.out.mono ?_); rintro e w2 ⟨v1, rfl, hO1, hB2⟩; have HO2 := Lib.hid (hO1.mono fun k hk => Nat.le_trans HB1.out.size hk); have HB2 := Lib.hid (HB1.out.trans (hB2.mono HB1.out.size)); have HX2 := Lib.hid (HX1.out.below hB2 HX1.out.lt); have hbx : (Instr.loadAt 23 (.pointer (some ⟨S, 0, none⟩))).run Try.prog w2 = .ok (.agg (bv x).toArray) w2 := box_load HX2.out hx 0; have HFD := Lib.hid (find_any (setL L) x v1 w2 (hO1.rdv (by omega)).1 (setL_sorted L) hx (by omega)); rw [hc] at HFD; clear hO1 hB2 HSET)
      | ((with_reducible refine step_load (t := 23) (x := .tmp 3) (p := ?lpl1) (v := ?lvl1) ?lgl1 ?lol1 ?lxl1 ?lrl1 ?lhl1); (case lgl1 => rfl); (case lol1 => rfl); (case lxl1 => rfl); (case lrl1 => exact hbx))
      | (go_at_call 38; (with_reducible refine HFD.out.mono ?_); rintro e w3 ⟨k, rfl, HAt, hB3⟩; have HO3 := Lib.hid (HO2.out.below hB3); have HB3 := Lib.hid (HB2.out.trans (hB3.mono HB2.out.size)); clear hB3 HFD))
    go_ret
    rw [HV.out]
    rw [HSS.out]
    exact ⟨_, rfl, HO3.out, HB3.out⟩
  | false =>
    have HCF := Lib.hid hc
    go_enter Try.func23, Try.ntmps23
    go_upto_region 1 with fail
    refine wp_at HW.out.symm ?_
    rw [← HSS.out]
    clear HW
    go_upto_region 5 with (first
      | (go_at_call 18; (with_reducible refine HSET.out.mono ?_); rintro e w2 ⟨v1, rfl, hO1, hB2⟩; have HO2 := Lib.hid (hO1.mono fun k hk => Nat.le_trans HB1.out.size hk); have HB2 := Lib.hid (HB1.out.trans (hB2.mono HB1.out.size)); have HX2 := Lib.hid (HX1.out.below hB2 HX1.out.lt); have hbx : (Instr.loadAt 23 (.pointer (some ⟨S, 0, none⟩))).run Try.prog w2 = .ok (.agg (bv x).toArray) w2 := box_load HX2.out hx 0; have HFD := Lib.hid (find_any (setL L) x v1 w2 (hO1.rdv (by omega)).1 (setL_sorted L) hx (by omega)); rw [hc] at HFD; clear hO1 hB2 HSET)
      | ((with_reducible refine step_load (t := 23) (x := .tmp 3) (p := ?lpl2) (v := ?lvl2) ?lgl2 ?lol2 ?lxl2 ?lrl2 ?lhl2); (case lgl2 => rfl); (case lol2 => rfl); (case lxl2 => rfl); (case lrl2 => exact hbx))
      | (go_at_call 38; (with_reducible refine HFD.out.mono ?_); rintro e w3 ⟨k, rfl, HAt, hB3⟩; have HO3 := Lib.hid (HO2.out.below hB3); have HB3 := Lib.hid (HB2.out.trans (hB3.mono HB2.out.size)); have hbx3 : (Instr.loadAt 23 (.pointer (some ⟨S, 0, none⟩))).run Try.prog w3 = .ok (.agg (bv x).toArray) w3 := box_load (HX2.out.below hB3 HX2.out.lt) hx 0; clear hB3 HFD hbx))
    have hV := Blk.new w3 23 (bv x).toArray
    have hb4 : Below w3.heap.size w3 (w3.alloc (.cells (bv x).toArray 23)) := (Below.refl _ _).alloc (Nat.le_refl _) _
    have HI := Lib.hid (insert_any (HO3.out.below hb4) hV (fun e => by have := HO3.out.lt e; omega) hx HAt.out.le hsl (fun j hj => by have := HB3.out.size; have := hb4.size; omega))
    have HB4 := Lib.hid (HB3.out.trans (hb4.mono HB3.out.size))
    have HL3 := Lib.hid (fun k (h : v1.ownBlock = some k) => HO3.out.2.2 k h)
    clear hV hb4
    go_wp2_with (first
      | ((with_reducible refine step_load (t := 23) (x := .tmp 3) (p := ?lpl3) (v := ?lvl3) ?lgl3 ?lol3 ?lxl3 ?lrl3 ?lhl3); (case lgl3 => rfl); (case lol3 => rfl); (case lxl3 => rfl); (case lrl3 => exact hbx3))
      | ((with_reducible refine step_build1 (x := .tmp 20) (y := ?byb1) ?bgb1 ?bob1 ?bxb1 ?blb1 ?bhb1); (case bgb1 => rfl); (case bob1 => rfl); (case bxb1 => rfl); (case blb1 => exact hx))
      | (go_at_call 39; (with_reducible refine HI.out.mono ?_); rintro e w5 ⟨v5, rfl, hO5, hT5⟩; have HO5 := Lib.hid hO5; have HT5 := Lib.hid hT5; clear hO5 hT5 HI))
    go_ret
    rw [with_at HAt.out HCF.out]
    rw [HSS.out]
    exact ⟨_, rfl, HO5.out, HB4.out.trans (HT5.out.below fun k hk => hk.elim (fun h => HL3.out k h) (fun h => Nat.le_trans HB4.out.size h))⟩

set_option maxHeartbeats 4000000 in
set_option maxRecDepth 100000 in
theorem without_any (L : List (List UInt8)) (x : List UInt8) (v : Value) (w : World) (hR : RdV w v L) (hm : L.length ≤ 1000) (hx : x.length = 32) :
    Calls Try.prog 25 #[v, .agg (bv x).toArray] w fun e w' => ∃ v', e = .returned v' ∧ OwnI w' (w.heap.size ≤ ·) v' (woutL (setL L) x) ∧ Below w.heap.size w w' := by
  obtain ⟨w1, hw1⟩ : ∃ u, u = w.alloc (.cells (bv x).toArray 23) := ⟨_, rfl⟩
  obtain ⟨S, hS⟩ : ∃ S, S = w.heap.size := ⟨_, rfl⟩
  have hb1 : Below w.heap.size w w1 := by rw [hw1]; exact (Below.refl _ _).alloc (Nat.le_refl _) _
  have hX1 : Blk w1 S 23 (bv x).toArray := by rw [hw1, hS]; exact Blk.new w _ _
  have HSET := Lib.hid (set_any L v w1 (hR.next hb1) (by omega))
  have HX1 := Lib.hid hX1
  have HB1 := Lib.hid hb1
  have HW := Lib.hid hw1
  have HSS := Lib.hid hS
  have hsl : (setL L).length ≤ 1000 := Nat.le_trans (setL_len L) hm
  clear hR hb1 hX1 hw1 hS
  cases hc : (setL L).contains x with
  | false =>
    have HV := Lib.hid (wout_not hc)
    go_enter Try.func25, Try.ntmps25
    go_upto_region 1 with fail
    refine wp_at HW.out.symm ?_
    rw [← HSS.out]
    clear HW
    go_wp2_with (first
      | (go_at_call 18; (with_reducible refine HSET.out.mono ?_); rintro e w2 ⟨v1, rfl, hO1, hB2⟩; have HO2 := Lib.hid (hO1.mono fun k hk => Nat.le_trans HB1.out.size hk); have HB2 := Lib.hid (HB1.out.trans (hB2.mono HB1.out.size)); have HX2 := Lib.hid (HX1.out.below hB2 HX1.out.lt); have hbx : (Instr.loadAt 23 (.pointer (some ⟨S, 0, none⟩))).run Try.prog w2 = .ok (.agg (bv x).toArray) w2 := box_load HX2.out hx 0; have HFD := Lib.hid (find_any (setL L) x v1 w2 (hO1.rdv (by omega)).1 (setL_sorted L) hx (by omega)); rw [hc] at HFD; clear hO1 hB2 HSET)
      | ((with_reducible refine step_load (t := 23) (x := .tmp 3) (p := ?lpl4) (v := ?lvl4) ?lgl4 ?lol4 ?lxl4 ?lrl4 ?lhl4); (case lgl4 => rfl); (case lol4 => rfl); (case lxl4 => rfl); (case lrl4 => exact hbx))
      | (go_at_call 38; (with_reducible refine HFD.out.mono ?_); rintro e w3 ⟨k, rfl, HAt, hB3⟩; have HO3 := Lib.hid (HO2.out.below hB3); have HB3 := Lib.hid (HB2.out.trans (hB3.mono HB2.out.size)); clear hB3 HFD))
    go_ret
    rw [HV.out]
    rw [HSS.out]
    exact ⟨_, rfl, HO3.out, HB3.out⟩
  | true =>
    have HCF := Lib.hid hc
    go_enter Try.func25, Try.ntmps25
    go_upto_region 1 with fail
    refine wp_at HW.out.symm ?_
    rw [← HSS.out]
    clear HW
    go_upto_region 5 with (first
      | (go_at_call 18; (with_reducible refine HSET.out.mono ?_); rintro e w2 ⟨v1, rfl, hO1, hB2⟩; have HO2 := Lib.hid (hO1.mono fun k hk => Nat.le_trans HB1.out.size hk); have HB2 := Lib.hid (HB1.out.trans (hB2.mono HB1.out.size)); have HX2 := Lib.hid (HX1.out.below hB2 HX1.out.lt); have hbx : (Instr.loadAt 23 (.pointer (some ⟨S, 0, none⟩))).run Try.prog w2 = .ok (.agg (bv x).toArray) w2 := box_load HX2.out hx 0; have HFD := Lib.hid (find_any (setL L) x v1 w2 (hO1.rdv (by omega)).1 (setL_sorted L) hx (by omega)); rw [hc] at HFD; clear hO1 hB2 HSET)
      | ((with_reducible refine step_load (t := 23) (x := .tmp 3) (p := ?lpl5) (v := ?lvl5) ?lgl5 ?lol5 ?lxl5 ?lrl5 ?lhl5); (case lgl5 => rfl); (case lol5 => rfl); (case lxl5 => rfl); (case lrl5 => exact hbx))
      | (go_at_call 38; (with_reducible refine HFD.out.mono ?_); rintro e w3 ⟨k, rfl, HAt, hB3⟩; have HO3 := Lib.hid (HO2.out.below hB3); have HB3 := Lib.hid (HB2.out.trans (hB3.mono HB2.out.size)); clear hB3 HFD))
    obtain ⟨hkl, hwt⟩ := wout_at (setL_sorted L) HAt.out HCF.out
    have HD := Lib.hid (delete_any HO3.out hkl hsl)
    have HV := Lib.hid hwt
    have HL3 := Lib.hid (fun k (h : v1.ownBlock = some k) => HO3.out.2.2 k h)
    have k0 : (0 : Int) ≤ (k : Int) := Int.natCast_nonneg _
    clear hkl hwt
    have hk1 : (k : Int) ≤ 1000 := by have := HAt.out.le; omega
    go_wp2_with (go_at_call 40; (with_reducible refine HD.out.mono ?_); rintro e w5 ⟨v5, rfl, hO5, hT5⟩; have HO5 := Lib.hid hO5; have HT5 := Lib.hid hT5; clear hO5 hT5 HD)
    go_ret
    rw [HV.out]
    rw [HSS.out]
    exact ⟨_, rfl, HO5.out, HB3.out.trans (HT5.out.below fun k hk => HL3.out k hk)⟩

set_option maxHeartbeats 4000000 in
set_option maxRecDepth 100000 in
theorem less_any (L M : List (List UInt8)) (v u : Value) (w : World) (hR : RdV w v L) (hU : RdV w u M) (hm : L.length ≤ 1000) (hmm : M.length ≤ 1000) :
    Calls Try.prog 27 #[v, u] w fun e w' => ∃ v', e = .returned v' ∧ OwnI w' (w.heap.size ≤ ·) v' (lessL L M) ∧ Below w.heap.size w w' := by
  have HS1 := Lib.hid (set_any L v w hR (by omega))
  have HU := Lib.hid hU
  have hs1 : (setL L).length ≤ 1000 := Nat.le_trans (setL_len L) hm
  have hs2 : (setL M).length ≤ 1000 := Nat.le_trans (setL_len M) hmm
  have HV : Hid ((setL L).filter (notIn (setL M)) = lessL L M) := Lib.hid (by
    unfold lessL
    refine List.filter_congr fun y _ => ?_
    unfold notIn
    congr 1
    rw [Bool.eq_iff_iff, List.contains_iff_mem, List.contains_iff_mem]
    exact mem_setL M y)
  clear hR hU
  go_enter Try.func27, Try.ntmps27
  go_wp2_with (first
    | (go_at_call 41; (with_reducible refine HDF.out.mono ?_); rintro e w3 ⟨v3, rfl, hO3, hT3⟩)
    | (go_at_call 18; (with_reducible refine HS2.out.mono ?_); rintro e w2 ⟨v2, rfl, hO2, hB2⟩; have HO12 := Lib.hid (HO1.out.below hB2); have HO2 := Lib.hid hO2; have HB2 := Lib.hid (HB1.out.trans (hB2.mono HB1.out.size)); have HDF := Lib.hid (deletef_any (setL L) (setL M) v1 v2 w2 HO12.out (hO2.rdv (by omega)).1 (setL_sorted M) (fun b off n c e h => by have h1 := HO1.out.lt h; have h2 := (hO2.rdv (by omega)).2 b off n c e; omega) hs1 hs2); clear hO2 hB2 HS2)
    | (go_at_call 18; (with_reducible refine HS1.out.mono ?_); rintro e w1 ⟨v1, rfl, hO1, hB1⟩; have HO1 := Lib.hid hO1; have HB1 := Lib.hid hB1; have HS2 := Lib.hid (set_any M u w1 (HU.out.next hB1) (by omega)); clear hO1 hB1 HS1))
  go_ret
  rw [HV.out] at hO3
  exact ⟨_, rfl, hO3, HB2.out.trans (hT3.below fun k hk => hk.elim (fun h => HO1.out.2.2 k h) (fun h => Nat.le_trans HB2.out.size h))⟩
end Go.Proofs.Ytfcoecojjciphaa.ids
