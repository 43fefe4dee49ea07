/-
  petrelref06.Without, Less.
-/
import Derived.Test.YtfcoecojjciphaaIdsx
namespace Go.Proofs.Ytfcoecojjciphaa.ids
open Go.RowKit Go.Proofs.Ytfcoecojjciphaa.mem Go.Proofs.Ytfcoecojjciphaa.sha

theorem take_filter (L : List Id) (k : Nat) (h : k < L.length) (p : Id → Bool) : (L.take (k + 1)).filter p = if p (L.getD k []) = true then (L.take k).filter p ++ [L.getD k []] else (L.take k).filter p := by
  rw [List.take_succ_eq_append_getElem h, List.filter_append, List.getD_eq_getElem?_getD, List.getElem?_eq_getElem h]
  rw [Option.getD_some]
  by_cases hp : p L[k] = true
  · rw [List.filter_cons_of_pos hp, if_pos hp]; rfl
  · rw [List.filter_cons_of_neg hp, if_neg hp]; simp

set_option maxHeartbeats 1000000 in
set_option maxRecDepth 100000 in
theorem rwithout_any (L : List Id) (x : Id) (ad : Option Addr) (n cap : Nat) (w : World) (hL : RdV w (.slice ad n cap) L) (hx : x.length = 32) (hmax : L.length < 1000000) :
    Calls Try.prog 26 #[.slice ad n cap, .agg (bv x).toArray] w fun e w' => ∃ v, e = .returned v ∧ Got w' (w.heap.size ≤ ·) v (woutL L x) ∧ Below w.heap.size w w' := by
  obtain ⟨w1, hw1⟩ : ∃ u, u = w.alloc (.cells (bv x).toArray 23) := ⟨_, rfl⟩
  obtain ⟨S, hS⟩ : ∃ S, S = w.heap.size := ⟨_, rfl⟩
  have hX : Blk w1 S 23 (bv x).toArray := by rw [hw1, hS]; exact Blk.new w _ _
  have hB : Below w.heap.size w w1 := by rw [hw1]; exact (Below.refl _ _).alloc (Nat.le_refl _) _
  have hn := hL.len
  subst hn
  have HR := Lib.hid hL
  have HOK := Lib.hid hL.ok
  have HS1 := Lib.hid (show WSt w S (.slice ad L.length cap) L x w1 from ⟨hL, hS, hX, hB⟩)
  have HSS := Lib.hid hS
  have HW := Lib.hid hw1
  clear hX hB hw1 hL hS
  go_enter Try.func26, Try.ntmps26
  go_wp2_with fail
  refine wp_at HW.out.symm ?_
  rw [← HSS.out]
  clear HW
  go_loopw [5, 6] (fun vo i wr => ∃ k : Nat, k ≤ L.length ∧ i = .int .i64 k ∧ OwnI wr (fun j => S < j) vo ((L.take k).filter (neX x)) ∧ WSt w S (.slice ad L.length cap) L x wr) (fun _ i _ => L.length - (intOf i).toNat)
  case atStart => exact ⟨0, Nat.zero_le _, rfl, OwnI.nil _ _, HS1.out⟩
  case round =>
    obtain ⟨k, hk, rfl, hO, hst⟩ := hrel
    have HO := Lib.hid hO
    have HS := Lib.hid hst
    have k0 : (0 : Int) ≤ (k : Int) := Int.natCast_nonneg _
    clear HS1
    by_cases hlt : k < L.length
    · have kI : (k : Int) < (L.length : Int) := by omega
      obtain ⟨b, off, rfl, -, -, hld⟩ := hst.rd.load hlt
      have hlx := box_load hst.box hx
      have hy := HOK.out.get hlt
      have HT := Lib.hid (take_filter L k hlt (neX x))
      obtain ⟨y, hyy⟩ : ∃ y, y = L.getD k [] := ⟨_, rfl⟩
      rw [← hyy] at hld hy HT
      have heq := fun u : World => neq_ids u y x hy hx
      unfold idv at heq
      obtain ⟨A, hA⟩ : ∃ A, A = (L.take k).filter (neX x) := ⟨_, rfl⟩
      have hlen : A.length ≤ k := by rw [hA]; exact Nat.le_trans (List.length_filter_le _ _) (by rw [List.length_take]; omega)
      rw [← hA] at HO HT
      clear hO hst hA hyy
      by_cases he : y = x
      · have heq2 : (y != x) = false := by rw [he, bne, beq_self_eq_true]; rfl
        rw [heq2] at heq
        have HE : Hid (neX x y = _) := Lib.hid heq2
        clear he heq2
        go_wp2_with fail
        refine wp_region_quiet_lit (by kernel_rfl) (by kernel_rfl) ?_
        quiet_step (fail)
        quiet_step (fail)
        quiet_step (fail)
        refine quiet_load rfl rfl rfl hld ?_
        (try simp only [Act.put, List.setIfInBounds_toArray, List.set_cons_zero, List.set_cons_succ])
        refine quiet_load rfl rfl rfl hlx ?_
        (try simp only [Act.put, List.setIfInBounds_toArray, List.set_cons_zero, List.set_cons_succ])
        quiet_step (fail)
        refine wpQuiet_nil ?_
        rintro _ ⟨nq, rfl⟩
        go_wp2_with fail
        go_roundw
        case rel =>
          refine ⟨k + 1, hlt, by push_cast; rfl, ?_, HS.out.turn ((Turn.refl _ _).drewN nq)⟩
          rw [HT.out, HE.out, if_neg (by decide)]
          exact HO.out.below (below_drewN (Below.refl _ _) nq)
        case measure => simp [intOf]; omega
      · have heq2 : (y != x) = true := bne_iff_ne.2 he
        rw [heq2] at heq
        have HE : Hid (neX x y = _) := Lib.hid heq2
        clear he heq2
        go_wp2_with fail
        refine wp_region_quiet_lit (by kernel_rfl) (by kernel_rfl) ?_
        quiet_step (fail)
        quiet_step (fail)
        quiet_step (fail)
        refine quiet_load rfl rfl rfl hld ?_
        (try simp only [Act.put, List.setIfInBounds_toArray, List.set_cons_zero, List.set_cons_succ])
        refine quiet_load rfl rfl rfl hlx ?_
        (try simp only [Act.put, List.setIfInBounds_toArray, List.set_cons_zero, List.set_cons_succ])
        quiet_step (fail)
        refine wpQuiet_nil ?_
        rintro _ ⟨nq, rfl⟩
        obtain ⟨wq, hwq⟩ : ∃ u, u = wr.drewN nq := ⟨_, rfl⟩
        have hSq : WSt w S (.slice (some ⟨b, off, none⟩) L.length cap) L x wq := by rw [hwq]; exact HS.out.turn ((Turn.refl _ _).drewN nq)
        have hOq : OwnI wq (fun j => S < j) u5 A := by rw [hwq]; exact HO.out.below (below_drewN (Below.refl _ _) nq)
        have hlq : (Instr.loadAt 23 (.pointer (some ⟨b, off + k * 32, none⟩))).run Try.prog wq = .ok (.agg (bv y).toArray) wq := by rw [hwq]; exact hld nq
        rw [← hwq]
        have hB3 := (Below.refl wq.heap.size wq).alloc (Nat.le_refl _) (.cells (bv y).toArray 23)
        have h3' := hSq.next hB3
        obtain ⟨v2, w4, hrun2, hO2, ht2⟩ := run_append_rd (hOq.below hB3) (by have := RdV.laid wq [y] (okIds.one hy) (by simp); rw [fl_one] at this; exact this) (by simp only [List.length_cons, List.length_nil]; omega) h3'.new 33
        have h4 := h3'.app (hOq.below hB3) ht2
        have H4 := Lib.hid h4
        have HO2 := Lib.hid hO2
        clear hwq hSq hOq hB3 h3' ht2 h4 hO2 hld heq hlx
        go_wp2_with (first
          | ((with_reducible refine step_load (t := 23) (x := .tmp 22) (p := ?lpy1) (v := ?lvy1) ?lgy1 ?loy1 ?lxy1 ?lry1 ?lhy1); (case lgy1 => rfl); (case loy1 => rfl); (case lxy1 => rfl); (case lry1 => exact hlq))
          | ((with_reducible refine step_build1 (x := .tmp 23) (y := ?byy2) ?bgy2 ?boy2 ?bxy2 ?bly2 ?bhy2); (case bgy2 => rfl); (case boy2 => rfl); (case bxy2 => rfl); (case bly2 => exact hy))
          | ((with_reducible refine step_append (s := .tmp 19) (x := .tmp 24) (t := 33) (vs := ?asy3) (vx := ?axy3) (v' := ?avy3) (w' := ?awy3) ?agy3 ?aoy3 ?apy3 ?aqy3 ?ary3 ?ahy3); (case agy3 => rfl); (case aoy3 => rfl); (case apy3 => rfl); (case aqy3 => rfl); (case ary3 => exact hrun2)))
        go_roundw
        case rel =>
          refine ⟨k + 1, hlt, by push_cast; rfl, ?_, H4.out⟩
          rw [HT.out, HE.out, if_pos rfl]
          exact HO2.out
        case measure => simp [intOf]; omega
    · obtain rfl : k = L.length := by omega
      clear hO hst
      go_wp2_with fail
      go_ret
      have h := HO.out
      rw [List.take_length] at h
      have hm : (L.filter (neX x)).length ≤ L.length := List.length_filter_le _ _
      have hr := h.rdv (by omega)
      exact ⟨_, rfl, ⟨hr.1, fun b off n c e => by have h1 := hr.2 b off n c e; have h2 := HSS.out; omega⟩, HS.out.below⟩

set_option maxHeartbeats 1000000 in
set_option maxRecDepth 100000 in
theorem rless_any (L M : List Id) (ad ad2 : Option Addr) (n cap n2 cap2 : Nat) (w : World) (hL : RdV w (.slice ad n cap) L) (hM : RdV w (.slice ad2 n2 cap2) M) (hmax : L.length < 500000) :
    Calls Try.prog 28 #[.slice ad n cap, .slice ad2 n2 cap2] w fun e w' => ∃ v, e = .returned v ∧ Got w' (w.heap.size ≤ ·) v (lessL L M) ∧ Below w.heap.size w w' := by
  have HM := Lib.hid hM
  have HS := Lib.hid (rset_any L ad n cap w hL hmax)
  have hsl := setL_len L
  have hll : lessL L M = (setL L).filter (notIn M) := rfl
  rw [hll]
  obtain ⟨A, hA⟩ : ∃ A, A = setL L := ⟨_, rfl⟩
  rw [← hA] at HS hsl ⊢
  clear hL hM hll hA
  go_enter Try.func28, Try.ntmps28
  go_wp2_with (go_at_call 16; with_reducible refine HS.out.mono ?_; rintro e w2 ⟨v2, rfl, hG2, hB2⟩)
  have HG2 := Lib.hid hG2
  have HB2 := Lib.hid hB2
  have HOK := Lib.hid hG2.1.ok
  obtain ⟨ad3, cap3, rfl⟩ := hG2.1.form
  clear hG2 hB2 HS
  go_loopw [5, 7] (fun vo i wr => ∃ k : Nat, k ≤ A.length ∧ i = .int .i64 k ∧ OwnI wr (w2.heap.size ≤ ·) vo ((A.take k).filter (notIn M)) ∧ Below w2.heap.size w2 wr) (fun _ i _ => A.length - (intOf i).toNat)
  case atStart => exact ⟨0, Nat.zero_le _, rfl, OwnI.nil _ _, Below.refl _ _⟩
  case round =>
    obtain ⟨k, hk, rfl, hO, hB⟩ := hrel
    have HO := Lib.hid hO
    have HB := Lib.hid hB
    have k0 : (0 : Int) ≤ (k : Int) := Int.natCast_nonneg _
    by_cases hlt : k < A.length
    · have kI : (k : Int) < (A.length : Int) := by omega
      obtain ⟨b, off, rfl, -, -, -⟩ := HG2.out.1.load hlt
      have hld := (HG2.out.1.next hB).load_y hlt rfl
      have hy := HOK.out.get hlt
      have HT := Lib.hid (take_filter A k hlt (notIn M))
      have HLD : Hid (∀ u, Below w2.heap.size w2 u → (Instr.loadAt 23 (.pointer (some ⟨b, off + k * 32, none⟩))).run Try.prog u = .ok (.agg (bv (A.getD k [])).toArray) u) := Lib.hid fun u h => (HG2.out.1.next h).load_y hlt rfl
      obtain ⟨y, hyy⟩ : ∃ y, y = A.getD k [] := ⟨_, rfl⟩
      rw [← hyy] at hld hy HT HLD
      have HC := Lib.hid (rhas_any M y ad2 n2 cap2 _ (HM.out.next (HB2.out.trans (HB.out.mono HB2.out.size))) hy)
      obtain ⟨c, hc⟩ : ∃ c, c = M.contains y := ⟨_, rfl⟩
      have HE : Hid (notIn M y = !c) := Lib.hid (by rw [hc]; rfl)
      rw [← hc] at HC
      obtain ⟨R, hR⟩ : ∃ R, R = (A.take k).filter (notIn M) := ⟨_, rfl⟩
      have hlen : R.length ≤ k := by rw [hR]; exact Nat.le_trans (List.length_filter_le _ _) (by rw [List.length_take]; omega)
      rw [← hR] at HO HT
      clear hO hB hR hyy hc
      cases c
      · go_upto_region 7 with (first
          | ((with_reducible refine step_load (t := 23) (x := .tmp 19) (p := ?lpz1) (v := ?lvz1) ?lgz1 ?loz1 ?lxz1 ?lrz1 ?lhz1); (case lgz1 => rfl); (case loz1 => rfl); (case lxz1 => rfl); (case lrz1 => exact hld))
          | (go_at_call 22; with_reducible refine HC.out.mono ?_; rintro e w3 ⟨rfl, hB3⟩))
        have hB4 := HB.out.trans (hB3.mono HB.out.size)
        have hlq := HLD.out w3 hB4
        have hO3 := HO.out.below hB3
        have hnw : New (w2.heap.size ≤ ·) w3 := fun _ hj => Nat.le_trans hB4.size hj
        have hB5 := (Below.refl w3.heap.size w3).alloc (Nat.le_refl _) (.cells (bv y).toArray 23)
        obtain ⟨v2, w4, hrun2, hO2, ht2⟩ := run_append_rd (hO3.below hB5) (by have := RdV.laid w3 [y] (okIds.one hy) (by simp); rw [fl_one] at this; exact this) (by simp only [List.length_cons, List.length_nil]; omega) (hnw.alloc _) 33
        have hB6 := hB4.trans ((hB5.mono hB4.size).trans (ht2.below fun j hj => by
          rcases hj with hj | hj
          · exact hO3.2.2 j hj
          · exact Nat.le_trans (Nat.le_trans hB4.size hB5.size) hj))
        have HB6 := Lib.hid hB6
        have HO2 := Lib.hid hO2
        clear hB3 hB4 hO3 hnw hB5 hO2 ht2 hB6 hld
        go_wp2_with (first
          | ((with_reducible refine step_load (t := 23) (x := .tmp 26) (p := ?lpz2) (v := ?lvz2) ?lgz2 ?loz2 ?lxz2 ?lrz2 ?lhz2); (case lgz2 => rfl); (case loz2 => rfl); (case lxz2 => rfl); (case lrz2 => exact hlq))
          | ((with_reducible refine step_build1 (x := .tmp 27) (y := ?byz3) ?bgz3 ?boz3 ?bxz3 ?blz3 ?bhz3); (case bgz3 => rfl); (case boz3 => rfl); (case bxz3 => rfl); (case blz3 => exact hy))
          | ((with_reducible refine step_append (s := .tmp 23) (x := .tmp 28) (t := 33) (vs := ?asz4) (vx := ?axz4) (v' := ?avz4) (w' := ?awz4) ?agz4 ?aoz4 ?apz4 ?aqz4 ?arz4 ?ahz4); (case agz4 => rfl); (case aoz4 => rfl); (case apz4 => rfl); (case aqz4 => rfl); (case arz4 => exact hrun2)))
        go_roundw
        case rel =>
          refine ⟨k + 1, hlt, by push_cast; rfl, ?_, HB6.out⟩
          rw [HT.out, HE.out, if_pos (by decide)]
          exact HO2.out
        case measure => simp [intOf]; omega
      · go_wp2_with (first
          | ((with_reducible refine step_load (t := 23) (x := .tmp 19) (p := ?lpz5) (v := ?lvz5) ?lgz5 ?loz5 ?lxz5 ?lrz5 ?lhz5); (case lgz5 => rfl); (case loz5 => rfl); (case lxz5 => rfl); (case lrz5 => exact hld))
          | (go_at_call 22; with_reducible refine HC.out.mono ?_; rintro e w3 ⟨rfl, hB3⟩))
        go_roundw
        case rel =>
          refine ⟨k + 1, hlt, by push_cast; rfl, ?_, HB.out.trans (hB3.mono HB.out.size)⟩
          rw [HT.out, HE.out, if_neg (by decide)]
          exact HO.out.below hB3
        case measure => simp [intOf]; omega
    · obtain rfl : k = A.length := by omega
      clear hO hB
      go_wp2_with fail
      go_ret
      have h := HO.out
      rw [List.take_length] at h
      have hm : (A.filter (notIn M)).length ≤ A.length := List.length_filter_le _ _
      have hr := h.rdv (by omega)
      exact ⟨_, rfl, ⟨hr.1, fun b off n c e => Nat.le_trans HB2.out.size (hr.2 b off n c e)⟩, HB2.out.trans (HB.out.mono HB2.out.size)⟩
end Go.Proofs.Ytfcoecojjciphaa.ids
