/-
  slices.Insert of one id.
-/
import Derived.Test.YtfcoecojjciphaaIsh
namespace Go.Proofs.Ytfcoecojjciphaa.ids
open Go.Proofs Go.RowKit Go.Proofs.Ytfcoecojjciphaa.mem Go.Proofs.Ytfcoecojjciphaa.sha Go.Proofs.Ytfcoecojjciphaa.srt

theorem exec_from {P : Program} {ρ : Operand → Value} {o : Oper} {x y : Operand} {t : TypeId} {u z v : Value} {w : World} (ho : o.op = .slice t x (some y) none none) (hx : ρ x = u) (hy : ρ y = z) (h : (Instr.sliceAt t u (some z) none none).run P w = .ok v w) :
    (execOp ρ o).run P w = .ok (.value v) w := by
  unfold execOp
  simp [ho, hx, hy, h]
theorem overlaps_false (w : World) (vb g o lb cb : Nat) (x : List UInt8) (hx : x.length = 32) (cur : Array Value) (hV : Blk w vb 23 (bv x).toArray) (hg : w.heap[g]? = some (.cells cur 23 (0, 0))) (hne : vb ≠ g) (h0 : cur.size ≠ 0) :
    (callFunc 53 #[.slice (some ⟨vb, 0, none⟩) 1 1, .slice (some ⟨g, o, none⟩) lb cb]).run Try.prog w = .ok (.value (.bool false)) w := by
  rw [run_callFunc_extern Try.func53 (by kernel_rfl) (by kernel_rfl) (by kernel_rfl) (e := Extern.SlicesOverlaps.overlaps #[33, 33] #[4]) (by kernel_rfl)]
  obtain ⟨y, hy, _, hs, _⟩ := info_parts info_id
  have hz : ∀ w, (sizeOf 23).run Try.prog w = .ok 32 w := fun w => by simp [sizeOf, typeInfo, hy, hs]
  rw [Lib.run_overlaps_apart w 33 4 23 Try.underlying33 32 hz ⟨vb, 0, none⟩ ⟨g, o, none⟩ 1 1 lb cb hne 23 23 (bv x).toArray.size cur.size (by simp [World.shape?, show w.heap[vb]? = _ from hV]) (by simp [World.shape?, hg]) h0 (hV.frozen 0) (hV.frozen _)]
  rfl
theorem nmin_l {a b : Nat} (h : a ≤ b) : Nat.min a b = a := Nat.min_eq_left h
theorem nmin_r {a b : Nat} (h : b ≤ a) : Nat.min a b = b := Nat.min_eq_right h
theorem zeroCells_len (m : Nat) : (Builtin.zeroCells (Value.cells (.agg (Array.replicate 32 (.int .u8 0)))) m).size = m * 32 := by rw [size_zeroCells]; rfl
/-- 'append(s[:k], make(S, m)...)', no room -/
theorem run_grow (w : World) (ty : TypeId) (g k cap m : Nat) (L : List (List UInt8)) (hok : okIds L) (cur : Array Value) (hg : w.heap[g]? = some (.cells cur 23 (0, 0))) (htk : cur.toList.take (k * 32) = fl L) (hl : L.length = k) (h0 : 0 < m) (hroom : cap < k + m) (hm : k + m ≤ 1000000) :
    ∃ cap2 w2, ∃ C : Array Value, (Builtin.append_ #[33, 3] ty #[.slice (some ⟨g, 0, none⟩) k cap, .int .i64 (m : Int)]).run Try.prog w = .ok (.slice (some ⟨w.heap.size, 0, none⟩) (k + m) cap2) w2 ∧
      w2.heap[w.heap.size]? = some (.cells C 23 (0, 0)) ∧ C.size = cap2 * 32 ∧ k + m ≤ cap2 ∧ cap2 ≤ maxLen ∧ C.toList.take (k * 32) = fl L ∧ Below w.heap.size w w2 := by
  obtain ⟨y, hy, hz, hs, hb⟩ := info_parts info_id
  have hfl := fl_len hok
  rw [hl] at hfl
  have hold : (Builtin.firstCells y.size k (.slice (some ⟨g, 0, none⟩) k cap)).run Try.prog w.drew = .ok (fl L).toArray w.drew := by
    rw [hs]
    refine run_firstCells_some (P := Try.prog) w.drew 32 k ⟨g, 0, none⟩ k cap (fl L) hfl fun j v hv => ?_
    rw [Addr.add_lit, Nat.zero_add]
    rw [← htk, List.getElem?_take] at hv
    split at hv
    · rw [(show Blk w.drew g 23 cur from hg).cell, ← Array.getElem?_toList]; exact hv
    · cases hv
  have hfit : Builtin.nextslicecap (k + m) cap * y.bytes ≤ 281474976710656 := growslice_fits hroom (by rw [hb]; omega)
  have hr := Lib.run_append_grow_zeros (P := Try.prog) w 33 3 ty 23 y _ .i64 .i64 Try.underlying33 Try.underlying3 hy hz (some ⟨g, 0, none⟩) k cap (fl L) hold m h0 (by rw [hs]; decide) hroom (by omega) (by rw [hb]; omega) hfit
  have hge := grownCap_ge w (k + m) cap 23
  have hmax := grownCap_le_maxLen w (k + m) cap 23 (by unfold maxLen; omega)
  refine ⟨_, _, _, hr, heap_alloc_new w.drew _, ?_, hge, hmax, ?_, ((Below.refl _ w).drew).alloc (Nat.le_refl _) _⟩
  · rw [Array.size_append, Array.size_append, List.size_toArray, hfl, zeroCells_len, zeroCells_len]
    omega
  · rw [Array.toList_append, Array.toList_append, List.append_assoc, List.take_append_of_le_length (by rw [List.toList_toArray]; omega)]
    exact List.take_of_length_le (by rw [List.toList_toArray]; omega)

set_option maxHeartbeats 4000000 in
set_option maxRecDepth 100000 in
theorem insert_any {w : World} {F : Nat → Prop} {v : Value} {L : List (List UInt8)} {x : List UInt8} {vb k : Nat} (hO : OwnI w F v L) (hV : Blk w vb 23 (bv x).toArray) (hne : v.ownBlock ≠ some vb) (hx : x.length = 32) (hk : k ≤ L.length) (hm : L.length ≤ 1000) (hn : New F w) :
    Calls Try.prog 39 #[v, .int .i64 k, .slice (some ⟨vb, 0, none⟩) 1 1] w fun e w' => ∃ v', e = .returned v' ∧ OwnI w' F v' (L.take k ++ x :: L.drop k) ∧ Turn (fun j => v.ownBlock = some j ∨ w.heap.size ≤ j) w w' := by
  obtain ⟨ad, cap, rfl, _, _⟩ := hO.form
  have hRd := (hO.rdv (by omega)).1
  have hs1 := fun u => (slice_lo hRd k hk u).1
  have k0 : (0 : Int) ≤ (k : Int) := Int.natCast_nonneg _
  have hcapL : L.length ≤ cap := by
    rcases hO.2.1.2 with ⟨e, hn⟩ | ⟨g, cp, cur, e, _, _, hle, _⟩
    · omega
    · injection e with e1 e2 e3; omega
  have hrx : RdV w (.slice (some ⟨vb, 0, none⟩) 1 1) [x] := ⟨okIds.one hx, by simp, some ⟨vb, 0, none⟩, 1, rfl, by simp, by unfold maxLen; omega, (fun h => by cases h), (fun a ha _ => ⟨vb, 0, by injection ha with ha; exact ha.symm⟩), .inr ⟨vb, 0, rfl, hV.lt, fun j u hu => by
    rw [Nat.zero_add, hV.cell, List.getElem?_toArray, ← fl_one]; exact hu⟩⟩
  by_cases hkn : k = L.length
  · have hkb : ((k : Int) == (L.length : Int)) = true := by simp [hkn]
    obtain ⟨v', w', hrun, hO', ht⟩ := run_append_rd hO hrx (by simp; omega) hn 33
    have HO := Lib.hid (show OwnI w' F v' (L.take k ++ x :: L.drop k) by rw [hkn, List.take_length, List.drop_length]; exact hO')
    have HT := Lib.hid ht
    clear hO hO' ht hRd hrx hV hne hn hkn
    go_enter Try.func39, Try.ntmps39
    go_wp2_with ((with_reducible refine step_append (s := .tmp 23) (x := .tmp 24) (t := 33) (vs := ?asi1) (vx := ?axi1) (v' := ?avi1) (w' := ?awi1) ?agi1 ?aoi1 ?api1 ?aqi1 ?ari1 ?ahi1); (case agi1 => rfl); (case aoi1 => rfl); (case api1 => rfl); (case aqi1 => rfl); (case ari1 => exact hrun))
    go_ret
    exact ⟨_, rfl, HO.out, HT.out⟩
  · have hkb : ((k : Int) == (L.length : Int)) = false := beq_eq_false_iff_ne.2 (by omega)
    have hkl : k < L.length := by omega
    obtain ⟨g, rfl⟩ : ∃ g, ad = some ⟨g, 0, none⟩ := by
      rcases hO.2.1.2 with ⟨e, hn⟩ | ⟨g, cp, cur, e, _, _, hle, _⟩
      · omega
      · injection e with e1 e2 e3; exact ⟨g, e1⟩
    obtain ⟨cur, _, hg, _, hcm, hcs, htk⟩ := hO.row
    have hok := hO.1
    have hne' : vb ≠ g := fun e => hne (by rw [e]; rfl)
    have hX : (bv x).length = 32 := by rw [bv_length, hx]
    have hfd : (fl (L.drop k)).length = (L.length - k) * 32 := by rw [fl_len (hok.drop k), List.length_drop]
    obtain ⟨N1, hN1⟩ : ∃ N, N = L.length + 1 := ⟨_, rfl⟩
    obtain ⟨K1, hK1⟩ : ∃ K, K = k + 1 := ⟨_, rfl⟩
    have hNI : (L.length : Int) + 1 = (N1 : Int) := by omega
    have hKI : (k : Int) + 1 = (K1 : Int) := by omega
    have hNb : (N1 : Int) ≤ 1001 := by omega
    have hKb : (K1 : Int) ≤ 1001 := by omega
    have hN0 : (0 : Int) ≤ (N1 : Int) := Int.natCast_nonneg _
    have hK0 : (0 : Int) ≤ (K1 : Int) := Int.natCast_nonneg _
    have hwN : IntKind.i64.wrap (N1 : Int) = (N1 : Int) := by rw [IntKind.wrap_i64]; omega
    have hwK : IntKind.i64.wrap (K1 : Int) = (K1 : Int) := by rw [IntKind.wrap_i64]; omega
    have HK1 := Lib.hid hK1
    have HN1 := Lib.hid hN1
    by_cases hroom : cap < L.length + 1
    · have hgt : (cap : Int) < (N1 : Int) := by omega
      obtain ⟨m, hm1⟩ : ∃ m, m = L.length + 1 - k := ⟨_, rfl⟩
      have hmI : (N1 : Int) - (k : Int) = (m : Int) := by omega
      have hmw : IntKind.i64.wrap (m : Int) = (m : Int) := by rw [IntKind.wrap_i64]; omega
      obtain ⟨cap2, w2, C, hrun, hh2, hC, hle2, hcm2, htk2, hb2⟩ := run_grow w 33 g k cap m (L.take k) (hok.take k) cur hg (take_fl hok htk (by omega)) (by rw [List.length_take]; omega) (by omega) (by omega) (by omega)
      rw [show k + m = N1 by omega] at hrun
      have hpc := fun u => run_cap u g L.length cap k (by omega)
      have hpf := fun u => run_from u w.heap.size N1 cap2 k (by omega) (by omega) (by omega)
      have hxc : ∀ j u, (bv x)[j]? = some u → w2.cell? ((⟨vb, 0, none⟩ : Addr).add j) = some u := row_cell (g := vb) (o := 0) (cur := (bv x).toArray) ((hb2.block vb hV.lt).trans hV) fun j u hu => by rw [Nat.zero_add, List.getElem?_toArray]; exact hu
      have hcp := run_copy_ids w2 3 w.heap.size (k * 32) (N1 - k) (cap2 - k) 1 1 ⟨vb, 0, none⟩ C (bv x) hh2 (by rw [hX, nmin_l (by omega)]) hxc (by rw [hX, hC]; omega) (one_bvl x)
      obtain ⟨C1, hC1⟩ : ∃ c, c = (spl C.toList (k * 32) (bv x)).toArray := ⟨_, rfl⟩
      rw [← hC1] at hcp
      obtain ⟨w3, hw3⟩ : ∃ u, u = w2.setRow w.heap.size C1 := ⟨_, rfl⟩
      rw [← hw3] at hcp
      have hh3 : w3.heap[w.heap.size]? = some (.cells C1 23 (0, 0)) := by rw [hw3]; exact setRow_heap w2 _ _ _ _ _ hh2
      have hb3 : Below w.heap.size w w3 := by rw [hw3]; exact below_setRow hb2 (Nat.le_refl _) _
      have hCl : C.toList.length = cap2 * 32 := Array.length_toList.trans hC
      have hC1s : C1.size = cap2 * 32 := by rw [hC1, List.size_toArray, spl_len _ _ _ (by omega), hCl]
      have hC1l : C1.toList.length = cap2 * 32 := Array.length_toList.trans hC1s
      have hpf2 := fun u => run_from u w.heap.size N1 cap2 K1 (by omega) (by omega) (by omega)
      have hpf3 := fun u => run_from u g L.length cap k (by omega) (by omega) (by omega)
      have hgl : g < w.heap.size := (Array.getElem?_eq_some_iff.1 hg).1
      have hsc : ∀ j u, (fl (L.drop k))[j]? = some u → w3.cell? ((⟨g, k * 32, none⟩ : Addr).add j) = some u := row_cell ((hb3.block g hgl).trans hg) (drop_cells hok htk k)
      have HCP := Lib.hid (fun (u : World) (hu : u.heap = w3.heap) => run_copy_ids u 3 w.heap.size (K1 * 32) (N1 - K1) (cap2 - K1) (L.length - k) (cap - k) ⟨g, k * 32, none⟩ C1 (fl (L.drop k)) (by rw [hu]; exact hh3) (by rw [hfd, show Nat.min (L.length - k) (N1 - K1) = L.length - k by rw [nmin_l (by omega)]]) (fun j z hz => (by have := hsc j z hz; unfold World.cell? at this ⊢; rw [hu]; exact this)) (by rw [hfd, hC1s]; omega) (one_fl _))
      have HFIN : Hid (∀ u : World, u.heap[w.heap.size]? = some (.cells (spl C1.toList (K1 * 32) (fl (L.drop k))).toArray 23 (0, 0)) → OwnI u F (.slice (some ⟨w.heap.size, 0, none⟩) N1 cap2) (L.take k ++ x :: L.drop k)) := Lib.hid fun u hu => by
        have hlen : (L.take k ++ x :: L.drop k).length = N1 := by rw [List.length_append, List.length_cons, List.length_take, List.length_drop]; omega
        have hs : (spl C1.toList (K1 * 32) (fl (L.drop k))).length = cap2 * 32 := by rw [spl_len _ _ _ (by omega), hC1l]
        have := OwnI.of_row (F := F) (g := w.heap.size) (cap := cap2) ((hok.take k).append (fun y hy => (List.mem_cons.1 hy).elim (fun e => by rw [e]; exact hx) (fun h => hok.drop k y h))) hu hs (by rw [hlen]; omega) hcm2 (by
          rw [hlen, hC1, List.toList_toArray, hN1, hK1]
          exact ins_grow hok hkl htk2 hx (by omega)) (hn _ (Nat.le_refl _))
        rw [hlen] at this
        exact this
      have HB3 := Lib.hid hb3
      have HH3 := Lib.hid hh3
      clear hO hRd hrx hV hne hn hg hcm hcs htk hok hne' hh2 hC htk2 hb2 hxc hC1 hw3 hh3 hb3 hC1s hsc hfd hgl hCl hC1l hN1 hK1 hm1 hkn
      go_enter Try.func39, Try.ntmps39
      go_upto_region 11 with (first
        | ((with_reducible refine Lib.wpList_append_run _ ?agi2 (.tmp 34) (.tmp 39) 33 3 ?aoi2 ?asi2 ?axi2 ?api2 ?aqi2 ?avi2 ?awi2 ?ari2 ?ahi2); (case agi2 => rfl); (case aoi2 => rfl); (case api2 => rfl); (case aqi2 => rfl); (case ari2 => exact hrun))
        | ((with_reducible refine wpList_copy_runI _ ?cgi3 (.tmp 43) (.tmp 44) 33 33 ?coi3 ?cvi3 ?cui3 ?cdi3 ?csi3 ?cri3 ?chi3); (case cgi3 => rfl); (case coi3 => rfl); (case cdi3 => rfl); (case csi3 => rfl); (case cri3 => exact hcp)))
      refine wp_region_any (by kernel_rfl) ?_
      refine' wpAny_take (i := 0) ?hizi1 (by kernel_rfl) (by kernel_rfl) (by kernel_rfl) ?hqzi1 (Or.inl ⟨?hwzi1, ?hyzi1⟩) ?hrzi1
      case hizi1 => (simp only [List.getElem?_toArray, List.getElem?_cons_succ, List.getElem?_cons_zero]; rfl)
      case hqzi1 => exact fun _ _ _ h => h
      case hwzi1 => rfl
      case hyzi1 => (intro w0; go_simp; try with_reducible rfl)
      (try simp only [Act.put, List.setIfInBounds_toArray, List.set_cons_zero, List.set_cons_succ])
      refine' wpAny_take (i := 1) ?hizi2 (by kernel_rfl) (by kernel_rfl) (by kernel_rfl) ?hqzi2 (Or.inl ⟨?hwzi2, ?hyzi2⟩) ?hrzi2
      case hizi2 => (simp only [List.getElem?_toArray, List.getElem?_cons_succ, List.getElem?_cons_zero]; rfl)
      case hqzi2 => exact fun _ _ _ h => h
      case hwzi2 => rfl
      case hyzi2 => (intro w0; go_simp; try with_reducible rfl)
      (try simp only [Act.put, List.setIfInBounds_toArray, List.set_cons_zero, List.set_cons_succ])
      refine' wpAny_take (i := 2) ?hizi3 (by kernel_rfl) (by kernel_rfl) (by kernel_rfl) ?hqzi3 (Or.inl ⟨?hwzi3, ?hyzi3⟩) ?hrzi3
      case hizi3 => (simp only [List.getElem?_toArray, List.getElem?_cons_succ, List.getElem?_cons_zero]; rfl)
      case hqzi3 => exact fun _ _ _ h => h
      case hwzi3 => rfl
      case hyzi3 => (intro w0; go_simp; try with_reducible rfl)
      (try simp only [Act.put, List.setIfInBounds_toArray, List.set_cons_zero, List.set_cons_succ])
      refine' wpAny_take (i := 3) ?hizi4 (by kernel_rfl) (by kernel_rfl) (by kernel_rfl) ?hqzi4 (Or.inl ⟨?hwzi4, ?hyzi4⟩) ?hrzi4
      case hizi4 => (simp only [List.getElem?_toArray, List.getElem?_cons_succ, List.getElem?_cons_zero]; rfl)
      case hqzi4 => exact fun _ _ _ h => h
      case hwzi4 => rfl
      case hyzi4 => (intro w0; go_simp; try with_reducible rfl)
      (try simp only [Act.put, List.setIfInBounds_toArray, List.set_cons_zero, List.set_cons_succ])
      refine' wpAny_take (i := 4) ?hizi5 (by kernel_rfl) (by kernel_rfl) (by kernel_rfl) ?hqzi5 (Or.inl ⟨?hwzi5, ?hyzi5⟩) ?hrzi5
      case hizi5 => (simp only [List.getElem?_toArray, List.getElem?_cons_succ, List.getElem?_cons_zero]; rfl)
      case hqzi5 => exact fun _ _ _ h => h
      case hwzi5 => rfl
      case hyzi5 => exact fun w0 => exec_from rfl rfl rfl (hpf2 w0)
      (try simp only [Act.put, List.setIfInBounds_toArray, List.set_cons_zero, List.set_cons_succ])
      refine' wpAny_take (i := 5) ?hizi6 (by kernel_rfl) (by kernel_rfl) (by kernel_rfl) ?hqzi6 (Or.inl ⟨?hwzi6, ?hyzi6⟩) ?hrzi6
      case hizi6 => (simp only [List.getElem?_toArray, List.getElem?_cons_succ, List.getElem?_cons_zero]; rfl)
      case hqzi6 => exact fun _ _ _ h => h
      case hwzi6 => rfl
      case hyzi6 => (intro w0; go_simp; try with_reducible rfl)
      (try simp only [Act.put, List.setIfInBounds_toArray, List.set_cons_zero, List.set_cons_succ])
      refine' wpAny_take (i := 6) ?hizi7 (by kernel_rfl) (by kernel_rfl) (by kernel_rfl) ?hqzi7 (Or.inl ⟨?hwzi7, ?hyzi7⟩) ?hrzi7
      case hizi7 => (simp only [List.getElem?_toArray, List.getElem?_cons_succ, List.getElem?_cons_zero]; rfl)
      case hqzi7 => exact fun _ _ _ h => h
      case hwzi7 => rfl
      case hyzi7 => (intro w0; go_simp; try with_reducible rfl)
      (try simp only [Act.put, List.setIfInBounds_toArray, List.set_cons_zero, List.set_cons_succ])
      refine' wpAny_take (i := 7) ?hizi8 (by kernel_rfl) (by kernel_rfl) (by kernel_rfl) ?hqzi8 (Or.inl ⟨?hwzi8, ?hyzi8⟩) ?hrzi8
      case hizi8 => (simp only [List.getElem?_toArray, List.getElem?_cons_succ, List.getElem?_cons_zero]; rfl)
      case hqzi8 => exact fun _ _ _ h => h
      case hwzi8 => rfl
      case hyzi8 => exact fun w0 => exec_from rfl rfl rfl (hpf3 w0)
      (try simp only [Act.put, List.setIfInBounds_toArray, List.set_cons_zero, List.set_cons_succ])
      refine wpAny_ready (rs := [8]) (by kernel_rfl) (by simp) ?_
      refine' AllReady.cons ?hizi9 (fun K hK => ?hrzi9) AllReady.nil
      case hizi9 => (simp only [List.getElem?_toArray, List.getElem?_cons_succ, List.getElem?_cons_zero]; rfl)
      refine step_copy_runI rfl (.tmp 50) (.tmp 53) 33 33 rfl _ _ rfl rfl (HCP.out _ rfl) (hK _ _ ?_)
      clear hK K
      (try simp only [Act.put, List.setIfInBounds_toArray, List.set_cons_zero, List.set_cons_succ])
      refine wpAny_done (by kernel_rfl) ?_ _
      go_wp2_with fail
      go_ret
      refine ⟨_, rfl, HFIN.out _ ?_, ?_⟩
      · exact setRow_heap _ _ _ _ _ _ HH3.out
      · have hb4 : Below w.heap.size w (w3.drew) := HB3.out.drew
        exact (Turn.ofBelow (below_setRow hb4 (Nat.le_refl _) _)).mono fun j hj => .inr hj
    · have hng : ¬ (cap : Int) < (N1 : Int) := by omega
      have hcapN : N1 ≤ cap := by omega
      have hcur : cur.toList.length = cap * 32 := Array.length_toList.trans hcs
      have hpc := fun u => run_cap u g L.length cap N1 hcapN
      have hpf2 := fun u => run_from u g N1 cap K1 (by omega) (by omega) (by omega)
      have hpf3 := fun u => run_from u g N1 cap k (by omega) (by omega) (by omega)
      have hov := overlaps_false w vb g (K1 * 32) (N1 - K1) (cap - K1) x hx cur hV hg hne' (by rw [hcs]; omega)
      have hsc : ∀ j u, (fl (L.drop k))[j]? = some u → w.cell? ((⟨g, k * 32, none⟩ : Addr).add j) = some u := row_cell hg (drop_cells hok htk k)
      have HCP := Lib.hid (fun (u : World) (hu : u.heap = w.heap) => run_copy_ids u 3 g (K1 * 32) (N1 - K1) (cap - K1) (N1 - k) (cap - k) ⟨g, k * 32, none⟩ cur (fl (L.drop k)) (by rw [hu]; exact hg) (by rw [hfd, show Nat.min (N1 - k) (N1 - K1) = L.length - k by rw [nmin_r (by omega)]; omega]) (fun j z hz => (by have := hsc j z hz; unfold World.cell? at this ⊢; rw [hu]; exact this)) (by rw [hfd, hcs]; omega) (one_fl _))
      obtain ⟨C1, hC1⟩ : ∃ c, c = (spl cur.toList (K1 * 32) (fl (L.drop k))).toArray := ⟨_, rfl⟩
      rw [← hC1] at HCP
      have hC1s : C1.size = cap * 32 := by rw [hC1, List.size_toArray, spl_len _ _ _ (by omega), hcur]
      have hC1l : C1.toList.length = cap * 32 := Array.length_toList.trans hC1s
      obtain ⟨w3, hw3⟩ : ∃ u, u = (w.drew).setRow g C1 := ⟨_, rfl⟩
      have hg3 : w3.heap[g]? = some (.cells C1 23 (0, 0)) := by rw [hw3]; exact setRow_heap _ _ _ _ _ _ (show (w.drew).heap[g]? = _ from hg)
      have ht3 : Turn (· = g) w w3 := by rw [hw3]; exact (Turn.refl _ w).drew.trans (turn_row w.drew g C1)
      have hxc : ∀ j u, (bv x)[j]? = some u → w3.cell? ((⟨vb, 0, none⟩ : Addr).add j) = some u := row_cell (g := vb) (o := 0) (cur := (bv x).toArray) ((ht3.block vb hne').trans hV) fun j u hu => by rw [Nat.zero_add, List.getElem?_toArray]; exact hu
      have hcp := run_copy_ids w3 3 g (k * 32) (N1 - k) (cap - k) 1 1 ⟨vb, 0, none⟩ C1 (bv x) hg3 (by rw [hX, nmin_l (by omega)]) hxc (by rw [hX, hC1s]; omega) (one_bvl x)
      have HW3 := Lib.hid hw3
      have HFIN : Hid (∀ u : World, u.heap[g]? = some (.cells (spl C1.toList (k * 32) (bv x)).toArray 23 (0, 0)) → OwnI u F (.slice (some ⟨g, 0, none⟩) N1 cap) (L.take k ++ x :: L.drop k)) := Lib.hid fun u hu => by
        have hlen : (L.take k ++ x :: L.drop k).length = N1 := by rw [List.length_append, List.length_cons, List.length_take, List.length_drop]; omega
        have hs : (spl C1.toList (k * 32) (bv x)).length = cap * 32 := by rw [spl_len _ _ _ (by omega), hC1l]
        have := OwnI.of_row (F := F) (g := g) (cap := cap) ((hok.take k).append (fun y hy => (List.mem_cons.1 hy).elim (fun e => by rw [e]; exact hx) (fun h => hok.drop k y h))) hu hs (by rw [hlen]; omega) hcm (by
          rw [hlen, hC1, List.toList_toArray, hN1, hK1]
          exact ins_room hok htk hkl hx (by omega)) (hO.2.2 g rfl)
        rw [hlen] at this
        exact this
      have HT3 := Lib.hid ht3
      have HG3 := Lib.hid hg3
      clear hO hRd hrx hV hne hn hg hcm hcs htk hok hne' hxc hC1 hw3 hg3 ht3 hC1s hsc hfd hC1l hcur hN1 hK1 hkn hroom hcapN
      go_enter Try.func39, Try.ntmps39
      go_upto_region 15 with fail
      refine wp_region_any (by kernel_rfl) ?_
      refine' wpAny_take (i := 0) ?hizk10 (by kernel_rfl) (by kernel_rfl) (by kernel_rfl) ?hqzk10 (Or.inl ⟨?hwzk10, ?hyzk10⟩) ?hrzk10
      case hizk10 => (simp only [List.getElem?_toArray, List.getElem?_cons_succ, List.getElem?_cons_zero]; rfl)
      case hqzk10 => exact fun _ _ _ h => h
      case hwzk10 => rfl
      case hyzk10 => (intro w0; go_simp; try with_reducible rfl)
      (try simp only [Act.put, List.setIfInBounds_toArray, List.set_cons_zero, List.set_cons_succ])
      refine' wpAny_take (i := 1) ?hizk11 (by kernel_rfl) (by kernel_rfl) (by kernel_rfl) ?hqzk11 (Or.inl ⟨?hwzk11, ?hyzk11⟩) ?hrzk11
      case hizk11 => (simp only [List.getElem?_toArray, List.getElem?_cons_succ, List.getElem?_cons_zero]; rfl)
      case hqzk11 => exact fun _ _ _ h => h
      case hwzk11 => rfl
      case hyzk11 => (intro w0; go_simp; try with_reducible rfl)
      (try simp only [Act.put, List.setIfInBounds_toArray, List.set_cons_zero, List.set_cons_succ])
      refine' wpAny_take (i := 2) ?hizk12 (by kernel_rfl) (by kernel_rfl) (by kernel_rfl) ?hqzk12 (Or.inl ⟨?hwzk12, ?hyzk12⟩) ?hrzk12
      case hizk12 => (simp only [List.getElem?_toArray, List.getElem?_cons_succ, List.getElem?_cons_zero]; rfl)
      case hqzk12 => exact fun _ _ _ h => h
      case hwzk12 => rfl
      case hyzk12 => (intro w0; go_simp; try with_reducible rfl)
      (try simp only [Act.put, List.setIfInBounds_toArray, List.set_cons_zero, List.set_cons_succ])
      refine' wpAny_take (i := 3) ?hizk13 (by kernel_rfl) (by kernel_rfl) (by kernel_rfl) ?hqzk13 (Or.inl ⟨?hwzk13, ?hyzk13⟩) ?hrzk13
      case hizk13 => (simp only [List.getElem?_toArray, List.getElem?_cons_succ, List.getElem?_cons_zero]; rfl)
      case hqzk13 => exact fun _ _ _ h => h
      case hwzk13 => rfl
      case hyzk13 => (intro w0; go_simp; try with_reducible rfl)
      (try simp only [Act.put, List.setIfInBounds_toArray, List.set_cons_zero, List.set_cons_succ])
      refine' wpAny_take (i := 4) ?hizk14 (by kernel_rfl) (by kernel_rfl) (by kernel_rfl) ?hqzk14 (Or.inl ⟨?hwzk14, ?hyzk14⟩) ?hrzk14
      case hizk14 => (simp only [List.getElem?_toArray, List.getElem?_cons_succ, List.getElem?_cons_zero]; rfl)
      case hqzk14 => exact fun _ _ _ h => h
      case hwzk14 => rfl
      case hyzk14 => exact fun w0 => exec_from rfl rfl rfl (hpf2 w0)
      (try simp only [Act.put, List.setIfInBounds_toArray, List.set_cons_zero, List.set_cons_succ])
      refine' wpAny_take (i := 5) ?hizk15 (by kernel_rfl) (by kernel_rfl) (by kernel_rfl) ?hqzk15 (Or.inl ⟨?hwzk15, ?hyzk15⟩) ?hrzk15
      case hizk15 => (simp only [List.getElem?_toArray, List.getElem?_cons_succ, List.getElem?_cons_zero]; rfl)
      case hqzk15 => exact fun _ _ _ h => h
      case hwzk15 => rfl
      case hyzk15 => (intro w0; go_simp; try with_reducible rfl)
      (try simp only [Act.put, List.setIfInBounds_toArray, List.set_cons_zero, List.set_cons_succ])
      refine' wpAny_take (i := 6) ?hizk16 (by kernel_rfl) (by kernel_rfl) (by kernel_rfl) ?hqzk16 (Or.inl ⟨?hwzk16, ?hyzk16⟩) ?hrzk16
      case hizk16 => (simp only [List.getElem?_toArray, List.getElem?_cons_succ, List.getElem?_cons_zero]; rfl)
      case hqzk16 => exact fun _ _ _ h => h
      case hwzk16 => rfl
      case hyzk16 => (intro w0; go_simp; try with_reducible rfl)
      (try simp only [Act.put, List.setIfInBounds_toArray, List.set_cons_zero, List.set_cons_succ])
      refine' wpAny_take (i := 7) ?hizk17 (by kernel_rfl) (by kernel_rfl) (by kernel_rfl) ?hqzk17 (Or.inl ⟨?hwzk17, ?hyzk17⟩) ?hrzk17
      case hizk17 => (simp only [List.getElem?_toArray, List.getElem?_cons_succ, List.getElem?_cons_zero]; rfl)
      case hqzk17 => exact fun _ _ _ h => h
      case hwzk17 => rfl
      case hyzk17 => exact fun w0 => exec_from rfl rfl rfl (hpf3 w0)
      (try simp only [Act.put, List.setIfInBounds_toArray, List.set_cons_zero, List.set_cons_succ])
      refine wpAny_ready (rs := [8]) (by kernel_rfl) (by simp) ?_
      refine' AllReady.cons ?hizk18 (fun K hK => ?hrzk18) AllReady.nil
      case hizk18 => (simp only [List.getElem?_toArray, List.getElem?_cons_succ, List.getElem?_cons_zero]; rfl)
      refine step_copy_runI rfl (.tmp 73) (.tmp 76) 33 33 rfl _ _ rfl rfl (HCP.out _ rfl) (hK _ _ ?_)
      clear hK K
      (try simp only [Act.put, List.setIfInBounds_toArray, List.set_cons_zero, List.set_cons_succ])
      refine wpAny_done (by kernel_rfl) ?_ _
      go_upto_region 16 with fail
      refine wp_at HW3.out.symm ?_
      go_wp2_with ((with_reducible refine wpList_copy_runI _ ?cgi5 (.tmp 80) (.tmp 81) 33 33 ?coi5 ?cvi5 ?cui5 ?cdi5 ?csi5 ?cri5 ?chi5); (case cgi5 => rfl); (case coi5 => rfl); (case cdi5 => rfl); (case csi5 => rfl); (case cri5 => exact hcp))
      go_ret
      refine ⟨_, rfl, HFIN.out _ ?_, ?_⟩
      · exact setRow_heap _ _ _ _ _ _ HG3.out
      · exact (HT3.out.trans (turn_row w3 g _)).mono fun j hj => .inl (by rw [hj]; rfl)
end Go.Proofs.Ytfcoecojjciphaa.ids
