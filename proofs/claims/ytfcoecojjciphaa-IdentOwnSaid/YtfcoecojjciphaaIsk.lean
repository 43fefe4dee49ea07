/-
  clear; slices.Delete of one id.
  slices.IndexFunc, slices.DeleteFunc of what another set has.
-/
import Derived.Test.YtfcoecojjciphaaIsi
import Derived.Test.YtfcoecojjciphaaIdta
namespace Go.Proofs.Ytfcoecojjciphaa.ids
open Go.Proofs Go.RowKit Go.Proofs.Ytfcoecojjciphaa.mem Go.Proofs.Ytfcoecojjciphaa.sha Go.Proofs.Ytfcoecojjciphaa.srt

/-! clear -/
theorem wpList_clear_run {P : Program} (w : World) {ops : Array Oper} {rest : List Oper} {o : Oper} {a : Act} {Q : Exit → Act → World → Prop} (hgd : o.guard = none) (s : Operand) (t : TypeId)
    (ho : o.op = .call { callee := .builtin .clear, args := #[s], argTypes := #[t] }) {v : Value} (hs : a.eval s = v) {v' : Value} {w' : World}
    (hr : (Builtin.clear_ #[t] o.type #[v]).run P w = .ok v' w') (h : wpList P ops Q rest (a.put o.dst v') w') : wpList P ops Q (o :: rest) a w :=
  wpList_plain hgd fun K hK => by
    unfold Oper.wp execOp
    simp only [ho, resolve, invoke, builtin, Sem.run_bind, Sem.run_pure, Result.andThen_ok, List.map_toArray, List.map_cons, List.map_nil, hs, hr]
    exact hK _ _ h
def zs (m : Nat) : List Value := (Builtin.zeroCells (Value.cells (.agg (Array.replicate 32 (.int .u8 0)))) m).toList
theorem zs_len (m : Nat) : (zs m).length = m * 32 := by unfold zs; rw [Array.length_toList, zeroCells_len]
theorem zs_one (m : Nat) : ∀ v ∈ zs m, v.oneCell' = true := by
  intro v hv
  unfold zs Builtin.zeroCells at hv
  rw [Array.toList_map] at hv
  obtain ⟨i, _, rfl⟩ := List.mem_map.1 hv
  have h : i % (Array.replicate 32 (Value.int .u8 0)).size < (Array.replicate 32 (Value.int .u8 0)).size := Nat.mod_lt _ (by simp)
  have e : (Array.replicate 32 (Value.int .u8 0))[i % (Array.replicate 32 (Value.int .u8 0)).size]! = Value.int .u8 0 := by rw [getElem!_pos (Array.replicate 32 (Value.int .u8 0)) _ h, Array.getElem_replicate]
  show Value.oneCell' ((Array.replicate 32 (Value.int .u8 0))[i % (Array.replicate 32 (Value.int .u8 0)).size]!) = true
  rw [e]
  rfl
/-- 'clear' of m ids of a row -/
theorem run_clear_ids (w : World) (ty : TypeId) (g o c m : Nat) (cur : Array Value) (hg : w.heap[g]? = some (.cells cur 23 (0, 0))) (hfit : o + m * 32 ≤ cur.size) (h0 : 0 < m) :
    (Builtin.clear_ #[33] ty #[.slice (some ⟨g, o, none⟩) m c]).run Try.prog w = .ok (.tuple #[]) (w.setRow g (spl cur.toList o (zs m)).toArray) := by
  have hst := run_storeCells_at Try.prog g o 23 (zs m) 0 cur w hg (by rw [zs_len]; simpa using hfit) (zs_one m)
  rw [Nat.add_zero] at hst
  obtain ⟨k, rfl⟩ : ∃ k, m = k + 1 := ⟨m - 1, by omega⟩
  unfold spl
  have hst' : (storeCells ⟨g, o, none⟩ (Builtin.zeroCells (Value.cells (.agg (Array.replicate 32 (.int .u8 0)))) (k + 1)).toList).run Try.prog w = _ := hst
  have hz := idZero
  obtain ⟨z, hzz⟩ : ∃ z, z = Value.agg (Array.replicate 32 (.int .u8 0)) := ⟨_, rfl⟩
  rw [← hzz] at hz hst'
  clear hzz hst
  simp [Builtin.clear_, run_underlying Try.underlying33, hz, hst']

theorem addr_if (g lo : Nat) : (if lo * 32 = 0 then (⟨g, 0, none⟩ : Addr) else ⟨g, lo * 32, none⟩) = ⟨g, lo * 32, none⟩ := by
  split
  · rename_i h; rw [h]
  · rfl
theorem run_mid (u : World) (g n cap lo hi : Nat) (h1 : lo ≤ hi) (h2 : hi ≤ cap) (h3 : lo < cap) : (Instr.sliceAt 33 (.slice (some ⟨g, 0, none⟩) n cap) (some (.int .i64 (lo : Int))) (some (.int .i64 (hi : Int))) none).run Try.prog u = .ok (.slice (some ⟨g, lo * 32, none⟩) (hi - lo) (cap - lo)) u := by
  obtain ⟨y, hy, _, hs, _⟩ := info_parts info_id
  have h0 : (0 : Int) ≤ (lo : Int) := Int.natCast_nonneg _
  have h00 : (0 : Int) ≤ (hi : Int) := Int.natCast_nonneg _
  have hc : (lo : Int) ≤ (hi : Int) := by omega
  have hd : (hi : Int) ≤ (cap : Int) := by omega
  have hck : ¬ cap = lo := by omega
  simp only [Instr.sliceAt, Instr.slice, Instr.sliceBounds, Instr.sliceBound, asIntOf, sizeOf, typeInfo, Sem.run_bind, Sem.run_pure, Result.andThen_ok, run_underlying Try.underlying33]
  simp [hy, hs, hc, hd, Addr.add, hck, h1, addr_if]
theorem run_three (u : World) (g n cap lo hi : Nat) (h1 : lo ≤ hi) (h2 : hi ≤ n) (h3 : lo < n) (h4 : n ≤ cap) : (Instr.sliceAt 33 (.slice (some ⟨g, 0, none⟩) n cap) (some (.int .i64 (lo : Int))) (some (.int .i64 (hi : Int))) (some (.int .i64 (n : Int)))).run Try.prog u = .ok (.slice (some ⟨g, lo * 32, none⟩) (hi - lo) (n - lo)) u := by
  obtain ⟨y, hy, _, hs, _⟩ := info_parts info_id
  have h0 : (0 : Int) ≤ (lo : Int) := Int.natCast_nonneg _
  have h00 : (0 : Int) ≤ (hi : Int) := Int.natCast_nonneg _
  have hn0 : (0 : Int) ≤ (n : Int) := Int.natCast_nonneg _
  have hc : (lo : Int) ≤ (hi : Int) := by omega
  have hd : (hi : Int) ≤ (n : Int) := by omega
  have he : (n : Int) ≤ (cap : Int) := by omega
  have hck : ¬ n = lo := by omega
  simp only [Instr.sliceAt, Instr.slice, Instr.sliceBounds, Instr.sliceBound, asIntOf, sizeOf, typeInfo, Sem.run_bind, Sem.run_pure, Result.andThen_ok, run_underlying Try.underlying33]
  simp [hy, hs, hc, hd, he, Addr.add, hck, h1, h2, addr_if]
theorem exec_to {P : Program} {ρ : Operand → Value} {o : Oper} {x y : Operand} {t : TypeId} {u z v : Value} {w : World} (ho : o.op = .slice t x none (some y) none) (hx : ρ x = u) (hy : ρ y = z) (h : (Instr.sliceAt t u none (some z) none).run P w = .ok v w) :
    (execOp ρ o).run P w = .ok (.value v) w := by
  unfold execOp
  simp [ho, hx, hy, h]

set_option maxHeartbeats 4000000 in
set_option maxRecDepth 100000 in
theorem delete_any {w : World} {F : Nat → Prop} {v : Value} {L : List (List UInt8)} {k : Nat} (hO : OwnI w F v L) (hk : k < L.length) (hm : L.length ≤ 1000) :
    Calls Try.prog 40 #[v, .int .i64 k, .int .i64 ((k : Int) + 1)] w fun e w' => ∃ v', e = .returned v' ∧ OwnI w' F v' (L.take k ++ L.drop (k + 1)) ∧ Turn (fun j => v.ownBlock = some j) w w' := by
  obtain ⟨ad, cap, rfl, _, _⟩ := hO.form
  obtain ⟨g, rfl⟩ : ∃ g, ad = some ⟨g, 0, none⟩ := by
    rcases hO.2.1.2 with ⟨e, hn⟩ | ⟨g, cp, cur, e, _, _, hle, _⟩
    · omega
    · injection e with e1 e2 e3; exact ⟨g, e1⟩
  have hRd := (hO.rdv (by omega)).1
  obtain ⟨cur, _, hg, hle, hcm, hcs, htk⟩ := hO.row
  have hok := hO.1
  have hcur : cur.toList.length = cap * 32 := Array.length_toList.trans hcs
  obtain ⟨K1, hK1⟩ : ∃ K, K = k + 1 := ⟨_, rfl⟩
  obtain ⟨M1, hM1⟩ : ∃ M, M = L.length - 1 := ⟨_, rfl⟩
  have hfd : (fl (L.drop K1)).length = (L.length - K1) * 32 := by rw [fl_len (hok.drop _), List.length_drop]
  have hKI : (k : Int) + 1 = (K1 : Int) := by omega
  have hkK : ((k : Int) == (K1 : Int)) = false := beq_eq_false_iff_ne.2 (by omega)
  have k0 : (0 : Int) ≤ (k : Int) := Int.natCast_nonneg _
  have h3 := fun u => run_three u g L.length cap k K1 (by omega) (by omega) hk hle
  have hpc := fun u => run_cap u g L.length cap k (by omega)
  have hlo := fun u => (slice_lo hRd K1 (by omega) u).1
  obtain ⟨a, ha, hac⟩ : ∃ a, loAd (some ⟨g, 0, none⟩) cap K1 = some a ∧ ∀ j v, (fl (L.drop K1))[j]? = some v → w.cell? (a.add j) = some v := by
    unfold loAd
    by_cases hc : cap = K1
    · refine ⟨⟨g, 0, none⟩, by simp [hc], fun j v hv => ?_⟩
      rw [show L.drop K1 = [] from List.drop_of_length_le (by omega), fl] at hv
      simp at hv
    · refine ⟨⟨g, K1 * 32, none⟩, by simp [hc], row_cell hg (drop_cells hok htk K1)⟩
  rw [ha] at hlo
  obtain ⟨y, hy, _, hs, _⟩ := info_parts info_id
  have HAP := Lib.hid (fun (u : World) (hu : u.heap = w.heap) => by
    have := run_append_room (P := Try.prog) u 33 33 23 y Try.underlying33 hy g k cap cur (by rw [hu]; exact hg) a (L.length - K1) (cap - K1) (fl (L.drop K1)) (by rw [hfd, hs]) (fun j z hz => (by have := hac j z hz; unfold World.cell? at this ⊢; rw [hu]; exact this)) (one_fl _) (by omega) (by rw [hs, hfd, hcs]; omega)
    rw [hs, show k + (L.length - K1) = M1 by omega] at this
    exact this)
  obtain ⟨C1, hC1⟩ : ∃ c, c = (spl cur.toList (k * 32) (fl (L.drop K1))).toArray := ⟨_, rfl⟩
  have HAP2 := Lib.hid (fun (u : World) (hu : u.heap = w.heap) => (by have := HAP.out u hu; rw [show (cur.toList.take (k * 32) ++ fl (L.drop K1) ++ cur.toList.drop (k * 32 + (fl (L.drop K1)).length)).toArray = C1 from hC1.symm] at this; exact this))
  clear HAP
  have hC1s : C1.size = cap * 32 := by rw [hC1, List.size_toArray, spl_len _ _ _ (by omega), hcur]
  have hC1l : C1.toList.length = cap * 32 := Array.length_toList.trans hC1s
  obtain ⟨w3, hw3⟩ : ∃ u, u = (w.drew).setRow g C1 := ⟨_, rfl⟩
  have hg3 : w3.heap[g]? = some (.cells C1 23 (0, 0)) := by rw [hw3]; exact setRow_heap _ _ _ _ _ _ (show (w.drew).heap[g]? = _ from hg)
  have ht3 : Turn (· = g) w w3 := by rw [hw3]; exact (Turn.refl _ w).drew.trans (turn_row w.drew g C1)
  have hmid := fun u => run_mid u g M1 cap M1 L.length (by omega) (by omega) (by omega)
  rw [show L.length - M1 = 1 by omega] at hmid
  have hclr := run_clear_ids w3 0 g (M1 * 32) (cap - M1) 1 C1 hg3 (by rw [hC1s]; omega) (by decide)
  have HW3 := Lib.hid hw3
  have HFIN : Hid (∀ u : World, u.heap[g]? = some (.cells (spl C1.toList (M1 * 32) (zs 1)).toArray 23 (0, 0)) → OwnI u F (.slice (some ⟨g, 0, none⟩) M1 cap) (L.take k ++ L.drop (k + 1))) := Lib.hid fun u hu => by
    have hlen : (L.take k ++ L.drop (k + 1)).length = M1 := by rw [List.length_append, List.length_take, List.length_drop]; omega
    have hs : (spl C1.toList (M1 * 32) (zs 1)).length = cap * 32 := by rw [spl_len _ _ _ (by rw [zs_len]; omega), hC1l]
    have := OwnI.of_row (F := F) (g := g) (cap := cap) ((hok.take k).append (hok.drop (k + 1))) hu hs (by rw [hlen]; omega) hcm (by
      rw [hlen, hC1, List.toList_toArray, hM1, hK1]
      exact del_row hok htk hk _ (by omega)) (hO.2.2 g rfl)
    rw [hlen] at this
    exact this
  have HT3 := Lib.hid ht3
  have HG3 := Lib.hid hg3
  have MI0 : (0 : Int) ≤ (M1 : Int) := Int.natCast_nonneg _
  rw [hKI]
  clear hO hRd hg hcm hcs htk hok hC1 hw3 hg3 ht3 hC1s hfd hC1l hcur hK1 hM1 ha hac hKI hy hs
  go_enter Try.func40, Try.ntmps40
  go_upto_region 5 with fail
  refine wp_region_any (by kernel_rfl) ?_
  refine' wpAny_take (i := 0) ?hizd1 (by kernel_rfl) (by kernel_rfl) (by kernel_rfl) ?hqzd1 (Or.inl ⟨?hwzd1, ?hyzd1⟩) ?hrzd1
  case hizd1 => (simp only [List.getElem?_toArray, List.getElem?_cons_succ, List.getElem?_cons_zero]; rfl)
  case hqzd1 => exact fun _ _ _ h => h
  case hwzd1 => rfl
  case hyzd1 => (intro w0; go_simp; try with_reducible rfl)
  (try simp only [Act.put, List.setIfInBounds_toArray, List.set_cons_zero, List.set_cons_succ])
  refine' wpAny_take (i := 1) ?hizd2 (by kernel_rfl) (by kernel_rfl) (by kernel_rfl) ?hqzd2 (Or.inl ⟨?hwzd2, ?hyzd2⟩) ?hrzd2
  case hizd2 => (simp only [List.getElem?_toArray, List.getElem?_cons_succ, List.getElem?_cons_zero]; rfl)
  case hqzd2 => exact fun _ _ _ h => h
  case hwzd2 => rfl
  case hyzd2 => (intro w0; go_simp; try with_reducible rfl)
  (try simp only [Act.put, List.setIfInBounds_toArray, List.set_cons_zero, List.set_cons_succ])
  refine' wpAny_take (i := 2) ?hizd3 (by kernel_rfl) (by kernel_rfl) (by kernel_rfl) ?hqzd3 (Or.inl ⟨?hwzd3, ?hyzd3⟩) ?hrzd3
  case hizd3 => (simp only [List.getElem?_toArray, List.getElem?_cons_succ, List.getElem?_cons_zero]; rfl)
  case hqzd3 => exact fun _ _ _ h => h
  case hwzd3 => rfl
  case hyzd3 => exact fun w0 => exec_to rfl rfl rfl (hpc w0)
  (try simp only [Act.put, List.setIfInBounds_toArray, List.set_cons_zero, List.set_cons_succ])
  refine' wpAny_take (i := 3) ?hizd4 (by kernel_rfl) (by kernel_rfl) (by kernel_rfl) ?hqzd4 (Or.inl ⟨?hwzd4, ?hyzd4⟩) ?hrzd4
  case hizd4 => (simp only [List.getElem?_toArray, List.getElem?_cons_succ, List.getElem?_cons_zero]; rfl)
  case hqzd4 => exact fun _ _ _ h => h
  case hwzd4 => rfl
  case hyzd4 => (intro w0; go_simp; try with_reducible rfl)
  (try simp only [Act.put, List.setIfInBounds_toArray, List.set_cons_zero, List.set_cons_succ])
  refine' wpAny_take (i := 4) ?hizd5 (by kernel_rfl) (by kernel_rfl) (by kernel_rfl) ?hqzd5 (Or.inl ⟨?hwzd5, ?hyzd5⟩) ?hrzd5
  case hizd5 => (simp only [List.getElem?_toArray, List.getElem?_cons_succ, List.getElem?_cons_zero]; rfl)
  case hqzd5 => exact fun _ _ _ h => h
  case hwzd5 => rfl
  case hyzd5 => (intro w0; go_simp; try with_reducible rfl)
  (try simp only [Act.put, List.setIfInBounds_toArray, List.set_cons_zero, List.set_cons_succ])
  refine' wpAny_take (i := 5) ?hizd6 (by kernel_rfl) (by kernel_rfl) (by kernel_rfl) ?hqzd6 (Or.inl ⟨?hwzd6, ?hyzd6⟩) ?hrzd6
  case hizd6 => (simp only [List.getElem?_toArray, List.getElem?_cons_succ, List.getElem?_cons_zero]; rfl)
  case hqzd6 => exact fun _ _ _ h => h
  case hwzd6 => rfl
  case hyzd6 => exact fun w0 => exec_from rfl rfl rfl (hlo w0)
  (try simp only [Act.put, List.setIfInBounds_toArray, List.set_cons_zero, List.set_cons_succ])
  refine wpAny_ready (rs := [6]) (by kernel_rfl) (by simp) ?_
  refine' AllReady.cons ?hizd7 (fun K hK => ?hrzd7) AllReady.nil
  case hizd7 => (simp only [List.getElem?_toArray, List.getElem?_cons_succ, List.getElem?_cons_zero]; rfl)
  refine step_append_run rfl (.tmp 22) (.tmp 25) 33 rfl _ _ _ _ rfl rfl (HAP2.out _ rfl) (hK _ _ ?_)
  clear hK K
  (try simp only [Act.put, List.setIfInBounds_toArray, List.set_cons_zero, List.set_cons_succ])
  refine' wpAny_take (i := 7) ?hizd8 (by kernel_rfl) (by kernel_rfl) (by kernel_rfl) ?hqzd8 (Or.inl ⟨?hwzd8, ?hyzd8⟩) ?hrzd8
  case hizd8 => (simp only [List.getElem?_toArray, List.getElem?_cons_succ, List.getElem?_cons_zero]; rfl)
  case hqzd8 => exact fun _ _ _ h => h
  case hwzd8 => rfl
  case hyzd8 => (intro w0; go_simp; try with_reducible rfl)
  (try simp only [Act.put, List.setIfInBounds_toArray, List.set_cons_zero, List.set_cons_succ])
  refine wpAny_done (by kernel_rfl) ?_ _
  go_upto_region 6 with fail
  refine wp_at HW3.out.symm ?_
  go_wp2_with ((with_reducible refine wpList_clear_run _ ?egd1 (.tmp 31) 33 ?eod1 ?evd1 ?esd1 ?erd1 ?ehd1); (case egd1 => rfl); (case eod1 => rfl); (case esd1 => rfl); (case erd1 => exact hclr))
  go_ret
  refine ⟨_, rfl, HFIN.out _ ?_, ?_⟩
  · exact setRow_heap _ _ _ _ _ _ HG3.out
  · exact (HT3.out.trans (turn_row w3 g _)).mono fun j hj => by rw [hj]; rfl
end Go.Proofs.Ytfcoecojjciphaa.ids

namespace Go.Proofs.Ytfcoecojjciphaa.ids
open Go.Proofs Go.RowKit Go.Proofs.Ytfcoecojjciphaa.mem Go.Proofs.Ytfcoecojjciphaa.sha Go.Proofs.Ytfcoecojjciphaa.srt

theorem zidZero : ∀ w, (zeroValue 23).run Try.prog w = .ok (.agg (bv zid).toArray) w := fun w => by rw [idZero]; rfl
theorem enters_has : ∀ (args : Array Value) (w : World), (callFunc 42 args).run Try.prog w = .ok (.enter 42 args) w := enters_of Try.func42 (by kernel_rfl) rfl

/-- two lists that read -/
structure TwoS (v u : Value) (L M : List (List UInt8)) (w0 w : World) : Prop where
  rd : RdV w v L
  rm : RdV w u M
  below : Below w0.heap.size w0 w
theorem TwoS.next {v u : Value} {L M : List (List UInt8)} {w0 w w' : World} (h : TwoS v u L M w0 w) (hb : Below w.heap.size w w') : TwoS v u L M w0 w' := ⟨h.rd.next hb, h.rm.next hb, h.below.trans (hb.mono h.below.size)⟩

set_option maxHeartbeats 2000000 in
set_option maxRecDepth 100000 in
theorem indexf_any (L M : List (List UInt8)) (v u : Value) (w : World) (hR : RdV w v L) (hM : RdV w u M) (hs : Sorted M) (hm : L.length ≤ 1000000) (hmm : M.length ≤ 1000000) :
    Calls Try.prog 55 #[v, .func (.func 42) #[u] #[]] w fun e w' => ∃ k : Nat, e = .returned (.int .i64 (if k < L.length then (k : Int) else -1)) ∧ Hid (k ≤ L.length ∧ (∀ j, j < k → M.contains (L.getD j []) = false) ∧ (k < L.length → M.contains (L.getD k []) = true)) ∧ Below w.heap.size w w' := by
  obtain ⟨ad, cap, rfl⟩ := hR.form
  have HS := Lib.hid (show TwoS (.slice ad L.length cap) u L M w w from ⟨hR, hM, Below.refl _ _⟩)
  have HSo := Lib.hid hs
  have HOK := Lib.hid hR.ok
  have en := enters_has
  clear hR hM hs
  go_enter Try.func55, Try.ntmps55
  go_wp2_with fail
  go_loopg [5, 8] L.length (fun gk s5 s8 wr => ∃ i : Nat, s8 = .int .i64 i ∧ i ≤ L.length ∧ L.length - i ≤ gk ∧ Hid (∀ j, j < i → M.contains (L.getD j []) = false) ∧ Hid (TwoS (.slice ad L.length cap) u L M w wr))
  case atStart => exact ⟨0, rfl, Nat.zero_le _, by omega, Lib.hid fun m hm => by omega, HS⟩
  case round =>
    obtain ⟨i, rfl, hiL, hgk, HN, HS2⟩ := hrel
    clear HS
    have i0 : (0 : Int) ≤ (i : Int) := Int.natCast_nonneg _
    by_cases hlt : i < L.length
    · have hltz : (i : Int) < (L.length : Int) := by omega
      obtain ⟨b, off, rfl, -, -, -⟩ := HS2.out.rd.load (i := i) (by omega)
      obtain ⟨y, hy⟩ : ∃ y, y = L.getD i [] := ⟨_, rfl⟩
      have hy32 : y.length = 32 := by rw [hy]; exact HOK.out.get (by omega)
      have HY := Lib.hid hy.symm
      have hld : (Instr.loadAt 23 (.pointer (some ⟨b, off + i * 32, none⟩))).run Try.prog wr = .ok (.agg (bv y).toArray) wr := HS2.out.rd.load_y hlt HY.out
      have HC := lhas_any M y u wr HS2.out.rm HSo.out hy32 hmm
      clear hy
      cases hc : M.contains y with
      | true =>
        rw [hc] at HC
        have HC' := Lib.hid HC
        have HV := Lib.hid hc
        clear HC hc
        go_wp2_with (first
          | ((with_reducible refine step_load (t := 23) (x := .tmp 14) (p := ?lpi1) (v := ?lvi1) ?lgi1 ?loi1 ?lxi1 ?lri1 ?lhi1); (case lgi1 => rfl); (case loi1 => rfl); (case lxi1 => rfl); (case lri1 => exact hld))
          | (go_at_fn 42; (with_reducible refine HC'.out.mono ?_); rintro e w3 ⟨rfl, hB3⟩; have HB3 := Lib.hid hB3; clear hB3 HC'))
        go_ret
        refine ⟨i, ?_, Lib.hid ⟨hiL, HN.out, fun _ => by rw [HY.out]; exact HV.out⟩, (HS2.out.next HB3.out).below⟩
        rw [if_pos hlt]
        rfl
      | false =>
        rw [hc] at HC
        have HC' := Lib.hid HC
        have HV := Lib.hid hc
        clear HC hc
        go_wp2_with (first
          | ((with_reducible refine step_load (t := 23) (x := .tmp 14) (p := ?lpi2) (v := ?lvi2) ?lgi2 ?loi2 ?lxi2 ?lri2 ?lhi2); (case lgi2 => rfl); (case loi2 => rfl); (case lxi2 => rfl); (case lri2 => exact hld))
          | (go_at_fn 42; (with_reducible refine HC'.out.mono ?_); rintro e w3 ⟨rfl, hB3⟩; have HB3 := Lib.hid hB3; clear hB3 HC'))
        go_roundg (L.length - (i + 1))
        case measure => omega
        case rel => exact ⟨i + 1, by go_num, hlt, Nat.le_refl _, Lib.hid fun m hm => by
            rcases Nat.lt_or_ge m i with h | h
            · exact HN.out m h
            · obtain rfl : m = i := by omega
              rw [HY.out]; exact HV.out, Lib.hid (HS2.out.next HB3.out)⟩
    · obtain rfl : i = L.length := by omega
      have hltz : ¬ (L.length : Int) < (L.length : Int) := by omega
      go_wp2_with fail
      go_ret
      refine ⟨L.length, ?_, Lib.hid ⟨Nat.le_refl _, (by first | exact HN.out | (have h := HN.out; simpa using h)), fun h => absurd h (Nat.lt_irrefl _)⟩, HS2.out.below⟩
      rw [if_neg (Nat.lt_irrefl _)]
      rfl

/-- what the loop of DeleteFunc keeps: L' begins with those that stay -/
structure Sieve (M L L' : List (List UInt8)) (j i : Nat) : Prop where
  len : L'.length = L.length
  lt : i < j
  le : j ≤ L.length
  ok : okIds L'
  tail : ∀ m, j ≤ m → L'.getD m [] = L.getD m []
  head : L'.take i = (L.take j).filter (notIn M)
theorem filter_all {M : List (List UInt8)} : ∀ {L : List (List UInt8)}, (∀ y ∈ L, M.contains y = false) → L.filter (notIn M) = L
  | [], _ => rfl
  | a :: L, h => by
    rw [List.filter_cons, if_pos (by unfold notIn; rw [h a List.mem_cons_self]; rfl), filter_all fun y hy => h y (List.mem_cons_of_mem _ hy)]
theorem mem_take_get {L : List (List UInt8)} {k : Nat} {y : List UInt8} (h : y ∈ L.take k) : ∃ j, j < k ∧ j < L.length ∧ L.getD j [] = y := by
  obtain ⟨j, hj, e⟩ := List.getElem_of_mem h
  rw [List.length_take] at hj
  rw [List.getElem_take] at e
  exact ⟨j, by omega, by omega, by rw [List.getD_eq_getElem?_getD, List.getElem?_eq_getElem (by omega)]; exact e⟩
theorem Sieve.start {M L : List (List UInt8)} (hok : okIds L) {k : Nat} (hk : k < L.length) (h1 : ∀ j, j < k → M.contains (L.getD j []) = false) (h2 : M.contains (L.getD k []) = true) : Sieve M L L (k + 1) k := by
  refine ⟨rfl, by omega, hk, hok, fun _ _ => rfl, ?_⟩
  rw [take_succ' L hk, List.filter_append, filter_all (L := L.take k) (fun y hy => by
    obtain ⟨j, hj, _, e⟩ := mem_take_get hy
    rw [← e]; exact h1 j hj), List.filter_cons, if_neg (by unfold notIn; rw [h2]; decide), List.filter_nil, List.append_nil]
theorem Sieve.keep {M L L' : List (List UInt8)} {j i : Nat} (h : Sieve M L L' j i) (hj : j < L.length) (hc : M.contains (L'.getD j []) = false) : Sieve M L (L'.set i (L'.getD j [])) (j + 1) (i + 1) := by
  have hl := h.len
  have hi := h.lt
  refine ⟨by rw [List.length_set]; exact hl, by omega, hj, h.ok.set i (h.ok.get (by omega)), fun m hm => ?_, ?_⟩
  · rw [List.getD_eq_getElem?_getD, List.getElem?_set_ne (by omega), ← List.getD_eq_getElem?_getD]
    exact h.tail m (by omega)
  · rw [take_set_succ L' (by omega), take_succ' L hj, List.filter_append, h.head, ← h.tail j (Nat.le_refl _), List.filter_cons, if_pos (by unfold notIn; rw [hc]; rfl), List.filter_nil]
theorem Sieve.drop {M L L' : List (List UInt8)} {j i : Nat} (h : Sieve M L L' j i) (hj : j < L.length) (hc : M.contains (L'.getD j []) = true) : Sieve M L L' (j + 1) i := by
  refine ⟨h.len, by have := h.lt; omega, hj, h.ok, fun m hm => h.tail m (by omega), ?_⟩
  rw [take_succ' L hj, List.filter_append, h.head, ← h.tail j (Nat.le_refl _), List.filter_cons, if_neg (by unfold notIn; rw [hc]; decide), List.filter_nil, List.append_nil]
theorem Sieve.done {M L L' : List (List UInt8)} {i : Nat} (h : Sieve M L L' L.length i) : L'.take i = L.filter (notIn M) := by rw [h.head, List.take_length]

/-- what is kept while the sieve runs: the list of one's own, the other list, in blocks of their own -/
structure SvS (F : Nat → Prop) (g cap : Nat) (u : Value) (L' M : List (List UInt8)) (w0 w : World) : Prop where
  own : OwnI w F (.slice (some ⟨g, 0, none⟩) L'.length cap) L'
  rm : RdV w u M
  nb : ∀ b off n c, u = .slice (some ⟨b, off, none⟩) n c → b ≠ g ∧ (M = [] ∨ b < w0.heap.size)
  turn : Turn (fun j => j = g ∨ w0.heap.size ≤ j) w0 w
theorem rd_turn {w w' : World} {G : Nat → Prop} {u : Value} {M : List (List UInt8)} (h : RdV w u M) (ht : Turn G w w') (hd : ∀ b off n c, u = .slice (some ⟨b, off, none⟩) n c → b < w.heap.size → ¬ G b) : RdV w' u M := by
  obtain ⟨ad, cap, rfl⟩ := h.form
  exact h.turn ht fun b off e hb => hd b off M.length cap (by rw [e]) hb
theorem SvS.next {F : Nat → Prop} {g cap : Nat} {u : Value} {L' M : List (List UInt8)} {w0 w w' : World} (h : SvS F g cap u L' M w0 w) (hb : Below w.heap.size w w') : SvS F g cap u L' M w0 w' :=
  ⟨h.own.below hb, h.rm.next hb, h.nb, h.turn.trans ((Turn.ofBelow hb).mono fun j hj => .inr (Nat.le_trans h.turn.size hj))⟩
theorem SvS.put {F : Nat → Prop} {g cap : Nat} {u : Value} {L' L2 M : List (List UInt8)} {w0 w w' : World} (h : SvS F g cap u L' M w0 w) (ho : OwnI w' F (.slice (some ⟨g, 0, none⟩) L2.length cap) L2) (ht : Turn (· = g) w w') : SvS F g cap u L2 M w0 w' :=
  ⟨ho, rd_turn h.rm ht fun b off n c e _ he => (h.nb b off n c e).1 he, h.nb, h.turn.trans (ht.mono fun j hj => .inl hj)⟩

set_option maxHeartbeats 4000000 in
set_option maxRecDepth 100000 in
theorem deletef_any {F : Nat → Prop} (L M : List (List UInt8)) (v u : Value) (w : World) (hO : OwnI w F v L) (hM : RdV w u M) (hs : Sorted M) (hnb : ∀ b off n c, u = .slice (some ⟨b, off, none⟩) n c → v.ownBlock ≠ some b) (hm : L.length ≤ 1000) (hmm : M.length ≤ 1000) :
    Calls Try.prog 41 #[v, .func (.func 42) #[u] #[]] w fun e w' => ∃ v', e = .returned v' ∧ OwnI w' F v' (L.filter (notIn M)) ∧ Turn (fun j => v.ownBlock = some j ∨ w.heap.size ≤ j) w w' := by
  obtain ⟨ad, cap, rfl, _, _⟩ := hO.form
  have HIX := Lib.hid (indexf_any L M _ u w (hO.rdv (by omega)).1 hM hs (by omega) (by omega))
  have HO := Lib.hid hO
  have HM := Lib.hid hM
  have HSo := Lib.hid hs
  have HNB := Lib.hid hnb
  have en := enters_has
  clear hO hM hs hnb
  go_enter Try.func41, Try.ntmps41
  go_upto_region 2 with (go_at_call 55; (with_reducible refine HIX.out.mono ?_); rintro e w1 ⟨k, rfl, HK, hB1⟩; have HB1 := Lib.hid hB1; clear hB1 HIX)
  by_cases hk : k < L.length
  · have hif : (if k < L.length then (k : Int) else -1) = (k : Int) := if_pos hk
    rw [hif]
    clear hif
    obtain ⟨hk1, hk2, hk3⟩ := HK.out
    have hkb : ((k : Int) == -1) = false := beq_eq_false_iff_ne.2 (by omega)
    obtain ⟨g, rfl⟩ : ∃ g, ad = some ⟨g, 0, none⟩ := by
      rcases HO.out.2.1.2 with ⟨e, hn⟩ | ⟨g, cp, cur, e, _, _, hle, _⟩
      · omega
      · injection e with e1 e2 e3; exact ⟨g, e1⟩
    have HSV := Lib.hid (Sieve.start (M := M) HO.out.1 hk hk2 (hk3 hk))
    have HS1 := Lib.hid (show SvS F g cap u L M w w1 from ⟨HO.out.below HB1.out, HM.out.next HB1.out, fun b off n c e => ⟨fun h => HNB.out b off n c e (by rw [h]; rfl), by
      rcases HM.out.at_ with ⟨ad', cap', hv, _, _, _, _, hr⟩
      rw [e] at hv
      rcases hr with h | ⟨b', off', he, hb, _⟩
      · left
        cases M with
        | nil => rfl
        | cons a M => have := fl_len HM.out.ok; rw [h] at this; simp at this
      · injection hv with e1; rw [he] at e1; injection e1 with e1; injection e1 with e1; exact .inr (by rw [e1]; exact hb)⟩, (Turn.ofBelow HB1.out).mono fun j hj => .inr hj⟩)
    clear hk1 hk2 hk3 HK
    have k0 : (0 : Int) ≤ (k : Int) := Int.natCast_nonneg _
    go_wp2_with fail
    go_loopg [5, 6, 7] L.length (fun gk s5 s6 s7 wr => ∃ (i j : Nat) (L' : List (List UInt8)), s5 = .int .i64 i ∧ s6 = .int .i64 j ∧ j ≤ L.length ∧ L.length - j ≤ gk ∧ i < j ∧ L'.length = L.length ∧ Hid (Sieve M L L' j i) ∧ Hid (SvS F g cap u L' M w wr))
    case atStart => exact ⟨k, k + 1, L, rfl, by go_num, hk, by omega, by omega, rfl, HSV, HS1⟩
    case round =>
      obtain ⟨i, j, L', rfl, rfl, hjL, hgk, hij, hL', HV, HS2⟩ := hrel
      clear HS1 HSV
      have i0 : (0 : Int) ≤ (i : Int) := Int.natCast_nonneg _
      have j0 : (0 : Int) ≤ (j : Int) := Int.natCast_nonneg _
      have iI : (i : Int) < (L.length : Int) := by omega
      by_cases hlt : j < L.length
      · have hltz : (j : Int) < (L.length : Int) := by omega
        obtain ⟨y, hy⟩ : ∃ y, y = L'.getD j [] := ⟨_, rfl⟩
        have hy32 : y.length = 32 := by rw [hy]; exact HV.out.ok.get (by omega)
        have HY := Lib.hid hy.symm
        have hld : (Instr.loadAt 23 (.pointer (some ⟨g, j * 32, none⟩))).run Try.prog wr = .ok (.agg (bv y).toArray) wr := by
          have := (HS2.out.own.rdv (by omega)).1.load_y (i := j) (by omega) HY.out
          rwa [Nat.zero_add] at this
        have hbz := Blk.new wr 23 (bv zid).toArray
        clear hy
        go_upto_region 8 with (first
          | ((with_reducible refine step_load (t := 23) (x := .tmp 24) (p := ?lpi3) (v := ?lvi3) ?lgi3 ?loi3 ?lxi3 ?lri3 ?lhi3); (case lgi3 => rfl); (case loi3 => rfl); (case lxi3 => rfl); (case lri3 => exact hld))
          | ((with_reducible refine step_alloc (t := 23) (v := .agg (bv zid).toArray) ?qgi4 ?qoi4 ?qzi4 ?qhi4); (case qgi4 => rfl); (case qoi4 => rfl); (case qzi4 => exact zidZero))
          | ((with_reducible refine step_store_id (x := .tmp 7) (y := .tmp 25) (g := ?sri5) (z := ?szi5) (y' := ?syi5) ?sgi5 ?soi5 ?sai5 ?sbi5 ?sci5 ?sdi5 ?sei5 ?shi5); (case sgi5 => rfl); (case soi5 => rfl); (case sai5 => rfl); (case sbi5 => rfl); (case sci5 => exact hbz); (case sdi5 => exact rfl); (case sei5 => exact hy32)))
        refine wp_at (show _ = laidId wr y from rfl) ?_
        obtain ⟨w2, hw2⟩ : ∃ x, x = laidId wr y := ⟨_, rfl⟩
        rw [← hw2]
        have hy2 : Blk w2 wr.heap.size 23 (bv y).toArray := by rw [hw2]; exact laidId_blk wr y
        have HS3 := Lib.hid (show SvS F g cap u L' M w w2 by rw [hw2]; exact HS2.out.next (laidId_below wr y))
        have HY2 := Lib.hid hy2
        have hbx : (Instr.loadAt 23 (.pointer (some ⟨wr.heap.size, 0, none⟩))).run Try.prog w2 = .ok (.agg (bv y).toArray) w2 := box_load hy2 hy32 0
        have HC := lhas_any M y u w2 HS3.out.rm HSo.out hy32 (by omega)
        generalize wr.heap.size = Z at HY2 hbx ⊢
        clear hw2 hy2 hld hbz
        cases hc : M.contains y with
        | true =>
          rw [hc] at HC
          have HC' := Lib.hid HC
          have HK := Lib.hid (HV.out.drop hlt (by rw [HY.out]; exact hc))
          clear HC hc
          go_wp2_with (first
            | ((with_reducible refine step_load (t := 23) (x := .tmp 7) (p := ?lpi6) (v := ?lvi6) ?lgi6 ?loi6 ?lxi6 ?lri6 ?lhi6); (case lgi6 => rfl); (case loi6 => rfl); (case lxi6 => rfl); (case lri6 => exact hbx))
            | (go_at_fn 42; (with_reducible refine HC'.out.mono ?_); rintro e w3 ⟨rfl, hB3⟩; have HS4 := Lib.hid (HS3.out.next hB3); clear hB3 HC'))
          go_roundg (L.length - (j + 1))
          case measure => omega
          case rel => exact ⟨i, j + 1, L', rfl, by go_num, hlt, Nat.le_refl _, by omega, hL', HK, HS4⟩
        | false =>
          rw [hc] at HC
          have HC' := Lib.hid HC
          have HK := Lib.hid (HV.out.keep hlt (by rw [HY.out]; exact hc))
          clear HC hc
          go_wp2_with (first
            | (go_at_fn 42; (with_reducible refine HC'.out.mono ?_); rintro e w3 ⟨rfl, hB3⟩; have hbx3 := box_load (HY2.out.below hB3 HY2.out.lt) hy32 0; have hbx4 : (Instr.loadAt 23 (.pointer (some ⟨Z, 0, none⟩))).run Try.prog w3 = .ok (.agg (bv y).toArray) w3 := hbx3; have HS4 := Lib.hid (HS3.out.next hB3); obtain ⟨b', c', w4, hv, _, hst, hO4, hT4⟩ := HS4.out.own.store (i := i) (by omega) (y := y) hy32; obtain ⟨rfl, rfl⟩ : g = b' ∧ cap = c' := (by injection hv with e1 e2 e3; injection e1 with e1; injection e1 with e1; exact ⟨e1, e3⟩); have HS5 := Lib.hid (HS4.out.put (L2 := L'.set i y) (by rw [List.length_set]; exact hO4) hT4); clear hO4 hT4 hv hB3 HC' hbx hbx3)
            | ((with_reducible refine step_load (t := 23) (x := .tmp 7) (p := ?lpi7) (v := ?lvi7) ?lgi7 ?loi7 ?lxi7 ?lri7 ?lhi7); (case lgi7 => rfl); (case loi7 => rfl); (case lxi7 => rfl); (case lri7 => exact hbx4))
            | ((with_reducible refine step_load (t := 23) (x := .tmp 7) (p := ?lpi8) (v := ?lvi8) ?lgi8 ?loi8 ?lxi8 ?lri8 ?lhi8); (case lgi8 => rfl); (case loi8 => rfl); (case lxi8 => rfl); (case lri8 => exact hbx))
            | ((with_reducible refine step_store_at (x := .tmp 33) (y := .tmp 32) (p := ?wpi9) (v := ?wvi9) (w' := ?wwi9) ?wgi9 ?woi9 ?wxi9 ?wyi9 ?wri9 ?whi9); (case wgi9 => rfl); (case woi9 => rfl); (case wxi9 => rfl); (case wyi9 => rfl); (case wri9 => exact hst)))
          rw [HY.out] at HK
          go_roundg (L.length - (j + 1))
          case measure => omega
          case rel => exact ⟨i + 1, j + 1, _, by go_num, by go_num, hlt, Nat.le_refl _, by omega, by rw [List.length_set]; exact hL', HK, HS5⟩
      · obtain rfl : j = L.length := by omega
        have hltz : ¬ (L.length : Int) < (L.length : Int) := by omega
        have HD := Lib.hid HV.out.done
        obtain ⟨cur, hnn, hg, hle, hcm, hcs, htk⟩ := HS2.out.own.row
        rw [hL'] at hle htk
        have hok := HV.out.ok
        have hcur : cur.toList.length = cap * 32 := Array.length_toList.trans hcs
        have hpf := fun u => run_from u g L.length cap i (by omega) (by omega) hle
        have hpc := fun u => run_cap u g L.length cap i (by omega)
        have hclr := run_clear_ids wr 0 g (i * 32) (cap - i) (L.length - i) cur hg (by rw [hcs]; omega) (by omega)
        have hlen : (L'.take i).length = i := by rw [List.length_take]; omega
        have HFIN : Hid (∀ u : World, u.heap[g]? = some (.cells (spl cur.toList (i * 32) (zs (L.length - i))).toArray 23 (0, 0)) → OwnI u F (.slice (some ⟨g, 0, none⟩) i cap) (L.filter (notIn M))) := Lib.hid fun u hu => by
          have hs : (spl cur.toList (i * 32) (zs (L.length - i))).length = cap * 32 := by rw [spl_len _ _ _ (by rw [zs_len]; omega), hcur]
          have := OwnI.of_row (F := F) (g := g) (cap := cap) (hok.take i) hu hs (by rw [hlen]; omega) hcm (by
            rw [hlen, spl, List.append_assoc, List.take_append_of_le_length (by rw [List.length_take]; omega), List.take_take, Nat.min_self]
            exact take_fl hok (by rw [hL']; exact htk) (by omega)) (HO.out.2.2 g rfl)
          rw [hlen, HD.out] at this
          exact this
        have HG := Lib.hid hg
        clear hg hcm hcs htk hok hcur hlen hnn hle
        go_wp2_with ((with_reducible refine wpList_clear_run _ ?egj1 (.tmp 38) 33 ?eoj1 ?evj1 ?esj1 ?erj1 ?ehj1); (case egj1 => rfl); (case eoj1 => rfl); (case esj1 => rfl); (case erj1 => exact hclr))
        go_ret
        refine ⟨_, rfl, HFIN.out _ ?_, ?_⟩
        · exact setRow_heap _ _ _ _ _ _ HG.out
        · exact (HS2.out.turn.trans ((turn_row wr g _).mono fun j hj => .inl hj)).mono fun j hj => hj.imp (fun e => by rw [e]; rfl) id
  · have hif : (if k < L.length then (k : Int) else -1) = -1 := if_neg hk
    rw [hif]
    clear hif
    have HF := Lib.hid (show L.filter (notIn M) = L from filter_all fun y hy => by
      obtain ⟨hk1, hk2, _⟩ := HK.out
      obtain ⟨j, hj, e⟩ := List.getElem_of_mem hy
      have := hk2 j (by omega)
      rw [List.getD_eq_getElem?_getD, List.getElem?_eq_getElem hj, Option.getD_some, e] at this
      exact this)
    clear HK
    go_wp2_with fail
    go_ret
    rw [HF.out]
    exact ⟨_, rfl, HO.out.below HB1.out, (Turn.ofBelow HB1.out).mono fun j hj => .inr hj⟩
end Go.Proofs.Ytfcoecojjciphaa.ids
