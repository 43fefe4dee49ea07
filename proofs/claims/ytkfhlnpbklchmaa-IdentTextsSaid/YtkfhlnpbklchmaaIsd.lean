/-
  ident.Text.
-/
import Derived.Test.YtkfhlnpbklchmaaIsc
import Derived.BigRegion
import Derived.Laws.IdiomStrings
namespace Go.Proofs.Ytkfhlnpbklchmaa.ids
open Go.RowKit Go.Proofs.Ytkfhlnpbklchmaa.mem Go.Proofs.Ytkfhlnpbklchmaa.sha Go.Proofs.Ytkfhlnpbklchmaa.strx

/-- the text as far as it is written -/
def tAcc (x : Id) (k : Nat) : List UInt8 := textL (x.take k) ++ List.replicate (64 - 2 * k) 0
theorem tAcc_zero (x : Id) : tAcc x 0 = List.replicate 64 0 := by unfold tAcc; rw [List.take_zero]; rfl
theorem tAcc_len (x : Id) (hx : x.length = 32) (k : Nat) (h : k ≤ 32) : (tAcc x k).length = 64 := by
  unfold tAcc
  rw [List.length_append, textL_len, List.length_take, List.length_replicate, hx]
  omega
theorem tAcc_all (x : Id) (hx : x.length = 32) : tAcc x 32 = textL x := by
  unfold tAcc
  rw [List.take_of_length_le (by omega), Nat.sub_self, List.replicate_zero, List.append_nil]
theorem tAcc_set (x : Id) (hx : x.length = 32) (k : Nat) (h : k < 32) : ((tAcc x k).set (2 * k) (hexB ((x.getD k 0).toNat / 16))).set (2 * k + 1) (hexB ((x.getD k 0).toNat % 16)) = tAcc x (k + 1) := by
  have hl : (textL (x.take k)).length = 2 * k := by rw [textL_len, List.length_take]; omega
  unfold tAcc
  rw [textL_take x k (by omega), show 64 - 2 * k = (64 - 2 * (k + 1)) + 1 + 1 by omega, List.replicate_succ, List.replicate_succ, List.set_append_right _ _ (by omega), hl, Nat.sub_self, List.set_cons_zero, List.set_append_right _ _ (by omega), hl, show 2 * k + 1 - 2 * k = 1 by omega, List.set_cons_succ, List.set_cons_zero, List.append_assoc]
  rfl
theorem hex_at' : ∀ n : Fin 16, hexL.getD n.val 0 = hexB n.val := fun _ => rfl
theorem B_div (c : UInt8) : B c / (16 : Int) = ((c.toNat / 16 : Nat) : Int) := by unfold B; norm_cast
theorem and15' : ∀ n : Fin 256, n.val &&& 15 = n.val % 16 := by decide +kernel
theorem B_and15 (c : UInt8) : bits .and .u8 (B c) 15 = ((c.toNat % 16 : Nat) : Int) := by
  unfold B
  have := u8_and_nat c.toNat 15 c.toNat_lt (by decide)
  rw [show ((15 : Nat) : Int) = 15 from rfl] at this
  rw [this, and15' ⟨c.toNat, c.toNat_lt⟩]

theorem run_index_u8 (s : ByteArray) (i : Int) (k : Nat) (hi : i = (k : Int)) (h : k < s.size) (w : World) : (Instr.index 9 (.string s) (.int .u8 i)).run Try.prog w = .ok (.int .u8 (B (s.data.toList.getD k 0))) w := by
  subst hi
  have hs : s[k]? = some (s.data.toList.getD k 0) := by
    rw [List.getD_eq_getElem?_getD, List.getElem?_eq_getElem (by rw [← size_list]; exact h)]
    simp [getElem?_pos s k h]
    rfl
  have h0 : (0 : Int) ≤ (k : Int) := Int.natCast_nonneg _
  simp [Instr.index, asIntOf, run_underlying Try.underlying9, hs]
  rfl
theorem exec_index {P : Program} {ρ : Operand → Value} {o : Oper} {x y : Operand} {t : TypeId} {u z v : Value} {w : World} (ho : o.op = .index t x y) (hx : ρ x = u) (hy : ρ y = z) (h : (Instr.index t u z).run P w = .ok v w) :
    (execOp ρ o).run P w = .ok (.value v) w := by
  unfold execOp
  simp [ho, hx, hy, h]
theorem run_index_arr (x : Id) (hx : x.length = 32) (k : Nat) (hk : k < 32) (w : World) : (Instr.index 23 (.agg (bv x).toArray) (.int .i64 (k : Int))).run Try.prog w = .ok (.int .u8 (B (x.getD k 0))) w := by
  obtain ⟨y, hy5, _, hs, _⟩ := info_parts info5
  have h := bv_get x k (by omega)
  have hb : (0 : Int) ≤ (k : Int) ∧ (k : Int) < 32 := ⟨by omega, by omega⟩
  have ha : ∀ w, (isAgg 5).run Try.prog w = .ok false w := fun w => by simp [isAgg, run_underlying Try.underlying5]
  have hz : ∀ w, (sizeOf 5).run Try.prog w = .ok 1 w := fun w => by simp [sizeOf, typeInfo, hy5, hs]
  have hn : ¬ 32 ≤ k := by omega
  simp [Instr.index, asIntOf, run_underlying Try.underlying23, hb, part, ha, hz, h, hn]
theorem textBlk (w : World) (g : Nat) (l : List UInt8) (hl : l.length = 64) (h : Blk w g 45 (bv l).toArray) : (convert 34 9 (.slice (some ⟨g, 0, none⟩) 64 64)).run Try.prog w = .ok (.string (bt l)) w := by
  have e := run_convert_bytes_back (P := Try.prog) w 34 9 5 ⟨g, 0, none⟩ 64 l Try.underlying34 Try.underlying5 Try.underlying9 (fun j hj => by
    rw [Addr.add_lit, Nat.zero_add, h.cell j, List.getElem?_toArray, bv_get _ _ hj, List.getD_eq_getElem?_getD, List.getElem?_eq_getElem hj]
    rfl)
  rw [hl] at e
  exact e

set_option maxHeartbeats 4000000 in
set_option maxRecDepth 100000 in
theorem text_any (x : Id) (w : World) (hx : x.length = 32) : Calls Try.prog 8 #[.agg (bv x).toArray] w fun e w' => e = .returned (.string (bt (textL x))) ∧ Below w.heap.size w w' := by
  obtain ⟨w1, hw1⟩ : ∃ u, u = (w.alloc (.cells (bv x).toArray 23)).alloc (.cells (bv (tAcc x 0)).toArray 45) := ⟨_, rfl⟩
  obtain ⟨S, hS⟩ : ∃ S, S = w.heap.size := ⟨_, rfl⟩
  have hX : Blk w1 S 23 (bv x).toArray := by rw [hw1, hS]; exact (Blk.new w _ _).alloc _
  have hO : Blk w1 (S + 1) 45 (bv (tAcc x 0)).toArray := by rw [hw1, hS]; exact Blk.at_ (by simp) _ _
  have hB : Below w.heap.size w w1 := by rw [hw1]; exact ((Below.refl _ _).alloc (Nat.le_refl _) _).alloc (by simp) _
  have HX := Lib.hid hX
  have HO := Lib.hid hO
  have HB := Lib.hid hB
  have HS := Lib.hid hS
  have HW := Lib.hid hw1
  have hbx : (Instr.loadAt 23 (.pointer (some ⟨S, 0, none⟩))).run Try.prog w1 = .ok (.agg (bv x).toArray) w1 := box_load hX hx 0
  clear hX hO hB hw1 hS
  go_enter Try.func8, Try.ntmps8
  go_upto_region 2 with fail
  refine wp_at HW.out.symm ?_
  rw [← HS.out]
  clear HW
  go_wp2_with ((with_reducible refine step_load (t := 23) (x := .tmp 1) (p := ?lp1) (v := ?lv1) ?lg1 ?lo1 ?lx1 ?lr1 ?lh1); (case lg1 => rfl); (case lo1 => rfl); (case lx1 => rfl); (case lr1 => exact hbx))
  go_loopg [4, 5, 7] 32 (fun gk s4 s5 s7 wr => ∃ k : Nat, s7 = .int .i64 k ∧ k ≤ 32 ∧ 32 - k ≤ gk ∧ Hid (Blk wr (S + 1) 45 (bv (tAcc x k)).toArray) ∧ Hid (Below w.heap.size w wr))
  case atStart => exact ⟨0, rfl, by decide, by omega, HO, HB⟩
  case round =>
    obtain ⟨k, rfl, hk, hgk, HO2, HB2⟩ := hrel
    clear HO HB
    have k0 : (0 : Int) ≤ (k : Int) := Int.natCast_nonneg _
    by_cases hlt : k < 32
    · have hltz : (k : Int) < 32 := by omega
      obtain ⟨c, hc⟩ : ∃ c, c = x.getD k 0 := ⟨_, rfl⟩
      have hbi : (bv x)[k]? = some (.int .u8 (B c)) := by rw [bv_get x k (by omega), hc]
      have hc0 := B_nonneg c
      have hc1 := B_lt c
      have hv1 := B_div c
      have hv2 := B_and15 c
      obtain ⟨p, hp⟩ : ∃ p, p = c.toNat / 16 := ⟨_, rfl⟩
      obtain ⟨r, hr⟩ : ∃ r, r = c.toNat % 16 := ⟨_, rfl⟩
      rw [← hp] at hv1
      rw [← hr] at hv2
      have hp16 : p < 16 := by have := c.toNat_lt; omega
      have hr16 : r < 16 := by omega
      have HI1 := Lib.hid (fun u : World => run_index_u8 (bt hexL) (p : Int) p rfl (by rw [bt_size]; exact hp16) u)
      have HI2 := Lib.hid (fun u : World => run_index_u8 (bt hexL) (r : Int) r rfl (by rw [bt_size]; exact hr16) u)
      rw [bt_list] at HI1 HI2
      obtain ⟨y1, hy1⟩ : ∃ y, y = hexL.getD p 0 := ⟨_, rfl⟩
      obtain ⟨y2, hy2⟩ : ∃ y, y = hexL.getD r 0 := ⟨_, rfl⟩
      rw [← hy1] at HI1
      rw [← hy2] at HI2
      have HV := Lib.hid (show ((tAcc x k).set (2 * k) y1).set (2 * k + 1) y2 = tAcc x (k + 1) by rw [hy1, hy2, hp, hr, hc]; exact tAcc_set x hx k hlt)
      have hl := tAcc_len x hx k hk
      obtain ⟨m, hm⟩ : ∃ m, m = 2 * k := ⟨_, rfl⟩
      have e1 : IntKind.i64.wrap (2 * (k : Int)) = (m : Int) := by rw [IntKind.wrap_i64]; omega
      have e2 : IntKind.i64.wrap ((m : Int) + 1) = (m : Int) + 1 := by rw [IntKind.wrap_i64]; omega
      have e3 : ((m : Int) + 1).toNat = m + 1 := by omega
      have m0 : (0 : Int) ≤ (m : Int) := Int.natCast_nonneg _
      have m1 : (m : Int) < 64 := by omega
      have m2 : (0 : Int) ≤ (m : Int) + 1 := by omega
      have m3 : (m : Int) + 1 < 64 := by omega
      rw [← hm] at HV
      have c1 : wr.cell? ⟨S + 1, m, none⟩ = some (.int .u8 (B ((tAcc x k).getD m 0))) := by rw [HO2.out.cell, List.getElem?_toArray]; exact bv_get _ _ (by omega)
      have c2 : wr.cell? ⟨S + 1, m + 1, none⟩ = some (.int .u8 (B ((tAcc x k).getD (m + 1) 0))) := by rw [HO2.out.cell, List.getElem?_toArray]; exact bv_get _ _ (by omega)
      have f1 : wr.frozen? ⟨S + 1, m, none⟩ = false := HO2.out.frozen _
      have f2 : wr.frozen? ⟨S + 1, m + 1, none⟩ = false := HO2.out.frozen _
      have HBB := Lib.hid (blk_byte (blk_byte HO2.out m y1) (m + 1) y2)
      rw [HV.out] at HBB
      have HX64 := Lib.hid hx
      have hIx := run_index_arr x hx k hlt wr
      rw [← hc] at hIx
      clear hc hy1 hy2 hp hr hl hm
      go_upto_region 5 with fail
      refine wp_region_any (by kernel_rfl) ?_
      refine' wpAny_take (i := 0) ?hizt1 (by kernel_rfl) (by kernel_rfl) (by kernel_rfl) ?hqzt1 (Or.inl ⟨?hwzt1, ?hyzt1⟩) ?hrzt1
      case hizt1 => (simp only [List.getElem?_toArray, List.getElem?_cons_succ, List.getElem?_cons_zero]; rfl)
      case hqzt1 => exact fun _ _ _ h => h
      case hwzt1 => rfl
      case hyzt1 => (intro w0; go_simp; try with_reducible rfl)
      (try simp only [Act.put, List.setIfInBounds_toArray, List.set_cons_zero, List.set_cons_succ])
      refine' wpAny_take (i := 1) ?hizt2 (by kernel_rfl) (by kernel_rfl) (by kernel_rfl) ?hqzt2 (Or.inl ⟨?hwzt2, ?hyzt2⟩) ?hrzt2
      case hizt2 => (simp only [List.getElem?_toArray, List.getElem?_cons_succ, List.getElem?_cons_zero]; rfl)
      case hqzt2 => exact fun _ _ _ h => h
      case hwzt2 => rfl
      case hyzt2 => (intro w0; go_simp; try with_reducible rfl)
      (try simp only [Act.put, List.setIfInBounds_toArray, List.set_cons_zero, List.set_cons_succ])
      refine' wpAny_take (i := 2) ?hizt3 (by kernel_rfl) (by kernel_rfl) (by kernel_rfl) ?hqzt3 (Or.inl ⟨?hwzt3, ?hyzt3⟩) ?hrzt3
      case hizt3 => (simp only [List.getElem?_toArray, List.getElem?_cons_succ, List.getElem?_cons_zero]; rfl)
      case hqzt3 => exact fun _ _ _ h => h
      case hwzt3 => rfl
      case hyzt3 => (intro w0; go_simp; try with_reducible rfl)
      (try simp only [Act.put, List.setIfInBounds_toArray, List.set_cons_zero, List.set_cons_succ])
      refine' wpAny_take (i := 3) ?hizt4 (by kernel_rfl) (by kernel_rfl) (by kernel_rfl) ?hqzt4 (Or.inl ⟨?hwzt4, ?hyzt4⟩) ?hrzt4
      case hizt4 => (simp only [List.getElem?_toArray, List.getElem?_cons_succ, List.getElem?_cons_zero]; rfl)
      case hqzt4 => exact fun _ _ _ h => h
      case hwzt4 => rfl
      case hyzt4 => (intro w0; go_simp; try with_reducible rfl)
      (try simp only [Act.put, List.setIfInBounds_toArray, List.set_cons_zero, List.set_cons_succ])
      refine' wpAny_take (i := 4) ?hizt5 (by kernel_rfl) (by kernel_rfl) (by kernel_rfl) ?hqzt5 (Or.inl ⟨?hwzt5, ?hyzt5⟩) ?hrzt5
      case hizt5 => (simp only [List.getElem?_toArray, List.getElem?_cons_succ, List.getElem?_cons_zero]; rfl)
      case hqzt5 => exact fun _ _ _ h => h
      case hwzt5 => rfl
      case hyzt5 => (intro w0; go_simp; try with_reducible rfl)
      (try simp only [Act.put, List.setIfInBounds_toArray, List.set_cons_zero, List.set_cons_succ])
      refine' wpAny_take (i := 5) ?hizt6 (by kernel_rfl) (by kernel_rfl) (by kernel_rfl) ?hqzt6 (Or.inl ⟨?hwzt6, ?hyzt6⟩) ?hrzt6
      case hizt6 => (simp only [List.getElem?_toArray, List.getElem?_cons_succ, List.getElem?_cons_zero]; rfl)
      case hqzt6 => exact fun _ _ _ h => h
      case hwzt6 => rfl
      case hyzt6 => (intro w0; go_simp; try with_reducible rfl)
      (try simp only [Act.put, List.setIfInBounds_toArray, List.set_cons_zero, List.set_cons_succ])
      refine' wpAny_take (i := 6) ?hizt7 (by kernel_rfl) (by kernel_rfl) (by kernel_rfl) ?hqzt7 (Or.inl ⟨?hwzt7, ?hyzt7⟩) ?hrzt7
      case hizt7 => (simp only [List.getElem?_toArray, List.getElem?_cons_succ, List.getElem?_cons_zero]; rfl)
      case hqzt7 => exact fun _ _ _ h => h
      case hwzt7 => rfl
      case hyzt7 => (intro w0; go_simp; try with_reducible rfl)
      (try simp only [Act.put, List.setIfInBounds_toArray, List.set_cons_zero, List.set_cons_succ])
      refine' wpAny_take (i := 7) ?hizt8 (by kernel_rfl) (by kernel_rfl) (by kernel_rfl) ?hqzt8 (Or.inl ⟨?hwzt8, ?hyzt8⟩) ?hrzt8
      case hizt8 => (simp only [List.getElem?_toArray, List.getElem?_cons_succ, List.getElem?_cons_zero]; rfl)
      case hqzt8 => exact fun _ _ _ h => h
      case hwzt8 => rfl
      case hyzt8 => exact fun w0 => exec_index rfl rfl rfl (HI1.out w0)
      (try simp only [Act.put, List.setIfInBounds_toArray, List.set_cons_zero, List.set_cons_succ])
      refine' wpAny_take (i := 8) ?hizt9 (by kernel_rfl) (by kernel_rfl) (by kernel_rfl) ?hqzt9 (Or.inl ⟨?hwzt9, ?hyzt9⟩) ?hrzt9
      case hizt9 => (simp only [List.getElem?_toArray, List.getElem?_cons_succ, List.getElem?_cons_zero]; rfl)
      case hqzt9 => exact fun _ _ _ h => h
      case hwzt9 => rfl
      case hyzt9 => (intro w0; go_simp; try with_reducible rfl)
      (try simp only [Act.put, List.setIfInBounds_toArray, List.set_cons_zero, List.set_cons_succ])
      refine' wpAny_take (i := 9) ?hizt10 (by kernel_rfl) (by kernel_rfl) (by kernel_rfl) ?hqzt10 (Or.inl ⟨?hwzt10, ?hyzt10⟩) ?hrzt10
      case hizt10 => (simp only [List.getElem?_toArray, List.getElem?_cons_succ, List.getElem?_cons_zero]; rfl)
      case hqzt10 => exact fun _ _ _ h => h
      case hwzt10 => rfl
      case hyzt10 => (intro w0; go_simp; try with_reducible rfl)
      (try simp only [Act.put, List.setIfInBounds_toArray, List.set_cons_zero, List.set_cons_succ])
      refine' wpAny_take (i := 10) ?hizt11 (by kernel_rfl) (by kernel_rfl) (by kernel_rfl) ?hqzt11 (Or.inl ⟨?hwzt11, ?hyzt11⟩) ?hrzt11
      case hizt11 => (simp only [List.getElem?_toArray, List.getElem?_cons_succ, List.getElem?_cons_zero]; rfl)
      case hqzt11 => exact fun _ _ _ h => h
      case hwzt11 => rfl
      case hyzt11 => exact fun w0 => exec_index rfl rfl rfl (HI2.out w0)
      (try simp only [Act.put, List.setIfInBounds_toArray, List.set_cons_zero, List.set_cons_succ])
      refine' wpAny_take (i := 11) ?hizt12 (by kernel_rfl) (by kernel_rfl) (by kernel_rfl) ?hqzt12 (Or.inl ⟨?hwzt12, ?hyzt12⟩) ?hrzt12
      case hizt12 => (simp only [List.getElem?_toArray, List.getElem?_cons_succ, List.getElem?_cons_zero]; rfl)
      case hqzt12 => exact fun _ _ _ h => h
      case hwzt12 => rfl
      case hyzt12 => (intro w0; go_simp; try with_reducible rfl)
      (try simp only [Act.put, List.setIfInBounds_toArray, List.set_cons_zero, List.set_cons_succ])
      refine wpAny_ready (rs := [12]) (by kernel_rfl) (by simp) ?_
      refine' AllReady.cons ?hizt13 (fun K hK => ?hrzt13) AllReady.nil
      case hizt13 => (simp only [List.getElem?_toArray, List.getElem?_cons_succ, List.getElem?_cons_zero]; rfl)
      go_simp
      refine hK _ _ ?_
      clear hK K
      (try simp only [Act.put, List.setIfInBounds_toArray, List.set_cons_zero, List.set_cons_succ])
      refine' wpAny_take (i := 13) ?hizt14 (by kernel_rfl) (by kernel_rfl) (by kernel_rfl) ?hqzt14 (Or.inl ⟨?hwzt14, ?hyzt14⟩) ?hrzt14
      case hizt14 => (simp only [List.getElem?_toArray, List.getElem?_cons_succ, List.getElem?_cons_zero]; rfl)
      case hqzt14 => exact fun _ _ _ h => h
      case hwzt14 => rfl
      case hyzt14 => (intro w0; go_simp; try with_reducible rfl)
      (try simp only [Act.put, List.setIfInBounds_toArray, List.set_cons_zero, List.set_cons_succ])
      refine wpAny_ready (rs := [14]) (by kernel_rfl) (by simp) ?_
      refine' AllReady.cons ?hizt15 (fun K hK => ?hrzt15) AllReady.nil
      case hizt15 => (simp only [List.getElem?_toArray, List.getElem?_cons_succ, List.getElem?_cons_zero]; rfl)
      go_simp
      refine hK _ _ ?_
      clear hK K
      (try simp only [Act.put, List.setIfInBounds_toArray, List.set_cons_zero, List.set_cons_succ])
      refine wpAny_done (by kernel_rfl) ?_ _
      go_wp2_with fail
      have hSz : w.heap.size ≤ S + 1 := by have := HS.out; omega
      go_roundg (32 - (k + 1))
      case measure => omega
      case rel => exact ⟨k + 1, by go_num, hlt, Nat.le_refl _, HBB, Lib.hid ((HB2.out.setCell (p := ⟨S + 1, m, none⟩) hSz _).setCell (p := ⟨S + 1, m + 1, none⟩) hSz _).drew⟩
    · obtain rfl : k = 32 := by omega
      have hltz : ¬ ((32 : Nat) : Int) < 32 := by decide
      have hst := fun u : World => textBlk u (S + 1) (textL x) (by rw [textL_len, hx])
      have hO3 := HO2.out
      rw [tAcc_all x hx] at hO3
      have hst' := hst wr hO3
      clear hst hO3
      go_wp2_with fail
      go_ret
      exact ⟨rfl, HB2.out⟩
end Go.Proofs.Ytkfhlnpbklchmaa.ids
