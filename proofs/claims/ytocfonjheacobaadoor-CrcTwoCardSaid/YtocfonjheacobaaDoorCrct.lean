/-
  The walk of CrcTwo.
-/
import Derived.Test.YtocfonjheacobaaDoorCrcl
import Derived.Test.YtocfonjheacobaaDoorMema
import Derived.Deep.RegionLaw
import Derived.Deep.CutRange
import Derived.Deep.CutBlock
import Derived.Deep.RegionWith
import Derived.Deep.RegionHeld3
import Derived.Laws.IdiomStrings
namespace Go.Proofs.YtocfonjheacobaaDoor.crc
open Go.RowKit Go.Proofs.YtocfonjheacobaaDoor.mem Go.Proofs.YtocfonjheacobaaDoor.sha

theorem run_make_n (k : Nat) (hk : k ≤ 1000) (w : World) : (Instr.makeSlice 31 (.int .i64 (k : Int)) (.int .i64 (k : Int))).run Tryd.prog w =
    .ok (.slice (some ⟨w.heap.size, 0, none⟩) k k) (w.alloc (.cells (bv (List.replicate k 0)).toArray 5)) := by
  obtain ⟨i0, hi, hz0, hz1, hz2⟩ := info_parts info5
  have h := run_make (P := Tryd.prog) (w := w) 31 5 i0 (.int .u8 0) Tryd.underlying31 hi hz0 .i64 .i64 (k : Int) (k : Int) (by omega) (by omega) (by rw [hz2]; omega) (by omega)
  have e1 : madeCells (Value.int .u8 0).cells (k * 1) = (bv (List.replicate k 0)).toArray := by
    apply Array.ext'
    unfold madeCells bv
    rw [Nat.mul_one]
    simp [Value.cells]
    refine List.ext_getElem (by simp) fun i h1 h2 => ?_
    simp [Nat.mod_one]
    rfl
  rw [h, hz1, Int.toNat_natCast, e1]
/-- a byte that the statement has just laid, behind a row of the call's own -/
theorem run_append_byte (ty : TypeId) (F : Nat → Prop) (w0 : World) (v : Value) (n : Nat) (xs : List Value) (hown : Owns w0 F v n xs) (x : Int) (hlen : n + 1 ≤ 140737488355328) (hn : New F w0) :
    ∃ v' w', (Builtin.append_ #[31, 31] ty #[v, .slice (some ⟨w0.heap.size, 0, none⟩) 1 1]).run Tryd.prog (w0.alloc (.cells #[.int .u8 x] 5)) = .ok v' w' ∧ Owns w' F v' (n + 1) (xs ++ [.int .u8 x]) ∧ Turn F w0 w' := by
  obtain ⟨i0, hi, hz0, hz1, hz2⟩ := info_parts info5
  obtain ⟨v', w', hr, ho', hg, _, hat⟩ := run_append_own_at (P := Tryd.prog) (w0.alloc (.cells [Value.int .u8 x].toArray 5)) 0 31 ty 5 i0 (.int .u8 0) 1 1 Tryd.underlying31 hi hz0 hz1 hz2 rfl (by decide) v n xs (hown.1.alloc _) ⟨w0.heap.size, 0, none⟩ 1 1 [.int .u8 x] rfl
    (new_cells w0 5 [.int .u8 x]) (one1 _) (by unfold maxLen; omega) (by omega) (Nat.zero_le _)
  refine ⟨v', w', hr, ⟨ho', fun b hb => ?_⟩, ((Turn.refl F w0).alloc hn _).trans (Turn.grown hg hown.2 (hn.alloc _))⟩
  rcases hat with e | e <;> rw [e] at hb
  · exact hown.2 b hb
  · injection hb with hb
    subst hb
    exact hn _ (by simp)
/-- an append of a region that draws, by its run -/
theorem step_append_run {P : Program} {ops : Array Oper} {o : Oper} {a : Act} {w : World} {K : Act → World → Prop} {Q : Exit → Act → World → Prop} {E : Prop}
    (hg : o.guard = none) (s x : Operand) (t : TypeId) (hop : o.op = Op.call { callee := Callee.builtin Builtin.append, args := #[s, x], argTypes := #[t, t] })
    (vs vx v' : Value) (w' : World) (hs : a.eval s = vs) (hx : a.eval x = vx) (hr : (Builtin.append_ #[t, t] o.type #[vs, vx]).run P w = .ok v' w')
    (hK : K (a.put o.dst v') w') : if Region.wanted o (yielded ops a.tmps) = true then Oper.wp P o a w K Q else E := by
  have hw : Region.wanted o (yielded ops a.tmps) = true := by simp [Region.wanted, hg]
  rw [if_pos hw]
  unfold Oper.wp
  simp [execOp, hop, resolve, invoke, builtin, hs, hx, hr, Result.andThen]
  exact hK
theorem B_xor (x y : UInt8) : bits .xor .u8 (B x) (B y) = B (x ^^^ y) := by
  unfold B; rw [u8_xor_nat _ _ x.toNat_lt y.toNat_lt, UInt8.toNat_xor]
theorem run_exec_convert {ρ : Operand → Value} {o : Oper} {s t : TypeId} {x : Operand} {vx v : Value} {w : World} (ho : o.op = .convert s t x) (hx : ρ x = vx) (h : (convert s t vx).run Tryd.prog w = .ok v w) : (execOp ρ o).run Tryd.prog w = .ok (.value v) w := by
  unfold execOp
  simp [ho, hx, h]
theorem str_owned {w : World} {F : Nat → Prop} {v : Value} {n : Nat} {l : List UInt8} (h : Owns w F v n (bv l)) (hl : l.length = n) : (convert 31 9 v).run Tryd.prog w = .ok (.string ⟨l.toArray⟩) w := by
  subst hl
  exact Owns.string h
theorem str_zeros {w : World} {S n : Nat} (h : Blk w S 5 (bv (List.replicate n 0)).toArray) : (convert 31 9 (.slice (some ⟨S, 0, none⟩) n n)).run Tryd.prog w = .ok (.string ⟨(List.replicate n 0).toArray⟩) w := by
  have hh := run_convert_bytes_back (P := Tryd.prog) w 31 9 5 ⟨S, 0, none⟩ n (List.replicate n 0) Tryd.underlying31 Tryd.underlying5 Tryd.underlying9 (fun j hj => by
    rw [List.length_replicate] at hj
    rw [Addr.add_lit, Nat.zero_add, h.cell, List.getElem?_toArray, bv_get _ _ (by rw [List.length_replicate]; exact hj)]
    rw [List.getD_eq_getElem?_getD, List.getElem?_replicate_of_lt hj, List.getElem_replicate]
    rfl)
  rw [List.length_replicate] at hh
  exact hh
theorem two_sums (a b : ByteArray) (n : Nat) (ha : a.size = n) (hb : b.size = n) :
    (U (addC 0 a.data.toList ^^^ addC 0 b.data.toList) == U (addC 0 (List.zipWith (· ^^^ ·) a.data.toList b.data.toList) ^^^ addC 0 (List.replicate n 0))) = true := by
  rw [two _ _ (by rw [← size_list, ← size_list, ha, hb]), ← size_list, ha]
  exact beq_self_eq_true _
/-- what the last statement of CrcTwo keeps -/
def TS (T : World → Prop) (w0 : World) (S n : Nat) (v : Value) (l : List UInt8) (w : World) : Prop := Owns w (S < ·) v n (bv l) ∧ Blk w S 5 (bv (List.replicate n 0)).toArray ∧ T w ∧ Below w0.heap.size w0 w
theorem TS.next {T : World → Prop} {w0 w w' : World} {S n : Nat} {v : Value} {l : List UInt8} (h : TS T w0 S n v l w) (hT : ∀ {w w' : World}, T w → Below w.heap.size w w' → T w') (hb : Below w.heap.size w w') : TS T w0 S n v l w' :=
  ⟨h.1.turn (G := (w.heap.size ≤ ·)) (Turn.ofBelow hb) (fun _ hk => Nat.not_le.2 (h.1.lt hk)), h.2.1.below hb h.2.1.lt, hT h.2.2.1 hb, h.2.2.2.trans (hb.mono h.2.2.2.size)⟩
theorem TS.drew {T : World → Prop} {w0 w : World} {S n : Nat} {v : Value} {l : List UInt8} (h : TS T w0 S n v l w) (hT : ∀ {w w' : World}, T w → Below w.heap.size w w' → T w') : TS T w0 S n v l w.drew := h.next hT (Below.refl _ _).drew

set_option maxHeartbeats 1000000 in
set_option maxRecDepth 100000 in
theorem two_walk {T : World → Prop} (hI : CrcIs T) (a b : ByteArray) (w : World) (hT : T w) : Calls Tryd.prog 6 #[.string a, .string b] w fun e w' => e = .returned (.bool true) ∧ Below w.heap.size w w' := by
  have HT := Lib.hid hT
  have HI := Lib.hid hI
  clear hT hI
  by_cases hs : a.size = b.size ∧ a.size ≤ 1000
  case neg =>
    by_cases hab : a.size = b.size
    · have h1 : (1000 : Int) < (a.size : Int) := by omega
      have h2 : (a.size : Int) = (b.size : Int) := by omega
      have h3 : ((a.size : Int) == (b.size : Int)) = true := by rw [h2]; exact beq_self_eq_true _
      have h4 : ((b.size : Int) == (b.size : Int)) = true := beq_self_eq_true _
      have h5 : (1000 : Int) < (b.size : Int) := by omega
      clear hs hab
      go_enter Tryd.func6, Tryd.ntmps6
      go_wp2_with (go_at_call 7; refine (awake_any HI.out _ HT.out).mono ?_; rintro e w1 ⟨rfl, hb1⟩)
      go_ret
      exact ⟨rfl, hb1⟩
    · have h1 : ¬ (a.size : Int) = (b.size : Int) := by omega
      have h3 : ((a.size : Int) == (b.size : Int)) = false := beq_eq_false_iff_ne.2 h1
      have h4 : ((a.size : Int) != (b.size : Int)) = true := by rw [bne, h3]; rfl
      clear hs hab
      go_enter Tryd.func6, Tryd.ntmps6
      go_wp2_with (go_at_call 7; refine (awake_any HI.out _ HT.out).mono ?_; rintro e w1 ⟨rfl, hb1⟩)
      go_ret
      exact ⟨rfl, hb1⟩
  obtain ⟨hab, ha⟩ := hs
  have HAB := Lib.hid hab
  obtain ⟨n, hn⟩ : ∃ n, n = a.size := ⟨_, rfl⟩
  have hna : (a.size : Int) = n := by omega
  have hnb : (b.size : Int) = n := by omega
  have n0 : (0 : Int) ≤ n := Int.natCast_nonneg _
  have n1 : (n : Int) ≤ 1000 := by omega
  have hmk := run_make_n n (by omega)
  obtain ⟨S, hS⟩ : ∃ S, S = w.heap.size := ⟨_, rfl⟩
  obtain ⟨w1, hw1⟩ : ∃ x, x = w.alloc (.cells (bv (List.replicate n 0)).toArray 5) := ⟨_, rfl⟩
  have HB1 : Hid (Below w.heap.size w w1) := Lib.hid (by rw [hw1]; exact (Below.refl _ _).alloc (Nat.le_refl _) _)
  have HS1 : Hid (Blk w1 S 5 (bv (List.replicate n 0)).toArray) := Lib.hid (by rw [hw1, hS]; exact Blk.new _ _ _)
  have HN := Lib.hid hn
  have HW1 := Lib.hid hw1
  have HSS := Lib.hid hS
  have hxor := B_xor
  have hb0 := B_nonneg
  have hb1 := B_lt
  clear hw1 hS hn ha hab
  go_enter Tryd.func6, Tryd.ntmps6
  go_upto_region 5 with fail
  refine wp_at HW1.out.symm ?_
  rw [← HSS.out]
  clear HW1 hmk
  go_wp2_with fail
  go_loopw [5, 7] (fun v i wr => ∃ k : Nat, k ≤ n ∧ i = .int .i64 k ∧ Owns wr (S < ·) v k (bv ((List.zipWith (· ^^^ ·) a.data.toList b.data.toList).take k)) ∧ Blk wr S 5 (bv (List.replicate n 0)).toArray ∧ Below w.heap.size w wr) (fun _ i _ => n - (intOf i).toNat)
  case atStart => exact ⟨0, Nat.zero_le _, rfl, Owns.nil _ _, HS1.out, HB1.out⟩
  case round =>
    clear HS1 HB1
    obtain ⟨k, hk, rfl, hO, hS, hB⟩ := hrel
    obtain ⟨ad, m, cc, rfl⟩ := hO.form
    have HO := Lib.hid hO
    have HS := Lib.hid hS
    have HB := Lib.hid hB
    clear hO hS hB
    have k0 : (0 : Int) ≤ (k : Int) := Int.natCast_nonneg _
    by_cases hlt : k < n
    · have k1 : (k : Int) < (n : Int) := by omega
      obtain ⟨x, hx⟩ : ∃ x, x = a.data.toList.getD k 0 := ⟨_, rfl⟩
      obtain ⟨y, hy⟩ : ∃ y, y = b.data.toList.getD k 0 := ⟨_, rfl⟩
      have hix := fun u : World => run_index_str a k (by omega) u
      have hiy := fun u : World => run_index_str b k (by omega) u
      rw [← hx] at hix
      rw [← hy] at hiy
      have HX := Lib.hid hx
      have HY := Lib.hid hy
      have HL : Hid (bv ((List.zipWith (· ^^^ ·) a.data.toList b.data.toList).take (k + 1)) = bv ((List.zipWith (· ^^^ ·) a.data.toList b.data.toList).take k) ++ [.int .u8 (B (x ^^^ y))]) := Lib.hid (by
        have ea : k < a.data.toList.length := by rw [← size_list]; omega
        have eb : k < b.data.toList.length := by rw [← size_list]; omega
        have hz : k < (List.zipWith (· ^^^ ·) a.data.toList b.data.toList).length := by rw [List.length_zipWith]; omega
        rw [List.take_succ_eq_append_getElem hz, List.getElem_zipWith, hx, hy, List.getD_eq_getElem?_getD, List.getElem?_eq_getElem ea, List.getD_eq_getElem?_getD, List.getElem?_eq_getElem eb]
        unfold bv
        rw [List.map_append]
        rfl)
      clear hx hy
      obtain ⟨z, hz⟩ : ∃ z, z = B (x ^^^ y) := ⟨_, rfl⟩
      have hxy : bits .xor .u8 (B x) (B y) = z := by rw [hz]; exact B_xor x y
      clear hxor
      obtain ⟨v', w', hr, ho', ht'⟩ := run_append_byte 31 (S < ·) wr.drew _ k _ (show Owns wr.drew _ _ _ _ from HO.out) z (by omega) (fun j hj => Nat.lt_of_lt_of_le HS.out.lt hj)
      have HO' := Lib.hid ho'
      have HT' := Lib.hid ht'
      have HZ := Lib.hid hz
      clear ho' ht' hz
      have hr2 : (Builtin.append_ #[31, 31] 31 #[.slice ad m cc, .slice (some ⟨wr.heap.size, 0, none⟩) 1 1]).run Tryd.prog (wr.alloc (.cells #[.int .u8 z] 5)).drew = .ok v' w' := hr
      clear hr
      have HR := Lib.hid hr2
      clear hr2
      go_wp2_with fail
      go_region_law (refine step_append_run rfl (.tmp 34) (.tmp 42) 31 rfl _ _ v' w' rfl rfl HR.out ?_)
      all_goals
        go_simp
        go_wp2_with fail
        go_roundw
        case rel => exact ⟨k + 1, hlt, by push_cast; rfl, by rw [HL.out, ← HZ.out]; exact HO'.out, HS.out.turn HT'.out.undrew (Nat.lt_irrefl S), HB.out.trans (HT'.out.undrew.below fun j hj => by have := HSS.out; have : S < j := hj; omega)⟩
        case measure => simp [intOf]; omega
    · obtain rfl : k = n := by omega
      have hzl : (List.zipWith (· ^^^ ·) a.data.toList b.data.toList).length = k := by
        have h1 := size_list a
        have h2 := size_list b
        rw [List.length_zipWith]; omega
      have HZL := Lib.hid hzl
      have hO2 := HO.out
      rw [List.take_of_length_le (by omega)] at hO2
      have HTS : Hid (TS T w S k (.slice ad m cc) (List.zipWith (· ^^^ ·) a.data.toList b.data.toList) wr) := Lib.hid ⟨hO2, HS.out, HI.out.next HT.out HB.out, HB.out⟩
      have HA := Lib.hid (show a.size ≤ 549755813888 by omega)
      have HBS := Lib.hid (show b.size ≤ 549755813888 by omega)
      have HZS := Lib.hid (show (⟨(List.zipWith (· ^^^ ·) a.data.toList b.data.toList).toArray⟩ : ByteArray).size ≤ 549755813888 by rw [size_list]; show (List.zipWith (· ^^^ ·) a.data.toList b.data.toList).toArray.toList.length ≤ _; rw [List.toList_toArray]; omega)
      have HNS := Lib.hid (show (⟨(List.replicate k 0).toArray⟩ : ByteArray).size ≤ 549755813888 by rw [size_list]; show (List.replicate k (0 : UInt8)).toArray.toList.length ≤ _; rw [List.toList_toArray, List.length_replicate]; omega)
      have h2 := two_sums a b k (by have := HN.out; omega) (by have := HN.out; have := HAB.out; omega)
      have hux := U_xor
      clear hzl hO2 hxor HO HS HB hlt hk
      go_wp2_with fail
      refine wp_region_held_drew (S := TS T w S k (.slice ad m cc) (List.zipWith (· ^^^ ·) a.data.toList b.data.toList)) (by kernel_rfl) ?_ (fun hHeld => ?_)
      · exact HTS.out.drew HI.out.next
      refine' wpAnyH_take (i := 0) ?hiz0 (by kernel_rfl) (by kernel_rfl) (by kernel_rfl) ?hqz0 (Or.inl ⟨?hwz0, ?hyz0⟩) (by assumption) ?hrz0
      case hiz0 => (simp only [List.getElem?_toArray, List.getElem?_cons_zero]; rfl)
      case hqz0 => exact fun _ _ _ h => h
      case hwz0 => rfl
      case hyz0 => (intro w0 hSw; clear hSw; go_simp; try with_reducible rfl)
      (try simp only [Act.put, List.setIfInBounds_toArray, List.set_cons_zero, List.set_cons_succ])
      refine' wpAnyH_take (i := 2) ?hiz2 (by kernel_rfl) (by kernel_rfl) (by kernel_rfl) ?hqz2 (Or.inl ⟨?hwz2, ?hyz2⟩) (by assumption) ?hrz2
      case hiz2 => (simp only [List.getElem?_toArray, List.getElem?_cons_succ, List.getElem?_cons_zero]; rfl)
      case hqz2 => exact fun _ _ _ h => h
      case hwz2 => rfl
      case hyz2 => (intro w0 hSw; clear hSw; go_simp; try with_reducible rfl)
      (try simp only [Act.put, List.setIfInBounds_toArray, List.set_cons_zero, List.set_cons_succ])
      refine' wpAnyH_take (i := 5) ?hiz5 (by kernel_rfl) (by kernel_rfl) (by kernel_rfl) ?hqz5 (Or.inl ⟨?hwz5, ?hyz5⟩) (by assumption) ?hrz5
      case hiz5 => (simp only [List.getElem?_toArray, List.getElem?_cons_succ, List.getElem?_cons_zero]; rfl)
      case hqz5 => exact fun _ _ _ h => h
      case hwz5 => rfl
      case hyz5 => (intro w0 hSw; clear hSw; go_simp; try with_reducible rfl)
      (try simp only [Act.put, List.setIfInBounds_toArray, List.set_cons_zero, List.set_cons_succ])
      refine' wpAnyH_take (i := 6) ?hiz6 (by kernel_rfl) (by kernel_rfl) (by kernel_rfl) ?hqz6 (Or.inl ⟨?hwz6, ?hyz6⟩) (by assumption) ?hrz6
      case hiz6 => (simp only [List.getElem?_toArray, List.getElem?_cons_succ, List.getElem?_cons_zero]; rfl)
      case hqz6 => exact fun _ _ _ h => h
      case hwz6 => rfl
      case hyz6 => exact fun w0 hSw => run_exec_convert rfl rfl (str_owned hSw.1 HZL.out)
      (try simp only [Act.put, List.setIfInBounds_toArray, List.set_cons_zero, List.set_cons_succ])
      refine' wpAnyH_take (i := 8) ?hiz8 (by kernel_rfl) (by kernel_rfl) (by kernel_rfl) ?hqz8 (Or.inl ⟨?hwz8, ?hyz8⟩) (by assumption) ?hrz8
      case hiz8 => (simp only [List.getElem?_toArray, List.getElem?_cons_succ, List.getElem?_cons_zero]; rfl)
      case hqz8 => exact fun _ _ _ h => h
      case hwz8 => rfl
      case hyz8 => (intro w0 hSw; clear hSw; go_simp; try with_reducible rfl)
      (try simp only [Act.put, List.setIfInBounds_toArray, List.set_cons_zero, List.set_cons_succ])
      refine' wpAnyH_take (i := 9) ?hiz9 (by kernel_rfl) (by kernel_rfl) (by kernel_rfl) ?hqz9 (Or.inl ⟨?hwz9, ?hyz9⟩) (by assumption) ?hrz9
      case hiz9 => (simp only [List.getElem?_toArray, List.getElem?_cons_succ, List.getElem?_cons_zero]; rfl)
      case hqz9 => exact fun _ _ _ h => h
      case hwz9 => rfl
      case hyz9 => exact fun w0 hSw => run_exec_convert rfl rfl (str_zeros hSw.2.1)
      (try simp only [Act.put, List.setIfInBounds_toArray, List.set_cons_zero, List.set_cons_succ])
      refine wpAnyH_ready (rs := [1]) (by kernel_rfl) (by simp) ?_
      refine' AllReadyH.cons ?hiz1 (fun K hK => ?hrz1) AllReadyH.nil
      case hiz1 => (simp only [List.getElem?_toArray, List.getElem?_cons_succ, List.getElem?_cons_zero]; rfl)
      go_simp
      (refine (HI.out.sum a _ hHeld.2.2.1 HA.out).mono ?_; rintro e wA ⟨rfl, hbA⟩)
      have hNx := hHeld.next HI.out.next hbA
      clear hHeld hbA
      refine hK.out _ _ hNx (fun hHeld => ?_)
      clear hNx
      clear hK K
      (try simp only [Act.put, List.setIfInBounds_toArray, List.set_cons_zero, List.set_cons_succ])
      refine wpAnyH_ready (rs := [3]) (by kernel_rfl) (by simp) ?_
      refine' AllReadyH.cons ?hiz3 (fun K hK => ?hrz3) AllReadyH.nil
      case hiz3 => (simp only [List.getElem?_toArray, List.getElem?_cons_succ, List.getElem?_cons_zero]; rfl)
      go_simp
      (refine (HI.out.sum b _ hHeld.2.2.1 HBS.out).mono ?_; rintro e wA ⟨rfl, hbA⟩)
      have hNx := hHeld.next HI.out.next hbA
      clear hHeld hbA
      refine hK.out _ _ hNx (fun hHeld => ?_)
      clear hNx
      clear hK K
      (try simp only [Act.put, List.setIfInBounds_toArray, List.set_cons_zero, List.set_cons_succ])
      refine' wpAnyH_take (i := 4) ?hiz4 (by kernel_rfl) (by kernel_rfl) (by kernel_rfl) ?hqz4 (Or.inl ⟨?hwz4, ?hyz4⟩) (by assumption) ?hrz4
      case hiz4 => (simp only [List.getElem?_toArray, List.getElem?_cons_succ, List.getElem?_cons_zero]; rfl)
      case hqz4 => exact fun _ _ _ h => h
      case hwz4 => rfl
      case hyz4 => (intro w0 hSw; clear hSw; go_simp; try with_reducible rfl)
      (try simp only [Act.put, List.setIfInBounds_toArray, List.set_cons_zero, List.set_cons_succ])
      refine wpAnyH_ready (rs := [7]) (by kernel_rfl) (by simp) ?_
      refine' AllReadyH.cons ?hiz7 (fun K hK => ?hrz7) AllReadyH.nil
      case hiz7 => (simp only [List.getElem?_toArray, List.getElem?_cons_succ, List.getElem?_cons_zero]; rfl)
      go_simp
      (refine (HI.out.sum ⟨(List.zipWith (· ^^^ ·) a.data.toList b.data.toList).toArray⟩ _ hHeld.2.2.1 HZS.out).mono ?_; rintro e wA ⟨rfl, hbA⟩)
      have hNx := hHeld.next HI.out.next hbA
      clear hHeld hbA
      refine hK.out _ _ hNx (fun hHeld => ?_)
      clear hNx
      clear hK K
      (try simp only [])
      refine wpAnyH_ready (rs := [10]) (by kernel_rfl) (by simp) ?_
      refine' AllReadyH.cons ?hiz10 (fun K hK => ?hrz10) AllReadyH.nil
      case hiz10 => (simp only [List.getElem?_toArray, List.getElem?_cons_succ, List.getElem?_cons_zero]; rfl)
      go_simp
      (refine (HI.out.sum ⟨(List.replicate k 0).toArray⟩ _ hHeld.2.2.1 HNS.out).mono ?_; rintro e wA ⟨rfl, hbA⟩)
      have hNx := hHeld.next HI.out.next hbA
      clear hHeld hbA
      refine hK.out _ _ hNx (fun hHeld => ?_)
      clear hNx
      clear hK K
      (try simp only [])
      refine' wpAnyH_take (i := 11) ?hiz11 (by kernel_rfl) (by kernel_rfl) (by kernel_rfl) ?hqz11 (Or.inl ⟨?hwz11, ?hyz11⟩) (by assumption) ?hrz11
      case hiz11 => (simp only [List.getElem?_toArray, List.getElem?_cons_succ, List.getElem?_cons_zero]; rfl)
      case hqz11 => exact fun _ _ _ h => h
      case hwz11 => rfl
      case hyz11 => (intro w0 hSw; clear hSw; go_simp; try with_reducible rfl)
      (try simp only [Act.put, List.setIfInBounds_toArray, List.set_cons_zero, List.set_cons_succ])
      refine' wpAnyH_take (i := 12) ?hiz12 (by kernel_rfl) (by kernel_rfl) (by kernel_rfl) ?hqz12 (Or.inl ⟨?hwz12, ?hyz12⟩) (by assumption) ?hrz12
      case hiz12 => (simp only [List.getElem?_toArray, List.getElem?_cons_succ, List.getElem?_cons_zero]; rfl)
      case hqz12 => exact fun _ _ _ h => h
      case hwz12 => rfl
      case hyz12 => (intro w0 hSw; clear hSw; go_simp; try with_reducible rfl)
      (try simp only [Act.put, List.setIfInBounds_toArray, List.set_cons_zero, List.set_cons_succ])
      refine' wpAnyH_take (i := 13) ?hiz13 (by kernel_rfl) (by kernel_rfl) (by kernel_rfl) ?hqz13 (Or.inl ⟨?hwz13, ?hyz13⟩) (by assumption) ?hrz13
      case hiz13 => (simp only [List.getElem?_toArray, List.getElem?_cons_succ, List.getElem?_cons_zero]; rfl)
      case hqz13 => exact fun _ _ _ h => h
      case hwz13 => rfl
      case hyz13 => (intro w0 hSw; clear hSw; go_simp; try with_reducible rfl)
      (try simp only [Act.put, List.setIfInBounds_toArray, List.set_cons_zero, List.set_cons_succ])
      refine wpAnyH_ready (rs := [14]) (by kernel_rfl) (by simp) ?_
      refine' AllReadyH.cons ?hiz14 (fun K hK => ?hrz14) AllReadyH.nil
      case hiz14 => (simp only [List.getElem?_toArray, List.getElem?_cons_succ, List.getElem?_cons_zero]; rfl)
      go_simp
      (refine (awake_any HI.out _ hHeld.2.2.1).mono ?_; rintro e wA ⟨rfl, hbA⟩)
      have hNx := hHeld.next HI.out.next hbA
      clear hHeld hbA
      refine hK.out _ _ hNx (fun hHeld => ?_)
      clear hNx
      clear hK K
      (try simp only [Act.put, List.setIfInBounds_toArray, List.set_cons_zero, List.set_cons_succ])
      refine' wpAnyH_take (i := 15) ?hiz15 (by kernel_rfl) (by kernel_rfl) (by kernel_rfl) ?hqz15 (Or.inl ⟨?hwz15, ?hyz15⟩) (by assumption) ?hrz15
      case hiz15 => (simp only [List.getElem?_toArray, List.getElem?_cons_succ, List.getElem?_cons_zero]; rfl)
      case hqz15 => exact fun _ _ _ h => h
      case hwz15 => rfl
      case hyz15 => (intro w0 hSw; clear hSw; go_simp; try with_reducible rfl)
      (try simp only [Act.put, List.setIfInBounds_toArray, List.set_cons_zero, List.set_cons_succ])
      refine' wpAnyH_take (i := 16) ?hiz16 (by kernel_rfl) (by kernel_rfl) (by kernel_rfl) ?hqz16 (Or.inl ⟨?hwz16, ?hyz16⟩) (by assumption) ?hrz16
      case hiz16 => (simp only [List.getElem?_toArray, List.getElem?_cons_succ, List.getElem?_cons_zero]; rfl)
      case hqz16 => exact fun _ _ _ h => h
      case hwz16 => rfl
      case hyz16 => (intro w0 hSw; clear hSw; go_simp; try with_reducible rfl)
      (try simp only [Act.put, List.setIfInBounds_toArray, List.set_cons_zero, List.set_cons_succ])
      refine wpAnyH_done (by kernel_rfl) ?_ _
      go_wp2_with fail
      go_ret
      exact ⟨rfl, hHeld.2.2.2⟩
end Go.Proofs.YtocfonjheacobaaDoor.crc
