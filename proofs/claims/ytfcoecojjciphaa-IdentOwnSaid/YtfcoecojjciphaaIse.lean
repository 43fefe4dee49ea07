/-
  strings.IndexByte of the signs; ident.Parse.
  ident.Text.
  What package ident answers, as far as texts, ids and sets go: of the landed code.
-/
import Derived.Test.YtfcoecojjciphaaHexp
import Derived.Lib.Bytealg
import Derived.Laws.Externs
import Derived.BigRegion
import Derived.Laws.IdiomStrings
import Derived.Test.YtfcoecojjciphaaIsb
import Derived.Test.YtfcoecojjciphaaIdta
namespace Go.Proofs.Ytfcoecojjciphaa.ids
open Go.RowKit Go.Proofs.Ytfcoecojjciphaa.mem Go.Proofs.Ytfcoecojjciphaa.sha Go.Proofs.Ytfcoecojjciphaa.strx

theorem index_half' : ∀ n : Fin 256, Lib.indexByte hexL (UInt8.ofNat n.val) = halfI (UInt8.ofNat n.val) := by decide +kernel
theorem index_half (c : UInt8) : Lib.indexByte hexL c = halfI c := by
  have := index_half' ⟨c.toNat, c.toNat_lt⟩
  rwa [UInt8.ofNat_toNat] at this
theorem run_ibs (c : UInt8) (w : World) : (callFunc 57 #[.string (bt hexL), .int .u8 (B c)]).run Try.prog w = .ok (.value (.int .i64 (halfI c))) w := by
  rw [run_callFunc_extern Try.func57 (by kernel_rfl) (by kernel_rfl) (by kernel_rfl) (e := Extern.BytealgIndexByte.indexByte) (by kernel_rfl)]
  rw [Lib.run_indexByteString]
  have e : (B c).toNat.toUInt8 = c := by unfold B; simp
  simp only [Result.andThen, e, bt_list, index_half]
theorem libix_any (c : UInt8) (w : World) : Calls Try.prog 44 #[.string (bt hexL), .int .u8 (B c)] w fun e w' => e = .returned (.int .i64 (halfI c)) ∧ w = w' := by
  have h := run_ibs c
  obtain ⟨X, hX⟩ : ∃ X, X = bt hexL := ⟨_, rfl⟩
  rw [← hX] at h ⊢
  clear hX
  go_enter Try.func44, Try.ntmps44
  go_wp2_with fail
  go_ret
  exact ⟨rfl, rfl⟩
theorem ix_any (c : UInt8) (w : World) : Calls Try.prog 31 #[.string (bt hexL), .int .u8 (B c)] w fun e w' => e = .returned (.int .i64 (halfI c)) ∧ w = w' := by
  have h := libix_any c
  obtain ⟨X, hX⟩ : ∃ X, X = bt hexL := ⟨_, rfl⟩
  rw [← hX] at h ⊢
  clear hX
  go_enter Try.func31, Try.ntmps31
  go_wp2_with (go_at_call 44; refine (h _).mono ?_; rintro e w1 ⟨rfl, rfl⟩)
  go_ret
  exact ⟨rfl, rfl⟩

/-- a sign's half byte as a byte -/
def hb (c : UInt8) : UInt8 := UInt8.ofNat (halfI c).toNat
/-- the id as far as it is read -/
def qAcc (l : List UInt8) : Nat → Id
  | 0 => zid
  | i + 1 => (qAcc l i).set (i / 2) (((qAcc l i).getD (i / 2) 0) <<< 4 ||| hb (l.getD i 0))
theorem qAcc_len (l : List UInt8) : ∀ i, (qAcc l i).length = 32
  | 0 => rfl
  | i + 1 => by rw [qAcc, List.length_set, qAcc_len l i]
theorem two_halves : ∀ a b : Fin 16, ((((0 : UInt8) <<< 4 ||| UInt8.ofNat a.val) <<< 4) ||| UInt8.ofNat b.val) = UInt8.ofNat (16 * (a.val : Int) + (b.val : Int)).toNat := by decide +kernel
theorem qAcc_even (l : List UInt8) (hl : ∀ j, j < 64 → 0 ≤ halfI (l.getD j 0)) : ∀ k, k ≤ 32 → qAcc l (2 * k) = pAcc l k
  | 0, _ => rfl
  | k + 1, h => by
    have ih := qAcc_even l hl k (by omega)
    have e1 : 2 * (k + 1) = (2 * k + 1) + 1 := by omega
    rw [e1, qAcc, qAcc, ih, show (2 * k + 1) / 2 = k by omega, show 2 * k / 2 = k by omega, ← pAcc_set l k (by omega), List.set_set]
    have hlen := pAcc_len l k (by omega)
    have e2 : ∀ v, ((pAcc l k).set k v).getD k 0 = v := fun v => by
      rw [List.getD_eq_getElem?_getD, List.getElem?_set_self (by omega)]; rfl
    have e3 : (pAcc l k).getD k 0 = 0 := by
      unfold pAcc
      rw [List.getD_eq_getElem?_getD, List.getElem?_append_right (by simp), List.length_map, List.length_range, Nat.sub_self, List.getElem?_replicate]
      rw [if_pos (by omega)]
      rfl
    rw [e2, e3]
    congr 1
    have h1 := hl (2 * k) (by omega)
    have h2 := hl (2 * k + 1) (by omega)
    have r1 := halfI_range (l.getD (2 * k) 0)
    have r2 := halfI_range (l.getD (2 * k + 1) 0)
    have := two_halves ⟨(halfI (l.getD (2 * k) 0)).toNat, by omega⟩ ⟨(halfI (l.getD (2 * k + 1) 0)).toNat, by omega⟩
    unfold hb pb
    rw [this]
    congr 2
    show 16 * ((halfI (l.getD (2 * k) 0)).toNat : Int) + ((halfI (l.getD (2 * k + 1) 0)).toNat : Int) = _
    omega
theorem B_or (x y : UInt8) : bits .or .u8 (B x) (B y) = B (x ||| y) := by
  unfold B; rw [u8_or_nat _ _ x.toNat_lt y.toNat_lt, UInt8.toNat_or]
theorem B_shl4 (a : UInt8) : B a * (16 : Int) % (256 : Int) = B (a <<< 4) := by
  unfold B
  rw [UInt8.toNat_shiftLeft]
  simp [Nat.shiftLeft_eq]
theorem B_hb (c : UInt8) (h : 0 ≤ halfI c) : halfI c % (256 : Int) = B (hb c) := by
  have := halfI_range c
  unfold B hb
  rw [UInt8.toNat_ofNat']
  omega

set_option maxHeartbeats 2000000 in
set_option maxRecDepth 100000 in
theorem parse_any (l : List UInt8) (w : World) (hl : l.length ≤ 281474976710656) : Calls Try.prog 8 #[.string (bt l)] w fun e w' => e = .returned (.tuple #[.agg (bv (parseOf l).1).toArray, .int .i64 (parseOf l).2]) ∧ Below w.heap.size w w' := by
  obtain ⟨w1, hw1⟩ : ∃ u, u = (w.alloc (.cells (bv zid).toArray 23)).alloc (.cells (bv zid).toArray 23) := ⟨_, rfl⟩
  obtain ⟨R, hR⟩ : ∃ S, S = w.heap.size := ⟨_, rfl⟩
  have hX : Blk w1 R 23 (bv zid).toArray := by rw [hw1, hR]; exact (Blk.new w _ _).alloc _
  have hO : Blk w1 (R + 1) 23 (bv zid).toArray := by rw [hw1, hR]; exact Blk.at_ (by simp) _ _
  have hB : Below w.heap.size w w1 := by rw [hw1]; exact ((Below.refl _ _).alloc (Nat.le_refl _) _).alloc (by simp) _
  have HR1 := Lib.hid hX
  have HO1 := Lib.hid hO
  have HB1 := Lib.hid hB
  have HRR := Lib.hid hR
  have HW := Lib.hid hw1
  have hlen : ((bt l).size : Int) = (l.length : Int) := by rw [bt_size]
  clear hX hB hw1 hR hO
  go_enter Try.func8, Try.ntmps8
  go_upto_region 2 with fail
  refine wp_at HW.out.symm ?_
  rw [← HRR.out]
  clear HW
  by_cases h64 : l.length = 64
  case neg =>
    have hne : ((l.length : Int) != 64) = true := bne_iff_ne.2 (by omega)
    have HP := Lib.hid (parse_bad (fun h : fine l => h64 h.1))
    clear h64
    go_upto_region 3 with fail
    refine wp_region_lit ?_
    refine step_build0 rfl rfl ?_
    refine wpList_store_row rfl 23 (.tmp 2) (.tmp 10) rfl R (bv zid).toArray rfl (by simp [Act.put, Act.eval]) 23 _ HR1.out (by rw [info_id']; simp [bv_length, zid_len]) (by simp [bv_length, zid_len]) (one_bv _) ?_
    go_wp2_with fail
    (try simp only [Exit.inBlock, Exit.then])
    have hrow := setRow_heap w1 R _ (bv zid).toArray _ _ HR1.out
    refine bodyPost_ret (results_id_int rfl _ _ R zid rfl hrow rfl) rfl ⟨by rw [HP.out]; rfl, ?_⟩
    exact below_setRow HB1.out (by rw [HRR.out]; exact Nat.le_refl _) _
  have hl64 : (l.length : Int) = 64 := by omega
  have H64 := Lib.hid h64
  go_wp2_with fail
  go_loopg [5, 6, 13] 64 (fun gk s5 s6 s13 wr => ∃ i : Nat, s13 = .int .i64 i ∧ i ≤ 64 ∧ 64 - i ≤ gk ∧ Hid (∀ j, j < i → 0 ≤ halfI (l.getD j 0)) ∧ Hid (Blk wr R 23 (bv zid).toArray) ∧ Hid (Blk wr (R + 1) 23 (bv (qAcc l i)).toArray) ∧ Hid (Below w.heap.size w wr))
  case atStart => exact ⟨0, rfl, by decide, by omega, Lib.hid fun j hj => by omega, HR1, HO1, HB1⟩
  case round =>
    obtain ⟨i, rfl, hi64, hgk, HN, HR2, HO2, HB2⟩ := hrel
    clear HR1 HO1 HB1
    have i0 : (0 : Int) ≤ (i : Int) := Int.natCast_nonneg _
    by_cases hlt : i < 64
    · have hltz : (i : Int) < 64 := by omega
      have hix := fun u : World => run_index_int (bt l) (i : Int) i rfl (by rw [bt_size]; omega) u
      rw [bt_list] at hix
      obtain ⟨x, hx⟩ : ∃ x, x = l.getD i 0 := ⟨_, rfl⟩
      rw [← hx] at hix
      have HA := Lib.hid (ix_any x)
      have HX := Lib.hid hx
      clear hx
      by_cases hneg : halfI x < 0
      · have HP := Lib.hid (parse_bad (fun h : fine l => by have := h.2 i hlt; rw [← HX.out] at this; omega))
        go_upto_region 9 with (go_at_call 31; refine (HA.out _).mono ?_; rintro e w2 ⟨rfl, rfl⟩)
        refine wp_region_lit ?_
        refine step_build0 rfl rfl ?_
        refine wpList_store_row rfl 23 (.tmp 2) (.tmp 22) rfl R (bv zid).toArray rfl (by simp [Act.put, Act.eval]) 23 _ HR2.out (by rw [info_id']; simp [bv_length, zid_len]) (by simp [bv_length, zid_len]) (one_bv _) ?_
        go_wp2_with fail
        (try simp only [Exit.inBlock, Exit.then])
        have hrow := setRow_heap wr R _ (bv zid).toArray _ _ HR2.out
        refine bodyPost_ret (results_id_int rfl _ _ R zid rfl hrow rfl) rfl ⟨by rw [HP.out]; rfl, ?_⟩
        exact below_setRow HB2.out (by rw [HRR.out]; exact Nat.le_refl _) _
      · obtain ⟨q, hq⟩ : ∃ q, q = i / 2 := ⟨_, rfl⟩
        have hq4 : Int.tdiv (i : Int) 2 = (q : Int) := by rw [Int.tdiv_eq_ediv_of_nonneg (by omega), hq]; norm_cast
        have hq4e : (i : Int) / 2 = (q : Int) := by rw [hq]; norm_cast
        have hq32 : (q : Int) < 32 := by omega
        have q0 : (0 : Int) ≤ (q : Int) := Int.natCast_nonneg _
        obtain ⟨a, ha⟩ : ∃ a, a = (qAcc l i).getD q 0 := ⟨_, rfl⟩
        have hc : wr.cell? ⟨R + 1, q, none⟩ = some (.int .u8 (B a)) := by
          rw [HO2.out.cell q, List.getElem?_toArray, bv_get _ _ (by rw [qAcc_len]; omega), ha]
        have hf : wr.frozen? ⟨R + 1, q, none⟩ = false := HO2.out.frozen q
        have hv1 := B_shl4 a
        have hv2 := B_hb x (by omega)
        have hv3 := B_or (a <<< 4) (hb x)
        obtain ⟨v, hv⟩ : ∃ v, v = (a <<< 4 ||| hb x) := ⟨_, rfl⟩
        have HV := Lib.hid (show (qAcc l i).set q v = qAcc l (i + 1) by rw [hv, ha, qAcc, ← hq, ← HX.out])
        rw [← hv] at hv3
        clear hv ha hq
        go_wp2_with (go_at_call 31; refine (HA.out _).mono ?_; rintro e w2 ⟨rfl, rfl⟩)
        have hb1 := blk_byte HO2.out q v
        rw [HV.out] at hb1
        go_roundg (64 - (i + 1))
        case measure => omega
        case rel =>
          exact ⟨i + 1, by go_num, hlt, Nat.le_refl _, Lib.hid fun j hj => by
            rcases Nat.lt_or_ge j i with h | h
            · exact HN.out j h
            · obtain rfl : j = i := by omega
              rw [← HX.out]; omega, Lib.hid (HR2.out.far (by show R ≠ R + 1; omega) _), Lib.hid hb1, Lib.hid (HB2.out.setCell (by show w.heap.size ≤ R + 1; have := HRR.out; omega) _)⟩
    · obtain rfl : i = 64 := by omega
      have hltz : ¬ ((64 : Nat) : Int) < 64 := by decide
      have HP := Lib.hid (parse_fine (l := l) ⟨H64.out, HN.out⟩)
      have hq := qAcc_even l HN.out 32 (Nat.le_refl _)
      obtain ⟨z, hz⟩ : ∃ z, z = pAcc l 32 := ⟨_, rfl⟩
      have hz32 : z.length = 32 := by rw [hz]; exact pAcc_len l 32 (Nat.le_refl _)
      have HO3 := Lib.hid (show Blk wr (R + 1) 23 (bv z).toArray by rw [hz, ← hq]; exact HO2.out)
      have HZ := Lib.hid hz
      clear hq hz HO2
      go_upto_region 12 with fail
      refine wp_region_lit ?_
      refine step_load (t := 23) (x := .tmp 4) rfl rfl rfl (box_load HO3.out hz32 0) ?_
      refine wpList_store_row rfl 23 (.tmp 2) (.tmp 35) rfl R (bv z).toArray rfl (by simp [Act.put, Act.eval]) 23 _ HR2.out (by rw [info_id']; simp [bv_length, hz32]) (by simp [bv_length, hz32, zid_len]) (one_bv _) ?_
      go_wp2_with fail
      (try simp only [Exit.inBlock, Exit.then])
      have hrow := setRow_heap wr R _ (bv z).toArray _ _ HR2.out
      refine bodyPost_ret (results_id_int rfl _ _ R z rfl hrow hz32) rfl ⟨by rw [HP.out, HZ.out]; rfl, ?_⟩
      exact below_setRow HB2.out (by rw [HRR.out]; exact Nat.le_refl _) _
end Go.Proofs.Ytfcoecojjciphaa.ids

namespace Go.Proofs.Ytfcoecojjciphaa.ids
open Go.RowKit Go.Proofs.Ytfcoecojjciphaa.mem Go.Proofs.Ytfcoecojjciphaa.sha Go.Proofs.Ytfcoecojjciphaa.strx

/-- the text as far as it is written -/
def tAcc (x : Id) (k : Nat) : List UInt8 := textL (x.take k) ++ List.replicate (64 - 2 * k) 0
theorem tAcc_zero (x : Id) : tAcc x 0 = List.replicate 64 0 := by unfold tAcc; rw [List.take_zero]; rfl
theorem tAcc_len (x : Id) (hx : x.length = 32) (k : Nat) (h : k ≤ 32) : (tAcc x k).length = 64 := by
  unfold tAcc
  rw [List.length_append, textL_len, List.length_take, List.length_replicate, hx]
  omega
theorem tAcc_all (x : Id) (hx : x.length = 32) : tAcc x 32 = textL x := by
  unfold tAcc
  rw [List.take_of_length_le (by omega), Nat.sub_self, List.replicate_zero, List.append_nil]
theorem tAcc_set (x : Id) (hx : x.length = 32) (k : Nat) (h : k < 32) : ((tAcc x k).set (2 * k) (hexB ((x.getD k 0).toNat / 16))).set (2 * k + 1) (hexB ((x.getD k 0).toNat % 16)) = tAcc x (k + 1) := by
  have hl : (textL (x.take k)).length = 2 * k := by rw [textL_len, List.length_take]; omega
  unfold tAcc
  rw [textL_take x k (by omega), show 64 - 2 * k = (64 - 2 * (k + 1)) + 1 + 1 by omega, List.replicate_succ, List.replicate_succ, List.set_append_right _ _ (by omega), hl, Nat.sub_self, List.set_cons_zero, List.set_append_right _ _ (by omega), hl, show 2 * k + 1 - 2 * k = 1 by omega, List.set_cons_succ, List.set_cons_zero, List.append_assoc]
  rfl
theorem hex_at' : ∀ n : Fin 16, hexL.getD n.val 0 = hexB n.val := fun _ => rfl
theorem B_div (c : UInt8) : B c / (16 : Int) = ((c.toNat / 16 : Nat) : Int) := by unfold B; norm_cast
theorem and15' : ∀ n : Fin 256, n.val &&& 15 = n.val % 16 := by decide +kernel
theorem B_and15 (c : UInt8) : bits .and .u8 (B c) 15 = ((c.toNat % 16 : Nat) : Int) := by
  unfold B
  have := u8_and_nat c.toNat 15 c.toNat_lt (by decide)
  rw [show ((15 : Nat) : Int) = 15 from rfl] at this
  rw [this, and15' ⟨c.toNat, c.toNat_lt⟩]

theorem run_index_u8 (s : ByteArray) (i : Int) (k : Nat) (hi : i = (k : Int)) (h : k < s.size) (w : World) : (Instr.index 9 (.string s) (.int .u8 i)).run Try.prog w = .ok (.int .u8 (B (s.data.toList.getD k 0))) w := by
  subst hi
  have hs : s[k]? = some (s.data.toList.getD k 0) := by
    rw [List.getD_eq_getElem?_getD, List.getElem?_eq_getElem (by rw [← size_list]; exact h)]
    simp [getElem?_pos s k h]
    rfl
  have h0 : (0 : Int) ≤ (k : Int) := Int.natCast_nonneg _
  simp [Instr.index, asIntOf, run_underlying Try.underlying9, hs]
  rfl
theorem exec_index {P : Program} {ρ : Operand → Value} {o : Oper} {x y : Operand} {t : TypeId} {u z v : Value} {w : World} (ho : o.op = .index t x y) (hx : ρ x = u) (hy : ρ y = z) (h : (Instr.index t u z).run P w = .ok v w) :
    (execOp ρ o).run P w = .ok (.value v) w := by
  unfold execOp
  simp [ho, hx, hy, h]
theorem run_index_arr (x : Id) (hx : x.length = 32) (k : Nat) (hk : k < 32) (w : World) : (Instr.index 23 (.agg (bv x).toArray) (.int .i64 (k : Int))).run Try.prog w = .ok (.int .u8 (B (x.getD k 0))) w := by
  obtain ⟨y, hy5, _, hs, _⟩ := info_parts info5
  have h := bv_get x k (by omega)
  have hb : (0 : Int) ≤ (k : Int) ∧ (k : Int) < 32 := ⟨by omega, by omega⟩
  have ha : ∀ w, (isAgg 5).run Try.prog w = .ok false w := fun w => by simp [isAgg, run_underlying Try.underlying5]
  have hz : ∀ w, (sizeOf 5).run Try.prog w = .ok 1 w := fun w => by simp [sizeOf, typeInfo, hy5, hs]
  have hn : ¬ 32 ≤ k := by omega
  simp [Instr.index, asIntOf, run_underlying Try.underlying23, hb, part, ha, hz, h, hn]
theorem textBlk (w : World) (g : Nat) (l : List UInt8) (hl : l.length = 64) (h : Blk w g 46 (bv l).toArray) : (convert 41 9 (.slice (some ⟨g, 0, none⟩) 64 64)).run Try.prog w = .ok (.string (bt l)) w := by
  have e := run_convert_bytes_back (P := Try.prog) w 41 9 5 ⟨g, 0, none⟩ 64 l Try.underlying41 Try.underlying5 Try.underlying9 (fun j hj => by
    rw [Addr.add_lit, Nat.zero_add, h.cell j, List.getElem?_toArray, bv_get _ _ hj, List.getD_eq_getElem?_getD, List.getElem?_eq_getElem hj]
    rfl)
  rw [hl] at e
  exact e

set_option maxHeartbeats 4000000 in
set_option maxRecDepth 100000 in
theorem text_any (x : Id) (w : World) (hx : x.length = 32) : Calls Try.prog 10 #[.agg (bv x).toArray] w fun e w' => e = .returned (.string (bt (textL x))) ∧ Below w.heap.size w w' := by
  obtain ⟨w1, hw1⟩ : ∃ u, u = (w.alloc (.cells (bv x).toArray 23)).alloc (.cells (bv (tAcc x 0)).toArray 46) := ⟨_, rfl⟩
  obtain ⟨S, hS⟩ : ∃ S, S = w.heap.size := ⟨_, rfl⟩
  have hX : Blk w1 S 23 (bv x).toArray := by rw [hw1, hS]; exact (Blk.new w _ _).alloc _
  have hO : Blk w1 (S + 1) 46 (bv (tAcc x 0)).toArray := by rw [hw1, hS]; exact Blk.at_ (by simp) _ _
  have hB : Below w.heap.size w w1 := by rw [hw1]; exact ((Below.refl _ _).alloc (Nat.le_refl _) _).alloc (by simp) _
  have HX := Lib.hid hX
  have HO := Lib.hid hO
  have HB := Lib.hid hB
  have HS := Lib.hid hS
  have HW := Lib.hid hw1
  have hbx : (Instr.loadAt 23 (.pointer (some ⟨S, 0, none⟩))).run Try.prog w1 = .ok (.agg (bv x).toArray) w1 := box_load hX hx 0
  clear hX hO hB hw1 hS
  go_enter Try.func10, Try.ntmps10
  go_upto_region 2 with fail
  refine wp_at HW.out.symm ?_
  rw [← HS.out]
  clear HW
  go_wp2_with ((with_reducible refine step_load (t := 23) (x := .tmp 1) (p := ?lp1) (v := ?lv1) ?lg1 ?lo1 ?lx1 ?lr1 ?lh1); (case lg1 => rfl); (case lo1 => rfl); (case lx1 => rfl); (case lr1 => exact hbx))
  go_loopg [4, 5, 7] 32 (fun gk s4 s5 s7 wr => ∃ k : Nat, s7 = .int .i64 k ∧ k ≤ 32 ∧ 32 - k ≤ gk ∧ Hid (Blk wr (S + 1) 46 (bv (tAcc x k)).toArray) ∧ Hid (Below w.heap.size w wr))
  case atStart => exact ⟨0, rfl, by decide, by omega, HO, HB⟩
  case round =>
    obtain ⟨k, rfl, hk, hgk, HO2, HB2⟩ := hrel
    clear HO HB
    have k0 : (0 : Int) ≤ (k : Int) := Int.natCast_nonneg _
    by_cases hlt : k < 32
    · have hltz : (k : Int) < 32 := by omega
      obtain ⟨c, hc⟩ : ∃ c, c = x.getD k 0 := ⟨_, rfl⟩
      have hbi : (bv x)[k]? = some (.int .u8 (B c)) := by rw [bv_get x k (by omega), hc]
      have hc0 := B_nonneg c
      have hc1 := B_lt c
      have hv1 := B_div c
      have hv2 := B_and15 c
      obtain ⟨p, hp⟩ : ∃ p, p = c.toNat / 16 := ⟨_, rfl⟩
      obtain ⟨r, hr⟩ : ∃ r, r = c.toNat % 16 := ⟨_, rfl⟩
      rw [← hp] at hv1
      rw [← hr] at hv2
      have hp16 : p < 16 := by have := c.toNat_lt; omega
      have hr16 : r < 16 := by omega
      have HI1 := Lib.hid (fun u : World => run_index_u8 (bt hexL) (p : Int) p rfl (by rw [bt_size]; exact hp16) u)
      have HI2 := Lib.hid (fun u : World => run_index_u8 (bt hexL) (r : Int) r rfl (by rw [bt_size]; exact hr16) u)
      rw [bt_list] at HI1 HI2
      obtain ⟨y1, hy1⟩ : ∃ y, y = hexL.getD p 0 := ⟨_, rfl⟩
      obtain ⟨y2, hy2⟩ : ∃ y, y = hexL.getD r 0 := ⟨_, rfl⟩
      rw [← hy1] at HI1
      rw [← hy2] at HI2
      have HV := Lib.hid (show ((tAcc x k).set (2 * k) y1).set (2 * k + 1) y2 = tAcc x (k + 1) by rw [hy1, hy2, hp, hr, hc]; exact tAcc_set x hx k hlt)
      have hl := tAcc_len x hx k hk
      obtain ⟨m, hm⟩ : ∃ m, m = 2 * k := ⟨_, rfl⟩
      have e1 : IntKind.i64.wrap (2 * (k : Int)) = (m : Int) := by rw [IntKind.wrap_i64]; omega
      have e2 : IntKind.i64.wrap ((m : Int) + 1) = (m : Int) + 1 := by rw [IntKind.wrap_i64]; omega
      have e3 : ((m : Int) + 1).toNat = m + 1 := by omega
      have m0 : (0 : Int) ≤ (m : Int) := Int.natCast_nonneg _
      have m1 : (m : Int) < 64 := by omega
      have m2 : (0 : Int) ≤ (m : Int) + 1 := by omega
      have m3 : (m : Int) + 1 < 64 := by omega
      rw [← hm] at HV
      have c1 : wr.cell? ⟨S + 1, m, none⟩ = some (.int .u8 (B ((tAcc x k).getD m 0))) := by rw [HO2.out.cell, List.getElem?_toArray]; exact bv_get _ _ (by omega)
      have c2 : wr.cell? ⟨S + 1, m + 1, none⟩ = some (.int .u8 (B ((tAcc x k).getD (m + 1) 0))) := by rw [HO2.out.cell, List.getElem?_toArray]; exact bv_get _ _ (by omega)
      have f1 : wr.frozen? ⟨S + 1, m, none⟩ = false := HO2.out.frozen _
      have f2 : wr.frozen? ⟨S + 1, m + 1, none⟩ = false := HO2.out.frozen _
      have HBB := Lib.hid (blk_byte (blk_byte HO2.out m y1) (m + 1) y2)
      rw [HV.out] at HBB
      have HX64 := Lib.hid hx
      have hIx := run_index_arr x hx k hlt wr
      rw [← hc] at hIx
      clear hc hy1 hy2 hp hr hl hm
      go_upto_region 5 with fail
      refine wp_region_any (by kernel_rfl) ?_
      refine' wpAny_take (i := 0) ?hizt1 (by kernel_rfl) (by kernel_rfl) (by kernel_rfl) ?hqzt1 (Or.inl ⟨?hwzt1, ?hyzt1⟩) ?hrzt1
      case hizt1 => (simp only [List.getElem?_toArray, List.getElem?_cons_succ, List.getElem?_cons_zero]; rfl)
      case hqzt1 => exact fun _ _ _ h => h
      case hwzt1 => rfl
      case hyzt1 => (intro w0; go_simp; try with_reducible rfl)
      (try simp only [Act.put, List.setIfInBounds_toArray, List.set_cons_zero, List.set_cons_succ])
      refine' wpAny_take (i := 1) ?hizt2 (by kernel_rfl) (by kernel_rfl) (by kernel_rfl) ?hqzt2 (Or.inl ⟨?hwzt2, ?hyzt2⟩) ?hrzt2
      case hizt2 => (simp only [List.getElem?_toArray, List.getElem?_cons_succ, List.getElem?_cons_zero]; rfl)
      case hqzt2 => exact fun _ _ _ h => h
      case hwzt2 => rfl
      case hyzt2 => (intro w0; go_simp; try with_reducible rfl)
      (try simp only [Act.put, List.setIfInBounds_toArray, List.set_cons_zero, List.set_cons_succ])
      refine' wpAny_take (i := 2) ?hizt3 (by kernel_rfl) (by kernel_rfl) (by kernel_rfl) ?hqzt3 (Or.inl ⟨?hwzt3, ?hyzt3⟩) ?hrzt3
      case hizt3 => (simp only [List.getElem?_toArray, List.getElem?_cons_succ, List.getElem?_cons_zero]; rfl)
      case hqzt3 => exact fun _ _ _ h => h
      case hwzt3 => rfl
      case hyzt3 => (intro w0; go_simp; try with_reducible rfl)
      (try simp only [Act.put, List.setIfInBounds_toArray, List.set_cons_zero, List.set_cons_succ])
      refine' wpAny_take (i := 3) ?hizt4 (by kernel_rfl) (by kernel_rfl) (by kernel_rfl) ?hqzt4 (Or.inl ⟨?hwzt4, ?hyzt4⟩) ?hrzt4
      case hizt4 => (simp only [List.getElem?_toArray, List.getElem?_cons_succ, List.getElem?_cons_zero]; rfl)
      case hqzt4 => exact fun _ _ _ h => h
      case hwzt4 => rfl
      case hyzt4 => (intro w0; go_simp; try with_reducible rfl)
      (try simp only [Act.put, List.setIfInBounds_toArray, List.set_cons_zero, List.set_cons_succ])
      refine' wpAny_take (i := 4) ?hizt5 (by kernel_rfl) (by kernel_rfl) (by kernel_rfl) ?hqzt5 (Or.inl ⟨?hwzt5, ?hyzt5⟩) ?hrzt5
      case hizt5 => (simp only [List.getElem?_toArray, List.getElem?_cons_succ, List.getElem?_cons_zero]; rfl)
      case hqzt5 => exact fun _ _ _ h => h
      case hwzt5 => rfl
      case hyzt5 => (intro w0; go_simp; try with_reducible rfl)
      (try simp only [Act.put, List.setIfInBounds_toArray, List.set_cons_zero, List.set_cons_succ])
      refine' wpAny_take (i := 5) ?hizt6 (by kernel_rfl) (by kernel_rfl) (by kernel_rfl) ?hqzt6 (Or.inl ⟨?hwzt6, ?hyzt6⟩) ?hrzt6
      case hizt6 => (simp only [List.getElem?_toArray, List.getElem?_cons_succ, List.getElem?_cons_zero]; rfl)
      case hqzt6 => exact fun _ _ _ h => h
      case hwzt6 => rfl
      case hyzt6 => (intro w0; go_simp; try with_reducible rfl)
      (try simp only [Act.put, List.setIfInBounds_toArray, List.set_cons_zero, List.set_cons_succ])
      refine' wpAny_take (i := 6) ?hizt7 (by kernel_rfl) (by kernel_rfl) (by kernel_rfl) ?hqzt7 (Or.inl ⟨?hwzt7, ?hyzt7⟩) ?hrzt7
      case hizt7 => (simp only [List.getElem?_toArray, List.getElem?_cons_succ, List.getElem?_cons_zero]; rfl)
      case hqzt7 => exact fun _ _ _ h => h
      case hwzt7 => rfl
      case hyzt7 => (intro w0; go_simp; try with_reducible rfl)
      (try simp only [Act.put, List.setIfInBounds_toArray, List.set_cons_zero, List.set_cons_succ])
      refine' wpAny_take (i := 7) ?hizt8 (by kernel_rfl) (by kernel_rfl) (by kernel_rfl) ?hqzt8 (Or.inl ⟨?hwzt8, ?hyzt8⟩) ?hrzt8
      case hizt8 => (simp only [List.getElem?_toArray, List.getElem?_cons_succ, List.getElem?_cons_zero]; rfl)
      case hqzt8 => exact fun _ _ _ h => h
      case hwzt8 => rfl
      case hyzt8 => exact fun w0 => exec_index rfl rfl rfl (HI1.out w0)
      (try simp only [Act.put, List.setIfInBounds_toArray, List.set_cons_zero, List.set_cons_succ])
      refine' wpAny_take (i := 8) ?hizt9 (by kernel_rfl) (by kernel_rfl) (by kernel_rfl) ?hqzt9 (Or.inl ⟨?hwzt9, ?hyzt9⟩) ?hrzt9
      case hizt9 => (simp only [List.getElem?_toArray, List.getElem?_cons_succ, List.getElem?_cons_zero]; rfl)
      case hqzt9 => exact fun _ _ _ h => h
      case hwzt9 => rfl
      case hyzt9 => (intro w0; go_simp; try with_reducible rfl)
      (try simp only [Act.put, List.setIfInBounds_toArray, List.set_cons_zero, List.set_cons_succ])
      refine' wpAny_take (i := 9) ?hizt10 (by kernel_rfl) (by kernel_rfl) (by kernel_rfl) ?hqzt10 (Or.inl ⟨?hwzt10, ?hyzt10⟩) ?hrzt10
      case hizt10 => (simp only [List.getElem?_toArray, List.getElem?_cons_succ, List.getElem?_cons_zero]; rfl)
      case hqzt10 => exact fun _ _ _ h => h
      case hwzt10 => rfl
      case hyzt10 => (intro w0; go_simp; try with_reducible rfl)
      (try simp only [Act.put, List.setIfInBounds_toArray, List.set_cons_zero, List.set_cons_succ])
      refine' wpAny_take (i := 10) ?hizt11 (by kernel_rfl) (by kernel_rfl) (by kernel_rfl) ?hqzt11 (Or.inl ⟨?hwzt11, ?hyzt11⟩) ?hrzt11
      case hizt11 => (simp only [List.getElem?_toArray, List.getElem?_cons_succ, List.getElem?_cons_zero]; rfl)
      case hqzt11 => exact fun _ _ _ h => h
      case hwzt11 => rfl
      case hyzt11 => exact fun w0 => exec_index rfl rfl rfl (HI2.out w0)
      (try simp only [Act.put, List.setIfInBounds_toArray, List.set_cons_zero, List.set_cons_succ])
      refine' wpAny_take (i := 11) ?hizt12 (by kernel_rfl) (by kernel_rfl) (by kernel_rfl) ?hqzt12 (Or.inl ⟨?hwzt12, ?hyzt12⟩) ?hrzt12
      case hizt12 => (simp only [List.getElem?_toArray, List.getElem?_cons_succ, List.getElem?_cons_zero]; rfl)
      case hqzt12 => exact fun _ _ _ h => h
      case hwzt12 => rfl
      case hyzt12 => (intro w0; go_simp; try with_reducible rfl)
      (try simp only [Act.put, List.setIfInBounds_toArray, List.set_cons_zero, List.set_cons_succ])
      refine wpAny_ready (rs := [12]) (by kernel_rfl) (by simp) ?_
      refine' AllReady.cons ?hizt13 (fun K hK => ?hrzt13) AllReady.nil
      case hizt13 => (simp only [List.getElem?_toArray, List.getElem?_cons_succ, List.getElem?_cons_zero]; rfl)
      go_simp
      refine hK _ _ ?_
      clear hK K
      (try simp only [Act.put, List.setIfInBounds_toArray, List.set_cons_zero, List.set_cons_succ])
      refine' wpAny_take (i := 13) ?hizt14 (by kernel_rfl) (by kernel_rfl) (by kernel_rfl) ?hqzt14 (Or.inl ⟨?hwzt14, ?hyzt14⟩) ?hrzt14
      case hizt14 => (simp only [List.getElem?_toArray, List.getElem?_cons_succ, List.getElem?_cons_zero]; rfl)
      case hqzt14 => exact fun _ _ _ h => h
      case hwzt14 => rfl
      case hyzt14 => (intro w0; go_simp; try with_reducible rfl)
      (try simp only [Act.put, List.setIfInBounds_toArray, List.set_cons_zero, List.set_cons_succ])
      refine wpAny_ready (rs := [14]) (by kernel_rfl) (by simp) ?_
      refine' AllReady.cons ?hizt15 (fun K hK => ?hrzt15) AllReady.nil
      case hizt15 => (simp only [List.getElem?_toArray, List.getElem?_cons_succ, List.getElem?_cons_zero]; rfl)
      go_simp
      refine hK _ _ ?_
      clear hK K
      (try simp only [Act.put, List.setIfInBounds_toArray, List.set_cons_zero, List.set_cons_succ])
      refine wpAny_done (by kernel_rfl) ?_ _
      go_wp2_with fail
      have hSz : w.heap.size ≤ S + 1 := by have := HS.out; omega
      go_roundg (32 - (k + 1))
      case measure => omega
      case rel => exact ⟨k + 1, by go_num, hlt, Nat.le_refl _, HBB, Lib.hid ((HB2.out.setCell (p := ⟨S + 1, m, none⟩) hSz _).setCell (p := ⟨S + 1, m + 1, none⟩) hSz _).drew⟩
    · obtain rfl : k = 32 := by omega
      have hltz : ¬ ((32 : Nat) : Int) < 32 := by decide
      have hst := fun u : World => textBlk u (S + 1) (textL x) (by rw [textL_len, hx])
      have hO3 := HO2.out
      rw [tAcc_all x hx] at hO3
      have hst' := hst wr hO3
      clear hst hO3
      go_wp2_with fail
      go_ret
      exact ⟨rfl, HB2.out⟩
end Go.Proofs.Ytfcoecojjciphaa.ids

namespace Go.Proofs.Ytfcoecojjciphaa.ids
open Go.RowKit Go.Proofs.Ytfcoecojjciphaa.mem Go.Proofs.Ytfcoecojjciphaa.sha Go.Proofs.Ytfcoecojjciphaa.strx
theorem identA : IdentA (fun _ => True) where
  next := fun _ _ => trivial
  compare := fun x y w _ hx hy => compare_any x y w hx hy
  text := fun x w _ hx => text_any x w hx
  parse := fun l w _ hl => parse_any l w hl
  set := fun L v w _ hR hm => (set_any L v w hR (by omega)).mono fun _ _ ⟨v', he, hO, hB⟩ => ⟨v', he, hO.mine (Nat.le_trans (setL_len L) (by omega)), hB⟩
  is := fun L v w _ hR hm => is_any L v w hR hm
end Go.Proofs.Ytfcoecojjciphaa.ids
