/-
  strings.IndexByte of the signs; ident.Parse.
-/
import Derived.Test.YtkfhlnpbklchmaaHexp
import Derived.Lib.Bytealg
import Derived.Laws.Externs
namespace Go.Proofs.Ytkfhlnpbklchmaa.ids
open Go.RowKit Go.Proofs.Ytkfhlnpbklchmaa.mem Go.Proofs.Ytkfhlnpbklchmaa.sha Go.Proofs.Ytkfhlnpbklchmaa.strx

theorem index_half' : ∀ n : Fin 256, Lib.indexByte hexL (UInt8.ofNat n.val) = halfI (UInt8.ofNat n.val) := by decide +kernel
theorem index_half (c : UInt8) : Lib.indexByte hexL c = halfI c := by
  have := index_half' ⟨c.toNat, c.toNat_lt⟩
  rwa [UInt8.ofNat_toNat] at this
theorem run_ibs (c : UInt8) (w : World) : (callFunc 42 #[.string (bt hexL), .int .u8 (B c)]).run Try.prog w = .ok (.value (.int .i64 (halfI c))) w := by
  rw [run_callFunc_extern Try.func42 (by kernel_rfl) (by kernel_rfl) (by kernel_rfl) (e := Extern.BytealgIndexByte.indexByte) (by kernel_rfl)]
  rw [Lib.run_indexByteString]
  have e : (B c).toNat.toUInt8 = c := by unfold B; simp
  simp only [Result.andThen, e, bt_list, index_half]
theorem libix_any (c : UInt8) (w : World) : Calls Try.prog 30 #[.string (bt hexL), .int .u8 (B c)] w fun e w' => e = .returned (.int .i64 (halfI c)) ∧ w = w' := by
  have h := run_ibs c
  obtain ⟨X, hX⟩ : ∃ X, X = bt hexL := ⟨_, rfl⟩
  rw [← hX] at h ⊢
  clear hX
  go_enter Try.func30, Try.ntmps30
  go_wp2_with fail
  go_ret
  exact ⟨rfl, rfl⟩
theorem ix_any (c : UInt8) (w : World) : Calls Try.prog 19 #[.string (bt hexL), .int .u8 (B c)] w fun e w' => e = .returned (.int .i64 (halfI c)) ∧ w = w' := by
  have h := libix_any c
  obtain ⟨X, hX⟩ : ∃ X, X = bt hexL := ⟨_, rfl⟩
  rw [← hX] at h ⊢
  clear hX
  go_enter Try.func19, Try.ntmps19
  go_wp2_with (go_at_call 30; refine (h _).mono ?_; rintro e w1 ⟨rfl, rfl⟩)
  go_ret
  exact ⟨rfl, rfl⟩

/-- a sign's half byte as a byte -/
def hb (c : UInt8) : UInt8 := UInt8.ofNat (halfI c).toNat
/-- the id as far as it is read -/
def qAcc (l : List UInt8) : Nat → Id
  | 0 => zid
  | i + 1 => (qAcc l i).set (i / 2) (((qAcc l i).getD (i / 2) 0) <<< 4 ||| hb (l.getD i 0))
theorem qAcc_len (l : List UInt8) : ∀ i, (qAcc l i).length = 32
  | 0 => rfl
  | i + 1 => by rw [qAcc, List.length_set, qAcc_len l i]
theorem two_halves : ∀ a b : Fin 16, ((((0 : UInt8) <<< 4 ||| UInt8.ofNat a.val) <<< 4) ||| UInt8.ofNat b.val) = UInt8.ofNat (16 * (a.val : Int) + (b.val : Int)).toNat := by decide +kernel
theorem qAcc_even (l : List UInt8) (hl : ∀ j, j < 64 → 0 ≤ halfI (l.getD j 0)) : ∀ k, k ≤ 32 → qAcc l (2 * k) = pAcc l k
  | 0, _ => rfl
  | k + 1, h => by
    have ih := qAcc_even l hl k (by omega)
    have e1 : 2 * (k + 1) = (2 * k + 1) + 1 := by omega
    rw [e1, qAcc, qAcc, ih, show (2 * k + 1) / 2 = k by omega, show 2 * k / 2 = k by omega, ← pAcc_set l k (by omega), List.set_set]
    have hlen := pAcc_len l k (by omega)
    have e2 : ∀ v, ((pAcc l k).set k v).getD k 0 = v := fun v => by
      rw [List.getD_eq_getElem?_getD, List.getElem?_set_self (by omega)]; rfl
    have e3 : (pAcc l k).getD k 0 = 0 := by
      unfold pAcc
      rw [List.getD_eq_getElem?_getD, List.getElem?_append_right (by simp), List.length_map, List.length_range, Nat.sub_self, List.getElem?_replicate]
      rw [if_pos (by omega)]
      rfl
    rw [e2, e3]
    congr 1
    have h1 := hl (2 * k) (by omega)
    have h2 := hl (2 * k + 1) (by omega)
    have r1 := halfI_range (l.getD (2 * k) 0)
    have r2 := halfI_range (l.getD (2 * k + 1) 0)
    have := two_halves ⟨(halfI (l.getD (2 * k) 0)).toNat, by omega⟩ ⟨(halfI (l.getD (2 * k + 1) 0)).toNat, by omega⟩
    unfold hb pb
    rw [this]
    congr 2
    show 16 * ((halfI (l.getD (2 * k) 0)).toNat : Int) + ((halfI (l.getD (2 * k + 1) 0)).toNat : Int) = _
    omega
theorem B_or (x y : UInt8) : bits .or .u8 (B x) (B y) = B (x ||| y) := by
  unfold B; rw [u8_or_nat _ _ x.toNat_lt y.toNat_lt, UInt8.toNat_or]
theorem B_shl4 (a : UInt8) : B a * (16 : Int) % (256 : Int) = B (a <<< 4) := by
  unfold B
  rw [UInt8.toNat_shiftLeft]
  simp [Nat.shiftLeft_eq]
theorem B_hb (c : UInt8) (h : 0 ≤ halfI c) : halfI c % (256 : Int) = B (hb c) := by
  have := halfI_range c
  unfold B hb
  rw [UInt8.toNat_ofNat']
  omega

set_option maxHeartbeats 2000000 in
set_option maxRecDepth 100000 in
theorem parse_any (l : List UInt8) (w : World) (hl : l.length ≤ 281474976710656) : Calls Try.prog 6 #[.string (bt l)] w fun e w' => e = .returned (.tuple #[.agg (bv (parseOf l).1).toArray, .int .i64 (parseOf l).2]) ∧ Below w.heap.size w w' := by
  obtain ⟨w1, hw1⟩ : ∃ u, u = (w.alloc (.cells (bv zid).toArray 23)).alloc (.cells (bv zid).toArray 23) := ⟨_, rfl⟩
  obtain ⟨R, hR⟩ : ∃ S, S = w.heap.size := ⟨_, rfl⟩
  have hX : Blk w1 R 23 (bv zid).toArray := by rw [hw1, hR]; exact (Blk.new w _ _).alloc _
  have hO : Blk w1 (R + 1) 23 (bv zid).toArray := by rw [hw1, hR]; exact Blk.at_ (by simp) _ _
  have hB : Below w.heap.size w w1 := by rw [hw1]; exact ((Below.refl _ _).alloc (Nat.le_refl _) _).alloc (by simp) _
  have HR1 := Lib.hid hX
  have HO1 := Lib.hid hO
  have HB1 := Lib.hid hB
  have HRR := Lib.hid hR
  have HW := Lib.hid hw1
  have hlen : ((bt l).size : Int) = (l.length : Int) := by rw [bt_size]
  clear hX hB hw1 hR hO
  go_enter Try.func6, Try.ntmps6
  go_upto_region 2 with fail
  refine wp_at HW.out.symm ?_
  rw [← HRR.out]
  clear HW
  by_cases h64 : l.length = 64
  case neg =>
    have hne : ((l.length : Int) != 64) = true := bne_iff_ne.2 (by omega)
    have HP := Lib.hid (parse_bad (fun h : fine l => h64 h.1))
    clear h64
    go_upto_region 3 with fail
    refine wp_region_lit ?_
    refine step_build0 rfl rfl ?_
    refine wpList_store_row rfl 23 (.tmp 2) (.tmp 10) rfl R (bv zid).toArray rfl (by simp [Act.put, Act.eval]) 23 _ HR1.out (by rw [info_id']; simp [bv_length, zid_len]) (by simp [bv_length, zid_len]) (one_bv _) ?_
    go_wp2_with fail
    (try simp only [Exit.inBlock, Exit.then])
    have hrow := setRow_heap w1 R _ (bv zid).toArray _ _ HR1.out
    refine bodyPost_ret (results_id_int rfl _ _ R zid rfl hrow rfl) rfl ⟨by rw [HP.out]; rfl, ?_⟩
    exact below_setRow HB1.out (by rw [HRR.out]; exact Nat.le_refl _) _
  have hl64 : (l.length : Int) = 64 := by omega
  have H64 := Lib.hid h64
  go_wp2_with fail
  go_loopg [5, 6, 13] 64 (fun gk s5 s6 s13 wr => ∃ i : Nat, s13 = .int .i64 i ∧ i ≤ 64 ∧ 64 - i ≤ gk ∧ Hid (∀ j, j < i → 0 ≤ halfI (l.getD j 0)) ∧ Hid (Blk wr R 23 (bv zid).toArray) ∧ Hid (Blk wr (R + 1) 23 (bv (qAcc l i)).toArray) ∧ Hid (Below w.heap.size w wr))
  case atStart => exact ⟨0, rfl, by decide, by omega, Lib.hid fun j hj => by omega, HR1, HO1, HB1⟩
  case round =>
    obtain ⟨i, rfl, hi64, hgk, HN, HR2, HO2, HB2⟩ := hrel
    clear HR1 HO1 HB1
    have i0 : (0 : Int) ≤ (i : Int) := Int.natCast_nonneg _
    by_cases hlt : i < 64
    · have hltz : (i : Int) < 64 := by omega
      have hix := fun u : World => run_index_int (bt l) (i : Int) i rfl (by rw [bt_size]; omega) u
      rw [bt_list] at hix
      obtain ⟨x, hx⟩ : ∃ x, x = l.getD i 0 := ⟨_, rfl⟩
      rw [← hx] at hix
      have HA := Lib.hid (ix_any x)
      have HX := Lib.hid hx
      clear hx
      by_cases hneg : halfI x < 0
      · have HP := Lib.hid (parse_bad (fun h : fine l => by have := h.2 i hlt; rw [← HX.out] at this; omega))
        go_upto_region 9 with (go_at_call 19; refine (HA.out _).mono ?_; rintro e w2 ⟨rfl, rfl⟩)
        refine wp_region_lit ?_
        refine step_build0 rfl rfl ?_
        refine wpList_store_row rfl 23 (.tmp 2) (.tmp 22) rfl R (bv zid).toArray rfl (by simp [Act.put, Act.eval]) 23 _ HR2.out (by rw [info_id']; simp [bv_length, zid_len]) (by simp [bv_length, zid_len]) (one_bv _) ?_
        go_wp2_with fail
        (try simp only [Exit.inBlock, Exit.then])
        have hrow := setRow_heap wr R _ (bv zid).toArray _ _ HR2.out
        refine bodyPost_ret (results_id_int rfl _ _ R zid rfl hrow rfl) rfl ⟨by rw [HP.out]; rfl, ?_⟩
        exact below_setRow HB2.out (by rw [HRR.out]; exact Nat.le_refl _) _
      · obtain ⟨q, hq⟩ : ∃ q, q = i / 2 := ⟨_, rfl⟩
        have hq4 : Int.tdiv (i : Int) 2 = (q : Int) := by rw [Int.tdiv_eq_ediv_of_nonneg (by omega), hq]; norm_cast
        have hq4e : (i : Int) / 2 = (q : Int) := by rw [hq]; norm_cast
        have hq32 : (q : Int) < 32 := by omega
        have q0 : (0 : Int) ≤ (q : Int) := Int.natCast_nonneg _
        obtain ⟨a, ha⟩ : ∃ a, a = (qAcc l i).getD q 0 := ⟨_, rfl⟩
        have hc : wr.cell? ⟨R + 1, q, none⟩ = some (.int .u8 (B a)) := by
          rw [HO2.out.cell q, List.getElem?_toArray, bv_get _ _ (by rw [qAcc_len]; omega), ha]
        have hf : wr.frozen? ⟨R + 1, q, none⟩ = false := HO2.out.frozen q
        have hv1 := B_shl4 a
        have hv2 := B_hb x (by omega)
        have hv3 := B_or (a <<< 4) (hb x)
        obtain ⟨v, hv⟩ : ∃ v, v = (a <<< 4 ||| hb x) := ⟨_, rfl⟩
        have HV := Lib.hid (show (qAcc l i).set q v = qAcc l (i + 1) by rw [hv, ha, qAcc, ← hq, ← HX.out])
        rw [← hv] at hv3
        clear hv ha hq
        go_wp2_with (go_at_call 19; refine (HA.out _).mono ?_; rintro e w2 ⟨rfl, rfl⟩)
        have hb1 := blk_byte HO2.out q v
        rw [HV.out] at hb1
        go_roundg (64 - (i + 1))
        case measure => omega
        case rel =>
          exact ⟨i + 1, by go_num, hlt, Nat.le_refl _, Lib.hid fun j hj => by
            rcases Nat.lt_or_ge j i with h | h
            · exact HN.out j h
            · obtain rfl : j = i := by omega
              rw [← HX.out]; omega, Lib.hid (HR2.out.far (by show R ≠ R + 1; omega) _), Lib.hid hb1, Lib.hid (HB2.out.setCell (by show w.heap.size ≤ R + 1; have := HRR.out; omega) _)⟩
    · obtain rfl : i = 64 := by omega
      have hltz : ¬ ((64 : Nat) : Int) < 64 := by decide
      have HP := Lib.hid (parse_fine (l := l) ⟨H64.out, HN.out⟩)
      have hq := qAcc_even l HN.out 32 (Nat.le_refl _)
      obtain ⟨z, hz⟩ : ∃ z, z = pAcc l 32 := ⟨_, rfl⟩
      have hz32 : z.length = 32 := by rw [hz]; exact pAcc_len l 32 (Nat.le_refl _)
      have HO3 := Lib.hid (show Blk wr (R + 1) 23 (bv z).toArray by rw [hz, ← hq]; exact HO2.out)
      have HZ := Lib.hid hz
      clear hq hz HO2
      go_upto_region 12 with fail
      refine wp_region_lit ?_
      refine step_load (t := 23) (x := .tmp 4) rfl rfl rfl (box_load HO3.out hz32 0) ?_
      refine wpList_store_row rfl 23 (.tmp 2) (.tmp 35) rfl R (bv z).toArray rfl (by simp [Act.put, Act.eval]) 23 _ HR2.out (by rw [info_id']; simp [bv_length, hz32]) (by simp [bv_length, hz32, zid_len]) (one_bv _) ?_
      go_wp2_with fail
      (try simp only [Exit.inBlock, Exit.then])
      have hrow := setRow_heap wr R _ (bv z).toArray _ _ HR2.out
      refine bodyPost_ret (results_id_int rfl _ _ R z rfl hrow hz32) rfl ⟨by rw [HP.out, HZ.out]; rfl, ?_⟩
      exact below_setRow HB2.out (by rw [HRR.out]; exact Nat.le_refl _) _
end Go.Proofs.Ytkfhlnpbklchmaa.ids
