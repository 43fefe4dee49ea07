/-
  octet's Reader by plain functions (RdL: what is left, and the first error).
  The landed wire: Text, Id.
  The landed wire: Ids (none, if not all are there).
-/
import Derived.Test.YtmaolmogccknbaaDoorOcts
import Derived.Test.YtmaolmogccknbaaDoorRds
import Derived.Test.YtmaolmogccknbaaDoorOctb
import Derived.Test.YtmaolmogccknbaaDoorIdsc
namespace Go.Proofs.YtmaolmogccknbaaDoor.opn
open Go.RowKit Go.Proofs.YtmaolmogccknbaaDoor.mem Go.Proofs.YtmaolmogccknbaaDoor.sha

theorem lsr_take {x : ByteArray × Int} {st : St} (h : Sr x st) (n : Nat) : (oct.rTake x n).1 = oct.tx (rd n st).1 ∧ Sr (oct.rTake x n).2 (rd n st).2 := by
  obtain ⟨s, e⟩ := x
  obtain ⟨l, e'⟩ := st
  obtain ⟨h1, h2⟩ := h
  simp only at h1 h2
  subst h1
  unfold oct.rTake rd
  by_cases h0 : e' = 0
  · subst h0
    obtain rfl := h2 rfl
    simp only [ne_eq, not_true, if_false]
    rw [if_neg (by omega), oct.tx_size]
    by_cases hl : l.length < n
    · rw [if_pos (by omega), if_pos hl]
      exact ⟨rfl, rfl, fun h => absurd (show (2 : Int) = 0 from h) (by decide)⟩
    · rw [if_neg (by omega), if_neg hl]
      simp only [Int.toNat_natCast]
      refine ⟨?_, rfl, fun _ => ?_⟩
      · rw [oct.tx_extract, List.drop_zero]
      · rw [oct.tx_extract, List.take_of_length_le (Nat.le_refl _)]
  · simp only [ne_eq, h0, not_false_eq_true, if_true]
    exact ⟨rfl, rfl, fun h => absurd h h0⟩
theorem lsr_num {x : ByteArray × Int} {st : St} (h : Sr x st) (b : Nat) (hb : b = 1 ∨ b = 2 ∨ b = 4) : (oct.rNum x b).1 = (rdN b st).1 ∧ Sr (oct.rNum x b).2 (rdN b st).2 := by
  have hs := lsr_take h b
  unfold oct.rNum rdN
  rw [if_neg (by rcases hb with rfl | rfl | rfl <;> decide)]
  refine ⟨?_, hs.2⟩
  rw [hs.1, oct.tx_list]
  rfl
theorem lsr_end {x : ByteArray × Int} {st : St} (h : Sr x st) : oct.rEnd x = endE st := by
  unfold oct.rEnd endE
  rw [h.1]
  by_cases h0 : x.2 = 0
  · have hn : ¬ (x.2 ≠ 0) := fun hh => hh h0
    rw [if_neg hn, if_neg hn, h.2 h0, oct.tx_list]
    cases st.1 with
    | nil => rfl
    | cons a l => rw [if_neg (by simp), if_neg (by simp)]
  · rw [if_pos h0, if_pos h0]
/-- a Reader of octet in block g, by what is left and the first error -/
def RdL (w : World) (g : Nat) (st : St) : Prop := ∃ s e, oct.RBlk w g s e ∧ Sr (s, e) st ∧ s.size ≤ 281474976710656
theorem RdL.turn {F : Nat → Prop} {w w' : World} {g : Nat} {st : St} (h : RdL w g st) (ht : Turn F w w') (hg : ¬ F g) : RdL w' g st := by
  obtain ⟨s, e, hx, hs⟩ := h
  exact ⟨s, e, Blk.turn hx ht hg, hs⟩
theorem RdL.lt {w : World} {g : Nat} {st : St} (h : RdL w g st) : g < w.heap.size := by
  obtain ⟨s, e, hx, hs⟩ := h
  exact Blk.lt hx
theorem lnum_s (F : Nat → Prop) (g : Nat) (st : St) (b : Nat) (hb : b = 1 ∨ b = 2 ∨ b = 4) (w : World) (h : RdL w g st) (hF : F g) (hn : New F w) :
    Calls Tryd.prog 54 #[.pointer (some ⟨g, 0, none⟩), .int .i64 (b : Int)] w fun e w' => e = .returned (.int .i64 (rdN b st).1) ∧ RdL w' g (rdN b st).2 ∧ Turn F w w' := by
  obtain ⟨s, e, hx, hs, hz⟩ := h
  refine (oct.rnum_any F g s e b w hx hF hn).mono ?_
  rintro e2 w2 ⟨rfl, h2, ht⟩
  have := lsr_num hs b hb
  exact ⟨by rw [this.1], ⟨_, _, h2, this.2, Nat.le_trans (oct.rNum_le (s, e) b) hz⟩, ht⟩
theorem lnum1_s (F : Nat → Prop) (g : Nat) (st : St) (w : World) (h : RdL w g st) (hF : F g) (hn : New F w) :
    Calls Tryd.prog 54 #[.pointer (some ⟨g, 0, none⟩), .int .i64 1] w fun e w' => e = .returned (.int .i64 (rdN 1 st).1) ∧ RdL w' g (rdN 1 st).2 ∧ Turn F w w' := lnum_s F g st 1 (.inl rfl) w h hF hn
theorem lnum4_s (F : Nat → Prop) (g : Nat) (st : St) (w : World) (h : RdL w g st) (hF : F g) (hn : New F w) :
    Calls Tryd.prog 54 #[.pointer (some ⟨g, 0, none⟩), .int .i64 4] w fun e w' => e = .returned (.int .i64 (rdN 4 st).1) ∧ RdL w' g (rdN 4 st).2 ∧ Turn F w w' := lnum_s F g st 4 (.inr (.inr rfl)) w h hF hn
theorem lraw_s (F : Nat → Prop) (g : Nat) (st : St) (n : Int) (hn0 : 0 ≤ n) (w : World) (h : RdL w g st) (hF : F g) (hn : New F w) :
    Calls Tryd.prog 108 #[.pointer (some ⟨g, 0, none⟩), .int .i64 n] w fun e w' => e = .returned (.string (oct.tx (rd n.toNat st).1)) ∧ RdL w' g (rd n.toNat st).2 ∧ Turn F w w' := by
  obtain ⟨s, e, hx, hs, hz⟩ := h
  refine (oct.rraw_any F g s e n w hx hF hn hz).mono ?_
  rintro e2 w2 ⟨rfl, h2, ht⟩
  have := lsr_take hs n.toNat
  rw [Int.toNat_of_nonneg hn0] at this
  exact ⟨by rw [this.1], ⟨_, _, h2, this.2, Nat.le_trans (oct.rTake_le (s, e) n).2 hz⟩, ht⟩
theorem lend_s (g : Nat) (st : St) (w : World) (h : RdL w g st) :
    Calls Tryd.prog 57 #[.pointer (some ⟨g, 0, none⟩)] w fun e w' => e = .returned (.int .i64 (endE st)) ∧ w = w' := by
  obtain ⟨s, e, hx, hs, -⟩ := h
  rw [← lsr_end hs]
  exact oct.end_any g s e w hx
theorem lerr_s (g : Nat) (st : St) (w : World) (h : RdL w g st) :
    Calls Tryd.prog 55 #[.pointer (some ⟨g, 0, none⟩)] w fun e w' => e = .returned (.int .i64 st.2) ∧ w = w' := by
  obtain ⟨s, e, hx, hs, -⟩ := h
  rw [hs.1]
  exact oct.err_ok g s e w hx
theorem lnum2_s (F : Nat → Prop) (g : Nat) (st : St) (w : World) (h : RdL w g st) (hF : F g) (hn : New F w) :
    Calls Tryd.prog 54 #[.pointer (some ⟨g, 0, none⟩), .int .i64 2] w fun e w' => e = .returned (.int .i64 (rdN 2 st).1) ∧ RdL w' g (rdN 2 st).2 ∧ Turn F w w' := lnum_s F g st 2 (.inr (.inl rfl)) w h hF hn
end Go.Proofs.YtmaolmogccknbaaDoor.opn

namespace Go.Proofs.YtmaolmogccknbaaDoor.opn
open Go.RowKit Go.Proofs.YtmaolmogccknbaaDoor.mem Go.Proofs.YtmaolmogccknbaaDoor.sha Go.Proofs.YtmaolmogccknbaaDoor.ids

theorem rtext_s (F : Nat → Prop) (g : Nat) (st : St) (w : World) (h : RdL w g st) (hF : F g) (hn : New F w) :
    Calls Tryd.prog 85 #[.pointer (some ⟨g, 0, none⟩)] w fun e w' => e = .returned (.string (oct.tx (rdT st).1)) ∧ RdL w' g (rdT st).2 ∧ Turn F w w' := by
  have HNUM := Lib.hid (lnum1_s F g st w h hF hn)
  have HRAW := Lib.hid (fun (u : World) (hu : RdL u g (rdN 1 st).2) (hn2 : New F u) => lraw_s F g (rdN 1 st).2 (rdN 1 st).1 (rdN_nonneg 1 st) u hu hF hn2)
  have HN := Lib.hid hn
  obtain ⟨n, hn'⟩ : ∃ n, n = (rdN 1 st).1 := ⟨_, rfl⟩
  have HT : Hid (rdT st = rd n.toNat (rdN 1 st).2) := Lib.hid (by rw [hn']; rfl)
  rw [← hn'] at HNUM HRAW
  rw [HT.out]
  clear h hn hn'
  go_enter Tryd.func85, Tryd.ntmps85
  go_wp2_with (first
    | (go_at_call 54; (with_reducible refine HNUM.out.mono ?_); rintro e w2 ⟨rfl, hr2, ht2⟩; have H2 := Lib.hid (HRAW.out w2 hr2 (HN.out.turn ht2)); clear hr2)
    | (go_at_call 108; (with_reducible refine H2.out.mono ?_); rintro e w3 ⟨rfl, hr3, ht3⟩))
  go_ret
  exact ⟨rfl, hr3, ht2.trans ht3⟩
set_option maxHeartbeats 2000000 in
set_option maxRecDepth 100000 in
theorem rid_s (F : Nat → Prop) (g : Nat) (st : St) (w : World) (h : RdL w g st) (hF : F g) (hn : New F w) :
    Calls Tryd.prog 87 #[.pointer (some ⟨g, 0, none⟩)] w fun e w' => e = .returned (idv (rdI st).1) ∧ RdL w' g (rdI st).2 ∧ Turn F w w' := by
  obtain ⟨w1, hw1⟩ : ∃ u, u = (w.alloc (.cells (bv zid).toArray 23)).alloc (.cells (bv zid).toArray 23) := ⟨_, rfl⟩
  obtain ⟨R, hR⟩ : ∃ S, S = w.heap.size := ⟨_, rfl⟩
  have hX : Blk w1 R 23 (bv zid).toArray := by rw [hw1, hR]; exact (Blk.new w _ _).alloc _
  have hO : Blk w1 (R + 1) 23 (bv zid).toArray := by rw [hw1, hR]; exact Blk.at_ (by simp) _ _
  have htt : Turn F w w1 := by rw [hw1]; exact ((Turn.refl F w).alloc hn _).alloc hn _
  have hgR : g < R := by rw [hR]; exact h.lt
  have hFR : F R ∧ F (R + 1) := by rw [hR]; exact ⟨hn _ (Nat.le_refl _), hn _ (Nat.le_succ _)⟩
  have hG : RdL w1 g st := by
    obtain ⟨s, e, hx, hs⟩ := h
    exact ⟨s, e, by rw [hw1]; exact Blk.alloc (Blk.alloc hx _) _, hs⟩
  have hsz : w1.heap.size = R + 2 := by rw [hw1, hR]; simp
  have hraw := lraw_s (fun k => k = g ∨ R + 2 ≤ k) g st 32 (by decide) w1.drew hG (.inl rfl) (fun k hk => .inr (by have : w1.drew.heap.size = R + 2 := hsz; omega))
  rw [show (32 : Int).toNat = 32 from rfl] at hraw
  obtain ⟨y, hy⟩ : ∃ y, y = (rd 32 st).1 := ⟨_, rfl⟩
  have hyl : y.length = 0 ∨ y.length = 32 := by rw [hy]; exact rd_len 32 st
  obtain ⟨z, hz⟩ : ∃ z, z = (rdI st).1 := ⟨_, rfl⟩
  have hzy : z = mkId y := by rw [hz, hy]; rfl
  have hz32 : z.length = 32 := by rw [hz]; exact rdI_len st
  rw [← hz]
  rw [← hy] at hraw
  have HRAW := Lib.hid hraw
  have HR := Lib.hid hR
  have HW := Lib.hid hw1
  have HX := Lib.hid hX
  have HO := Lib.hid hO
  have HTT := Lib.hid htt
  have HGR := Lib.hid hgR
  have HFR := Lib.hid hFR
  have HY := Lib.hid hyl
  have HZ := Lib.hid hzy
  have HZ32 := Lib.hid hz32
  obtain ⟨t, ht⟩ : ∃ t, t = oct.tx y := ⟨_, rfl⟩
  rw [← ht] at HRAW
  have HT := Lib.hid ht
  clear h hw1 hR hX hO htt hgR hFR hG hsz hraw hy hyl hz hzy hz32 ht
  go_enter Tryd.func87, Tryd.ntmps87
  go_upto_region 2 with fail
  refine wp_at HW.out.symm ?_
  rw [← HR.out]
  clear HW
  refine wp_region_any (by kernel_rfl) ?_
  refine' wpAny_take (i := 0) ?hizz1 (by kernel_rfl) (by kernel_rfl) (by kernel_rfl) ?hqzz1 (Or.inl ⟨?hwzz1, ?hyzz1⟩) ?hrzz1
  case hizz1 => (simp only [List.getElem?_toArray, List.getElem?_cons_succ, List.getElem?_cons_zero]; rfl)
  case hqzz1 => exact fun _ _ _ h => h
  case hwzz1 => rfl
  case hyzz1 => (intro w0; exact run_exec_slice rfl rfl (run_slice_id (R + 1) w0))
  (try simp only [Act.put, List.setIfInBounds_toArray, List.set_cons_zero, List.set_cons_succ])
  refine' wpAny_take (i := 1) ?hizz2 (by kernel_rfl) (by kernel_rfl) (by kernel_rfl) ?hqzz2 (Or.inl ⟨?hwzz2, ?hyzz2⟩) ?hrzz2
  case hizz2 => (simp only [List.getElem?_toArray, List.getElem?_cons_succ, List.getElem?_cons_zero]; rfl)
  case hqzz2 => exact fun _ _ _ h => h
  case hwzz2 => rfl
  case hyzz2 => (intro w0; go_simp; try with_reducible rfl)
  (try simp only [Act.put, List.setIfInBounds_toArray, List.set_cons_zero, List.set_cons_succ])
  refine wpAny_ready (rs := [2]) (by kernel_rfl) (by simp) ?_
  refine' AllReady.cons ?hizz3 (fun K hK => ?hrzz3) AllReady.nil
  case hizz3 => (simp only [List.getElem?_toArray, List.getElem?_cons_succ, List.getElem?_cons_zero]; rfl)
  go_simp
  (with_reducible refine HRAW.out.mono ?_)
  rintro e w2 ⟨rfl, hr2, ht2⟩
  have ht2 : Turn (fun k => k = g ∨ R + 2 ≤ k) w1 w2 := (show Turn _ w1 w1.drew from (Turn.refl _ w1).drewN 1).trans ht2
  have hO2 : Blk w2 (R + 1) 23 (bv zid).toArray := HO.out.turn ht2 (by rintro (e | e) <;> have := HGR.out <;> omega)
  have hX2 : Blk w2 R 23 (bv zid).toArray := HX.out.turn ht2 (by rintro (e | e) <;> have := HGR.out <;> omega)
  have hcp := fun ty : TypeId => Lib.run_copy_row_string (P := Tryd.prog) w2 103 9 ty 5 (R + 1) 0 32 32 t (bv zid).toArray 23 Tryd.underlying103 info_u8 hO2 (by rw [HT.out, oct.tx_size]; rcases HY.out with e | e <;> omega) (by rw [HT.out, oct.tx_size, List.size_toArray, bv_length]; rcases HY.out with e | e <;> rw [e] <;> decide)
  obtain ⟨C, hC⟩ : ∃ C, C = ((bv zid).toArray.toList.take 0 ++ Lib.byteCells t.data.toList ++ (bv zid).toArray.toList.drop (0 + t.size)).toArray := ⟨_, rfl⟩
  rw [← hC] at hcp
  have hCz : C = (bv z).toArray := by rw [hC, HT.out, oct.tx_list, oct.tx_size, byteCells_bv]; exact idcopy HY.out HZ.out
  rw [hCz] at hcp
  have hb3 := setRow_heap w2 (R + 1) _ (bv z).toArray _ _ hO2
  have hld := box_load hb3 HZ32.out 0
  have HO2 := Lib.hid hb3
  have HX3 := Lib.hid (hX2.turn (turn_row w2 (R + 1) (bv z).toArray) (by omega))
  have HT2 := Lib.hid ht2
  have HR2 := Lib.hid hr2
  clear ht2 hr2 hO2 hX2 hC hCz hb3
  refine hK _ _ ?_
  clear hK K
  (try simp only [Act.put, List.setIfInBounds_toArray, List.set_cons_zero, List.set_cons_succ])
  refine wpAny_ready (rs := [3]) (by kernel_rfl) (by simp) ?_
  refine' AllReady.cons ?hizz4 (fun K hK => ?hrzz4) AllReady.nil
  case hizz4 => (simp only [List.getElem?_toArray, List.getElem?_cons_succ, List.getElem?_cons_zero]; rfl)
  go_simp
  refine hK _ _ ?_
  clear hK K
  (try simp only [Act.put, List.setIfInBounds_toArray, List.set_cons_zero, List.set_cons_succ])
  refine wpAny_done (by kernel_rfl) ?_ _
  go_wp2_with (first
    | ((with_reducible refine step_load (t := 23) (x := .tmp 3) (p := ?lp1) (v := ?lv1) ?lg1 ?lo1 ?lx1 ?lr1 ?lh1); (case lg1 => rfl); (case lo1 => rfl); (case lx1 => rfl); (case lr1 => exact hld))
    | ((with_reducible refine step_store_id (x := .tmp 2) (y := .tmp 8) (g := ?sr1) (z := ?sz1) (y' := ?sy1) ?sg1 ?so1 ?sa1 ?sb1 ?sc1 ?sd1 ?se1 ?sh1); (case sg1 => rfl); (case so1 => rfl); (case sa1 => rfl); (case sb1 => rfl); (case sc1 => exact HX3.out); (case sd1 => exact zid_len); (case se1 => exact HZ32.out)))
  refine bodyPost_ret (results_idv rfl _ _ R _ z rfl (setRow_heap _ _ _ _ _ _ HX3.out) HZ32.out) rfl ⟨rfl, ?_, ?_⟩
  · exact (HR2.out.turn (turn_row _ (R + 1) _) (by have := HGR.out; omega)).turn (turn_row _ R _) (by have := HGR.out; omega)
  · have t1 : Turn F w1 _ := HT2.out.mono fun k hk => hk.elim (fun e => e ▸ hF) fun e => hn k (by have := HR.out; omega)
    exact ((HTT.out.trans t1).trans ((turn_row _ (R + 1) _).mono (fun k e => e ▸ HFR.out.2))).trans ((turn_row _ R _).mono (fun k e => e ▸ HFR.out.1))
end Go.Proofs.YtmaolmogccknbaaDoor.opn

namespace Go.Proofs.YtmaolmogccknbaaDoor.opn
open Go.RowKit Go.Proofs.YtmaolmogccknbaaDoor.mem Go.Proofs.YtmaolmogccknbaaDoor.sha Go.Proofs.YtmaolmogccknbaaDoor.ids

theorem lrdL_len : ∀ (n : Nat) (st : St), (rdL n st).1.length = n
  | 0, _ => rfl
  | n + 1, st => by show (_ :: _).length = _; rw [List.length_cons, lrdL_len n]
theorem lrdL_snoc : ∀ (n : Nat) (st : St), rdL (n + 1) st = ((rdL n st).1 ++ [(rdI (rdL n st).2).1], (rdI (rdL n st).2).2)
  | 0, st => rfl
  | n + 1, st => by
    have := lrdL_snoc n (rdI st).2
    show ((rdI st).1 :: (rdL (n + 1) (rdI st).2).1, (rdL (n + 1) (rdI st).2).2) = _
    rw [this]
    rfl

/-- as the landed code reads them: none, if not all are there -/
def rdS' (st : St) : List Id × St := (if (rdS st).2.2 = 0 then (rdS st).1 else [], (rdS st).2)
theorem rdS'_snd (st : St) : (rdS' st).2 = (rdS st).2 := rfl
theorem rdS'_ok (st : St) (h : (rdS st).2.2 = 0) : rdS' st = rdS st := by unfold rdS'; rw [if_pos h]
theorem rdS_le (st : St) : (rdS st).1.length ≤ 255 := by
  show (rdL (rdN 1 st).1.toNat (rdN 1 st).2).1.length ≤ 255
  rw [lrdL_len]
  have h1 := rdN1_lt st
  have h2 := rdN_nonneg 1 st
  omega
theorem rdS'_le (st : St) : (rdS' st).1.length ≤ 255 := by
  unfold rdS'
  split
  · exact rdS_le st
  · exact Nat.zero_le _
set_option maxHeartbeats 2000000 in
set_option maxRecDepth 100000 in
theorem rids_s (F : Nat → Prop) (g : Nat) (st : St) (w : World) (h : RdL w g st) (hF : F g) (hn : New F w) :
    Calls Tryd.prog 86 #[.pointer (some ⟨g, 0, none⟩)] w fun e w' => ∃ v, e = .returned v ∧ OwnI w' (w.heap.size ≤ ·) v (rdS' st).1 ∧ RdL w' g (rdS' st).2 ∧ Turn F w w' := by
  have hglt := h.lt
  have HNUM := Lib.hid (lnum1_s (fun k => k = g ∨ w.heap.size ≤ k) g st w h (.inl rfl) (fun k hk => .inr hk))
  obtain ⟨m, hm⟩ : ∃ n, n = (rdN 1 st).1 := ⟨_, rfl⟩
  obtain ⟨s1, hs1⟩ : ∃ s, s = (rdN 1 st).2 := ⟨_, rfl⟩
  obtain ⟨X, hX⟩ : ∃ X, X = (rdS' st).1 := ⟨_, rfl⟩
  have HT : Hid ((rdS' st).2 = (rdL m.toNat s1).2) := Lib.hid (by rw [hm, hs1]; rfl)
  have HXX : Hid (X = if (rdL m.toNat s1).2.2 = 0 then (rdL m.toNat s1).1 else []) := Lib.hid (by rw [hX, hm, hs1]; rfl)
  have hm0 : 0 ≤ m := by rw [hm]; exact rdN_nonneg 1 st
  have hm1 : m < 256 := by rw [hm]; exact rdN1_lt st
  rw [← hm, ← hs1] at HNUM
  rw [← hX, HT.out]
  clear hX
  obtain ⟨S, hS⟩ : ∃ S, S = w.heap.size := ⟨_, rfl⟩
  rw [← hS] at HNUM ⊢
  have HS := Lib.hid hS
  have HG := Lib.hid hglt
  have HF := Lib.hid hF
  have HN := Lib.hid hn
  clear h hm hs1 HT hS hglt hF hn
  go_enter Tryd.func86, Tryd.ntmps86
  go_wp2_with (go_at_call 54; (with_reducible refine HNUM.out.mono ?_); rintro e w2 ⟨rfl, hr2, ht2⟩; have HR2 := Lib.hid hr2; have HT2 := Lib.hid ht2; clear hr2 ht2)
  go_loopw [3, 6] (fun l i wr => ∃ k : Nat, k ≤ m.toNat ∧ i = .int .i64 (k : Int) ∧ OwnI wr (S ≤ ·) l (rdL k s1).1 ∧ RdL wr g (rdL k s1).2 ∧ Turn (fun b => b = g ∨ S ≤ b) w wr) (fun _ i _ => m.toNat - (intOf i).toNat)
  case atStart => exact ⟨0, Nat.zero_le _, rfl, OwnI.nil _ _, HR2.out, HT2.out⟩
  case round =>
    clear HNUM HR2 HT2
    obtain ⟨k, hk, rfl, ho, hr, ht⟩ := hrel
    obtain ⟨ad, cap, hvf, -, -⟩ := ho.form
    obtain ⟨l, hl⟩ : ∃ l', l' = (rdL k s1).1 := ⟨_, rfl⟩
    obtain ⟨s2, hs2⟩ : ∃ s', s' = (rdL k s1).2 := ⟨_, rfl⟩
    have hln : l.length = k := by rw [hl, lrdL_len]
    have hsn := lrdL_snoc k s1
    rw [← hl, ← hs2] at hsn
    rw [← hl] at ho
    rw [← hs2] at hr
    rw [← hl, hln] at hvf
    subst hvf
    have HSN := Lib.hid hsn
    have HO := Lib.hid ho
    have HR := Lib.hid hr
    have HT := Lib.hid ht
    have HLN := Lib.hid hln
    have HK := Lib.hid hk
    have k0 : (0 : Int) ≤ (k : Int) := Int.natCast_nonneg _
    have hsz : S ≤ wr.heap.size := by rw [HS.out]; exact ht.size
    have HSZ := Lib.hid hsz
    by_cases hlt : k < m.toNat
    · have kI : (k : Int) < m := by omega
      have HID := Lib.hid (rid_s (fun b => b = g ∨ wr.heap.size ≤ b) g s2 wr hr (.inl rfl) (fun b hb => .inr hb))
      obtain ⟨y, hy⟩ : ∃ y, y = (rdI s2).1 := ⟨_, rfl⟩
      have hy32 : y.length = 32 := by rw [hy]; exact rdI_len s2
      rw [← hy] at HID HSN
      have HY := Lib.hid hy32
      clear hsn ho hr ht hl hs2 hy hy32 hk hsz hln hlt
      go_wp2_with (first
        | (go_at_call 87; (with_reducible refine HID.out.mono ?_); rintro e w3 ⟨rfl, hr3, ht3⟩; have hng : ¬ (fun b => b = g ∨ wr.heap.size ≤ b) g → False := fun hh => hh (.inl rfl); have ho3 := HO.out.turn ht3 (fun b hb hc => by have h1 := HO.out.lt hb; have h2 : S ≤ b := HO.out.2.2 b hb; have h3 := HS.out; have h4 := HG.out; rcases hc with e | e <;> omega); obtain ⟨v4, w4, hrun, ho4, ht4⟩ := run_append_one ho3 HY.out (by have := HLN.out; have := HK.out; omega) (fun b hb => Nat.le_trans HSZ.out (Nat.le_trans ht3.size hb)) 24; have HR3 := Lib.hid hr3; have HT3 := Lib.hid ht3; have HO3 := Lib.hid ho3; have HO4 := Lib.hid ho4; have HT4 := Lib.hid ht4; clear hr3 ht3 ho3 ho4 ht4 hng HID)
        | ((with_reducible refine step_build1 (x := .tmp 10) (y := ?byrb1) ?bgrb1 ?borb1 ?bxrb1 ?blrb1 ?bhrb1); (case bgrb1 => rfl); (case borb1 => rfl); (case bxrb1 => rfl); (case blrb1 => exact HY.out))
        | ((with_reducible refine step_append (s := .tmp 8) (x := .tmp 11) (t := 24) (vs := ?asra1) (vx := ?axra1) (v' := ?avra1) (w' := ?awra1) ?agra1 ?aora1 ?apra1 ?aqra1 ?arra1 ?ahra1); (case agra1 => rfl); (case aora1 => rfl); (case apra1 => rfl); (case aqra1 => rfl); (case arra1 => exact hrun)))
      go_roundw
      case rel =>
        have hg4 : ∀ b, (Value.slice ad k cap).ownBlock = some b ∨ w3.heap.size ≤ b → b ≠ g ∧ S ≤ b := fun b hb => by
          have h3 := HS.out; have h4 := HG.out; have h5 := HSZ.out; have h6 := HT3.out.size
          rcases hb with hb | hb
          · have h2 : S ≤ b := HO3.out.2.2 b hb
            omega
          · omega
        refine ⟨k + 1, by omega, by push_cast; rfl, ?_, ?_, ?_⟩
        · rw [HSN.out]; exact HO4.out
        · rw [HSN.out]; exact HR3.out.turn HT4.out fun hb => (hg4 g hb).1 rfl
        · exact (HT.out.trans (HT3.out.mono fun b hb => hb.imp id fun h => Nat.le_trans HSZ.out h)).trans (HT4.out.mono fun b hb => .inr (hg4 b hb).2)
      case measure => simp [intOf]; omega
    · obtain rfl : k = m.toNat := by omega
      have kI : m ≤ ((m.toNat : Nat) : Int) := by omega
      have HL := Lib.hid hl
      have HS2 := Lib.hid hs2
      have HER := Lib.hid (lerr_s g s2 wr hr)
      obtain ⟨er, her⟩ : ∃ e, e = s2.2 := ⟨_, rfl⟩
      rw [← her] at HER
      have HQ := Lib.hid her
      clear hlt hsn ho hr ht hl hs2 hk hsz hln her
      by_cases h0 : er = 0
      · subst h0
        go_wp2_with (go_at_call 55; (with_reducible refine HER.out.mono ?_); rintro e w3 ⟨rfl, rfl⟩)
        go_ret
        refine ⟨_, rfl, ?_, HS2.out ▸ HR.out, HT.out.mono fun b hb => ?_⟩
        · rw [HXX.out, ← HL.out, ← HS2.out, if_pos HQ.out.symm]; exact HO.out
        · rcases hb with e | e
          · exact e ▸ HF.out
          · exact HN.out b (by have := HS.out; omega)
      · have hne : (er != 0) = true := bne_iff_ne.2 h0
        have HNE := Lib.hid h0
        clear h0
        go_wp2_with (go_at_call 55; (with_reducible refine HER.out.mono ?_); rintro e w3 ⟨rfl, rfl⟩)
        go_ret
        refine ⟨_, rfl, ?_, HS2.out ▸ HR.out, HT.out.mono fun b hb => ?_⟩
        · rw [HXX.out, ← HS2.out, if_neg (by rw [← HQ.out]; exact HNE.out)]; exact OwnI.nil _ _
        · rcases hb with e | e
          · exact e ▸ HF.out
          · exact HN.out b (by have := HS.out; omega)
end Go.Proofs.YtmaolmogccknbaaDoor.opn
