/-
  The walk of ShaLong.
-/
import Derived.Test.YtjpbhnflhejbpaaDoorLaw
import Derived.Deep.RegionHeld3
import Derived.Laws.IdiomStrings
namespace Go.Proofs.YtjpbhnflhejbpaaDoor.sha
open Go.RowKit Go.Proofs.YtjpbhnflhejbpaaDoor.mem

/-- a row of k bytes, the first i of them c -/
def lrow (c : UInt8) (k i : Nat) : List UInt8 := List.replicate i c ++ List.replicate (k - i) 0
theorem lrow_len (c : UInt8) (k i : Nat) (h : i ≤ k) : (lrow c k i).length = k := by
  unfold lrow; rw [List.length_append, List.length_replicate, List.length_replicate]; omega
theorem lrow_set (c : UInt8) (k i : Nat) (h : i < k) : (lrow c k i).set i c = lrow c k (i + 1) := by
  unfold lrow
  have e : k - i = (k - (i + 1)) + 1 := by omega
  rw [e, List.replicate_succ, List.set_append_right _ _ (by rw [List.length_replicate]; exact Nat.le_refl _), List.length_replicate, Nat.sub_self, List.set_cons_zero, List.replicate_succ', List.append_assoc]
  rfl
theorem lrow_end (c : UInt8) (k : Nat) : lrow c k k = List.replicate k c := by unfold lrow; rw [Nat.sub_self, List.replicate_zero, List.append_nil]

theorem run_make_k (k : Nat) (hk : k < 600) (w : World) : (Instr.makeSlice 35 (.int .i64 (k : Int)) (.int .i64 (k : Int))).run Tryd.prog w =
    .ok (.slice (some ⟨w.heap.size, 0, none⟩) k k) (w.alloc (.cells (bv (lrow 0 k 0)).toArray 5)) := by
  obtain ⟨i0, hi, hz0, hz1, hz2⟩ := info_parts info5
  have h := run_make (P := Tryd.prog) (w := w) 35 5 i0 (.int .u8 0) Tryd.underlying35 hi hz0 .i64 .i64 (k : Int) (k : Int) (by omega) (by omega) (by rw [hz2]; omega) (by omega)
  have e1 : madeCells (Value.int .u8 0).cells (k * 1) = (bv (lrow 0 k 0)).toArray := by
    apply Array.ext'
    unfold madeCells lrow bv
    rw [Nat.mul_one]
    simp [Value.cells]
    refine List.ext_getElem (by simp) fun i h1 h2 => ?_
    simp [Nat.mod_one]
    rfl
  rw [h, hz1, Int.toNat_natCast, e1]

/-- 'string(b[o:o+n])' of a row of one byte over and over -/
theorem run_str (w : World) (S o n c k : Nat) (x : UInt8) (h : Blk w S 5 (bv (List.replicate k x)).toArray) (hn : o + n ≤ k) :
    (convert 35 9 (.slice (some ⟨S, o, none⟩) n c)).run Tryd.prog w = .ok (.string ⟨(List.replicate n x).toArray⟩) w := by
  have hh := run_convert_bytes_back (P := Tryd.prog) w 35 9 5 ⟨S, o, none⟩ c (List.replicate n x) Tryd.underlying35 Tryd.underlying5 Tryd.underlying9 (fun j hj => by
    rw [List.length_replicate] at hj
    rw [Addr.add_lit, h.cell, List.getElem?_toArray, bv_get _ _ (by rw [List.length_replicate]; omega)]
    rw [List.getD_eq_getElem?_getD, List.getElem?_replicate_of_lt (by omega), List.getElem_replicate]
    rfl)
  rw [List.length_replicate] at hh
  exact hh
theorem run_slice_lo (w : World) (S n : Nat) (J : Int) (j : Nat) (hJ : J = (j : Int)) (hj : j ≤ n) : (Instr.sliceAt 35 (.slice (some ⟨S, 0, none⟩) n n) none (some (.int .i64 J)) none).run Tryd.prog w =
    .ok (.slice (some ⟨S, 0, none⟩) j n) w := by
  subst hJ
  obtain ⟨y, hy, _, hs, _⟩ := info_parts info5
  have h0 : (0 : Int) ≤ (j : Int) := Int.natCast_nonneg _
  have h1 : (j : Int) ≤ (n : Int) := by omega
  simp only [Instr.sliceAt, Instr.slice, Instr.sliceBounds, Instr.sliceBound, asIntOf, sizeOf, typeInfo, Sem.run_bind, Sem.run_pure, Result.andThen_ok, run_underlying Tryd.underlying35]
  rw [if_pos ⟨h0, h1⟩]
  simp [hy, hs, Addr.add]
theorem run_slice_hi (w : World) (S n : Nat) (J : Int) (j : Nat) (hJ : J = (j : Int)) (hj : j ≤ n) (hn : n = 0 ∨ j < n) : (Instr.sliceAt 35 (.slice (some ⟨S, 0, none⟩) n n) (some (.int .i64 J)) none none).run Tryd.prog w =
    .ok (.slice (some ⟨S, j, none⟩) (n - j) (n - j)) w := by
  subst hJ
  obtain ⟨y, hy, _, hs, _⟩ := info_parts info5
  have h0 : (0 : Int) ≤ (j : Int) := Int.natCast_nonneg _
  have h1 : (j : Int) ≤ (n : Int) := by omega
  simp only [Instr.sliceAt, Instr.slice, Instr.sliceBounds, Instr.sliceBound, asIntOf, sizeOf, typeInfo, Sem.run_bind, Sem.run_pure, Result.andThen_ok, run_underlying Tryd.underlying35]
  rw [if_pos ⟨h0, h1⟩]
  rcases hn with rfl | hn
  · obtain rfl : j = 0 := by omega
    simp [hy, hs, Addr.add]
  · have h2 : ¬ n = j := by omega
    simp [hy, hs, Addr.add, h2]
    try (intro h; omega)

theorem run_exec_convert {ρ : Operand → Value} {o : Oper} {s t : TypeId} {x : Operand} {vx v : Value} {w : World} (ho : o.op = .convert s t x) (hx : ρ x = vx) (h : (convert s t vx).run Tryd.prog w = .ok v w) : (execOp ρ o).run Tryd.prog w = .ok (.value v) w := by
  unfold execOp
  simp [ho, hx, h]
theorem rsum_of (l : List UInt8) (w : World) (h : l.length ≤ 1000000) : Calls Tryd.prog 9 #[.string ⟨l.toArray⟩] w fun e w' => e = .returned (.agg (bv (digest l)).toArray) ∧ Below w.heap.size w w' := rsum_any ⟨l.toArray⟩ w h
theorem sum_of (l : List UInt8) (w : World) (hT : Tab w) (h : l.length ≤ 549755813888) : Calls Tryd.prog 8 #[.string ⟨l.toArray⟩] w fun e w' => e = .returned (.agg (bv (digest l)).toArray) ∧ Below w.heap.size w w' := sum_any ⟨l.toArray⟩ w hT h
theorem write_of (g : Nat) (l m : List UInt8) (w : World) (h : HashIs w g l) (hT : Tab w) (hg : 2 ≤ g) (hl : l.length + m.length ≤ 1099511627776) :
    Calls Tryd.prog 11 #[.pointer (some ⟨g, 0, none⟩), .string ⟨m.toArray⟩] w fun e w' => e = .returned (.int .i64 ((⟨m.toArray⟩ : ByteArray).size : Int)) ∧ HashIs w' g (l ++ m) ∧ Turn (fun k => k = g ∨ w.heap.size ≤ k) w w' := write_any g l ⟨m.toArray⟩ w h hT hg hl
/-- what the last statement of ShaLong keeps -/
def LS (w0 : World) (g S n : Nat) (c : UInt8) (w : World) : Prop := HashIs w g (List.replicate n c) ∧ Blk w S 5 (bv (List.replicate n c)).toArray ∧ Tab w ∧ Below w0.heap.size w0 w
theorem LS.next {w0 w w' : World} {g S n : Nat} {c : UInt8} (h : LS w0 g S n c w) (hb : Below w.heap.size w w') : LS w0 g S n c w' :=
  ⟨h.1.next hb, h.2.1.below hb h.2.1.lt, h.2.2.1.next hb, h.2.2.2.trans (hb.mono h.2.2.2.size)⟩
theorem LS.drew {w0 w : World} {g S n : Nat} {c : UInt8} (h : LS w0 g S n c w) : LS w0 g S n c w.drew := ⟨h.1, h.2.1, h.2.2.1, h.2.2.2.drew⟩

set_option maxHeartbeats 1000000 in
set_option maxRecDepth 100000 in
theorem long_walk (a0 a1 : Int) (w : World) (hT : Tab w) (h0 : 0 ≤ a0) (h1 : a0 ≤ 255) (h2 : 0 ≤ a1) (h3 : a1 ≤ 65535) : Calls Tryd.prog 5 #[.int .u8 a0, .int .u16 a1] w fun e w' => e = .returned (.bool true) ∧ Below w.heap.size w w' := by
  obtain ⟨c, hc⟩ : ∃ c : UInt8, a0 = B c := ⟨UInt8.ofNat a0.toNat, by rw [B_ofNat]; omega⟩
  subst hc
  obtain ⟨k, hk⟩ : ∃ k : Nat, a1 % 600 = (k : Int) := ⟨(a1 % 600).toNat, by omega⟩
  have hk6 : k < 600 := by omega
  have kI : (k : Int) < 600 := by omega
  have k0 : (0 : Int) ≤ (k : Int) := Int.natCast_nonneg _
  have hmk := run_make_k k hk6
  obtain ⟨S, hS⟩ : ∃ S, S = w.heap.size := ⟨_, rfl⟩
  obtain ⟨w1, hw1⟩ : ∃ x, x = w.alloc (.cells (bv (lrow 0 k 0)).toArray 5) := ⟨_, rfl⟩
  have HB1 : Hid (Below w.heap.size w w1) := Lib.hid (by rw [hw1]; exact (Below.refl _ _).alloc (Nat.le_refl _) _)
  have HS1 : Hid (Blk w1 S 5 (bv (lrow c k 0)).toArray) := Lib.hid (by rw [hw1, hS]; exact Blk.new _ _ _)
  have HT := Lib.hid hT
  have HW1 := Lib.hid hw1
  have HSS := Lib.hid hS
  clear hT hw1 hS
  go_enter Tryd.func5, Tryd.ntmps5
  go_upto_region 3 with fail
  refine wp_at HW1.out.symm ?_
  rw [← HSS.out]
  clear HW1 hmk hk h0 h1 h2 h3
  go_wp2_with fail
  go_loopw [7] (fun v wr => ∃ i : Nat, i ≤ k ∧ v = .int .i64 i ∧ Blk wr S 5 (bv (lrow c k i)).toArray ∧ Below w.heap.size w wr) (fun v _ => k - (intOf v).toNat)
  case atStart => exact ⟨0, Nat.zero_le _, rfl, HS1.out, HB1.out⟩
  case round =>
    clear HS1 HB1
    obtain ⟨i, hi, rfl, hS, hB⟩ := hrel
    have HS := Lib.hid hS
    have HB := Lib.hid hB
    by_cases hlt : i < k
    · have i0 : (0 : Int) ≤ (i : Int) := Int.natCast_nonneg _
      have i1 : (i : Int) < (k : Int) := by omega
      obtain ⟨cv, cw⟩ : ∃ v, wr.cell? ⟨S, i, none⟩ = some v := ⟨_, by rw [hS.cell, List.getElem?_toArray]; exact bv_get _ _ (by rw [lrow_len _ _ _ hi]; exact hlt)⟩
      have fw : wr.frozen? ⟨S, i, none⟩ = false := hS.frozen _
      clear hS hB
      go_wp2_with fail
      go_roundw
      case rel => exact ⟨i + 1, by omega, by push_cast; rfl, lrow_set c k i hlt ▸ blk_bset HS.out i c, HB.out.setCell (p := ⟨S, i, none⟩) (by show w.heap.size ≤ S; rw [HSS.out]; exact Nat.le_refl _) _⟩
      case measure => simp [intOf]; omega
    · obtain rfl : i = k := by omega
      rw [lrow_end] at hS
      have HS := Lib.hid hS
      have HT2 := Lib.hid (HT.out.next hB)
      clear hS hB hlt hi
      go_wp2_with fail
      refine (new_any _ HT2.out).mono ?_; rintro e w2 ⟨rfl, hh2, hb2⟩
      obtain ⟨g, hg⟩ : ∃ g, g = wr.heap.size := ⟨_, rfl⟩
      rw [← hg] at hh2 ⊢
      have hgS : S < g := by rw [hg]; exact HS.out.lt
      have h2g : 2 ≤ g := by rw [hg]; exact HT2.out.1
      have hwg : w.heap.size ≤ g := by rw [hg]; exact HB.out.size
      have HSG := Lib.hid hgS
      have H2G := Lib.hid h2g
      have HWG := Lib.hid hwg
      have HS2 := Lib.hid (HS.out.below hb2 HS.out.lt)
      have HT3 := Lib.hid (HT2.out.next hb2)
      have HB2 := Lib.hid (HB.out.trans (hb2.mono HB.out.size))
      have HH2 := Lib.hid hh2
      clear hh2 hb2 hg hgS h2g hwg HS HB HT2
      obtain ⟨j, hj⟩ : ∃ j, j = i / 2 := ⟨_, rfl⟩
      have hq : (i : Int) / 2 = (j : Int) := by omega
      have hji : j ≤ i := by omega
      have hjn : i = 0 ∨ j < i := by omega
      have j0 : (0 : Int) ≤ (j : Int) := Int.natCast_nonneg _
      have jI : (j : Int) ≤ (i : Int) := by omega
      clear hj
      have hs1 := fun u : World => run_slice_lo u S i (j : Int) j rfl hji
      have hs2 := fun u : World => run_slice_lo u S i ((i : Int) / 2) j hq hji
      have hs3 := fun u : World => run_slice_hi u S i (j : Int) j rfl hji hjn
      have hs4 := fun u : World => run_slice_hi u S i ((i : Int) / 2) j hq hji hjn
      have hc1 := run_str w2 S 0 j i i c HS2.out (by omega)
      go_wp2_with fail
      refine (write_of g [] (List.replicate j c) _ HH2.out HT3.out H2G.out (by rw [List.length_replicate, List.length_nil]; omega)).mono ?_; rintro e w4 ⟨rfl, hh4, ht4⟩
      have hb4 : Below w.heap.size w w4 := HB2.out.trans (ht4.below fun k hk => by
        rcases hk with e | e
        · rw [e]; exact HWG.out
        · exact Nat.le_trans HB2.out.size e)
      have hS4 : Blk w4 S 5 (bv (List.replicate i c)).toArray := HS2.out.turn ht4 (by
        rintro (e | e)
        · have := HSG.out; omega
        · have := HS2.out.lt; omega)
      have HT4 := Lib.hid (HT.out.next hb4)
      have HB4 := Lib.hid hb4
      have HS4 := Lib.hid hS4
      have HH4 := Lib.hid hh4
      clear hc1 hb4 hS4 hh4 ht4 HH2 HT3 HB2 HS2
      have hc2 := run_str w4 S j (i - j) (i - j) i c HS4.out (by omega)
      go_wp2_with fail
      refine (write_of g _ (List.replicate (i - j) c) _ HH4.out HT4.out H2G.out (by rw [List.length_append, List.length_replicate, List.length_replicate, List.length_nil]; omega)).mono ?_; rintro e w5 ⟨rfl, hh5, ht5⟩
      have hb5 : Below w.heap.size w w5 := HB4.out.trans (ht5.below fun k hk => by
        rcases hk with e | e
        · rw [e]; exact HWG.out
        · exact Nat.le_trans HB4.out.size e)
      have hS5 : Blk w5 S 5 (bv (List.replicate i c)).toArray := HS4.out.turn ht5 (by
        rintro (e | e)
        · have := HSG.out; omega
        · have := HS4.out.lt; omega)
      have hh6 : HashIs w5 g (List.replicate i c) := by
        have e : [] ++ List.replicate j c ++ List.replicate (i - j) c = List.replicate i c := by rw [List.nil_append, List.replicate_append_replicate]; congr 1; omega
        rw [← e]; exact hh5
      have HLS : Hid (LS w g S i c w5) := Lib.hid ⟨hh6, hS5, HT.out.next hb5, hb5⟩
      have he1 := fun u : World => eql_same u (List.replicate i c)
      clear hc2 hb5 hS5 hh5 hh6 ht5 HT4 HB4 HS4 HH4 hs1 hs2 hs3 hs4
      go_wp2_with fail
      refine wp_region_held_drew (S := LS w g S i c) (by kernel_rfl) ?_ (fun hHeld => ?_)
      · exact HLS.out.drew
      refine' wpAnyH_take (i := 0) ?hiz0 (by kernel_rfl) (by kernel_rfl) (by kernel_rfl) ?hqz0 (Or.inl ⟨?hwz0, ?hyz0⟩) (by assumption) ?hrz0
      case hiz0 => (simp only [List.getElem?_toArray, List.getElem?_cons_succ, List.getElem?_cons_zero]; rfl)
      case hqz0 => exact fun _ _ _ h => h
      case hwz0 => rfl
      case hyz0 => (intro w0 hSw; clear hSw; go_simp; try with_reducible rfl)
      (try simp only [Act.put, List.setIfInBounds_toArray, List.set_cons_zero, List.set_cons_succ])
      refine' wpAnyH_take (i := 2) ?hiz2 (by kernel_rfl) (by kernel_rfl) (by kernel_rfl) ?hqz2 (Or.inl ⟨?hwz2, ?hyz2⟩) (by assumption) ?hrz2
      case hiz2 => (simp only [List.getElem?_toArray, List.getElem?_cons_succ, List.getElem?_cons_zero]; rfl)
      case hqz2 => exact fun _ _ _ h => h
      case hwz2 => rfl
      case hyz2 => (intro w0 hSw; clear hSw; go_simp; try with_reducible rfl)
      (try simp only [Act.put, List.setIfInBounds_toArray, List.set_cons_zero, List.set_cons_succ])
      refine' wpAnyH_take (i := 3) ?hiz3 (by kernel_rfl) (by kernel_rfl) (by kernel_rfl) ?hqz3 (Or.inl ⟨?hwz3, ?hyz3⟩) (by assumption) ?hrz3
      case hiz3 => (simp only [List.getElem?_toArray, List.getElem?_cons_succ, List.getElem?_cons_zero]; rfl)
      case hqz3 => exact fun _ _ _ h => h
      case hwz3 => rfl
      case hyz3 => exact fun w0 hSw => run_exec_convert rfl rfl (run_str w0 S 0 i i i c hSw.2.1 (by omega))
      (try simp only [Act.put, List.setIfInBounds_toArray, List.set_cons_zero, List.set_cons_succ])
      refine wpAnyH_ready (rs := [1]) (by kernel_rfl) (by simp) ?_
      refine' AllReadyH.cons ?hiz1 (fun K hK => ?hrz1) AllReadyH.nil
      case hiz1 => (simp only [List.getElem?_toArray, List.getElem?_cons_succ, List.getElem?_cons_zero]; rfl)
      go_simp
      (refine (hsum_any g (List.replicate i c) _ hHeld.1 hHeld.2.2.1 (by rw [List.length_replicate]; omega)).mono ?_; rintro e wA ⟨rfl, hbA⟩)
      have hNx := hHeld.next hbA
      clear hHeld hbA
      refine hK.out _ _ hNx (fun hHeld => ?_)
      clear hNx
      clear hK K
      (try simp only [Act.put, List.setIfInBounds_toArray, List.set_cons_zero, List.set_cons_succ])
      refine wpAnyH_ready (rs := [4]) (by kernel_rfl) (by simp) ?_
      refine' AllReadyH.cons ?hiz4 (fun K hK => ?hrz4) AllReadyH.nil
      case hiz4 => (simp only [List.getElem?_toArray, List.getElem?_cons_succ, List.getElem?_cons_zero]; rfl)
      go_simp
      (refine (rsum_of (List.replicate i c) _ (by rw [List.length_replicate]; omega)).mono ?_; rintro e wA ⟨rfl, hbA⟩)
      have hNx := hHeld.next hbA
      clear hHeld hbA
      refine hK.out _ _ hNx (fun hHeld => ?_)
      clear hNx
      clear hK K
      (try simp only [Act.put, List.setIfInBounds_toArray, List.set_cons_zero, List.set_cons_succ])
      refine' wpAnyH_take (i := 5) ?hiz5 (by kernel_rfl) (by kernel_rfl) (by kernel_rfl) ?hqz5 (Or.inl ⟨?hwz5, ?hyz5⟩) (by assumption) ?hrz5
      case hiz5 => (simp only [List.getElem?_toArray, List.getElem?_cons_succ, List.getElem?_cons_zero]; rfl)
      case hqz5 => exact fun _ _ _ h => h
      case hwz5 => rfl
      case hyz5 => (intro w0 hSw; clear hSw; go_simp; try with_reducible rfl)
      (try simp only [Act.put, List.setIfInBounds_toArray, List.set_cons_zero, List.set_cons_succ])
      refine' wpAnyH_take (i := 6) ?hiz6 (by kernel_rfl) (by kernel_rfl) (by kernel_rfl) ?hqz6 (Or.inl ⟨?hwz6, ?hyz6⟩) (by assumption) ?hrz6
      case hiz6 => (simp only [List.getElem?_toArray, List.getElem?_cons_succ, List.getElem?_cons_zero]; rfl)
      case hqz6 => exact fun _ _ _ h => h
      case hwz6 => rfl
      case hyz6 => (intro w0 hSw; clear hSw; go_simp; try with_reducible rfl)
      (try simp only [Act.put, List.setIfInBounds_toArray, List.set_cons_zero, List.set_cons_succ])
      refine' wpAnyH_take (i := 7) ?hiz7 (by kernel_rfl) (by kernel_rfl) (by kernel_rfl) ?hqz7 (Or.inl ⟨?hwz7, ?hyz7⟩) (by assumption) ?hrz7
      case hiz7 => (simp only [List.getElem?_toArray, List.getElem?_cons_succ, List.getElem?_cons_zero]; rfl)
      case hqz7 => exact fun _ _ _ h => h
      case hwz7 => rfl
      case hyz7 => (intro w0 hSw; clear hSw; go_simp; try with_reducible rfl)
      (try simp only [Act.put, List.setIfInBounds_toArray, List.set_cons_zero, List.set_cons_succ])
      refine' wpAnyH_take (i := 8) ?hiz8 (by kernel_rfl) (by kernel_rfl) (by kernel_rfl) ?hqz8 (Or.inl ⟨?hwz8, ?hyz8⟩) (by assumption) ?hrz8
      case hiz8 => (simp only [List.getElem?_toArray, List.getElem?_cons_succ, List.getElem?_cons_zero]; rfl)
      case hqz8 => exact fun _ _ _ h => h
      case hwz8 => rfl
      case hyz8 => exact fun w0 hSw => run_exec_convert rfl rfl (run_str w0 S 0 i i i c hSw.2.1 (by omega))
      (try simp only [Act.put, List.setIfInBounds_toArray, List.set_cons_zero, List.set_cons_succ])
      refine' wpAnyH_take (i := 10) ?hiz10 (by kernel_rfl) (by kernel_rfl) (by kernel_rfl) ?hqz10 (Or.inl ⟨?hwz10, ?hyz10⟩) (by assumption) ?hrz10
      case hiz10 => (simp only [List.getElem?_toArray, List.getElem?_cons_succ, List.getElem?_cons_zero]; rfl)
      case hqz10 => exact fun _ _ _ h => h
      case hwz10 => rfl
      case hyz10 => (intro w0 hSw; clear hSw; go_simp; try with_reducible rfl)
      (try simp only [Act.put, List.setIfInBounds_toArray, List.set_cons_zero, List.set_cons_succ])
      refine wpAnyH_ready (rs := [9]) (by kernel_rfl) (by simp) ?_
      refine' AllReadyH.cons ?hiz9 (fun K hK => ?hrz9) AllReadyH.nil
      case hiz9 => (simp only [List.getElem?_toArray, List.getElem?_cons_succ, List.getElem?_cons_zero]; rfl)
      go_simp
      (refine (sum_of (List.replicate i c) _ hHeld.2.2.1 (by rw [List.length_replicate]; omega)).mono ?_; rintro e wA ⟨rfl, hbA⟩)
      have hNx := hHeld.next hbA
      clear hHeld hbA
      refine hK.out _ _ hNx (fun hHeld => ?_)
      clear hNx
      clear hK K
      (try simp only [Act.put, List.setIfInBounds_toArray, List.set_cons_zero, List.set_cons_succ])
      refine wpAnyH_ready (rs := [11]) (by kernel_rfl) (by simp) ?_
      refine' AllReadyH.cons ?hiz11 (fun K hK => ?hrz11) AllReadyH.nil
      case hiz11 => (simp only [List.getElem?_toArray, List.getElem?_cons_succ, List.getElem?_cons_zero]; rfl)
      go_simp
      (refine (hsum_any g (List.replicate i c) _ hHeld.1 hHeld.2.2.1 (by rw [List.length_replicate]; omega)).mono ?_; rintro e wA ⟨rfl, hbA⟩)
      have hNx := hHeld.next hbA
      clear hHeld hbA
      refine hK.out _ _ hNx (fun hHeld => ?_)
      clear hNx
      clear hK K
      (try simp only [Act.put, List.setIfInBounds_toArray, List.set_cons_zero, List.set_cons_succ])
      refine' wpAnyH_take (i := 12) ?hiz12 (by kernel_rfl) (by kernel_rfl) (by kernel_rfl) ?hqz12 (Or.inl ⟨?hwz12, ?hyz12⟩) (by assumption) ?hrz12
      case hiz12 => (simp only [List.getElem?_toArray, List.getElem?_cons_succ, List.getElem?_cons_zero]; rfl)
      case hqz12 => exact fun _ _ _ h => h
      case hwz12 => rfl
      case hyz12 => (intro w0 hSw; clear hSw; go_simp; try with_reducible rfl)
      (try simp only [Act.put, List.setIfInBounds_toArray, List.set_cons_zero, List.set_cons_succ])
      refine' wpAnyH_take (i := 13) ?hiz13 (by kernel_rfl) (by kernel_rfl) (by kernel_rfl) ?hqz13 (Or.inl ⟨?hwz13, ?hyz13⟩) (by assumption) ?hrz13
      case hiz13 => (simp only [List.getElem?_toArray, List.getElem?_cons_succ, List.getElem?_cons_zero]; rfl)
      case hqz13 => exact fun _ _ _ h => h
      case hwz13 => rfl
      case hyz13 => (intro w0 hSw; clear hSw; go_simp; try with_reducible rfl)
      (try simp only [Act.put, List.setIfInBounds_toArray, List.set_cons_zero, List.set_cons_succ])
      refine' wpAnyH_take (i := 14) ?hiz14 (by kernel_rfl) (by kernel_rfl) (by kernel_rfl) ?hqz14 (Or.inl ⟨?hwz14, ?hyz14⟩) (by assumption) ?hrz14
      case hiz14 => (simp only [List.getElem?_toArray, List.getElem?_cons_succ, List.getElem?_cons_zero]; rfl)
      case hqz14 => exact fun _ _ _ h => h
      case hwz14 => rfl
      case hyz14 => (intro w0 hSw; clear hSw; go_simp; try with_reducible rfl)
      (try simp only [Act.put, List.setIfInBounds_toArray, List.set_cons_zero, List.set_cons_succ])
      refine wpAnyH_ready (rs := [15]) (by kernel_rfl) (by simp) ?_
      refine' AllReadyH.cons ?hiz15 (fun K hK => ?hrz15) AllReadyH.nil
      case hiz15 => (simp only [List.getElem?_toArray, List.getElem?_cons_succ, List.getElem?_cons_zero]; rfl)
      go_simp
      (refine (awake_any _ hHeld.2.2.1).mono ?_; rintro e wA ⟨rfl, hbA⟩)
      have hNx := hHeld.next hbA
      clear hHeld hbA
      refine hK.out _ _ hNx (fun hHeld => ?_)
      clear hNx
      clear hK K
      (try simp only [Act.put, List.setIfInBounds_toArray, List.set_cons_zero, List.set_cons_succ])
      refine' wpAnyH_take (i := 16) ?hiz16 (by kernel_rfl) (by kernel_rfl) (by kernel_rfl) ?hqz16 (Or.inl ⟨?hwz16, ?hyz16⟩) (by assumption) ?hrz16
      case hiz16 => (simp only [List.getElem?_toArray, List.getElem?_cons_succ, List.getElem?_cons_zero]; rfl)
      case hqz16 => exact fun _ _ _ h => h
      case hwz16 => rfl
      case hyz16 => (intro w0 hSw; clear hSw; go_simp; try with_reducible rfl)
      (try simp only [Act.put, List.setIfInBounds_toArray, List.set_cons_zero, List.set_cons_succ])
      refine' wpAnyH_take (i := 17) ?hiz17 (by kernel_rfl) (by kernel_rfl) (by kernel_rfl) ?hqz17 (Or.inl ⟨?hwz17, ?hyz17⟩) (by assumption) ?hrz17
      case hiz17 => (simp only [List.getElem?_toArray, List.getElem?_cons_succ, List.getElem?_cons_zero]; rfl)
      case hqz17 => exact fun _ _ _ h => h
      case hwz17 => rfl
      case hyz17 => (intro w0 hSw; clear hSw; go_simp; try with_reducible rfl)
      (try simp only [Act.put, List.setIfInBounds_toArray, List.set_cons_zero, List.set_cons_succ])
      refine wpAnyH_done (by kernel_rfl) ?_ _
      go_wp2_with fail
      go_ret
      exact ⟨rfl, hHeld.2.2.2⟩
end Go.Proofs.YtjpbhnflhejbpaaDoor.sha
