/-
  slices.Index, slices.Contains, ident.Has.
-/
import Derived.Test.YtfcoecojjciphaaIsf
namespace Go.Proofs.Ytfcoecojjciphaa.ids
open Go.RowKit Go.Proofs.Ytfcoecojjciphaa.mem Go.Proofs.Ytfcoecojjciphaa.sha Go.Proofs.Ytfcoecojjciphaa.srt

theorem eql_run (w : World) (x y : List UInt8) (hx : x.length = 32) (hy : y.length = 32) {r : Bool} (hr : (x == y) = r) : (binOp .eql 23 (.agg (bv x).toArray) (.agg (bv y).toArray)).run Try.prog w = .ok (.bool r) w := by
  rw [← hr]; exact eql_ids w x y hx hy
/-- where the id stands first; -1: nowhere -/
def ixL (L : List (List UInt8)) (x : List UInt8) (z : Int) : Prop := (z < 0 → L.contains x = false) ∧ (0 ≤ z → L.contains x = true)

set_option maxHeartbeats 2000000 in
set_option maxRecDepth 100000 in
theorem index_any (L : List (List UInt8)) (x : List UInt8) (v : Value) (w : World) (hR : RdV w v L) (hx : x.length = 32) (hm : L.length ≤ 1000000) :
    Calls Try.prog 51 #[v, .agg (bv x).toArray] w fun e w' => ∃ z : Int, e = .returned (.int .i64 z) ∧ Hid (ixL L x z) ∧ Below w.heap.size w w' := by
  obtain ⟨ad, cap, rfl⟩ := hR.form
  obtain ⟨w1, hw1⟩ : ∃ u, u = w.alloc (.cells (bv x).toArray 23) := ⟨_, rfl⟩
  obtain ⟨S, hS⟩ : ∃ S, S = w.heap.size := ⟨_, rfl⟩
  have hb1 : Below w.heap.size w w1 := by rw [hw1]; exact (Below.refl _ _).alloc (Nat.le_refl _) _
  have HS := Lib.hid (show FdS (.slice ad L.length cap) L S x w w1 from ⟨hR.next hb1, by rw [hw1, hS]; exact Blk.new w _ _, hb1⟩)
  have HW := Lib.hid hw1
  have HSS := Lib.hid hS
  have HOK := Lib.hid hR.ok
  have HXL := Lib.hid hx
  clear hR hw1 hS hb1 hx
  go_enter Try.func51, Try.ntmps51
  go_upto_region 1 with fail
  refine wp_at HW.out.symm ?_
  rw [← HSS.out]
  clear HW
  go_wp2_with fail
  go_loopg [5, 8] L.length (fun gk s5 s8 wr => ∃ i : Nat, s8 = .int .i64 i ∧ i ≤ L.length ∧ L.length - i ≤ gk ∧ Hid (∀ m, m < i → ¬ L.getD m [] = x) ∧ Hid (FdS (.slice ad L.length cap) L S x w wr))
  case atStart => exact ⟨0, rfl, Nat.zero_le _, by omega, Lib.hid fun m hm => by omega, HS⟩
  case round =>
    obtain ⟨i, rfl, hiL, hgk, HN, HS2⟩ := hrel
    clear HS
    have i0 : (0 : Int) ≤ (i : Int) := Int.natCast_nonneg _
    by_cases hlt : i < L.length
    · have hltz : (i : Int) < (L.length : Int) := by omega
      obtain ⟨b, off, rfl, -, -, -⟩ := HS2.out.rd.load (i := i) (by omega)
      obtain ⟨y, hy⟩ : ∃ y, y = L.getD i [] := ⟨_, rfl⟩
      have hy32 : y.length = 32 := by rw [hy]; exact HOK.out.get (by omega)
      have HY := Lib.hid hy.symm
      have HIN : Hid (x = y → L.contains x = true) := Lib.hid fun h => by
        rw [List.contains_iff_mem, h, hy, List.getD_eq_getElem?_getD, List.getElem?_eq_getElem hlt]
        exact List.getElem_mem _
      clear hy
      obtain ⟨r, hr⟩ : ∃ r, (x == y) = r := ⟨_, rfl⟩
      have HR := Lib.hid hr
      clear hr
      go_upto_region 4 with fail
      refine wp_region_held_drew (S := FdS (.slice (some ⟨b, off, none⟩) L.length cap) L S x w) (by kernel_rfl) ?_ (fun hHeld => ?_)
      · exact HS2.out.next ((Below.refl _ _).drew)
      refine' wpAnyH_take (i := 0) ?hiix0 (by kernel_rfl) (by kernel_rfl) (by kernel_rfl) ?hqix0 (Or.inl ⟨?hwix0, ?hyix0⟩) (by assumption) ?hrix0
      case hiix0 => (simp only [List.getElem?_toArray, List.getElem?_cons_succ, List.getElem?_cons_zero]; rfl)
      case hqix0 => exact fun _ _ _ h => h
      case hwix0 => rfl
      case hyix0 => exact fun w0 hSw => run_exec_load rfl rfl (box_load hSw.box HXL.out 0)
      (try simp only [Act.put, List.setIfInBounds_toArray, List.set_cons_zero, List.set_cons_succ])
      refine' wpAnyH_take (i := 1) ?hiix1 (by kernel_rfl) (by kernel_rfl) (by kernel_rfl) ?hqix1 (Or.inl ⟨?hwix1, ?hyix1⟩) (by assumption) ?hrix1
      case hiix1 => (simp only [List.getElem?_toArray, List.getElem?_cons_succ, List.getElem?_cons_zero]; rfl)
      case hqix1 => exact fun _ _ _ h => h
      case hwix1 => rfl
      case hyix1 => (intro w0 hSw; (try dsimp only at hSw); go_simp; try with_reducible rfl)
      (try simp only [Act.put, List.setIfInBounds_toArray, List.set_cons_zero, List.set_cons_succ])
      refine' wpAnyH_take (i := 2) ?hiix2 (by kernel_rfl) (by kernel_rfl) (by kernel_rfl) ?hqix2 (Or.inl ⟨?hwix2, ?hyix2⟩) (by assumption) ?hrix2
      case hiix2 => (simp only [List.getElem?_toArray, List.getElem?_cons_succ, List.getElem?_cons_zero]; rfl)
      case hqix2 => exact fun _ _ _ h => h
      case hwix2 => rfl
      case hyix2 => (intro w0 hSw; (try dsimp only at hSw); go_simp; try with_reducible rfl)
      (try simp only [Act.put, List.setIfInBounds_toArray, List.set_cons_zero, List.set_cons_succ])
      refine' wpAnyH_take (i := 3) ?hiix3 (by kernel_rfl) (by kernel_rfl) (by kernel_rfl) ?hqix3 (Or.inl ⟨?hwix3, ?hyix3⟩) (by assumption) ?hrix3
      case hiix3 => (simp only [List.getElem?_toArray, List.getElem?_cons_succ, List.getElem?_cons_zero]; rfl)
      case hqix3 => exact fun _ _ _ h => h
      case hwix3 => rfl
      case hyix3 => (intro w0 hSw; (try dsimp only at hSw); go_simp; try with_reducible rfl)
      (try simp only [Act.put, List.setIfInBounds_toArray, List.set_cons_zero, List.set_cons_succ])
      refine' wpAnyH_take (i := 4) ?hiix4 (by kernel_rfl) (by kernel_rfl) (by kernel_rfl) ?hqix4 (Or.inl ⟨?hwix4, ?hyix4⟩) (by assumption) ?hrix4
      case hiix4 => (simp only [List.getElem?_toArray, List.getElem?_cons_succ, List.getElem?_cons_zero]; rfl)
      case hqix4 => exact fun _ _ _ h => h
      case hwix4 => rfl
      case hyix4 => exact fun w0 hSw => run_exec_load rfl rfl (hSw.rd.load_y hlt HY.out)
      (try simp only [Act.put, List.setIfInBounds_toArray, List.set_cons_zero, List.set_cons_succ])
      refine' wpAnyH_take (i := 5) ?hiix5 (by kernel_rfl) (by kernel_rfl) (by kernel_rfl) ?hqix5 (Or.inl ⟨?hwix5, ?hyix5⟩) (by assumption) ?hrix5
      case hiix5 => (simp only [List.getElem?_toArray, List.getElem?_cons_succ, List.getElem?_cons_zero]; rfl)
      case hqix5 => exact fun _ _ _ h => h
      case hwix5 => rfl
      case hyix5 => exact fun w0 hSw => exec_bin (op := .eql) (t := 23) (x := .tmp 11) (y := .tmp 15) rfl rfl rfl (run_eqGuard_agg w0 .eql 23 (.tmp 11) (.tmp 15) _ _ Try.eqGuardType23) (eql_run w0 x y HXL.out hy32 HR.out)
      (try simp only [Act.put, List.setIfInBounds_toArray, List.set_cons_zero, List.set_cons_succ])
      refine wpAnyH_done (by kernel_rfl) ?_ _
      cases r with
      | true =>
        go_wp2_with fail
        go_ret
        refine ⟨_, rfl, Lib.hid ⟨fun h => by omega, fun _ => HIN.out (by simpa using HR.out)⟩, hHeld.below⟩
      | false =>
        go_wp2_with fail
        go_roundg (L.length - (i + 1))
        case measure => omega
        case rel => exact ⟨i + 1, by go_num, hlt, Nat.le_refl _, Lib.hid fun m hm => by
            rcases Nat.lt_or_ge m i with h | h
            · exact HN.out m h
            · obtain rfl : m = i := by omega
              intro h2
              have := HR.out
              rw [← h2, HY.out] at this
              simp at this, Lib.hid hHeld⟩
    · obtain rfl : i = L.length := by omega
      have hltz : ¬ (L.length : Int) < (L.length : Int) := by omega
      go_wp2_with fail
      go_ret
      refine ⟨_, rfl, Lib.hid ⟨fun _ => ?_, fun h => absurd h (by decide)⟩, HS2.out.below⟩
      rw [Bool.eq_false_iff]
      intro hc
      rw [List.contains_iff_mem] at hc
      obtain ⟨m, hm, he⟩ := List.getElem_of_mem hc
      exact HN.out m hm (by rw [List.getD_eq_getElem?_getD, List.getElem?_eq_getElem hm]; exact he)

set_option maxHeartbeats 1000000 in
set_option maxRecDepth 100000 in
theorem contains_any (L : List (List UInt8)) (x : List UInt8) (v : Value) (w : World) (hR : RdV w v L) (hx : x.length = 32) (hm : L.length ≤ 1000000) :
    Calls Try.prog 37 #[v, .agg (bv x).toArray] w fun e w' => e = .returned (.bool (L.contains x)) ∧ Below w.heap.size w w' := by
  have hb1 : Below w.heap.size w (w.alloc (.cells (bv x).toArray 23)) := (Below.refl _ _).alloc (Nat.le_refl _) _
  have HC := Lib.hid (index_any L x v _ (hR.next hb1) hx hm)
  have hbx : (Instr.loadAt 23 (.pointer (some ⟨w.heap.size, 0, none⟩))).run Try.prog (w.alloc (.cells (bv x).toArray 23)) = .ok (.agg (bv x).toArray) (w.alloc (.cells (bv x).toArray 23)) := box_load (Blk.new w _ _) hx 0
  have HB := Lib.hid hb1
  clear hR hb1
  go_enter Try.func37, Try.ntmps37
  go_wp2_with (first
    | ((with_reducible refine step_load (t := 23) (x := .tmp 3) (p := ?lpa1) (v := ?lva1) ?lga1 ?loa1 ?lxa1 ?lra1 ?lha1); (case lga1 => rfl); (case loa1 => rfl); (case lxa1 => rfl); (case lra1 => exact hbx))
    | (go_at_call 51; (with_reducible refine HC.out.mono ?_); rintro e w2 ⟨z, rfl, HZ, hb2⟩))
  go_ret
  refine ⟨?_, HB.out.trans (hb2.mono HB.out.size)⟩
  show Ending.returned (Value.bool _) = _
  congr 2
  by_cases hz : z < 0
  · rw [HZ.out.1 hz]; exact decide_eq_false (by omega)
  · rw [HZ.out.2 (by omega)]; exact decide_eq_true (by omega)

set_option maxHeartbeats 1000000 in
set_option maxRecDepth 100000 in
theorem has_any (L : List (List UInt8)) (x : List UInt8) (v : Value) (w : World) (hR : RdV w v L) (hx : x.length = 32) (hm : L.length ≤ 1000000) :
    Calls Try.prog 21 #[v, .agg (bv x).toArray] w fun e w' => e = .returned (.bool (L.contains x)) ∧ Below w.heap.size w w' := by
  have hb1 : Below w.heap.size w (w.alloc (.cells (bv x).toArray 23)) := (Below.refl _ _).alloc (Nat.le_refl _) _
  have HC := Lib.hid (contains_any L x v _ (hR.next hb1) hx hm)
  have hbx : (Instr.loadAt 23 (.pointer (some ⟨w.heap.size, 0, none⟩))).run Try.prog (w.alloc (.cells (bv x).toArray 23)) = .ok (.agg (bv x).toArray) (w.alloc (.cells (bv x).toArray 23)) := box_load (Blk.new w _ _) hx 0
  have HB := Lib.hid hb1
  obtain ⟨r, hr⟩ : ∃ r, r = L.contains x := ⟨_, rfl⟩
  rw [← hr] at HC ⊢
  clear hR hb1 hr
  go_enter Try.func21, Try.ntmps21
  go_wp2_with (first
    | ((with_reducible refine step_load (t := 23) (x := .tmp 3) (p := ?lpa2) (v := ?lva2) ?lga2 ?loa2 ?lxa2 ?lra2 ?lha2); (case lga2 => rfl); (case loa2 => rfl); (case lxa2 => rfl); (case lra2 => exact hbx))
    | (go_at_call 37; (with_reducible refine HC.out.mono ?_); rintro e w2 ⟨rfl, hb2⟩))
  go_ret
  exact ⟨rfl, HB.out.trans (hb2.mono HB.out.size)⟩
end Go.Proofs.Ytfcoecojjciphaa.ids
