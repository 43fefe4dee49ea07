/-
  list.ahead over a list that is read; ident.Is.
-/
import Derived.Test.YtmaolmogccknbaaDoorIdsqa
import Derived.Deep.RegionHeld3
import Derived.Deep.LoopGhost
import Derived.Deep.CutRange
import Derived.Deep.CutBlock
import Derived.Test.YtmaolmogccknbaaDoorIdcm
namespace Go.Proofs.YtmaolmogccknbaaDoor.ids
open Go.RowKit Go.Proofs.YtmaolmogccknbaaDoor.mem Go.Proofs.YtmaolmogccknbaaDoor.sha

structure RdS (v : Value) (L : List (List UInt8)) (w0 w : World) : Prop where
  rd : RdV w v L
  below : Below w0.heap.size w0 w
theorem RdS.next {v : Value} {L : List (List UInt8)} {w0 w w' : World} (h : RdS v L w0 w) (hb : Below w.heap.size w w') : RdS v L w0 w' := ⟨h.rd.next hb, h.below.trans (hb.mono h.below.size)⟩
theorem dec_eq {c x : Int} (h : x = c) : decide (x < 0) = decide (c < 0) := by rw [h]

set_option maxHeartbeats 2000000 in
set_option maxRecDepth 100000 in
theorem ahead_rd {w : World} {v : Value} {L : List (List UInt8)} (h : RdV w v L) {i j : Nat} (hi : i < L.length) (hj : j < L.length) :
    Calls Tryd.prog 80 #[v, .int .i64 i, .int .i64 j] w fun e w' => e = .returned (.bool (decide (cmpL (L.getD i []) (L.getD j []) < 0))) ∧ Below w.heap.size w w' := by
  obtain ⟨ad, cap, rfl⟩ := h.form
  obtain ⟨b, off, rfl, -, -, -⟩ := h.load hi
  have HS := Lib.hid (show RdS (.slice (some ⟨b, off, none⟩) L.length cap) L w w from ⟨h, Below.refl _ _⟩)
  obtain ⟨x, hx⟩ : ∃ x, x = L.getD i [] := ⟨_, rfl⟩
  obtain ⟨y, hy⟩ : ∃ y, y = L.getD j [] := ⟨_, rfl⟩
  have hx32 : x.length = 32 := by rw [hx]; exact h.ok.get hi
  have hy32 : y.length = 32 := by rw [hy]; exact h.ok.get hj
  have HX := Lib.hid hx.symm
  have HY := Lib.hid hy.symm
  rw [← hx, ← hy]
  obtain ⟨c, hc⟩ : ∃ c, cmpL x y = c := ⟨_, rfl⟩
  have HD := Lib.hid (dec_eq hc)
  have i0 : (0 : Int) ≤ (i : Int) := Int.natCast_nonneg _
  have j0 : (0 : Int) ≤ (j : Int) := Int.natCast_nonneg _
  have iI : (i : Int) < (L.length : Int) := by omega
  have jI : (j : Int) < (L.length : Int) := by omega
  have HC := Lib.hid (fun w : World => compare_any x y w hx32 hy32)
  rw [hc] at HC
  clear h hx hy hc
  go_enter Tryd.func80, Tryd.ntmps80
  go_upto_region 1 with fail
  refine wp_region_held_drew (S := RdS (.slice (some ⟨b, off, none⟩) L.length cap) L w) (by kernel_rfl) ?_ (fun hHeld => ?_)
  · exact HS.out.next ((Below.refl _ _).drew)
  refine' wpAnyH_take (i := 0) ?hiar0 (by kernel_rfl) (by kernel_rfl) (by kernel_rfl) ?hqar0 (Or.inl ⟨?hwar0, ?hyar0⟩) (by assumption) ?hrar0
  case hiar0 => (simp only [List.getElem?_toArray, List.getElem?_cons_zero]; rfl)
  case hqar0 => exact fun _ _ _ h => h
  case hwar0 => rfl
  case hyar0 => (intro w0 hSw; (try dsimp only at hSw); go_simp; try with_reducible rfl)
  (try simp only [Act.put, List.setIfInBounds_toArray, List.set_cons_zero, List.set_cons_succ])
  refine' wpAnyH_take (i := 1) ?hiar1 (by kernel_rfl) (by kernel_rfl) (by kernel_rfl) ?hqar1 (Or.inl ⟨?hwar1, ?hyar1⟩) (by assumption) ?hrar1
  case hiar1 => (simp only [List.getElem?_toArray, List.getElem?_cons_succ, List.getElem?_cons_zero]; rfl)
  case hqar1 => exact fun _ _ _ h => h
  case hwar1 => rfl
  case hyar1 => (intro w0 hSw; (try dsimp only at hSw); go_simp; try with_reducible rfl)
  (try simp only [Act.put, List.setIfInBounds_toArray, List.set_cons_zero, List.set_cons_succ])
  refine' wpAnyH_take (i := 2) ?hiar2 (by kernel_rfl) (by kernel_rfl) (by kernel_rfl) ?hqar2 (Or.inl ⟨?hwar2, ?hyar2⟩) (by assumption) ?hrar2
  case hiar2 => (simp only [List.getElem?_toArray, List.getElem?_cons_succ, List.getElem?_cons_zero]; rfl)
  case hqar2 => exact fun _ _ _ h => h
  case hwar2 => rfl
  case hyar2 => (intro w0 hSw; (try dsimp only at hSw); go_simp; try with_reducible rfl)
  (try simp only [Act.put, List.setIfInBounds_toArray, List.set_cons_zero, List.set_cons_succ])
  refine' wpAnyH_take (i := 3) ?hiar3 (by kernel_rfl) (by kernel_rfl) (by kernel_rfl) ?hqar3 (Or.inl ⟨?hwar3, ?hyar3⟩) (by assumption) ?hrar3
  case hiar3 => (simp only [List.getElem?_toArray, List.getElem?_cons_succ, List.getElem?_cons_zero]; rfl)
  case hqar3 => exact fun _ _ _ h => h
  case hwar3 => rfl
  case hyar3 => exact fun w0 hSw => run_exec_load rfl rfl (hSw.rd.load_y hi HX.out)
  (try simp only [Act.put, List.setIfInBounds_toArray, List.set_cons_zero, List.set_cons_succ])
  refine' wpAnyH_take (i := 4) ?hiar4 (by kernel_rfl) (by kernel_rfl) (by kernel_rfl) ?hqar4 (Or.inl ⟨?hwar4, ?hyar4⟩) (by assumption) ?hrar4
  case hiar4 => (simp only [List.getElem?_toArray, List.getElem?_cons_succ, List.getElem?_cons_zero]; rfl)
  case hqar4 => exact fun _ _ _ h => h
  case hwar4 => rfl
  case hyar4 => (intro w0 hSw; (try dsimp only at hSw); go_simp; try with_reducible rfl)
  (try simp only [Act.put, List.setIfInBounds_toArray, List.set_cons_zero, List.set_cons_succ])
  refine' wpAnyH_take (i := 5) ?hiar5 (by kernel_rfl) (by kernel_rfl) (by kernel_rfl) ?hqar5 (Or.inl ⟨?hwar5, ?hyar5⟩) (by assumption) ?hrar5
  case hiar5 => (simp only [List.getElem?_toArray, List.getElem?_cons_succ, List.getElem?_cons_zero]; rfl)
  case hqar5 => exact fun _ _ _ h => h
  case hwar5 => rfl
  case hyar5 => (intro w0 hSw; (try dsimp only at hSw); go_simp; try with_reducible rfl)
  (try simp only [Act.put, List.setIfInBounds_toArray, List.set_cons_zero, List.set_cons_succ])
  refine' wpAnyH_take (i := 6) ?hiar6 (by kernel_rfl) (by kernel_rfl) (by kernel_rfl) ?hqar6 (Or.inl ⟨?hwar6, ?hyar6⟩) (by assumption) ?hrar6
  case hiar6 => (simp only [List.getElem?_toArray, List.getElem?_cons_succ, List.getElem?_cons_zero]; rfl)
  case hqar6 => exact fun _ _ _ h => h
  case hwar6 => rfl
  case hyar6 => (intro w0 hSw; (try dsimp only at hSw); go_simp; try with_reducible rfl)
  (try simp only [Act.put, List.setIfInBounds_toArray, List.set_cons_zero, List.set_cons_succ])
  refine' wpAnyH_take (i := 7) ?hiar7 (by kernel_rfl) (by kernel_rfl) (by kernel_rfl) ?hqar7 (Or.inl ⟨?hwar7, ?hyar7⟩) (by assumption) ?hrar7
  case hiar7 => (simp only [List.getElem?_toArray, List.getElem?_cons_succ, List.getElem?_cons_zero]; rfl)
  case hqar7 => exact fun _ _ _ h => h
  case hwar7 => rfl
  case hyar7 => exact fun w0 hSw => run_exec_load rfl rfl (hSw.rd.load_y hj HY.out)
  (try simp only [Act.put, List.setIfInBounds_toArray, List.set_cons_zero, List.set_cons_succ])
  refine wpAnyH_ready (rs := [8]) (by kernel_rfl) (by simp) ?_
  refine' AllReadyH.cons ?hiar8 (fun K hK => ?hrar8) AllReadyH.nil
  case hiar8 => (simp only [List.getElem?_toArray, List.getElem?_cons_succ, List.getElem?_cons_zero]; rfl)
  go_simp
  refine (HC.out _).mono ?_; rintro e wA ⟨rfl, hbA⟩
  refine hK.out _ _ ?_ (fun hHeld => ?_)
  · exact hHeld.next hbA
  clear hK K
  (try simp only [Act.put, List.setIfInBounds_toArray, List.set_cons_zero, List.set_cons_succ])
  refine' wpAnyH_take (i := 9) ?hiar9 (by kernel_rfl) (by kernel_rfl) (by kernel_rfl) ?hqar9 (Or.inl ⟨?hwar9, ?hyar9⟩) (by assumption) ?hrar9
  case hiar9 => (simp only [List.getElem?_toArray, List.getElem?_cons_succ, List.getElem?_cons_zero]; rfl)
  case hqar9 => exact fun _ _ _ h => h
  case hwar9 => rfl
  case hyar9 => (intro w0 hSw; (try dsimp only at hSw); go_simp; try with_reducible rfl)
  (try simp only [Act.put, List.setIfInBounds_toArray, List.set_cons_zero, List.set_cons_succ])
  refine' wpAnyH_take (i := 10) ?hiar10 (by kernel_rfl) (by kernel_rfl) (by kernel_rfl) ?hqar10 (Or.inl ⟨?hwar10, ?hyar10⟩) (by assumption) ?hrar10
  case hiar10 => (simp only [List.getElem?_toArray, List.getElem?_cons_succ, List.getElem?_cons_zero]; rfl)
  case hqar10 => exact fun _ _ _ h => h
  case hwar10 => rfl
  case hyar10 => (intro w0 hSw; (try dsimp only at hSw); go_simp; try with_reducible rfl)
  (try simp only [Act.put, List.setIfInBounds_toArray, List.set_cons_zero, List.set_cons_succ])
  refine wpAnyH_done (by kernel_rfl) ?_ _
  go_wp2_with fail
  go_ret
  rw [HD.out]
  exact ⟨rfl, hHeld.below⟩

theorem sorted_of_adj : ∀ L : List (List UInt8), (∀ j, j + 1 < L.length → cmpL (L.getD j []) (L.getD (j + 1) []) < 0) → Sorted L
  | [], _ => List.Pairwise.nil
  | [a], _ => List.pairwise_singleton _ _
  | a :: b :: L, h => by
    have ih := sorted_of_adj (b :: L) fun j hj => by
      have := h (j + 1) (by simpa using hj)
      rwa [List.getD_cons_succ, List.getD_cons_succ] at this
    have hab : cmpL a b < 0 := h 0 (by simp)
    refine List.pairwise_cons.2 ⟨fun y hy => ?_, ih⟩
    rcases List.mem_cons.1 hy with rfl | hy
    · exact hab
    · exact cmpL_trans a b y hab ((List.pairwise_cons.1 ih).1 y hy)
theorem adj_of_sorted : ∀ (L : List (List UInt8)), Sorted L → ∀ j, j + 1 < L.length → cmpL (L.getD j []) (L.getD (j + 1) []) < 0
  | [], _, j, hj => by simp at hj
  | a :: L, h, 0, hj => by
    cases L with
    | nil => simp at hj
    | cons b L => exact (List.pairwise_cons.1 h).1 b List.mem_cons_self
  | a :: L, h, j + 1, hj => by
    have := adj_of_sorted L (List.pairwise_cons.1 h).2 j (by simpa using hj)
    rwa [List.getD_cons_succ, List.getD_cons_succ]
theorem is_true {L : List (List UInt8)} (h : Sorted L) : (L == setL L) = true := by rw [setL_of_sorted L h]; exact beq_self_eq_true L
theorem is_false {L : List (List UInt8)} {j : Nat} (hj : j + 1 < L.length) (h : ¬ cmpL (L.getD j []) (L.getD (j + 1) []) < 0) : (L == setL L) = false := by
  rw [beq_eq_false_iff_ne]
  intro e
  exact h (adj_of_sorted L (by rw [e]; exact setL_sorted L) j hj)

set_option maxHeartbeats 2000000 in
set_option maxRecDepth 100000 in
theorem is_any (L : List (List UInt8)) (v : Value) (w : World) (hR : RdV w v L) (hm : L.length ≤ 1000) : Calls Tryd.prog 48 #[v] w fun e w' => e = .returned (.bool (L == setL L)) ∧ Below w.heap.size w w' := by
  obtain ⟨ad, cap, rfl⟩ := hR.form
  have HS := Lib.hid (show RdS (.slice ad L.length cap) L w w from ⟨hR, Below.refl _ _⟩)
  obtain ⟨r, hr⟩ : ∃ r, r = (L == setL L) := ⟨_, rfl⟩
  rw [← hr]
  have HV := Lib.hid hr
  clear hR hr
  go_enter Tryd.func48, Tryd.ntmps48
  go_wp2_with fail
  go_loopg [3] (L.length + 1) (fun gk s3 wr => ∃ i : Nat, s3 = .int .i64 ((i : Int) + 1) ∧ L.length + 1 - i ≤ gk ∧ Hid (∀ j, j < i → j + 1 < L.length → cmpL (L.getD j []) (L.getD (j + 1) []) < 0) ∧ Hid (RdS (.slice ad L.length cap) L w wr))
  case atStart => exact ⟨0, rfl, by omega, Lib.hid fun j hj => by omega, HS⟩
  case round =>
    obtain ⟨i, rfl, hgk, HN, HS2⟩ := hrel
    clear HS
    have i0 : (0 : Int) ≤ (i : Int) := Int.natCast_nonneg _
    by_cases hlt : i + 1 < L.length
    · have hltz : (i : Int) + 1 < (L.length : Int) := by omega
      have hA := ahead_rd HS2.out.rd (i := i) (j := i + 1) (by omega) hlt
      rw [show ((i + 1 : Nat) : Int) = (i : Int) + 1 by omega] at hA
      by_cases hc : cmpL (L.getD i []) (L.getD (i + 1) []) < 0
      · rw [decide_eq_true hc] at hA
        have HA := Lib.hid hA
        have HC := Lib.hid hc
        clear hA hc
        go_wp2_with (go_at_call 80; (with_reducible refine HA.out.mono ?_); rintro e w3 ⟨rfl, hB3⟩; have HB3 := Lib.hid hB3; clear hB3 HA)
        go_roundg (L.length + 1 - (i + 1))
        case measure => omega
        case rel => exact ⟨i + 1, by go_num, Nat.le_refl _, Lib.hid fun j hj hj2 => by
            rcases Nat.lt_or_ge j i with h | h
            · exact HN.out j h hj2
            · obtain rfl : j = i := by omega
              exact HC.out, Lib.hid (HS2.out.next HB3.out)⟩
      · rw [decide_eq_false hc] at hA
        have HA := Lib.hid hA
        have HC := Lib.hid (is_false hlt hc)
        clear hA hc
        go_wp2_with (go_at_call 80; (with_reducible refine HA.out.mono ?_); rintro e w3 ⟨rfl, hB3⟩; have HB3 := Lib.hid hB3; clear hB3 HA)
        go_ret
        rw [HV.out, HC.out]
        exact ⟨rfl, (HS2.out.next HB3.out).below⟩
    · have hltz : ¬ (i : Int) + 1 < (L.length : Int) := by omega
      have HC := Lib.hid (is_true (sorted_of_adj L fun j hj => HN.out j (by omega) hj))
      go_wp2_with fail
      go_ret
      rw [HV.out, HC.out]
      exact ⟨rfl, HS2.out.below⟩
end Go.Proofs.YtmaolmogccknbaaDoor.ids
