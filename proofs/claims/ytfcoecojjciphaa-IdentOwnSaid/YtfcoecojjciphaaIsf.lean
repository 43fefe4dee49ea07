/-
  slices.BinarySearchFunc over a set of ids; ident.find, list.has.
-/
import Derived.Test.YtfcoecojjciphaaIsb
namespace Go.Proofs.Ytfcoecojjciphaa.ids
open Go.RowKit Go.Proofs.Ytfcoecojjciphaa.mem Go.Proofs.Ytfcoecojjciphaa.sha Go.Proofs.Ytfcoecojjciphaa.srt

/-- where an id is in a set, or would be -/
structure At (L : List (List UInt8)) (x : List UInt8) (k : Nat) : Prop where
  le : k ≤ L.length
  lo : ∀ j, j < k → cmpL (L.getD j []) x < 0
  hi : ∀ j, k ≤ j → j < L.length → ¬ cmpL (L.getD j []) x < 0
theorem At.there {L : List (List UInt8)} {x : List UInt8} {k : Nat} (h : At L x k) (hk : k < L.length) (he : cmpL (L.getD k []) x = 0) : L.contains x = true := by
  rw [List.contains_iff_mem, ← cmpL_zero _ _ he, List.getD_eq_getElem?_getD, List.getElem?_eq_getElem hk]
  exact List.getElem_mem _
theorem sorted_get {L : List (List UInt8)} (h : Sorted L) {i j : Nat} (hij : i < j) (hj : j < L.length) : cmpL (L.getD i []) (L.getD j []) < 0 := by
  have := List.pairwise_iff_getElem.1 h i j (by omega) hj hij
  rw [List.getD_eq_getElem?_getD, List.getElem?_eq_getElem (by omega), List.getD_eq_getElem?_getD, List.getElem?_eq_getElem hj]
  exact this
theorem At.not {L : List (List UInt8)} {x : List UInt8} {k : Nat} (h : At L x k) (hs : Sorted L) (he : k < L.length → cmpL (L.getD k []) x ≠ 0) : L.contains x = false := by
  rw [Bool.eq_false_iff]
  intro hc
  rw [List.contains_iff_mem] at hc
  obtain ⟨i, hi, hx⟩ := List.getElem_of_mem hc
  have hxi : L.getD i [] = x := by rw [List.getD_eq_getElem?_getD, List.getElem?_eq_getElem hi]; exact hx
  have h0 : cmpL (L.getD i []) x = 0 := by rw [hxi]; exact cmpL_self x
  rcases Nat.lt_trichotomy i k with h1 | h1 | h1
  · have := h.lo i h1; omega
  · subst h1; exact he hi h0
  · have := sorted_get hs h1 hi
    rw [hxi] at this
    exact h.hi k (Nat.le_refl _) (by omega) this

structure FdS (v : Value) (L : List (List UInt8)) (S : Nat) (x : List UInt8) (w0 w : World) : Prop where
  rd : RdV w v L
  box : Blk w S 23 (bv x).toArray
  below : Below w0.heap.size w0 w
theorem FdS.next {v : Value} {L : List (List UInt8)} {S : Nat} {x : List UInt8} {w0 w w' : World} (h : FdS v L S x w0 w) (hb : Below w.heap.size w w') : FdS v L S x w0 w' := ⟨h.rd.next hb, h.box.below hb h.box.lt, h.below.trans (hb.mono h.below.size)⟩
theorem enters_compare : ∀ (args : Array Value) (w : World), (callFunc 11 args).run Try.prog w = .ok (.enter 11 args) w := enters_of Try.func11 (by kernel_rfl) rfl

set_option maxHeartbeats 4000000 in
set_option maxRecDepth 100000 in
theorem bsearch_any (L : List (List UInt8)) (x : List UInt8) (v : Value) (w : World) (hR : RdV w v L) (hs : Sorted L) (hx : x.length = 32) (hm : L.length ≤ 1000000) :
    Calls Try.prog 52 #[v, .agg (bv x).toArray, .func (.func 11) #[] #[]] w fun e w' => ∃ k : Nat, e = .returned (.tuple #[.int .i64 k, .bool (L.contains x)]) ∧ Hid (At L x k) ∧ Below w.heap.size w w' := by
  obtain ⟨ad, cap, rfl⟩ := hR.form
  obtain ⟨w1, hw1⟩ : ∃ u, u = w.alloc (.cells (bv x).toArray 23) := ⟨_, rfl⟩
  obtain ⟨S, hS⟩ : ∃ S, S = w.heap.size := ⟨_, rfl⟩
  have hb1 : Below w.heap.size w w1 := by rw [hw1]; exact (Below.refl _ _).alloc (Nat.le_refl _) _
  have HS := Lib.hid (show FdS (.slice ad L.length cap) L S x w w1 from ⟨hR.next hb1, by rw [hw1, hS]; exact Blk.new w _ _, hb1⟩)
  have HSo := Lib.hid hs
  have HW := Lib.hid hw1
  have HSS := Lib.hid hS
  have HOK := Lib.hid hR.ok
  have en := enters_compare
  obtain ⟨r, hr⟩ : ∃ r, r = L.contains x := ⟨_, rfl⟩
  rw [← hr]
  have HV := Lib.hid hr
  have HXL := Lib.hid hx
  clear hR hs hw1 hS hb1 hr hx
  go_enter Try.func52, Try.ntmps52
  go_upto_region 1 with fail
  refine wp_at HW.out.symm ?_
  rw [← HSS.out]
  clear HW
  go_wp2_with fail
  go_loopg [9, 10, 11] L.length (fun gk s9 s10 s11 wr => ∃ i j : Nat, s9 = .int .i64 i ∧ s10 = .int .i64 j ∧ i ≤ j ∧ j ≤ L.length ∧ j - i ≤ gk ∧ Hid (∀ m, m < i → cmpL (L.getD m []) x < 0) ∧ Hid (∀ m, j ≤ m → m < L.length → ¬ cmpL (L.getD m []) x < 0) ∧ Hid (FdS (.slice ad L.length cap) L S x w wr))
  case atStart => exact ⟨0, L.length, rfl, rfl, Nat.zero_le _, Nat.le_refl _, by omega, Lib.hid fun m hm => by omega, Lib.hid fun m h1 h2 => by omega, HS⟩
  case round =>
    obtain ⟨i, j, rfl, rfl, hij, hjL, hgk, HLo, HHi, HS2⟩ := hrel
    clear HS
    have i0 : (0 : Int) ≤ (i : Int) := Int.natCast_nonneg _
    have j0 : (0 : Int) ≤ (j : Int) := Int.natCast_nonneg _
    by_cases hlt : i < j
    · have hltz : (i : Int) < (j : Int) := by omega
      obtain ⟨q, hq⟩ : ∃ q, q = (i + j) / 2 := ⟨_, rfl⟩
      have hq1 : i ≤ q := by omega
      have hq2 : q < j := by omega
      have e1 : IntKind.u64.wrap ((i : Int) + (j : Int)) = (i : Int) + (j : Int) := by rw [IntKind.wrap_u64]; omega
      have e2 : ((i : Int) + (j : Int)) / 2 = (q : Int) := by omega
      have e3 : IntKind.i64.wrap (q : Int) = (q : Int) := by rw [IntKind.wrap_i64]; omega
      have q0 : (0 : Int) ≤ (q : Int) := Int.natCast_nonneg _
      have qI : (q : Int) < (L.length : Int) := by omega
      obtain ⟨b, off, rfl, -, -, -⟩ := HS2.out.rd.load (i := q) (by omega)
      obtain ⟨y, hy⟩ : ∃ y, y = L.getD q [] := ⟨_, rfl⟩
      have hy32 : y.length = 32 := by rw [hy]; exact HOK.out.get (by omega)
      have HY := Lib.hid hy.symm
      have hqL : q < L.length := by omega
      have HC := Lib.hid (fun w : World => compare_any y x w hy32 HXL.out)
      have HCV : Hid (cmpL y x < 0 → ∀ m, m < q + 1 → cmpL (L.getD m []) x < 0) := Lib.hid fun h m hm => by
        rcases Nat.lt_or_ge m q with h1 | h1
        · exact cmpL_trans _ _ _ (sorted_get HSo.out h1 hqL) (by rw [HY.out]; exact h)
        · obtain rfl : m = q := by omega
          rw [HY.out]; exact h
      have HCW : Hid (¬ cmpL y x < 0 → ∀ m, q ≤ m → m < L.length → ¬ cmpL (L.getD m []) x < 0) := Lib.hid fun h m h1 h2 h3 => by
        rcases Nat.lt_or_ge q m with h4 | h4
        · exact h (by rw [← HY.out]; exact cmpL_trans _ _ _ (sorted_get HSo.out h4 h2) h3)
        · obtain rfl : m = q := by omega
          rw [HY.out] at h3; exact h h3
      clear hq hy
      obtain ⟨c, hc⟩ : ∃ c, cmpL y x = c := ⟨_, rfl⟩
      rw [hc] at HC HCV HCW
      have HCC := Lib.hid hc
      clear hc
      by_cases hneg : c < 0
      · have HL2 := Lib.hid (HCV.out hneg)
        go_upto_region 5 with fail
        refine wp_region_held_drew (S := FdS (.slice (some ⟨b, off, none⟩) L.length cap) L S x w) (by kernel_rfl) ?_ (fun hHeld => ?_)
        · exact HS2.out.next ((Below.refl _ _).drew)
        refine' wpAnyH_take (i := 0) ?hiba0 (by kernel_rfl) (by kernel_rfl) (by kernel_rfl) ?hqba0 (Or.inl ⟨?hwba0, ?hyba0⟩) (by assumption) ?hrba0
        case hiba0 => (simp only [List.getElem?_toArray, List.getElem?_cons_succ, List.getElem?_cons_zero]; rfl)
        case hqba0 => exact fun _ _ _ h => h
        case hwba0 => rfl
        case hyba0 => (intro w0 hSw; (try dsimp only at hSw); go_simp; try with_reducible rfl)
        (try simp only [Act.put, List.setIfInBounds_toArray, List.set_cons_zero, List.set_cons_succ])
        refine' wpAnyH_take (i := 1) ?hiba1 (by kernel_rfl) (by kernel_rfl) (by kernel_rfl) ?hqba1 (Or.inl ⟨?hwba1, ?hyba1⟩) (by assumption) ?hrba1
        case hiba1 => (simp only [List.getElem?_toArray, List.getElem?_cons_succ, List.getElem?_cons_zero]; rfl)
        case hqba1 => exact fun _ _ _ h => h
        case hwba1 => rfl
        case hyba1 => (intro w0 hSw; (try dsimp only at hSw); go_simp; try with_reducible rfl)
        (try simp only [Act.put, List.setIfInBounds_toArray, List.set_cons_zero, List.set_cons_succ])
        refine' wpAnyH_take (i := 2) ?hiba2 (by kernel_rfl) (by kernel_rfl) (by kernel_rfl) ?hqba2 (Or.inl ⟨?hwba2, ?hyba2⟩) (by assumption) ?hrba2
        case hiba2 => (simp only [List.getElem?_toArray, List.getElem?_cons_succ, List.getElem?_cons_zero]; rfl)
        case hqba2 => exact fun _ _ _ h => h
        case hwba2 => rfl
        case hyba2 => (intro w0 hSw; (try dsimp only at hSw); go_simp; try with_reducible rfl)
        (try simp only [Act.put, List.setIfInBounds_toArray, List.set_cons_zero, List.set_cons_succ])
        refine' wpAnyH_take (i := 3) ?hiba3 (by kernel_rfl) (by kernel_rfl) (by kernel_rfl) ?hqba3 (Or.inl ⟨?hwba3, ?hyba3⟩) (by assumption) ?hrba3
        case hiba3 => (simp only [List.getElem?_toArray, List.getElem?_cons_succ, List.getElem?_cons_zero]; rfl)
        case hqba3 => exact fun _ _ _ h => h
        case hwba3 => rfl
        case hyba3 => (intro w0 hSw; (try dsimp only at hSw); go_simp; try with_reducible rfl)
        (try simp only [Act.put, List.setIfInBounds_toArray, List.set_cons_zero, List.set_cons_succ])
        refine' wpAnyH_take (i := 4) ?hiba4 (by kernel_rfl) (by kernel_rfl) (by kernel_rfl) ?hqba4 (Or.inl ⟨?hwba4, ?hyba4⟩) (by assumption) ?hrba4
        case hiba4 => (simp only [List.getElem?_toArray, List.getElem?_cons_succ, List.getElem?_cons_zero]; rfl)
        case hqba4 => exact fun _ _ _ h => h
        case hwba4 => rfl
        case hyba4 => exact fun w0 hSw => run_exec_load rfl rfl (hSw.rd.load_y hqL HY.out)
        (try simp only [Act.put, List.setIfInBounds_toArray, List.set_cons_zero, List.set_cons_succ])
        refine' wpAnyH_take (i := 5) ?hiba5 (by kernel_rfl) (by kernel_rfl) (by kernel_rfl) ?hqba5 (Or.inl ⟨?hwba5, ?hyba5⟩) (by assumption) ?hrba5
        case hiba5 => (simp only [List.getElem?_toArray, List.getElem?_cons_succ, List.getElem?_cons_zero]; rfl)
        case hqba5 => exact fun _ _ _ h => h
        case hwba5 => rfl
        case hyba5 => exact fun w0 hSw => run_exec_load rfl rfl (box_load hSw.box HXL.out 0)
        (try simp only [Act.put, List.setIfInBounds_toArray, List.set_cons_zero, List.set_cons_succ])
        refine wpAnyH_ready (rs := [6]) (by kernel_rfl) (by simp) ?_
        refine' AllReadyH.cons ?hiba6 (fun K hK => ?hrba6) AllReadyH.nil
        case hiba6 => (simp only [List.getElem?_toArray, List.getElem?_cons_succ, List.getElem?_cons_zero]; rfl)
        go_simp
        refine (HC.out _).mono ?_; rintro e wA ⟨rfl, hbA⟩
        refine hK.out _ _ ?_ (fun hHeld => ?_)
        · exact hHeld.next hbA
        clear hK K
        (try simp only [Act.put, List.setIfInBounds_toArray, List.set_cons_zero, List.set_cons_succ])
        refine' wpAnyH_take (i := 7) ?hiba7 (by kernel_rfl) (by kernel_rfl) (by kernel_rfl) ?hqba7 (Or.inl ⟨?hwba7, ?hyba7⟩) (by assumption) ?hrba7
        case hiba7 => (simp only [List.getElem?_toArray, List.getElem?_cons_succ, List.getElem?_cons_zero]; rfl)
        case hqba7 => exact fun _ _ _ h => h
        case hwba7 => rfl
        case hyba7 => (intro w0 hSw; (try dsimp only at hSw); go_simp; try with_reducible rfl)
        (try simp only [Act.put, List.setIfInBounds_toArray, List.set_cons_zero, List.set_cons_succ])
        refine wpAnyH_done (by kernel_rfl) ?_ _
        go_wp2_with fail
        go_roundg (j - (q + 1))
        case measure => omega
        case rel => exact ⟨q + 1, j, by go_num, rfl, by omega, hjL, Nat.le_refl _, HL2, HHi, Lib.hid hHeld⟩
      · have HH2 := Lib.hid (HCW.out hneg)
        go_upto_region 5 with fail
        refine wp_region_held_drew (S := FdS (.slice (some ⟨b, off, none⟩) L.length cap) L S x w) (by kernel_rfl) ?_ (fun hHeld => ?_)
        · exact HS2.out.next ((Below.refl _ _).drew)
        refine' wpAnyH_take (i := 0) ?hibb0 (by kernel_rfl) (by kernel_rfl) (by kernel_rfl) ?hqbb0 (Or.inl ⟨?hwbb0, ?hybb0⟩) (by assumption) ?hrbb0
        case hibb0 => (simp only [List.getElem?_toArray, List.getElem?_cons_succ, List.getElem?_cons_zero]; rfl)
        case hqbb0 => exact fun _ _ _ h => h
        case hwbb0 => rfl
        case hybb0 => (intro w0 hSw; (try dsimp only at hSw); go_simp; try with_reducible rfl)
        (try simp only [Act.put, List.setIfInBounds_toArray, List.set_cons_zero, List.set_cons_succ])
        refine' wpAnyH_take (i := 1) ?hibb1 (by kernel_rfl) (by kernel_rfl) (by kernel_rfl) ?hqbb1 (Or.inl ⟨?hwbb1, ?hybb1⟩) (by assumption) ?hrbb1
        case hibb1 => (simp only [List.getElem?_toArray, List.getElem?_cons_succ, List.getElem?_cons_zero]; rfl)
        case hqbb1 => exact fun _ _ _ h => h
        case hwbb1 => rfl
        case hybb1 => (intro w0 hSw; (try dsimp only at hSw); go_simp; try with_reducible rfl)
        (try simp only [Act.put, List.setIfInBounds_toArray, List.set_cons_zero, List.set_cons_succ])
        refine' wpAnyH_take (i := 2) ?hibb2 (by kernel_rfl) (by kernel_rfl) (by kernel_rfl) ?hqbb2 (Or.inl ⟨?hwbb2, ?hybb2⟩) (by assumption) ?hrbb2
        case hibb2 => (simp only [List.getElem?_toArray, List.getElem?_cons_succ, List.getElem?_cons_zero]; rfl)
        case hqbb2 => exact fun _ _ _ h => h
        case hwbb2 => rfl
        case hybb2 => (intro w0 hSw; (try dsimp only at hSw); go_simp; try with_reducible rfl)
        (try simp only [Act.put, List.setIfInBounds_toArray, List.set_cons_zero, List.set_cons_succ])
        refine' wpAnyH_take (i := 3) ?hibb3 (by kernel_rfl) (by kernel_rfl) (by kernel_rfl) ?hqbb3 (Or.inl ⟨?hwbb3, ?hybb3⟩) (by assumption) ?hrbb3
        case hibb3 => (simp only [List.getElem?_toArray, List.getElem?_cons_succ, List.getElem?_cons_zero]; rfl)
        case hqbb3 => exact fun _ _ _ h => h
        case hwbb3 => rfl
        case hybb3 => (intro w0 hSw; (try dsimp only at hSw); go_simp; try with_reducible rfl)
        (try simp only [Act.put, List.setIfInBounds_toArray, List.set_cons_zero, List.set_cons_succ])
        refine' wpAnyH_take (i := 4) ?hibb4 (by kernel_rfl) (by kernel_rfl) (by kernel_rfl) ?hqbb4 (Or.inl ⟨?hwbb4, ?hybb4⟩) (by assumption) ?hrbb4
        case hibb4 => (simp only [List.getElem?_toArray, List.getElem?_cons_succ, List.getElem?_cons_zero]; rfl)
        case hqbb4 => exact fun _ _ _ h => h
        case hwbb4 => rfl
        case hybb4 => exact fun w0 hSw => run_exec_load rfl rfl (hSw.rd.load_y hqL HY.out)
        (try simp only [Act.put, List.setIfInBounds_toArray, List.set_cons_zero, List.set_cons_succ])
        refine' wpAnyH_take (i := 5) ?hibb5 (by kernel_rfl) (by kernel_rfl) (by kernel_rfl) ?hqbb5 (Or.inl ⟨?hwbb5, ?hybb5⟩) (by assumption) ?hrbb5
        case hibb5 => (simp only [List.getElem?_toArray, List.getElem?_cons_succ, List.getElem?_cons_zero]; rfl)
        case hqbb5 => exact fun _ _ _ h => h
        case hwbb5 => rfl
        case hybb5 => exact fun w0 hSw => run_exec_load rfl rfl (box_load hSw.box HXL.out 0)
        (try simp only [Act.put, List.setIfInBounds_toArray, List.set_cons_zero, List.set_cons_succ])
        refine wpAnyH_ready (rs := [6]) (by kernel_rfl) (by simp) ?_
        refine' AllReadyH.cons ?hibb6 (fun K hK => ?hrbb6) AllReadyH.nil
        case hibb6 => (simp only [List.getElem?_toArray, List.getElem?_cons_succ, List.getElem?_cons_zero]; rfl)
        go_simp
        refine (HC.out _).mono ?_; rintro e wA ⟨rfl, hbA⟩
        refine hK.out _ _ ?_ (fun hHeld => ?_)
        · exact hHeld.next hbA
        clear hK K
        (try simp only [Act.put, List.setIfInBounds_toArray, List.set_cons_zero, List.set_cons_succ])
        refine' wpAnyH_take (i := 7) ?hibb7 (by kernel_rfl) (by kernel_rfl) (by kernel_rfl) ?hqbb7 (Or.inl ⟨?hwbb7, ?hybb7⟩) (by assumption) ?hrbb7
        case hibb7 => (simp only [List.getElem?_toArray, List.getElem?_cons_succ, List.getElem?_cons_zero]; rfl)
        case hqbb7 => exact fun _ _ _ h => h
        case hwbb7 => rfl
        case hybb7 => (intro w0 hSw; (try dsimp only at hSw); go_simp; try with_reducible rfl)
        (try simp only [Act.put, List.setIfInBounds_toArray, List.set_cons_zero, List.set_cons_succ])
        refine wpAnyH_done (by kernel_rfl) ?_ _
        go_wp2_with fail
        go_roundg (q - i)
        case measure => omega
        case rel => exact ⟨i, q, rfl, rfl, hq1, by omega, Nat.le_refl _, HLo, HH2, Lib.hid hHeld⟩
    · obtain rfl : i = j := by omega
      have hltz : ¬ (i : Int) < (i : Int) := by omega
      have HAt := Lib.hid (show At L x i from ⟨hjL, HLo.out, HHi.out⟩)
      by_cases hin : i < L.length
      · have iI : (i : Int) < (L.length : Int) := by omega
        have iId : decide ((i : Int) < (L.length : Int)) = true := decide_eq_true iI
        obtain ⟨b, off, rfl, -, -, -⟩ := HS2.out.rd.load (i := i) (by omega)
        obtain ⟨y, hy⟩ : ∃ y, y = L.getD i [] := ⟨_, rfl⟩
        have hy32 : y.length = 32 := by rw [hy]; exact HOK.out.get (by omega)
        have HY := Lib.hid hy.symm
        have HC := Lib.hid (fun w : World => compare_any y x w hy32 HXL.out)
        have HR1 : Hid (cmpL y x = 0 → r = true) := Lib.hid fun h => by rw [HV.out]; exact HAt.out.there hin (by rw [HY.out]; exact h)
        have HR2 : Hid (cmpL y x ≠ 0 → r = false) := Lib.hid fun h => by rw [HV.out]; exact HAt.out.not HSo.out (fun _ => by rw [HY.out]; exact h)
        clear hy
        obtain ⟨c, hc⟩ : ∃ c, cmpL y x = c := ⟨_, rfl⟩
        rw [hc] at HC HR1 HR2
        clear hc
        have HRC : Hid ((c == 0) = r) := Lib.hid (by
          by_cases h : c = 0
          · rw [HR1.out h, h]; rfl
          · rw [HR2.out h]; exact beq_eq_false_iff_ne.2 h)
        go_upto_region 8 with fail
        refine wp_region_held_drew (S := FdS (.slice (some ⟨b, off, none⟩) L.length cap) L S x w) (by kernel_rfl) ?_ (fun hHeld => ?_)
        · exact HS2.out.next ((Below.refl _ _).drew)
        refine' wpAnyH_take (i := 0) ?hibc0 (by kernel_rfl) (by kernel_rfl) (by kernel_rfl) ?hqbc0 (Or.inl ⟨?hwbc0, ?hybc0⟩) (by assumption) ?hrbc0
        case hibc0 => (simp only [List.getElem?_toArray, List.getElem?_cons_succ, List.getElem?_cons_zero]; rfl)
        case hqbc0 => exact fun _ _ _ h => h
        case hwbc0 => rfl
        case hybc0 => (intro w0 hSw; (try dsimp only at hSw); go_simp; try with_reducible rfl)
        (try simp only [Act.put, List.setIfInBounds_toArray, List.set_cons_zero, List.set_cons_succ])
        refine' wpAnyH_take (i := 1) ?hibc1 (by kernel_rfl) (by kernel_rfl) (by kernel_rfl) ?hqbc1 (Or.inl ⟨?hwbc1, ?hybc1⟩) (by assumption) ?hrbc1
        case hibc1 => (simp only [List.getElem?_toArray, List.getElem?_cons_succ, List.getElem?_cons_zero]; rfl)
        case hqbc1 => exact fun _ _ _ h => h
        case hwbc1 => rfl
        case hybc1 => (intro w0 hSw; (try dsimp only at hSw); go_simp; try with_reducible rfl)
        (try simp only [Act.put, List.setIfInBounds_toArray, List.set_cons_zero, List.set_cons_succ])
        refine' wpAnyH_take (i := 2) ?hibc2 (by kernel_rfl) (by kernel_rfl) (by kernel_rfl) ?hqbc2 (Or.inl ⟨?hwbc2, ?hybc2⟩) (by assumption) ?hrbc2
        case hibc2 => (simp only [List.getElem?_toArray, List.getElem?_cons_succ, List.getElem?_cons_zero]; rfl)
        case hqbc2 => exact fun _ _ _ h => h
        case hwbc2 => rfl
        case hybc2 => (intro w0 hSw; (try dsimp only at hSw); go_simp; try with_reducible rfl)
        (try simp only [Act.put, List.setIfInBounds_toArray, List.set_cons_zero, List.set_cons_succ])
        refine' wpAnyH_take (i := 3) ?hibc3 (by kernel_rfl) (by kernel_rfl) (by kernel_rfl) ?hqbc3 (Or.inl ⟨?hwbc3, ?hybc3⟩) (by assumption) ?hrbc3
        case hibc3 => (simp only [List.getElem?_toArray, List.getElem?_cons_succ, List.getElem?_cons_zero]; rfl)
        case hqbc3 => exact fun _ _ _ h => h
        case hwbc3 => rfl
        case hybc3 => (intro w0 hSw; (try dsimp only at hSw); go_simp; try with_reducible rfl)
        (try simp only [Act.put, List.setIfInBounds_toArray, List.set_cons_zero, List.set_cons_succ])
        refine' wpAnyH_take (i := 4) ?hibc4 (by kernel_rfl) (by kernel_rfl) (by kernel_rfl) ?hqbc4 (Or.inl ⟨?hwbc4, ?hybc4⟩) (by assumption) ?hrbc4
        case hibc4 => (simp only [List.getElem?_toArray, List.getElem?_cons_succ, List.getElem?_cons_zero]; rfl)
        case hqbc4 => exact fun _ _ _ h => h
        case hwbc4 => rfl
        case hybc4 => (intro w0 hSw; (try dsimp only at hSw); go_simp; try with_reducible rfl)
        (try simp only [Act.put, List.setIfInBounds_toArray, List.set_cons_zero, List.set_cons_succ])
        refine' wpAnyH_take (i := 5) ?hibc5 (by kernel_rfl) (by kernel_rfl) (by kernel_rfl) ?hqbc5 (Or.inl ⟨?hwbc5, ?hybc5⟩) (by assumption) ?hrbc5
        case hibc5 => (simp only [List.getElem?_toArray, List.getElem?_cons_succ, List.getElem?_cons_zero]; rfl)
        case hqbc5 => exact fun _ _ _ h => h
        case hwbc5 => rfl
        case hybc5 => (intro w0 hSw; (try dsimp only at hSw); go_simp; try with_reducible rfl)
        (try simp only [Act.put, List.setIfInBounds_toArray, List.set_cons_zero, List.set_cons_succ])
        refine' wpAnyH_take (i := 6) ?hibc6 (by kernel_rfl) (by kernel_rfl) (by kernel_rfl) ?hqbc6 (Or.inl ⟨?hwbc6, ?hybc6⟩) (by assumption) ?hrbc6
        case hibc6 => (simp only [List.getElem?_toArray, List.getElem?_cons_succ, List.getElem?_cons_zero]; rfl)
        case hqbc6 => exact fun _ _ _ h => h
        case hwbc6 => rfl
        case hybc6 => (intro w0 hSw; (try dsimp only at hSw); go_simp; try with_reducible rfl)
        (try simp only [Act.put, List.setIfInBounds_toArray, List.set_cons_zero, List.set_cons_succ])
        refine' wpAnyH_take (i := 7) ?hibc7 (by kernel_rfl) (by kernel_rfl) (by kernel_rfl) ?hqbc7 (Or.inl ⟨?hwbc7, ?hybc7⟩) (by assumption) ?hrbc7
        case hibc7 => (simp only [List.getElem?_toArray, List.getElem?_cons_succ, List.getElem?_cons_zero]; rfl)
        case hqbc7 => exact fun _ _ _ h => h
        case hwbc7 => rfl
        case hybc7 => (intro w0 hSw; (try dsimp only at hSw); go_simp; try with_reducible rfl)
        (try simp only [Act.put, List.setIfInBounds_toArray, List.set_cons_zero, List.set_cons_succ])
        refine' wpAnyH_take (i := 8) ?hibc8 (by kernel_rfl) (by kernel_rfl) (by kernel_rfl) ?hqbc8 (Or.inl ⟨?hwbc8, ?hybc8⟩) (by assumption) ?hrbc8
        case hibc8 => (simp only [List.getElem?_toArray, List.getElem?_cons_succ, List.getElem?_cons_zero]; rfl)
        case hqbc8 => exact fun _ _ _ h => h
        case hwbc8 => rfl
        case hybc8 => (intro w0 hSw; (try dsimp only at hSw); go_simp; try with_reducible rfl)
        (try simp only [Act.put, List.setIfInBounds_toArray, List.set_cons_zero, List.set_cons_succ])
        refine' wpAnyH_take (i := 9) ?hibc9 (by kernel_rfl) (by kernel_rfl) (by kernel_rfl) ?hqbc9 (Or.inl ⟨?hwbc9, ?hybc9⟩) (by assumption) ?hrbc9
        case hibc9 => (simp only [List.getElem?_toArray, List.getElem?_cons_succ, List.getElem?_cons_zero]; rfl)
        case hqbc9 => exact fun _ _ _ h => h
        case hwbc9 => rfl
        case hybc9 => exact fun w0 hSw => run_exec_load rfl rfl (hSw.rd.load_y hin HY.out)
        (try simp only [Act.put, List.setIfInBounds_toArray, List.set_cons_zero, List.set_cons_succ])
        refine' wpAnyH_take (i := 10) ?hibc10 (by kernel_rfl) (by kernel_rfl) (by kernel_rfl) ?hqbc10 (Or.inl ⟨?hwbc10, ?hybc10⟩) (by assumption) ?hrbc10
        case hibc10 => (simp only [List.getElem?_toArray, List.getElem?_cons_succ, List.getElem?_cons_zero]; rfl)
        case hqbc10 => exact fun _ _ _ h => h
        case hwbc10 => rfl
        case hybc10 => exact fun w0 hSw => run_exec_load rfl rfl (box_load hSw.box HXL.out 0)
        (try simp only [Act.put, List.setIfInBounds_toArray, List.set_cons_zero, List.set_cons_succ])
        refine wpAnyH_ready (rs := [11]) (by kernel_rfl) (by simp) ?_
        refine' AllReadyH.cons ?hibc11 (fun K hK => ?hrbc11) AllReadyH.nil
        case hibc11 => (simp only [List.getElem?_toArray, List.getElem?_cons_succ, List.getElem?_cons_zero]; rfl)
        go_simp
        refine (HC.out _).mono ?_; rintro e wA ⟨rfl, hbA⟩
        refine hK.out _ _ ?_ (fun hHeld => ?_)
        · exact hHeld.next hbA
        clear hK K
        (try simp only [Act.put, List.setIfInBounds_toArray, List.set_cons_zero, List.set_cons_succ])
        refine' wpAnyH_take (i := 12) ?hibc12 (by kernel_rfl) (by kernel_rfl) (by kernel_rfl) ?hqbc12 (Or.inl ⟨?hwbc12, ?hybc12⟩) (by assumption) ?hrbc12
        case hibc12 => (simp only [List.getElem?_toArray, List.getElem?_cons_succ, List.getElem?_cons_zero]; rfl)
        case hqbc12 => exact fun _ _ _ h => h
        case hwbc12 => rfl
        case hybc12 => (intro w0 hSw; (try dsimp only at hSw); go_simp; try with_reducible rfl)
        (try simp only [Act.put, List.setIfInBounds_toArray, List.set_cons_zero, List.set_cons_succ])
        refine' wpAnyH_take (i := 13) ?hibc13 (by kernel_rfl) (by kernel_rfl) (by kernel_rfl) ?hqbc13 (Or.inl ⟨?hwbc13, ?hybc13⟩) (by assumption) ?hrbc13
        case hibc13 => (simp only [List.getElem?_toArray, List.getElem?_cons_succ, List.getElem?_cons_zero]; rfl)
        case hqbc13 => exact fun _ _ _ h => h
        case hwbc13 => rfl
        case hybc13 => (intro w0 hSw; (try dsimp only at hSw); go_simp; try with_reducible rfl)
        (try simp only [Act.put, List.setIfInBounds_toArray, List.set_cons_zero, List.set_cons_succ])
        refine' wpAnyH_take (i := 14) ?hibc14 (by kernel_rfl) (by kernel_rfl) (by kernel_rfl) ?hqbc14 (Or.inl ⟨?hwbc14, ?hybc14⟩) (by assumption) ?hrbc14
        case hibc14 => (simp only [List.getElem?_toArray, List.getElem?_cons_succ, List.getElem?_cons_zero]; rfl)
        case hqbc14 => exact fun _ _ _ h => h
        case hwbc14 => rfl
        case hybc14 => (intro w0 hSw; (try dsimp only at hSw); go_simp; try with_reducible rfl)
        (try simp only [Act.put, List.setIfInBounds_toArray, List.set_cons_zero, List.set_cons_succ])
        refine' wpAnyH_take (i := 15) ?hibc15 (by kernel_rfl) (by kernel_rfl) (by kernel_rfl) ?hqbc15 (Or.inl ⟨?hwbc15, ?hybc15⟩) (by assumption) ?hrbc15
        case hibc15 => (simp only [List.getElem?_toArray, List.getElem?_cons_succ, List.getElem?_cons_zero]; rfl)
        case hqbc15 => exact fun _ _ _ h => h
        case hwbc15 => rfl
        case hybc15 => (intro w0 hSw; (try dsimp only at hSw); go_simp; try with_reducible rfl)
        (try simp only [Act.put, List.setIfInBounds_toArray, List.set_cons_zero, List.set_cons_succ])
        refine wpAnyH_done (by kernel_rfl) ?_ _
        go_wp2_with fail
        go_ret2
        exact ⟨i, by first | rfl | (rw [HRC.out]; rfl), HAt, hHeld.below⟩
      · have iI : ¬ (i : Int) < (L.length : Int) := by omega
        have iId : decide ((i : Int) < (L.length : Int)) = false := decide_eq_false iI
        have HRF : Hid (r = false) := Lib.hid (by rw [HV.out]; exact HAt.out.not HSo.out (fun h => absurd h hin))
        go_upto_region 8 with fail
        refine wp_region_held_drew (S := FdS (.slice ad L.length cap) L S x w) (by kernel_rfl) ?_ (fun hHeld => ?_)
        · exact HS2.out.next ((Below.refl _ _).drew)
        refine' wpAnyH_take (i := 0) ?hibd0 (by kernel_rfl) (by kernel_rfl) (by kernel_rfl) ?hqbd0 (Or.inl ⟨?hwbd0, ?hybd0⟩) (by assumption) ?hrbd0
        case hibd0 => (simp only [List.getElem?_toArray, List.getElem?_cons_succ, List.getElem?_cons_zero]; rfl)
        case hqbd0 => exact fun _ _ _ h => h
        case hwbd0 => rfl
        case hybd0 => (intro w0 hSw; (try dsimp only at hSw); go_simp; try with_reducible rfl)
        (try simp only [Act.put, List.setIfInBounds_toArray, List.set_cons_zero, List.set_cons_succ])
        refine' wpAnyH_take (i := 1) ?hibd1 (by kernel_rfl) (by kernel_rfl) (by kernel_rfl) ?hqbd1 (Or.inl ⟨?hwbd1, ?hybd1⟩) (by assumption) ?hrbd1
        case hibd1 => (simp only [List.getElem?_toArray, List.getElem?_cons_succ, List.getElem?_cons_zero]; rfl)
        case hqbd1 => exact fun _ _ _ h => h
        case hwbd1 => rfl
        case hybd1 => (intro w0 hSw; (try dsimp only at hSw); go_simp; try with_reducible rfl)
        (try simp only [Act.put, List.setIfInBounds_toArray, List.set_cons_zero, List.set_cons_succ])
        refine' wpAnyH_take (i := 2) ?hibd2 (by kernel_rfl) (by kernel_rfl) (by kernel_rfl) ?hqbd2 (Or.inl ⟨?hwbd2, ?hybd2⟩) (by assumption) ?hrbd2
        case hibd2 => (simp only [List.getElem?_toArray, List.getElem?_cons_succ, List.getElem?_cons_zero]; rfl)
        case hqbd2 => exact fun _ _ _ h => h
        case hwbd2 => rfl
        case hybd2 => (intro w0 hSw; (try dsimp only at hSw); go_simp; try with_reducible rfl)
        (try simp only [Act.put, List.setIfInBounds_toArray, List.set_cons_zero, List.set_cons_succ])
        refine' wpAnyH_take (i := 3) ?hibd3 (by kernel_rfl) (by kernel_rfl) (by kernel_rfl) ?hqbd3 (Or.inl ⟨?hwbd3, ?hybd3⟩) (by assumption) ?hrbd3
        case hibd3 => (simp only [List.getElem?_toArray, List.getElem?_cons_succ, List.getElem?_cons_zero]; rfl)
        case hqbd3 => exact fun _ _ _ h => h
        case hwbd3 => rfl
        case hybd3 => (intro w0 hSw; (try dsimp only at hSw); go_simp; try with_reducible rfl)
        (try simp only [Act.put, List.setIfInBounds_toArray, List.set_cons_zero, List.set_cons_succ])
        refine' wpAnyH_take (i := 4) ?hibd4 (by kernel_rfl) (by kernel_rfl) (by kernel_rfl) ?hqbd4 (Or.inl ⟨?hwbd4, ?hybd4⟩) (by assumption) ?hrbd4
        case hibd4 => (simp only [List.getElem?_toArray, List.getElem?_cons_succ, List.getElem?_cons_zero]; rfl)
        case hqbd4 => exact fun _ _ _ h => h
        case hwbd4 => rfl
        case hybd4 => (intro w0 hSw; (try dsimp only at hSw); go_simp; try with_reducible rfl)
        (try simp only [Act.put, List.setIfInBounds_toArray, List.set_cons_zero, List.set_cons_succ])
        refine' wpAnyH_take (i := 5) (v := undef) ?hibd5 (by kernel_rfl) (by kernel_rfl) (by kernel_rfl) ?hqbd5 (Or.inr ⟨?hwbd5, rfl⟩) (by assumption) ?hrbd5
        case hibd5 => (simp only [List.getElem?_toArray, List.getElem?_cons_succ, List.getElem?_cons_zero]; rfl)
        case hqbd5 => exact fun _ _ _ h => h
        case hwbd5 => rfl
        (try simp only [Act.put, List.setIfInBounds_toArray, List.set_cons_zero, List.set_cons_succ])
        refine' wpAnyH_take (i := 6) (v := undef) ?hibd6 (by kernel_rfl) (by kernel_rfl) (by kernel_rfl) ?hqbd6 (Or.inr ⟨?hwbd6, rfl⟩) (by assumption) ?hrbd6
        case hibd6 => (simp only [List.getElem?_toArray, List.getElem?_cons_succ, List.getElem?_cons_zero]; rfl)
        case hqbd6 => exact fun _ _ _ h => h
        case hwbd6 => rfl
        (try simp only [Act.put, List.setIfInBounds_toArray, List.set_cons_zero, List.set_cons_succ])
        refine' wpAnyH_take (i := 7) (v := undef) ?hibd7 (by kernel_rfl) (by kernel_rfl) (by kernel_rfl) ?hqbd7 (Or.inr ⟨?hwbd7, rfl⟩) (by assumption) ?hrbd7
        case hibd7 => (simp only [List.getElem?_toArray, List.getElem?_cons_succ, List.getElem?_cons_zero]; rfl)
        case hqbd7 => exact fun _ _ _ h => h
        case hwbd7 => rfl
        (try simp only [Act.put, List.setIfInBounds_toArray, List.set_cons_zero, List.set_cons_succ])
        refine' wpAnyH_take (i := 8) (v := undef) ?hibd8 (by kernel_rfl) (by kernel_rfl) (by kernel_rfl) ?hqbd8 (Or.inr ⟨?hwbd8, rfl⟩) (by assumption) ?hrbd8
        case hibd8 => (simp only [List.getElem?_toArray, List.getElem?_cons_succ, List.getElem?_cons_zero]; rfl)
        case hqbd8 => exact fun _ _ _ h => h
        case hwbd8 => rfl
        (try simp only [Act.put, List.setIfInBounds_toArray, List.set_cons_zero, List.set_cons_succ])
        refine' wpAnyH_take (i := 9) (v := undef) ?hibd9 (by kernel_rfl) (by kernel_rfl) (by kernel_rfl) ?hqbd9 (Or.inr ⟨?hwbd9, rfl⟩) (by assumption) ?hrbd9
        case hibd9 => (simp only [List.getElem?_toArray, List.getElem?_cons_succ, List.getElem?_cons_zero]; rfl)
        case hqbd9 => exact fun _ _ _ h => h
        case hwbd9 => rfl
        (try simp only [Act.put, List.setIfInBounds_toArray, List.set_cons_zero, List.set_cons_succ])
        refine' wpAnyH_take (i := 10) (v := undef) ?hibd10 (by kernel_rfl) (by kernel_rfl) (by kernel_rfl) ?hqbd10 (Or.inr ⟨?hwbd10, rfl⟩) (by assumption) ?hrbd10
        case hibd10 => (simp only [List.getElem?_toArray, List.getElem?_cons_succ, List.getElem?_cons_zero]; rfl)
        case hqbd10 => exact fun _ _ _ h => h
        case hwbd10 => rfl
        (try simp only [Act.put, List.setIfInBounds_toArray, List.set_cons_zero, List.set_cons_succ])
        refine' wpAnyH_take (i := 11) (v := undef) ?hibd11 (by kernel_rfl) (by kernel_rfl) (by kernel_rfl) ?hqbd11 (Or.inr ⟨?hwbd11, rfl⟩) (by assumption) ?hrbd11
        case hibd11 => (simp only [List.getElem?_toArray, List.getElem?_cons_succ, List.getElem?_cons_zero]; rfl)
        case hqbd11 => exact fun _ _ _ h => h
        case hwbd11 => rfl
        (try simp only [Act.put, List.setIfInBounds_toArray, List.set_cons_zero, List.set_cons_succ])
        refine' wpAnyH_take (i := 12) (v := undef) ?hibd12 (by kernel_rfl) (by kernel_rfl) (by kernel_rfl) ?hqbd12 (Or.inr ⟨?hwbd12, rfl⟩) (by assumption) ?hrbd12
        case hibd12 => (simp only [List.getElem?_toArray, List.getElem?_cons_succ, List.getElem?_cons_zero]; rfl)
        case hqbd12 => exact fun _ _ _ h => h
        case hwbd12 => rfl
        (try simp only [Act.put, List.setIfInBounds_toArray, List.set_cons_zero, List.set_cons_succ])
        refine' wpAnyH_take (i := 13) ?hibd13 (by kernel_rfl) (by kernel_rfl) (by kernel_rfl) ?hqbd13 (Or.inl ⟨?hwbd13, ?hybd13⟩) (by assumption) ?hrbd13
        case hibd13 => (simp only [List.getElem?_toArray, List.getElem?_cons_succ, List.getElem?_cons_zero]; rfl)
        case hqbd13 => exact fun _ _ _ h => h
        case hwbd13 => rfl
        case hybd13 => (intro w0 hSw; (try dsimp only at hSw); go_simp; try with_reducible rfl)
        (try simp only [Act.put, List.setIfInBounds_toArray, List.set_cons_zero, List.set_cons_succ])
        refine' wpAnyH_take (i := 14) ?hibd14 (by kernel_rfl) (by kernel_rfl) (by kernel_rfl) ?hqbd14 (Or.inl ⟨?hwbd14, ?hybd14⟩) (by assumption) ?hrbd14
        case hibd14 => (simp only [List.getElem?_toArray, List.getElem?_cons_succ, List.getElem?_cons_zero]; rfl)
        case hqbd14 => exact fun _ _ _ h => h
        case hwbd14 => rfl
        case hybd14 => (intro w0 hSw; (try dsimp only at hSw); go_simp; try with_reducible rfl)
        (try simp only [Act.put, List.setIfInBounds_toArray, List.set_cons_zero, List.set_cons_succ])
        refine' wpAnyH_take (i := 15) ?hibd15 (by kernel_rfl) (by kernel_rfl) (by kernel_rfl) ?hqbd15 (Or.inl ⟨?hwbd15, ?hybd15⟩) (by assumption) ?hrbd15
        case hibd15 => (simp only [List.getElem?_toArray, List.getElem?_cons_succ, List.getElem?_cons_zero]; rfl)
        case hqbd15 => exact fun _ _ _ h => h
        case hwbd15 => rfl
        case hybd15 => (intro w0 hSw; (try dsimp only at hSw); go_simp; try with_reducible rfl)
        (try simp only [Act.put, List.setIfInBounds_toArray, List.set_cons_zero, List.set_cons_succ])
        refine wpAnyH_done (by kernel_rfl) ?_ _
        go_wp2_with fail
        go_ret2
        exact ⟨i, by rw [HRF.out]; rfl, HAt, hHeld.below⟩

set_option maxHeartbeats 1000000 in
set_option maxRecDepth 100000 in
theorem find_any (L : List (List UInt8)) (x : List UInt8) (v : Value) (w : World) (hR : RdV w v L) (hs : Sorted L) (hx : x.length = 32) (hm : L.length ≤ 1000000) :
    Calls Try.prog 38 #[v, .agg (bv x).toArray] w fun e w' => ∃ k : Nat, e = .returned (.tuple #[.int .i64 k, .bool (L.contains x)]) ∧ Hid (At L x k) ∧ Below w.heap.size w w' := by
  have hb1 : Below w.heap.size w (w.alloc (.cells (bv x).toArray 23)) := (Below.refl _ _).alloc (Nat.le_refl _) _
  have HC := Lib.hid (bsearch_any L x v _ (hR.next hb1) hs hx hm)
  have hbx : (Instr.loadAt 23 (.pointer (some ⟨w.heap.size, 0, none⟩))).run Try.prog (w.alloc (.cells (bv x).toArray 23)) = .ok (.agg (bv x).toArray) (w.alloc (.cells (bv x).toArray 23)) := box_load (Blk.new w _ _) hx 0
  have HB := Lib.hid hb1
  obtain ⟨r, hr⟩ : ∃ r, r = L.contains x := ⟨_, rfl⟩
  rw [← hr] at HC ⊢
  clear hR hs hb1 hr
  go_enter Try.func38, Try.ntmps38
  go_wp2_with (first
    | ((with_reducible refine step_load (t := 23) (x := .tmp 3) (p := ?lp1) (v := ?lv1) ?lg1 ?lo1 ?lx1 ?lr1 ?lh1); (case lg1 => rfl); (case lo1 => rfl); (case lx1 => rfl); (case lr1 => exact hbx))
    | (go_at_call 52; (with_reducible refine HC.out.mono ?_); rintro e w2 ⟨k, rfl, HAt, hb2⟩))
  go_ret2
  exact ⟨k, rfl, HAt, HB.out.trans (hb2.mono HB.out.size)⟩

set_option maxHeartbeats 1000000 in
set_option maxRecDepth 100000 in
theorem lhas_any (L : List (List UInt8)) (x : List UInt8) (v : Value) (w : World) (hR : RdV w v L) (hs : Sorted L) (hx : x.length = 32) (hm : L.length ≤ 1000000) :
    Calls Try.prog 42 #[v, .agg (bv x).toArray] w fun e w' => e = .returned (.bool (L.contains x)) ∧ Below w.heap.size w w' := by
  have hb1 : Below w.heap.size w (w.alloc (.cells (bv x).toArray 23)) := (Below.refl _ _).alloc (Nat.le_refl _) _
  have HC := Lib.hid (find_any L x v _ (hR.next hb1) hs hx hm)
  have hbx : (Instr.loadAt 23 (.pointer (some ⟨w.heap.size, 0, none⟩))).run Try.prog (w.alloc (.cells (bv x).toArray 23)) = .ok (.agg (bv x).toArray) (w.alloc (.cells (bv x).toArray 23)) := box_load (Blk.new w _ _) hx 0
  have HB := Lib.hid hb1
  obtain ⟨r, hr⟩ : ∃ r, r = L.contains x := ⟨_, rfl⟩
  rw [← hr] at HC ⊢
  clear hR hs hb1 hr
  go_enter Try.func42, Try.ntmps42
  go_wp2_with (first
    | ((with_reducible refine step_load (t := 23) (x := .tmp 3) (p := ?lp1) (v := ?lv1) ?lg1 ?lo1 ?lx1 ?lr1 ?lh1); (case lg1 => rfl); (case lo1 => rfl); (case lx1 => rfl); (case lr1 => exact hbx))
    | (go_at_call 38; (with_reducible refine HC.out.mono ?_); rintro e w2 ⟨k, rfl, HAt, hb2⟩))
  go_ret
  exact ⟨rfl, HB.out.trans (hb2.mono HB.out.size)⟩
end Go.Proofs.Ytfcoecojjciphaa.ids
