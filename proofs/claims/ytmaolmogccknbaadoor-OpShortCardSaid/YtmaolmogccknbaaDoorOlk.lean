/-
  The landed op: Check.
-/
import Derived.Test.YtmaolmogccknbaaDoorOlg
namespace Go.Proofs.YtmaolmogccknbaaDoor.opn
open Go.RowKit Go.Proofs.YtmaolmogccknbaaDoor.mem Go.Proofs.YtmaolmogccknbaaDoor.sha Go.Proofs.YtmaolmogccknbaaDoor.ids

instance decBad (o : Opn) : Decidable (bad o) := by unfold bad; infer_instance
def badB (k : Int) (a b c d e : Bool) : Bool := (decide (Part.N ∉ has k) && a) || ((decide (Part.K ∉ has k) && b) || ((decide (Part.V ∉ has k) && c) || ((decide (Part.R ∉ has k) && d) || (decide (Part.S ∉ has k) && e))))
theorem bad_bits : ∀ (j : Fin 8) (a b c d e : Bool), (bits .andNot .i64 (bitsG a b c d e) (tabL.getD j.val 0) != 0) = badB (j.val : Int) a b c d e := by decide +kernel
theorem bad_iff (o : Opn) : badB o.k (o.n != 0) (!o.key.isEmpty) (!o.val.isEmpty) (o.ref != zid) (!o.refs.isEmpty) = true ↔ bad o := by
  unfold badB bad
  simp [List.isEmpty_iff]
theorem given_bad (o : Opn) (j : Nat) (hj : j < 8) (hk : o.k = (j : Int)) : (bits .andNot .i64 (given o) (tabL.getD j 0) != 0) = decide (bad o) := by
  have h := bad_bits ⟨j, hj⟩ (o.n != 0) (!o.key.isEmpty) (!o.val.isEmpty) (o.ref != zid) (!o.refs.isEmpty)
  rw [Bool.eq_iff_iff, decide_eq_true_iff, ← bad_iff, hk, ← h]
  rfl
theorem numB_iff (o : Opn) : numB o.k o.n = false ↔ (2147483648 ≤ o.n ∨ o.n < -2147483648 ∨ (o.k = 4 ∧ o.n < 0)) := by
  unfold numB
  rw [decide_eq_false_iff_not]
  by_cases h : o.k = 4
  · rw [if_pos h]; omega
  · rw [if_neg h]; omega
/-- Check, as the landed code asks it -/
def checkS (o : Opn) : Int := if kindB o.k = false then 10 else if bad o then 4 else if 16 < o.key.length ∨ 16 < o.val.length then 3 else if numB o.k o.n = false then 5 else if 8 < o.refs.length then 6 else if rise o.refs = false then 4 else 0
theorem checkS_eq (o : Opn) : checkS o = check rise o := by
  unfold checkS check
  have h1 : kindB o.k = false ↔ has o.k = [] := by
    have := kindB_has o.k
    by_cases h : kindB o.k = true
    · simp [h, this.1 h]
    · have h2 : kindB o.k = false := by simpa using h
      have h3 : has o.k = [] := by
        by_cases e : has o.k = []
        · exact e
        · exact absurd (this.2 e) h
      simp [h2, h3]
  have e : (if bad o then (4 : Int) else if 16 < o.key.length ∨ 16 < o.val.length then 3 else if numB o.k o.n = false then 5 else if 8 < o.refs.length then 6 else if rise o.refs = false then 4 else 0) =
      if (Part.N ∉ has o.k ∧ o.n ≠ 0) ∨ (Part.K ∉ has o.k ∧ o.key ≠ []) ∨ (Part.V ∉ has o.k ∧ o.val ≠ []) ∨ (Part.R ∉ has o.k ∧ o.ref ≠ zid) ∨ (Part.S ∉ has o.k ∧ o.refs ≠ []) then 4 else if 16 < o.key.length ∨ 16 < o.val.length then 3 else if 2147483648 ≤ o.n ∨ o.n < -2147483648 ∨ (o.k = 4 ∧ o.n < 0) then 5 else if 8 < o.refs.length then 6 else if rise o.refs = false then 4 else 0 := by
    simp only [numB_iff]
    by_cases hb : bad o
    · have hb' := hb
      unfold bad at hb'
      rw [if_pos hb, if_pos hb']
    · have hb' := hb
      unfold bad at hb'
      rw [if_neg hb, if_neg hb']
  by_cases h : kindB o.k = false
  · rw [if_pos h, if_pos (h1.1 h)]
  · rw [if_neg h, if_neg (fun e => h (h1.2 e))]
    exact e

structure CkS (S : Nat) (o : Opn) (v : Value) (w0 w : World) : Prop where
  op : Blk w S 26 (opc o v).toArray
  tab : Tab w
  rdv : RdV w v o.refs
  below : Below w0.heap.size w0 w
theorem CkS.next {S : Nat} {o : Opn} {v : Value} {w0 w w' : World} (h : CkS S o v w0 w) (hb : Below w.heap.size w w') : CkS S o v w0 w' :=
  ⟨h.op.below hb h.op.lt, h.tab.next hb, h.rdv.next hb, h.below.trans (hb.mono h.below.size)⟩

set_option maxHeartbeats 4000000 in
set_option maxRecDepth 100000 in
theorem lcheck_any (o : Opn) (v : Value) (w : World) (hT : Tab w) (hr : o.ref.length = 32) (hv : RdV w v o.refs) (hm : o.refs.length ≤ 1000) :
    Calls Tryd.prog 14 #[opv o v] w fun e w' => e = .returned (.int .i64 (check rise o)) ∧ Below w.heap.size w w' := by
  obtain ⟨w1, hw1⟩ : ∃ u, u = w.alloc (.cells (opc o v).toArray 26) := ⟨_, rfl⟩
  obtain ⟨S, hS⟩ : ∃ S, S = w.heap.size := ⟨_, rfl⟩
  have hB : Below w.heap.size w w1 := by rw [hw1]; exact (Below.refl _ _).alloc (Nat.le_refl _) _
  have hX : CkS S o v w w1 := ⟨by rw [hw1, hS]; exact Blk.new w _ _, hT.next hB, hv.next hB, hB⟩
  have c0 := (OpBlk.of hX.op hr).k
  have HS := Lib.hid hS
  have HW := Lib.hid hw1
  have HX := Lib.hid hX
  have HR := Lib.hid hr
  have HM := Lib.hid hm
  rw [← checkS_eq]
  obtain ⟨k, hk⟩ : ∃ k, o.k = k := ⟨_, rfl⟩
  rw [hk] at c0
  have HK := Lib.hid hk
  unfold opv
  by_cases h0 : kindB k = true
  · obtain ⟨j, hj, rfl⟩ : ∃ j : Nat, j < 8 ∧ k = (j : Int) := ⟨k.toNat, by have := of_decide_eq_true h0; omega, by have := of_decide_eq_true h0; omega⟩
    have j0 : (0 : Int) ≤ (j : Int) := Int.natCast_nonneg _
    have j8 : (j : Int) < 8 := by omega
    have HE1 : Hid (kindB o.k ≠ false) := Lib.hid (by rw [hk, h0]; decide)
    obtain ⟨b, hb⟩ : ∃ b, decide (bad o) = b := ⟨_, rfl⟩
    have HGB := given_bad o j hj hk
    rw [hb] at HGB
    obtain ⟨g, hg⟩ : ∃ g, g = given o := ⟨_, rfl⟩
    obtain ⟨x, hx⟩ : ∃ x, x = tabL.getD j 0 := ⟨_, rfl⟩
    rw [← hg, ← hx] at HGB
    have HG := Lib.hid hg
    have HXX := Lib.hid hx
    have HJ := Lib.hid hj
    have HBB := Lib.hid hb
    clear hw1 hB hX hT hS hk hr hv hm hb hg hx hj
    go_enter Tryd.func14, Tryd.ntmps14
    go_upto_region 1 with fail
    refine wp_at HW.out.symm ?_
    rw [← HS.out]
    go_upto_region 3 with (go_at_call 45; with_reducible refine (isKind_any _ _).mono ?_; rintro e w2 ⟨rfl, rfl⟩; rw [h0])
    refine wp_region_held_drew (S := CkS S o v w) (by kernel_rfl) ?_ (fun hHeld => ?_)
    · exact HX.out.next ((Below.refl _ _).drew)
    refine' wpAnyH_take (i := 0) ?hik0 (by kernel_rfl) (by kernel_rfl) (by kernel_rfl) ?hqk0 (Or.inl ⟨?hwk0, ?hyk0⟩) (by assumption) ?hrk0
    case hik0 => (simp only [List.getElem?_toArray, List.getElem?_cons_succ, List.getElem?_cons_zero]; rfl)
    case hqk0 => exact fun _ _ _ h => h
    case hwk0 => rfl
    case hyk0 => exact fun w0 hSw => run_exec_load rfl rfl (run_load_op hSw.op HR.out)
    (try simp only [Act.put, List.setIfInBounds_toArray, List.set_cons_zero, List.set_cons_succ])
    refine' wpAnyH_take (i := 2) ?hik2 (by kernel_rfl) (by kernel_rfl) (by kernel_rfl) ?hqk2 (Or.inl ⟨?hwk2, ?hyk2⟩) (by assumption) ?hrk2
    case hik2 => (simp only [List.getElem?_toArray, List.getElem?_cons_succ, List.getElem?_cons_zero]; rfl)
    case hqk2 => exact fun _ _ _ h => h
    case hwk2 => rfl
    case hyk2 => (intro w0 hSw; (try dsimp only at hSw); go_simp; try with_reducible rfl)
    (try simp only [Act.put, List.setIfInBounds_toArray, List.set_cons_zero, List.set_cons_succ])
    refine' wpAnyH_take (i := 3) ?hik3 (by kernel_rfl) (by kernel_rfl) (by kernel_rfl) ?hqk3 (Or.inl ⟨?hwk3, ?hyk3⟩) (by assumption) ?hrk3
    case hik3 => (simp only [List.getElem?_toArray, List.getElem?_cons_succ, List.getElem?_cons_zero]; rfl)
    case hqk3 => exact fun _ _ _ h => h
    case hwk3 => rfl
    case hyk3 => exact fun w0 hSw => by have hc := (OpBlk.of hSw.op HR.out).k; rw [HK.out] at hc; go_simp; try with_reducible rfl
    (try simp only [Act.put, List.setIfInBounds_toArray, List.set_cons_zero, List.set_cons_succ])
    refine' wpAnyH_take (i := 4) ?hik4 (by kernel_rfl) (by kernel_rfl) (by kernel_rfl) ?hqk4 (Or.inl ⟨?hwk4, ?hyk4⟩) (by assumption) ?hrk4
    case hik4 => (simp only [List.getElem?_toArray, List.getElem?_cons_succ, List.getElem?_cons_zero]; rfl)
    case hqk4 => exact fun _ _ _ h => h
    case hwk4 => rfl
    case hyk4 => (intro w0 hSw; (try dsimp only at hSw); go_simp; try with_reducible rfl)
    (try simp only [Act.put, List.setIfInBounds_toArray, List.set_cons_zero, List.set_cons_succ])
    refine' wpAnyH_take (i := 5) ?hik5 (by kernel_rfl) (by kernel_rfl) (by kernel_rfl) ?hqk5 (Or.inl ⟨?hwk5, ?hyk5⟩) (by assumption) ?hrk5
    case hik5 => (simp only [List.getElem?_toArray, List.getElem?_cons_succ, List.getElem?_cons_zero]; rfl)
    case hqk5 => exact fun _ _ _ h => h
    case hwk5 => rfl
    case hyk5 => exact fun w0 hSw => by have hc := hSw.tab.2 j HJ.out; rw [← HXX.out] at hc; go_simp; try with_reducible rfl
    (try simp only [Act.put, List.setIfInBounds_toArray, List.set_cons_zero, List.set_cons_succ])
    refine wpAnyH_ready (rs := [1]) (by kernel_rfl) (by simp) ?_
    refine' AllReadyH.cons ?hik1 (fun K hK => ?hrk1) AllReadyH.nil
    case hik1 => (simp only [List.getElem?_toArray, List.getElem?_cons_succ, List.getElem?_cons_zero]; rfl)
    go_simp
    refine (given_any o v _ HR.out hHeld.rdv).mono ?_; rintro e w2 ⟨rfl, hb2⟩; rw [← HG.out]
    refine hK.out _ _ ?_ (fun hHeld => ?_)
    · exact hHeld.next hb2
    clear hK K
    (try simp only [Act.put, List.setIfInBounds_toArray, List.set_cons_zero, List.set_cons_succ])
    refine' wpAnyH_take (i := 6) ?hik6 (by kernel_rfl) (by kernel_rfl) (by kernel_rfl) ?hqk6 (Or.inl ⟨?hwk6, ?hyk6⟩) (by assumption) ?hrk6
    case hik6 => (simp only [List.getElem?_toArray, List.getElem?_cons_succ, List.getElem?_cons_zero]; rfl)
    case hqk6 => exact fun _ _ _ h => h
    case hwk6 => rfl
    case hyk6 => (intro w0 hSw; (try dsimp only at hSw); go_simp; try with_reducible rfl)
    (try simp only [Act.put, List.setIfInBounds_toArray, List.set_cons_zero, List.set_cons_succ])
    refine' wpAnyH_take (i := 7) ?hik7 (by kernel_rfl) (by kernel_rfl) (by kernel_rfl) ?hqk7 (Or.inl ⟨?hwk7, ?hyk7⟩) (by assumption) ?hrk7
    case hik7 => (simp only [List.getElem?_toArray, List.getElem?_cons_succ, List.getElem?_cons_zero]; rfl)
    case hqk7 => exact fun _ _ _ h => h
    case hwk7 => rfl
    case hyk7 => (intro w0 hSw; (try dsimp only at hSw); go_simp; try with_reducible rfl)
    (try simp only [Act.put, List.setIfInBounds_toArray, List.set_cons_zero, List.set_cons_succ])
    refine' wpAnyH_take (i := 8) ?hik8 (by kernel_rfl) (by kernel_rfl) (by kernel_rfl) ?hqk8 (Or.inl ⟨?hwk8, ?hyk8⟩) (by assumption) ?hrk8
    case hik8 => (simp only [List.getElem?_toArray, List.getElem?_cons_succ, List.getElem?_cons_zero]; rfl)
    case hqk8 => exact fun _ _ _ h => h
    case hwk8 => rfl
    case hyk8 => (intro w0 hSw; (try dsimp only at hSw); go_simp; try with_reducible rfl)
    (try simp only [Act.put, List.setIfInBounds_toArray, List.set_cons_zero, List.set_cons_succ])
    refine wpAnyH_done (by kernel_rfl) ?_ _
    have c1 := (OpBlk.of hHeld.op HR.out).n
    have c2 := (OpBlk.of hHeld.op HR.out).key
    have c3 := (OpBlk.of hHeld.op HR.out).val
    have c36 := (OpBlk.of hHeld.op HR.out).refs
    have c0 := (OpBlk.of hHeld.op HR.out).k
    rw [HK.out] at c0
    cases b with
    | true =>
      have HE : Hid (checkS o = 4) := Lib.hid (by unfold checkS; rw [if_neg HE1.out, if_pos (of_decide_eq_true HBB.out)])
      go_wp2_with fail
      go_ret
      exact ⟨by rw [HE.out]; rfl, hHeld.below⟩
    | false =>
      have HNB : Hid (¬ bad o) := Lib.hid (of_decide_eq_false HBB.out)
      obtain ⟨ks, hks⟩ : ∃ t, t = oct.tx o.key := ⟨_, rfl⟩
      rw [← hks] at c2
      obtain ⟨vs, hvs⟩ : ∃ t, t = oct.tx o.val := ⟨_, rfl⟩
      rw [← hvs] at c3
      have HKS : Hid (ks.size = o.key.length) := Lib.hid (by rw [hks, oct.tx_size])
      have HVS : Hid (vs.size = o.val.length) := Lib.hid (by rw [hvs, oct.tx_size])
      clear hks hvs
      by_cases kL : 16 < o.key.length
      · have kI : (16 : Int) < (ks.size : Int) := by rw [HKS.out]; omega
        have HE : Hid (checkS o = 3) := Lib.hid (by unfold checkS; rw [if_neg HE1.out, if_neg HNB.out, if_pos (.inl kL)])
        clear kL
        go_wp2_with fail
        go_ret
        exact ⟨by rw [HE.out]; rfl, hHeld.below⟩
      have kI : (ks.size : Int) ≤ 16 := by rw [HKS.out]; omega
      by_cases vL : 16 < o.val.length
      · have vI : (16 : Int) < (vs.size : Int) := by rw [HVS.out]; omega
        have HE : Hid (checkS o = 3) := Lib.hid (by unfold checkS; rw [if_neg HE1.out, if_neg HNB.out, if_pos (.inr vL)])
        clear vL kL
        go_wp2_with fail
        go_ret
        exact ⟨by rw [HE.out]; rfl, hHeld.below⟩
      have vI : (vs.size : Int) ≤ 16 := by rw [HVS.out]; omega
      have HLG : Hid (¬ (16 < o.key.length ∨ 16 < o.val.length)) := Lib.hid (by omega)
      clear kL vL
      have HNU := Lib.hid (fun u => isNumber_any (j : Int) o.n u)
      obtain ⟨nb, hnb⟩ : ∃ nb, numB (j : Int) o.n = nb := ⟨_, rfl⟩
      rw [hnb] at HNU
      have HN : Hid (numB o.k o.n = nb) := Lib.hid (by rw [HK.out]; exact hnb)
      obtain ⟨n, hn⟩ : ∃ n, n = o.n := ⟨_, rfl⟩
      rw [← hn] at c1 HNU
      clear hnb hn
      obtain ⟨ad, cap, hvf⟩ := hHeld.rdv.form
      rw [hvf] at c36
      have hIs := is_any o.refs v w2 hHeld.rdv HM.out
      rw [hvf] at hIs
      have HIS := Lib.hid hIs
      obtain ⟨ln, hln⟩ : ∃ n, n = o.refs.length := ⟨_, rfl⟩
      rw [← hln] at c36 HIS
      have HLN := Lib.hid hln
      clear hvf hIs hln
      cases nb with
      | false =>
        have HE : Hid (checkS o = 5) := Lib.hid (by unfold checkS; rw [if_neg HE1.out, if_neg HNB.out, if_neg HLG.out, if_pos HN.out])
        go_wp2_with (go_at_call 47; with_reducible refine (HNU.out _).mono ?_; rintro e w3 ⟨rfl, rfl⟩)
        go_ret
        exact ⟨by rw [HE.out]; rfl, hHeld.below⟩
      | true =>
        by_cases rL : 8 < o.refs.length
        · have rI : (8 : Int) < (ln : Int) := by rw [HLN.out]; omega
          have HE : Hid (checkS o = 6) := Lib.hid (by unfold checkS; rw [if_neg HE1.out, if_neg HNB.out, if_neg HLG.out, if_neg (by rw [HN.out]; decide), if_pos rL])
          clear rL
          go_wp2_with (go_at_call 47; with_reducible refine (HNU.out _).mono ?_; rintro e w3 ⟨rfl, rfl⟩)
          go_ret
          exact ⟨by rw [HE.out]; rfl, hHeld.below⟩
        have rI : (ln : Int) ≤ 8 := by rw [HLN.out]; omega
        have HE : Hid (checkS o = if rise o.refs = false then 4 else 0) := Lib.hid (by unfold checkS; rw [if_neg HE1.out, if_neg HNB.out, if_neg HLG.out, if_neg (by rw [HN.out]; decide), if_neg rL])
        obtain ⟨ri, hri⟩ : ∃ r, rise o.refs = r := ⟨_, rfl⟩
        rw [show (o.refs == setL o.refs) = ri from hri] at HIS
        rw [hri] at HE
        clear rL hri
        cases ri
        all_goals
          go_wp2_with (first
            | (go_at_call 47; with_reducible refine (HNU.out _).mono ?_; rintro e w3 ⟨rfl, rfl⟩)
            | (go_at_call 48; with_reducible refine HIS.out.mono ?_; rintro e w4 ⟨rfl, hb4⟩))
          go_ret
          exact ⟨by rw [HE.out]; rfl, hHeld.below.trans (hb4.mono hHeld.below.size)⟩
  · have h0 : kindB k = false := by simpa using h0
    have HE : Hid (checkS o = 10) := Lib.hid (by unfold checkS; rw [hk, if_pos h0])
    clear hw1 hB hX hT hS hk hr hv hm
    go_enter Tryd.func14, Tryd.ntmps14
    go_upto_region 1 with fail
    refine wp_at HW.out.symm ?_
    rw [← HS.out]
    go_wp2_with (go_at_call 45; with_reducible refine (isKind_any _ _).mono ?_; rintro e w2 ⟨rfl, rfl⟩; rw [h0])
    go_ret
    exact ⟨by rw [HE.out]; rfl, HX.out.below⟩
end Go.Proofs.YtmaolmogccknbaaDoor.opn
