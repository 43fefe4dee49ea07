/-
  petrelref07.Check, kinds 6.
-/
import Derived.Test.YtmaolmogccknbaaDoorOpw
namespace Go.Proofs.YtmaolmogccknbaaDoor.opn
open Go.RowKit Go.Proofs.YtmaolmogccknbaaDoor.mem Go.Proofs.YtmaolmogccknbaaDoor.sha Go.Proofs.YtmaolmogccknbaaDoor.ids

set_option maxHeartbeats 4000000 in
set_option maxRecDepth 100000 in
theorem check6 (o : Opn) (v : Value) (w : World) (hk : o.k = 6) (hr : o.ref.length = 32) (hv : RdV w v o.refs) (hm : o.refs.length ≤ 1000) :
    Calls Tryd.prog 15 #[opv o v] w fun e w' => e = .returned (.int .i64 (check rise o)) ∧ Below w.heap.size w w' := by
  obtain ⟨w1, hw1⟩ : ∃ u, u = w.alloc (.cells (opc o v).toArray 26) := ⟨_, rfl⟩
  obtain ⟨S, hS⟩ : ∃ S, S = w.heap.size := ⟨_, rfl⟩
  have hX : Blk w1 S 26 (opc o v).toArray := by rw [hw1, hS]; exact Blk.new w _ _
  have hB : Below w.heap.size w w1 := by rw [hw1]; exact (Below.refl _ _).alloc (Nat.le_refl _) _
  have HC := OpBlk.of hX hr
  have hV1 := hv.next hB
  have HV := Lib.hid hV1
  have HB := Lib.hid hB
  have HS := Lib.hid hS
  have HW := Lib.hid hw1
  obtain ⟨ad, cap, rfl⟩ := hV1.form
  have c0 := HC.k
  rw [hk] at c0
  have c1 := HC.n
  have c2 := HC.key
  have c3 := HC.val
  have c36 := HC.refs
  have hl := HC.ref 0
  have HK := Lib.hid hk
  obtain ⟨V, hV⟩ : ∃ V, V = Value.slice ad o.refs.length cap := ⟨_, rfl⟩
  rw [← hV] at HW
  rw [← hV]
  have HVV := Lib.hid hV
  obtain ⟨ks, hks⟩ : ∃ s, s = oct.tx o.key := ⟨_, rfl⟩
  rw [← hks] at c2
  have HKS : Hid (ks.size = o.key.length) := Lib.hid (by rw [hks, oct.tx_size])
  obtain ⟨vs, hvs⟩ : ∃ s, s = oct.tx o.val := ⟨_, rfl⟩
  rw [← hvs] at c3
  have HVS : Hid (vs.size = o.val.length) := Lib.hid (by rw [hvs, oct.tx_size])
  have HKE := Lib.hid hks
  have HVE := Lib.hid hvs
  obtain ⟨n, hn⟩ : ∃ n, n = o.n := ⟨_, rfl⟩
  rw [← hn] at c1
  have HN := Lib.hid hn
  obtain ⟨ln, hln⟩ : ∃ n, n = o.refs.length := ⟨_, rfl⟩
  rw [← hln] at c36
  have HLN := Lib.hid hln
  have HM := Lib.hid hm
  have HR := Lib.hid hr
  obtain ⟨p, hp⟩ : ∃ p, p = hasB 6 := ⟨_, rfl⟩
  have pE : p.toList.isEmpty = false := by rw [hp]; decide +kernel
  have inN := Lib.hid (in_lit p 78 78 rfl false (by rw [hp]; decide +kernel) (by rw [hp]; decide +kernel))
  have inK := Lib.hid (in_lit p 75 75 rfl false (by rw [hp]; decide +kernel) (by rw [hp]; decide +kernel))
  have inV := Lib.hid (in_lit p 86 86 rfl true (by rw [hp]; decide +kernel) (by rw [hp]; decide +kernel))
  have inR := Lib.hid (in_lit p 82 82 rfl true (by rw [hp]; decide +kernel) (by rw [hp]; decide +kernel))
  have inS := Lib.hid (in_lit p 83 83 rfl false (by rw [hp]; decide +kernel) (by rw [hp]; decide +kernel))
  have hhas := fun u => has_any 6 u
  rw [← hp] at hhas
  have hhas := Lib.hid hhas
  have H0 : Hid (has o.k ≠ []) := Lib.hid (by rw [hk]; decide)
  have HBAD : Hid (bad o ↔ o.n ≠ 0 ∨ o.key ≠ [] ∨ o.refs ≠ []) := Lib.hid (by unfold bad; rw [hk]; simp [has])
  clear hX hB hw1 hS hV1 HC hv hp hV hks hvs hn hln hm hr hk
  unfold opv
  by_cases hn0 : o.n = 0
  · rw [HN.out, hn0] at c1
    have HN0 := Lib.hid hn0
    clear hn0
    by_cases hk0 : o.key = []
    · have kE : ks.toList.isEmpty = true := by rw [HKE.out]; exact tx_empty _ hk0
      have HK0 := Lib.hid hk0
      clear hk0
      by_cases hs0 : o.refs = []
      · rw [HLN.out, hs0, List.length_nil] at c36
        have HS0 := Lib.hid hs0
        clear hs0
        have HNB : Hid (¬ bad o) := Lib.hid fun h => by
          rcases HBAD.out.1 h with h | h | h
          · exact h HN0.out
          · exact h HK0.out
          · exact h HS0.out
        go_enter Tryd.func15, Tryd.ntmps15
        go_upto_region 1 with fail
        refine wp_at HW.out.symm ?_
        rw [← HS.out]
        clear HW
        go_upto_region 6 with (first
              | (go_at_call 41; with_reducible refine (hhas.out _).mono ?_; rintro e w2 ⟨rfl, rfl⟩)
              | (go_at_call 49; with_reducible refine (inN.out _).mono ?_; rintro e w2 ⟨rfl, rfl⟩)
              | (go_at_call 49; with_reducible refine (inK.out _).mono ?_; rintro e w2 ⟨rfl, rfl⟩)
              | (go_at_call 49; with_reducible refine (inV.out _).mono ?_; rintro e w2 ⟨rfl, rfl⟩)
              | (go_at_call 49; with_reducible refine (inR.out _).mono ?_; rintro e w2 ⟨rfl, rfl⟩)
              | (go_at_call 49; with_reducible refine (inS.out _).mono ?_; rintro e w2 ⟨rfl, rfl⟩))
        have kI : (ks.size : Int) ≤ 16 := by rw [HKS.out, HK0.out]; decide
        by_cases vL : 16 < o.val.length
        · have vI : (16 : Int) < (vs.size : Int) := by rw [HVS.out]; omega
          have HE : Hid (check rise o = 3) := Lib.hid (check_long H0.out HNB.out (.inr vL))
          clear vL
          go_wp2_with fail
          go_ret
          exact ⟨by rw [HE.out]; rfl, HB.out⟩
        have vI : (vs.size : Int) ≤ 16 := by rw [HVS.out]; omega
        have HLG : Hid (¬ (16 < o.key.length ∨ 16 < o.val.length)) := Lib.hid (by have := HKS.out; have := HVS.out; omega)
        clear vL
        have HRG : Hid (¬ (2147483648 ≤ o.n ∨ o.n < -2147483648 ∨ (o.k = 4 ∧ o.n < 0))) := Lib.hid (by rw [HN0.out]; omega)
        have HFL : Hid (¬ 8 < o.refs.length) := Lib.hid (by rw [HS0.out]; decide)
        have hIs := ris_any o.refs ad o.refs.length cap _ HV.out (by have := HM.out; omega)
        rw [show (Value.slice ad o.refs.length cap) = Value.slice ad 0 cap by rw [HS0.out]; rfl] at hIs
        have HE : Hid (check rise o = if (o.refs == setL o.refs) = false then 4 else 0) := Lib.hid (check_rise H0.out HNB.out HLG.out HRG.out HFL.out)
        obtain ⟨b, hb⟩ : ∃ b, (o.refs == setL o.refs) = b := ⟨_, rfl⟩
        rw [hb] at hIs HE
        clear hb
        have HIS := Lib.hid hIs
        clear hIs
        cases b with
        | true =>
          go_wp2_with (go_at_call 50; refine HIS.out.mono ?_; rintro e w3 ⟨rfl, hb3⟩)
          go_ret
          exact ⟨by rw [HE.out]; rfl, HB.out.trans (hb3.mono HB.out.size)⟩
        | false =>
          go_wp2_with (go_at_call 50; refine HIS.out.mono ?_; rintro e w3 ⟨rfl, hb3⟩)
          go_ret
          exact ⟨by rw [HE.out]; rfl, HB.out.trans (hb3.mono HB.out.size)⟩
      · have sE : 0 < ln := by rw [HLN.out]; exact List.length_pos_iff.2 hs0
        have HE : Hid (check rise o = 4) := Lib.hid (check_bad H0.out (HBAD.out.2 (Or.inr (Or.inr (hs0)))))
        clear hs0
        go_enter Tryd.func15, Tryd.ntmps15
        go_upto_region 1 with fail
        refine wp_at HW.out.symm ?_
        rw [← HS.out]
        clear HW
        go_wp2_with (first
              | (go_at_call 41; with_reducible refine (hhas.out _).mono ?_; rintro e w2 ⟨rfl, rfl⟩)
              | (go_at_call 49; with_reducible refine (inN.out _).mono ?_; rintro e w2 ⟨rfl, rfl⟩)
              | (go_at_call 49; with_reducible refine (inK.out _).mono ?_; rintro e w2 ⟨rfl, rfl⟩)
              | (go_at_call 49; with_reducible refine (inV.out _).mono ?_; rintro e w2 ⟨rfl, rfl⟩)
              | (go_at_call 49; with_reducible refine (inR.out _).mono ?_; rintro e w2 ⟨rfl, rfl⟩)
              | (go_at_call 49; with_reducible refine (inS.out _).mono ?_; rintro e w2 ⟨rfl, rfl⟩))
        go_ret
        exact ⟨by rw [HE.out]; rfl, HB.out⟩
    · have kE : ks.toList.isEmpty = false := by rw [HKE.out]; exact tx_nonempty _ hk0
      have HE : Hid (check rise o = 4) := Lib.hid (check_bad H0.out (HBAD.out.2 (Or.inr (Or.inl hk0))))
      clear hk0
      go_enter Tryd.func15, Tryd.ntmps15
      go_upto_region 1 with fail
      refine wp_at HW.out.symm ?_
      rw [← HS.out]
      clear HW
      go_wp2_with (first
              | (go_at_call 41; with_reducible refine (hhas.out _).mono ?_; rintro e w2 ⟨rfl, rfl⟩)
              | (go_at_call 49; with_reducible refine (inN.out _).mono ?_; rintro e w2 ⟨rfl, rfl⟩)
              | (go_at_call 49; with_reducible refine (inK.out _).mono ?_; rintro e w2 ⟨rfl, rfl⟩)
              | (go_at_call 49; with_reducible refine (inV.out _).mono ?_; rintro e w2 ⟨rfl, rfl⟩)
              | (go_at_call 49; with_reducible refine (inR.out _).mono ?_; rintro e w2 ⟨rfl, rfl⟩)
              | (go_at_call 49; with_reducible refine (inS.out _).mono ?_; rintro e w2 ⟨rfl, rfl⟩))
      go_ret
      exact ⟨by rw [HE.out]; rfl, HB.out⟩
  · have nE : (n != 0) = true := bne_iff_ne.2 (by rw [HN.out]; exact hn0)
    have HE : Hid (check rise o = 4) := Lib.hid (check_bad H0.out (HBAD.out.2 (Or.inl hn0)))
    clear hn0
    go_enter Tryd.func15, Tryd.ntmps15
    go_upto_region 1 with fail
    refine wp_at HW.out.symm ?_
    rw [← HS.out]
    clear HW
    go_wp2_with (first
              | (go_at_call 41; with_reducible refine (hhas.out _).mono ?_; rintro e w2 ⟨rfl, rfl⟩)
              | (go_at_call 49; with_reducible refine (inN.out _).mono ?_; rintro e w2 ⟨rfl, rfl⟩)
              | (go_at_call 49; with_reducible refine (inK.out _).mono ?_; rintro e w2 ⟨rfl, rfl⟩)
              | (go_at_call 49; with_reducible refine (inV.out _).mono ?_; rintro e w2 ⟨rfl, rfl⟩)
              | (go_at_call 49; with_reducible refine (inR.out _).mono ?_; rintro e w2 ⟨rfl, rfl⟩)
              | (go_at_call 49; with_reducible refine (inS.out _).mono ?_; rintro e w2 ⟨rfl, rfl⟩))
    go_ret
    exact ⟨by rw [HE.out]; rfl, HB.out⟩
end Go.Proofs.YtmaolmogccknbaaDoor.opn
