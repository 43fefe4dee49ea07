/-
  petrelref07.Check, kinds 7.
  petrelref07.Check, any operation.
  Texts: a byte of one, a piece of one.
  petrelref01.Num of a number that fits.
-/
import Derived.Test.YtmaolmogccknbaaDoorOpw
import Derived.Test.YtmaolmogccknbaaDoorOpck1
import Derived.Test.YtmaolmogccknbaaDoorOpck2
import Derived.Test.YtmaolmogccknbaaDoorOpck3
import Derived.Test.YtmaolmogccknbaaDoorOpck4
import Derived.Test.YtmaolmogccknbaaDoorOpck5
import Derived.Test.YtmaolmogccknbaaDoorOpck6
import Derived.Test.YtmaolmogccknbaaDoorSha
import Derived.Laws.IdiomStrings
import Derived.Test.YtmaolmogccknbaaDoorOpp
import Derived.Test.YtmaolmogccknbaaDoorRef2
namespace Go.Proofs.YtmaolmogccknbaaDoor.opn
open Go.RowKit Go.Proofs.YtmaolmogccknbaaDoor.mem Go.Proofs.YtmaolmogccknbaaDoor.sha Go.Proofs.YtmaolmogccknbaaDoor.ids

set_option maxHeartbeats 4000000 in
set_option maxRecDepth 100000 in
theorem check7 (o : Opn) (v : Value) (w : World) (hk : o.k = 7) (hr : o.ref.length = 32) (hv : RdV w v o.refs) (hm : o.refs.length ≤ 1000) :
    Calls Tryd.prog 15 #[opv o v] w fun e w' => e = .returned (.int .i64 (check rise o)) ∧ Below w.heap.size w w' := by
  obtain ⟨w1, hw1⟩ : ∃ u, u = w.alloc (.cells (opc o v).toArray 26) := ⟨_, rfl⟩
  obtain ⟨S, hS⟩ : ∃ S, S = w.heap.size := ⟨_, rfl⟩
  have hX : Blk w1 S 26 (opc o v).toArray := by rw [hw1, hS]; exact Blk.new w _ _
  have hB : Below w.heap.size w w1 := by rw [hw1]; exact (Below.refl _ _).alloc (Nat.le_refl _) _
  have HC := OpBlk.of hX hr
  have hV1 := hv.next hB
  have HV := Lib.hid hV1
  have HB := Lib.hid hB
  have HS := Lib.hid hS
  have HW := Lib.hid hw1
  obtain ⟨ad, cap, rfl⟩ := hV1.form
  have c0 := HC.k
  rw [hk] at c0
  have c1 := HC.n
  have c2 := HC.key
  have c3 := HC.val
  have c36 := HC.refs
  have hl := HC.ref 0
  have HK := Lib.hid hk
  obtain ⟨V, hV⟩ : ∃ V, V = Value.slice ad o.refs.length cap := ⟨_, rfl⟩
  rw [← hV] at HW
  rw [← hV]
  have HVV := Lib.hid hV
  obtain ⟨ks, hks⟩ : ∃ s, s = oct.tx o.key := ⟨_, rfl⟩
  rw [← hks] at c2
  have HKS : Hid (ks.size = o.key.length) := Lib.hid (by rw [hks, oct.tx_size])
  obtain ⟨vs, hvs⟩ : ∃ s, s = oct.tx o.val := ⟨_, rfl⟩
  rw [← hvs] at c3
  have HVS : Hid (vs.size = o.val.length) := Lib.hid (by rw [hvs, oct.tx_size])
  have HKE := Lib.hid hks
  have HVE := Lib.hid hvs
  obtain ⟨n, hn⟩ : ∃ n, n = o.n := ⟨_, rfl⟩
  rw [← hn] at c1
  have HN := Lib.hid hn
  obtain ⟨ln, hln⟩ : ∃ n, n = o.refs.length := ⟨_, rfl⟩
  rw [← hln] at c36
  have HLN := Lib.hid hln
  have HM := Lib.hid hm
  have HR := Lib.hid hr
  obtain ⟨p, hp⟩ : ∃ p, p = hasB 7 := ⟨_, rfl⟩
  have pE : p.toList.isEmpty = false := by rw [hp]; decide +kernel
  have inN := Lib.hid (in_lit p 78 78 rfl false (by rw [hp]; decide +kernel) (by rw [hp]; decide +kernel))
  have inK := Lib.hid (in_lit p 75 75 rfl false (by rw [hp]; decide +kernel) (by rw [hp]; decide +kernel))
  have inV := Lib.hid (in_lit p 86 86 rfl false (by rw [hp]; decide +kernel) (by rw [hp]; decide +kernel))
  have inR := Lib.hid (in_lit p 82 82 rfl true (by rw [hp]; decide +kernel) (by rw [hp]; decide +kernel))
  have inS := Lib.hid (in_lit p 83 83 rfl false (by rw [hp]; decide +kernel) (by rw [hp]; decide +kernel))
  have hhas := fun u => has_any 7 u
  rw [← hp] at hhas
  have hhas := Lib.hid hhas
  have H0 : Hid (has o.k ≠ []) := Lib.hid (by rw [hk]; decide)
  have HBAD : Hid (bad o ↔ o.n ≠ 0 ∨ o.key ≠ [] ∨ o.val ≠ [] ∨ o.refs ≠ []) := Lib.hid (by unfold bad; rw [hk]; simp [has])
  clear hX hB hw1 hS hV1 HC hv hp hV hks hvs hn hln hm hr hk
  unfold opv
  by_cases hn0 : o.n = 0
  · rw [HN.out, hn0] at c1
    have HN0 := Lib.hid hn0
    clear hn0
    by_cases hk0 : o.key = []
    · have kE : ks.toList.isEmpty = true := by rw [HKE.out]; exact tx_empty _ hk0
      have HK0 := Lib.hid hk0
      clear hk0
      by_cases hv0 : o.val = []
      · have vE : vs.toList.isEmpty = true := by rw [HVE.out]; exact tx_empty _ hv0
        have HV0 := Lib.hid hv0
        clear hv0
        by_cases hs0 : o.refs = []
        · rw [HLN.out, hs0, List.length_nil] at c36
          have HS0 := Lib.hid hs0
          clear hs0
          have HNB : Hid (¬ bad o) := Lib.hid fun h => by
            rcases HBAD.out.1 h with h | h | h | h
            · exact h HN0.out
            · exact h HK0.out
            · exact h HV0.out
            · exact h HS0.out
          go_enter Tryd.func15, Tryd.ntmps15
          go_upto_region 1 with fail
          refine wp_at HW.out.symm ?_
          rw [← HS.out]
          clear HW
          go_upto_region 6 with (first
              | (go_at_call 41; with_reducible refine (hhas.out _).mono ?_; rintro e w2 ⟨rfl, rfl⟩)
              | (go_at_call 49; with_reducible refine (inN.out _).mono ?_; rintro e w2 ⟨rfl, rfl⟩)
              | (go_at_call 49; with_reducible refine (inK.out _).mono ?_; rintro e w2 ⟨rfl, rfl⟩)
              | (go_at_call 49; with_reducible refine (inV.out _).mono ?_; rintro e w2 ⟨rfl, rfl⟩)
              | (go_at_call 49; with_reducible refine (inR.out _).mono ?_; rintro e w2 ⟨rfl, rfl⟩)
              | (go_at_call 49; with_reducible refine (inS.out _).mono ?_; rintro e w2 ⟨rfl, rfl⟩))
          have kI : (ks.size : Int) ≤ 16 := by rw [HKS.out, HK0.out]; decide
          have vI : (vs.size : Int) ≤ 16 := by rw [HVS.out, HV0.out]; decide
          have HLG : Hid (¬ (16 < o.key.length ∨ 16 < o.val.length)) := Lib.hid (by have := HKS.out; have := HVS.out; omega)
          have HRG : Hid (¬ (2147483648 ≤ o.n ∨ o.n < -2147483648 ∨ (o.k = 4 ∧ o.n < 0))) := Lib.hid (by rw [HN0.out]; omega)
          have HFL : Hid (¬ 8 < o.refs.length) := Lib.hid (by rw [HS0.out]; decide)
          have hIs := ris_any o.refs ad o.refs.length cap _ HV.out (by have := HM.out; omega)
          rw [show (Value.slice ad o.refs.length cap) = Value.slice ad 0 cap by rw [HS0.out]; rfl] at hIs
          have HE : Hid (check rise o = if (o.refs == setL o.refs) = false then 4 else 0) := Lib.hid (check_rise H0.out HNB.out HLG.out HRG.out HFL.out)
          obtain ⟨b, hb⟩ : ∃ b, (o.refs == setL o.refs) = b := ⟨_, rfl⟩
          rw [hb] at hIs HE
          clear hb
          have HIS := Lib.hid hIs
          clear hIs
          cases b with
          | true =>
            go_wp2_with (go_at_call 50; refine HIS.out.mono ?_; rintro e w3 ⟨rfl, hb3⟩)
            go_ret
            exact ⟨by rw [HE.out]; rfl, HB.out.trans (hb3.mono HB.out.size)⟩
          | false =>
            go_wp2_with (go_at_call 50; refine HIS.out.mono ?_; rintro e w3 ⟨rfl, hb3⟩)
            go_ret
            exact ⟨by rw [HE.out]; rfl, HB.out.trans (hb3.mono HB.out.size)⟩
        · have sE : 0 < ln := by rw [HLN.out]; exact List.length_pos_iff.2 hs0
          have HE : Hid (check rise o = 4) := Lib.hid (check_bad H0.out (HBAD.out.2 (Or.inr (Or.inr (Or.inr (hs0))))))
          clear hs0
          go_enter Tryd.func15, Tryd.ntmps15
          go_upto_region 1 with fail
          refine wp_at HW.out.symm ?_
          rw [← HS.out]
          clear HW
          go_wp2_with (first
              | (go_at_call 41; with_reducible refine (hhas.out _).mono ?_; rintro e w2 ⟨rfl, rfl⟩)
              | (go_at_call 49; with_reducible refine (inN.out _).mono ?_; rintro e w2 ⟨rfl, rfl⟩)
              | (go_at_call 49; with_reducible refine (inK.out _).mono ?_; rintro e w2 ⟨rfl, rfl⟩)
              | (go_at_call 49; with_reducible refine (inV.out _).mono ?_; rintro e w2 ⟨rfl, rfl⟩)
              | (go_at_call 49; with_reducible refine (inR.out _).mono ?_; rintro e w2 ⟨rfl, rfl⟩)
              | (go_at_call 49; with_reducible refine (inS.out _).mono ?_; rintro e w2 ⟨rfl, rfl⟩))
          go_ret
          exact ⟨by rw [HE.out]; rfl, HB.out⟩
      · have vE : vs.toList.isEmpty = false := by rw [HVE.out]; exact tx_nonempty _ hv0
        have HE : Hid (check rise o = 4) := Lib.hid (check_bad H0.out (HBAD.out.2 (Or.inr (Or.inr (Or.inl hv0)))))
        clear hv0
        go_enter Tryd.func15, Tryd.ntmps15
        go_upto_region 1 with fail
        refine wp_at HW.out.symm ?_
        rw [← HS.out]
        clear HW
        go_wp2_with (first
              | (go_at_call 41; with_reducible refine (hhas.out _).mono ?_; rintro e w2 ⟨rfl, rfl⟩)
              | (go_at_call 49; with_reducible refine (inN.out _).mono ?_; rintro e w2 ⟨rfl, rfl⟩)
              | (go_at_call 49; with_reducible refine (inK.out _).mono ?_; rintro e w2 ⟨rfl, rfl⟩)
              | (go_at_call 49; with_reducible refine (inV.out _).mono ?_; rintro e w2 ⟨rfl, rfl⟩)
              | (go_at_call 49; with_reducible refine (inR.out _).mono ?_; rintro e w2 ⟨rfl, rfl⟩)
              | (go_at_call 49; with_reducible refine (inS.out _).mono ?_; rintro e w2 ⟨rfl, rfl⟩))
        go_ret
        exact ⟨by rw [HE.out]; rfl, HB.out⟩
    · have kE : ks.toList.isEmpty = false := by rw [HKE.out]; exact tx_nonempty _ hk0
      have HE : Hid (check rise o = 4) := Lib.hid (check_bad H0.out (HBAD.out.2 (Or.inr (Or.inl hk0))))
      clear hk0
      go_enter Tryd.func15, Tryd.ntmps15
      go_upto_region 1 with fail
      refine wp_at HW.out.symm ?_
      rw [← HS.out]
      clear HW
      go_wp2_with (first
              | (go_at_call 41; with_reducible refine (hhas.out _).mono ?_; rintro e w2 ⟨rfl, rfl⟩)
              | (go_at_call 49; with_reducible refine (inN.out _).mono ?_; rintro e w2 ⟨rfl, rfl⟩)
              | (go_at_call 49; with_reducible refine (inK.out _).mono ?_; rintro e w2 ⟨rfl, rfl⟩)
              | (go_at_call 49; with_reducible refine (inV.out _).mono ?_; rintro e w2 ⟨rfl, rfl⟩)
              | (go_at_call 49; with_reducible refine (inR.out _).mono ?_; rintro e w2 ⟨rfl, rfl⟩)
              | (go_at_call 49; with_reducible refine (inS.out _).mono ?_; rintro e w2 ⟨rfl, rfl⟩))
      go_ret
      exact ⟨by rw [HE.out]; rfl, HB.out⟩
  · have nE : (n != 0) = true := bne_iff_ne.2 (by rw [HN.out]; exact hn0)
    have HE : Hid (check rise o = 4) := Lib.hid (check_bad H0.out (HBAD.out.2 (Or.inl hn0)))
    clear hn0
    go_enter Tryd.func15, Tryd.ntmps15
    go_upto_region 1 with fail
    refine wp_at HW.out.symm ?_
    rw [← HS.out]
    clear HW
    go_wp2_with (first
              | (go_at_call 41; with_reducible refine (hhas.out _).mono ?_; rintro e w2 ⟨rfl, rfl⟩)
              | (go_at_call 49; with_reducible refine (inN.out _).mono ?_; rintro e w2 ⟨rfl, rfl⟩)
              | (go_at_call 49; with_reducible refine (inK.out _).mono ?_; rintro e w2 ⟨rfl, rfl⟩)
              | (go_at_call 49; with_reducible refine (inV.out _).mono ?_; rintro e w2 ⟨rfl, rfl⟩)
              | (go_at_call 49; with_reducible refine (inR.out _).mono ?_; rintro e w2 ⟨rfl, rfl⟩)
              | (go_at_call 49; with_reducible refine (inS.out _).mono ?_; rintro e w2 ⟨rfl, rfl⟩))
    go_ret
    exact ⟨by rw [HE.out]; rfl, HB.out⟩
end Go.Proofs.YtmaolmogccknbaaDoor.opn

namespace Go.Proofs.YtmaolmogccknbaaDoor.opn
open Go.RowKit Go.Proofs.YtmaolmogccknbaaDoor.mem Go.Proofs.YtmaolmogccknbaaDoor.sha Go.Proofs.YtmaolmogccknbaaDoor.ids

theorem has_none {k : Int} (h : has k = []) : hasB k = ⟨#[]⟩ := by unfold hasB; rw [h]; rfl
set_option maxHeartbeats 2000000 in
set_option maxRecDepth 100000 in
theorem check0 (o : Opn) (v : Value) (w : World) (h0 : has o.k = []) (hr : o.ref.length = 32) :
    Calls Tryd.prog 15 #[opv o v] w fun e w' => e = .returned (.int .i64 (check rise o)) ∧ Below w.heap.size w w' := by
  obtain ⟨w1, hw1⟩ : ∃ u, u = w.alloc (.cells (opc o v).toArray 26) := ⟨_, rfl⟩
  obtain ⟨S, hS⟩ : ∃ S, S = w.heap.size := ⟨_, rfl⟩
  have hX : Blk w1 S 26 (opc o v).toArray := by rw [hw1, hS]; exact Blk.new w _ _
  have hB : Below w.heap.size w w1 := by rw [hw1]; exact (Below.refl _ _).alloc (Nat.le_refl _) _
  have HC := OpBlk.of hX hr
  have HB := Lib.hid hB
  have HS := Lib.hid hS
  have HW := Lib.hid hw1
  have c0 := HC.k
  have HE : Hid (check rise o = 10) := Lib.hid (by unfold check; rw [if_pos h0])
  have hhas := fun u => has_any o.k u
  rw [has_none h0] at hhas
  have HH := Lib.hid hhas
  clear hX hB hw1 hS HC h0 hhas
  unfold opv
  go_enter Tryd.func15, Tryd.ntmps15
  go_upto_region 1 with fail
  refine wp_at HW.out.symm ?_
  rw [← HS.out]
  clear HW
  go_wp2_with (go_at_call 41; with_reducible refine (HH.out _).mono ?_; rintro e w2 ⟨rfl, rfl⟩)
  go_ret
  exact ⟨by rw [HE.out]; rfl, HB.out⟩

theorem check_any (o : Opn) (v : Value) (w : World) (hr : o.ref.length = 32) (hv : RdV w v o.refs) (hm : o.refs.length ≤ 1000) :
    Calls Tryd.prog 15 #[opv o v] w fun e w' => e = .returned (.int .i64 (check rise o)) ∧ Below w.heap.size w w' := by
  by_cases h0 : has o.k = []
  · exact check0 o v w h0 hr
  rcases kind_of h0 with h | h | h | h | h | h | h
  · exact check1 o v w h hr hv hm
  · exact check2 o v w h hr hv hm
  · exact check3 o v w h hr hv hm
  · exact check4 o v w h hr hv hm
  · exact check5 o v w h hr hv hm
  · exact check6 o v w h hr hv hm
  · exact check7 o v w h hr hv hm

/-! petrelref07.Same. -/
def sameO (a b : Opn) : Bool := decide (a.k = b.k) && (decide (a.n = b.n) && (decide (a.key = b.key) && (decide (a.val = b.val) && (decide (a.ref = b.ref) && decide (a.refs = b.refs)))))
theorem sameO_iff (a b : Opn) : sameO a b = true ↔ a = b := by
  obtain ⟨k, n, key, val, ref, refs⟩ := a
  obtain ⟨k', n', key', val', ref', refs'⟩ := b
  simp [sameO]
theorem tx_beq (a b : List UInt8) : ((oct.tx a).toList == (oct.tx b).toList) = decide (a = b) := by
  rw [ByteArray.toList_eq, ByteArray.toList_eq, oct.tx_list, oct.tx_list, Bool.eq_iff_iff, beq_iff_eq, decide_eq_true_iff]
end Go.Proofs.YtmaolmogccknbaaDoor.opn

namespace Go.Proofs.YtmaolmogccknbaaDoor.strx
open Go.RowKit Go.Proofs.YtmaolmogccknbaaDoor.mem Go.Proofs.YtmaolmogccknbaaDoor.sha

theorem size_list (s : ByteArray) : s.size = s.data.toList.length := Array.length_toList.symm
theorem run_index_str (s : ByteArray) (k : Nat) (h : k < s.size) (w : World) : (Instr.index 9 (.string s) (.int .i64 (k : Int))).run Tryd.prog w = .ok (.int .u8 (B (s.data.toList.getD k 0))) w := by
  have hs : s[k]? = some (s.data.toList.getD k 0) := by
    rw [List.getD_eq_getElem?_getD, List.getElem?_eq_getElem (by rw [← size_list]; exact h)]
    simp [getElem?_pos s k h]
    rfl
  have h0 : (0 : Int) ≤ (k : Int) := Int.natCast_nonneg _
  simp [Instr.index, asIntOf, run_underlying Tryd.underlying9, hs]
  rfl
/-- where the place is another expression -/
theorem run_index_int (s : ByteArray) (i : Int) (k : Nat) (hi : i = (k : Int)) (h : k < s.size) (w : World) : (Instr.index 9 (.string s) (.int .i64 i)).run Tryd.prog w = .ok (.int .u8 (B (s.data.toList.getD k 0))) w := by
  subst hi; exact run_index_str s k h w
/-- a text of bytes -/
def bt (l : List UInt8) : ByteArray := ⟨l.toArray⟩
theorem bt_list (l : List UInt8) : (bt l).data.toList = l := rfl
theorem bt_of (s : ByteArray) : bt s.data.toList = s := rfl
theorem bt_size (l : List UInt8) : (bt l).size = l.length := by rw [size_list]; rfl
theorem bt_append (l m : List UInt8) : bt l ++ bt m = bt (l ++ m) := by
  apply ByteArray.ext
  rw [ByteArray.data_append]
  simp [bt]
theorem ext_list (s : ByteArray) (m : Nat) : (s.extract m s.size).data.toList = s.data.toList.drop m := by
  rw [ByteArray.data_extract, Array.toList_extract, List.extract_eq_take_drop, List.take_of_length_le]
  rw [List.length_drop, ← size_list]
  exact Nat.le_refl _
theorem ext_bt (s : ByteArray) (m : Nat) : s.extract m s.size = bt (s.data.toList.drop m) := by rw [← ext_list, bt_of]
/-- a piece of a text, from its byte m on -/
theorem run_slice_str (s : ByteArray) (m : Nat) (h : m ≤ s.size) (w : World) : (Instr.sliceAt 9 (.string s) (some (.int .i64 (m : Int))) none none).run Tryd.prog w = .ok (.string (bt (s.data.toList.drop m))) w := by
  rw [← ext_bt]
  have h0 : (0 : Int) ≤ (m : Int) := Int.natCast_nonneg _
  have h1 : (m : Int) ≤ (s.size : Int) := by omega
  simp only [Instr.sliceAt, Instr.slice, Instr.sliceBounds, Instr.sliceBound, asIntOf, sizeOf, Sem.run_bind, Result.andThen_ok, run_underlying Tryd.underlying9]
  simp [h]
theorem to_bt (s : ByteArray) (m : Nat) : s.extract 0 m = bt (s.data.toList.take m) := by
  apply ByteArray.ext
  rw [ByteArray.data_extract]
  apply Array.ext'
  rw [Array.toList_extract, List.extract_eq_take_drop, List.drop_zero, Nat.sub_zero]
  rfl
/-- a piece of a text, up to its byte m -/
theorem run_slice_to (s : ByteArray) (m : Nat) (h : m ≤ s.size) (w : World) : (Instr.sliceAt 9 (.string s) none (some (.int .i64 (m : Int))) none).run Tryd.prog w = .ok (.string (bt (s.data.toList.take m))) w := by
  rw [← to_bt]
  have h0 : (0 : Int) ≤ (m : Int) := Int.natCast_nonneg _
  have h1 : (m : Int) ≤ (s.size : Int) := by omega
  simp only [Instr.sliceAt, Instr.slice, Instr.sliceBounds, Instr.sliceBound, asIntOf, sizeOf, Sem.run_bind, Result.andThen_ok, run_underlying Tryd.underlying9]
  simp [h]
end Go.Proofs.YtmaolmogccknbaaDoor.strx

namespace Go.Proofs.YtmaolmogccknbaaDoor.opn
open Go.RowKit Go.Proofs.YtmaolmogccknbaaDoor.mem Go.Proofs.YtmaolmogccknbaaDoor.sha

theorem tx_app (a b : List UInt8) : oct.tx a ++ oct.tx b = oct.tx (a ++ b) := by
  apply oct.bytes_ext
  rw [ByteArray.data_append, Array.toList_append, oct.tx_list, oct.tx_list, oct.tx_list]
theorem num1_r (n : Int) (h0 : 0 ≤ n) (h1 : n < 256) (w : World) : Calls Tryd.prog 40 #[.int .i64 n, .int .i64 1] w fun e w' => e = .returned (.tuple #[.string (oct.tx (b1 n)), .int .i64 0]) ∧ Below w.heap.size w w' := by
  have := oct.refnum_any n 1 w
  rw [show oct.refNum n 1 = (oct.tx (b1 n), 0) by
    unfold oct.refNum
    rw [if_neg (by unfold oct.numErr; rw [if_neg (by decide), if_neg (by simp; omega)]; decide)]
    rfl] at this
  exact this
theorem num4_r (n : Int) (h0 : 0 ≤ n) (h1 : n < 4294967296) (w : World) : Calls Tryd.prog 40 #[.int .i64 n, .int .i64 4] w fun e w' => e = .returned (.tuple #[.string (oct.tx (b4 n)), .int .i64 0]) ∧ Below w.heap.size w w' := by
  have := oct.refnum_any n 4 w
  rw [show oct.refNum n 4 = (oct.tx (b4 n), 0) by
    unfold oct.refNum
    rw [if_neg (by unfold oct.numErr; rw [if_neg (by decide), if_neg (by simp; omega)]; decide)]
    rfl] at this
  exact this

theorem num2_r (n : Int) (h0 : 0 ≤ n) (h1 : n < 65536) (w : World) : Calls Tryd.prog 40 #[.int .i64 n, .int .i64 2] w fun e w' => e = .returned (.tuple #[.string (oct.tx (b2 n)), .int .i64 0]) ∧ Below w.heap.size w w' := by
  have := oct.refnum_any n 2 w
  rw [show oct.refNum n 2 = (oct.tx (b2 n), 0) by
    unfold oct.refNum
    rw [if_neg (by unfold oct.numErr; rw [if_neg (by decide), if_neg (by simp; omega)]; decide)]
    rfl] at this
  exact this

end Go.Proofs.YtmaolmogccknbaaDoor.opn
