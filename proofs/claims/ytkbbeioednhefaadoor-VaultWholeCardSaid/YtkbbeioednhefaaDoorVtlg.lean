/-
  petrellaw13.long: is something longer than is asked for.
-/
import Derived.Test.YtkbbeioednhefaaDoorOpentx
namespace Go.Proofs.YtkbbeioednhefaaDoor.vt
open Go.RowKit Go.Proofs.YtkbbeioednhefaaDoor.mem Go.Proofs.YtkbbeioednhefaaDoor.sha Go.Proofs.YtkbbeioednhefaaDoor.strx Go.Proofs.YtkbbeioednhefaaDoor.rows Go.Proofs.YtkbbeioednhefaaDoor.ids Go.Proofs.YtkbbeioednhefaaDoor.txl

def longV (s : Nat) (L : List (List UInt8)) : Bool := (L.take 20).any (fun x => decide (300 < x.length)) || (decide (300 < s) || decide (20 < L.length))
theorem long_no {s : Nat} {L : List (List UInt8)} (h : longV s L = false) : s ≤ 300 ∧ L.length ≤ 20 ∧ ∀ x ∈ L, x.length ≤ 300 := by
  unfold longV at h
  rw [Bool.or_eq_false_iff, Bool.or_eq_false_iff] at h
  obtain ⟨h1, h2, h3⟩ := h
  have h2 := of_decide_eq_false h2
  have h3 := of_decide_eq_false h3
  refine ⟨by omega, by omega, fun x hx => ?_⟩
  rw [List.take_of_length_le (by omega)] at h1
  have := List.any_eq_false.1 h1 x hx
  simp only [decide_eq_true_eq] at this
  omega
theorem any_take_succ (L : List (List UInt8)) (i : Nat) (h : i < L.length) (f : List UInt8 → Bool) : (L.take (i + 1)).any f = ((L.take i).any f || f (L.getD i [])) := by
  rw [List.take_succ_eq_append_getElem h, List.any_append, List.getD_eq_getElem?_getD, List.getElem?_eq_getElem h]
  simp
theorem any_take_le (L : List (List UInt8)) {i j : Nat} (h : i ≤ j) (f : List UInt8 → Bool) (hi : (L.take i).any f = true) : (L.take j).any f = true := by
  obtain ⟨x, hx, hf⟩ := List.any_eq_true.1 hi
  refine List.any_eq_true.2 ⟨x, ?_, hf⟩
  rw [← Nat.min_eq_left h, ← List.take_take] at hx
  exact List.mem_of_mem_take hx
set_option maxHeartbeats 4000000 in
set_option maxRecDepth 100000 in
theorem long_any {N : Nat → Prop} {v : Value} {L : List (List UInt8)} {w : World} (K n : Int) (s : ByteArray) (hR : TxA w N v L) (hl : L.length ≤ 9223372036854775807) :
    Calls Tryd.prog 31 #[.agg #[.int .i64 K, .string s, v, .int .i64 n]] w fun e w' => e = .returned (.bool (longV s.size L)) ∧ Below w.heap.size w w' := by
  obtain ⟨ad, cap, rfl, hC⟩ := hR
  obtain ⟨ans, hans⟩ : ∃ a, a = longV s.size L := ⟨_, rfl⟩
  rw [← hans]
  have HANS := Lib.hid hans
  have HC := Lib.hid hC
  obtain ⟨m, hm⟩ : ∃ m, m = L.length := ⟨_, rfl⟩
  have HM := Lib.hid hm
  rw [← hm] at hl ⊢
  have m0 : (0 : Int) ≤ (m : Int) := Int.natCast_nonneg _
  have hb : Below w.heap.size w (w.alloc (.cells #[.int .i64 K, .string s, .slice ad m cap, .int .i64 n] 65)) := (Below.refl _ w).alloc (Nat.le_refl _) _
  have hB := Blk.new w 65 #[.int .i64 K, .string s, .slice ad m cap, .int .i64 n]
  obtain ⟨u, hu⟩ : ∃ u, u = w.alloc (.cells #[.int .i64 K, .string s, .slice ad m cap, .int .i64 n] 65) := ⟨_, rfl⟩
  rw [← hu] at hb hB
  have HB := Lib.hid hb
  have c1 : u.cell? ⟨w.heap.size, 1, none⟩ = some (.string s) := hB.cell 1
  have c2 : u.cell? ⟨w.heap.size, 2, none⟩ = some (.slice ad m cap) := hB.cell 2
  have HU := Lib.hid hu
  clear hans hC hm hb hB hu
  go_enter Tryd.func31, Tryd.ntmps31
  go_upto_region 1 with fail
  rw [← HU.out]
  go_wp2_with fail
  go_loopg [4] 21 (fun gk s4 wr => u = wr ∧ ∃ i : Nat, s4 = .int .i64 i ∧ i ≤ m ∧ i ≤ 20 ∧ 20 - i < gk ∧ Hid ((L.take i).any (fun x => decide (300 < x.length)) = false))
  case atStart => exact ⟨rfl, 0, rfl, Nat.zero_le _, Nat.zero_le _, by omega, Lib.hid rfl⟩
  case round =>
    obtain ⟨rfl, i, rfl, hi, hi20, hgk, HE⟩ := hrel
    have i0 : (0 : Int) ≤ (i : Int) := Int.natCast_nonneg _
    by_cases hlt : i < m ∧ i < 20
    · obtain ⟨hin, hi2⟩ := hlt
      have i1 : (i : Int) < (m : Int) := by omega
      have i2 : (i : Int) < 20 := by omega
      obtain ⟨b, off, rfl, hbl, _, a0⟩ := HC.out i (by have := HM.out; omega)
      replace a0 := (HB.out.cell (p := ⟨b, off + i, none⟩) hbl).trans a0
      obtain ⟨x, hx⟩ : ∃ x, x = L.getD i [] := ⟨_, rfl⟩
      rw [← hx] at a0
      have hz := bt_size x
      obtain ⟨t, ht⟩ : ∃ t, t = bt x := ⟨_, rfl⟩
      rw [← ht] at a0 hz
      have hsu := any_take_succ L i (by have := HM.out; omega) (fun x => decide (300 < x.length))
      rw [HE.out, Bool.false_or, ← hx] at hsu
      by_cases hb3 : 300 < x.length
      · have hbz : (300 : Int) < (t.size : Int) := by omega
        have hA : ans = true := by
          rw [HANS.out]
          unfold longV
          rw [any_take_le L (show i + 1 ≤ 20 by omega) _ (hsu.trans (decide_eq_true hb3)), Bool.true_or]
        have HA := Lib.hid hA
        clear hx ht hz hsu hA
        go_wp2_with fail
        go_ret
        exact ⟨by rw [HA.out]; rfl, HB.out⟩
      · have hbz : ¬ (300 : Int) < (t.size : Int) := by omega
        have HS := Lib.hid (hsu.trans (decide_eq_false hb3))
        clear hx ht hz hsu
        go_wp2_with fail
        go_roundg (20 - i)
        case measure => omega
        case rel => exact ⟨rfl, i + 1, by go_num, hin, hi2, by omega, HS⟩
    · have hE20 : (L.take 20).any (fun x => decide (300 < x.length)) = false := by
        by_cases h : i = m
        · rw [← HE.out, List.take_of_length_le (i := i) (by have := HM.out; omega), List.take_of_length_le (by have := HM.out; omega)]
        · rw [← HE.out, show i = 20 by omega]
      have hA : ans = (decide (300 < s.size) || decide (20 < m)) := by
        rw [HANS.out, HM.out]
        unfold longV
        rw [hE20, Bool.false_or]
      have HA := Lib.hid hA
      clear hE20 hA
      by_cases hs : 300 < s.size
      · have hsz : (300 : Int) < (s.size : Int) := by omega
        have HAT := Lib.hid (show ans = true by rw [HA.out, decide_eq_true hs, Bool.true_or])
        clear hs
        by_cases hin : (i : Int) < (m : Int)
        · have hi6 : ¬ (i : Int) < 20 := by omega
          go_wp2_with fail
          go_ret
          exact ⟨by rw [HAT.out]; rfl, HB.out⟩
        · go_wp2_with fail
          go_ret
          exact ⟨by rw [HAT.out]; rfl, HB.out⟩
      · have hsz : ¬ (300 : Int) < (s.size : Int) := by omega
        by_cases hm2 : 20 < m
        · have hmz : (20 : Int) < (m : Int) := by omega
          have HAT := Lib.hid (show ans = true by rw [HA.out, decide_eq_true hm2, Bool.or_true])
          have hin : (i : Int) < (m : Int) := by omega
          have hi6 : ¬ (i : Int) < 20 := by omega
          clear hs hm2
          go_wp2_with fail
          go_ret
          exact ⟨by rw [HAT.out]; rfl, HB.out⟩
        · have hmz : ¬ (20 : Int) < (m : Int) := by omega
          have HAT := Lib.hid (show ans = false by rw [HA.out, decide_eq_false hm2, decide_eq_false hs]; rfl)
          have hin : ¬ (i : Int) < (m : Int) := by omega
          clear hs hm2
          go_wp2_with fail
          go_ret
          exact ⟨by rw [HAT.out]; rfl, HB.out⟩
end Go.Proofs.YtkbbeioednhefaaDoor.vt
