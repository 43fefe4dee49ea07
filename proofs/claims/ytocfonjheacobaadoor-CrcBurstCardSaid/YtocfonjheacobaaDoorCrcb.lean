/-
  The walk of CrcBurst.
-/
import Derived.Test.YtocfonjheacobaaDoorCrct
import Derived.Test.YtocfonjheacobaaDoorMemc
namespace Go.Proofs.YtocfonjheacobaaDoor.crc
open Go.RowKit Go.Proofs.YtocfonjheacobaaDoor.mem Go.Proofs.YtocfonjheacobaaDoor.sha

/-- a byte of a row of the call's own set anew -/
theorem ownB_set {w : World} {F : Nat → Prop} {g n c : Nat} {l : List UInt8} (h : OwnB w F (.slice (some ⟨g, 0, none⟩) n c) l) (j : Nat) (hj : j < l.length) (x : UInt8) :
    w.frozen? ⟨g, j, none⟩ = false ∧ OwnB (w.setCell ⟨g, j, none⟩ (.int .u8 (B x))) F (.slice (some ⟨g, 0, none⟩) n c) (l.set j x) ∧ Turn F w (w.setCell ⟨g, j, none⟩ (.int .u8 (B x))) := by
  obtain ⟨g', cap, cur, fr, hv, hg, h1, h2, h3, h4, hF⟩ := h
  cases hv
  refine ⟨?_, ⟨g, c, cur.setIfInBounds j (.int .u8 (B x)), fr, by rw [List.length_set], ?_, h1, by simp [h2], by rw [List.length_set]; exact h3, ?_, hF⟩, (Turn.refl F w).setCell hF _⟩
  · rcases h1 with rfl | rfl
    · simp [World.frozen?, hg]
    · simp [World.frozen?, hg]; omega
  · simp [World.setCell, Array.getElem?_modify, hg]
  · rw [List.length_set, Array.toList_setIfInBounds, List.take_set, h4]
    unfold bCells
    rw [List.map_set]
    rfl
theorem str_ownB {w : World} {F : Nat → Prop} {g n c : Nat} {l : List UInt8} (h : OwnB w F (.slice (some ⟨g, 0, none⟩) n c) l) (hl : l.length = n) : (convert 31 9 (.slice (some ⟨g, 0, none⟩) n c)).run Tryd.prog w = .ok (.string ⟨l.toArray⟩) w := by
  subst hl
  refine run_convert_bytes_back (P := Tryd.prog) w 31 9 5 ⟨g, 0, none⟩ c l Tryd.underlying31 Tryd.underlying5 Tryd.underlying9 (fun j hj => ?_)
  rw [Addr.add_lit, Nat.zero_add, h.cell j hj, List.getD_eq_getElem?_getD, List.getElem?_eq_getElem hj]
  rfl
theorem left_and (p : UInt32) (i : Nat) : (left p i &&& 1).toNat = p.toNat / 2 ^ i % 2 := by
  rw [UInt32.toNat_and, left_nat]; exact Nat.and_one_is_mod _
theorem left_bit (p : UInt32) (i : Nat) (h : p.toNat.testBit i = true) : left p i &&& 1 = 1 := by
  apply UInt32.toNat_inj.1
  rw [left_and]
  have := Nat.testBit_eq_decide_div_mod_eq (x := p.toNat) (i := i)
  rw [h] at this
  exact of_decide_eq_true this.symm
theorem left_none (p : UInt32) (i : Nat) (h : p.toNat.testBit i = false) : ¬ left p i &&& 1 = 1 := by
  intro e
  have e2 := congrArg UInt32.toNat e
  rw [left_and] at e2
  have := Nat.testBit_eq_decide_div_mod_eq (x := p.toNat) (i := i)
  rw [h] at this
  exact of_decide_eq_false this.symm e2
theorem shl_bit (r : Nat) (hr : r < 8) : IntKind.u8.wrap ((2 : Int) ^ r) = B (UInt8.ofNat (2 ^ r)) := by
  rcases (show r = 0 ∨ r = 1 ∨ r = 2 ∨ r = 3 ∨ r = 4 ∨ r = 5 ∨ r = 6 ∨ r = 7 by omega) with rfl | rfl | rfl | rfl | rfl | rfl | rfl | rfl <;> decide

set_option maxHeartbeats 1000000 in
set_option maxRecDepth 100000 in
theorem burst_walk {T : World → Prop} (hI : CrcIs T) (s : ByteArray) (at_ : Int) (p : UInt32) (w : World) (hT : T w) (a0 : 0 ≤ at_) (a1 : at_ ≤ 65535) : Calls Tryd.prog 5 #[.string s, .int .u16 at_, .int .u32 (U p)] w fun e w' => e = .returned (.bool true) ∧ Below w.heap.size w w' := by
  have HT := Lib.hid hT
  have HI := Lib.hid hI
  clear hT hI
  by_cases hs : 0 < s.size ∧ s.size ≤ 1000
  case neg =>
    have h0 : (0 : Int) ≤ (s.size : Int) := Int.natCast_nonneg _
    by_cases he : s.size = 0
    · have h1 : (s.size : Int) = 0 := by omega
      clear hs he
      go_enter Tryd.func5, Tryd.ntmps5
      go_wp2_with (go_at_call 7; refine (awake_any HI.out _ HT.out).mono ?_; rintro e w1 ⟨rfl, hb1⟩)
      go_ret
      exact ⟨rfl, hb1⟩
    · have h1 : (1000 : Int) < (s.size : Int) := by omega
      have h2 : ((s.size : Int) == 0) = false := beq_eq_false_iff_ne.2 (by omega)
      clear hs he
      go_enter Tryd.func5, Tryd.ntmps5
      go_wp2_with (go_at_call 7; refine (awake_any HI.out _ HT.out).mono ?_; rintro e w1 ⟨rfl, hb1⟩)
      go_ret
      exact ⟨rfl, hb1⟩
  obtain ⟨hs0, hs1⟩ := hs
  have n0 : (0 : Int) < (s.size : Int) := by omega
  have n1 : (s.size : Int) ≤ 1000 := by omega
  obtain ⟨v0, w1, hcv, hO1, hb1⟩ := run_to_bytes w (w.heap.size ≤ ·) s (fun _ hk => hk)
  obtain ⟨g, cc, rfl, hg1, hg2⟩ := hO1.lt
  obtain ⟨n, hn⟩ : ∃ n, n = s.data.toList.length := ⟨_, rfl⟩
  have hns : s.size = n := by rw [hn]; exact size_list s
  rw [← hn] at hcv hO1
  rw [hns] at n0 n1
  obtain ⟨f, hf⟩ : ∃ f : Nat, at_ % (8 * (n : Int)) = (f : Int) := ⟨(at_ % (8 * (n : Int))).toNat, (Int.toNat_of_nonneg (Int.emod_nonneg _ (by omega))).symm⟩
  have hf2 : (f : Int) < 8 * (n : Int) := by rw [← hf]; exact Int.emod_lt_of_pos _ (by omega)
  have hft : at_.tmod (8 * (n : Int)) = (f : Int) := by rw [Int.tmod_eq_emod_of_nonneg a0]; exact hf
  have f0 : (0 : Int) ≤ (f : Int) := Int.natCast_nonneg _
  have hlen : (s.size : Int) = (n : Int) := by omega
  have HO1 := Lib.hid hO1
  have HB1 := Lib.hid hb1
  have HN := Lib.hid hn
  have hz : ((n : Int) == 0) = false := beq_eq_false_iff_ne.2 (by omega)
  have hb0 := B_nonneg
  have hbl := B_lt
  clear hO1 hb1 hg1 hn hg2
  go_enter Tryd.func5, Tryd.ntmps5
  go_wp2_with fail
  go_loopw [9] (fun v wr => ∃ (i : Nat) (l : List UInt8), i ≤ 32 ∧ f + i ≤ 8 * n ∧ v = .int .i64 i ∧ l.length = n ∧ OwnB wr (w.heap.size ≤ ·) (.slice (some ⟨g, 0, none⟩) n cc) l ∧ (∀ q, q < 8 * n → bitAt l q = Bool.xor (bitAt s.data.toList q) (hit f i p.toNat q)) ∧ Below w.heap.size w wr) (fun v _ => 32 - (intOf v).toNat)
  case atStart => exact ⟨0, s.data.toList, by decide, by omega, rfl, HN.out.symm, HO1.out, fun q _ => by rw [hit_zero, Bool.xor_false], HB1.out⟩
  case round =>
    obtain ⟨i, l, hi, hfi, rfl, hl, hO, hbits, hB⟩ := hrel
    have HL := Lib.hid hl
    have HO := Lib.hid hO
    have HBI := Lib.hid hbits
    have HB := Lib.hid hB
    have i0 : (0 : Int) ≤ (i : Int) := Int.natCast_nonneg _
    clear hO hbits hB HO1 HB1 hl
    by_cases hlt : i < 32 ∧ f + i < 8 * n
    · obtain ⟨hl1, hl2⟩ := hlt
      have j1 : (i : Int) < 32 := by omega
      have j2 : (i : Int) < 8 * (n : Int) - (f : Int) := by omega
      have hpow := left_pow p i
      have hand := U_and (left p i) 1
      have hU1 : U 1 = 1 := rfl
      rw [hU1] at hand
      by_cases hbit : i = 0 ∨ p.toNat.testBit i = true
      · obtain ⟨q, hq⟩ : ∃ q, q = (f + i) / 8 := ⟨_, rfl⟩
        obtain ⟨r, hr⟩ : ∃ r, r = (f + i) % 8 := ⟨_, rfl⟩
        have hqI : ((f : Int) + (i : Int)) / 8 = (q : Int) := by omega
        have hrI : ((f : Int) + (i : Int)) % 8 = (r : Int) := by omega
        have q0 : (0 : Int) ≤ (q : Int) := Int.natCast_nonneg _
        have qn : (q : Int) < (n : Int) := by omega
        have r0 : (0 : Int) ≤ (r : Int) := Int.natCast_nonneg _
        have r8 : (r : Int) < 8 := by omega
        have hsh := shl_bit r (by omega)
        obtain ⟨x, hx⟩ : ∃ x, x = l.getD q 0 := ⟨_, rfl⟩
        have hc : wr.cell? ⟨g, q, none⟩ = some (.int .u8 (B x)) := by
          rw [hx]; exact HO.out.cell q (by have := HL.out; omega)
        have hfr : wr.frozen? ⟨g, q, none⟩ = false := (ownB_set HO.out q (by have := HL.out; omega) 0).1
        have hxor := B_xor x (UInt8.ofNat (2 ^ r))
        have HQ := Lib.hid hq
        have HR := Lib.hid hr
        have HX := Lib.hid hx
        clear hq hr hx
        have HNEW : ∀ wn, wn = wr.setCell ⟨g, q, none⟩ (.int .u8 (B (x ^^^ UInt8.ofNat (2 ^ r)))) → ∃ l' : List UInt8, l'.length = n ∧ OwnB wn (w.heap.size ≤ ·) (.slice (some ⟨g, 0, none⟩) n cc) l' ∧ (∀ q, q < 8 * n → bitAt l' q = Bool.xor (bitAt s.data.toList q) (hit f (i + 1) p.toNat q)) ∧ Below w.heap.size w wn := by
          rintro wn rfl
          obtain ⟨_, h2, h3⟩ := ownB_set HO.out q (by have := HL.out; omega) (x ^^^ UInt8.ofNat (2 ^ r))
          have e : l.set q (x ^^^ UInt8.ofNat (2 ^ r)) = flip l (f + i) := by unfold flip; rw [← HQ.out, ← HR.out, ← HX.out]
          rw [e] at h2
          refine ⟨_, by rw [flip_len]; exact HL.out, h2, fun z hz => ?_, HB.out.trans (h3.below fun _ hk => hk)⟩
          rw [flip_at l (f + i) z (by have := HL.out; omega), HBI.out z hz, hit_next, Bool.xor_assoc]
          congr 2
          rcases hbit with h | h
          · rw [h]; simp
          · rw [h]; simp
        have HNW := Lib.hid HNEW
        clear HNEW
        by_cases hi0 : i = 0
        · subst hi0
          have hqJ : (f : Int) / 8 = (q : Int) := by simpa using hqI
          have hrJ : (f : Int) % 8 = (r : Int) := by simpa using hrI
          clear hbit hqI hrI
          go_wp2_with fail
          obtain ⟨l', k1, k2, k3, k4⟩ := HNW.out _ rfl
          go_roundw
          case rel => exact ⟨1, l', by decide, by omega, rfl, k1, k2, k3, k4⟩
          case measure => simp [intOf]
        · have hi1 : ((i : Int) == 0) = false := beq_eq_false_iff_ne.2 (by omega)
          have ht := U_eq_one _ (left_bit p i (hbit.resolve_left hi0))
          clear hbit hi0
          go_wp2_with fail
          obtain ⟨l', k1, k2, k3, k4⟩ := HNW.out _ rfl
          go_roundw
          case rel => exact ⟨i + 1, l', by omega, by omega, by push_cast; rfl, k1, k2, k3, k4⟩
          case measure => simp [intOf]; omega
      · have hi0 : ¬ i = 0 := fun h => hbit (.inl h)
        have hi1 : ((i : Int) == 0) = false := beq_eq_false_iff_ne.2 (by omega)
        have hbf : p.toNat.testBit i = false := by
          cases h : p.toNat.testBit i
          · rfl
          · exact absurd (.inr h) hbit
        have ht := U_ne_one _ (left_none p i hbf)
        have HBF := Lib.hid hbf
        clear hbit hi0 hbf
        go_wp2_with fail
        go_roundw
        case rel =>
          refine ⟨i + 1, l, by omega, by omega, by push_cast; rfl, HL.out, HO.out, fun z hz => ?_, HB.out⟩
          rw [HBI.out z hz, hit_next, HBF.out]
          have : decide (i = 0) = false := decide_eq_false (by intro h; rw [h] at hi1; exact absurd hi1 (by decide))
          rw [this]
          simp
        case measure => simp [intOf]; omega
    · have hm : i = min 32 (8 * n - f) := by omega
      have hne := found s.data.toList l f i p.toNat (by rw [HL.out]; exact HN.out) (by rw [← HN.out]; omega) (by rw [← HN.out]; exact hm) (by rw [← HN.out]; exact HBI.out)
      have h1 : (U (addC 0 l) == U (addC 0 s.data.toList)) = false := by
        rw [U_beq]; exact beq_eq_false_iff_ne.2 (fun e => hne e.symm)
      have h2 : (U (addC 0 l) != U (addC 0 s.data.toList)) = true := by rw [bne, h1]; rfl
      have hcv2 := str_ownB HO.out HL.out
      have HLS := Lib.hid (show (⟨l.toArray⟩ : ByteArray).size ≤ 549755813888 by rw [size_list]; show l.toArray.toList.length ≤ _; rw [List.toList_toArray, HL.out]; omega)
      have HSS := Lib.hid (show s.size ≤ 549755813888 by omega)
      have HT2 := Lib.hid (HI.out.next HT.out HB.out)
      clear hne hcv
      by_cases h32 : i = 32
      · subst h32
        clear hlt hm hi
        go_wp2_with (first
          | (go_at_call 10; with_reducible refine (HI.out.sum ⟨l.toArray⟩ _ HT2.out HLS.out).mono ?_; rintro e w4 ⟨rfl, hb4⟩; have hT4 := HI.out.next HT2.out hb4)
          | (go_at_call 10; with_reducible refine (HI.out.sum s _ hT4 HSS.out).mono ?_; rintro e w5 ⟨rfl, hb5⟩; have hT5 := HI.out.next hT4 hb5)
          | (go_at_call 7; refine (awake_any HI.out _ hT5).mono ?_; rintro e w6 ⟨rfl, hb6⟩))
        go_ret
        have c4 := HB.out.trans (hb4.mono HB.out.size)
        have c5 := c4.trans (hb5.mono c4.size)
        exact ⟨rfl, c5.trans (hb6.mono c5.size)⟩
      · have j1 : (i : Int) < 32 := by omega
        have j2 : (i : Int) = 8 * (n : Int) - (f : Int) := by omega
        have j3 : ¬ (i : Int) < 8 * (n : Int) - (f : Int) := by omega
        clear hlt hm hi h32
        go_wp2_with (first
          | (go_at_call 10; with_reducible refine (HI.out.sum ⟨l.toArray⟩ _ HT2.out HLS.out).mono ?_; rintro e w4 ⟨rfl, hb4⟩; have hT4 := HI.out.next HT2.out hb4)
          | (go_at_call 10; with_reducible refine (HI.out.sum s _ hT4 HSS.out).mono ?_; rintro e w5 ⟨rfl, hb5⟩; have hT5 := HI.out.next hT4 hb5)
          | (go_at_call 7; refine (awake_any HI.out _ hT5).mono ?_; rintro e w6 ⟨rfl, hb6⟩))
        go_ret
        have c4 := HB.out.trans (hb4.mono HB.out.size)
        have c5 := c4.trans (hb5.mono c4.size)
        exact ⟨rfl, c5.trans (hb6.mono c5.size)⟩
end Go.Proofs.YtocfonjheacobaaDoor.crc
