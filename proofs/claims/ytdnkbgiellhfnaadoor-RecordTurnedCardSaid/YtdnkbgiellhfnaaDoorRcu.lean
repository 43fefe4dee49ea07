/-
  The walk of RecordTurned.
-/
import Derived.Test.YtdnkbgiellhfnaaDoorRcis
import Derived.Test.YtdnkbgiellhfnaaDoorBits
import Derived.Deep.CutRange
import Derived.Deep.CutBlock
namespace Go.Proofs.YtdnkbgiellhfnaaDoor.rcd
open Go.RowKit Go.Proofs.YtdnkbgiellhfnaaDoor.mem Go.Proofs.YtdnkbgiellhfnaaDoor.sha Go.Proofs.YtdnkbgiellhfnaaDoor.opn Go.Proofs.YtdnkbgiellhfnaaDoor.rows Go.Proofs.YtdnkbgiellhfnaaDoor.ids

theorem Reads.full {α : Type} {f : St → α × St} {e : List UInt8} {v : α} (h : Reads f e v) (t : List UInt8) : f (e ++ t, 0) = (v, (t, 0)) := by
  have := (h t (e.length + t.length)).1 (by omega)
  rw [List.take_of_length_le (by rw [List.length_append]; omega), List.take_of_length_le (by omega)] at this
  exact this
theorem next_turned (r : Rc) (hc : checkR r = 0) (m : List UInt8) (hm : m.length = r.body.length + 1) (hne : crc.addC 0 m ≠ crc.addC 0 (inner r)) :
    ∃ e, nextR (b4 r.body.length ++ m ++ b4 (sumI r)) 0 = (zrc, 0, e) ∧ (e = 10 ∨ e = 13) := by
  obtain ⟨k1, k2, hb⟩ := checkR_ok hc
  obtain ⟨s0, s1⟩ := sumI_lt r
  match m, hm with
  | x :: m', hm =>
    have hm' : m'.length = r.body.length := by simpa using hm
    have e : b4 r.body.length ++ (x :: m') ++ b4 (sumI r) = b4 r.body.length ++ ([x] ++ (m' ++ (b4 (sumI r) ++ []))) := by simp
    have R4 := Reads.full (reads_4 (r.body.length : Int) (by omega) (by omega)) ([x] ++ (m' ++ (b4 (sumI r) ++ [])))
    have R1 := Reads.full ((reads_rd [x]).map num) (m' ++ (b4 (sumI r) ++ []))
    have RB := Reads.full (reads_rd m') (b4 (sumI r) ++ [])
    have RS := Reads.full (reads_4 (sumI r) s0 s1) []
    rw [hm'] at RB
    have R1' : rdN 1 ([x] ++ (m' ++ (b4 (sumI r) ++ [])), 0) = (num [x], (m' ++ (b4 (sumI r) ++ []), 0)) := R1
    obtain ⟨y, hy⟩ : ∃ y, y = num [x] := ⟨_, rfl⟩
    have hin : inner ⟨y, m'⟩ = x :: m' := by
      show b1 y ++ m' = _
      rw [hy, b1_num]; rfl
    have hsum : sumI ⟨y, m'⟩ ≠ sumI r := by
      unfold sumI
      rw [hin]
      intro h
      exact hne (UInt32.toNat_inj.1 (by omega))
    rw [← hy] at R1'
    have hF := firstR.eq_1 (b4 r.body.length ++ ([x] ++ (m' ++ (b4 (sumI r) ++ []))))
    rw [R4] at hF
    dsimp only at hF
    rw [if_neg (by simp), if_neg (by omega), R1'] at hF
    dsimp only at hF
    rw [Int.toNat_natCast, RB] at hF
    dsimp only at hF
    rw [RS] at hF
    dsimp only at hF
    rw [if_neg (by simp)] at hF
    by_cases hk : y < 1 ∨ 3 < y
    · rw [if_pos hk] at hF
      exact ⟨10, next_bad (by omega) (by omega) (by rw [e]; exact hF) (by decide), .inl rfl⟩
    · rw [if_neg hk, if_pos hsum] at hF
      exact ⟨13, next_bad (by omega) (by omega) (by rw [e]; exact hF) (by decide), .inr rfl⟩
theorem set_mid (a m c : List UInt8) (q : Nat) (hq : q < m.length) (x : UInt8) : (a ++ m ++ c).set (a.length + q) x = a ++ m.set q x ++ c := by
  rw [List.append_assoc, List.append_assoc, List.set_append_right _ _ (by omega), Nat.add_sub_cancel_left, List.set_append_left _ _ hq]
theorem get_mid (a m c : List UInt8) (q : Nat) (hq : q < m.length) : (a ++ m ++ c).getD (a.length + q) 0 = m.getD q 0 := by
  rw [List.append_assoc, List.getD_eq_getElem?_getD, List.getElem?_append_right (by omega), Nat.add_sub_cancel_left, List.getElem?_append_left hq, List.getD_eq_getElem?_getD]
section
variable {T : World → Prop}
set_option maxHeartbeats 4000000 in
set_option maxRecDepth 100000 in
theorem turned_walk (hI : RcIs T) (k : Int) (b : ByteArray) (a : Int) (p : UInt32) (w : World) (hT : T w) (hbz : b.size ≤ 140737488355328) (a0 : 0 ≤ a) (a1 : a ≤ 65535) :
    Calls Tryd.prog 7 #[.agg #[.int .i64 k, .string b], .int .u16 a, .int .u32 (U p)] w fun e w' => e = .returned (.bool true) ∧ Below w.heap.size w w' := by
  have HI := Lib.hid hI
  have HT := Lib.hid hT
  clear hI hT
  have hbl : b.data.toList.length = b.size := Array.length_toList
  have hbe : oct.tx b.data.toList = b := oct.tx_eta b
  obtain ⟨bl, hble⟩ : ∃ l, l = b.data.toList := ⟨_, rfl⟩
  rw [← hble] at hbl hbe
  have h0 : Below w.heap.size w (w.alloc (.cells #[.int .i64 k, .string b] 23)) := (Below.refl _ _).alloc (Nat.le_refl _) _
  have HP := Lib.hid (HI.out.put k bl _ (HI.out.next HT.out h0) (by omega))
  simp only [recv] at HP
  rw [hbe] at HP
  have hB0 := Blk.new w 23 #[.int .i64 k, .string b]
  obtain ⟨w0, hw0⟩ : ∃ u, u = w.alloc (.cells #[.int .i64 k, .string b] 23) := ⟨_, rfl⟩
  have HW0 := Lib.hid hw0
  have hlt0 : w.heap.size < w0.heap.size := by rw [hw0]; simp
  rw [← hw0] at HP h0 hB0
  have q0 : w0.cell? ⟨w.heap.size, 0, none⟩ = some (.int .i64 k) := hB0.cell 0
  have q1 : w0.cell? ⟨w.heap.size, 1, none⟩ = some (.string b) := hB0.cell 1
  have H0 := Lib.hid h0
  have HB0 := Lib.hid hB0
  clear hw0 hble h0 hB0
  obtain ⟨A, hA⟩ : ∃ A, A = oct.tx (putR ⟨k, bl⟩).1 := ⟨_, rfl⟩
  obtain ⟨e, he⟩ : ∃ e, e = (putR ⟨k, bl⟩).2 := ⟨_, rfl⟩
  rw [← hA, ← he] at HP
  by_cases hc : checkR ⟨k, bl⟩ = 0
  case neg =>
    rw [putR_bad rfl hc] at he
    have hd : ¬ e = 0 := by rw [he]; exact hc
    clear hA he hc hbl hbe
    go_enter Tryd.func7, Tryd.ntmps7
    go_upto_region 1 with fail
    rw [← HW0.out]
    go_wp2_with (first
      | (go_at_call 9; (with_reducible refine HP.out.mono ?_); rintro e w1 ⟨rfl, hb1⟩; have B1 := Lib.hid (H0.out.trans (hb1.mono H0.out.size)); clear hb1)
      | (go_at_call 8; (with_reducible refine (awake_any HI.out _ (HI.out.next HT.out B1.out)).mono ?_); rintro e w2 ⟨rfl, hb2⟩))
    go_ret
    exact ⟨rfl, B1.out.trans (hb2.mono B1.out.size)⟩
  rw [putR_good hc] at hA he
  subst he
  have hAs : A.size = b.size + 9 := by rw [hA, oct.tx_size, enR_len]; show bl.length + 9 = _; omega
  by_cases h2 : (2000 : Int) < (A.size : Int)
  · clear hA hc hbl hbe hAs
    go_enter Tryd.func7, Tryd.ntmps7
    go_upto_region 1 with fail
    rw [← HW0.out]
    go_wp2_with (first
      | (go_at_call 9; (with_reducible refine HP.out.mono ?_); rintro e w1 ⟨rfl, hb1⟩; have B1 := Lib.hid (H0.out.trans (hb1.mono H0.out.size)); clear hb1)
      | (go_at_call 8; (with_reducible refine (awake_any HI.out _ (HI.out.next HT.out B1.out)).mono ?_); rintro e w2 ⟨rfl, hb2⟩))
    go_ret
    exact ⟨rfl, B1.out.trans (hb2.mono B1.out.size)⟩
  have hAl : A.data.toList = b4 bl.length ++ inner ⟨k, bl⟩ ++ b4 (sumI ⟨k, bl⟩) := by rw [hA, oct.tx_list]; rfl
  obtain ⟨n, hn⟩ : ∃ n, n = b.size + 1 := ⟨_, rfl⟩
  obtain ⟨pre, hpre⟩ : ∃ x, x = b4 bl.length := ⟨_, rfl⟩
  obtain ⟨suf, hsuf⟩ : ∃ x, x = b4 (sumI ⟨k, bl⟩) := ⟨_, rfl⟩
  obtain ⟨X, hX⟩ : ∃ x, x = inner ⟨k, bl⟩ := ⟨_, rfl⟩
  have hpl : pre.length = 4 := by rw [hpre]; rfl
  have hsl : suf.length = 4 := by rw [hsuf]; rfl
  have hXl : X.length = n := by rw [hX, hn]; show (b1 k ++ bl).length = _; rw [List.length_append, b1_len]; omega
  have HNT : Hid (∀ m : List UInt8, m.length = n → crc.addC 0 m ≠ crc.addC 0 X → ∃ e, nextR (pre ++ m ++ suf) 0 = (zrc, 0, e) ∧ (e = 10 ∨ e = 13)) := Lib.hid fun m h1 h2 => by
    rw [hpre, hsuf]
    exact next_turned ⟨k, bl⟩ hc m (by show m.length = bl.length + 1; omega) (by rw [hX] at h2; exact h2)
  rw [← hpre, ← hsuf, ← hX] at hAl
  obtain ⟨f, hf⟩ : ∃ f : Nat, a % (8 * (n : Int)) = (f : Int) := ⟨(a % (8 * (n : Int))).toNat, (Int.toNat_of_nonneg (Int.emod_nonneg _ (by omega))).symm⟩
  have hf2 : (f : Int) < 8 * (n : Int) := by rw [← hf]; exact Int.emod_lt_of_pos _ (by omega)
  have hft : a.tmod (8 * (n : Int)) = (f : Int) := by rw [Int.tmod_eq_emod_of_nonneg a0]; exact hf
  have f0 : (0 : Int) ≤ (f : Int) := Int.natCast_nonneg _
  have n0 : (0 : Int) < (n : Int) := by omega
  have n1 : (n : Int) ≤ 2000 := by omega
  have hz : (8 * (n : Int) == 0) = false := beq_eq_false_iff_ne.2 (by omega)
  have hbn : (b.size : Int) + 1 = (n : Int) := by omega
  have hbA : (b.size : Int) + 9 = (A.size : Int) := by omega
  have HAN : Hid (A.size = n + 8) := Lib.hid (by omega)
  have HX := Lib.hid hXl
  have HAL := Lib.hid hAl
  have HPL := Lib.hid hpl
  have HSL := Lib.hid hsl
  have hb0 := B_nonneg
  have hblt := B_lt
  clear hA hc hbl hbe hAs hAl hn hpre hsuf hX hpl hsl hXl hf
  go_enter Tryd.func7, Tryd.ntmps7
  go_upto_region 1 with fail
  rw [← HW0.out]
  go_upto_region 4 with (go_at_call 9; (with_reducible refine HP.out.mono ?_); rintro e w1 ⟨rfl, hb1⟩; have B1 := Lib.hid (H0.out.trans (hb1.mono H0.out.size)); have K1 := Lib.hid (HB0.out.below hb1 hlt0); have l1 := Nat.lt_of_lt_of_le hlt0 hb1.size; clear hb1)
  obtain ⟨v0, w2, hcv, hO2, hb2⟩ := run_to_bytes w1 (w.heap.size ≤ ·) A (fun _ hk => Nat.le_trans (Nat.le_of_lt l1) hk)
  obtain ⟨g, cc, rfl, hg1, hg2⟩ := hO2.lt
  obtain ⟨Z, hZ⟩ : ∃ Z, Z = A.size := ⟨_, rfl⟩
  have hZl : A.data.toList.length = Z := by rw [hZ]; exact Array.length_toList
  have hlen : ∀ m : List UInt8, m.length = n → (pre ++ m ++ suf).length = Z := fun m h => by rw [List.length_append, List.length_append, HPL.out, HSL.out, h, hZ, HAN.out]; omega
  rw [hZl] at hcv hO2
  rw [HAL.out] at hO2
  have K2 := K1.out.below hb2 l1
  have d1 : w2.cell? ⟨w.heap.size, 1, none⟩ = some (.string b) := K2.cell 1
  have B2 := Lib.hid (B1.out.trans (hb2.mono B1.out.size))
  have HO2 := Lib.hid hO2
  have HLEN := Lib.hid hlen
  have hZn : (Z : Int) = (n : Int) + 8 := by have := HAN.out; omega
  have hbZ : (b.size : Int) + 9 = (Z : Int) := by omega
  have h2' : ¬ (2000 : Int) < (A.size : Int) := by omega
  clear hO2 hlen hZ hZl K2 hg1 hb2 hbA
  go_wp2_with fail
  go_loopg [12] 33 (fun gk s12 wr => ∃ (i : Nat) (m : List UInt8), i ≤ 32 ∧ 33 - i ≤ gk ∧ f + i ≤ 8 * n ∧ s12 = .int .i64 i ∧ Hid (m.length = n) ∧ Hid (OwnB wr (w.heap.size ≤ ·) (.slice (some ⟨g, 0, none⟩) Z cc) (pre ++ m ++ suf)) ∧ Hid (∀ q, q < 8 * n → crc.bitAt m q = Bool.xor (crc.bitAt X q) (crc.hit f i p.toNat q)) ∧ Hid (Below w.heap.size w wr))
  case atStart => exact ⟨0, X, by decide, by omega, by omega, rfl, HX, HO2, Lib.hid fun q _ => by rw [crc.hit_zero, Bool.xor_false], B2⟩
  case round =>
    obtain ⟨i, l, hi, hgk, hfi, rfl, HL, HO, HBI, HB⟩ := hrel
    have i0 : (0 : Int) ≤ (i : Int) := Int.natCast_nonneg _
    clear HO2 hcv
    by_cases hlt : i < 32 ∧ f + i < 8 * n
    · obtain ⟨hl1, hl2⟩ := hlt
      have j1 : (i : Int) < 32 := by omega
      have j2 : (i : Int) < 8 * (n : Int) - (f : Int) := by omega
      have hpow := crc.left_pow p i
      have hand := U_and (crc.left p i) 1
      have hU1 : U 1 = 1 := rfl
      rw [hU1] at hand
      by_cases hbit : i = 0 ∨ p.toNat.testBit i = true
      · obtain ⟨q, hq⟩ : ∃ q, q = (f + i) / 8 := ⟨_, rfl⟩
        obtain ⟨r, hr⟩ : ∃ r, r = (f + i) % 8 := ⟨_, rfl⟩
        obtain ⟨q4, hq4⟩ : ∃ q4, q4 = 4 + q := ⟨_, rfl⟩
        have hqI : ((f : Int) + (i : Int)) / 8 = (q : Int) := by omega
        have hrI : ((f : Int) + (i : Int)) % 8 = (r : Int) := by omega
        have h4I : (4 : Int) + (q : Int) = (q4 : Int) := by omega
        have q0' : (0 : Int) ≤ (q4 : Int) := Int.natCast_nonneg _
        have qn : (q4 : Int) < (Z : Int) := by omega
        have r0 : (0 : Int) ≤ (r : Int) := Int.natCast_nonneg _
        have r8 : (r : Int) < 8 := by omega
        have hsh := bit8.shl_bit r (by omega)
        obtain ⟨x, hx⟩ : ∃ x, x = l.getD q 0 := ⟨_, rfl⟩
        have hql : q < l.length := by have := HL.out; omega
        have hll := HLEN.out l HL.out
        have hc : wr.cell? ⟨g, q4, none⟩ = some (.int .u8 (B x)) := by
          have := HO.out.cell q4 (by rw [hll]; omega)
          rw [this, hq4, ← HPL.out, get_mid pre l suf q hql, hx]
          rfl
        have hfr : wr.frozen? ⟨g, q4, none⟩ = false := (ownB_set HO.out q4 (by rw [hll]; omega) 0).1
        have hxor := bit8.B_xor x (UInt8.ofNat (2 ^ r))
        have HQ := Lib.hid hq
        have HR := Lib.hid hr
        have HXX := Lib.hid hx
        have HNEW : ∀ wn, wn = wr.setCell ⟨g, q4, none⟩ (.int .u8 (B (x ^^^ UInt8.ofNat (2 ^ r)))) → ∃ l' : List UInt8, l'.length = n ∧ OwnB wn (w.heap.size ≤ ·) (.slice (some ⟨g, 0, none⟩) Z cc) (pre ++ l' ++ suf) ∧ (∀ q, q < 8 * n → crc.bitAt l' q = Bool.xor (crc.bitAt X q) (crc.hit f (i + 1) p.toNat q)) ∧ Below w.heap.size w wn := by
          rintro wn rfl
          obtain ⟨_, h2, h3⟩ := ownB_set HO.out q4 (by rw [hll]; omega) (x ^^^ UInt8.ofNat (2 ^ r))
          have e : (pre ++ l ++ suf).set q4 (x ^^^ UInt8.ofNat (2 ^ r)) = pre ++ crc.flip l (f + i) ++ suf := by
            rw [hq4, ← HPL.out, set_mid pre l suf q hql]
            unfold crc.flip
            rw [← HQ.out, ← HR.out, ← HXX.out]
          rw [e] at h2
          refine ⟨_, by rw [crc.flip_len]; exact HL.out, h2, fun z hz => ?_, HB.out.trans (h3.below fun _ hk => hk)⟩
          rw [crc.flip_at l (f + i) z (by have := HL.out; omega), HBI.out z hz, crc.hit_next, Bool.xor_assoc]
          congr 2
          rcases hbit with h | h
          · rw [h]; simp
          · rw [h]; simp
        have HNW := Lib.hid HNEW
        clear HNEW hq hr hx hll hql hq4
        by_cases hi0 : i = 0
        · subst hi0
          have hqJ : (f : Int) / 8 = (q : Int) := by simpa using hqI
          have hrJ : (f : Int) % 8 = (r : Int) := by simpa using hrI
          clear hbit hqI hrI
          go_wp2_with fail
          obtain ⟨l', k1, k2, k3, k4⟩ := HNW.out _ rfl
          go_roundg 32
          case measure => omega
          case rel => exact ⟨1, l', by decide, by omega, by omega, by go_num, Lib.hid k1, Lib.hid k2, Lib.hid k3, Lib.hid k4⟩
        · have hi1 : ((i : Int) == 0) = false := beq_eq_false_iff_ne.2 (by omega)
          have ht := crc.U_eq_one _ (bit8.left_bit p i (hbit.resolve_left hi0))
          clear hbit hi0
          go_wp2_with fail
          obtain ⟨l', k1, k2, k3, k4⟩ := HNW.out _ rfl
          go_roundg (32 - i)
          case measure => omega
          case rel => exact ⟨i + 1, l', by omega, by omega, by omega, by go_num, Lib.hid k1, Lib.hid k2, Lib.hid k3, Lib.hid k4⟩
      · have hi0 : ¬ i = 0 := fun h => hbit (.inl h)
        have hi1 : ((i : Int) == 0) = false := beq_eq_false_iff_ne.2 (by omega)
        have hbf : p.toNat.testBit i = false := by
          cases h : p.toNat.testBit i
          · rfl
          · exact absurd (.inr h) hbit
        have ht := crc.U_ne_one _ (bit8.left_none p i hbf)
        have HBF := Lib.hid hbf
        clear hbit hi0 hbf
        go_wp2_with fail
        go_roundg (32 - i)
        case measure => omega
        case rel =>
          refine ⟨i + 1, l, by omega, by omega, by omega, by go_num, HL, HO, Lib.hid fun z hz => ?_, HB⟩
          rw [HBI.out z hz, crc.hit_next, HBF.out]
          have : decide (i = 0) = false := decide_eq_false (by intro h; rw [h] at hi1; exact absurd hi1 (by decide))
          rw [this]
          simp
    · have hm : i = min 32 (8 * n - f) := by omega
      have hne := crc.found X l f i p.toNat (by rw [HL.out]; exact HX.out.symm) (by rw [HX.out]; omega) (by rw [HX.out]; exact hm) (by rw [HX.out]; exact HBI.out)
      have hcv2 := str_ownB HO.out (HLEN.out l HL.out)
      obtain ⟨e, hnx, he⟩ := HNT.out l HL.out hne
      obtain ⟨t, ht⟩ : ∃ t : ByteArray, t = ⟨(pre ++ l ++ suf).toArray⟩ := ⟨_, rfl⟩
      have hts : t.size ≤ 800000 := by
        have : t.size = Z := by rw [ht, ← HLEN.out l HL.out]; exact oct.tx_size _
        omega
      have htl : t.data.toList = pre ++ l ++ suf := by rw [ht]
      rw [← ht] at hcv2
      have HNX := Lib.hid fun u (h : T u) => HI.out.nxt t 0 u h hts
      rw [htl, hnx] at HNX
      have HNX' : Hid (∀ u, T u → Calls Tryd.prog 11 #[.string t, .int .i64 0] u fun e2 w' => e2 = .returned (.tuple #[.agg #[.int .i64 0, .string ⟨#[]⟩], .int .i64 0, .int .i64 e]) ∧ Below u.heap.size u w') := Lib.hid HNX.out
      have HTR := Lib.hid (HI.out.next HT.out HB.out)
      clear HNX
      have HNX := HNX'
      have HE := Lib.hid he
      clear hne hnx ht hts htl HNX' he
      have he13 : (e == 13) = true ∨ ((e == 13) = false ∧ (e == 10) = true) := by
        rcases HE.out with h | h
        · rw [h]; exact .inr ⟨by decide, by decide⟩
        · rw [h]; exact .inl (by decide)
      by_cases h32 : i = 32
      · subst h32
        clear hlt hm hi
        rcases he13 with h1 | ⟨h1, h3⟩
        · go_wp2_with (first
            | (go_at_call 11; (with_reducible refine (HNX.out _ HTR.out).mono ?_); rintro e2 w4 ⟨rfl, hb4⟩; have B4 := Lib.hid ((HB.out.trans (hb4.mono HB.out.size)).alloc (Nat.le_trans HB.out.size hb4.size) (.cells #[.int .i64 0, .string ⟨#[]⟩] 23)); clear hb4)
            | (go_at_call 8; (with_reducible refine (awake_any HI.out _ (HI.out.next HT.out B4.out)).mono ?_); rintro e3 w5 ⟨rfl, hb5⟩))
          go_ret
          exact ⟨rfl, B4.out.trans (hb5.mono B4.out.size)⟩
        · go_wp2_with (first
            | (go_at_call 11; (with_reducible refine (HNX.out _ HTR.out).mono ?_); rintro e2 w4 ⟨rfl, hb4⟩; have B4 := Lib.hid ((HB.out.trans (hb4.mono HB.out.size)).alloc (Nat.le_trans HB.out.size hb4.size) (.cells #[.int .i64 0, .string ⟨#[]⟩] 23)); clear hb4)
            | (go_at_call 8; (with_reducible refine (awake_any HI.out _ (HI.out.next HT.out B4.out)).mono ?_); rintro e3 w5 ⟨rfl, hb5⟩))
          go_ret
          exact ⟨rfl, B4.out.trans (hb5.mono B4.out.size)⟩
      · have j1 : (i : Int) < 32 := by omega
        have j2 : (i : Int) = 8 * (n : Int) - (f : Int) := by omega
        have j3 : ¬ (i : Int) < 8 * (n : Int) - (f : Int) := by omega
        clear hlt hm hi h32
        rcases he13 with h1 | ⟨h1, h3⟩
        · go_wp2_with (first
            | (go_at_call 11; (with_reducible refine (HNX.out _ HTR.out).mono ?_); rintro e2 w4 ⟨rfl, hb4⟩; have B4 := Lib.hid ((HB.out.trans (hb4.mono HB.out.size)).alloc (Nat.le_trans HB.out.size hb4.size) (.cells #[.int .i64 0, .string ⟨#[]⟩] 23)); clear hb4)
            | (go_at_call 8; (with_reducible refine (awake_any HI.out _ (HI.out.next HT.out B4.out)).mono ?_); rintro e3 w5 ⟨rfl, hb5⟩))
          go_ret
          exact ⟨rfl, B4.out.trans (hb5.mono B4.out.size)⟩
        · go_wp2_with (first
            | (go_at_call 11; (with_reducible refine (HNX.out _ HTR.out).mono ?_); rintro e2 w4 ⟨rfl, hb4⟩; have B4 := Lib.hid ((HB.out.trans (hb4.mono HB.out.size)).alloc (Nat.le_trans HB.out.size hb4.size) (.cells #[.int .i64 0, .string ⟨#[]⟩] 23)); clear hb4)
            | (go_at_call 8; (with_reducible refine (awake_any HI.out _ (HI.out.next HT.out B4.out)).mono ?_); rintro e3 w5 ⟨rfl, hb5⟩))
          go_ret
          exact ⟨rfl, B4.out.trans (hb5.mono B4.out.size)⟩
end
end Go.Proofs.YtdnkbgiellhfnaaDoor.rcd
