/-
  The walk of BlockSafe, by what block's functions answer, where no text has more than 1048576 bytes.
-/
import Derived.Test.YtgehhadnjllkdaaBkis
import Derived.Test.YtgehhadnjllkdaaStrs
import Derived.Deep.CutRange
import Derived.Deep.CutBlock
import Derived.Deep.RegionHeld3
namespace Go.Proofs.Ytgehhadnjllkdaa.bk
open Go.RowKit Go.Proofs.Ytgehhadnjllkdaa.mem Go.Proofs.Ytgehhadnjllkdaa.sha Go.Proofs.Ytgehhadnjllkdaa.strx Go.Proofs.Ytgehhadnjllkdaa.kit

section
variable {T : World → Prop} {Bk : (Nat → Prop) → World → Value → List UInt8 → Nat → Prop}
theorem crash_full (x : List UInt8) (k : Nat) (n : Int) (h : k ≤ x.length) : ∃ y : List UInt8, crashB x k n = (y, y.length, (x.length : Int) - (y.length : Int)) ∧ y = x.take y.length ∧ k ≤ y.length ∧ y.length ≤ x.length ∧ (0 ≤ n → n ≤ (x.length : Int) - (k : Int) → (y.length : Int) = (k : Int) + n) := by
  have hk := keepB_le x k n h
  have hl : (x.take (k + keepB x k n)).length = k + keepB x k n := by rw [List.length_take]; omega
  refine ⟨x.take (k + keepB x k n), ?_, by rw [hl], by omega, by omega, fun h0 h1 => ?_⟩
  · unfold crashB
    rw [hl]
    congr 2
    omega
  · rw [hl]
    unfold keepB
    omega
theorem crash_zero (y : List UInt8) : crashB y y.length 0 = (y, y.length, 0) := by
  unfold crashB
  have : keepB y y.length 0 = 0 := by unfold keepB; omega
  rw [this, Nat.add_zero, List.take_length]
  congr 2
  omega
set_option maxHeartbeats 4000000 in
set_option maxRecDepth 100000 in
theorem safe_walk (hI : BkIs T Bk) (ad0 ad1 : Option Addr) (n0 c0 n1 c1 : Nat) (S0 S1 : Nat → ByteArray) (n : Int) (w : World) (hl0 : n0 ≤ 9223372036854775807) (hl1 : n1 ≤ 9223372036854775807) (hT : T w) (hA0 : Strs w ad0 n0 S0) (hA1 : Strs w ad1 n1 S1)
    (hm0 : ∀ i, i < n0 → (S0 i).size ≤ 1048576) (hm1 : ∀ i, i < n1 → (S1 i).size ≤ 1048576) (hnr : -9223372036854775808 ≤ n ∧ n ≤ 9223372036854775807) :
    Calls Try.prog 4 #[.slice ad0 n0 c0, .slice ad1 n1 c1, .int .i64 n] w fun e w' => e = .returned (.bool true) ∧ Below w.heap.size w w' := by
  have HI := Lib.hid hI
  have HT := Lib.hid hT
  have HA1 := Lib.hid hA1
  obtain ⟨hn1, hn2⟩ := hnr
  clear hI hT hA1
  go_enter Try.func4, Try.ntmps4
  go_wp2_with (go_at_call 6; (with_reducible refine (HI.out.new _ HT.out).mono ?_); rintro e w1 ⟨p, rfl, hk1, hb1⟩; have HP := Lib.hid (OneB.new HI.out HT.out hk1 hb1); clear hk1 hb1)
  go_loopg [8, 9] 21 (fun gk s8 s9 wr => ∃ (i : Nat) (s : List UInt8), s9 = .int .i64 i ∧ s8 = .string (bt s) ∧ i ≤ n0 ∧ i ≤ 20 ∧ 21 - i ≤ gk ∧ s.length ≤ i * 1048576 ∧ Hid (OneB T Bk w (w.heap.size ≤ ·) p s 0 wr))
  case atStart => exact ⟨0, [], rfl, rfl, Nat.zero_le _, Nat.zero_le _, by omega, Nat.zero_le _, HP⟩
  case round =>
    obtain ⟨i, s, rfl, rfl, hi, hi20, hgk, hs, HP2⟩ := hrel
    clear HP
    have i0 : (0 : Int) ≤ (i : Int) := Int.natCast_nonneg _
    by_cases hlt : i < n0 ∧ i < 20
    · obtain ⟨hin, hi2⟩ := hlt
      obtain ⟨b, off, rfl, hbl, a0, -⟩ := hA0 i hin
      have hz := hm0 i hin
      have hbk := HP2.out.below
      replace a0 := (hbk.cell hbl).trans a0
      obtain ⟨z, hzz⟩ : ∃ z, z = S0 i := ⟨_, rfl⟩
      rw [← hzz] at a0 hz
      obtain ⟨t, ht⟩ : ∃ t, t = bt s := ⟨_, rfl⟩
      have htz := bt_size s
      rw [← ht] at htz
      rw [← ht]
      have i1 : (i : Int) < (n0 : Int) := by omega
      have i2 : (i : Int) < 20 := by omega
      have tz : ¬ 9223372036854775807 < t.size + z.size := by omega
      have hlen : s.length + z.size ≤ (i + 1) * 1048576 := by omega
      have hcl : ∀ wx, Below w.heap.size w wx → wx.cell? ⟨b, off + i, none⟩ = some (.string z) := fun wx h => by
        have := (h.cell (p := ⟨b, off + i, none⟩) hbl)
        have h2 := hbk.cell (p := ⟨b, off + i, none⟩) hbl
        rw [this, ← h2]
        exact a0
      have HTT := Lib.hid ht
      have HLE := Lib.hid hlen
      clear hzz ht htz hbk hlen
      go_wp2_with (go_at_call 7; (with_reducible refine (HI.out.write (w.heap.size ≤ ·) p s 0 z _ HP2.out.t HP2.out.n HP2.out.b (by omega)).mono ?_); rintro e wB ⟨rfl, hbB, htB⟩; have HPB := Lib.hid (HP2.out.turn HI.out HT.out hbB htB); have a0' := hcl wB HPB.out.below; clear hbB htB)
      go_roundg (20 - i)
      case measure => omega
      case rel => exact ⟨i + 1, s ++ z.data.toList, by go_num, by rw [HTT.out, ← bt_append, bt_of], hin, hi2, by omega, by rw [List.length_append]; have := strx.size_list z; have := HLE.out; omega, HPB⟩
    · have hkn0 : True := trivial
      clear hA0
      by_cases hin : (i : Int) < (n0 : Int)
      · have hi6 : ¬ (i : Int) < 20 := by omega
        go_wp2_with (go_at_call 8; (with_reducible refine (HI.out.sync (w.heap.size ≤ ·) p s 0 _ HP2.out.t HP2.out.n HP2.out.b).mono ?_); rintro e wS ⟨rfl, hbS, htS⟩; have HQ := Lib.hid (HP2.out.turn HI.out HT.out hbS htS); clear hbS htS)
        go_loopg [10, 11] 21 (fun gk2 s10 s11 wq => ∃ (j : Nat) (u : List UInt8), s11 = .int .i64 j ∧ s10 = .string (bt (s ++ u)) ∧ j ≤ n1 ∧ j ≤ 20 ∧ 21 - j ≤ gk2 ∧ u.length ≤ j * 1048576 ∧ Hid (OneB T Bk w (w.heap.size ≤ ·) p (s ++ u) s.length wq))
        case atStart => exact ⟨0, [], rfl, by rw [List.append_nil], Nat.zero_le _, Nat.zero_le _, by omega, Nat.zero_le _, by rw [List.append_nil]; exact HQ⟩
        case round =>
          obtain ⟨j, u, rfl, rfl, hj, hj20, hgk2, hu, HQ2⟩ := hrel
          clear HQ
          have j0 : (0 : Int) ≤ (j : Int) := Int.natCast_nonneg _
          by_cases hlt1 : j < n1 ∧ j < 20
          · obtain ⟨hjn, hj2⟩ := hlt1
            obtain ⟨b, off, rfl, hbl, a0, -⟩ := HA1.out j hjn
            have hz := hm1 j hjn
            have hbk := HQ2.out.below
            replace a0 := (hbk.cell hbl).trans a0
            obtain ⟨z, hzz⟩ : ∃ z, z = S1 j := ⟨_, rfl⟩
            rw [← hzz] at a0 hz
            obtain ⟨t, ht⟩ : ∃ t, t = bt (s ++ u) := ⟨_, rfl⟩
            have htz := bt_size (s ++ u)
            rw [← ht, List.length_append] at htz
            rw [← ht]
            have i1 : (j : Int) < (n1 : Int) := by omega
            have i2 : (j : Int) < 20 := by omega
            have tz : ¬ 9223372036854775807 < t.size + z.size := by omega
            have hcl : ∀ wx, Below w.heap.size w wx → wx.cell? ⟨b, off + j, none⟩ = some (.string z) := fun wx h => by
              have := (h.cell (p := ⟨b, off + j, none⟩) hbl)
              have h2 := hbk.cell (p := ⟨b, off + j, none⟩) hbl
              rw [this, ← h2]
              exact a0
            have HTT := Lib.hid ht
            clear hzz ht htz hbk
            go_wp2_with (go_at_call 7; (with_reducible refine (HI.out.write (w.heap.size ≤ ·) p (s ++ u) s.length z _ HQ2.out.t HQ2.out.n HQ2.out.b (by rw [List.length_append]; omega)).mono ?_); rintro e wB ⟨rfl, hbB, htB⟩; have HPB := Lib.hid (HQ2.out.turn HI.out HT.out hbB htB); have a0' := hcl wB HPB.out.below; clear hbB htB)
            go_roundg (20 - j)
            case measure => omega
            case rel => exact ⟨j + 1, u ++ z.data.toList, by go_num, by rw [HTT.out, ← List.append_assoc, ← bt_append (s ++ u), bt_of], hjn, hj2, by omega, by rw [List.length_append]; have := strx.size_list z; omega, by rw [← List.append_assoc]; exact HPB⟩
          · by_cases hjn : (j : Int) < (n1 : Int)
            · have hj6 : ¬ (j : Int) < 20 := by omega
              obtain ⟨x, hx⟩ : ∃ x, x = s ++ u := ⟨_, rfl⟩
              have hxl : x.length = s.length + u.length := by rw [hx, List.length_append]
              rw [← hx] at HQ2
              rw [← hx]
              obtain ⟨y, hy, hyt, hy1, hy2, hy3⟩ := crash_full x s.length n (by omega)
              have HCR := Lib.hid fun u2 (h : OneB T Bk w (w.heap.size ≤ ·) p x s.length u2) => HI.out.crash (w.heap.size ≤ ·) p x s.length n u2 h.t h.n h.b
              rw [hy] at HCR
              have HDA := Lib.hid fun u2 (h : OneB T Bk w (w.heap.size ≤ ·) p y y.length u2) => HI.out.data (w.heap.size ≤ ·) p y y.length u2 h.t h.b
              have HC2 := Lib.hid fun u2 (h : OneB T Bk w (w.heap.size ≤ ·) p y y.length u2) => HI.out.crash (w.heap.size ≤ ·) p y y.length 0 u2 h.t h.n h.b
              rw [crash_zero] at HC2
              have HSY := Lib.hid fun u2 (h : OneB T Bk w (w.heap.size ≤ ·) p y y.length u2) => HI.out.sync (w.heap.size ≤ ·) p y y.length u2 h.t h.n h.b
              rw [Int.sub_self] at HSY
              obtain ⟨KE, hKE⟩ : ∃ t, t = bt s := ⟨_, rfl⟩
              obtain ⟨AL, hAL⟩ : ∃ t, t = bt x := ⟨_, rfl⟩
              obtain ⟨D, hD⟩ : ∃ t, t = bt y := ⟨_, rfl⟩
              have zK := bt_size s
              have zA := bt_size x
              have zD := bt_size y
              rw [← hKE] at zK
              rw [← hAL] at zA
              rw [← hD] at zD HDA
              rw [← hKE, ← hAL]
              rw [← zA, ← zD] at HCR
              have hext : AL.extract 0 D.size = D := by rw [hAL, hD, bt_size, bt_take, ← hyt]
              have HS : Hid (KE.size ≤ D.size ∧ D.size ≤ AL.size ∧ AL.size ≤ 50000000) := Lib.hid ⟨by omega, by omega, by omega⟩
              have HN : Hid (0 ≤ n → n ≤ (AL.size : Int) - (KE.size : Int) → (D.size : Int) = (KE.size : Int) + n) := Lib.hid (by rw [zA, zK, zD]; exact hy3)
              rw [zD] at HCR
              have HC1 := HCR
              have HZD := Lib.hid zD
              clear hx hxl hy hyt hy1 hy2 hy3 hKE hAL hD zK zA zD HCR
              go_upto_region 17 with (first
                | (go_at_call 11; (with_reducible refine (HC1.out _ HQ2.out).mono ?_); rintro e wD ⟨rfl, hbD, htD⟩; have HPD := Lib.hid (HQ2.out.turn HI.out HT.out hbD htD); clear hbD htD)
                | (go_at_call 13; (with_reducible refine (HDA.out _ HPD.out).mono ?_); rintro e wE ⟨rfl, hbE⟩; have HPE := Lib.hid (HPD.out.next HI.out hbE); clear hbE))
              rw [← HZD.out]
              have hd1 : (KE.size : Int) ≤ (D.size : Int) := by have := HS.out; omega
              have hd2 : (D.size : Int) ≤ (AL.size : Int) := by have := HS.out; omega
              have hd3 : (AL.size : Int) ≤ 50000000 := by have := HS.out; omega
              have hd0 : (0 : Int) ≤ (KE.size : Int) := Int.natCast_nonneg _
              by_cases hn0 : 0 ≤ n
              · by_cases hn3 : n ≤ (AL.size : Int) - (KE.size : Int)
                · have he := HN.out hn0 hn3
                  have hb1 : ((D.size : Int) == (KE.size : Int) + n) = true := by rw [he]; exact beq_self_eq_true _
                  have hb2 : ((D.size : Int) != (KE.size : Int) + n) = false := by rw [he]; simp
                  clear he
                  go_wp2_with (first
                    | (go_at_call 11; (with_reducible refine (HC2.out _ HPE.out).mono ?_); rintro e wF ⟨rfl, hbF, htF⟩; have HPF := Lib.hid (HPE.out.turn HI.out HT.out hbF htF); clear hbF htF)
                    | (go_at_call 13; (with_reducible refine (HDA.out _ HPF.out).mono ?_); rintro e wG ⟨rfl, hbG⟩; have HPG := Lib.hid (HPF.out.next HI.out hbG); clear hbG)
                    | (go_at_call 8; (with_reducible refine (HSY.out _ HPG.out).mono ?_); rintro e wH ⟨rfl, hbH, htH⟩; have HPH := Lib.hid (HPG.out.turn HI.out HT.out hbH htH); clear hbH htH)
                    | (go_at_call 16; (with_reducible refine (awake_any HI.out _ HPH.out.t).mono ?_); rintro e wI ⟨rfl, hbI⟩; have HPI := Lib.hid (HPH.out.next HI.out hbI); clear hbI))
                  go_ret
                  exact ⟨rfl, HPI.out.below⟩
                · go_wp2_with (first
                    | (go_at_call 11; (with_reducible refine (HC2.out _ HPE.out).mono ?_); rintro e wF ⟨rfl, hbF, htF⟩; have HPF := Lib.hid (HPE.out.turn HI.out HT.out hbF htF); clear hbF htF)
                    | (go_at_call 13; (with_reducible refine (HDA.out _ HPF.out).mono ?_); rintro e wG ⟨rfl, hbG⟩; have HPG := Lib.hid (HPF.out.next HI.out hbG); clear hbG)
                    | (go_at_call 8; (with_reducible refine (HSY.out _ HPG.out).mono ?_); rintro e wH ⟨rfl, hbH, htH⟩; have HPH := Lib.hid (HPG.out.turn HI.out HT.out hbH htH); clear hbH htH)
                    | (go_at_call 16; (with_reducible refine (awake_any HI.out _ HPH.out.t).mono ?_); rintro e wI ⟨rfl, hbI⟩; have HPI := Lib.hid (HPH.out.next HI.out hbI); clear hbI))
                  go_ret
                  exact ⟨rfl, HPI.out.below⟩
              · go_wp2_with (first
                  | (go_at_call 11; (with_reducible refine (HC2.out _ HPE.out).mono ?_); rintro e wF ⟨rfl, hbF, htF⟩; have HPF := Lib.hid (HPE.out.turn HI.out HT.out hbF htF); clear hbF htF)
                  | (go_at_call 13; (with_reducible refine (HDA.out _ HPF.out).mono ?_); rintro e wG ⟨rfl, hbG⟩; have HPG := Lib.hid (HPF.out.next HI.out hbG); clear hbG)
                  | (go_at_call 8; (with_reducible refine (HSY.out _ HPG.out).mono ?_); rintro e wH ⟨rfl, hbH, htH⟩; have HPH := Lib.hid (HPG.out.turn HI.out HT.out hbH htH); clear hbH htH)
                  | (go_at_call 16; (with_reducible refine (awake_any HI.out _ HPH.out.t).mono ?_); rintro e wI ⟨rfl, hbI⟩; have HPI := Lib.hid (HPH.out.next HI.out hbI); clear hbI))
                go_ret
                exact ⟨rfl, HPI.out.below⟩
            · skip
              obtain ⟨x, hx⟩ : ∃ x, x = s ++ u := ⟨_, rfl⟩
              have hxl : x.length = s.length + u.length := by rw [hx, List.length_append]
              rw [← hx] at HQ2
              rw [← hx]
              obtain ⟨y, hy, hyt, hy1, hy2, hy3⟩ := crash_full x s.length n (by omega)
              have HCR := Lib.hid fun u2 (h : OneB T Bk w (w.heap.size ≤ ·) p x s.length u2) => HI.out.crash (w.heap.size ≤ ·) p x s.length n u2 h.t h.n h.b
              rw [hy] at HCR
              have HDA := Lib.hid fun u2 (h : OneB T Bk w (w.heap.size ≤ ·) p y y.length u2) => HI.out.data (w.heap.size ≤ ·) p y y.length u2 h.t h.b
              have HC2 := Lib.hid fun u2 (h : OneB T Bk w (w.heap.size ≤ ·) p y y.length u2) => HI.out.crash (w.heap.size ≤ ·) p y y.length 0 u2 h.t h.n h.b
              rw [crash_zero] at HC2
              have HSY := Lib.hid fun u2 (h : OneB T Bk w (w.heap.size ≤ ·) p y y.length u2) => HI.out.sync (w.heap.size ≤ ·) p y y.length u2 h.t h.n h.b
              rw [Int.sub_self] at HSY
              obtain ⟨KE, hKE⟩ : ∃ t, t = bt s := ⟨_, rfl⟩
              obtain ⟨AL, hAL⟩ : ∃ t, t = bt x := ⟨_, rfl⟩
              obtain ⟨D, hD⟩ : ∃ t, t = bt y := ⟨_, rfl⟩
              have zK := bt_size s
              have zA := bt_size x
              have zD := bt_size y
              rw [← hKE] at zK
              rw [← hAL] at zA
              rw [← hD] at zD HDA
              rw [← hKE, ← hAL]
              rw [← zA, ← zD] at HCR
              have hext : AL.extract 0 D.size = D := by rw [hAL, hD, bt_size, bt_take, ← hyt]
              have HS : Hid (KE.size ≤ D.size ∧ D.size ≤ AL.size ∧ AL.size ≤ 50000000) := Lib.hid ⟨by omega, by omega, by omega⟩
              have HN : Hid (0 ≤ n → n ≤ (AL.size : Int) - (KE.size : Int) → (D.size : Int) = (KE.size : Int) + n) := Lib.hid (by rw [zA, zK, zD]; exact hy3)
              rw [zD] at HCR
              have HC1 := HCR
              have HZD := Lib.hid zD
              clear hx hxl hy hyt hy1 hy2 hy3 hKE hAL hD zK zA zD HCR
              go_upto_region 17 with (first
                | (go_at_call 11; (with_reducible refine (HC1.out _ HQ2.out).mono ?_); rintro e wD ⟨rfl, hbD, htD⟩; have HPD := Lib.hid (HQ2.out.turn HI.out HT.out hbD htD); clear hbD htD)
                | (go_at_call 13; (with_reducible refine (HDA.out _ HPD.out).mono ?_); rintro e wE ⟨rfl, hbE⟩; have HPE := Lib.hid (HPD.out.next HI.out hbE); clear hbE))
              rw [← HZD.out]
              have hd1 : (KE.size : Int) ≤ (D.size : Int) := by have := HS.out; omega
              have hd2 : (D.size : Int) ≤ (AL.size : Int) := by have := HS.out; omega
              have hd3 : (AL.size : Int) ≤ 50000000 := by have := HS.out; omega
              have hd0 : (0 : Int) ≤ (KE.size : Int) := Int.natCast_nonneg _
              by_cases hn0 : 0 ≤ n
              · by_cases hn3 : n ≤ (AL.size : Int) - (KE.size : Int)
                · have he := HN.out hn0 hn3
                  have hb1 : ((D.size : Int) == (KE.size : Int) + n) = true := by rw [he]; exact beq_self_eq_true _
                  have hb2 : ((D.size : Int) != (KE.size : Int) + n) = false := by rw [he]; simp
                  clear he
                  go_wp2_with (first
                    | (go_at_call 11; (with_reducible refine (HC2.out _ HPE.out).mono ?_); rintro e wF ⟨rfl, hbF, htF⟩; have HPF := Lib.hid (HPE.out.turn HI.out HT.out hbF htF); clear hbF htF)
                    | (go_at_call 13; (with_reducible refine (HDA.out _ HPF.out).mono ?_); rintro e wG ⟨rfl, hbG⟩; have HPG := Lib.hid (HPF.out.next HI.out hbG); clear hbG)
                    | (go_at_call 8; (with_reducible refine (HSY.out _ HPG.out).mono ?_); rintro e wH ⟨rfl, hbH, htH⟩; have HPH := Lib.hid (HPG.out.turn HI.out HT.out hbH htH); clear hbH htH)
                    | (go_at_call 16; (with_reducible refine (awake_any HI.out _ HPH.out.t).mono ?_); rintro e wI ⟨rfl, hbI⟩; have HPI := Lib.hid (HPH.out.next HI.out hbI); clear hbI))
                  go_ret
                  exact ⟨rfl, HPI.out.below⟩
                · go_wp2_with (first
                    | (go_at_call 11; (with_reducible refine (HC2.out _ HPE.out).mono ?_); rintro e wF ⟨rfl, hbF, htF⟩; have HPF := Lib.hid (HPE.out.turn HI.out HT.out hbF htF); clear hbF htF)
                    | (go_at_call 13; (with_reducible refine (HDA.out _ HPF.out).mono ?_); rintro e wG ⟨rfl, hbG⟩; have HPG := Lib.hid (HPF.out.next HI.out hbG); clear hbG)
                    | (go_at_call 8; (with_reducible refine (HSY.out _ HPG.out).mono ?_); rintro e wH ⟨rfl, hbH, htH⟩; have HPH := Lib.hid (HPG.out.turn HI.out HT.out hbH htH); clear hbH htH)
                    | (go_at_call 16; (with_reducible refine (awake_any HI.out _ HPH.out.t).mono ?_); rintro e wI ⟨rfl, hbI⟩; have HPI := Lib.hid (HPH.out.next HI.out hbI); clear hbI))
                  go_ret
                  exact ⟨rfl, HPI.out.below⟩
              · go_wp2_with (first
                  | (go_at_call 11; (with_reducible refine (HC2.out _ HPE.out).mono ?_); rintro e wF ⟨rfl, hbF, htF⟩; have HPF := Lib.hid (HPE.out.turn HI.out HT.out hbF htF); clear hbF htF)
                  | (go_at_call 13; (with_reducible refine (HDA.out _ HPF.out).mono ?_); rintro e wG ⟨rfl, hbG⟩; have HPG := Lib.hid (HPF.out.next HI.out hbG); clear hbG)
                  | (go_at_call 8; (with_reducible refine (HSY.out _ HPG.out).mono ?_); rintro e wH ⟨rfl, hbH, htH⟩; have HPH := Lib.hid (HPG.out.turn HI.out HT.out hbH htH); clear hbH htH)
                  | (go_at_call 16; (with_reducible refine (awake_any HI.out _ HPH.out.t).mono ?_); rintro e wI ⟨rfl, hbI⟩; have HPI := Lib.hid (HPH.out.next HI.out hbI); clear hbI))
                go_ret
                exact ⟨rfl, HPI.out.below⟩
      · skip
        go_wp2_with (go_at_call 8; (with_reducible refine (HI.out.sync (w.heap.size ≤ ·) p s 0 _ HP2.out.t HP2.out.n HP2.out.b).mono ?_); rintro e wS ⟨rfl, hbS, htS⟩; have HQ := Lib.hid (HP2.out.turn HI.out HT.out hbS htS); clear hbS htS)
        go_loopg [10, 11] 21 (fun gk2 s10 s11 wq => ∃ (j : Nat) (u : List UInt8), s11 = .int .i64 j ∧ s10 = .string (bt (s ++ u)) ∧ j ≤ n1 ∧ j ≤ 20 ∧ 21 - j ≤ gk2 ∧ u.length ≤ j * 1048576 ∧ Hid (OneB T Bk w (w.heap.size ≤ ·) p (s ++ u) s.length wq))
        case atStart => exact ⟨0, [], rfl, by rw [List.append_nil], Nat.zero_le _, Nat.zero_le _, by omega, Nat.zero_le _, by rw [List.append_nil]; exact HQ⟩
        case round =>
          obtain ⟨j, u, rfl, rfl, hj, hj20, hgk2, hu, HQ2⟩ := hrel
          clear HQ
          have j0 : (0 : Int) ≤ (j : Int) := Int.natCast_nonneg _
          by_cases hlt1 : j < n1 ∧ j < 20
          · obtain ⟨hjn, hj2⟩ := hlt1
            obtain ⟨b, off, rfl, hbl, a0, -⟩ := HA1.out j hjn
            have hz := hm1 j hjn
            have hbk := HQ2.out.below
            replace a0 := (hbk.cell hbl).trans a0
            obtain ⟨z, hzz⟩ : ∃ z, z = S1 j := ⟨_, rfl⟩
            rw [← hzz] at a0 hz
            obtain ⟨t, ht⟩ : ∃ t, t = bt (s ++ u) := ⟨_, rfl⟩
            have htz := bt_size (s ++ u)
            rw [← ht, List.length_append] at htz
            rw [← ht]
            have i1 : (j : Int) < (n1 : Int) := by omega
            have i2 : (j : Int) < 20 := by omega
            have tz : ¬ 9223372036854775807 < t.size + z.size := by omega
            have hcl : ∀ wx, Below w.heap.size w wx → wx.cell? ⟨b, off + j, none⟩ = some (.string z) := fun wx h => by
              have := (h.cell (p := ⟨b, off + j, none⟩) hbl)
              have h2 := hbk.cell (p := ⟨b, off + j, none⟩) hbl
              rw [this, ← h2]
              exact a0
            have HTT := Lib.hid ht
            clear hzz ht htz hbk
            go_wp2_with (go_at_call 7; (with_reducible refine (HI.out.write (w.heap.size ≤ ·) p (s ++ u) s.length z _ HQ2.out.t HQ2.out.n HQ2.out.b (by rw [List.length_append]; omega)).mono ?_); rintro e wB ⟨rfl, hbB, htB⟩; have HPB := Lib.hid (HQ2.out.turn HI.out HT.out hbB htB); have a0' := hcl wB HPB.out.below; clear hbB htB)
            go_roundg (20 - j)
            case measure => omega
            case rel => exact ⟨j + 1, u ++ z.data.toList, by go_num, by rw [HTT.out, ← List.append_assoc, ← bt_append (s ++ u), bt_of], hjn, hj2, by omega, by rw [List.length_append]; have := strx.size_list z; omega, by rw [← List.append_assoc]; exact HPB⟩
          · by_cases hjn : (j : Int) < (n1 : Int)
            · have hj6 : ¬ (j : Int) < 20 := by omega
              obtain ⟨x, hx⟩ : ∃ x, x = s ++ u := ⟨_, rfl⟩
              have hxl : x.length = s.length + u.length := by rw [hx, List.length_append]
              rw [← hx] at HQ2
              rw [← hx]
              obtain ⟨y, hy, hyt, hy1, hy2, hy3⟩ := crash_full x s.length n (by omega)
              have HCR := Lib.hid fun u2 (h : OneB T Bk w (w.heap.size ≤ ·) p x s.length u2) => HI.out.crash (w.heap.size ≤ ·) p x s.length n u2 h.t h.n h.b
              rw [hy] at HCR
              have HDA := Lib.hid fun u2 (h : OneB T Bk w (w.heap.size ≤ ·) p y y.length u2) => HI.out.data (w.heap.size ≤ ·) p y y.length u2 h.t h.b
              have HC2 := Lib.hid fun u2 (h : OneB T Bk w (w.heap.size ≤ ·) p y y.length u2) => HI.out.crash (w.heap.size ≤ ·) p y y.length 0 u2 h.t h.n h.b
              rw [crash_zero] at HC2
              have HSY := Lib.hid fun u2 (h : OneB T Bk w (w.heap.size ≤ ·) p y y.length u2) => HI.out.sync (w.heap.size ≤ ·) p y y.length u2 h.t h.n h.b
              rw [Int.sub_self] at HSY
              obtain ⟨KE, hKE⟩ : ∃ t, t = bt s := ⟨_, rfl⟩
              obtain ⟨AL, hAL⟩ : ∃ t, t = bt x := ⟨_, rfl⟩
              obtain ⟨D, hD⟩ : ∃ t, t = bt y := ⟨_, rfl⟩
              have zK := bt_size s
              have zA := bt_size x
              have zD := bt_size y
              rw [← hKE] at zK
              rw [← hAL] at zA
              rw [← hD] at zD HDA
              rw [← hKE, ← hAL]
              rw [← zA, ← zD] at HCR
              have hext : AL.extract 0 D.size = D := by rw [hAL, hD, bt_size, bt_take, ← hyt]
              have HS : Hid (KE.size ≤ D.size ∧ D.size ≤ AL.size ∧ AL.size ≤ 50000000) := Lib.hid ⟨by omega, by omega, by omega⟩
              have HN : Hid (0 ≤ n → n ≤ (AL.size : Int) - (KE.size : Int) → (D.size : Int) = (KE.size : Int) + n) := Lib.hid (by rw [zA, zK, zD]; exact hy3)
              rw [zD] at HCR
              have HC1 := HCR
              have HZD := Lib.hid zD
              clear hx hxl hy hyt hy1 hy2 hy3 hKE hAL hD zK zA zD HCR
              go_upto_region 17 with (first
                | (go_at_call 11; (with_reducible refine (HC1.out _ HQ2.out).mono ?_); rintro e wD ⟨rfl, hbD, htD⟩; have HPD := Lib.hid (HQ2.out.turn HI.out HT.out hbD htD); clear hbD htD)
                | (go_at_call 13; (with_reducible refine (HDA.out _ HPD.out).mono ?_); rintro e wE ⟨rfl, hbE⟩; have HPE := Lib.hid (HPD.out.next HI.out hbE); clear hbE))
              rw [← HZD.out]
              have hd1 : (KE.size : Int) ≤ (D.size : Int) := by have := HS.out; omega
              have hd2 : (D.size : Int) ≤ (AL.size : Int) := by have := HS.out; omega
              have hd3 : (AL.size : Int) ≤ 50000000 := by have := HS.out; omega
              have hd0 : (0 : Int) ≤ (KE.size : Int) := Int.natCast_nonneg _
              by_cases hn0 : 0 ≤ n
              · by_cases hn3 : n ≤ (AL.size : Int) - (KE.size : Int)
                · have he := HN.out hn0 hn3
                  have hb1 : ((D.size : Int) == (KE.size : Int) + n) = true := by rw [he]; exact beq_self_eq_true _
                  have hb2 : ((D.size : Int) != (KE.size : Int) + n) = false := by rw [he]; simp
                  clear he
                  go_wp2_with (first
                    | (go_at_call 11; (with_reducible refine (HC2.out _ HPE.out).mono ?_); rintro e wF ⟨rfl, hbF, htF⟩; have HPF := Lib.hid (HPE.out.turn HI.out HT.out hbF htF); clear hbF htF)
                    | (go_at_call 13; (with_reducible refine (HDA.out _ HPF.out).mono ?_); rintro e wG ⟨rfl, hbG⟩; have HPG := Lib.hid (HPF.out.next HI.out hbG); clear hbG)
                    | (go_at_call 8; (with_reducible refine (HSY.out _ HPG.out).mono ?_); rintro e wH ⟨rfl, hbH, htH⟩; have HPH := Lib.hid (HPG.out.turn HI.out HT.out hbH htH); clear hbH htH)
                    | (go_at_call 16; (with_reducible refine (awake_any HI.out _ HPH.out.t).mono ?_); rintro e wI ⟨rfl, hbI⟩; have HPI := Lib.hid (HPH.out.next HI.out hbI); clear hbI))
                  go_ret
                  exact ⟨rfl, HPI.out.below⟩
                · go_wp2_with (first
                    | (go_at_call 11; (with_reducible refine (HC2.out _ HPE.out).mono ?_); rintro e wF ⟨rfl, hbF, htF⟩; have HPF := Lib.hid (HPE.out.turn HI.out HT.out hbF htF); clear hbF htF)
                    | (go_at_call 13; (with_reducible refine (HDA.out _ HPF.out).mono ?_); rintro e wG ⟨rfl, hbG⟩; have HPG := Lib.hid (HPF.out.next HI.out hbG); clear hbG)
                    | (go_at_call 8; (with_reducible refine (HSY.out _ HPG.out).mono ?_); rintro e wH ⟨rfl, hbH, htH⟩; have HPH := Lib.hid (HPG.out.turn HI.out HT.out hbH htH); clear hbH htH)
                    | (go_at_call 16; (with_reducible refine (awake_any HI.out _ HPH.out.t).mono ?_); rintro e wI ⟨rfl, hbI⟩; have HPI := Lib.hid (HPH.out.next HI.out hbI); clear hbI))
                  go_ret
                  exact ⟨rfl, HPI.out.below⟩
              · go_wp2_with (first
                  | (go_at_call 11; (with_reducible refine (HC2.out _ HPE.out).mono ?_); rintro e wF ⟨rfl, hbF, htF⟩; have HPF := Lib.hid (HPE.out.turn HI.out HT.out hbF htF); clear hbF htF)
                  | (go_at_call 13; (with_reducible refine (HDA.out _ HPF.out).mono ?_); rintro e wG ⟨rfl, hbG⟩; have HPG := Lib.hid (HPF.out.next HI.out hbG); clear hbG)
                  | (go_at_call 8; (with_reducible refine (HSY.out _ HPG.out).mono ?_); rintro e wH ⟨rfl, hbH, htH⟩; have HPH := Lib.hid (HPG.out.turn HI.out HT.out hbH htH); clear hbH htH)
                  | (go_at_call 16; (with_reducible refine (awake_any HI.out _ HPH.out.t).mono ?_); rintro e wI ⟨rfl, hbI⟩; have HPI := Lib.hid (HPH.out.next HI.out hbI); clear hbI))
                go_ret
                exact ⟨rfl, HPI.out.below⟩
            · skip
              obtain ⟨x, hx⟩ : ∃ x, x = s ++ u := ⟨_, rfl⟩
              have hxl : x.length = s.length + u.length := by rw [hx, List.length_append]
              rw [← hx] at HQ2
              rw [← hx]
              obtain ⟨y, hy, hyt, hy1, hy2, hy3⟩ := crash_full x s.length n (by omega)
              have HCR := Lib.hid fun u2 (h : OneB T Bk w (w.heap.size ≤ ·) p x s.length u2) => HI.out.crash (w.heap.size ≤ ·) p x s.length n u2 h.t h.n h.b
              rw [hy] at HCR
              have HDA := Lib.hid fun u2 (h : OneB T Bk w (w.heap.size ≤ ·) p y y.length u2) => HI.out.data (w.heap.size ≤ ·) p y y.length u2 h.t h.b
              have HC2 := Lib.hid fun u2 (h : OneB T Bk w (w.heap.size ≤ ·) p y y.length u2) => HI.out.crash (w.heap.size ≤ ·) p y y.length 0 u2 h.t h.n h.b
              rw [crash_zero] at HC2
              have HSY := Lib.hid fun u2 (h : OneB T Bk w (w.heap.size ≤ ·) p y y.length u2) => HI.out.sync (w.heap.size ≤ ·) p y y.length u2 h.t h.n h.b
              rw [Int.sub_self] at HSY
              obtain ⟨KE, hKE⟩ : ∃ t, t = bt s := ⟨_, rfl⟩
              obtain ⟨AL, hAL⟩ : ∃ t, t = bt x := ⟨_, rfl⟩
              obtain ⟨D, hD⟩ : ∃ t, t = bt y := ⟨_, rfl⟩
              have zK := bt_size s
              have zA := bt_size x
              have zD := bt_size y
              rw [← hKE] at zK
              rw [← hAL] at zA
              rw [← hD] at zD HDA
              rw [← hKE, ← hAL]
              rw [← zA, ← zD] at HCR
              have hext : AL.extract 0 D.size = D := by rw [hAL, hD, bt_size, bt_take, ← hyt]
              have HS : Hid (KE.size ≤ D.size ∧ D.size ≤ AL.size ∧ AL.size ≤ 50000000) := Lib.hid ⟨by omega, by omega, by omega⟩
              have HN : Hid (0 ≤ n → n ≤ (AL.size : Int) - (KE.size : Int) → (D.size : Int) = (KE.size : Int) + n) := Lib.hid (by rw [zA, zK, zD]; exact hy3)
              rw [zD] at HCR
              have HC1 := HCR
              have HZD := Lib.hid zD
              clear hx hxl hy hyt hy1 hy2 hy3 hKE hAL hD zK zA zD HCR
              go_upto_region 17 with (first
                | (go_at_call 11; (with_reducible refine (HC1.out _ HQ2.out).mono ?_); rintro e wD ⟨rfl, hbD, htD⟩; have HPD := Lib.hid (HQ2.out.turn HI.out HT.out hbD htD); clear hbD htD)
                | (go_at_call 13; (with_reducible refine (HDA.out _ HPD.out).mono ?_); rintro e wE ⟨rfl, hbE⟩; have HPE := Lib.hid (HPD.out.next HI.out hbE); clear hbE))
              rw [← HZD.out]
              have hd1 : (KE.size : Int) ≤ (D.size : Int) := by have := HS.out; omega
              have hd2 : (D.size : Int) ≤ (AL.size : Int) := by have := HS.out; omega
              have hd3 : (AL.size : Int) ≤ 50000000 := by have := HS.out; omega
              have hd0 : (0 : Int) ≤ (KE.size : Int) := Int.natCast_nonneg _
              by_cases hn0 : 0 ≤ n
              · by_cases hn3 : n ≤ (AL.size : Int) - (KE.size : Int)
                · have he := HN.out hn0 hn3
                  have hb1 : ((D.size : Int) == (KE.size : Int) + n) = true := by rw [he]; exact beq_self_eq_true _
                  have hb2 : ((D.size : Int) != (KE.size : Int) + n) = false := by rw [he]; simp
                  clear he
                  go_wp2_with (first
                    | (go_at_call 11; (with_reducible refine (HC2.out _ HPE.out).mono ?_); rintro e wF ⟨rfl, hbF, htF⟩; have HPF := Lib.hid (HPE.out.turn HI.out HT.out hbF htF); clear hbF htF)
                    | (go_at_call 13; (with_reducible refine (HDA.out _ HPF.out).mono ?_); rintro e wG ⟨rfl, hbG⟩; have HPG := Lib.hid (HPF.out.next HI.out hbG); clear hbG)
                    | (go_at_call 8; (with_reducible refine (HSY.out _ HPG.out).mono ?_); rintro e wH ⟨rfl, hbH, htH⟩; have HPH := Lib.hid (HPG.out.turn HI.out HT.out hbH htH); clear hbH htH)
                    | (go_at_call 16; (with_reducible refine (awake_any HI.out _ HPH.out.t).mono ?_); rintro e wI ⟨rfl, hbI⟩; have HPI := Lib.hid (HPH.out.next HI.out hbI); clear hbI))
                  go_ret
                  exact ⟨rfl, HPI.out.below⟩
                · go_wp2_with (first
                    | (go_at_call 11; (with_reducible refine (HC2.out _ HPE.out).mono ?_); rintro e wF ⟨rfl, hbF, htF⟩; have HPF := Lib.hid (HPE.out.turn HI.out HT.out hbF htF); clear hbF htF)
                    | (go_at_call 13; (with_reducible refine (HDA.out _ HPF.out).mono ?_); rintro e wG ⟨rfl, hbG⟩; have HPG := Lib.hid (HPF.out.next HI.out hbG); clear hbG)
                    | (go_at_call 8; (with_reducible refine (HSY.out _ HPG.out).mono ?_); rintro e wH ⟨rfl, hbH, htH⟩; have HPH := Lib.hid (HPG.out.turn HI.out HT.out hbH htH); clear hbH htH)
                    | (go_at_call 16; (with_reducible refine (awake_any HI.out _ HPH.out.t).mono ?_); rintro e wI ⟨rfl, hbI⟩; have HPI := Lib.hid (HPH.out.next HI.out hbI); clear hbI))
                  go_ret
                  exact ⟨rfl, HPI.out.below⟩
              · go_wp2_with (first
                  | (go_at_call 11; (with_reducible refine (HC2.out _ HPE.out).mono ?_); rintro e wF ⟨rfl, hbF, htF⟩; have HPF := Lib.hid (HPE.out.turn HI.out HT.out hbF htF); clear hbF htF)
                  | (go_at_call 13; (with_reducible refine (HDA.out _ HPF.out).mono ?_); rintro e wG ⟨rfl, hbG⟩; have HPG := Lib.hid (HPF.out.next HI.out hbG); clear hbG)
                  | (go_at_call 8; (with_reducible refine (HSY.out _ HPG.out).mono ?_); rintro e wH ⟨rfl, hbH, htH⟩; have HPH := Lib.hid (HPG.out.turn HI.out HT.out hbH htH); clear hbH htH)
                  | (go_at_call 16; (with_reducible refine (awake_any HI.out _ HPH.out.t).mono ?_); rintro e wI ⟨rfl, hbI⟩; have HPI := Lib.hid (HPH.out.next HI.out hbI); clear hbI))
                go_ret
                exact ⟨rfl, HPI.out.below⟩
end
end Go.Proofs.Ytgehhadnjllkdaa.bk
