/-
  OctetWrites' walk.
-/
import Derived.Test.YtbloijnkkjmldaaActs
import Derived.Test.YtbloijnkkjmldaaRef2
import Derived.Deep.RegionHeld3
import Derived.Deep.DeepCutAuto
import Derived.Deep.CutBlock
import Derived.Deep.CutRange
import Derived.Outline
namespace Go.Proofs.Ytbloijnkkjmldaa.oct
open Go.RowKit

theorem Turn.undrew {F : Nat → Prop} {w w' : World} (h : Turn F w.drew w') : Turn F w w' := ⟨h.os, h.tape, h.output, h.size, h.block⟩
theorem Below.undrew {B : Nat} {w w' : World} (h : Below B w.drew w') : Below B w w' := ⟨h.os, h.tape, h.output, h.size, h.block⟩

section
variable (K N Z : Nat → Int) (S : Nat → ByteArray)
def act3 (st : List UInt8 × Int) (i : Nat) : List UInt8 × Int := if K i = 0 then wNum st (N i) (Z i) else if K i = 1 then wText st (S i) else wRaw st (S i)
def ref3 (i : Nat) : ByteArray × Int := if K i = 0 then refNum (N i) (Z i) else if K i = 1 then refText (S i) else (S i, 0)
def all3 : Nat → List UInt8 × Int
  | 0 => ([], 0)
  | k + 1 => act3 K N Z S (all3 k) k

theorem act3_ref (st : List UInt8 × Int) (i : Nat) : act3 K N Z S st i = if st.2 ≠ 0 then st else if (ref3 K N Z S i).2 ≠ 0 then ([], (ref3 K N Z S i).2) else (st.1 ++ (ref3 K N Z S i).1.data.toList, 0) := by
  unfold act3 ref3
  by_cases h0 : K i = 0
  · rw [if_pos h0, if_pos h0]
    unfold wNum refNum
    by_cases h1 : st.2 ≠ 0
    · rw [if_pos h1, if_pos h1]
    · rw [if_neg h1, if_neg h1]
      by_cases h2 : numErr (N i) (Z i) ≠ 0
      · rw [if_pos h2, if_pos h2, if_pos h2]
      · rw [if_neg h2, if_neg h2, if_neg (by simp), tx_list]
  · rw [if_neg h0, if_neg h0]
    by_cases h1' : K i = 1
    · rw [if_pos h1', if_pos h1']
      unfold wText refText
      by_cases h1 : st.2 ≠ 0
      · rw [if_pos h1, if_pos h1]
      · rw [if_neg h1, if_neg h1]
        by_cases h2 : 65535 < (S i).size
        · rw [if_pos h2, if_pos h2, if_pos (by simp)]
        · rw [if_neg h2, if_neg h2, if_neg (by simp), tx_list]
    · rw [if_neg h1', if_neg h1']
      unfold wRaw
      by_cases h1 : st.2 ≠ 0
      · rw [if_pos h1, if_pos h1]
      · rw [if_neg h1, if_neg h1, if_neg (by simp)]

theorem ref3_len (i : Nat) (h : (S i).size ≤ 1048576) : (ref3 K N Z S i).1.size ≤ 1048577 := by
  unfold ref3
  split
  · unfold refNum
    split
    · exact Nat.zero_le _
    · rw [tx_size]; have := be_len (N i) (Z i); omega
  · split
    · unfold refText
      split
      · exact Nat.zero_le _
      · rw [tx_size]
        have e : (S i).data.toList.length = (S i).size := by rw [Array.length_toList]; rfl
        have := be_len (S i).size 2
        simp only [textBytes, List.length_append, e]; omega
    · simp only; omega
theorem act3_len (st : List UInt8 × Int) (i : Nat) (h : (S i).size ≤ 1048576) : (act3 K N Z S st i).1.length ≤ st.1.length + 1048577 := by
  rw [act3_ref]
  split
  · omega
  · split
    · simp
    · have := ref3_len K N Z S i h
      have e : (ref3 K N Z S i).1.data.toList.length = (ref3 K N Z S i).1.size := by rw [Array.length_toList]; rfl
      simp only [List.length_append, e]; omega
end

set_option maxHeartbeats 4000000 in
set_option maxRecDepth 100000 in
theorem writes_walk (ad : Option Addr) (n cap : Nat) (K N Z : Nat → Int) (S : Nat → ByteArray) (w : World) (hl : n ≤ 9223372036854775807) (hA : Acts w ad n K N Z S) (hSm : ∀ i, i < n → (S i).size ≤ 1048576) :
    Calls Try.prog 3 #[.slice ad n cap] w fun e w' => e = .returned (.bool true) ∧ Below w.heap.size w w' := by
  go_enter Try.func3, Try.ntmps3
  go_wp2_with (go_at_call 8; refine (new_any _).mono ?_; rintro e w1 ⟨rfl, hw1, hb1⟩; have hW1 : WrIs w1 (w.heap.size ≤ ·) w.heap.size [] 0 := WrIs.new hw1 (Nat.le_refl _))
  clear hw1
  generalize hG : w.heap.size = G at *
  go_loopw [4, 5, 6] (fun wt bd i wr => ∃ (k : Nat) (W : ByteArray), k ≤ n ∧ k ≤ 60 ∧ wt = .string W ∧ bd = .int .i64 (all3 K N Z S k).2 ∧ i = .int .i64 k ∧ ((all3 K N Z S k).2 = 0 → W = tx (all3 K N Z S k).1) ∧ (all3 K N Z S k).1.length ≤ k * 1048577 ∧ WrIs wr (G ≤ ·) G (all3 K N Z S k).1 (all3 K N Z S k).2 ∧ Below G w wr) (fun _ _ i _ => 60 - (intOf i).toNat)
  case atStart => exact ⟨0, ⟨#[]⟩, Nat.zero_le _, Nat.zero_le _, rfl, rfl, rfl, fun _ => rfl, Nat.zero_le _, hW1, hb1⟩
  case round =>
    obtain ⟨k, W, hk, hk60, rfl, rfl, rfl, hWt, hlen, hWk, hBk⟩ := hrel
    have hNew : New (G ≤ ·) wr := fun j hj => Nat.le_trans (by have := hBk.size; omega) hj
    clear hW1 hb1
    by_cases hlt : k < n ∧ k < 60
    · obtain ⟨hkn, hk2⟩ := hlt
      obtain ⟨b, off, rfl, hbl, a0, a1, a2, a3, hN, hS⟩ := hA k hkn
      have hS' := hSm k hkn
      have hstep : all3 K N Z S (k + 1) = act3 K N Z S (all3 K N Z S k) k := rfl
      have hl3 := act3_len K N Z S (all3 K N Z S k) k hS'
      have HST := Lib.hid hstep
      have HWT := Lib.hid hWt
      clear hstep hWt
      rw [hG] at hbl
      replace a0 := (hBk.cell hbl).trans a0
      replace a1 := (hBk.cell hbl).trans a1
      replace a2 := (hBk.cell hbl).trans a2
      replace a3 := (hBk.cell hbl).trans a3
      have hK1 : ∀ wx {i : Nat} {v : Value}, Below G wr wx → wr.cell? ⟨b, i, none⟩ = some v → wx.cell? ⟨b, i, none⟩ = some v := fun wx i v h hc => (h.cell hbl).trans hc
      generalize hst : all3 K N Z S k = st at *
      obtain ⟨out, err⟩ := st
      simp only at hWk hlen hl3
      clear hst
      have i0 : (0 : Int) ≤ (k : Int) := Int.natCast_nonneg _
      have i1 : (k : Int) < (n : Int) := by omega
      have i2 : (k : Int) < 60 := by omega
      go_upto_block 2 with fail
      go_cut [7, 8] from 12 to 121 (fun bs e wx => bs = .string (ref3 K N Z S k).1 ∧ e = .int .i64 (ref3 K N Z S k).2 ∧ WrIs wx (G ≤ ·) G (act3 K N Z S (out, err) k).1 (act3 K N Z S (out, err) k).2 ∧ Below G w wx)
      case first =>
        by_cases h0 : K k = 0
        · have e1 : ref3 K N Z S k = refNum (N k) (Z k) := by unfold ref3; rw [if_pos h0]
          have e2 : act3 K N Z S (out, err) k = wNum (out, err) (N k) (Z k) := by unfold act3; rw [if_pos h0]
          have E1 := Lib.hid e1
          have E2 := Lib.hid e2
          clear e1 e2
          have d0 : (K k == 0) = true := by simpa using h0
          go_upto_region 12 with fail
          go_region_held3 (fun w' => w'.cell? ⟨b, off + k * 4 + 1, none⟩ = some (.int .i64 (N k)) ∧ w'.cell? ⟨b, off + k * 4 + 2, none⟩ = some (.int .i64 (Z k)))
            (first | exact ⟨a1, a2⟩ | exact ⟨hK1 _ (by assumption) a1, hK1 _ (by assumption) a2⟩)
            (first
              | (go_at_call 9; refine (refnum_any _ _ _).mono ?_; rw [← E1.out]; rintro e wA ⟨rfl, hbA⟩; have hBA : Below G wr wA := (Below.undrew hbA).mono (by simp; have := hBk.size; omega)))
          have a1' := hK1 _ hBA a1
          have a2' := hK1 _ hBA a2
          have hWA : WrIs wA (G ≤ ·) G out err := hWk.fresh (Below.undrew hbA)
          go_upto_region 13 with fail
          go_region_held3 (fun w' => w'.cell? ⟨b, off + k * 4 + 1, none⟩ = some (.int .i64 (N k)) ∧ w'.cell? ⟨b, off + k * 4 + 2, none⟩ = some (.int .i64 (Z k)))
            (first | exact ⟨a1', a2'⟩ | exact ⟨hK1 _ (hBA.trans (by assumption)) a1, hK1 _ (hBA.trans (by assumption)) a2⟩)
            (first
              | (go_at_call 10; refine (num_any (G ≤ ·) G _ _ (N k) (Z k) _ (by exact hWA) (by exact fun j hj => hNew j (Nat.le_trans hbA.size hj)) (by omega) hN).mono ?_; rw [← E2.out]; rintro e wB ⟨rfl, hWB, hTB⟩; have hBB : Below G wA wB := Turn.below (Turn.undrew hTB) (fun _ h => h)))
          go_wp2_with fail
          go_meet
          exact ⟨rfl, rfl, hWB, hBk.trans (hBA.trans hBB)⟩
        · have h0' : (K k == 0) = false := by simpa using h0
          by_cases h1 : K k = 1
          · have e1 : ref3 K N Z S k = refText (S k) := by unfold ref3; rw [if_neg h0, if_pos h1]
            have e2 : act3 K N Z S (out, err) k = wText (out, err) (S k) := by unfold act3; rw [if_neg h0, if_pos h1]
            have E1 := Lib.hid e1
            have E2 := Lib.hid e2
            have d1 : (K k == 1) = true := by simpa using h1
            clear e1 e2 h0
            go_wp2_with (first
              | (go_at_call 11; refine (reftext_any _ _).mono ?_; rw [← E1.out]; rintro e wA ⟨rfl, hbA⟩; have hBA : Below G wr wA := hbA.mono (by have := hBk.size; omega); have a3' := hK1 _ hBA a3; have hWA : WrIs wA (G ≤ ·) G out err := hWk.fresh hbA)
              | (go_at_call 12; refine (text_any (G ≤ ·) G _ _ (S k) _ hWA (fun j hj => hNew j (Nat.le_trans hbA.size hj)) (by intros; omega)).mono ?_; rw [← E2.out]; rintro e wB ⟨rfl, hWB, hTB⟩; have hBB : Below G wA wB := Turn.below hTB (fun _ h => h)))
            go_meet
            exact ⟨rfl, rfl, hWB, hBk.trans (hBA.trans hBB)⟩
          · have e1 : ref3 K N Z S k = (S k, 0) := by unfold ref3; rw [if_neg h0, if_neg h1]
            have e2 : act3 K N Z S (out, err) k = wRaw (out, err) (S k) := by unfold act3; rw [if_neg h0, if_neg h1]
            have h1' : (K k == 1) = false := by simpa using h1
            have E1 := Lib.hid e1
            have E2 := Lib.hid e2
            clear e1 e2 h0 h1
            go_wp2_with (go_at_call 13; refine (raw_any (G ≤ ·) G _ _ (S k) _ hWk hNew (by intros; omega)).mono ?_; rw [← E2.out]; rintro e wB ⟨rfl, hWB, hTB⟩; have hBB : Below G wr wB := Turn.below hTB (fun _ h => h))
            go_meet
            exact ⟨by rw [E1.out], by rw [E1.out], hWB, hBk.trans hBB⟩
      case rest =>
        obtain ⟨rfl, rfl, hWc, hBc'⟩ := hcut
        clear hWk hNew a0 a1 a2 a3 hK1
        have har := act3_ref K N Z S (out, err) k
        have hrl := ref3_len K N Z S k hS'
        generalize ref3 K N Z S k = rr at *
        obtain ⟨rb, e⟩ := rr
        simp only at har hrl
        rw [← HST.out] at har hl3
        have HA0 := Lib.hid har
        clear har
        rw [← HST.out] at hWc
        by_cases he : err = 0
        · subst he
          obtain rfl : W = tx out := HWT.out rfl
          by_cases h2 : e = 0
          · subst h2
            have hA' : all3 K N Z S (k + 1) = (out ++ rb.data.toList, 0) := by rw [HA0.out, if_neg (by simp), if_neg (by simp)]
            rw [hA'] at hWc hl3
            have HA := Lib.hid hA'
            clear hA'
            simp only at hWc hl3
            have hadd : ∀ u : World, (Op.stringOp .add (tx out) rb).run Try.prog u = .ok (.string (tx (out ++ rb.data.toList))) u := fun u => by
              rw [run_string_add_sum u _ _ (by rw [tx_size]; omega)]
              have e : tx out ++ rb = tx (out ++ rb.data.toList) := by
                apply bytes_ext
                rw [tx_list, ByteArray.data_append, Array.toList_append]
                simp [tx]
              rw [e]
            have hD : wDone (out ++ rb.data.toList, 0) = (tx (out ++ rb.data.toList), 0) := rfl
            have HD := Lib.hid hD
            clear hD
            go_wp2_with (go_at_call 14; refine (done_any (G ≤ ·) G _ _ _ hWc).mono ?_; rw [HD.out]; rintro e w4 ⟨rfl, rfl⟩)
            go_roundw
            case rel => exact ⟨k + 1, tx (out ++ rb.data.toList), by omega, by omega, rfl, by rw [HA.out], by go_num, fun _ => by rw [HA.out], by rw [HA.out]; simp only; omega, by rw [HA.out]; exact hWc, hBc'⟩
            case measure => simp [intOf]; omega
          · have d2 : (e == 0) = false := by simpa using h2
            have d2' : (e != 0) = true := by simpa using h2
            have hA' : all3 K N Z S (k + 1) = ([], e) := by rw [HA0.out, if_neg (by simp), if_pos h2]
            rw [hA'] at hWc hl3
            have HA := Lib.hid hA'
            simp only at hWc hl3
            have hD : wDone ([], e) = (⟨#[]⟩, e) := by unfold wDone; rw [if_pos h2]
            have HD := Lib.hid hD
            have H2 := Lib.hid h2
            clear hD h2 hA'
            go_wp2_with (go_at_call 14; refine (done_any (G ≤ ·) G _ _ _ hWc).mono ?_; rw [HD.out]; rintro e w4 ⟨rfl, rfl⟩)
            go_roundw
            case rel => exact ⟨k + 1, tx out, by omega, by omega, rfl, by rw [HA.out], by go_num, fun h => absurd (by rw [HA.out] at h; exact h) H2.out, by rw [HA.out]; simp, by rw [HA.out]; exact hWc, hBc'⟩
            case measure => simp [intOf]; omega
        · have hlen2 : out.length ≤ (k + 1) * 1048577 := Nat.le_trans hlen (Nat.mul_le_mul_right _ (Nat.le_succ k))
          have d2 : (err == 0) = false := by simpa using he
          have d2' : (err != 0) = true := by simpa using he
          have hA' : all3 K N Z S (k + 1) = (out, err) := by rw [HA0.out, if_pos he]
          rw [hA'] at hWc hl3
          have HA := Lib.hid hA'
          simp only at hWc hl3
          have hD : wDone (out, err) = (⟨#[]⟩, err) := by unfold wDone; rw [if_pos he]
          have HD := Lib.hid hD
          have H2 := Lib.hid he
          clear hD he hA'
          go_wp2_with (go_at_call 14; refine (done_any (G ≤ ·) G _ _ _ hWc).mono ?_; rw [HD.out]; rintro e w4 ⟨rfl, rfl⟩)
          go_roundw
          case rel => exact ⟨k + 1, W, by omega, by omega, rfl, by rw [HA.out], by go_num, fun h => absurd (by rw [HA.out] at h; exact h) H2.out, by rw [HA.out]; exact hlen2, by rw [HA.out]; exact hWc, hBc'⟩
          case measure => simp [intOf]; omega
    · by_cases hkn : k < n
      · obtain rfl : k = 60 := by omega
        go_wp2_with (go_at_call 15; refine (awake_any _).mono ?_; rintro e wF ⟨rfl, hbF⟩)
        go_ret
        exact ⟨rfl, hG ▸ hBk.trans (hbF.mono (by have := hBk.size; omega))⟩
      · have i3 : ¬ (k : Int) < (n : Int) := by omega
        go_wp2_with (go_at_call 15; refine (awake_any _).mono ?_; rintro e wF ⟨rfl, hbF⟩)
        go_ret
        exact ⟨rfl, hG ▸ hBk.trans (hbF.mono (by have := hBk.size; omega))⟩
end Go.Proofs.Ytbloijnkkjmldaa.oct
