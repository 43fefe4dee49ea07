/-
  The walk of ShaPieces.
-/
import Derived.Test.YtjpbhnflhejbpaaDoorStrs
import Derived.Deep.RegionHeld3
import Derived.Deep.RegionWith
namespace Go.Proofs.YtjpbhnflhejbpaaDoor.sha
open Go.RowKit Go.Proofs.YtjpbhnflhejbpaaDoor.mem Go.Proofs.YtjpbhnflhejbpaaDoor.kit

theorem len_at (g : Nat) (l : List UInt8) (n : Nat) (w : World) (h : HashIs w g l) (hn : l.length = n) : Calls Tryd.prog 12 #[.pointer (some ⟨g, 0, none⟩)] w fun e w' => e = .returned (.int .i64 n) ∧ w = w' := by
  subst hn
  exact len_any g l w h
theorem undrew {F : Nat → Prop} {w w' : World} (h : Turn F w.drew w') : Turn F w w' := ⟨h.os, h.tape, h.output, h.size, h.block⟩

set_option maxHeartbeats 1000000 in
set_option maxRecDepth 100000 in
theorem pieces_walk (ad : Option Addr) (n cap : Nat) (S : Nat → ByteArray) (w : World) (hT : Tab w) (hA : Strs w ad n S) :
    Calls Tryd.prog 4 #[.slice ad n cap] w fun e w' => e = .returned (.bool true) ∧ Below w.heap.size w w' := by
  have HT := Lib.hid hT
  have HA := Lib.hid hA
  clear hT hA
  obtain ⟨g, hg⟩ : ∃ g, g = w.heap.size := ⟨_, rfl⟩
  go_enter Tryd.func4, Tryd.ntmps4
  go_wp2_with (go_at_call 10; refine (new_any _ HT.out).mono ?_; rintro e w1 ⟨rfl, hh1, hb1⟩)
  rw [← hg] at hh1 ⊢
  have HH1 := Lib.hid hh1
  have HB1 := Lib.hid hb1
  have HG := Lib.hid hg
  clear hh1 hb1 hg
  go_loopw [4, 5] (fun v i wr => ∃ (k : Nat) (A : ByteArray), k ≤ n ∧ k ≤ 30 ∧ v = .string A ∧ i = .int .i64 k ∧ A.size ≤ 2000 ∧ HashIs wr g A.data.toList ∧ Below w.heap.size w wr) (fun _ i _ => 30 - (intOf i).toNat)
  case atStart => exact ⟨0, ⟨#[]⟩, Nat.zero_le _, by decide, rfl, rfl, by decide, HH1.out, HB1.out⟩
  case round =>
    clear HH1 HB1
    obtain ⟨k, A, hk, hk30, rfl, rfl, hAs, hH, hB⟩ := hrel
    have HT2 := Lib.hid (HT.out.next hB)
    have hA2 : Strs wr ad n S := HA.out.below hB (Nat.le_refl _)
    have k0 : (0 : Int) ≤ (k : Int) := Int.natCast_nonneg _
    have HH := Lib.hid hH
    have HB := Lib.hid hB
    by_cases hlt : k < n ∧ k < 30
    · obtain ⟨hlt1, hlt2⟩ := hlt
      have i1 : (k : Int) < (n : Int) := by omega
      have i2 : (k : Int) < 30 := by omega
      obtain ⟨b, off, rfl, hbl, hc, hsz⟩ := hA2 k hlt1
      have hblw : b < w.heap.size := by
        obtain ⟨b', off', e, hb', _⟩ := HA.out k hlt1
        injection e with e
        injection e with e _ _
        rw [e]; exact hb'
      obtain ⟨X, hX⟩ : ∃ X, X = S k := ⟨_, rfl⟩
      rw [← hX] at hc hsz
      have hA0 : (0 : Int) ≤ (A.size : Int) := Int.natCast_nonneg _
      have hX0 : (0 : Int) ≤ (X.size : Int) := Int.natCast_nonneg _
      have hXs : (X.size : Int) ≤ 140737488351232 := by omega
      have hAI : (A.size : Int) ≤ 2000 := by omega
      have HX := Lib.hid hX
      have HBL := Lib.hid hbl
      have HBW := Lib.hid hblw
      clear hA2 hH hB hX hbl hblw
      by_cases hbig : 2000 < A.size + X.size
      · have hbI : (2000 : Int) < (A.size : Int) + (X.size : Int) := by omega
        go_wp2_with (go_at_call 7; refine (awake_any _ HT2.out).mono ?_; rintro e w2 ⟨rfl, hb2⟩)
        go_ret
        exact ⟨rfl, HB.out.trans (hb2.mono HB.out.size)⟩
      · have hbI : (A.size : Int) + (X.size : Int) ≤ 2000 := by omega
        have hsum : A.size + X.size ≤ 2000 := by omega
        obtain ⟨Y, hY⟩ : ∃ Y, Y = A ++ X := ⟨_, rfl⟩
        have hadd : ∀ u : World, (Op.stringOp .add A X).run Tryd.prog u = .ok (.string Y) u := fun u => by rw [hY]; exact run_string_add_sum u _ _ (by omega)
        have hl : Y.data.toList = A.data.toList ++ X.data.toList := by rw [hY, ByteArray.data_append, Array.toList_append]
        have hls : Y.size = A.size + X.size := by rw [hY]; exact ByteArray.size_append
        have hYs : Y.size ≤ 2000 := by omega
        have hYI : (Y.size : Int) ≤ 2000 := by omega
        have hY0 : (0 : Int) ≤ (Y.size : Int) := Int.natCast_nonneg _
        have hA3 : A.data.toList.length = A.size := (Lib.size_eq A).symm
        have h2g : 2 ≤ g := by rw [HG.out]; exact HT.out.1
        have HG2 := Lib.hid h2g
        have HL := Lib.hid hl
        have HLS := Lib.hid hls
        have HA3 := Lib.hid hA3
        have hnb : ¬ (b = g ∨ wr.heap.size ≤ b) := by
          rintro (e | e)
          · have := HBW.out; have := HG.out; omega
          · have := HBL.out; omega
        have hcx : ∀ w', Turn (fun k => k = g ∨ wr.heap.size ≤ k) wr w' → w'.cell? ⟨b, off + k, none⟩ = some (.string X) := fun w' h =>
          (World.cell?_of_block (w := wr) (show w'.heap[(⟨b, off + k, none⟩ : Addr).block]? = wr.heap[(⟨b, off + k, none⟩ : Addr).block]? from h.block b hnb)).trans hc
        have HCX := Lib.hid hcx
        have hne1 := fun u : World => neq_same u Y.data.toList
        clear hl hls hA3 h2g hcx hnb hY
        go_wp2_with fail
        go_region_held3 (fun w' => w'.cell? ⟨b, off + k, none⟩ = some (.string X))
          (first | exact hc | exact HCX.out _ (undrew (by assumption)))
          (first
            | (go_at_call 11; refine (write_any g _ X _ (by exact HH.out) (by exact HT2.out) HG2.out (by have := HA3.out; omega)).mono ?_; rintro e w3 ⟨rfl, hh3, ht3⟩))
        have hh4 : HashIs w3 g Y.data.toList := by rw [HL.out]; exact hh3
        have ht4 := undrew ht3
        have hc4 := HCX.out w3 ht4
        have hb4 : Below w.heap.size w w3 := HB.out.trans (ht4.below fun k hk => by
          rcases hk with e | e
          · have := HG.out; omega
          · exact Nat.le_trans HB.out.size e)
        have HH4 := Lib.hid hh4
        have HB4 := Lib.hid hb4
        have HT4 := Lib.hid (HT.out.next hb4)
        clear hh3 ht3 hh4 ht4 hb4 hc
        go_wp2_with (first
          | (go_at_call 12; refine (len_at g Y.data.toList Y.size _ (by exact HH4.out) (Lib.size_eq Y).symm).mono ?_; rintro e w' ⟨rfl, rfl⟩)
          | (go_at_call 13; refine (hsum_any g Y.data.toList _ (by exact HH4.out) (by exact HT4.out) (by rw [← Lib.size_eq]; omega)).mono ?_; rintro e w5 ⟨rfl, hb5⟩)
          | (go_at_call 8; refine (sum_any Y _ (by exact HT4.out.next hb5) (by omega)).mono ?_; rintro e w6 ⟨rfl, hb6⟩)
          | (go_at_call 13; refine (hsum_any g Y.data.toList _ (by exact ((HH4.out.next hb5).next hb6)) (by exact ((HT4.out.next hb5).next hb6)) (by rw [← Lib.size_eq]; omega)).mono ?_; rintro e w7 ⟨rfl, hb7⟩)
          | (go_at_call 9; refine (rsum_any Y _ (by omega)).mono ?_; rintro e w8 ⟨rfl, hb8⟩))
        go_roundw
        case rel =>
          have a5 := HH4.out.next hb5
          have a6 := a5.next hb6
          have a7 := a6.next hb7
          have a8 := a7.next hb8
          have c5 := HB4.out.trans (hb5.mono HB4.out.size)
          have c6 := c5.trans (hb6.mono c5.size)
          have c7 := c6.trans (hb7.mono c6.size)
          have c8 := c7.trans (hb8.mono c7.size)
          exact ⟨k + 1, Y, by omega, by omega, rfl, by push_cast; rfl, hYs, a8, c8⟩
        case measure => simp [intOf]; omega
    · have hdone : ¬ ((k : Int) < (n : Int) ∧ (k : Int) < 30) := by omega
      clear hA2 hH hB
      by_cases h1 : (k : Int) < (n : Int)
      · have h2 : (30 : Int) ≤ (k : Int) := by omega
        clear hdone hlt
        go_wp2_with (go_at_call 7; refine (awake_any _ HT2.out).mono ?_; rintro e w2 ⟨rfl, hb2⟩)
        go_ret
        exact ⟨rfl, HB.out.trans (hb2.mono HB.out.size)⟩
      · have h2 : (n : Int) ≤ (k : Int) := by omega
        clear hdone hlt h1
        go_wp2_with (go_at_call 7; refine (awake_any _ HT2.out).mono ?_; rintro e w2 ⟨rfl, hb2⟩)
        go_ret
        exact ⟨rfl, HB.out.trans (hb2.mono HB.out.size)⟩
end Go.Proofs.YtjpbhnflhejbpaaDoor.sha
