/-
  The walk of CrcPieces.
-/
import Derived.Test.YtocfonjheacobaaDoorCrcl
import Derived.Test.YtocfonjheacobaaDoorStrs
namespace Go.Proofs.YtocfonjheacobaaDoor.crc
open Go.RowKit Go.Proofs.YtocfonjheacobaaDoor.mem Go.Proofs.YtocfonjheacobaaDoor.sha Go.Proofs.YtocfonjheacobaaDoor.kit

theorem add_none : U (addC 0 []) = 0 := by
  have : addC 0 [] = 0 := by decide +kernel
  rw [this]; rfl

set_option maxHeartbeats 1000000 in
set_option maxRecDepth 100000 in
theorem pieces_walk {T : World → Prop} (hI : CrcIs T) (ad : Option Addr) (n cap : Nat) (S : Nat → ByteArray) (w : World) (hT : T w) (hA : Strs w ad n S) :
    Calls Tryd.prog 4 #[.slice ad n cap] w fun e w' => e = .returned (.bool true) ∧ Below w.heap.size w w' := by
  have HT := Lib.hid hT
  have HI := Lib.hid hI
  have HA := Lib.hid hA
  clear hT hA hI
  go_enter Tryd.func4, Tryd.ntmps4
  go_wp2_with fail
  go_loopw [3, 4, 5] (fun c v i wr => ∃ (k : Nat) (A : ByteArray), k ≤ n ∧ k ≤ 40 ∧ c = .int .u32 (U (addC 0 A.data.toList)) ∧ v = .string A ∧ i = .int .i64 k ∧ A.size ≤ 3000 ∧ Below w.heap.size w wr) (fun _ _ i _ => 40 - (intOf i).toNat)
  case atStart => exact ⟨0, ⟨#[]⟩, Nat.zero_le _, by decide, by show _ = Value.int .u32 (U (addC 0 [])); rw [add_none], rfl, rfl, by decide, Below.refl _ _⟩
  case round =>
    obtain ⟨k, A, hk, hk40, rfl, rfl, rfl, hAs, hB⟩ := hrel
    have HT2 := Lib.hid (HI.out.next HT.out hB)
    have hA2 : Strs wr ad n S := HA.out.below hB (Nat.le_refl _)
    have k0 : (0 : Int) ≤ (k : Int) := Int.natCast_nonneg _
    have HB := Lib.hid hB
    clear hB
    have hA0 : (0 : Int) ≤ (A.size : Int) := Int.natCast_nonneg _
    have hAI : (A.size : Int) ≤ 3000 := by omega
    have HAS := Lib.hid (show A.size ≤ 549755813888 by omega)
    by_cases hlt : k < n ∧ k < 40
    · obtain ⟨hlt1, hlt2⟩ := hlt
      have i1 : (k : Int) < (n : Int) := by omega
      have i2 : (k : Int) < 40 := by omega
      obtain ⟨b, off, rfl, hbl, hc, hsz⟩ := hA2 k hlt1
      obtain ⟨X, hX⟩ : ∃ X, X = S k := ⟨_, rfl⟩
      rw [← hX] at hc hsz
      have hX0 : (0 : Int) ≤ (X.size : Int) := Int.natCast_nonneg _
      have hXs : (X.size : Int) ≤ 140737488351232 := by omega
      clear hA2 hX
      have HBL := Lib.hid hbl
      clear hbl
      by_cases hbig : 3000 < A.size + X.size
      · have hbI : (3000 : Int) < (A.size : Int) + (X.size : Int) := by omega
        go_wp2_with (go_at_call 7; refine (awake_any HI.out _ HT2.out).mono ?_; rintro e w2 ⟨rfl, hb2⟩)
        go_ret
        exact ⟨rfl, HB.out.trans (hb2.mono HB.out.size)⟩
      · have hbI : (A.size : Int) + (X.size : Int) ≤ 3000 := by omega
        have HXS := Lib.hid (show X.size ≤ 549755813888 by omega)
        obtain ⟨Y, hY⟩ : ∃ Y, Y = A ++ X := ⟨_, rfl⟩
        have hadd : ∀ u : World, (Op.stringOp .add A X).run Tryd.prog u = .ok (.string Y) u := fun u => by rw [hY]; exact run_string_add_sum u _ _ (by omega)
        have HL := Lib.hid (show Y.data.toList = A.data.toList ++ X.data.toList by rw [hY, ByteArray.data_append, Array.toList_append])
        have HLS := Lib.hid (show Y.size ≤ 3000 by rw [hY, ByteArray.size_append]; omega)
        clear hY
        go_wp2_with (go_at_call 9; refine (HI.out.add _ X _ HT2.out HXS.out).mono ?_; rintro e w3 ⟨rfl, hb3⟩; have hc3 := (hb3.cell (p := ⟨b, off + k, none⟩) HBL.out).trans hc)
        go_roundw
        case rel =>
          exact ⟨k + 1, Y, by omega, by omega, by rw [HL.out, addC_append], rfl, by push_cast; rfl, HLS.out, HB.out.trans (hb3.mono HB.out.size)⟩
        all_goals (simp [intOf]; omega)
    · have hout : k = n ∨ (k < n ∧ k = 40) := by omega
      clear hA2
      have hself := beq_self_eq_true (U (addC 0 A.data.toList))
      rcases hout with rfl | ⟨h1, rfl⟩
      · clear hlt hk
        go_wp2_with (first
          | (go_at_call 10; refine (HI.out.sum A _ HT2.out HAS.out).mono ?_; rintro e w4 ⟨rfl, hb4⟩; have hT4 := HI.out.next HT2.out hb4)
          | (go_at_call 7; refine (awake_any HI.out _ hT4).mono ?_; rintro e w5 ⟨rfl, hb5⟩))
        go_ret
        have c4 := HB.out.trans (hb4.mono HB.out.size)
        exact ⟨rfl, c4.trans (hb5.mono c4.size)⟩
      · have i1 : (40 : Int) < (n : Int) := by omega
        clear hlt hk
        go_wp2_with (first
          | (go_at_call 10; refine (HI.out.sum A _ HT2.out HAS.out).mono ?_; rintro e w4 ⟨rfl, hb4⟩; have hT4 := HI.out.next HT2.out hb4)
          | (go_at_call 7; refine (awake_any HI.out _ hT4).mono ?_; rintro e w5 ⟨rfl, hb5⟩))
        go_ret
        have c4 := HB.out.trans (hb4.mono HB.out.size)
        exact ⟨rfl, c4.trans (hb5.mono c4.size)⟩
end Go.Proofs.YtocfonjheacobaaDoor.crc
