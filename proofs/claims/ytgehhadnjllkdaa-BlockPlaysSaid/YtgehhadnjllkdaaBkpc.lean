/-
  petrelref10.Block.Cut.
-/
import Derived.Test.YtgehhadnjllkdaaBkp
namespace Go.Proofs.Ytgehhadnjllkdaa.bk
open Go.RowKit Go.Proofs.Ytgehhadnjllkdaa.mem Go.Proofs.Ytgehhadnjllkdaa.sha Go.Proofs.Ytgehhadnjllkdaa.strx

set_option maxHeartbeats 2000000 in
set_option maxRecDepth 100000 in
theorem cut_any (X : Nat) (s : List UInt8) (k : Nat) (n : Int) (w : World) (h : XBlk w X s k) (hs : s.length ≤ 1000000000) :
    Calls Try.prog 10 #[.pointer (some ⟨X, 0, none⟩), .int .i64 n] w fun e w' => e = .returned (.int .i64 (cutB s k n).2.2) ∧ XBlk w' X (cutB s k n).1 (cutB s k n).2.1 ∧ Turn (· = X) w w' := by
  have c0 : w.cell? ⟨X, 0, none⟩ = some (.string (bt s)) := Blk.cell h 0
  have c1 : w.cell? ⟨X, 1, none⟩ = some (.int .i64 (k : Int)) := Blk.cell h 1
  have f0 := Blk.frozen h 0
  have f1 := Blk.frozen h 1
  have H := Lib.hid h
  have hz := bt_size s
  obtain ⟨t, ht⟩ : ∃ t, t = bt s := ⟨_, rfl⟩
  rw [← ht] at c0 hz
  have HT := Lib.hid ht
  have HZ := Lib.hid hz
  have t0 : (0 : Int) ≤ (t.size : Int) := Int.natCast_nonneg _
  have t1 : (t.size : Int) ≤ 1000000000 := by omega
  by_cases h0 : n < 0
  · have HE : Hid (cutB s k n = (s, k, 5)) := Lib.hid (by unfold cutB; rw [if_pos (.inl h0)])
    rw [HE.out]
    clear h ht hz HE
    go_enter Try.func10, Try.ntmps10
    go_wp2_with fail
    go_ret
    exact ⟨rfl, H.out, Turn.refl _ _⟩
  by_cases h1 : (t.size : Int) < n
  · have HE : Hid (cutB s k n = (s, k, 5)) := Lib.hid (by unfold cutB; rw [if_pos (.inr (by rw [← hz]; exact h1))])
    have h2 : (0 : Int) ≤ n := by omega
    rw [HE.out]
    clear h ht hz HE h0
    go_enter Try.func10, Try.ntmps10
    go_wp2_with fail
    go_ret
    exact ⟨rfl, H.out, Turn.refl _ _⟩
  · obtain ⟨m, rfl⟩ : ∃ m : Nat, n = (m : Int) := ⟨n.toNat, by omega⟩
    have HE : Hid (cutB s k m = (s.take m, m, 0)) := Lib.hid (by unfold cutB; rw [if_neg (by omega)]; rfl)
    have h2 : (0 : Int) ≤ (m : Int) := by omega
    have h3 : (m : Int) ≤ (t.size : Int) := by omega
    have HX : Hid (t.extract 0 m = bt (s.take m)) := Lib.hid (by rw [ht, bt_take])
    rw [HE.out]
    clear h ht hz HE h0 h1
    go_enter Try.func10, Try.ntmps10
    go_wp2_with fail
    go_ret
    refine ⟨rfl, ?_, ((Turn.refl (· = X) w).setCell rfl _).setCell rfl _⟩
    unfold XBlk
    rw [← HX.out]
    exact (Blk.set_ H.out 0 (.string (t.extract 0 m))).set_ 1 (.int .i64 (m : Int))
end Go.Proofs.Ytgehhadnjllkdaa.bk
