/-
  A file of which the end may be torn off, by plain functions.
-/
import Derived.Test.YtkbbeioednhefaaGreatDoorOpp
namespace Go.Proofs.YtkbbeioednhefaaGreatDoor.bk

def cutB (s : List UInt8) (k : Nat) (n : Int) : List UInt8 × Nat × Int := if n < 0 ∨ (s.length : Int) < n then (s, k, 5) else (s.take n.toNat, n.toNat, 0)
def keepB (s : List UInt8) (k : Nat) (n : Int) : Nat := (max 0 (min n ((s.length : Int) - (k : Int)))).toNat
def crashB (s : List UInt8) (k : Nat) (n : Int) : List UInt8 × Nat × Int := (s.take (k + keepB s k n), k + keepB s k n, (s.length : Int) - (k : Int) - (keepB s k n : Int))
theorem cutB_le (s : List UInt8) (k : Nat) (n : Int) (h : k ≤ s.length) : (cutB s k n).2.1 ≤ (cutB s k n).1.length ∧ (cutB s k n).1.length ≤ s.length := by
  unfold cutB
  split
  · exact ⟨h, Nat.le_refl _⟩
  · refine ⟨?_, ?_⟩
    · show n.toNat ≤ (s.take n.toNat).length
      rw [List.length_take]; omega
    · show (s.take n.toNat).length ≤ _
      rw [List.length_take]; omega
theorem keepB_le (s : List UInt8) (k : Nat) (n : Int) (h : k ≤ s.length) : k + keepB s k n ≤ s.length := by
  unfold keepB
  omega
theorem crashB_le (s : List UInt8) (k : Nat) (n : Int) (h : k ≤ s.length) : (crashB s k n).2.1 = (crashB s k n).1.length ∧ (crashB s k n).1.length ≤ s.length := by
  have := keepB_le s k n h
  refine ⟨?_, ?_⟩
  · show k + keepB s k n = (s.take (k + keepB s k n)).length
    rw [List.length_take]; omega
  · show (s.take (k + keepB s k n)).length ≤ _
    rw [List.length_take]; omega
end Go.Proofs.YtkbbeioednhefaaGreatDoor.bk
