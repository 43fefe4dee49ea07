/-
  What numbers that were read may be.
-/
import Derived.Test.YtkbbeioednhefaaGreatDoorOpp
namespace Go.Proofs.YtkbbeioednhefaaGreatDoor.opn
open Go.RowKit

theorem rdN_nonneg (b : Nat) (st : St) : 0 ≤ (rdN b st).1 := num_nonneg _
theorem rd_len (n : Nat) (st : St) : (rd n st).1.length = 0 ∨ (rd n st).1.length = n := by
  unfold rd
  repeat' split
  · exact .inl rfl
  · exact .inl rfl
  · right; rw [List.length_take]; omega
theorem rdN1_lt (st : St) : (rdN 1 st).1 < 256 := by
  show num (rd 1 st).1 < 256
  rcases rd_len 1 st with h | h
  · rw [List.eq_nil_of_length_eq_zero h]; decide
  · match (rd 1 st).1, h with
    | [b], _ =>
      have := b.toNat_lt
      simp only [num, List.foldl_cons, List.foldl_nil]; omega
theorem rdN4_lt (st : St) : (rdN 4 st).1 < 4294967296 := by
  show num (rd 4 st).1 < 4294967296
  rcases rd_len 4 st with h | h
  · rw [List.eq_nil_of_length_eq_zero h]; decide
  · match (rd 4 st).1, h with
    | [a, b, c, d], _ =>
      have := a.toNat_lt
      have := b.toNat_lt
      have := c.toNat_lt
      have := d.toNat_lt
      simp only [num, List.foldl_cons, List.foldl_nil]; omega
theorem rdN2_lt (st : St) : (rdN 2 st).1 < 65536 := by
  show num (rd 2 st).1 < 65536
  rcases rd_len 2 st with h | h
  · rw [List.eq_nil_of_length_eq_zero h]; decide
  · match (rd 2 st).1, h with
    | [a, b], _ =>
      have := a.toNat_lt
      have := b.toNat_lt
      simp only [num, List.foldl_cons, List.foldl_nil]; omega
end Go.Proofs.YtkbbeioednhefaaGreatDoor.opn
