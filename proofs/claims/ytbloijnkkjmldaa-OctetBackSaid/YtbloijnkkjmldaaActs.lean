/-
  The rows of calls that petrellaw01's statements are given: how they lie in memory.
-/
import Derived.Test.YtbloijnkkjmldaaOcta
namespace Go.Proofs.Ytbloijnkkjmldaa.oct
open Go.RowKit

/-- v is a slice of n calls, in memory that was there -/
def Acts (w : World) (ad : Option Addr) (n : Nat) (K N Z : Nat → Int) (S : Nat → ByteArray) : Prop :=
  ∀ i, i < n → ∃ b off, ad = some ⟨b, off, none⟩ ∧ b < w.heap.size ∧ w.cell? ⟨b, off + i * 4, none⟩ = some (.int .i64 (K i)) ∧ w.cell? ⟨b, off + i * 4 + 1, none⟩ = some (.int .i64 (N i)) ∧
    w.cell? ⟨b, off + i * 4 + 2, none⟩ = some (.int .i64 (Z i)) ∧ w.cell? ⟨b, off + i * 4 + 3, none⟩ = some (.string (S i)) ∧ N i ≤ 9223372036854775807 ∧ (S i).size ≤ 140737488351232

theorem Acts.below {w w' : World} {ad : Option Addr} {n : Nat} {K N Z : Nat → Int} {S : Nat → ByteArray} (h : Acts w ad n K N Z S) (hb : Below w.heap.size w w') : Acts w' ad n K N Z S := by
  intro i hi
  obtain ⟨b, off, rfl, hlt, h0, h1, h2, h3, h4⟩ := h i hi
  exact ⟨b, off, rfl, Nat.lt_of_lt_of_le hlt hb.size, (hb.cell hlt).trans h0, (hb.cell hlt).trans h1, (hb.cell hlt).trans h2, (hb.cell hlt).trans h3, h4⟩
theorem bstep {w w1 w2 : World} (h : Below w.heap.size w w1) (k : Below w1.heap.size w1 w2) : Below w.heap.size w w2 := h.trans (k.mono h.size)
theorem bkeep3 {w w' : World} {b x y z : Nat} {u1 u2 u3 : Value} (hb : b < w.heap.size) (h1 : w.cell? ⟨b, x, none⟩ = some u1) (h2 : w.cell? ⟨b, y, none⟩ = some u2) (h3 : w.cell? ⟨b, z, none⟩ = some u3) (h : Below w.heap.size w w') :
    Below w.heap.size w w' ∧ w'.cell? ⟨b, x, none⟩ = some u1 ∧ w'.cell? ⟨b, y, none⟩ = some u2 ∧ w'.cell? ⟨b, z, none⟩ = some u3 :=
  ⟨h, (h.cell hb).trans h1, (h.cell hb).trans h2, (h.cell hb).trans h3⟩
end Go.Proofs.Ytbloijnkkjmldaa.oct
