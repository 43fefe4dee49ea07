/-
  A byte that came in.
-/
import Derived.Test.YtkfhlnpbklchmaaSha
namespace Go.Proofs.Ytkfhlnpbklchmaa.kit
open Go.RowKit Go.Proofs.Ytkfhlnpbklchmaa.sha

theorem byte_of {a : Int} (h : Lit.wf (.int .u8 a)) : ∃ c : UInt8, a = B c := by
  have hb : 0 ≤ a ∧ a ≤ 255 := by simpa [Lit.wf, IntKind.min, IntKind.max, IntKind.signed, IntKind.bits] using h
  refine ⟨UInt8.ofNat a.toNat, ?_⟩
  unfold B
  rw [UInt8.toNat_ofNat_of_lt' (by show a.toNat < 256; omega)]
  omega
end Go.Proofs.Ytkfhlnpbklchmaa.kit
