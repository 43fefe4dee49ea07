/-
  A byte of a row of the call's own set anew; such a row as a text.
  Bits of a word and of a byte (as CrcBurst has them), for laws that turn single bits.
-/
import Derived.Test.YtdnkbgiellhfnaaDoorMemc
import Derived.Test.YtdnkbgiellhfnaaDoorSha
import Derived.Laws.IdiomStrings
import Derived.Test.YtdnkbgiellhfnaaDoorCrcr
namespace Go.Proofs.YtdnkbgiellhfnaaDoor.mem
open Go.RowKit Go.Proofs.YtdnkbgiellhfnaaDoor.sha

/-- a byte of a row of the call's own set anew -/
theorem ownB_set {w : World} {F : Nat → Prop} {g n c : Nat} {l : List UInt8} (h : OwnB w F (.slice (some ⟨g, 0, none⟩) n c) l) (j : Nat) (hj : j < l.length) (x : UInt8) :
    w.frozen? ⟨g, j, none⟩ = false ∧ OwnB (w.setCell ⟨g, j, none⟩ (.int .u8 (B x))) F (.slice (some ⟨g, 0, none⟩) n c) (l.set j x) ∧ Turn F w (w.setCell ⟨g, j, none⟩ (.int .u8 (B x))) := by
  obtain ⟨g', cap, cur, fr, hv, hg, h1, h2, h3, h4, hF⟩ := h
  cases hv
  refine ⟨?_, ⟨g, c, cur.setIfInBounds j (.int .u8 (B x)), fr, by rw [List.length_set], ?_, h1, by simp [h2], by rw [List.length_set]; exact h3, ?_, hF⟩, (Turn.refl F w).setCell hF _⟩
  · rcases h1 with rfl | rfl
    · simp [World.frozen?, hg]
    · simp [World.frozen?, hg]; omega
  · simp [World.setCell, Array.getElem?_modify, hg]
  · rw [List.length_set, Array.toList_setIfInBounds, List.take_set, h4]
    unfold bCells
    rw [List.map_set]
    rfl
theorem str_ownB {w : World} {F : Nat → Prop} {g n c : Nat} {l : List UInt8} (h : OwnB w F (.slice (some ⟨g, 0, none⟩) n c) l) (hl : l.length = n) : (convert 50 9 (.slice (some ⟨g, 0, none⟩) n c)).run Tryd.prog w = .ok (.string ⟨l.toArray⟩) w := by
  subst hl
  refine run_convert_bytes_back (P := Tryd.prog) w 50 9 5 ⟨g, 0, none⟩ c l Tryd.underlying50 Tryd.underlying5 Tryd.underlying9 (fun j hj => ?_)
  rw [Addr.add_lit, Nat.zero_add, h.cell j hj, List.getD_eq_getElem?_getD, List.getElem?_eq_getElem hj]
  rfl
end Go.Proofs.YtdnkbgiellhfnaaDoor.mem

namespace Go.Proofs.YtdnkbgiellhfnaaDoor.bit8
open Go.RowKit Go.Proofs.YtdnkbgiellhfnaaDoor.mem Go.Proofs.YtdnkbgiellhfnaaDoor.sha Go.Proofs.YtdnkbgiellhfnaaDoor.crc

theorem left_and (p : UInt32) (i : Nat) : (left p i &&& 1).toNat = p.toNat / 2 ^ i % 2 := by
  rw [UInt32.toNat_and, left_nat]; exact Nat.and_one_is_mod _
theorem left_bit (p : UInt32) (i : Nat) (h : p.toNat.testBit i = true) : left p i &&& 1 = 1 := by
  apply UInt32.toNat_inj.1
  rw [left_and]
  have := Nat.testBit_eq_decide_div_mod_eq (x := p.toNat) (i := i)
  rw [h] at this
  exact of_decide_eq_true this.symm
theorem left_none (p : UInt32) (i : Nat) (h : p.toNat.testBit i = false) : ¬ left p i &&& 1 = 1 := by
  intro e
  have e2 := congrArg UInt32.toNat e
  rw [left_and] at e2
  have := Nat.testBit_eq_decide_div_mod_eq (x := p.toNat) (i := i)
  rw [h] at this
  exact of_decide_eq_false this.symm e2
theorem shl_bit (r : Nat) (hr : r < 8) : IntKind.u8.wrap ((2 : Int) ^ r) = B (UInt8.ofNat (2 ^ r)) := by
  rcases (show r = 0 ∨ r = 1 ∨ r = 2 ∨ r = 3 ∨ r = 4 ∨ r = 5 ∨ r = 6 ∨ r = 7 by omega) with rfl | rfl | rfl | rfl | rfl | rfl | rfl | rfl <;> decide
theorem B_xor (x y : UInt8) : bits .xor .u8 (B x) (B y) = B (x ^^^ y) := by
  unfold B; rw [u8_xor_nat _ _ x.toNat_lt y.toNat_lt, UInt8.toNat_xor]
end Go.Proofs.YtdnkbgiellhfnaaDoor.bit8
