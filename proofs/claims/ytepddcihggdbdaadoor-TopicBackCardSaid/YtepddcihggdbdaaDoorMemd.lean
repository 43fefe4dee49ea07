/-
  A byte of a row of the call's own set anew; such a row as a text.
-/
import Derived.Test.YtepddcihggdbdaaDoorMemc
import Derived.Test.YtepddcihggdbdaaDoorSha
import Derived.Laws.IdiomStrings
namespace Go.Proofs.YtepddcihggdbdaaDoor.mem
open Go.RowKit Go.Proofs.YtepddcihggdbdaaDoor.sha

/-- a byte of a row of the call's own set anew -/
theorem ownB_set {w : World} {F : Nat → Prop} {g n c : Nat} {l : List UInt8} (h : OwnB w F (.slice (some ⟨g, 0, none⟩) n c) l) (j : Nat) (hj : j < l.length) (x : UInt8) :
    w.frozen? ⟨g, j, none⟩ = false ∧ OwnB (w.setCell ⟨g, j, none⟩ (.int .u8 (B x))) F (.slice (some ⟨g, 0, none⟩) n c) (l.set j x) ∧ Turn F w (w.setCell ⟨g, j, none⟩ (.int .u8 (B x))) := by
  obtain ⟨g', cap, cur, fr, hv, hg, h1, h2, h3, h4, hF⟩ := h
  cases hv
  refine ⟨?_, ⟨g, c, cur.setIfInBounds j (.int .u8 (B x)), fr, by rw [List.length_set], ?_, h1, by simp [h2], by rw [List.length_set]; exact h3, ?_, hF⟩, (Turn.refl F w).setCell hF _⟩
  · rcases h1 with rfl | rfl
    · simp [World.frozen?, hg]
    · simp [World.frozen?, hg]; omega
  · simp [World.setCell, Array.getElem?_modify, hg]
  · rw [List.length_set, Array.toList_setIfInBounds, List.take_set, h4]
    unfold bCells
    rw [List.map_set]
    rfl
theorem str_ownB {w : World} {F : Nat → Prop} {g n c : Nat} {l : List UInt8} (h : OwnB w F (.slice (some ⟨g, 0, none⟩) n c) l) (hl : l.length = n) : (convert 33 9 (.slice (some ⟨g, 0, none⟩) n c)).run Tryd.prog w = .ok (.string ⟨l.toArray⟩) w := by
  subst hl
  refine run_convert_bytes_back (P := Tryd.prog) w 33 9 5 ⟨g, 0, none⟩ c l Tryd.underlying33 Tryd.underlying5 Tryd.underlying9 (fun j hj => ?_)
  rw [Addr.add_lit, Nat.zero_add, h.cell j hj, List.getD_eq_getElem?_getD, List.getElem?_eq_getElem hj]
  rfl
end Go.Proofs.YtepddcihggdbdaaDoor.mem
