/-
  A whole id stored into a list of ids.
-/
import Derived.Test.YtfcoecojjciphaaIdta
import Derived.Deep.RegionHeld3
import Derived.Test.YtfcoecojjciphaaIdst
namespace Go.Proofs.Ytfcoecojjciphaa.ids
open Go.RowKit Go.Proofs.Ytfcoecojjciphaa.mem Go.Proofs.Ytfcoecojjciphaa.sha Go.Proofs.Ytfcoecojjciphaa.strx

theorem Mine.store {w : World} {F : Nat → Prop} {v : Value} {L : List Id} (h : Mine w F v L) {i : Nat} (hi : i < L.length) {y : Id} (hy : y.length = 32) :
    ∃ b off c w', v = .slice (some ⟨b, off, none⟩) L.length c ∧ F b ∧ b < w.heap.size ∧ (Instr.storeAt 23 (.pointer (some ⟨b, off + i * 32, none⟩)) (.agg (bv y).toArray)).run Try.prog w = .ok () w' ∧ Mine w' F v (L.set i y) ∧ Turn (· = b) w w' := by
  obtain ⟨b, off, c, cur, rfl, hg⟩ := h.blk (fun e => by rw [e] at hi; simp at hi)
  have hF := h.own b off _ c rfl
  obtain ⟨hok, hmax, ad, cap, hv, h3, h4, h5, h6, h7⟩ := h.rd
  cases hv
  have hlen := fl_len hok
  have hcell : ∀ k v, (fl L)[k]? = some v → cur[off + k]? = some v := fun k v hv => by
    rcases h7 with h7 | ⟨b', off', e, hb, hc⟩
    · rw [h7] at hv; simp at hv
    · cases e
      have := hc k v hv
      rwa [cell_of_row w b (off + k) cur _ (0, 0) hg] at this
  have hfit : off + i * 32 + 32 ≤ cur.size := by
    have hx : (fl L)[i * 32 + 31]? = some ((fl L)[i * 32 + 31]'(by omega)) := List.getElem?_eq_getElem (by omega)
    have := (Array.getElem?_eq_some_iff.1 (hcell _ _ hx)).1
    omega
  have hbl : (bv y).length = 32 := by rw [bv_length, hy]
  have hrow := setRow_heap w b cur (splice cur (off + i * 32) (bv y)) _ _ hg
  have hlt := (Array.getElem?_eq_some_iff.1 hg).1
  refine ⟨b, off, c, _, rfl, hF, hlt, run_store_mid hg y hy hfit, ⟨⟨hok.set i hy, by rw [List.length_set]; exact hmax, _, c, by rw [List.length_set], by rw [List.length_set]; exact h3, h4, h5, h6, .inr ⟨b, off, rfl, by simpa using hlt, fun k u hu => ?_⟩⟩, h.own, fun _ => ⟨b, off, c, _, by rw [List.length_set], hrow⟩⟩, turn_row w b _⟩
  rw [cell_of_row _ b (off + k) _ _ (0, 0) hrow, splice_get _ _ _ (by omega)]
  rw [fl_set_get hok hi hy] at hu
  by_cases a : k < i * 32
  · rw [if_pos a] at hu; rw [if_pos (by omega)]; exact hcell k u hu
  · rw [if_neg a] at hu; rw [if_neg (by omega)]
    by_cases d : k < i * 32 + 32
    · rw [if_pos d] at hu; rw [if_pos (by omega), show off + k - (off + i * 32) = k - i * 32 by omega]; exact hu
    · rw [if_neg d] at hu; rw [if_neg (by omega)]; exact hcell k u hu
end Go.Proofs.Ytfcoecojjciphaa.ids
