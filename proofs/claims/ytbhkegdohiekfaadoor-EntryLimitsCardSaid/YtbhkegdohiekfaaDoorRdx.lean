/-
  What numbers that were read may be.
  Ids that were read have 32 bytes.
  petrelref01.Reader by plain functions: what is left, and the first error (no ids).
-/
import Derived.Test.YtbhkegdohiekfaaDoorOpp
import Derived.Test.YtbhkegdohiekfaaDoorOpia
import Derived.Test.YtbhkegdohiekfaaDoorRef1
import Derived.Test.YtbhkegdohiekfaaDoorSha
import Derived.Deep.RegionWith
import Derived.Deep.CutRange
import Derived.Deep.CutBlock
namespace Go.Proofs.YtbhkegdohiekfaaDoor.opn
open Go.RowKit

theorem rdN_nonneg (b : Nat) (st : St) : 0 ≤ (rdN b st).1 := num_nonneg _
theorem rd_len (n : Nat) (st : St) : (rd n st).1.length = 0 ∨ (rd n st).1.length = n := by
  unfold rd
  repeat' split
  · exact .inl rfl
  · exact .inl rfl
  · right; rw [List.length_take]; omega
theorem rdN1_lt (st : St) : (rdN 1 st).1 < 256 := by
  show num (rd 1 st).1 < 256
  rcases rd_len 1 st with h | h
  · rw [List.eq_nil_of_length_eq_zero h]; decide
  · match (rd 1 st).1, h with
    | [b], _ =>
      have := b.toNat_lt
      simp only [num, List.foldl_cons, List.foldl_nil]; omega
theorem rdN4_lt (st : St) : (rdN 4 st).1 < 4294967296 := by
  show num (rd 4 st).1 < 4294967296
  rcases rd_len 4 st with h | h
  · rw [List.eq_nil_of_length_eq_zero h]; decide
  · match (rd 4 st).1, h with
    | [a, b, c, d], _ =>
      have := a.toNat_lt
      have := b.toNat_lt
      have := c.toNat_lt
      have := d.toNat_lt
      simp only [num, List.foldl_cons, List.foldl_nil]; omega
theorem rdN2_lt (st : St) : (rdN 2 st).1 < 65536 := by
  show num (rd 2 st).1 < 65536
  rcases rd_len 2 st with h | h
  · rw [List.eq_nil_of_length_eq_zero h]; decide
  · match (rd 2 st).1, h with
    | [a, b], _ =>
      have := a.toNat_lt
      have := b.toNat_lt
      simp only [num, List.foldl_cons, List.foldl_nil]; omega
end Go.Proofs.YtbhkegdohiekfaaDoor.opn

namespace Go.Proofs.YtbhkegdohiekfaaDoor.opn
open Go.RowKit Go.Proofs.YtbhkegdohiekfaaDoor.mem Go.Proofs.YtbhkegdohiekfaaDoor.sha Go.Proofs.YtbhkegdohiekfaaDoor.ids

theorem mkId_len (s : List UInt8) (h : s.length = 0 ∨ s.length = 32) : (mkId s).length = 32 := by
  unfold mkId
  rcases h with h | h
  · rw [if_pos (List.eq_nil_of_length_eq_zero h)]; exact zid_len
  · rw [if_neg (fun e => by rw [e] at h; simp at h)]; exact h
theorem rdI_len (st : St) : (rdI st).1.length = 32 := mkId_len _ (rd_len 32 st)
theorem rdL_ok : ∀ (n : Nat) (st : St), okIds (rdL n st).1
  | 0, _ => okIds.nil
  | n + 1, st => fun x hx => by
    rcases List.mem_cons.1 hx with rfl | h
    · exact rdI_len st
    · exact rdL_ok n _ x h
end Go.Proofs.YtbhkegdohiekfaaDoor.opn

namespace Go.Proofs.YtbhkegdohiekfaaDoor.opn
open Go.RowKit Go.Proofs.YtbhkegdohiekfaaDoor.mem Go.Proofs.YtbhkegdohiekfaaDoor.sha

def Sr (x : ByteArray × Int) (st : St) : Prop := st.2 = x.2 ∧ (x.2 = 0 → x.1 = oct.tx st.1)
theorem sr_take {x : ByteArray × Int} {st : St} (h : Sr x st) (n : Nat) : (oct.xTake x n).1 = oct.tx (rd n st).1 ∧ Sr (oct.xTake x n).2 (rd n st).2 := by
  obtain ⟨s, e⟩ := x
  obtain ⟨l, e'⟩ := st
  obtain ⟨h1, h2⟩ := h
  simp only at h1 h2
  subst h1
  unfold oct.xTake rd
  by_cases h0 : e' = 0
  · subst h0
    obtain rfl := h2 rfl
    simp only [ne_eq, not_true, if_false]
    rw [if_neg (by omega), oct.tx_size]
    by_cases hl : l.length < n
    · rw [if_pos (by omega), if_pos hl]
      exact ⟨rfl, rfl, fun h => absurd (show (2 : Int) = 0 from h) (by decide)⟩
    · rw [if_neg (by omega), if_neg hl]
      simp only [Int.toNat_natCast]
      refine ⟨?_, rfl, fun _ => ?_⟩
      · rw [oct.tx_extract, List.drop_zero]
      · rw [oct.tx_extract, List.take_of_length_le (Nat.le_refl _)]
  · simp only [ne_eq, h0, not_false_eq_true, if_true]
    exact ⟨rfl, rfl, fun h => absurd h h0⟩
theorem sr_num {x : ByteArray × Int} {st : St} (h : Sr x st) (b : Nat) (hb : b = 1 ∨ b = 2 ∨ b = 4) : (oct.xNum x b).1 = (rdN b st).1 ∧ Sr (oct.xNum x b).2 (rdN b st).2 := by
  have hs := sr_take h b
  unfold oct.xNum rdN
  by_cases h0 : x.2 = 0
  · rw [if_neg (by simpa using h0), if_neg (by rcases hb with rfl | rfl | rfl <;> decide)]
    refine ⟨?_, hs.2⟩
    rw [hs.1, oct.tx_list]
    rfl
  · rw [if_pos h0, rd]
    rw [if_pos (by rw [h.1]; exact h0)]
    exact ⟨rfl, h.1, fun hh => absurd hh h0⟩
/-- a Reader in block g, by what is left and the first error -/
def RdrS (w : World) (g : Nat) (st : St) : Prop := ∃ s e, oct.XBlk w g s e ∧ Sr (s, e) st
theorem RdrS.turn {F : Nat → Prop} {w w' : World} {g : Nat} {st : St} (h : RdrS w g st) (ht : Turn F w w') (hg : ¬ F g) : RdrS w' g st := by
  obtain ⟨s, e, hx, hs⟩ := h
  exact ⟨s, e, Blk.turn hx ht hg, hs⟩
theorem RdrS.err {w : World} {g : Nat} {st : St} (h : RdrS w g st) : w.cell? ⟨g, 1, none⟩ = some (.int .i64 st.2) := by
  obtain ⟨s, e, hx, hs⟩ := h
  rw [hs.1]
  exact hx.c1
theorem RdrS.lt {w : World} {g : Nat} {st : St} (h : RdrS w g st) : g < w.heap.size := by
  obtain ⟨s, e, hx, hs⟩ := h
  exact Blk.lt hx
theorem num_s (g : Nat) (st : St) (b : Nat) (hb : b = 1 ∨ b = 2 ∨ b = 4) (w : World) (h : RdrS w g st) :
    Calls Tryd.prog 37 #[.pointer (some ⟨g, 0, none⟩), .int .i64 (b : Int)] w fun e w' => e = .returned (.int .i64 (rdN b st).1) ∧ RdrS w' g (rdN b st).2 ∧ Turn (· = g) w w' := by
  obtain ⟨s, e, hx, hs⟩ := h
  refine (oct.xnum_any (· = g) g s e b w hx rfl).mono ?_
  rintro e2 w2 ⟨rfl, h2, ht⟩
  have := sr_num hs b hb
  exact ⟨by rw [this.1], ⟨_, _, h2, this.2⟩, ht⟩
theorem num1_s (g : Nat) (st : St) (w : World) (h : RdrS w g st) :
    Calls Tryd.prog 37 #[.pointer (some ⟨g, 0, none⟩), .int .i64 1] w fun e w' => e = .returned (.int .i64 (rdN 1 st).1) ∧ RdrS w' g (rdN 1 st).2 ∧ Turn (· = g) w w' := num_s g st 1 (.inl rfl) w h
theorem num2_s (g : Nat) (st : St) (w : World) (h : RdrS w g st) :
    Calls Tryd.prog 37 #[.pointer (some ⟨g, 0, none⟩), .int .i64 2] w fun e w' => e = .returned (.int .i64 (rdN 2 st).1) ∧ RdrS w' g (rdN 2 st).2 ∧ Turn (· = g) w w' := num_s g st 2 (.inr (.inl rfl)) w h
theorem num4_s (g : Nat) (st : St) (w : World) (h : RdrS w g st) :
    Calls Tryd.prog 37 #[.pointer (some ⟨g, 0, none⟩), .int .i64 4] w fun e w' => e = .returned (.int .i64 (rdN 4 st).1) ∧ RdrS w' g (rdN 4 st).2 ∧ Turn (· = g) w w' := num_s g st 4 (.inr (.inr rfl)) w h
theorem raw_s (g : Nat) (st : St) (n : Int) (hn : 0 ≤ n) (w : World) (h : RdrS w g st) :
    Calls Tryd.prog 38 #[.pointer (some ⟨g, 0, none⟩), .int .i64 n] w fun e w' => e = .returned (.string (oct.tx (rd n.toNat st).1)) ∧ RdrS w' g (rd n.toNat st).2 ∧ Turn (· = g) w w' := by
  obtain ⟨s, e, hx, hs⟩ := h
  refine (oct.xraw_any (· = g) g s e n w hx rfl).mono ?_
  rintro e2 w2 ⟨rfl, h2, ht⟩
  have := sr_take hs n.toNat
  rw [Int.toNat_of_nonneg hn] at this
  exact ⟨by rw [this.1], ⟨_, _, h2, this.2⟩, ht⟩
end Go.Proofs.YtbhkegdohiekfaaDoor.opn
