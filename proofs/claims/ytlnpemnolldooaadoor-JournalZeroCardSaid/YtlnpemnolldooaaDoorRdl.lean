/-
  octet's Reader by plain functions (RdL: what is left, and the first error).
-/
import Derived.Test.YtlnpemnolldooaaDoorOctsr
import Derived.Test.YtlnpemnolldooaaDoorRdx
namespace Go.Proofs.YtlnpemnolldooaaDoor.opn
open Go.RowKit Go.Proofs.YtlnpemnolldooaaDoor.mem Go.Proofs.YtlnpemnolldooaaDoor.sha

theorem lsr_take {x : ByteArray × Int} {st : St} (h : Sr x st) (n : Nat) : (oct.rTake x n).1 = oct.tx (rd n st).1 ∧ Sr (oct.rTake x n).2 (rd n st).2 := by
  obtain ⟨s, e⟩ := x
  obtain ⟨l, e'⟩ := st
  obtain ⟨h1, h2⟩ := h
  simp only at h1 h2
  subst h1
  unfold oct.rTake rd
  by_cases h0 : e' = 0
  · subst h0
    obtain rfl := h2 rfl
    simp only [ne_eq, not_true, if_false]
    rw [if_neg (by omega), oct.tx_size]
    by_cases hl : l.length < n
    · rw [if_pos (by omega), if_pos hl]
      exact ⟨rfl, rfl, fun h => absurd (show (2 : Int) = 0 from h) (by decide)⟩
    · rw [if_neg (by omega), if_neg hl]
      simp only [Int.toNat_natCast]
      refine ⟨?_, rfl, fun _ => ?_⟩
      · rw [oct.tx_extract, List.drop_zero]
      · rw [oct.tx_extract, List.take_of_length_le (Nat.le_refl _)]
  · simp only [ne_eq, h0, not_false_eq_true, if_true]
    exact ⟨rfl, rfl, fun h => absurd h h0⟩
theorem lsr_num {x : ByteArray × Int} {st : St} (h : Sr x st) (b : Nat) (hb : b = 1 ∨ b = 2 ∨ b = 4) : (oct.rNum x b).1 = (rdN b st).1 ∧ Sr (oct.rNum x b).2 (rdN b st).2 := by
  have hs := lsr_take h b
  unfold oct.rNum rdN
  rw [if_neg (by rcases hb with rfl | rfl | rfl <;> decide)]
  refine ⟨?_, hs.2⟩
  rw [hs.1, oct.tx_list]
  rfl
/-- a Reader of octet in block g, by what is left and the first error -/
def RdL (w : World) (g : Nat) (st : St) : Prop := ∃ s e, oct.RBlk w g s e ∧ Sr (s, e) st ∧ s.size ≤ 281474976710656
theorem RdL.turn {F : Nat → Prop} {w w' : World} {g : Nat} {st : St} (h : RdL w g st) (ht : Turn F w w') (hg : ¬ F g) : RdL w' g st := by
  obtain ⟨s, e, hx, hs⟩ := h
  exact ⟨s, e, Blk.turn hx ht hg, hs⟩
theorem RdL.lt {w : World} {g : Nat} {st : St} (h : RdL w g st) : g < w.heap.size := by
  obtain ⟨s, e, hx, hs⟩ := h
  exact Blk.lt hx
theorem lnum_s (F : Nat → Prop) (g : Nat) (st : St) (b : Nat) (hb : b = 1 ∨ b = 2 ∨ b = 4) (w : World) (h : RdL w g st) (hF : F g) (hn : New F w) :
    Calls Tryd.prog 63 #[.pointer (some ⟨g, 0, none⟩), .int .i64 (b : Int)] w fun e w' => e = .returned (.int .i64 (rdN b st).1) ∧ RdL w' g (rdN b st).2 ∧ Turn F w w' := by
  obtain ⟨s, e, hx, hs, hz⟩ := h
  refine (oct.rnum_any F g s e b w hx hF hn).mono ?_
  rintro e2 w2 ⟨rfl, h2, ht⟩
  have := lsr_num hs b hb
  exact ⟨by rw [this.1], ⟨_, _, h2, this.2, Nat.le_trans (oct.rNum_le (s, e) b) hz⟩, ht⟩
theorem lnum1_s (F : Nat → Prop) (g : Nat) (st : St) (w : World) (h : RdL w g st) (hF : F g) (hn : New F w) :
    Calls Tryd.prog 63 #[.pointer (some ⟨g, 0, none⟩), .int .i64 1] w fun e w' => e = .returned (.int .i64 (rdN 1 st).1) ∧ RdL w' g (rdN 1 st).2 ∧ Turn F w w' := lnum_s F g st 1 (.inl rfl) w h hF hn
theorem lnum4_s (F : Nat → Prop) (g : Nat) (st : St) (w : World) (h : RdL w g st) (hF : F g) (hn : New F w) :
    Calls Tryd.prog 63 #[.pointer (some ⟨g, 0, none⟩), .int .i64 4] w fun e w' => e = .returned (.int .i64 (rdN 4 st).1) ∧ RdL w' g (rdN 4 st).2 ∧ Turn F w w' := lnum_s F g st 4 (.inr (.inr rfl)) w h hF hn
theorem lraw_s (F : Nat → Prop) (g : Nat) (st : St) (n : Int) (hn0 : 0 ≤ n) (w : World) (h : RdL w g st) (hF : F g) (hn : New F w) :
    Calls Tryd.prog 64 #[.pointer (some ⟨g, 0, none⟩), .int .i64 n] w fun e w' => e = .returned (.string (oct.tx (rd n.toNat st).1)) ∧ RdL w' g (rd n.toNat st).2 ∧ Turn F w w' := by
  obtain ⟨s, e, hx, hs, hz⟩ := h
  refine (oct.rraw_any F g s e n w hx hF hn hz).mono ?_
  rintro e2 w2 ⟨rfl, h2, ht⟩
  have := lsr_take hs n.toNat
  rw [Int.toNat_of_nonneg hn0] at this
  exact ⟨by rw [this.1], ⟨_, _, h2, this.2, Nat.le_trans (oct.rTake_le (s, e) n).2 hz⟩, ht⟩
theorem lerr_s (g : Nat) (st : St) (w : World) (h : RdL w g st) :
    Calls Tryd.prog 65 #[.pointer (some ⟨g, 0, none⟩)] w fun e w' => e = .returned (.int .i64 st.2) ∧ w = w' := by
  obtain ⟨s, e, hx, hs, -⟩ := h
  rw [hs.1]
  exact oct.err_ok g s e w hx
theorem lnum2_s (F : Nat → Prop) (g : Nat) (st : St) (w : World) (h : RdL w g st) (hF : F g) (hn : New F w) :
    Calls Tryd.prog 63 #[.pointer (some ⟨g, 0, none⟩), .int .i64 2] w fun e w' => e = .returned (.int .i64 (rdN 2 st).1) ∧ RdL w' g (rdN 2 st).2 ∧ Turn F w w' := lnum_s F g st 2 (.inr (.inl rfl)) w h hF hn
end Go.Proofs.YtlnpemnolldooaaDoor.opn
