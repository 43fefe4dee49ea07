/-
  octet's Reader by plain functions (RdL: what is left, and the first error).
  octet's Reader: End.
  octet's Reader by plain functions: End.
-/
import Derived.Test.YtbhkegdohiekfaaDoorOctsr
import Derived.Test.YtbhkegdohiekfaaDoorRdx
namespace Go.Proofs.YtbhkegdohiekfaaDoor.opn
open Go.RowKit Go.Proofs.YtbhkegdohiekfaaDoor.mem Go.Proofs.YtbhkegdohiekfaaDoor.sha

theorem lsr_take {x : ByteArray × Int} {st : St} (h : Sr x st) (n : Nat) : (oct.rTake x n).1 = oct.tx (rd n st).1 ∧ Sr (oct.rTake x n).2 (rd n st).2 := by
  obtain ⟨s, e⟩ := x
  obtain ⟨l, e'⟩ := st
  obtain ⟨h1, h2⟩ := h
  simp only at h1 h2
  subst h1
  unfold oct.rTake rd
  by_cases h0 : e' = 0
  · subst h0
    obtain rfl := h2 rfl
    simp only [ne_eq, not_true, if_false]
    rw [if_neg (by omega), oct.tx_size]
    by_cases hl : l.length < n
    · rw [if_pos (by omega), if_pos hl]
      exact ⟨rfl, rfl, fun h => absurd (show (2 : Int) = 0 from h) (by decide)⟩
    · rw [if_neg (by omega), if_neg hl]
      simp only [Int.toNat_natCast]
      refine ⟨?_, rfl, fun _ => ?_⟩
      · rw [oct.tx_extract, List.drop_zero]
      · rw [oct.tx_extract, List.take_of_length_le (Nat.le_refl _)]
  · simp only [ne_eq, h0, not_false_eq_true, if_true]
    exact ⟨rfl, rfl, fun h => absurd h h0⟩
theorem lsr_num {x : ByteArray × Int} {st : St} (h : Sr x st) (b : Nat) (hb : b = 1 ∨ b = 2 ∨ b = 4) : (oct.rNum x b).1 = (rdN b st).1 ∧ Sr (oct.rNum x b).2 (rdN b st).2 := by
  have hs := lsr_take h b
  unfold oct.rNum rdN
  rw [if_neg (by rcases hb with rfl | rfl | rfl <;> decide)]
  refine ⟨?_, hs.2⟩
  rw [hs.1, oct.tx_list]
  rfl
/-- a Reader of octet in block g, by what is left and the first error -/
def RdL (w : World) (g : Nat) (st : St) : Prop := ∃ s e, oct.RBlk w g s e ∧ Sr (s, e) st ∧ s.size ≤ 281474976710656
theorem RdL.turn {F : Nat → Prop} {w w' : World} {g : Nat} {st : St} (h : RdL w g st) (ht : Turn F w w') (hg : ¬ F g) : RdL w' g st := by
  obtain ⟨s, e, hx, hs⟩ := h
  exact ⟨s, e, Blk.turn hx ht hg, hs⟩
theorem RdL.lt {w : World} {g : Nat} {st : St} (h : RdL w g st) : g < w.heap.size := by
  obtain ⟨s, e, hx, hs⟩ := h
  exact Blk.lt hx
theorem lnum_s (F : Nat → Prop) (g : Nat) (st : St) (b : Nat) (hb : b = 1 ∨ b = 2 ∨ b = 4) (w : World) (h : RdL w g st) (hF : F g) (hn : New F w) :
    Calls Tryd.prog 33 #[.pointer (some ⟨g, 0, none⟩), .int .i64 (b : Int)] w fun e w' => e = .returned (.int .i64 (rdN b st).1) ∧ RdL w' g (rdN b st).2 ∧ Turn F w w' := by
  obtain ⟨s, e, hx, hs, hz⟩ := h
  refine (oct.rnum_any F g s e b w hx hF hn).mono ?_
  rintro e2 w2 ⟨rfl, h2, ht⟩
  have := lsr_num hs b hb
  exact ⟨by rw [this.1], ⟨_, _, h2, this.2, Nat.le_trans (oct.rNum_le (s, e) b) hz⟩, ht⟩
theorem lnum1_s (F : Nat → Prop) (g : Nat) (st : St) (w : World) (h : RdL w g st) (hF : F g) (hn : New F w) :
    Calls Tryd.prog 33 #[.pointer (some ⟨g, 0, none⟩), .int .i64 1] w fun e w' => e = .returned (.int .i64 (rdN 1 st).1) ∧ RdL w' g (rdN 1 st).2 ∧ Turn F w w' := lnum_s F g st 1 (.inl rfl) w h hF hn
theorem lnum4_s (F : Nat → Prop) (g : Nat) (st : St) (w : World) (h : RdL w g st) (hF : F g) (hn : New F w) :
    Calls Tryd.prog 33 #[.pointer (some ⟨g, 0, none⟩), .int .i64 4] w fun e w' => e = .returned (.int .i64 (rdN 4 st).1) ∧ RdL w' g (rdN 4 st).2 ∧ Turn F w w' := lnum_s F g st 4 (.inr (.inr rfl)) w h hF hn
theorem lraw_s (F : Nat → Prop) (g : Nat) (st : St) (n : Int) (hn0 : 0 ≤ n) (w : World) (h : RdL w g st) (hF : F g) (hn : New F w) :
    Calls Tryd.prog 52 #[.pointer (some ⟨g, 0, none⟩), .int .i64 n] w fun e w' => e = .returned (.string (oct.tx (rd n.toNat st).1)) ∧ RdL w' g (rd n.toNat st).2 ∧ Turn F w w' := by
  obtain ⟨s, e, hx, hs, hz⟩ := h
  refine (oct.rraw_any F g s e n w hx hF hn hz).mono ?_
  rintro e2 w2 ⟨rfl, h2, ht⟩
  have := lsr_take hs n.toNat
  rw [Int.toNat_of_nonneg hn0] at this
  exact ⟨by rw [this.1], ⟨_, _, h2, this.2, Nat.le_trans (oct.rTake_le (s, e) n).2 hz⟩, ht⟩
theorem lerr_s (g : Nat) (st : St) (w : World) (h : RdL w g st) :
    Calls Tryd.prog 34 #[.pointer (some ⟨g, 0, none⟩)] w fun e w' => e = .returned (.int .i64 st.2) ∧ w = w' := by
  obtain ⟨s, e, hx, hs, -⟩ := h
  rw [hs.1]
  exact oct.err_ok g s e w hx
theorem lnum2_s (F : Nat → Prop) (g : Nat) (st : St) (w : World) (h : RdL w g st) (hF : F g) (hn : New F w) :
    Calls Tryd.prog 33 #[.pointer (some ⟨g, 0, none⟩), .int .i64 2] w fun e w' => e = .returned (.int .i64 (rdN 2 st).1) ∧ RdL w' g (rdN 2 st).2 ∧ Turn F w w' := lnum_s F g st 2 (.inr (.inl rfl)) w h hF hn
end Go.Proofs.YtbhkegdohiekfaaDoor.opn

namespace Go.Proofs.YtbhkegdohiekfaaDoor.oct
open Go.RowKit Go.Proofs.YtbhkegdohiekfaaDoor.mem

theorem end_stuck (p : Option Addr) (e0 : Int) (w : World) (h : RFault w p e0) (h0 : e0 ≠ 0) :
    Calls Tryd.prog 36 #[.pointer p] w fun e w' => e = .returned (.int .i64 e0) ∧ w = w' := by
  have hd : (e0 != 0) = true := by simpa using h0
  clear h0
  go_enter Tryd.func36, Tryd.ntmps36
  go_wp2_with (go_at_call 34; refine (err_any _ _ _ h).mono ?_; rintro e w' ⟨rfl, rfl⟩)
  go_ret
  exact ⟨rfl, rfl⟩
theorem end_ok (g : Nat) (rest : ByteArray) (w : World) (h : RBlk w g rest 0) :
    Calls Tryd.prog 36 #[.pointer (some ⟨g, 0, none⟩)] w fun e w' => e = .returned (.int .i64 (if rest.data.toList.isEmpty then 0 else 4)) ∧ w = w' := by
  have c1 := h.c1
  by_cases he : rest.data.toList.isEmpty = true
  · rw [if_pos he]
    have h2 : (!rest.toList.isEmpty) = false := by rw [ByteArray.toList_eq, he]; rfl
    go_enter Tryd.func36, Tryd.ntmps36
    go_wp2_with (go_at_call 34; refine (err_ok _ _ _ _ h).mono ?_; rintro e w' ⟨rfl, rfl⟩)
    go_ret
    exact ⟨rfl, rfl⟩
  · rw [if_neg he]
    have he : rest.data.toList.isEmpty = false := by simpa using he
    have h2 : (!rest.toList.isEmpty) = true := by rw [ByteArray.toList_eq, he]; rfl
    go_enter Tryd.func36, Tryd.ntmps36
    go_wp2_with (go_at_call 34; refine (err_ok _ _ _ _ h).mono ?_; rintro e w' ⟨rfl, rfl⟩)
    go_ret
    exact ⟨rfl, rfl⟩
theorem end_any (g : Nat) (rest : ByteArray) (err : Int) (w : World) (h : RBlk w g rest err) :
    Calls Tryd.prog 36 #[.pointer (some ⟨g, 0, none⟩)] w fun e w' => e = .returned (.int .i64 (rEnd (rest, err))) ∧ w = w' := by
  by_cases he : err = 0
  · subst he
    have e2 : rEnd (rest, 0) = if rest.data.toList.isEmpty then 0 else 4 := by unfold rEnd; rw [if_neg (by simp)]
    rw [e2]
    exact end_ok g rest w h
  · have e2 : rEnd (rest, err) = err := by unfold rEnd; rw [if_pos he]
    rw [e2]
    exact end_stuck _ err w h.fault he
end Go.Proofs.YtbhkegdohiekfaaDoor.oct

namespace Go.Proofs.YtbhkegdohiekfaaDoor.opn
open Go.RowKit Go.Proofs.YtbhkegdohiekfaaDoor.mem Go.Proofs.YtbhkegdohiekfaaDoor.sha

theorem lsr_end {x : ByteArray × Int} {st : St} (h : Sr x st) : oct.rEnd x = endE st := by
  unfold oct.rEnd endE
  rw [h.1]
  by_cases h0 : x.2 = 0
  · have hn : ¬ (x.2 ≠ 0) := fun hh => hh h0
    rw [if_neg hn, if_neg hn, h.2 h0, oct.tx_list]
    cases st.1 with
    | nil => rfl
    | cons a l => rw [if_neg (by simp), if_neg (by simp)]
  · rw [if_pos h0, if_pos h0]
theorem lend_s (g : Nat) (st : St) (w : World) (h : RdL w g st) :
    Calls Tryd.prog 36 #[.pointer (some ⟨g, 0, none⟩)] w fun e w' => e = .returned (.int .i64 (endE st)) ∧ w = w' := by
  obtain ⟨s, e, hx, hs, -⟩ := h
  rw [← lsr_end hs]
  exact oct.end_any g s e w hx
end Go.Proofs.YtbhkegdohiekfaaDoor.opn
