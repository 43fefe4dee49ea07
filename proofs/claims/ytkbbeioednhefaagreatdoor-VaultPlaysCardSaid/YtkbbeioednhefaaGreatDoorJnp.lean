/-
  A journal by plain functions: its bytes, how many are safe, its records, how many are safe.
-/
import Derived.Test.YtkbbeioednhefaaGreatDoorRcp
import Derived.Test.YtkbbeioednhefaaGreatDoorBkpl
namespace Go.Proofs.YtkbbeioednhefaaGreatDoor.jn
open Go.Proofs.YtkbbeioednhefaaGreatDoor.rcd

structure Jr where
  (s : List UInt8) (k : Nat) (l : List Rc) (m : Nat)
def openJ (s : List UInt8) : Jr := ⟨s.take (allT s).2.1, (allT s).2.1, (allT s).1, (allT s).1.length⟩
def appJ (j : Jr) (r : Rc) : Jr × Int := if checkR r ≠ 0 then (j, checkR r) else (⟨j.s ++ enR r, j.k, j.l ++ [r], j.m⟩, 0)
def syncJ (j : Jr) : Jr × Int := (⟨j.s, j.s.length, j.l, j.l.length⟩, (j.l.length : Int) - (j.m : Int))
def crashJ (j : Jr) (n : Int) : Jr := openJ (bk.crashB j.s j.k n).1
theorem allR_le : ∀ (n : Nat) (t : List UInt8), (allR n t).2.1 ≤ t.length
  | 0, _ => by simp [allR]
  | n + 1, t => by
    unfold allR
    split
    · simp
    · split
      · simp
      · next a b =>
        have hs := first_size (t := t) (Decidable.not_not.1 b)
        have := allR_le n (t.drop (firstR t).2.1.toNat)
        rw [List.length_drop] at this
        simp only
        omega
theorem allT_le (t : List UInt8) : (allT t).2.1 ≤ t.length := allR_le _ t
theorem openJ_len (s : List UInt8) : (openJ s).s.length = (openJ s).k ∧ (openJ s).k ≤ s.length ∧ (openJ s).m = (openJ s).l.length := by
  have := allT_le s
  refine ⟨?_, this, rfl⟩
  show (s.take (allT s).2.1).length = (allT s).2.1
  rw [List.length_take]; omega
/-- what stands: not more is safe than there is -/
structure Wf (j : Jr) : Prop where
  k : j.k ≤ j.s.length
  m : j.m ≤ j.l.length
theorem Wf.open (s : List UInt8) : Wf (openJ s) := by
  obtain ⟨h1, _, h3⟩ := openJ_len s
  exact ⟨by omega, by omega⟩
theorem Wf.app {j : Jr} (h : Wf j) (r : Rc) : Wf (appJ j r).1 := by
  unfold appJ
  split
  · exact h
  · exact ⟨by show j.k ≤ (j.s ++ enR r).length; rw [List.length_append]; have := h.k; omega, by show j.m ≤ (j.l ++ [r]).length; rw [List.length_append]; have := h.m; omega⟩
theorem Wf.sync (j : Jr) : Wf (syncJ j).1 := ⟨Nat.le_refl _, Nat.le_refl _⟩
theorem crashJ_len (j : Jr) (n : Int) (h : Wf j) : (crashJ j n).s.length ≤ j.s.length := by
  obtain ⟨h1, h2, _⟩ := openJ_len (bk.crashB j.s j.k n).1
  have := (bk.crashB_le j.s j.k n h.k).2
  show (openJ (bk.crashB j.s j.k n).1).s.length ≤ _
  omega
theorem allR_few : ∀ (n : Nat) (t : List UInt8), (allR n t).1.length * 9 ≤ t.length
  | 0, _ => by simp [allR]
  | n + 1, t => by
    unfold allR
    split
    · simp
    · split
      · simp
      · next a b =>
        have hs := first_size (t := t) (Decidable.not_not.1 b)
        have := allR_few n (t.drop (firstR t).2.1.toNat)
        rw [List.length_drop] at this
        simp only [List.length_cons]
        omega
theorem openJ_recs (s : List UInt8) : (openJ s).l.length ≤ s.length := by
  have h := allR_few s.length s
  show (allR s.length s).1.length ≤ _
  omega

/-! What is left behind a crash: the first records, all safe ones among them. -/
theorem enL_take_le : ∀ (A : List Rc) (i j : Nat), i ≤ j → (enL (A.take i)).length ≤ (enL (A.take j)).length
  | [], i, j, _ => by simp
  | r :: A, 0, j, _ => by simp [enL]
  | r :: A, i + 1, 0, h => by omega
  | r :: A, i + 1, j + 1, h => by
    rw [List.take_succ_cons, List.take_succ_cons, enL_cons, enL_cons, List.length_append, List.length_append]
    have := enL_take_le A i j (by omega)
    omega
theorem enL_pre : ∀ (A : List Rc) (i : Nat), (enL A).take (enL (A.take i)).length = enL (A.take i)
  | A, i => by
    have h : enL A = enL (A.take i) ++ enL (A.drop i) := by rw [← enL_append, List.take_append_drop]
    conv => lhs; rw [h]
    rw [List.take_left' rfl]
theorem keeps1 (A : List Rc) (hA : ∀ r ∈ A, checkR r = 0) (m : Nat) (hm : m ≤ A.length) (n : Int) :
    ∃ W, crashJ ⟨enL A, (enL (A.take m)).length, A, m⟩ n = ⟨enL (A.take W), (enL (A.take W)).length, A.take W, W⟩ ∧ m ≤ W ∧ W ≤ A.length := by
  have hk : (enL (A.take m)).length ≤ (enL A).length := by
    have := enL_take_le A m A.length hm
    rwa [List.take_length] at this
  have hkl := bk.keepB_le (enL A) (enL (A.take m)).length n hk
  obtain ⟨c, hc⟩ : ∃ c, c = (enL (A.take m)).length + bk.keepB (enL A) (enL (A.take m)).length n := ⟨_, rfl⟩
  have ht := all_torn A hA c (by omega)
  have hW := wholeN_le A c
  have hmW : m ≤ wholeN A c := by
    rcases Nat.eq_zero_or_pos m with h0 | h0
    · omega
    · have := (whole_iff A c (m - 1) (by omega)).1 (by rw [show m - 1 + 1 = m by omega]; omega)
      omega
  have hle : (enL (A.take (wholeN A c))).length ≤ c := by
    rcases Nat.eq_zero_or_pos (wholeN A c) with h0 | h0
    · rw [h0]; simp [enL]
    · have := (whole_iff A c (wholeN A c - 1) (by omega)).2 (by omega)
      rw [show wholeN A c - 1 + 1 = wholeN A c by omega] at this
      exact this
  refine ⟨wholeN A c, ?_, hmW, hW⟩
  show openJ ((enL A).take ((enL (A.take m)).length + bk.keepB (enL A) (enL (A.take m)).length n)) = _
  rw [← hc]
  unfold openJ
  rw [ht]
  simp only [List.take_take, List.length_take]
  rw [Nat.min_eq_left hle, Nat.min_eq_left hW, enL_pre]
theorem keeps2 (B : List Rc) (hB : ∀ r ∈ B, checkR r = 0) (n : Int) : crashJ ⟨enL B, (enL B).length, B, B.length⟩ n = ⟨enL B, (enL B).length, B, B.length⟩ := by
  have h0 : bk.keepB (enL B) (enL B).length n = 0 := by unfold bk.keepB; omega
  show openJ ((enL B).take ((enL B).length + bk.keepB (enL B) (enL B).length n)) = _
  rw [h0, Nat.add_zero, List.take_length]
  unfold openJ
  rw [all_back B hB, List.take_length]
end Go.Proofs.YtkbbeioednhefaaGreatDoor.jn
