/-
  Entries as bytes, by plain functions: put, read, all of a list; there and back.
-/
import Derived.Test.YtbhkegdohiekfaaDoorOpp
import Derived.Test.YtbhkegdohiekfaaDoorTop
namespace Go.Proofs.YtbhkegdohiekfaaDoor.ent
open Go.Proofs.YtbhkegdohiekfaaDoor.opn (b1 b2 b4 num txt idl byte rd rdN rdT rdI rdS rdL St Reads Stays endE zid mkId)
open Go.Proofs.YtbhkegdohiekfaaDoor.topic (kindOf)

structure En where
  (k : Int) (topic body commit : List UInt8)
deriving DecidableEq
def zen : En := ⟨0, [], [], zid⟩
/-- what a kind has: 1 a body, 2 a sum, 3 a topic, 4 a topic and a body; 0 there is no such kind -/
def kindE (k : Int) : Nat := if k = 1 ∨ k = 2 ∨ k = 3 then 1 else if k = 4 then 2 else if k = 5 ∨ k = 6 then 3 else if k = 7 then 4 else 0
def mostE (k : Int) : Nat := if k = 3 then 512 else if k = 7 then 1048512 else 256
def badE (e : En) : Prop := (kindE e.k ≤ 2 ∧ e.topic ≠ []) ∨ (kindE e.k ≠ 2 ∧ e.commit ≠ zid) ∨ ((kindE e.k = 2 ∨ kindE e.k = 3) ∧ e.body ≠ [])
instance (e : En) : Decidable (badE e) := inferInstanceAs (Decidable ((_ ∧ _) ∨ (_ ∧ _) ∨ (_ ∧ _)))
def checkE (e : En) : Int :=
  if kindE e.k = 0 then 10
  else if badE e then 4
  else if 3 ≤ kindE e.k ∧ kindOf e.topic = 0 then 9
  else if kindE e.k = 1 ∧ e.body = [] then 4
  else if (kindE e.k = 1 ∨ kindE e.k = 4) ∧ mostE e.k < e.body.length then 3
  else 0
def tailE (e : En) : List UInt8 := if kindE e.k = 1 then e.body else if kindE e.k = 2 then e.commit else if kindE e.k = 3 then txt e.topic else txt e.topic ++ e.body
/-- the bytes of one -/
def enE (e : En) : List UInt8 := b1 e.k ++ tailE e
def putE (e : En) : List UInt8 × Int := if checkE e ≠ 0 then ([], checkE e) else (enE e, 0)
/-- all that is left -/
def rdB (st : St) : List UInt8 × St := rd st.1.length st
def rdE (k : Int) (st : St) : En × St :=
  if kindE k = 1 then (⟨k, [], (rdB st).1, zid⟩, (rdB st).2)
  else if kindE k = 2 then (⟨k, [], [], (rdI st).1⟩, (rdI st).2)
  else if kindE k = 3 then (⟨k, (rdT st).1, [], zid⟩, (rdT st).2)
  else (⟨k, (rdT st).1, (rdB (rdT st).2).1, zid⟩, (rdB (rdT st).2).2)
def ofE (s : List UInt8) : En × Int :=
  if (rdN 1 (s, 0)).2.2 ≠ 0 then (zen, (rdN 1 (s, 0)).2.2)
  else if kindE (rdN 1 (s, 0)).1 = 0 then (zen, 10)
  else if endE (rdE (rdN 1 (s, 0)).1 (rdN 1 (s, 0)).2).2 ≠ 0 then (zen, endE (rdE (rdN 1 (s, 0)).1 (rdN 1 (s, 0)).2).2)
  else if checkE (rdE (rdN 1 (s, 0)).1 (rdN 1 (s, 0)).2).1 ≠ 0 then (zen, checkE (rdE (rdN 1 (s, 0)).1 (rdN 1 (s, 0)).2).1)
  else ((rdE (rdN 1 (s, 0)).1 (rdN 1 (s, 0)).2).1, 0)
/-- the entries of texts, up to the first that is none; which one; its error -/
def allE : List (List UInt8) → List En × Nat × Int
  | [] => ([], 0, 0)
  | s :: l => if (ofE s).2 ≠ 0 then ([], 0, (ofE s).2) else ((ofE s).1 :: (allE l).1, (allE l).2.1 + 1, (allE l).2.2)

theorem kindE_cases (k : Int) : (kindE k = 1 ∧ (k = 1 ∨ k = 2 ∨ k = 3)) ∨ (kindE k = 2 ∧ k = 4) ∨ (kindE k = 3 ∧ (k = 5 ∨ k = 6)) ∨ (kindE k = 4 ∧ k = 7) ∨ (kindE k = 0 ∧ ¬ (1 ≤ k ∧ k ≤ 7)) := by
  unfold kindE
  by_cases h1 : k = 1 ∨ k = 2 ∨ k = 3
  · rw [if_pos h1]; exact .inl ⟨rfl, h1⟩
  rw [if_neg h1]
  by_cases h2 : k = 4
  · rw [if_pos h2]; exact .inr (.inl ⟨rfl, h2⟩)
  rw [if_neg h2]
  by_cases h3 : k = 5 ∨ k = 6
  · rw [if_pos h3]; exact .inr (.inr (.inl ⟨rfl, h3⟩))
  rw [if_neg h3]
  by_cases h4 : k = 7
  · rw [if_pos h4]; exact .inr (.inr (.inr (.inl ⟨rfl, h4⟩)))
  rw [if_neg h4]
  exact .inr (.inr (.inr (.inr ⟨rfl, by omega⟩)))
theorem check_parts {e : En} (hc : checkE e = 0) : kindE e.k ≠ 0 ∧ ¬ badE e ∧ ¬ (3 ≤ kindE e.k ∧ kindOf e.topic = 0) ∧ ¬ (kindE e.k = 1 ∧ e.body = []) ∧ ¬ ((kindE e.k = 1 ∨ kindE e.k = 4) ∧ mostE e.k < e.body.length) := by
  unfold checkE at hc
  split at hc
  · cases hc
  rename_i h0
  split at hc
  · cases hc
  rename_i h1
  split at hc
  · cases hc
  rename_i h2
  split at hc
  · cases hc
  rename_i h3
  split at hc
  · cases hc
  rename_i h4
  exact ⟨h0, h1, h2, h3, h4⟩
theorem kindOf_len {l : List UInt8} (h : kindOf l ≠ 0) : l.length ≤ 12 := by
  unfold kindOf at h
  split at h
  · rename_i h2; exact h2.2.1
  · exact absurd rfl h
theorem most_le (k : Int) : mostE k ≤ 1048512 := by
  unfold mostE
  repeat' split
  all_goals decide
/-- what an entry that may be is made of -/
theorem check_four {e : En} (hc : checkE e = 0) : (1 ≤ e.k ∧ e.k ≤ 7) ∧ e.body.length ≤ 1048512 ∧ ((kindE e.k = 1 ∧ e = ⟨e.k, [], e.body, zid⟩) ∨ (kindE e.k = 2 ∧ e = ⟨e.k, [], [], e.commit⟩) ∨ (kindE e.k = 3 ∧ e = ⟨e.k, e.topic, [], zid⟩ ∧ e.topic.length ≤ 12) ∨ (kindE e.k = 4 ∧ e = ⟨e.k, e.topic, e.body, zid⟩ ∧ e.topic.length ≤ 12)) := by
  obtain ⟨h0, h1, h2, h3, h4⟩ := check_parts hc
  unfold badE at h1
  obtain ⟨k, t, b, c⟩ := e
  simp only at h0 h1 h2 h3 h4 ⊢
  have hm := most_le k
  rcases kindE_cases k with ⟨a, h⟩ | ⟨a, h⟩ | ⟨a, h⟩ | ⟨a, h⟩ | ⟨a, h⟩
  · have ht : t = [] := Decidable.not_not.1 fun hh => h1 (.inl ⟨by omega, hh⟩)
    have hcm : c = zid := Decidable.not_not.1 fun hh => h1 (.inr (.inl ⟨by omega, hh⟩))
    have hb : b.length ≤ mostE k := Nat.not_lt.1 fun hh => h4 ⟨.inl a, hh⟩
    exact ⟨by omega, by omega, .inl ⟨a, by rw [ht, hcm]⟩⟩
  · have ht : t = [] := Decidable.not_not.1 fun hh => h1 (.inl ⟨by omega, hh⟩)
    have hb : b = [] := Decidable.not_not.1 fun hh => h1 (.inr (.inr ⟨.inl a, hh⟩))
    exact ⟨by omega, by rw [hb]; exact Nat.zero_le _, .inr (.inl ⟨a, by rw [ht, hb]⟩)⟩
  · have hcm : c = zid := Decidable.not_not.1 fun hh => h1 (.inr (.inl ⟨by omega, hh⟩))
    have hb : b = [] := Decidable.not_not.1 fun hh => h1 (.inr (.inr ⟨.inr a, hh⟩))
    exact ⟨by omega, by rw [hb]; exact Nat.zero_le _, .inr (.inr (.inl ⟨a, by rw [hcm, hb], kindOf_len fun hh => h2 ⟨by omega, hh⟩⟩))⟩
  · have hcm : c = zid := Decidable.not_not.1 fun hh => h1 (.inr (.inl ⟨by omega, hh⟩))
    have hb : b.length ≤ mostE k := Nat.not_lt.1 fun hh => h4 ⟨.inr a, hh⟩
    exact ⟨by omega, by omega, .inr (.inr (.inr ⟨a, by rw [hcm], kindOf_len fun hh => h2 ⟨by omega, hh⟩⟩))⟩
  · exact absurd a h0
theorem put_ok {e : En} (hc : checkE e = 0) : putE e = (enE e, 0) := by unfold putE; rw [if_neg (by rw [hc]; simp)]
theorem put_no {e : En} (hc : checkE e ≠ 0) : putE e = ([], checkE e) := by unfold putE; rw [if_pos hc]
theorem en_len {e : En} (hc : checkE e = 0) (hl : e.commit.length = 32) : (enE e).length ≤ 1048600 := by
  obtain ⟨hk, hb, h⟩ := check_four hc
  unfold enE tailE
  have htx : ∀ t : List UInt8, t.length ≤ 12 → (txt t).length ≤ 13 := fun t ht => by unfold txt; rw [List.length_append, opn.b1_len]; omega
  rw [List.length_append, opn.b1_len]
  rcases h with ⟨a, -⟩ | ⟨a, -⟩ | ⟨a, -, ht⟩ | ⟨a, -, ht⟩
  · rw [if_pos a]; omega
  · rw [if_neg (by omega), if_pos a]; omega
  · rw [if_neg (by omega), if_neg (by omega), if_pos a]; have := htx _ ht; omega
  · rw [if_neg (by omega), if_neg (by omega), if_neg (by omega), List.length_append]; have := htx _ ht; omega

theorem zlen : zid.length = 32 := by simp [zid]
/-! There. -/
theorem run_rd (a t : List UInt8) : rd a.length (a ++ t, 0) = (a, (t, 0)) := by
  have := opn.rd_cut a t (a ++ t).length
  rw [List.take_length, if_pos (by rw [List.length_append]; omega)] at this
  rw [this, List.take_of_length_le (by rw [List.length_append]; omega)]
theorem run_B (a : List UInt8) : rdB (a, 0) = (a, ([], 0)) := by
  have := run_rd a []
  rw [List.append_nil] at this
  exact this
theorem run_N (n : Int) (h0 : 0 ≤ n) (h1 : n < 256) (t : List UInt8) : rdN 1 (b1 n ++ t, 0) = (n, (t, 0)) := by
  unfold rdN
  have := run_rd (b1 n) t
  rw [opn.b1_len] at this
  rw [this, opn.num1 n h0 h1]
theorem run_T (a t : List UInt8) (h : a.length < 256) : rdT (txt a ++ t, 0) = (a, (t, 0)) := by
  unfold rdT txt
  rw [List.append_assoc, run_N _ (by omega) (by omega), Int.toNat_natCast, run_rd]
theorem run_I (a t : List UInt8) (h : a.length = 32) : rdI (a ++ t, 0) = (a, (t, 0)) := by
  unfold rdI
  have := run_rd a t
  rw [h] at this
  rw [this, opn.mkId_of h]
theorem run_E {e : En} (hc : checkE e = 0) (hl : e.commit.length = 32) : rdE e.k (tailE e, 0) = (e, ([], 0)) := by
  obtain ⟨hk, hb, h⟩ := check_four hc
  unfold rdE tailE
  rcases h with ⟨a, he⟩ | ⟨a, he⟩ | ⟨a, he, ht⟩ | ⟨a, he, ht⟩
  · rw [if_pos a, if_pos a, run_B, ← he]
  · rw [if_neg (by omega), if_pos a, if_neg (by omega), if_pos a]
    have := run_I e.commit [] hl
    rw [List.append_nil] at this
    rw [this, ← he]
  · rw [if_neg (by omega), if_neg (by omega), if_pos a, if_neg (by omega), if_neg (by omega), if_pos a]
    have := run_T e.topic [] (by omega)
    rw [List.append_nil] at this
    rw [this, ← he]
  · rw [if_neg (by omega), if_neg (by omega), if_neg (by omega), if_neg (by omega), if_neg (by omega), if_neg (by omega), run_T e.topic e.body (by omega), run_B, ← he]
theorem of_put {e : En} (hc : checkE e = 0) (hl : e.commit.length = 32) : ofE (enE e) = (e, 0) := by
  obtain ⟨hk, -, -⟩ := check_four hc
  have k1 := run_N e.k (by omega) (by omega) (tailE e)
  unfold ofE enE
  simp only [k1]
  rw [if_neg (by simp), if_neg (check_parts hc).1]
  simp only [run_E hc hl]
  rw [if_neg (by simp [endE]), if_neg (by rw [hc]; simp)]

/-! And back. -/
theorem back_B (st : St) (h : (rdB st).2.2 = 0) : st = ((rdB st).1, 0) ∧ (rdB st).2.1 = [] := by
  have k := opn.back_rd st.1.length st h
  have e1 : (rdB st).2.1 = [] := by
    have hl := congrArg List.length (congrArg Prod.fst k.1)
    simp only [List.length_append] at hl
    have : (rd st.1.length st).2.1.length = 0 := by have := k.2; omega
    exact List.eq_nil_of_length_eq_zero this
  refine ⟨?_, e1⟩
  have e2 := k.1
  rw [show (rd st.1.length st).2.1 = [] from e1, List.append_nil] at e2
  exact e2
theorem back_E (k : Int) (st : St) (h : (rdE k st).2.2 = 0) : st = (tailE (rdE k st).1 ++ (rdE k st).2.1, 0) ∧ (rdE k st).1.k = k ∧ (rdE k st).1.commit.length = 32 := by
  unfold rdE at h ⊢
  by_cases a : kindE k = 1
  · rw [if_pos a] at h ⊢
    have := back_B st h
    refine ⟨?_, rfl, zlen⟩
    unfold tailE
    rw [if_pos a, this.2, List.append_nil]
    exact this.1
  rw [if_neg a] at h ⊢
  by_cases b : kindE k = 2
  · rw [if_pos b] at h ⊢
    have := opn.back_I st h
    refine ⟨?_, rfl, this.2⟩
    unfold tailE
    rw [if_neg (show ¬ kindE k = 1 from a), if_pos b]
    exact this.1
  rw [if_neg b] at h ⊢
  by_cases c : kindE k = 3
  · rw [if_pos c] at h ⊢
    refine ⟨?_, rfl, zlen⟩
    unfold tailE
    rw [if_neg (show ¬ kindE k = 1 from a), if_neg (show ¬ kindE k = 2 from b), if_pos c]
    exact opn.back_T st h
  rw [if_neg c] at h ⊢
  have k2 := back_B (rdT st).2 h
  have hT : (rdT st).2.2 = 0 := congrArg Prod.snd k2.1
  have k1 := opn.back_T st hT
  refine ⟨?_, rfl, zlen⟩
  unfold tailE
  rw [if_neg (show ¬ kindE k = 1 from a), if_neg (show ¬ kindE k = 2 from b), if_neg (show ¬ kindE k = 3 from c), k2.2, List.append_nil]
  rw [congrArg Prod.fst k2.1] at k1
  exact k1
theorem of_back {s : List UInt8} {q : En} (h : ofE s = (q, 0)) : checkE q = 0 ∧ s = enE q ∧ q.commit.length = 32 := by
  unfold ofE at h
  by_cases h1 : (rdN 1 (s, 0)).2.2 ≠ 0
  · rw [if_pos h1] at h; exact absurd (congrArg Prod.snd h) h1
  rw [if_neg h1] at h
  by_cases h2 : kindE (rdN 1 (s, 0)).1 = 0
  · rw [if_pos h2] at h; exact absurd (congrArg Prod.snd h) (by simp)
  rw [if_neg h2] at h
  by_cases h3 : endE (rdE (rdN 1 (s, 0)).1 (rdN 1 (s, 0)).2).2 ≠ 0
  · rw [if_pos h3] at h; exact absurd (congrArg Prod.snd h) h3
  rw [if_neg h3] at h
  by_cases h4 : checkE (rdE (rdN 1 (s, 0)).1 (rdN 1 (s, 0)).2).1 ≠ 0
  · rw [if_pos h4] at h; exact absurd (congrArg Prod.snd h) h4
  rw [if_neg h4] at h
  have hq : (rdE (rdN 1 (s, 0)).1 (rdN 1 (s, 0)).2).1 = q := congrArg Prod.fst h
  have h1' : (rdN 1 (s, 0)).2.2 = 0 := Decidable.not_not.1 h1
  have h3' : endE (rdE (rdN 1 (s, 0)).1 (rdN 1 (s, 0)).2).2 = 0 := Decidable.not_not.1 h3
  have h4' : checkE (rdE (rdN 1 (s, 0)).1 (rdN 1 (s, 0)).2).1 = 0 := Decidable.not_not.1 h4
  have h5 : (rdE (rdN 1 (s, 0)).1 (rdN 1 (s, 0)).2).2.2 = 0 := by
    unfold endE at h3'
    by_cases a : (rdE (rdN 1 (s, 0)).1 (rdN 1 (s, 0)).2).2.2 = 0
    · exact a
    · rw [if_pos a] at h3'; exact h3'
  have h6 : (rdE (rdN 1 (s, 0)).1 (rdN 1 (s, 0)).2).2.1 = [] := by
    unfold endE at h3'
    rw [if_neg (fun hh => hh h5)] at h3'
    by_cases a : (rdE (rdN 1 (s, 0)).1 (rdN 1 (s, 0)).2).2.1 = []
    · exact a
    · rw [if_neg a] at h3'; cases h3'
  have k1 := opn.back_1 (s, 0) h1'
  have k2 := back_E (rdN 1 (s, 0)).1 (rdN 1 (s, 0)).2 h5
  rw [h6, List.append_nil, hq] at k2
  rw [hq] at h4'
  refine ⟨h4', ?_, k2.2.2⟩
  have e1 : (rdN 1 (s, 0)).2.1 = tailE q := congrArg Prod.fst k2.1
  unfold enE
  rw [k2.2.1, ← e1]
  exact congrArg Prod.fst k1
theorem of_err {s : List UInt8} {q : En} {f : Int} (h : ofE s = (q, f)) (hf : f ≠ 0) : q = zen := by
  unfold ofE at h
  repeat' split at h
  all_goals first
    | exact (congrArg Prod.fst h).symm
    | exact absurd (congrArg Prod.snd h).symm hf
theorem allE_le : ∀ l, (allE l).2.1 ≤ l.length ∧ (allE l).1.length = (allE l).2.1
  | [] => ⟨Nat.le_refl _, rfl⟩
  | s :: l => by
    have ih := allE_le l
    unfold allE
    split
    · exact ⟨Nat.zero_le _, rfl⟩
    · refine ⟨by simp only [List.length_cons]; omega, ?_⟩
      simp only [List.length_cons]; omega
end Go.Proofs.YtbhkegdohiekfaaDoor.ent
