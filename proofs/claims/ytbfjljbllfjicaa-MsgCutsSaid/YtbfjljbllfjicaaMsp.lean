/-
  Messages as bytes, by plain functions: put, read; there and back.
-/
import Derived.Test.YtbfjljbllfjicaaOpp
import Derived.Test.YtbfjljbllfjicaaIds
namespace Go.Proofs.Ytbfjljbllfjicaa.msg
open Go.Proofs.Ytbfjljbllfjicaa.opn (b1 b2 b4 num txt idl byte rd rdN rdT rdI rdS rdL St Reads Stays endE zid mkId)
open Go.Proofs.Ytbfjljbllfjicaa.ids (okIds)

structure Mg where
  (k : Int) (ids : List (List UInt8)) (body : List UInt8)
def zmg : Mg := ⟨0, [], []⟩
def kindM (k : Int) : Int := if k = 1 ∨ k = 2 ∨ k = 4 ∨ k = 5 ∨ k = 6 ∨ k = 7 then 1 else if k = 3 ∨ k = 8 then 2 else 0
def badForm (m : Mg) : Prop := (kindM m.k = 1 ∧ m.body ≠ []) ∨ (kindM m.k = 2 ∧ m.ids ≠ [])
def badLong (m : Mg) : Prop := (m.k = 3 ∧ 256 < m.body.length) ∨ (m.k = 8 ∧ 512 < m.body.length)
instance (m : Mg) : Decidable (badForm m) := inferInstanceAs (Decidable ((_ ∧ _) ∨ (_ ∧ _)))
instance (m : Mg) : Decidable (badLong m) := inferInstanceAs (Decidable ((_ ∧ _) ∨ (_ ∧ _)))
def checkM (m : Mg) : Int :=
  if kindM m.k = 0 then 10
  else if badForm m then 4
  else if 16 < m.ids.length then 6
  else if badLong m then 3
  else if kindM m.k = 2 ∧ m.body = [] then 4
  else 0
def txt2 (s : List UInt8) : List UInt8 := b2 s.length ++ s
def tailM (m : Mg) : List UInt8 := if kindM m.k = 1 then idl m.ids else txt2 m.body
/-- the bytes of one -/
def enM (m : Mg) : List UInt8 := b1 m.k ++ tailM m
def putM (m : Mg) : List UInt8 × Int := if checkM m ≠ 0 then ([], checkM m) else (enM m, 0)
def rdT2 (st : St) : List UInt8 × St := rd (rdN 2 st).1.toNat (rdN 2 st).2
def rdM (k : Int) (st : St) : Mg × St := if kindM k = 1 then (⟨k, (rdS st).1, []⟩, (rdS st).2) else (⟨k, [], (rdT2 st).1⟩, (rdT2 st).2)
def ofM (s : List UInt8) : Mg × Int :=
  if 1024 < s.length then (zmg, 3)
  else if (rdN 1 (s, 0)).2.2 ≠ 0 then (zmg, (rdN 1 (s, 0)).2.2)
  else if kindM (rdN 1 (s, 0)).1 = 0 then (zmg, 10)
  else if endE (rdM (rdN 1 (s, 0)).1 (rdN 1 (s, 0)).2).2 ≠ 0 then (zmg, endE (rdM (rdN 1 (s, 0)).1 (rdN 1 (s, 0)).2).2)
  else if checkM (rdM (rdN 1 (s, 0)).1 (rdN 1 (s, 0)).2).1 ≠ 0 then (zmg, checkM (rdM (rdN 1 (s, 0)).1 (rdN 1 (s, 0)).2).1)
  else ((rdM (rdN 1 (s, 0)).1 (rdN 1 (s, 0)).2).1, 0)

theorem kindM_cases (k : Int) : (kindM k = 1 ∧ (k = 1 ∨ k = 2 ∨ k = 4 ∨ k = 5 ∨ k = 6 ∨ k = 7)) ∨ (kindM k = 2 ∧ (k = 3 ∨ k = 8)) ∨ (kindM k = 0 ∧ ¬ (1 ≤ k ∧ k ≤ 8)) := by
  unfold kindM
  by_cases h1 : k = 1 ∨ k = 2 ∨ k = 4 ∨ k = 5 ∨ k = 6 ∨ k = 7
  · rw [if_pos h1]; exact .inl ⟨rfl, h1⟩
  · rw [if_neg h1]
    by_cases h2 : k = 3 ∨ k = 8
    · rw [if_pos h2]; exact .inr (.inl ⟨rfl, h2⟩)
    · rw [if_neg h2]; exact .inr (.inr ⟨rfl, by omega⟩)
theorem check_parts {m : Mg} (hc : checkM m = 0) : kindM m.k ≠ 0 ∧ ¬ badForm m ∧ m.ids.length ≤ 16 ∧ ¬ badLong m ∧ ¬ (kindM m.k = 2 ∧ m.body = []) := by
  unfold checkM at hc
  split at hc
  · cases hc
  rename_i h0
  split at hc
  · cases hc
  rename_i h1
  split at hc
  · cases hc
  rename_i h2
  split at hc
  · cases hc
  rename_i h3
  split at hc
  · cases hc
  rename_i h4
  exact ⟨h0, h1, by omega, h3, h4⟩
/-- what a message that may be has -/
theorem check_two {m : Mg} (hc : checkM m = 0) : (kindM m.k = 1 ∧ 1 ≤ m.k ∧ m.k ≤ 8 ∧ m.body = [] ∧ m.ids.length ≤ 16) ∨ (kindM m.k = 2 ∧ 1 ≤ m.k ∧ m.k ≤ 8 ∧ m.ids = [] ∧ m.body.length ≤ 512) := by
  obtain ⟨h0, h1, h2, h3, h4⟩ := check_parts hc
  unfold badForm at h1
  unfold badLong at h3
  rcases kindM_cases m.k with ⟨a, b⟩ | ⟨a, b⟩ | ⟨a, b⟩
  · left
    refine ⟨a, by omega, by omega, ?_, h2⟩
    exact Decidable.not_not.1 fun hb => h1 (.inl ⟨a, hb⟩)
  · right
    refine ⟨a, by omega, by omega, ?_, ?_⟩
    · exact Decidable.not_not.1 fun hb => h1 (.inr ⟨a, hb⟩)
    · rcases b with b | b
      · have := fun hb => h3 (.inl ⟨b, hb⟩); omega
      · have := fun hb => h3 (.inr ⟨b, hb⟩); omega
  · exact absurd a h0
theorem put_ok {m : Mg} (hc : checkM m = 0) : putM m = (enM m, 0) := by unfold putM; rw [if_neg (by rw [hc]; simp)]
theorem put_no {m : Mg} (hc : checkM m ≠ 0) : putM m = ([], checkM m) := by unfold putM; rw [if_pos hc]
theorem flatM {L : List (List UInt8)} (h : okIds L) : L.flatten.length = L.length * 32 := by
  induction L with
  | nil => rfl
  | cons x L ih =>
    rw [List.flatten_cons, List.length_append, h x List.mem_cons_self, ih fun y hy => h y (List.mem_cons_of_mem _ hy), List.length_cons]
    omega
theorem en_len {m : Mg} (hc : checkM m = 0) (hs : okIds m.ids) : (enM m).length ≤ 600 := by
  unfold enM tailM
  rcases check_two hc with ⟨a, b, c, d, e⟩ | ⟨a, b, c, d, e⟩
  · rw [if_pos a]
    unfold idl
    simp only [List.length_append, opn.b1_len, flatM hs]; omega
  · rw [if_neg (by rw [a]; decide)]
    unfold txt2
    simp only [List.length_append, opn.b1_len, opn.b2_len]; omega
open Go.Proofs.Ytbfjljbllfjicaa.opn in
theorem reads_T2 (s : List UInt8) (h : s.length < 65536) : Reads rdT2 (txt2 s) s := by
  refine (reads_2 (s.length : Int) (by omega) (by omega)).bind (g := fun n => rd n.toNat) ?_ fun n => stays_rd n.toNat
  rw [Int.toNat_natCast]
  exact reads_rd s
theorem reads_M {m : Mg} (hc : checkM m = 0) (hs : okIds m.ids) : Reads (rdM m.k) (tailM m) m := by
  obtain ⟨k, L, b⟩ := m
  rcases check_two hc with ⟨a, k1, k2, d, e⟩ | ⟨a, k1, k2, d, e⟩
  · simp only at a d e
    subst d
    have r := (opn.reads_S L hs (by omega)).map fun x => (⟨k, x, []⟩ : Mg)
    have e1 : rdM k = fun st => (⟨k, (rdS st).1, []⟩, (rdS st).2) := by funext st; unfold rdM; rw [if_pos a]
    have e2 : tailM ⟨k, L, []⟩ = idl L := by unfold tailM; rw [if_pos a]
    rw [e2]
    show Reads (rdM k) _ _
    rw [e1]
    exact r
  · simp only at a d e
    subst d
    have r := (reads_T2 b (by omega)).map fun x => (⟨k, [], x⟩ : Mg)
    have e1 : rdM k = fun st => (⟨k, [], (rdT2 st).1⟩, (rdT2 st).2) := by funext st; unfold rdM; rw [if_neg (by rw [a]; decide)]
    have e2 : tailM ⟨k, [], b⟩ = txt2 b := by unfold tailM; rw [if_neg (by show ¬ kindM k = 1; rw [a]; decide)]
    rw [e2]
    show Reads (rdM k) _ _
    rw [e1]
    exact r
theorem of_put {m : Mg} (hc : checkM m = 0) (hs : okIds m.ids) : ofM (enM m) = (m, 0) := by
  have hl := en_len hc hs
  have hk : 1 ≤ m.k ∧ m.k ≤ 8 := by rcases check_two hc with ⟨a, b, c, _⟩ | ⟨a, b, c, _⟩ <;> exact ⟨b, c⟩
  have k1 := (opn.reads_1 m.k (by omega) (by omega) (tailM m) (enM m).length).1 (by unfold enM; rw [List.length_append]; omega)
  have e0 : (b1 m.k ++ tailM m).take (enM m).length = enM m := List.take_length
  have e1 : (tailM m).take ((enM m).length - (b1 m.k).length) = tailM m := by
    refine List.take_of_length_le ?_
    unfold enM; rw [List.length_append]; omega
  rw [e0, e1] at k1
  have k2 := (reads_M hc hs [] (tailM m).length).1 (Nat.le_refl _)
  rw [List.append_nil, List.take_length, Nat.sub_self, List.take_zero] at k2
  unfold ofM
  rw [if_neg (by omega)]
  simp only [k1]
  rw [if_neg (by simp), if_neg (check_parts hc).1]
  simp only [k2]
  rw [if_neg (by simp [endE]), if_neg (by rw [hc]; simp)]

/-! And back. -/
theorem back_T2 (st : St) (h : (rdT2 st).2.2 = 0) : st = (txt2 (rdT2 st).1 ++ (rdT2 st).2.1, 0) := by
  have h1 : (rdN 2 st).2.2 = 0 := opn.rd_err' h
  have k1 := opn.back_2 st h1
  have k2 := opn.back_rd (rdN 2 st).1.toNat (rdN 2 st).2 h
  have hn : 0 ≤ (rdN 2 st).1 := opn.num_nonneg _
  have e1 : (rdN 2 st).2.1 = (rdT2 st).1 ++ (rdT2 st).2.1 := congrArg Prod.fst k2.1
  have e2 : ((rdT2 st).1.length : Int) = (rdN 2 st).1 := by
    show ((rd (rdN 2 st).1.toNat (rdN 2 st).2).1.length : Int) = _
    rw [k2.2]; omega
  unfold txt2
  rw [e2, List.append_assoc, ← e1]
  exact k1
theorem back_M (k : Int) (st : St) (h : (rdM k st).2.2 = 0) : st = (tailM (rdM k st).1 ++ (rdM k st).2.1, 0) ∧ (rdM k st).1.k = k := by
  unfold rdM at h ⊢
  by_cases a : kindM k = 1
  · rw [if_pos a] at h ⊢
    refine ⟨?_, rfl⟩
    have := opn.back_S st h
    unfold tailM
    rw [if_pos a]
    exact this
  · rw [if_neg a] at h ⊢
    refine ⟨?_, rfl⟩
    have := back_T2 st h
    unfold tailM
    rw [if_neg a]
    exact this
theorem of_back {s : List UInt8} {q : Mg} (h : ofM s = (q, 0)) : checkM q = 0 ∧ s = enM q := by
  unfold ofM at h
  by_cases h0 : 1024 < s.length
  · rw [if_pos h0] at h; exact absurd (congrArg Prod.snd h) (by simp)
  rw [if_neg h0] at h
  by_cases h1 : (rdN 1 (s, 0)).2.2 ≠ 0
  · rw [if_pos h1] at h; exact absurd (congrArg Prod.snd h) h1
  rw [if_neg h1] at h
  by_cases h2 : kindM (rdN 1 (s, 0)).1 = 0
  · rw [if_pos h2] at h; exact absurd (congrArg Prod.snd h) (by simp)
  rw [if_neg h2] at h
  by_cases h3 : endE (rdM (rdN 1 (s, 0)).1 (rdN 1 (s, 0)).2).2 ≠ 0
  · rw [if_pos h3] at h; exact absurd (congrArg Prod.snd h) h3
  rw [if_neg h3] at h
  by_cases h4 : checkM (rdM (rdN 1 (s, 0)).1 (rdN 1 (s, 0)).2).1 ≠ 0
  · rw [if_pos h4] at h; exact absurd (congrArg Prod.snd h) h4
  rw [if_neg h4] at h
  have hq : (rdM (rdN 1 (s, 0)).1 (rdN 1 (s, 0)).2).1 = q := congrArg Prod.fst h
  have h1' : (rdN 1 (s, 0)).2.2 = 0 := Decidable.not_not.1 h1
  have h3' : endE (rdM (rdN 1 (s, 0)).1 (rdN 1 (s, 0)).2).2 = 0 := Decidable.not_not.1 h3
  have h4' : checkM (rdM (rdN 1 (s, 0)).1 (rdN 1 (s, 0)).2).1 = 0 := Decidable.not_not.1 h4
  have h5 : (rdM (rdN 1 (s, 0)).1 (rdN 1 (s, 0)).2).2.2 = 0 := by
    unfold endE at h3'
    by_cases a : (rdM (rdN 1 (s, 0)).1 (rdN 1 (s, 0)).2).2.2 = 0
    · exact a
    · rw [if_pos a] at h3'; exact h3'
  have h6 : (rdM (rdN 1 (s, 0)).1 (rdN 1 (s, 0)).2).2.1 = [] := by
    unfold endE at h3'
    rw [if_neg (fun hh => hh h5)] at h3'
    by_cases a : (rdM (rdN 1 (s, 0)).1 (rdN 1 (s, 0)).2).2.1 = []
    · exact a
    · rw [if_neg a] at h3'; cases h3'
  have k1 := opn.back_1 (s, 0) h1'
  have k2 := back_M (rdN 1 (s, 0)).1 (rdN 1 (s, 0)).2 h5
  rw [h6, List.append_nil, hq] at k2
  rw [hq] at h4'
  refine ⟨h4', ?_⟩
  have e1 : (rdN 1 (s, 0)).2.1 = tailM q := congrArg Prod.fst k2.1
  unfold enM
  rw [k2.2, ← e1]
  exact congrArg Prod.fst k1
theorem of_err {s : List UInt8} {q : Mg} {e : Int} (h : ofM s = (q, e)) (he : e ≠ 0) : q = zmg := by
  unfold ofM at h
  repeat' split at h
  all_goals first
    | exact (congrArg Prod.fst h).symm
    | exact absurd (congrArg Prod.snd h).symm he
end Go.Proofs.Ytbfjljbllfjicaa.msg
