/-
  Names of topics by plain functions (petrelref05).
-/
import Derived.Test.YtbhkegdohiekfaaDoorSha
namespace Go.Proofs.YtbhkegdohiekfaaDoor.topic
open Go.RowKit Go.Proofs.YtbhkegdohiekfaaDoor.sha

def okByte (c : UInt8) : Bool := (decide (97 ≤ B c) && decide (B c ≤ 122)) || (decide (48 ≤ B c) && decide (B c ≤ 57)) || decide (B c = 45)
def kindB (c : UInt8) : Nat := if B c = 99 then 1 else if B c = 115 then 2 else if B c = 108 then 3 else if B c = 109 then 4 else if B c = 114 then 5 else 0
def kindOf (l : List UInt8) : Nat :=
  if 2 ≤ l.length ∧ l.length ≤ 12 ∧ ¬ B (l.getD (l.length - 1) 0) = 45 ∧ (l.drop 1).all okByte = true then kindB (l.getD 0 0) else 0
def letterOf (k : Int) : List UInt8 := if k = 1 then [99] else if k = 2 then [115] else if k = 3 then [108] else if k = 4 then [109] else if k = 5 then [114] else []
def nameOf (k : Int) (rest : List UInt8) : List UInt8 × Int :=
  if kindOf (letterOf k ++ rest) = 0 ∨ ¬ (kindOf (letterOf k ++ rest) : Int) = k then ([], 9) else (letterOf k ++ rest, 0)
def checkOf (l : List UInt8) : Int := if kindOf l = 0 then 9 else 0

theorem kindB_le (c : UInt8) : kindB c ≤ 5 := by
  unfold kindB
  repeat' split
  all_goals omega
theorem kindOf_le (l : List UInt8) : kindOf l ≤ 5 := by unfold kindOf; split; exact kindB_le _; omega
theorem drop_get (l : List UInt8) (j : Nat) : (l.drop 1).getD j 0 = l.getD (j + 1) 0 := by
  rw [List.getD_eq_getElem?_getD, List.getD_eq_getElem?_getD, List.getElem?_drop, Nat.add_comm]
theorem all_drop (l : List UInt8) : (l.drop 1).all okByte = true ↔ ∀ j, 1 ≤ j → j < l.length → okByte (l.getD j 0) = true := by
  rw [List.all_eq_true]
  constructor
  · intro h j h1 h2
    obtain ⟨i, rfl⟩ : ∃ i, j = i + 1 := ⟨j - 1, by omega⟩
    rw [← drop_get]
    refine h _ ?_
    rw [List.getD_eq_getElem?_getD, List.getElem?_eq_getElem (by rw [List.length_drop]; omega)]
    exact List.getElem_mem _
  · intro h x hx
    obtain ⟨i, hi, rfl⟩ := List.getElem_of_mem hx
    have := h (i + 1) (by omega) (by rw [List.length_drop] at hi; omega)
    rw [← drop_get, List.getD_eq_getElem?_getD, List.getElem?_eq_getElem hi] at this
    exact this
theorem kindOf_bad (l : List UInt8) (j : Nat) (h1 : 1 ≤ j) (h2 : j < l.length) (h : okByte (l.getD j 0) = false) : kindOf l = 0 := by
  unfold kindOf
  rw [if_neg]
  rintro ⟨_, _, _, ha⟩
  rw [(all_drop l).1 ha j h1 h2] at h
  exact absurd h (by decide)
theorem kindOf_short (l : List UInt8) (h : l.length < 2) : kindOf l = 0 := by unfold kindOf; rw [if_neg]; rintro ⟨a, _⟩; omega
theorem kindOf_long (l : List UInt8) (h : 12 < l.length) : kindOf l = 0 := by unfold kindOf; rw [if_neg]; rintro ⟨_, a, _⟩; omega
theorem kindOf_dash (l : List UInt8) (h : B (l.getD (l.length - 1) 0) = 45) : kindOf l = 0 := by unfold kindOf; rw [if_neg]; rintro ⟨_, _, a, _⟩; exact a h
theorem kindOf_good (l : List UInt8) (h1 : 2 ≤ l.length) (h2 : l.length ≤ 12) (h3 : ¬ B (l.getD (l.length - 1) 0) = 45) (h4 : ∀ j, 1 ≤ j → j < l.length → okByte (l.getD j 0) = true) : kindOf l = kindB (l.getD 0 0) := by
  unfold kindOf
  rw [if_pos ⟨h1, h2, h3, (all_drop l).2 h4⟩]
/-- what is of a kind -/
theorem kindOf_pos (l : List UInt8) (h : ¬ kindOf l = 0) : 2 ≤ l.length ∧ l.length ≤ 12 ∧ ¬ B (l.getD (l.length - 1) 0) = 45 ∧ (∀ j, 1 ≤ j → j < l.length → okByte (l.getD j 0) = true) ∧ kindOf l = kindB (l.getD 0 0) := by
  have hk : kindOf l = if 2 ≤ l.length ∧ l.length ≤ 12 ∧ ¬ B (l.getD (l.length - 1) 0) = 45 ∧ (l.drop 1).all okByte = true then kindB (l.getD 0 0) else 0 := rfl
  by_cases hc : 2 ≤ l.length ∧ l.length ≤ 12 ∧ ¬ B (l.getD (l.length - 1) 0) = 45 ∧ (l.drop 1).all okByte = true
  · exact ⟨hc.1, hc.2.1, hc.2.2.1, (all_drop l).1 hc.2.2.2, by rw [hk, if_pos hc]⟩
  · rw [if_neg hc] at hk; exact absurd hk h
/-- a byte as six cases -/
theorem okByte_cases (c : UInt8) (P : Prop)
    (a1 : 97 ≤ B c → B c ≤ 122 → okByte c = true → P) (a2 : B c < 97 → 48 ≤ B c → B c ≤ 57 → okByte c = true → P) (a3 : B c = 45 → okByte c = true → P)
    (b1 : 122 < B c → 57 < B c → (B c != 45) = true → okByte c = false → P) (b2 : B c < 97 → 57 < B c → (B c != 45) = true → okByte c = false → P) (b3 : B c < 48 → B c < 97 → (B c != 45) = true → okByte c = false → P) : P := by
  have e : ∀ b, okByte c = b ↔ ((decide (97 ≤ B c) && decide (B c ≤ 122)) || (decide (48 ≤ B c) && decide (B c ≤ 57)) || decide (B c = 45)) = b := fun b => Iff.rfl
  by_cases h1 : 122 < B c
  · exact b1 h1 (by omega) (bne_iff_ne.2 (by omega)) ((e _).2 (by simp; omega))
  by_cases h2 : 97 ≤ B c
  · exact a1 h2 (by omega) ((e _).2 (by simp; omega))
  by_cases h3 : 57 < B c
  · exact b2 (by omega) h3 (bne_iff_ne.2 (by omega)) ((e _).2 (by simp; omega))
  by_cases h4 : 48 ≤ B c
  · exact a2 (by omega) h4 (by omega) ((e _).2 (by simp; omega))
  by_cases h5 : B c = 45
  · exact a3 h5 ((e _).2 (by simp; omega))
  · exact b3 (by omega) (by omega) (bne_iff_ne.2 h5) ((e _).2 (by simp; omega))
theorem kindB_letter (c : UInt8) : kindB c = 0 ∨ letterOf (kindB c) = [c] := by
  have hB : ∀ n : Nat, n < 256 → B c = (n : Int) → c = UInt8.ofNat n := fun n hn h => by
    apply UInt8.toNat_inj.1
    unfold B at h
    rw [UInt8.toNat_ofNat_of_lt' (by show n < 256; exact hn)]
    omega
  unfold kindB
  split
  · right; rw [hB 99 (by decide) (by omega)]; rfl
  split
  · right; rw [hB 115 (by decide) (by omega)]; rfl
  split
  · right; rw [hB 108 (by decide) (by omega)]; rfl
  split
  · right; rw [hB 109 (by decide) (by omega)]; rfl
  split
  · right; rw [hB 114 (by decide) (by omega)]; rfl
  · left; rfl
theorem nameOf_out (k : Int) (rest : List UInt8) (h : k < 1 ∨ 5 < k) : nameOf k rest = ([], 9) := by
  have e : letterOf k = [] := by unfold letterOf; repeat' (first | rw [if_neg (by omega)])
  unfold nameOf
  rw [e, List.nil_append]
  rw [if_pos]
  by_cases h0 : kindOf rest = 0
  · exact Or.inl h0
  · have := kindOf_le rest
    exact Or.inr (by omega)
theorem letterOf_in (k : Int) (h1 : 1 ≤ k) (h5 : k ≤ 5) : ∃ c, letterOf k = [c] ∧ (kindB c : Int) = k := by
  rcases (show k = 1 ∨ k = 2 ∨ k = 3 ∨ k = 4 ∨ k = 5 by omega) with rfl | rfl | rfl | rfl | rfl
  · exact ⟨99, rfl, rfl⟩
  · exact ⟨115, rfl, rfl⟩
  · exact ⟨108, rfl, rfl⟩
  · exact ⟨109, rfl, rfl⟩
  · exact ⟨114, rfl, rfl⟩
theorem kindOf_head (c : UInt8) (l : List UInt8) (h : ¬ kindOf l = 0) : kindOf (c :: l.drop 1) = kindB c := by
  obtain ⟨h1, h2, h3, h4, -⟩ := kindOf_pos l h
  have hl : (c :: l.drop 1).length = l.length := by rw [List.length_cons, List.length_drop]; omega
  have hg : ∀ j, 1 ≤ j → (c :: l.drop 1).getD j 0 = l.getD j 0 := fun j hj => by
    obtain ⟨i, rfl⟩ : ∃ i, j = i + 1 := ⟨j - 1, by omega⟩
    rw [List.getD_cons_succ, drop_get]
  exact kindOf_good _ (by omega) (by omega) (by rw [hl, hg _ (by omega)]; exact h3) (fun j a b => by rw [hg j a]; exact h4 j a (by omega))
theorem cons_drop (l : List UInt8) (h : 2 ≤ l.length) : l.getD 0 0 :: l.drop 1 = l := by
  cases l with
  | nil => simp at h
  | cons a l => rfl
theorem nameOf_in (k : Int) (l : List UInt8) (h : ¬ kindOf l = 0) (h1 : 1 ≤ k) (h5 : k ≤ 5) :
    nameOf k (l.drop 1) = (letterOf k ++ l.drop 1, 0) ∧ (kindOf (letterOf k ++ l.drop 1) : Int) = k ∧ (letterOf k ++ l.drop 1 = l ↔ k = (kindOf l : Int)) := by
  obtain ⟨c, hc, hk⟩ := letterOf_in k h1 h5
  have hh := kindOf_head c l h
  obtain ⟨g1, g2, g3, g4, g5⟩ := kindOf_pos l h
  refine ⟨?_, ?_, ?_⟩
  · unfold nameOf
    rw [hc, List.singleton_append, hh, if_neg]
    rintro (a | a) <;> omega
  · rw [hc, List.singleton_append, hh, hk]
  · rw [hc, List.singleton_append]
    constructor
    · intro e
      rw [← e, hh, hk]
    · intro e
      have hl := kindB_letter (l.getD 0 0)
      rw [← g5] at hl
      rcases hl with hl | hl
      · exact absurd hl h
      · rw [← e, hc] at hl
        have := cons_drop l g1
        simp only [List.cons.injEq, and_true] at hl
        rw [hl]; exact this
theorem nameOf_back (l : List UInt8) (h : ¬ kindOf l = 0) : nameOf (kindOf l) (l.drop 1) = (l, 0) := by
  have h5 := kindOf_le l
  obtain ⟨a, _, c⟩ := nameOf_in (kindOf l) l h (by omega) (by omega)
  rw [a, c.2 rfl]
/-! A name of which one byte is another one. -/
def isDig (c : UInt8) : Bool := decide (48 ≤ B c) && decide (B c ≤ 57)
def smallAt (c : UInt8) (i n : Nat) : Bool := (decide (97 ≤ B c) && decide (B c ≤ 122)) || isDig c || (B c == 45 && decide ((i : Int) < (n : Int) - 1))
def isFirst (c : UInt8) : Bool := B c == 99 || B c == 115 || B c == 108 || B c == 109 || B c == 114
def wantAt (c : UInt8) (i n : Nat) : Bool := ((i : Int) == 0 && isFirst c) || (decide ((0 : Int) < i) && smallAt c i n)
theorem isFirst_kind (c : UInt8) : isFirst c = true ↔ ¬ kindB c = 0 := by
  unfold isFirst kindB
  simp only [Bool.or_eq_true, beq_iff_eq]
  repeat' split
  all_goals simp_all
theorem getD_set (l : List UInt8) (i j : Nat) (c : UInt8) (hi : i < l.length) : (l.set i c).getD j 0 = if j = i then c else l.getD j 0 := by
  rw [List.getD_eq_getElem?_getD, List.getElem?_set, List.getD_eq_getElem?_getD]
  by_cases h : j = i
  · subst h; rw [if_pos rfl, if_pos rfl, if_pos hi]; rfl
  · rw [if_neg h, if_neg (by omega)]
theorem bytes_of (l : List UInt8) (i : Nat) (c : UInt8) (h : ¬ kindOf l = 0) (hi : i < l.length) : (checkOf (l.set i c) == 0) = wantAt c i l.length := by
  obtain ⟨h1, h2, h3, h4, h5⟩ := kindOf_pos l h
  have hl : (l.set i c).length = l.length := List.length_set
  have hk : (checkOf (l.set i c) == 0) = true ↔ ¬ kindOf (l.set i c) = 0 := by
    unfold checkOf
    split <;> simp_all
  rw [Bool.eq_iff_iff, hk]
  unfold wantAt smallAt isDig
  simp only [Bool.or_eq_true, Bool.and_eq_true, decide_eq_true_eq, beq_iff_eq, isFirst_kind]
  have hok : okByte c = true ↔ ((97 ≤ B c ∧ B c ≤ 122) ∨ (48 ≤ B c ∧ B c ≤ 57)) ∨ B c = 45 := by
    unfold okByte
    simp only [Bool.or_eq_true, Bool.and_eq_true, decide_eq_true_eq]
  constructor
  · intro hp
    obtain ⟨k1, k2, k3, k4, k5⟩ := kindOf_pos _ hp
    rw [hl] at k3 k4
    rcases Nat.eq_zero_or_pos i with rfl | hp0
    · left
      refine ⟨rfl, ?_⟩
      rw [getD_set _ _ _ _ hi, if_pos rfl] at k5
      rw [k5] at hp
      exact hp
    · right
      refine ⟨by omega, ?_⟩
      have hc := k4 i hp0 hi
      rw [getD_set _ _ _ _ hi, if_pos rfl, hok] at hc
      rcases hc with hc | hc
      · exact Or.inl hc
      · right
        refine ⟨hc, ?_⟩
        rw [getD_set _ _ _ _ hi] at k3
        by_cases he : l.length - 1 = i
        · rw [if_pos he] at k3; exact absurd hc k3
        · omega
  · intro hw
    have hgood : (¬ B ((l.set i c).getD (l.length - 1) 0) = 45) → (∀ j, 1 ≤ j → j < l.length → okByte ((l.set i c).getD j 0) = true) → kindOf (l.set i c) = kindB ((l.set i c).getD 0 0) := fun a b =>
      kindOf_good _ (by omega) (by omega) (by rw [hl]; exact a) (by rw [hl]; exact b)
    rcases hw with ⟨w1, w2⟩ | ⟨w1, w2⟩
    · obtain rfl : i = 0 := by omega
      rw [hgood (by rw [getD_set _ _ _ _ hi, if_neg (by omega)]; exact h3) (fun j a b => by rw [getD_set _ _ _ _ hi, if_neg (by omega)]; exact h4 j a b), getD_set _ _ _ _ hi, if_pos rfl]
      exact w2
    · rw [hgood ?_ ?_, getD_set _ _ _ _ hi, if_neg (by omega), ← h5]
      · exact h
      · rw [getD_set _ _ _ _ hi]
        split
        · rcases w2 with w2 | w2 <;> omega
        · exact h3
      · intro j a b
        rw [getD_set _ _ _ _ hi]
        split
        · rw [hok]
          rcases w2 with w2 | w2
          · exact Or.inl w2
          · exact Or.inr w2.1
        · exact h4 j a b
end Go.Proofs.YtbhkegdohiekfaaDoor.topic
