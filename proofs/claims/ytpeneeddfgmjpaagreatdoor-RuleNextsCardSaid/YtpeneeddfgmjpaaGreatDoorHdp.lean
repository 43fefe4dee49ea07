/-
  Sets of ids by plain functions (petrelref06).
  Names of topics by plain functions (petrelref05).
  Headers as bytes, by plain functions: put, read; there and back; an order.
-/
import Derived.Test.YtpeneeddfgmjpaaGreatDoorIda
import Derived.Test.YtpeneeddfgmjpaaGreatDoorOpp
namespace Go.Proofs.YtpeneeddfgmjpaaGreatDoor.ids
open Go.RowKit Go.Proofs.YtpeneeddfgmjpaaGreatDoor.mem Go.Proofs.YtpeneeddfgmjpaaGreatDoor.sha

abbrev Id := List UInt8
def cmpL : Id → Id → Int
 | [], [] => 0
 | [], _ :: _ => -1
 | _ :: _, [] => 1
 | a :: x, b :: y => if a.toNat < b.toNat then -1 else if b.toNat < a.toNat then 1 else cmpL x y
def withL (L : List Id) (x : Id) : List Id := if L.contains x then L else L.takeWhile (fun y => decide (cmpL y x < 0)) ++ x :: L.dropWhile (fun y => decide (cmpL y x < 0))
def setL (L : List Id) : List Id := L.foldl withL []
def neX (x y : Id) : Bool := y != x
def woutL (L : List Id) (x : Id) : List Id := L.filter (neX x)
def notIn (M : List Id) (x : Id) : Bool := !M.contains x
def lessL (L M : List Id) : List Id := (setL L).filter (notIn M)
def bothL (L M : List Id) : List Id := M.foldl withL (setL L)

theorem withL_ok {L : List Id} {x : Id} (h : okIds L) (hx : x.length = 32) : okIds (withL L x) := by
 unfold withL
 split
 ·
  exact h
 ·
  intro y hy
  rcases List.mem_append.1 hy with hy | hy
  ·
   exact h y ((List.takeWhile_sublist _).mem hy)
  ·
   rcases List.mem_cons.1 hy with rfl | hy
   ·
    exact hx
   ·
    exact h y ((List.dropWhile_sublist _).mem hy)
theorem foldl_with_ok : ∀ {M L : List Id}, okIds L → okIds M → okIds (M.foldl withL L)
 | [], _, h, _ => h
 | x :: M, L, h, hM => foldl_with_ok (M := M) (L := withL L x) (withL_ok h (hM x List.mem_cons_self)) (fun y hy => hM y (List.mem_cons_of_mem _ hy))
theorem setL_ok {L : List Id} (h : okIds L) : okIds (setL L) := foldl_with_ok okIds.nil h
theorem withL_len (L : List Id) (x : Id) : (withL L x).length ≤ L.length + 1 := by
 unfold withL
 split
 ·
  omega
 ·
  rw [List.length_append, List.length_cons]
  have := congrArg List.length (List.takeWhile_append_dropWhile (p := fun y => decide (cmpL y x < 0)) (l := L))
  rw [List.length_append] at this
  omega
theorem foldl_with_len : ∀ (M L : List Id), (M.foldl withL L).length ≤ L.length + M.length
 | [], L => Nat.le_refl _
 | x :: M, L => by
  have h1 := foldl_with_len M (withL L x)
  have h2 := withL_len L x
  rw [List.foldl_cons, List.length_cons]
  omega
theorem setL_len (L : List Id) : (setL L).length ≤ L.length := by have := foldl_with_len L []; rw [List.length_nil, Nat.zero_add] at this; exact this

/-! The order. -/
theorem cmpL_self : ∀ x : Id, cmpL x x = 0
 | [] => rfl
 | a :: x => by rw [cmpL, if_neg (Nat.lt_irrefl _), if_neg (Nat.lt_irrefl _), cmpL_self x]
theorem cmpL_zero : ∀ x y : Id, cmpL x y = 0 → x = y
 | [], [], _ => rfl
 | [], _ :: _, h => by cases h
 | _ :: _, [], h => by cases h
 | a :: x, b :: y, h => by
  rw [cmpL] at h
  split at h
  ·
   cases h
  ·
   split at h
   ·
    cases h
   ·
    rw [cmpL_zero x y h, UInt8.toNat_inj.1 (show a.toNat = b.toNat by omega)]
theorem cmpL_neg : ∀ x y : Id, cmpL y x = - cmpL x y
 | [], [] => rfl
 | [], _ :: _ => rfl
 | _ :: _, [] => rfl
 | a :: x, b :: y => by
  rw [cmpL, cmpL, cmpL_neg x y]
  repeat' split
  all_goals omega
theorem cmpL_range : ∀ x y : Id, cmpL x y = -1 ∨ cmpL x y = 0 ∨ cmpL x y = 1
 | [], [] => .inr (.inl rfl)
 | [], _ :: _ => .inl rfl
 | _ :: _, [] => .inr (.inr rfl)
 | a :: x, b :: y => by
  rw [cmpL]
  repeat' split
  ·
   exact .inl rfl
  ·
   exact .inr (.inr rfl)
  ·
   exact cmpL_range x y
theorem cmpL_trans : ∀ x y z : Id, cmpL x y < 0 → cmpL y z < 0 → cmpL x z < 0
 | [], [], _, h, _ => by simp [cmpL] at h
 | [], _ :: _, [], _, h => by simp [cmpL] at h
 | [], _ :: _, _ :: _, _, _ => by simp [cmpL]
 | _ :: _, [], _, h, _ => by simp [cmpL] at h
 | _ :: _, _ :: _, [], _, h => by simp [cmpL] at h
 | a :: x, b :: y, c :: z, h, k => by
  have ih := cmpL_trans x y z
  rw [cmpL] at h k ⊢
  repeat' split at h
  all_goals repeat' split at k
  all_goals repeat' split
  all_goals first
   | omega
   | exact ih h k
theorem cmpL_step (x y : Id) (k : Nat) (hx : k < x.length) (hy : k < y.length) : cmpL (x.drop k) (y.drop k) = if (x.getD k 0).toNat < (y.getD k 0).toNat then -1 else if (y.getD k 0).toNat < (x.getD k 0).toNat then 1 else cmpL (x.drop (k + 1)) (y.drop (k + 1)) := by
 rw [List.drop_eq_getElem_cons hx, List.drop_eq_getElem_cons hy, cmpL, List.getD_eq_getElem?_getD, List.getD_eq_getElem?_getD, List.getElem?_eq_getElem hx, List.getElem?_eq_getElem hy]
 rfl
end Go.Proofs.YtpeneeddfgmjpaaGreatDoor.ids

namespace Go.Proofs.YtpeneeddfgmjpaaGreatDoor.topic
open Go.RowKit Go.Proofs.YtpeneeddfgmjpaaGreatDoor.sha

def okByte (c : UInt8) : Bool := (decide (97 ≤ B c) && decide (B c ≤ 122)) || (decide (48 ≤ B c) && decide (B c ≤ 57)) || decide (B c = 45)
def kindB (c : UInt8) : Nat := if B c = 99 then 1 else if B c = 115 then 2 else if B c = 108 then 3 else if B c = 109 then 4 else if B c = 114 then 5 else 0
def kindOf (l : List UInt8) : Nat :=
 if 2 ≤ l.length ∧ l.length ≤ 12 ∧ ¬ B (l.getD (l.length - 1) 0) = 45 ∧ (l.drop 1).all okByte = true then kindB (l.getD 0 0) else 0
def letterOf (k : Int) : List UInt8 := if k = 1 then [99] else if k = 2 then [115] else if k = 3 then [108] else if k = 4 then [109] else if k = 5 then [114] else []
def nameOf (k : Int) (rest : List UInt8) : List UInt8 × Int :=
 if kindOf (letterOf k ++ rest) = 0 ∨ ¬ (kindOf (letterOf k ++ rest) : Int) = k then ([], 9) else (letterOf k ++ rest, 0)
def checkOf (l : List UInt8) : Int := if kindOf l = 0 then 9 else 0

theorem kindB_le (c : UInt8) : kindB c ≤ 5 := by
 unfold kindB
 repeat' split
 all_goals omega
theorem kindOf_le (l : List UInt8) : kindOf l ≤ 5 := by unfold kindOf; split; exact kindB_le _; omega
theorem drop_get (l : List UInt8) (j : Nat) : (l.drop 1).getD j 0 = l.getD (j + 1) 0 := by
 rw [List.getD_eq_getElem?_getD, List.getD_eq_getElem?_getD, List.getElem?_drop, Nat.add_comm]
theorem all_drop (l : List UInt8) : (l.drop 1).all okByte = true ↔ ∀ j, 1 ≤ j → j < l.length → okByte (l.getD j 0) = true := by
 rw [List.all_eq_true]
 constructor
 ·
  intro h j h1 h2
  obtain ⟨i, rfl⟩ : ∃ i, j = i + 1 := ⟨j - 1, by omega⟩
  rw [← drop_get]
  refine h _ ?_
  rw [List.getD_eq_getElem?_getD, List.getElem?_eq_getElem (by rw [List.length_drop]; omega)]
  exact List.getElem_mem _
 ·
  intro h x hx
  obtain ⟨i, hi, rfl⟩ := List.getElem_of_mem hx
  have := h (i + 1) (by omega) (by rw [List.length_drop] at hi; omega)
  rw [← drop_get, List.getD_eq_getElem?_getD, List.getElem?_eq_getElem hi] at this
  exact this
theorem kindOf_bad (l : List UInt8) (j : Nat) (h1 : 1 ≤ j) (h2 : j < l.length) (h : okByte (l.getD j 0) = false) : kindOf l = 0 := by
 unfold kindOf
 rw [if_neg]
 rintro ⟨_, _, _, ha⟩
 rw [(all_drop l).1 ha j h1 h2] at h
 exact absurd h (by decide)
theorem kindOf_short (l : List UInt8) (h : l.length < 2) : kindOf l = 0 := by unfold kindOf; rw [if_neg]; rintro ⟨a, _⟩; omega
theorem kindOf_long (l : List UInt8) (h : 12 < l.length) : kindOf l = 0 := by unfold kindOf; rw [if_neg]; rintro ⟨_, a, _⟩; omega
theorem kindOf_dash (l : List UInt8) (h : B (l.getD (l.length - 1) 0) = 45) : kindOf l = 0 := by unfold kindOf; rw [if_neg]; rintro ⟨_, _, a, _⟩; exact a h
theorem kindOf_good (l : List UInt8) (h1 : 2 ≤ l.length) (h2 : l.length ≤ 12) (h3 : ¬ B (l.getD (l.length - 1) 0) = 45) (h4 : ∀ j, 1 ≤ j → j < l.length → okByte (l.getD j 0) = true) : kindOf l = kindB (l.getD 0 0) := by
 unfold kindOf
 rw [if_pos ⟨h1, h2, h3, (all_drop l).2 h4⟩]
/-- what is of a kind -/
theorem kindOf_pos (l : List UInt8) (h : ¬ kindOf l = 0) : 2 ≤ l.length ∧ l.length ≤ 12 ∧ ¬ B (l.getD (l.length - 1) 0) = 45 ∧ (∀ j, 1 ≤ j → j < l.length → okByte (l.getD j 0) = true) ∧ kindOf l = kindB (l.getD 0 0) := by
 have hk : kindOf l = if 2 ≤ l.length ∧ l.length ≤ 12 ∧ ¬ B (l.getD (l.length - 1) 0) = 45 ∧ (l.drop 1).all okByte = true then kindB (l.getD 0 0) else 0 := rfl
 by_cases hc : 2 ≤ l.length ∧ l.length ≤ 12 ∧ ¬ B (l.getD (l.length - 1) 0) = 45 ∧ (l.drop 1).all okByte = true
 ·
  exact ⟨hc.1, hc.2.1, hc.2.2.1, (all_drop l).1 hc.2.2.2, by rw [hk, if_pos hc]⟩
 ·
  rw [if_neg hc] at hk; exact absurd hk h
/-- a byte as six cases -/
theorem okByte_cases (c : UInt8) (P : Prop)
  (a1 : 97 ≤ B c → B c ≤ 122 → okByte c = true → P) (a2 : B c < 97 → 48 ≤ B c → B c ≤ 57 → okByte c = true → P) (a3 : B c = 45 → okByte c = true → P)
  (b1 : 122 < B c → 57 < B c → (B c != 45) = true → okByte c = false → P) (b2 : B c < 97 → 57 < B c → (B c != 45) = true → okByte c = false → P) (b3 : B c < 48 → B c < 97 → (B c != 45) = true → okByte c = false → P) : P := by
 have e : ∀ b, okByte c = b ↔ ((decide (97 ≤ B c) && decide (B c ≤ 122)) || (decide (48 ≤ B c) && decide (B c ≤ 57)) || decide (B c = 45)) = b := fun b => Iff.rfl
 by_cases h1 : 122 < B c
 ·
  exact b1 h1 (by omega) (bne_iff_ne.2 (by omega)) ((e _).2 (by simp; omega))
 by_cases h2 : 97 ≤ B c
 ·
  exact a1 h2 (by omega) ((e _).2 (by simp; omega))
 by_cases h3 : 57 < B c
 ·
  exact b2 (by omega) h3 (bne_iff_ne.2 (by omega)) ((e _).2 (by simp; omega))
 by_cases h4 : 48 ≤ B c
 ·
  exact a2 (by omega) h4 (by omega) ((e _).2 (by simp; omega))
 by_cases h5 : B c = 45
 ·
  exact a3 h5 ((e _).2 (by simp; omega))
 ·
  exact b3 (by omega) (by omega) (bne_iff_ne.2 h5) ((e _).2 (by simp; omega))
theorem kindB_letter (c : UInt8) : kindB c = 0 ∨ letterOf (kindB c) = [c] := by
 have hB : ∀ n : Nat, n < 256 → B c = (n : Int) → c = UInt8.ofNat n := fun n hn h => by
  apply UInt8.toNat_inj.1
  unfold B at h
  rw [UInt8.toNat_ofNat_of_lt' (by show n < 256; exact hn)]
  omega
 unfold kindB
 split
 ·
  right; rw [hB 99 (by decide) (by omega)]; rfl
 split
 ·
  right; rw [hB 115 (by decide) (by omega)]; rfl
 split
 ·
  right; rw [hB 108 (by decide) (by omega)]; rfl
 split
 ·
  right; rw [hB 109 (by decide) (by omega)]; rfl
 split
 ·
  right; rw [hB 114 (by decide) (by omega)]; rfl
 ·
  left; rfl
theorem nameOf_out (k : Int) (rest : List UInt8) (h : k < 1 ∨ 5 < k) : nameOf k rest = ([], 9) := by
 have e : letterOf k = [] := by unfold letterOf; repeat' (first | rw [if_neg (by omega)])
 unfold nameOf
 rw [e, List.nil_append]
 rw [if_pos]
 by_cases h0 : kindOf rest = 0
 ·
  exact Or.inl h0
 ·
  have := kindOf_le rest
  exact Or.inr (by omega)
theorem letterOf_in (k : Int) (h1 : 1 ≤ k) (h5 : k ≤ 5) : ∃ c, letterOf k = [c] ∧ (kindB c : Int) = k := by
 rcases (show k = 1 ∨ k = 2 ∨ k = 3 ∨ k = 4 ∨ k = 5 by omega) with rfl | rfl | rfl | rfl | rfl
 ·
  exact ⟨99, rfl, rfl⟩
 ·
  exact ⟨115, rfl, rfl⟩
 ·
  exact ⟨108, rfl, rfl⟩
 ·
  exact ⟨109, rfl, rfl⟩
 ·
  exact ⟨114, rfl, rfl⟩
theorem kindOf_head (c : UInt8) (l : List UInt8) (h : ¬ kindOf l = 0) : kindOf (c :: l.drop 1) = kindB c := by
 obtain ⟨h1, h2, h3, h4, -⟩ := kindOf_pos l h
 have hl : (c :: l.drop 1).length = l.length := by rw [List.length_cons, List.length_drop]; omega
 have hg : ∀ j, 1 ≤ j → (c :: l.drop 1).getD j 0 = l.getD j 0 := fun j hj => by
  obtain ⟨i, rfl⟩ : ∃ i, j = i + 1 := ⟨j - 1, by omega⟩
  rw [List.getD_cons_succ, drop_get]
 exact kindOf_good _ (by omega) (by omega) (by rw [hl, hg _ (by omega)]; exact h3) (fun j a b => by rw [hg j a]; exact h4 j a (by omega))
theorem cons_drop (l : List UInt8) (h : 2 ≤ l.length) : l.getD 0 0 :: l.drop 1 = l := by
 cases l with
 | nil => simp at h
 | cons a l => rfl
theorem nameOf_in (k : Int) (l : List UInt8) (h : ¬ kindOf l = 0) (h1 : 1 ≤ k) (h5 : k ≤ 5) :
  nameOf k (l.drop 1) = (letterOf k ++ l.drop 1, 0) ∧ (kindOf (letterOf k ++ l.drop 1) : Int) = k ∧ (letterOf k ++ l.drop 1 = l ↔ k = (kindOf l : Int)) := by
 obtain ⟨c, hc, hk⟩ := letterOf_in k h1 h5
 have hh := kindOf_head c l h
 obtain ⟨g1, g2, g3, g4, g5⟩ := kindOf_pos l h
 refine ⟨?_, ?_, ?_⟩
 ·
  unfold nameOf
  rw [hc, List.singleton_append, hh, if_neg]
  rintro (a | a) <;> omega
 ·
  rw [hc, List.singleton_append, hh, hk]
 ·
  rw [hc, List.singleton_append]
  constructor
  ·
   intro e
   rw [← e, hh, hk]
  ·
   intro e
   have hl := kindB_letter (l.getD 0 0)
   rw [← g5] at hl
   rcases hl with hl | hl
   ·
    exact absurd hl h
   ·
    rw [← e, hc] at hl
    have := cons_drop l g1
    simp only [List.cons.injEq, and_true] at hl
    rw [hl]; exact this
theorem nameOf_back (l : List UInt8) (h : ¬ kindOf l = 0) : nameOf (kindOf l) (l.drop 1) = (l, 0) := by
 have h5 := kindOf_le l
 obtain ⟨a, _, c⟩ := nameOf_in (kindOf l) l h (by omega) (by omega)
 rw [a, c.2 rfl]
/-! A name of which one byte is another one. -/
def isDig (c : UInt8) : Bool := decide (48 ≤ B c) && decide (B c ≤ 57)
def smallAt (c : UInt8) (i n : Nat) : Bool := (decide (97 ≤ B c) && decide (B c ≤ 122)) || isDig c || (B c == 45 && decide ((i : Int) < (n : Int) - 1))
def isFirst (c : UInt8) : Bool := B c == 99 || B c == 115 || B c == 108 || B c == 109 || B c == 114
def wantAt (c : UInt8) (i n : Nat) : Bool := ((i : Int) == 0 && isFirst c) || (decide ((0 : Int) < i) && smallAt c i n)
theorem isFirst_kind (c : UInt8) : isFirst c = true ↔ ¬ kindB c = 0 := by
 unfold isFirst kindB
 simp only [Bool.or_eq_true, beq_iff_eq]
 repeat' split
 all_goals simp_all
theorem getD_set (l : List UInt8) (i j : Nat) (c : UInt8) (hi : i < l.length) : (l.set i c).getD j 0 = if j = i then c else l.getD j 0 := by
 rw [List.getD_eq_getElem?_getD, List.getElem?_set, List.getD_eq_getElem?_getD]
 by_cases h : j = i
 ·
  subst h; rw [if_pos rfl, if_pos rfl, if_pos hi]; rfl
 ·
  rw [if_neg h, if_neg (by omega)]
theorem bytes_of (l : List UInt8) (i : Nat) (c : UInt8) (h : ¬ kindOf l = 0) (hi : i < l.length) : (checkOf (l.set i c) == 0) = wantAt c i l.length := by
 obtain ⟨h1, h2, h3, h4, h5⟩ := kindOf_pos l h
 have hl : (l.set i c).length = l.length := List.length_set
 have hk : (checkOf (l.set i c) == 0) = true ↔ ¬ kindOf (l.set i c) = 0 := by
  unfold checkOf
  split <;> simp_all
 rw [Bool.eq_iff_iff, hk]
 unfold wantAt smallAt isDig
 simp only [Bool.or_eq_true, Bool.and_eq_true, decide_eq_true_eq, beq_iff_eq, isFirst_kind]
 have hok : okByte c = true ↔ ((97 ≤ B c ∧ B c ≤ 122) ∨ (48 ≤ B c ∧ B c ≤ 57)) ∨ B c = 45 := by
  unfold okByte
  simp only [Bool.or_eq_true, Bool.and_eq_true, decide_eq_true_eq]
 constructor
 ·
  intro hp
  obtain ⟨k1, k2, k3, k4, k5⟩ := kindOf_pos _ hp
  rw [hl] at k3 k4
  rcases Nat.eq_zero_or_pos i with rfl | hp0
  ·
   left
   refine ⟨rfl, ?_⟩
   rw [getD_set _ _ _ _ hi, if_pos rfl] at k5
   rw [k5] at hp
   exact hp
  ·
   right
   refine ⟨by omega, ?_⟩
   have hc := k4 i hp0 hi
   rw [getD_set _ _ _ _ hi, if_pos rfl, hok] at hc
   rcases hc with hc | hc
   ·
    exact Or.inl hc
   ·
    right
    refine ⟨hc, ?_⟩
    rw [getD_set _ _ _ _ hi] at k3
    by_cases he : l.length - 1 = i
    ·
     rw [if_pos he] at k3; exact absurd hc k3
    ·
     omega
 ·
  intro hw
  have hgood : (¬ B ((l.set i c).getD (l.length - 1) 0) = 45) → (∀ j, 1 ≤ j → j < l.length → okByte ((l.set i c).getD j 0) = true) → kindOf (l.set i c) = kindB ((l.set i c).getD 0 0) := fun a b =>
   kindOf_good _ (by omega) (by omega) (by rw [hl]; exact a) (by rw [hl]; exact b)
  rcases hw with ⟨w1, w2⟩ | ⟨w1, w2⟩
  ·
   obtain rfl : i = 0 := by omega
   rw [hgood (by rw [getD_set _ _ _ _ hi, if_neg (by omega)]; exact h3) (fun j a b => by rw [getD_set _ _ _ _ hi, if_neg (by omega)]; exact h4 j a b), getD_set _ _ _ _ hi, if_pos rfl]
   exact w2
  ·
   rw [hgood ?_ ?_, getD_set _ _ _ _ hi, if_neg (by omega), ← h5]
   ·
    exact h
   ·
    rw [getD_set _ _ _ _ hi]
    split
    ·
     rcases w2 with w2 | w2 <;> omega
    ·
     exact h3
   ·
    intro j a b
    rw [getD_set _ _ _ _ hi]
    split
    ·
     rw [hok]
     rcases w2 with w2 | w2
     ·
      exact Or.inl w2
     ·
      exact Or.inr w2.1
    ·
     exact h4 j a b
end Go.Proofs.YtpeneeddfgmjpaaGreatDoor.topic

namespace Go.Proofs.YtpeneeddfgmjpaaGreatDoor.hdr
open Go.Proofs.YtpeneeddfgmjpaaGreatDoor.opn (b1 b2 b4 num txt idl byte rd rdN rdT rdI rdS rdL St Reads Stays endE zid mkId)
open Go.Proofs.YtpeneeddfgmjpaaGreatDoor.ids (cmpL setL okIds)

structure Hd where
 (parents : List (List UInt8)) (height : Int) (topic : List UInt8) (author seq size : Int) (commit : List UInt8)
def zhd : Hd := ⟨[], 0, [], 0, 0, 0, zid⟩
def badHeight (h : Hd) : Prop := h.height < 1 ∨ 1073741824 < h.height ∨ ¬ (h.parents.length = 0 ↔ h.height = 1)
def badRange (h : Hd) : Prop := h.author < 0 ∨ 255 < h.author ∨ h.seq < 1 ∨ 1073741824 < h.seq ∨ h.size < 1 ∨ 512 < h.size
instance (h : Hd) : Decidable (badHeight h) := inferInstanceAs (Decidable (_ ∨ _ ∨ ¬ (_ ↔ _)))
instance (h : Hd) : Decidable (badRange h) := inferInstanceAs (Decidable (_ ∨ _ ∨ _ ∨ _ ∨ _ ∨ _))
def checkH (h : Hd) : Int :=
 if 4 < h.parents.length then 6
 else if (h.parents == setL h.parents) = false then 4
 else if badHeight h then 12
 else if topic.kindOf h.topic = 0 then 9
 else if badRange h then 5
 else 0
/-- the bytes of one -/
def enH (h : Hd) : List UInt8 := idl h.parents ++ (b4 h.height ++ (txt h.topic ++ (b1 h.author ++ (b4 h.seq ++ (b2 h.size ++ h.commit)))))
def putH (h : Hd) : List UInt8 × Int := if checkH h ≠ 0 then ([], checkH h) else (enH h, 0)
def rd7 (p : List (List UInt8)) (h : Int) (t : List UInt8) (a q z : Int) (st : St) : Hd × St := (⟨p, h, t, a, q, z, (rdI st).1⟩, (rdI st).2)
def rd6 (p : List (List UInt8)) (h : Int) (t : List UInt8) (a q : Int) (st : St) : Hd × St := rd7 p h t a q (rdN 2 st).1 (rdN 2 st).2
def rd5 (p : List (List UInt8)) (h : Int) (t : List UInt8) (a : Int) (st : St) : Hd × St := rd6 p h t a (rdN 4 st).1 (rdN 4 st).2
def rd4 (p : List (List UInt8)) (h : Int) (t : List UInt8) (st : St) : Hd × St := rd5 p h t (rdN 1 st).1 (rdN 1 st).2
def rd3 (p : List (List UInt8)) (h : Int) (st : St) : Hd × St := rd4 p h (rdT st).1 (rdT st).2
def rd2 (p : List (List UInt8)) (st : St) : Hd × St := rd3 p (rdN 4 st).1 (rdN 4 st).2
def rdH (st : St) : Hd × St := rd2 (rdS st).1 (rdS st).2
def ofH (s : List UInt8) : Hd × Int :=
 if 256 < s.length then (zhd, 3)
 else
  let r := rdH (s, 0)
  let e := if endE r.2 ≠ 0 then endE r.2 else checkH r.1
  if e ≠ 0 then (zhd, e) else (r.1, 0)
def aheadB (x : Int) (a : List UInt8) (y : Int) (b : List UInt8) : Bool := decide (x < y) || (decide (x = y) && decide (cmpL a b < 0))

/-! There. -/
structure FitsH (h : Hd) : Prop where
 parents : okIds h.parents ∧ h.parents.length < 256
 height : 0 ≤ h.height ∧ h.height < 4294967296
 topic : h.topic.length < 256
 author : 0 ≤ h.author ∧ h.author < 256
 seq : 0 ≤ h.seq ∧ h.seq < 4294967296
 size : 0 ≤ h.size ∧ h.size < 65536
 commit : h.commit.length = 32
theorem check_parts {h : Hd} (hc : checkH h = 0) : h.parents.length ≤ 4 ∧ (h.parents == setL h.parents) = true ∧ ¬ badHeight h ∧ topic.kindOf h.topic ≠ 0 ∧ ¬ badRange h := by
 unfold checkH at hc
 split at hc
 ·
  cases hc
 rename_i h0
 split at hc
 ·
  cases hc
 rename_i h1
 split at hc
 ·
  cases hc
 rename_i h2
 split at hc
 ·
  cases hc
 rename_i h3
 split at hc
 ·
  cases hc
 rename_i h4
 exact ⟨by omega, by simpa using h1, h2, h3, h4⟩
theorem fitsH {h : Hd} (hc : checkH h = 0) (hr : h.commit.length = 32) (hs : okIds h.parents) : FitsH h := by
 obtain ⟨h0, _, h2, h3, h4⟩ := check_parts hc
 have ht := (topic.kindOf_pos _ h3).2.1
 unfold badHeight at h2
 unfold badRange at h4
 exact ⟨⟨hs, by omega⟩, by omega, by omega, by omega, by omega, by omega, hr⟩
open Go.Proofs.YtpeneeddfgmjpaaGreatDoor.opn in
theorem stays_7 (p : List (List UInt8)) (h : Int) (t : List UInt8) (a q z : Int) : Stays (rd7 p h t a q z) := stays_I.map fun v => (⟨p, h, t, a, q, z, v⟩ : Hd)
open Go.Proofs.YtpeneeddfgmjpaaGreatDoor.opn in
theorem stays_6 (p : List (List UInt8)) (h : Int) (t : List UInt8) (a q : Int) : Stays (rd6 p h t a q) := (stays_N 2).bind (g := fun z st => rd7 p h t a q z st) fun z => stays_7 p h t a q z
open Go.Proofs.YtpeneeddfgmjpaaGreatDoor.opn in
theorem stays_5 (p : List (List UInt8)) (h : Int) (t : List UInt8) (a : Int) : Stays (rd5 p h t a) := (stays_N 4).bind (g := fun q st => rd6 p h t a q st) fun q => stays_6 p h t a q
open Go.Proofs.YtpeneeddfgmjpaaGreatDoor.opn in
theorem stays_4 (p : List (List UInt8)) (h : Int) (t : List UInt8) : Stays (rd4 p h t) := (stays_N 1).bind (g := fun a st => rd5 p h t a st) fun a => stays_5 p h t a
open Go.Proofs.YtpeneeddfgmjpaaGreatDoor.opn in
theorem stays_3 (p : List (List UInt8)) (h : Int) : Stays (rd3 p h) := stays_T.bind (g := fun t st => rd4 p h t st) fun t => stays_4 p h t
open Go.Proofs.YtpeneeddfgmjpaaGreatDoor.opn in
theorem stays_2 (p : List (List UInt8)) : Stays (rd2 p) := (stays_N 4).bind (g := fun h st => rd3 p h st) fun h => stays_3 p h
open Go.Proofs.YtpeneeddfgmjpaaGreatDoor.opn in
theorem reads_H {h : Hd} (f : FitsH h) : Reads rdH (enH h) h := by
 have r7 : Reads (rd7 h.parents h.height h.topic h.author h.seq h.size) h.commit h := (reads_I h.commit f.commit).map fun v => (⟨h.parents, h.height, h.topic, h.author, h.seq, h.size, v⟩ : Hd)
 have r6 : Reads (rd6 h.parents h.height h.topic h.author h.seq) (b2 h.size ++ h.commit) h := (reads_2 h.size f.size.1 f.size.2).bind (g := fun z st => rd7 h.parents h.height h.topic h.author h.seq z st) r7 fun z => stays_7 _ _ _ _ _ z
 have r5 : Reads (rd5 h.parents h.height h.topic h.author) (b4 h.seq ++ (b2 h.size ++ h.commit)) h := (reads_4 h.seq f.seq.1 f.seq.2).bind (g := fun q st => rd6 h.parents h.height h.topic h.author q st) r6 fun q => stays_6 _ _ _ _ q
 have r4 : Reads (rd4 h.parents h.height h.topic) (b1 h.author ++ (b4 h.seq ++ (b2 h.size ++ h.commit))) h := (reads_1 h.author f.author.1 f.author.2).bind (g := fun a st => rd5 h.parents h.height h.topic a st) r5 fun a => stays_5 _ _ _ a
 have r3 : Reads (rd3 h.parents h.height) (txt h.topic ++ (b1 h.author ++ (b4 h.seq ++ (b2 h.size ++ h.commit)))) h := (reads_T h.topic f.topic).bind (g := fun t st => rd4 h.parents h.height t st) r4 fun t => stays_4 _ _ t
 have r2 : Reads (rd2 h.parents) (b4 h.height ++ (txt h.topic ++ (b1 h.author ++ (b4 h.seq ++ (b2 h.size ++ h.commit))))) h := (reads_4 h.height f.height.1 f.height.2).bind (g := fun x st => rd3 h.parents x st) r3 fun x => stays_3 _ x
 exact (reads_S h.parents f.parents.1 f.parents.2).bind (g := fun p st => rd2 p st) r2 fun p => stays_2 p
theorem txt_len {l : List UInt8} {n : Nat} (h : l.length ≤ n) : (txt l).length ≤ n + 1 := by
 unfold txt; rw [List.length_append, opn.b1_len]; omega
theorem flatH {L : List (List UInt8)} (h : okIds L) : L.flatten.length = L.length * 32 := by
 induction L with
 | nil => rfl
 | cons x L ih =>
  rw [List.flatten_cons, List.length_append, h x List.mem_cons_self, ih fun y hy => h y (List.mem_cons_of_mem _ hy), List.length_cons]
  omega
theorem en_len {h : Hd} (hc : checkH h = 0) (hr : h.commit.length = 32) (hs : okIds h.parents) : (enH h).length ≤ 200 := by
 obtain ⟨h0, _, _, h3, _⟩ := check_parts hc
 have ht := txt_len (topic.kindOf_pos _ h3).2.1
 have hp : (idl h.parents).length ≤ 129 := by unfold idl; rw [List.length_append, opn.b1_len, flatH hs]; omega
 unfold enH
 simp only [List.length_append, opn.b1_len, opn.b2_len, opn.b4_len, hr]
 omega
theorem of_put {h : Hd} (hc : checkH h = 0) (hr : h.commit.length = 32) (hs : okIds h.parents) : ofH (enH h) = (h, 0) := by
 have hl := en_len hc hr hs
 have k := (reads_H (fitsH hc hr hs) [] (enH h).length).1 (Nat.le_refl _)
 rw [List.append_nil, List.take_length, Nat.sub_self, List.take_zero] at k
 unfold ofH
 rw [if_neg (by omega)]
 simp only [k]
 have e : endE ([], 0) = 0 := rfl
 rw [e]
 simp [hc]
theorem put_ok {h : Hd} (hc : checkH h = 0) : putH h = (enH h, 0) := by unfold putH; rw [if_neg (by rw [hc]; simp)]
theorem put_no {h : Hd} (hc : checkH h ≠ 0) : putH h = ([], checkH h) := by unfold putH; rw [if_pos hc]

/-! And back. -/
def Errs {α : Type} (f : St → α × St) : Prop := ∀ st, (f st).2.2 = 0 → st.2 = 0
theorem errs_rd (n : Nat) : Errs (rd n) := fun _ h => opn.rd_err' h
theorem errs_N (n : Nat) : Errs (rdN n) := fun _ h => opn.rd_err' (n := n) h
theorem errs_T : Errs rdT := fun st h => errs_N 1 st (errs_rd _ _ h)
theorem errs_I : Errs rdI := fun _ h => opn.rd_err' (n := 32) h
theorem back_H (st : St) (h : (rdH st).2.2 = 0) : st = (enH (rdH st).1 ++ (rdH st).2.1, 0) := by
 obtain ⟨s1, e1⟩ : ∃ x, x = (rdS st).2 := ⟨_, rfl⟩
 obtain ⟨s2, e2⟩ : ∃ x, x = (rdN 4 s1).2 := ⟨_, rfl⟩
 obtain ⟨s3, e3⟩ : ∃ x, x = (rdT s2).2 := ⟨_, rfl⟩
 obtain ⟨s4, e4⟩ : ∃ x, x = (rdN 1 s3).2 := ⟨_, rfl⟩
 obtain ⟨s5, e5⟩ : ∃ x, x = (rdN 4 s4).2 := ⟨_, rfl⟩
 obtain ⟨s6, e6⟩ : ∃ x, x = (rdN 2 s5).2 := ⟨_, rfl⟩
 have hv : rdH st = (⟨(rdS st).1, (rdN 4 s1).1, (rdT s2).1, (rdN 1 s3).1, (rdN 4 s4).1, (rdN 2 s5).1, (rdI s6).1⟩, (rdI s6).2) := by
  rw [e6, e5, e4, e3, e2, e1]; rfl
 rw [hv] at h ⊢
 simp only at h
 have z6 := errs_I s6 h
 rw [e6] at z6
 have z5 := errs_N 2 s5 z6
 rw [e5] at z5
 have z4 := errs_N 4 s4 z5
 rw [e4] at z4
 have z3 := errs_N 1 s3 z4
 rw [e3] at z3
 have z2 := errs_T s2 z3
 rw [e2] at z2
 have z1 := errs_N 4 s1 z2
 rw [e1] at z1
 have k0 := opn.back_S st z1
 have k1 := opn.back_4 s1 z2
 have k2 := opn.back_T s2 z3
 have k3 := opn.back_1 s3 z4
 have k4 := opn.back_4 s4 z5
 have k5 := opn.back_2 s5 z6
 have k6 := (opn.back_I s6 h).1
 rw [← e1] at k0
 rw [← e2] at k1
 rw [← e3] at k2
 rw [← e4] at k3
 rw [← e5] at k4
 rw [← e6] at k5
 have f : ∀ {x y : St}, x = y → x.1 = y.1 := fun h => congrArg Prod.fst h
 refine k0.trans ?_
 rw [f k1, f k2, f k3, f k4, f k5, f k6]
 simp only [enH, List.append_assoc]
theorem ofH_eq (s : List UInt8) (hl : ¬ 256 < s.length) : ofH s = if endE (rdH (s, 0)).2 ≠ 0 then (zhd, endE (rdH (s, 0)).2) else if checkH (rdH (s, 0)).1 ≠ 0 then (zhd, checkH (rdH (s, 0)).1) else ((rdH (s, 0)).1, 0) := by
 unfold ofH
 rw [if_neg hl]
 by_cases h1 : endE (rdH (s, 0)).2 = 0
 ·
  simp only [h1, ne_eq, not_true, if_false]
 ·
  simp only [ne_eq, h1, not_false_eq_true, if_true]
theorem of_back {s : List UInt8} {q : Hd} (h : ofH s = (q, 0)) : checkH q = 0 ∧ s = enH q := by
 by_cases hl : 256 < s.length
 ·
  unfold ofH at h; rw [if_pos hl] at h; simp at h
 rw [ofH_eq s hl] at h
 by_cases h1 : endE (rdH (s, 0)).2 = 0
 case neg =>
  rw [if_pos h1] at h
  exact absurd (congrArg Prod.snd h) h1
 rw [if_neg (fun hh => hh h1)] at h
 by_cases h2 : checkH (rdH (s, 0)).1 = 0
 case neg =>
  rw [if_pos h2] at h
  exact absurd (congrArg Prod.snd h) h2
 rw [if_neg (fun hh => hh h2)] at h
 have hq : (rdH (s, 0)).1 = q := congrArg Prod.fst h
 rw [hq] at h2
 refine ⟨h2, ?_⟩
 unfold endE at h1
 have h3 : (rdH (s, 0)).2.2 = 0 := by
  by_cases a : (rdH (s, 0)).2.2 = 0
  ·
   exact a
  ·
   rw [if_pos a] at h1; exact h1
 rw [if_neg (fun hh => hh h3)] at h1
 have h4 : (rdH (s, 0)).2.1 = [] := by
  by_cases a : (rdH (s, 0)).2.1 = []
  ·
   exact a
  ·
   rw [if_neg a] at h1; cases h1
 have k := back_H (s, 0) h3
 rw [h4, List.append_nil, hq] at k
 exact congrArg Prod.fst k
theorem of_err {s : List UInt8} {q : Hd} {e : Int} (h : ofH s = (q, e)) (he : e ≠ 0) : q = zhd := by
 by_cases hl : 256 < s.length
 ·
  unfold ofH at h; rw [if_pos hl] at h; exact (congrArg Prod.fst h).symm
 rw [ofH_eq s hl] at h
 by_cases h1 : endE (rdH (s, 0)).2 = 0
 case neg => rw [if_pos h1] at h; exact (congrArg Prod.fst h).symm
 rw [if_neg (fun hh => hh h1)] at h
 by_cases h2 : checkH (rdH (s, 0)).1 = 0
 case neg => rw [if_pos h2] at h; exact (congrArg Prod.fst h).symm
 rw [if_neg (fun hh => hh h2)] at h
 exact absurd (congrArg Prod.snd h).symm he

/-! An order. -/
theorem ahead_iff {x y : Int} {a b : List UInt8} : aheadB x a y b = true ↔ x < y ∨ (x = y ∧ cmpL a b < 0) := by
 unfold aheadB; simp
theorem ahead_anti {x y : Int} {a b : List UInt8} (h : aheadB x a y b = true) : aheadB y b x a = false := by
 rw [← Bool.not_eq_true, ahead_iff]
 rw [ahead_iff] at h
 have := ids.cmpL_neg a b
 omega
theorem ahead_trans {x y z : Int} {a b c : List UInt8} (h1 : aheadB x a y b = true) (h2 : aheadB y b z c = true) : aheadB x a z c = true := by
 rw [ahead_iff] at *
 have := ids.cmpL_trans a b c
 rcases h1 with h1 | ⟨h1, h1'⟩ <;> rcases h2 with h2 | ⟨h2, h2'⟩
 ·
  left; omega
 ·
  left; omega
 ·
  left; omega
 ·
  right; exact ⟨by omega, this h1' h2'⟩
theorem ahead_total (x y : Int) (a b : List UInt8) : (aheadB x a y b || aheadB y b x a) = !(decide (x = y) && decide (a = b)) := by
 by_cases h : x = y ∧ a = b
 ·
  obtain ⟨rfl, rfl⟩ := h
  have : aheadB x a x a = false := by
   rw [← Bool.not_eq_true, ahead_iff, ids.cmpL_self]; omega
  rw [this]; simp
 ·
  have h2 : (aheadB x a y b || aheadB y b x a) = true := by
   rw [Bool.or_eq_true, ahead_iff, ahead_iff]
   have h0 := ids.cmpL_neg a b
   have h3 := ids.cmpL_zero a b
   rcases Int.lt_trichotomy x y with c | c | c
   ·
    exact .inl (.inl c)
   ·
    by_cases hab : a = b
    ·
     exact absurd ⟨c, hab⟩ h
    ·
     have : cmpL a b ≠ 0 := fun e => hab (h3 e)
     rcases Int.lt_or_gt_of_ne this with d | d
     ·
      exact .inl (.inr ⟨c, d⟩)
     ·
      exact .inr (.inr ⟨c.symm, by omega⟩)
   ·
    exact .inr (.inl c)
  rw [h2]
  have : ¬ (decide (x = y) && decide (a = b)) = true := by simpa using h
  simp only [Bool.not_eq_true] at this
  rw [this]; rfl
end Go.Proofs.YtpeneeddfgmjpaaGreatDoor.hdr
