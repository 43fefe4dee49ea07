/-
  Names of topics by plain functions (petrelref05).
  Headers as bytes, by plain functions: put, read; there and back; an order.
  What numbers that were read may be.
  An id's first bytes, and zeros; an id's array byte by byte.
  Ids that were read have 32 bytes.
  Bytes appended to a slice of the call's own; a string out of it.
  Numbers and texts as bytes, by plain functions: what octet's calls do on plain lists. No function of any package is named here.
  Contracts of the document's own answers for layer 1 (petrelref01): Num and Text.
  petrelref01.Num of a number that fits.
  petrelref01.Ids: ids as bytes.
-/
import Derived.Test.YtpeneeddfgmjpaaGreatDoorIda
import Derived.Test.YtpeneeddfgmjpaaGreatDoorOpp
import Derived.Test.YtpeneeddfgmjpaaGreatDoorIdsp
import Derived.Laws.IdiomStrings
import Derived.Laws.MakeOwn
import Derived.Lib.Strings
import Derived.Lib.BufferWrite
import Derived.Lib.UnsafeStr
import Derived.Lib.Walk
import Derived.Laws.BitsAllLaws
import Derived.Laws.BitsLemmas
import Derived.Laws.BytesArg
import Derived.Outline
import Derived.Deep.RegionHeld3
namespace Go.Proofs.YtpeneeddfgmjpaaGreatDoor.topic
open Go.RowKit Go.Proofs.YtpeneeddfgmjpaaGreatDoor.sha

def okByte (c : UInt8) : Bool := (decide (97 ≤ B c) && decide (B c ≤ 122)) || (decide (48 ≤ B c) && decide (B c ≤ 57)) || decide (B c = 45)
def kindB (c : UInt8) : Nat := if B c = 99 then 1 else if B c = 115 then 2 else if B c = 108 then 3 else if B c = 109 then 4 else if B c = 114 then 5 else 0
def kindOf (l : List UInt8) : Nat :=
 if 2 ≤ l.length ∧ l.length ≤ 12 ∧ ¬ B (l.getD (l.length - 1) 0) = 45 ∧ (l.drop 1).all okByte = true then kindB (l.getD 0 0) else 0
def letterOf (k : Int) : List UInt8 := if k = 1 then [99] else if k = 2 then [115] else if k = 3 then [108] else if k = 4 then [109] else if k = 5 then [114] else []
def nameOf (k : Int) (rest : List UInt8) : List UInt8 × Int :=
 if kindOf (letterOf k ++ rest) = 0 ∨ ¬ (kindOf (letterOf k ++ rest) : Int) = k then ([], 9) else (letterOf k ++ rest, 0)
def checkOf (l : List UInt8) : Int := if kindOf l = 0 then 9 else 0

theorem kindB_le (c : UInt8) : kindB c ≤ 5 := by
 unfold kindB
 repeat' split
 all_goals omega
theorem kindOf_le (l : List UInt8) : kindOf l ≤ 5 := by unfold kindOf; split; exact kindB_le _; omega
theorem drop_get (l : List UInt8) (j : Nat) : (l.drop 1).getD j 0 = l.getD (j + 1) 0 := by
 rw [List.getD_eq_getElem?_getD, List.getD_eq_getElem?_getD, List.getElem?_drop, Nat.add_comm]
theorem all_drop (l : List UInt8) : (l.drop 1).all okByte = true ↔ ∀ j, 1 ≤ j → j < l.length → okByte (l.getD j 0) = true := by
 rw [List.all_eq_true]
 constructor
 ·
  intro h j h1 h2
  obtain ⟨i, rfl⟩ : ∃ i, j = i + 1 := ⟨j - 1, by omega⟩
  rw [← drop_get]
  refine h _ ?_
  rw [List.getD_eq_getElem?_getD, List.getElem?_eq_getElem (by rw [List.length_drop]; omega)]
  exact List.getElem_mem _
 ·
  intro h x hx
  obtain ⟨i, hi, rfl⟩ := List.getElem_of_mem hx
  have := h (i + 1) (by omega) (by rw [List.length_drop] at hi; omega)
  rw [← drop_get, List.getD_eq_getElem?_getD, List.getElem?_eq_getElem hi] at this
  exact this
theorem kindOf_bad (l : List UInt8) (j : Nat) (h1 : 1 ≤ j) (h2 : j < l.length) (h : okByte (l.getD j 0) = false) : kindOf l = 0 := by
 unfold kindOf
 rw [if_neg]
 rintro ⟨_, _, _, ha⟩
 rw [(all_drop l).1 ha j h1 h2] at h
 exact absurd h (by decide)
theorem kindOf_short (l : List UInt8) (h : l.length < 2) : kindOf l = 0 := by unfold kindOf; rw [if_neg]; rintro ⟨a, _⟩; omega
theorem kindOf_long (l : List UInt8) (h : 12 < l.length) : kindOf l = 0 := by unfold kindOf; rw [if_neg]; rintro ⟨_, a, _⟩; omega
theorem kindOf_dash (l : List UInt8) (h : B (l.getD (l.length - 1) 0) = 45) : kindOf l = 0 := by unfold kindOf; rw [if_neg]; rintro ⟨_, _, a, _⟩; exact a h
theorem kindOf_good (l : List UInt8) (h1 : 2 ≤ l.length) (h2 : l.length ≤ 12) (h3 : ¬ B (l.getD (l.length - 1) 0) = 45) (h4 : ∀ j, 1 ≤ j → j < l.length → okByte (l.getD j 0) = true) : kindOf l = kindB (l.getD 0 0) := by
 unfold kindOf
 rw [if_pos ⟨h1, h2, h3, (all_drop l).2 h4⟩]
/-- what is of a kind -/
theorem kindOf_pos (l : List UInt8) (h : ¬ kindOf l = 0) : 2 ≤ l.length ∧ l.length ≤ 12 ∧ ¬ B (l.getD (l.length - 1) 0) = 45 ∧ (∀ j, 1 ≤ j → j < l.length → okByte (l.getD j 0) = true) ∧ kindOf l = kindB (l.getD 0 0) := by
 have hk : kindOf l = if 2 ≤ l.length ∧ l.length ≤ 12 ∧ ¬ B (l.getD (l.length - 1) 0) = 45 ∧ (l.drop 1).all okByte = true then kindB (l.getD 0 0) else 0 := rfl
 by_cases hc : 2 ≤ l.length ∧ l.length ≤ 12 ∧ ¬ B (l.getD (l.length - 1) 0) = 45 ∧ (l.drop 1).all okByte = true
 ·
  exact ⟨hc.1, hc.2.1, hc.2.2.1, (all_drop l).1 hc.2.2.2, by rw [hk, if_pos hc]⟩
 ·
  rw [if_neg hc] at hk; exact absurd hk h
/-- a byte as six cases -/
theorem okByte_cases (c : UInt8) (P : Prop)
  (a1 : 97 ≤ B c → B c ≤ 122 → okByte c = true → P) (a2 : B c < 97 → 48 ≤ B c → B c ≤ 57 → okByte c = true → P) (a3 : B c = 45 → okByte c = true → P)
  (b1 : 122 < B c → 57 < B c → (B c != 45) = true → okByte c = false → P) (b2 : B c < 97 → 57 < B c → (B c != 45) = true → okByte c = false → P) (b3 : B c < 48 → B c < 97 → (B c != 45) = true → okByte c = false → P) : P := by
 have e : ∀ b, okByte c = b ↔ ((decide (97 ≤ B c) && decide (B c ≤ 122)) || (decide (48 ≤ B c) && decide (B c ≤ 57)) || decide (B c = 45)) = b := fun b => Iff.rfl
 by_cases h1 : 122 < B c
 ·
  exact b1 h1 (by omega) (bne_iff_ne.2 (by omega)) ((e _).2 (by simp; omega))
 by_cases h2 : 97 ≤ B c
 ·
  exact a1 h2 (by omega) ((e _).2 (by simp; omega))
 by_cases h3 : 57 < B c
 ·
  exact b2 (by omega) h3 (bne_iff_ne.2 (by omega)) ((e _).2 (by simp; omega))
 by_cases h4 : 48 ≤ B c
 ·
  exact a2 (by omega) h4 (by omega) ((e _).2 (by simp; omega))
 by_cases h5 : B c = 45
 ·
  exact a3 h5 ((e _).2 (by simp; omega))
 ·
  exact b3 (by omega) (by omega) (bne_iff_ne.2 h5) ((e _).2 (by simp; omega))
theorem kindB_letter (c : UInt8) : kindB c = 0 ∨ letterOf (kindB c) = [c] := by
 have hB : ∀ n : Nat, n < 256 → B c = (n : Int) → c = UInt8.ofNat n := fun n hn h => by
  apply UInt8.toNat_inj.1
  unfold B at h
  rw [UInt8.toNat_ofNat_of_lt' (by show n < 256; exact hn)]
  omega
 unfold kindB
 split
 ·
  right; rw [hB 99 (by decide) (by omega)]; rfl
 split
 ·
  right; rw [hB 115 (by decide) (by omega)]; rfl
 split
 ·
  right; rw [hB 108 (by decide) (by omega)]; rfl
 split
 ·
  right; rw [hB 109 (by decide) (by omega)]; rfl
 split
 ·
  right; rw [hB 114 (by decide) (by omega)]; rfl
 ·
  left; rfl
theorem nameOf_out (k : Int) (rest : List UInt8) (h : k < 1 ∨ 5 < k) : nameOf k rest = ([], 9) := by
 have e : letterOf k = [] := by unfold letterOf; repeat' (first | rw [if_neg (by omega)])
 unfold nameOf
 rw [e, List.nil_append]
 rw [if_pos]
 by_cases h0 : kindOf rest = 0
 ·
  exact Or.inl h0
 ·
  have := kindOf_le rest
  exact Or.inr (by omega)
theorem letterOf_in (k : Int) (h1 : 1 ≤ k) (h5 : k ≤ 5) : ∃ c, letterOf k = [c] ∧ (kindB c : Int) = k := by
 rcases (show k = 1 ∨ k = 2 ∨ k = 3 ∨ k = 4 ∨ k = 5 by omega) with rfl | rfl | rfl | rfl | rfl
 ·
  exact ⟨99, rfl, rfl⟩
 ·
  exact ⟨115, rfl, rfl⟩
 ·
  exact ⟨108, rfl, rfl⟩
 ·
  exact ⟨109, rfl, rfl⟩
 ·
  exact ⟨114, rfl, rfl⟩
theorem kindOf_head (c : UInt8) (l : List UInt8) (h : ¬ kindOf l = 0) : kindOf (c :: l.drop 1) = kindB c := by
 obtain ⟨h1, h2, h3, h4, -⟩ := kindOf_pos l h
 have hl : (c :: l.drop 1).length = l.length := by rw [List.length_cons, List.length_drop]; omega
 have hg : ∀ j, 1 ≤ j → (c :: l.drop 1).getD j 0 = l.getD j 0 := fun j hj => by
  obtain ⟨i, rfl⟩ : ∃ i, j = i + 1 := ⟨j - 1, by omega⟩
  rw [List.getD_cons_succ, drop_get]
 exact kindOf_good _ (by omega) (by omega) (by rw [hl, hg _ (by omega)]; exact h3) (fun j a b => by rw [hg j a]; exact h4 j a (by omega))
theorem cons_drop (l : List UInt8) (h : 2 ≤ l.length) : l.getD 0 0 :: l.drop 1 = l := by
 cases l with
 | nil => simp at h
 | cons a l => rfl
theorem nameOf_in (k : Int) (l : List UInt8) (h : ¬ kindOf l = 0) (h1 : 1 ≤ k) (h5 : k ≤ 5) :
  nameOf k (l.drop 1) = (letterOf k ++ l.drop 1, 0) ∧ (kindOf (letterOf k ++ l.drop 1) : Int) = k ∧ (letterOf k ++ l.drop 1 = l ↔ k = (kindOf l : Int)) := by
 obtain ⟨c, hc, hk⟩ := letterOf_in k h1 h5
 have hh := kindOf_head c l h
 obtain ⟨g1, g2, g3, g4, g5⟩ := kindOf_pos l h
 refine ⟨?_, ?_, ?_⟩
 ·
  unfold nameOf
  rw [hc, List.singleton_append, hh, if_neg]
  rintro (a | a) <;> omega
 ·
  rw [hc, List.singleton_append, hh, hk]
 ·
  rw [hc, List.singleton_append]
  constructor
  ·
   intro e
   rw [← e, hh, hk]
  ·
   intro e
   have hl := kindB_letter (l.getD 0 0)
   rw [← g5] at hl
   rcases hl with hl | hl
   ·
    exact absurd hl h
   ·
    rw [← e, hc] at hl
    have := cons_drop l g1
    simp only [List.cons.injEq, and_true] at hl
    rw [hl]; exact this
theorem nameOf_back (l : List UInt8) (h : ¬ kindOf l = 0) : nameOf (kindOf l) (l.drop 1) = (l, 0) := by
 have h5 := kindOf_le l
 obtain ⟨a, _, c⟩ := nameOf_in (kindOf l) l h (by omega) (by omega)
 rw [a, c.2 rfl]
/-! A name of which one byte is another one. -/
def isDig (c : UInt8) : Bool := decide (48 ≤ B c) && decide (B c ≤ 57)
def smallAt (c : UInt8) (i n : Nat) : Bool := (decide (97 ≤ B c) && decide (B c ≤ 122)) || isDig c || (B c == 45 && decide ((i : Int) < (n : Int) - 1))
def isFirst (c : UInt8) : Bool := B c == 99 || B c == 115 || B c == 108 || B c == 109 || B c == 114
def wantAt (c : UInt8) (i n : Nat) : Bool := ((i : Int) == 0 && isFirst c) || (decide ((0 : Int) < i) && smallAt c i n)
theorem isFirst_kind (c : UInt8) : isFirst c = true ↔ ¬ kindB c = 0 := by
 unfold isFirst kindB
 simp only [Bool.or_eq_true, beq_iff_eq]
 repeat' split
 all_goals simp_all
theorem getD_set (l : List UInt8) (i j : Nat) (c : UInt8) (hi : i < l.length) : (l.set i c).getD j 0 = if j = i then c else l.getD j 0 := by
 rw [List.getD_eq_getElem?_getD, List.getElem?_set, List.getD_eq_getElem?_getD]
 by_cases h : j = i
 ·
  subst h; rw [if_pos rfl, if_pos rfl, if_pos hi]; rfl
 ·
  rw [if_neg h, if_neg (by omega)]
theorem bytes_of (l : List UInt8) (i : Nat) (c : UInt8) (h : ¬ kindOf l = 0) (hi : i < l.length) : (checkOf (l.set i c) == 0) = wantAt c i l.length := by
 obtain ⟨h1, h2, h3, h4, h5⟩ := kindOf_pos l h
 have hl : (l.set i c).length = l.length := List.length_set
 have hk : (checkOf (l.set i c) == 0) = true ↔ ¬ kindOf (l.set i c) = 0 := by
  unfold checkOf
  split <;> simp_all
 rw [Bool.eq_iff_iff, hk]
 unfold wantAt smallAt isDig
 simp only [Bool.or_eq_true, Bool.and_eq_true, decide_eq_true_eq, beq_iff_eq, isFirst_kind]
 have hok : okByte c = true ↔ ((97 ≤ B c ∧ B c ≤ 122) ∨ (48 ≤ B c ∧ B c ≤ 57)) ∨ B c = 45 := by
  unfold okByte
  simp only [Bool.or_eq_true, Bool.and_eq_true, decide_eq_true_eq]
 constructor
 ·
  intro hp
  obtain ⟨k1, k2, k3, k4, k5⟩ := kindOf_pos _ hp
  rw [hl] at k3 k4
  rcases Nat.eq_zero_or_pos i with rfl | hp0
  ·
   left
   refine ⟨rfl, ?_⟩
   rw [getD_set _ _ _ _ hi, if_pos rfl] at k5
   rw [k5] at hp
   exact hp
  ·
   right
   refine ⟨by omega, ?_⟩
   have hc := k4 i hp0 hi
   rw [getD_set _ _ _ _ hi, if_pos rfl, hok] at hc
   rcases hc with hc | hc
   ·
    exact Or.inl hc
   ·
    right
    refine ⟨hc, ?_⟩
    rw [getD_set _ _ _ _ hi] at k3
    by_cases he : l.length - 1 = i
    ·
     rw [if_pos he] at k3; exact absurd hc k3
    ·
     omega
 ·
  intro hw
  have hgood : (¬ B ((l.set i c).getD (l.length - 1) 0) = 45) → (∀ j, 1 ≤ j → j < l.length → okByte ((l.set i c).getD j 0) = true) → kindOf (l.set i c) = kindB ((l.set i c).getD 0 0) := fun a b =>
   kindOf_good _ (by omega) (by omega) (by rw [hl]; exact a) (by rw [hl]; exact b)
  rcases hw with ⟨w1, w2⟩ | ⟨w1, w2⟩
  ·
   obtain rfl : i = 0 := by omega
   rw [hgood (by rw [getD_set _ _ _ _ hi, if_neg (by omega)]; exact h3) (fun j a b => by rw [getD_set _ _ _ _ hi, if_neg (by omega)]; exact h4 j a b), getD_set _ _ _ _ hi, if_pos rfl]
   exact w2
  ·
   rw [hgood ?_ ?_, getD_set _ _ _ _ hi, if_neg (by omega), ← h5]
   ·
    exact h
   ·
    rw [getD_set _ _ _ _ hi]
    split
    ·
     rcases w2 with w2 | w2 <;> omega
    ·
     exact h3
   ·
    intro j a b
    rw [getD_set _ _ _ _ hi]
    split
    ·
     rw [hok]
     rcases w2 with w2 | w2
     ·
      exact Or.inl w2
     ·
      exact Or.inr w2.1
    ·
     exact h4 j a b
end Go.Proofs.YtpeneeddfgmjpaaGreatDoor.topic

namespace Go.Proofs.YtpeneeddfgmjpaaGreatDoor.hdr
open Go.Proofs.YtpeneeddfgmjpaaGreatDoor.opn (b1 b2 b4 num txt idl byte rd rdN rdT rdI rdS rdL St Reads Stays endE zid mkId)
open Go.Proofs.YtpeneeddfgmjpaaGreatDoor.ids (cmpL setL okIds)

structure Hd where
 (parents : List (List UInt8)) (height : Int) (topic : List UInt8) (author seq size : Int) (commit : List UInt8)
def zhd : Hd := ⟨[], 0, [], 0, 0, 0, zid⟩
def badHeight (h : Hd) : Prop := h.height < 1 ∨ 1073741824 < h.height ∨ ¬ (h.parents.length = 0 ↔ h.height = 1)
def badRange (h : Hd) : Prop := h.author < 0 ∨ 255 < h.author ∨ h.seq < 1 ∨ 1073741824 < h.seq ∨ h.size < 1 ∨ 512 < h.size
instance (h : Hd) : Decidable (badHeight h) := inferInstanceAs (Decidable (_ ∨ _ ∨ ¬ (_ ↔ _)))
instance (h : Hd) : Decidable (badRange h) := inferInstanceAs (Decidable (_ ∨ _ ∨ _ ∨ _ ∨ _ ∨ _))
def checkH (h : Hd) : Int :=
 if 4 < h.parents.length then 6
 else if (h.parents == setL h.parents) = false then 4
 else if badHeight h then 12
 else if topic.kindOf h.topic = 0 then 9
 else if badRange h then 5
 else 0
/-- the bytes of one -/
def enH (h : Hd) : List UInt8 := idl h.parents ++ (b4 h.height ++ (txt h.topic ++ (b1 h.author ++ (b4 h.seq ++ (b2 h.size ++ h.commit)))))
def putH (h : Hd) : List UInt8 × Int := if checkH h ≠ 0 then ([], checkH h) else (enH h, 0)
def rd7 (p : List (List UInt8)) (h : Int) (t : List UInt8) (a q z : Int) (st : St) : Hd × St := (⟨p, h, t, a, q, z, (rdI st).1⟩, (rdI st).2)
def rd6 (p : List (List UInt8)) (h : Int) (t : List UInt8) (a q : Int) (st : St) : Hd × St := rd7 p h t a q (rdN 2 st).1 (rdN 2 st).2
def rd5 (p : List (List UInt8)) (h : Int) (t : List UInt8) (a : Int) (st : St) : Hd × St := rd6 p h t a (rdN 4 st).1 (rdN 4 st).2
def rd4 (p : List (List UInt8)) (h : Int) (t : List UInt8) (st : St) : Hd × St := rd5 p h t (rdN 1 st).1 (rdN 1 st).2
def rd3 (p : List (List UInt8)) (h : Int) (st : St) : Hd × St := rd4 p h (rdT st).1 (rdT st).2
def rd2 (p : List (List UInt8)) (st : St) : Hd × St := rd3 p (rdN 4 st).1 (rdN 4 st).2
def rdH (st : St) : Hd × St := rd2 (rdS st).1 (rdS st).2
def ofH (s : List UInt8) : Hd × Int :=
 if 256 < s.length then (zhd, 3)
 else
  let r := rdH (s, 0)
  let e := if endE r.2 ≠ 0 then endE r.2 else checkH r.1
  if e ≠ 0 then (zhd, e) else (r.1, 0)
def aheadB (x : Int) (a : List UInt8) (y : Int) (b : List UInt8) : Bool := decide (x < y) || (decide (x = y) && decide (cmpL a b < 0))

/-! There. -/
structure FitsH (h : Hd) : Prop where
 parents : okIds h.parents ∧ h.parents.length < 256
 height : 0 ≤ h.height ∧ h.height < 4294967296
 topic : h.topic.length < 256
 author : 0 ≤ h.author ∧ h.author < 256
 seq : 0 ≤ h.seq ∧ h.seq < 4294967296
 size : 0 ≤ h.size ∧ h.size < 65536
 commit : h.commit.length = 32
theorem check_parts {h : Hd} (hc : checkH h = 0) : h.parents.length ≤ 4 ∧ (h.parents == setL h.parents) = true ∧ ¬ badHeight h ∧ topic.kindOf h.topic ≠ 0 ∧ ¬ badRange h := by
 unfold checkH at hc
 split at hc
 ·
  cases hc
 rename_i h0
 split at hc
 ·
  cases hc
 rename_i h1
 split at hc
 ·
  cases hc
 rename_i h2
 split at hc
 ·
  cases hc
 rename_i h3
 split at hc
 ·
  cases hc
 rename_i h4
 exact ⟨by omega, by simpa using h1, h2, h3, h4⟩
theorem fitsH {h : Hd} (hc : checkH h = 0) (hr : h.commit.length = 32) (hs : okIds h.parents) : FitsH h := by
 obtain ⟨h0, _, h2, h3, h4⟩ := check_parts hc
 have ht := (topic.kindOf_pos _ h3).2.1
 unfold badHeight at h2
 unfold badRange at h4
 exact ⟨⟨hs, by omega⟩, by omega, by omega, by omega, by omega, by omega, hr⟩
open Go.Proofs.YtpeneeddfgmjpaaGreatDoor.opn in
theorem stays_7 (p : List (List UInt8)) (h : Int) (t : List UInt8) (a q z : Int) : Stays (rd7 p h t a q z) := stays_I.map fun v => (⟨p, h, t, a, q, z, v⟩ : Hd)
open Go.Proofs.YtpeneeddfgmjpaaGreatDoor.opn in
theorem stays_6 (p : List (List UInt8)) (h : Int) (t : List UInt8) (a q : Int) : Stays (rd6 p h t a q) := (stays_N 2).bind (g := fun z st => rd7 p h t a q z st) fun z => stays_7 p h t a q z
open Go.Proofs.YtpeneeddfgmjpaaGreatDoor.opn in
theorem stays_5 (p : List (List UInt8)) (h : Int) (t : List UInt8) (a : Int) : Stays (rd5 p h t a) := (stays_N 4).bind (g := fun q st => rd6 p h t a q st) fun q => stays_6 p h t a q
open Go.Proofs.YtpeneeddfgmjpaaGreatDoor.opn in
theorem stays_4 (p : List (List UInt8)) (h : Int) (t : List UInt8) : Stays (rd4 p h t) := (stays_N 1).bind (g := fun a st => rd5 p h t a st) fun a => stays_5 p h t a
open Go.Proofs.YtpeneeddfgmjpaaGreatDoor.opn in
theorem stays_3 (p : List (List UInt8)) (h : Int) : Stays (rd3 p h) := stays_T.bind (g := fun t st => rd4 p h t st) fun t => stays_4 p h t
open Go.Proofs.YtpeneeddfgmjpaaGreatDoor.opn in
theorem stays_2 (p : List (List UInt8)) : Stays (rd2 p) := (stays_N 4).bind (g := fun h st => rd3 p h st) fun h => stays_3 p h
open Go.Proofs.YtpeneeddfgmjpaaGreatDoor.opn in
theorem reads_H {h : Hd} (f : FitsH h) : Reads rdH (enH h) h := by
 have r7 : Reads (rd7 h.parents h.height h.topic h.author h.seq h.size) h.commit h := (reads_I h.commit f.commit).map fun v => (⟨h.parents, h.height, h.topic, h.author, h.seq, h.size, v⟩ : Hd)
 have r6 : Reads (rd6 h.parents h.height h.topic h.author h.seq) (b2 h.size ++ h.commit) h := (reads_2 h.size f.size.1 f.size.2).bind (g := fun z st => rd7 h.parents h.height h.topic h.author h.seq z st) r7 fun z => stays_7 _ _ _ _ _ z
 have r5 : Reads (rd5 h.parents h.height h.topic h.author) (b4 h.seq ++ (b2 h.size ++ h.commit)) h := (reads_4 h.seq f.seq.1 f.seq.2).bind (g := fun q st => rd6 h.parents h.height h.topic h.author q st) r6 fun q => stays_6 _ _ _ _ q
 have r4 : Reads (rd4 h.parents h.height h.topic) (b1 h.author ++ (b4 h.seq ++ (b2 h.size ++ h.commit))) h := (reads_1 h.author f.author.1 f.author.2).bind (g := fun a st => rd5 h.parents h.height h.topic a st) r5 fun a => stays_5 _ _ _ a
 have r3 : Reads (rd3 h.parents h.height) (txt h.topic ++ (b1 h.author ++ (b4 h.seq ++ (b2 h.size ++ h.commit)))) h := (reads_T h.topic f.topic).bind (g := fun t st => rd4 h.parents h.height t st) r4 fun t => stays_4 _ _ t
 have r2 : Reads (rd2 h.parents) (b4 h.height ++ (txt h.topic ++ (b1 h.author ++ (b4 h.seq ++ (b2 h.size ++ h.commit))))) h := (reads_4 h.height f.height.1 f.height.2).bind (g := fun x st => rd3 h.parents x st) r3 fun x => stays_3 _ x
 exact (reads_S h.parents f.parents.1 f.parents.2).bind (g := fun p st => rd2 p st) r2 fun p => stays_2 p
theorem txt_len {l : List UInt8} {n : Nat} (h : l.length ≤ n) : (txt l).length ≤ n + 1 := by
 unfold txt; rw [List.length_append, opn.b1_len]; omega
theorem flatH {L : List (List UInt8)} (h : okIds L) : L.flatten.length = L.length * 32 := by
 induction L with
 | nil => rfl
 | cons x L ih =>
  rw [List.flatten_cons, List.length_append, h x List.mem_cons_self, ih fun y hy => h y (List.mem_cons_of_mem _ hy), List.length_cons]
  omega
theorem en_len {h : Hd} (hc : checkH h = 0) (hr : h.commit.length = 32) (hs : okIds h.parents) : (enH h).length ≤ 200 := by
 obtain ⟨h0, _, _, h3, _⟩ := check_parts hc
 have ht := txt_len (topic.kindOf_pos _ h3).2.1
 have hp : (idl h.parents).length ≤ 129 := by unfold idl; rw [List.length_append, opn.b1_len, flatH hs]; omega
 unfold enH
 simp only [List.length_append, opn.b1_len, opn.b2_len, opn.b4_len, hr]
 omega
theorem of_put {h : Hd} (hc : checkH h = 0) (hr : h.commit.length = 32) (hs : okIds h.parents) : ofH (enH h) = (h, 0) := by
 have hl := en_len hc hr hs
 have k := (reads_H (fitsH hc hr hs) [] (enH h).length).1 (Nat.le_refl _)
 rw [List.append_nil, List.take_length, Nat.sub_self, List.take_zero] at k
 unfold ofH
 rw [if_neg (by omega)]
 simp only [k]
 have e : endE ([], 0) = 0 := rfl
 rw [e]
 simp [hc]
theorem put_ok {h : Hd} (hc : checkH h = 0) : putH h = (enH h, 0) := by unfold putH; rw [if_neg (by rw [hc]; simp)]
theorem put_no {h : Hd} (hc : checkH h ≠ 0) : putH h = ([], checkH h) := by unfold putH; rw [if_pos hc]

/-! And back. -/
def Errs {α : Type} (f : St → α × St) : Prop := ∀ st, (f st).2.2 = 0 → st.2 = 0
theorem errs_rd (n : Nat) : Errs (rd n) := fun _ h => opn.rd_err' h
theorem errs_N (n : Nat) : Errs (rdN n) := fun _ h => opn.rd_err' (n := n) h
theorem errs_T : Errs rdT := fun st h => errs_N 1 st (errs_rd _ _ h)
theorem errs_I : Errs rdI := fun _ h => opn.rd_err' (n := 32) h
theorem back_H (st : St) (h : (rdH st).2.2 = 0) : st = (enH (rdH st).1 ++ (rdH st).2.1, 0) := by
 obtain ⟨s1, e1⟩ : ∃ x, x = (rdS st).2 := ⟨_, rfl⟩
 obtain ⟨s2, e2⟩ : ∃ x, x = (rdN 4 s1).2 := ⟨_, rfl⟩
 obtain ⟨s3, e3⟩ : ∃ x, x = (rdT s2).2 := ⟨_, rfl⟩
 obtain ⟨s4, e4⟩ : ∃ x, x = (rdN 1 s3).2 := ⟨_, rfl⟩
 obtain ⟨s5, e5⟩ : ∃ x, x = (rdN 4 s4).2 := ⟨_, rfl⟩
 obtain ⟨s6, e6⟩ : ∃ x, x = (rdN 2 s5).2 := ⟨_, rfl⟩
 have hv : rdH st = (⟨(rdS st).1, (rdN 4 s1).1, (rdT s2).1, (rdN 1 s3).1, (rdN 4 s4).1, (rdN 2 s5).1, (rdI s6).1⟩, (rdI s6).2) := by
  rw [e6, e5, e4, e3, e2, e1]; rfl
 rw [hv] at h ⊢
 simp only at h
 have z6 := errs_I s6 h
 rw [e6] at z6
 have z5 := errs_N 2 s5 z6
 rw [e5] at z5
 have z4 := errs_N 4 s4 z5
 rw [e4] at z4
 have z3 := errs_N 1 s3 z4
 rw [e3] at z3
 have z2 := errs_T s2 z3
 rw [e2] at z2
 have z1 := errs_N 4 s1 z2
 rw [e1] at z1
 have k0 := opn.back_S st z1
 have k1 := opn.back_4 s1 z2
 have k2 := opn.back_T s2 z3
 have k3 := opn.back_1 s3 z4
 have k4 := opn.back_4 s4 z5
 have k5 := opn.back_2 s5 z6
 have k6 := (opn.back_I s6 h).1
 rw [← e1] at k0
 rw [← e2] at k1
 rw [← e3] at k2
 rw [← e4] at k3
 rw [← e5] at k4
 rw [← e6] at k5
 have f : ∀ {x y : St}, x = y → x.1 = y.1 := fun h => congrArg Prod.fst h
 refine k0.trans ?_
 rw [f k1, f k2, f k3, f k4, f k5, f k6]
 simp only [enH, List.append_assoc]
theorem ofH_eq (s : List UInt8) (hl : ¬ 256 < s.length) : ofH s = if endE (rdH (s, 0)).2 ≠ 0 then (zhd, endE (rdH (s, 0)).2) else if checkH (rdH (s, 0)).1 ≠ 0 then (zhd, checkH (rdH (s, 0)).1) else ((rdH (s, 0)).1, 0) := by
 unfold ofH
 rw [if_neg hl]
 by_cases h1 : endE (rdH (s, 0)).2 = 0
 ·
  simp only [h1, ne_eq, not_true, if_false]
 ·
  simp only [ne_eq, h1, not_false_eq_true, if_true]
theorem of_back {s : List UInt8} {q : Hd} (h : ofH s = (q, 0)) : checkH q = 0 ∧ s = enH q := by
 by_cases hl : 256 < s.length
 ·
  unfold ofH at h; rw [if_pos hl] at h; simp at h
 rw [ofH_eq s hl] at h
 by_cases h1 : endE (rdH (s, 0)).2 = 0
 case neg =>
  rw [if_pos h1] at h
  exact absurd (congrArg Prod.snd h) h1
 rw [if_neg (fun hh => hh h1)] at h
 by_cases h2 : checkH (rdH (s, 0)).1 = 0
 case neg =>
  rw [if_pos h2] at h
  exact absurd (congrArg Prod.snd h) h2
 rw [if_neg (fun hh => hh h2)] at h
 have hq : (rdH (s, 0)).1 = q := congrArg Prod.fst h
 rw [hq] at h2
 refine ⟨h2, ?_⟩
 unfold endE at h1
 have h3 : (rdH (s, 0)).2.2 = 0 := by
  by_cases a : (rdH (s, 0)).2.2 = 0
  ·
   exact a
  ·
   rw [if_pos a] at h1; exact h1
 rw [if_neg (fun hh => hh h3)] at h1
 have h4 : (rdH (s, 0)).2.1 = [] := by
  by_cases a : (rdH (s, 0)).2.1 = []
  ·
   exact a
  ·
   rw [if_neg a] at h1; cases h1
 have k := back_H (s, 0) h3
 rw [h4, List.append_nil, hq] at k
 exact congrArg Prod.fst k
theorem of_err {s : List UInt8} {q : Hd} {e : Int} (h : ofH s = (q, e)) (he : e ≠ 0) : q = zhd := by
 by_cases hl : 256 < s.length
 ·
  unfold ofH at h; rw [if_pos hl] at h; exact (congrArg Prod.fst h).symm
 rw [ofH_eq s hl] at h
 by_cases h1 : endE (rdH (s, 0)).2 = 0
 case neg => rw [if_pos h1] at h; exact (congrArg Prod.fst h).symm
 rw [if_neg (fun hh => hh h1)] at h
 by_cases h2 : checkH (rdH (s, 0)).1 = 0
 case neg => rw [if_pos h2] at h; exact (congrArg Prod.fst h).symm
 rw [if_neg (fun hh => hh h2)] at h
 exact absurd (congrArg Prod.snd h).symm he

/-! An order. -/
theorem ahead_iff {x y : Int} {a b : List UInt8} : aheadB x a y b = true ↔ x < y ∨ (x = y ∧ cmpL a b < 0) := by
 unfold aheadB; simp
theorem ahead_anti {x y : Int} {a b : List UInt8} (h : aheadB x a y b = true) : aheadB y b x a = false := by
 rw [← Bool.not_eq_true, ahead_iff]
 rw [ahead_iff] at h
 have := ids.cmpL_neg a b
 omega
theorem ahead_trans {x y z : Int} {a b c : List UInt8} (h1 : aheadB x a y b = true) (h2 : aheadB y b z c = true) : aheadB x a z c = true := by
 rw [ahead_iff] at *
 have := ids.cmpL_trans a b c
 rcases h1 with h1 | ⟨h1, h1'⟩ <;> rcases h2 with h2 | ⟨h2, h2'⟩
 ·
  left; omega
 ·
  left; omega
 ·
  left; omega
 ·
  right; exact ⟨by omega, this h1' h2'⟩
theorem ahead_total (x y : Int) (a b : List UInt8) : (aheadB x a y b || aheadB y b x a) = !(decide (x = y) && decide (a = b)) := by
 by_cases h : x = y ∧ a = b
 ·
  obtain ⟨rfl, rfl⟩ := h
  have : aheadB x a x a = false := by
   rw [← Bool.not_eq_true, ahead_iff, ids.cmpL_self]; omega
  rw [this]; simp
 ·
  have h2 : (aheadB x a y b || aheadB y b x a) = true := by
   rw [Bool.or_eq_true, ahead_iff, ahead_iff]
   have h0 := ids.cmpL_neg a b
   have h3 := ids.cmpL_zero a b
   rcases Int.lt_trichotomy x y with c | c | c
   ·
    exact .inl (.inl c)
   ·
    by_cases hab : a = b
    ·
     exact absurd ⟨c, hab⟩ h
    ·
     have : cmpL a b ≠ 0 := fun e => hab (h3 e)
     rcases Int.lt_or_gt_of_ne this with d | d
     ·
      exact .inl (.inr ⟨c, d⟩)
     ·
      exact .inr (.inr ⟨c.symm, by omega⟩)
   ·
    exact .inr (.inl c)
  rw [h2]
  have : ¬ (decide (x = y) && decide (a = b)) = true := by simpa using h
  simp only [Bool.not_eq_true] at this
  rw [this]; rfl
end Go.Proofs.YtpeneeddfgmjpaaGreatDoor.hdr

namespace Go.Proofs.YtpeneeddfgmjpaaGreatDoor.opn
open Go.RowKit

theorem rdN_nonneg (b : Nat) (st : St) : 0 ≤ (rdN b st).1 := num_nonneg _
theorem rd_len (n : Nat) (st : St) : (rd n st).1.length = 0 ∨ (rd n st).1.length = n := by
 unfold rd
 repeat' split
 ·
  exact .inl rfl
 ·
  exact .inl rfl
 ·
  right; rw [List.length_take]; omega
theorem rdN1_lt (st : St) : (rdN 1 st).1 < 256 := by
 show num (rd 1 st).1 < 256
 rcases rd_len 1 st with h | h
 ·
  rw [List.eq_nil_of_length_eq_zero h]; decide
 ·
  match (rd 1 st).1, h with
  | [b], _ =>
   have := b.toNat_lt
   simp only [num, List.foldl_cons, List.foldl_nil]; omega
theorem rdN4_lt (st : St) : (rdN 4 st).1 < 4294967296 := by
 show num (rd 4 st).1 < 4294967296
 rcases rd_len 4 st with h | h
 ·
  rw [List.eq_nil_of_length_eq_zero h]; decide
 ·
  match (rd 4 st).1, h with
  | [a, b, c, d], _ =>
   have := a.toNat_lt
   have := b.toNat_lt
   have := c.toNat_lt
   have := d.toNat_lt
   simp only [num, List.foldl_cons, List.foldl_nil]; omega
theorem rdN2_lt (st : St) : (rdN 2 st).1 < 65536 := by
 show num (rd 2 st).1 < 65536
 rcases rd_len 2 st with h | h
 ·
  rw [List.eq_nil_of_length_eq_zero h]; decide
 ·
  match (rd 2 st).1, h with
  | [a, b], _ =>
   have := a.toNat_lt
   have := b.toNat_lt
   simp only [num, List.foldl_cons, List.foldl_nil]; omega
end Go.Proofs.YtpeneeddfgmjpaaGreatDoor.opn

namespace Go.Proofs.YtpeneeddfgmjpaaGreatDoor.opn
open Go.RowKit Go.Proofs.YtpeneeddfgmjpaaGreatDoor.mem Go.Proofs.YtpeneeddfgmjpaaGreatDoor.sha Go.Proofs.YtpeneeddfgmjpaaGreatDoor.ids

/-- the first k bytes, and zeros -/
def xAcc (t : List UInt8) (k : Nat) : List UInt8 := t.take k ++ List.replicate (32 - k) 0
theorem xAcc_len (t : List UInt8) (k : Nat) (h : k ≤ t.length) (hk : k ≤ 32) : (xAcc t k).length = 32 := by
 unfold xAcc
 rw [List.length_append, List.length_take, List.length_replicate]; omega
theorem xAcc_set (t : List UInt8) (k : Nat) (h : k < t.length) (hk : k < 32) : (xAcc t k).set k (t.getD k 0) = xAcc t (k + 1) := by
 unfold xAcc
 have hl : (t.take k).length = k := by rw [List.length_take]; omega
 rw [List.set_append_right _ _ (by rw [hl]; exact Nat.le_refl _), hl, Nat.sub_self, show 32 - k = (32 - (k + 1)) + 1 by omega, List.replicate_succ, List.set_cons_zero, List.take_succ_eq_append_getElem h, List.append_assoc, List.getD_eq_getElem?_getD, List.getElem?_eq_getElem h]
 rfl
theorem byte_set {w : World} {S : Nat} {t : TypeId} {l : List UInt8} (h : Blk w S t (bv l).toArray) (j : Nat) (c : UInt8) : Blk (w.setCell ⟨S, j, none⟩ (.int .u8 (B c))) S t (bv (l.set j c)).toArray := by
 have := h.set_ j (.int .u8 (B c))
 rw [List.setIfInBounds_toArray] at this
 unfold bv at this ⊢
 rw [List.map_set]
 exact this
theorem zid_len : zid.length = 32 := by simp [zid]
theorem xAcc_zero (t : List UInt8) : xAcc t 0 = zid := rfl
theorem xAcc_end (t : List UInt8) (h : t.length = 0 ∨ t.length = 32) : xAcc t t.length = mkId t := by
 unfold mkId
 rcases h with h | h
 ·
  rw [List.eq_nil_of_length_eq_zero h, if_pos rfl]; rfl
 ·
  rw [if_neg (fun e => by rw [e] at h; simp at h)]
  unfold xAcc
  rw [h, Nat.sub_self, List.replicate_zero, List.append_nil, ← h, List.take_length]
end Go.Proofs.YtpeneeddfgmjpaaGreatDoor.opn

namespace Go.Proofs.YtpeneeddfgmjpaaGreatDoor.opn
open Go.RowKit Go.Proofs.YtpeneeddfgmjpaaGreatDoor.mem Go.Proofs.YtpeneeddfgmjpaaGreatDoor.sha Go.Proofs.YtpeneeddfgmjpaaGreatDoor.ids

theorem mkId_len (s : List UInt8) (h : s.length = 0 ∨ s.length = 32) : (mkId s).length = 32 := by
 unfold mkId
 rcases h with h | h
 ·
  rw [if_pos (List.eq_nil_of_length_eq_zero h)]; exact zid_len
 ·
  rw [if_neg (fun e => by rw [e] at h; simp at h)]; exact h
theorem rdI_len (st : St) : (rdI st).1.length = 32 := mkId_len _ (rd_len 32 st)
theorem rdL_ok : ∀ (n : Nat) (st : St), okIds (rdL n st).1
 | 0, _ => okIds.nil
 | n + 1, st => fun x hx => by
  rcases List.mem_cons.1 hx with rfl | h
  ·
   exact rdI_len st
  ·
   exact rdL_ok n _ x h
end Go.Proofs.YtpeneeddfgmjpaaGreatDoor.opn

namespace Go.Proofs.YtpeneeddfgmjpaaGreatDoor.mem
open Go.RowKit

/-- 'append(v, x..)': the new bytes lie in the block that the statement has just laid -/
theorem wp_append_new {ops : Array Oper} {rest : List Oper} {o : Oper} {a : Act} {Q : Exit → Act → World → Prop} (hgd : o.guard = none) (s x : Operand)
  (ho : o.op = .call { callee := .builtin .append, args := #[s, x], argTypes := #[42, 42] })
  (F : Nat → Prop) (w0 : World) (v : Value) (n : Nat) (xs : List Value) (hs : a.eval s = v) (hown : Owns w0 F v n xs) (news : List Value) (k : Nat)
  (hx : a.eval x = .slice (some ⟨w0.heap.size, 0, none⟩) k k) (hl : news.length = k * 1) (h1 : ∀ u ∈ news, u.oneCell' = true) (hlen : n + k ≤ 140737488355328) (hn : New F w0)
  (h : ∀ v' w', Owns w' F v' (n + k) (xs ++ news) → Turn F w0 w' → wpList Tryz.prog ops Q rest (a.put o.dst v') w') : wpList Tryz.prog ops Q (o :: rest) a (w0.alloc (.cells news.toArray 5)) := by
 obtain ⟨i0, hi, hz0, hz1, hz2⟩ := info_parts info5
 refine wpList_append_own_at (w0.alloc (.cells news.toArray 5)) hgd s x 42 ho 0 5 i0 (.int .u8 0) 1 1 Tryz.underlying42 hi hz0 hz1 hz2 rfl (by decide) v n xs hs (hown.1.alloc _) ⟨w0.heap.size, 0, none⟩ k k news hx hl
  (new_cells w0 5 news) h1 (by unfold maxLen; omega) (by omega) (Nat.zero_le _) ?_
 intro v' w' ho' hg _ hat
 refine h v' w' ⟨ho', fun b hb => ?_⟩ (((Turn.refl F w0).alloc hn _).trans (Turn.grown hg hown.2 (hn.alloc _)))
 rcases hat with e | e <;> rw [e] at hb
 ·
  exact hown.2 b hb
 ·
  injection hb with hb
  subst hb
  exact hn _ (by simp)

theorem string_at {w w' : World} {i : TypeInfo} (hi : Tryz.prog.info? 5 = some i) (hz : i.zero = some (.int .u8 0)) (hsize : i.size = 1) (hby : i.bytes = 1) {ty : TypeId}
  {v v' : Value} {n : Nat} {xs : List Value} (hown : w.ownsRow 0 5 1 v n xs) {s : ByteArray} (hbytes : n + s.size ≤ 140737488355328)
  (hr : (Builtin.append_ #[42, 9] ty #[v, .string s]).run Tryz.prog w = .ok v' w') (h4 : v' = .slice none 0 0 ↔ v = .slice none 0 0 ∧ s.size = 0) :
  v'.ownBlock = v.ownBlock ∨ v'.ownBlock = some w.heap.size := by
 have hxl : xs.length = n := by simpa using hown.1
 rcases hown.2 with ⟨rfl, rfl⟩ | ⟨g, cap, cur, rfl, hbg, hg, hnc, hcm, hcs, htake⟩
 ·
  by_cases hm : s.size = 0
  ·
   rw [h4.2 ⟨rfl, hm⟩]; exact .inl rfl
  ·
   have h2 := run_append_nil_string (P := Tryz.prog) w 42 9 ty 5 i (.int .u8 0) Tryz.underlying42 Tryz.underlying9 hi hz s (by omega) (by omega) (by rw [hby]; omega)
   rw [h2] at hr
   injection hr with hr _
   subst hr
   exact .inr rfl
 ·
  by_cases hroom : n + s.size ≤ cap
  ·
   have hcs' : cur.size = cap := by simpa using hcs
   have h2 := Lib.run_append_room_string (P := Tryz.prog) w 42 9 ty 5 i Tryz.underlying42 Tryz.underlying9 hi hsize g n cap cur hg s hroom (by omega)
   rw [h2] at hr
   injection hr with hr _
   subst hr
   exact .inl rfl
  ·
   have holds : ∀ j u, xs[j]? = some u → w.cell? ((⟨g, 0, none⟩ : Addr).add j) = some u := hown.cells (g := g) rfl
   have h2 := Lib.run_append_grow_string (P := Tryz.prog) w 42 9 ty 5 i (.int .u8 0) Tryz.underlying42 Tryz.underlying9 hi hz ⟨g, 0, none⟩ n cap xs (by rw [hsize]; simpa using hxl) holds s (by omega) (by omega) (by rw [hby]; exact growslice_fits (by omega) (by omega))
   rw [h2] at hr
   injection hr with hr _
   subst hr
   exact .inr rfl

/-- 'append(v, s...)', s a string -/
theorem wp_append_str {ops : Array Oper} {rest : List Oper} {o : Oper} {a : Act} {Q : Exit → Act → World → Prop} (hgd : o.guard = none) (sl x : Operand)
  (ho : o.op = .call { callee := .builtin .append, args := #[sl, x], argTypes := #[42, 9] })
  (F : Nat → Prop) (w0 : World) (v : Value) (n : Nat) (xs : List Value) (hs : a.eval sl = v) (hown : Owns w0 F v n xs) (s : ByteArray) (hx : a.eval x = .string s) (hlen : n + s.size ≤ 140737488355328) (hn : New F w0)
  (h : ∀ v' w', Owns w' F v' (n + s.size) (xs ++ Lib.strCells s) → Turn F w0 w' → wpList Tryz.prog ops Q rest (a.put o.dst v') w') : wpList Tryz.prog ops Q (o :: rest) a w0 := by
 obtain ⟨i, hi, hz, hsize, hby⟩ := info_parts info5
 refine wpList_plain hgd fun K hK => ?_
 obtain ⟨v', w', hr, h2, h3, h4⟩ := Lib.run_append_own_string (P := Tryz.prog) w0 0 42 9 o.type 5 i Tryz.underlying42 Tryz.underlying9 hi hz hsize hby v n xs hown.1 s (by unfold maxLen; omega) hlen (Nat.zero_le _)
 have hat := string_at hi hz hsize hby hown.1 hlen hr h4
 unfold Oper.wp execOp
 simp only [ho, resolve, invoke, builtin, Sem.run_bind, Sem.run_pure, Result.andThen_ok, List.map_toArray, List.map_cons, List.map_nil, hs, hx, hr]
 refine hK _ _ (h v' w' ⟨h2, fun b hb => ?_⟩ (Turn.grown h3 hown.2 hn))
 rcases hat with e | e <;> rw [e] at hb
 ·
  exact hown.2 b hb
 ·
  injection hb with hb
  subst hb
  exact hn _ (Nat.le_refl _)

def bCells (l : List UInt8) : List Value := l.map fun b => Value.int .u8 b.toNat
theorem bCells_append (a b : List UInt8) : bCells (a ++ b) = bCells a ++ bCells b := List.map_append
theorem strCells_eq (s : ByteArray) : Lib.strCells s = bCells s.data.toList := rfl

theorem Owns.string {w : World} {F : Nat → Prop} {v : Value} {out : List UInt8} (h : Owns w F v out.length (bCells out)) :
  (convert 42 9 v).run Tryz.prog w = .ok (.string ⟨out.toArray⟩) w := by
 rcases h.1.2 with ⟨rfl, h0⟩ | ⟨g', cap, cur, rfl, _, hh, _⟩
 ·
  have e : out = [] := List.eq_nil_of_length_eq_zero h0
  subst e
  exact run_convert_bytes_nil w 42 5 Tryz.underlying42 Tryz.underlying5 0 0 9 Tryz.underlying9
 ·
  refine run_convert_bytes_back w 42 9 5 ⟨g', 0, none⟩ cap out Tryz.underlying42 Tryz.underlying5 Tryz.underlying9 fun j hj => ?_
  exact h.1.cells (g := g') rfl j _ (by simp [bCells, List.getElem?_eq_getElem hj])

end Go.Proofs.YtpeneeddfgmjpaaGreatDoor.mem

namespace Go.Proofs.YtpeneeddfgmjpaaGreatDoor.oct
open Go.RowKit Go.Proofs.YtpeneeddfgmjpaaGreatDoor.mem

/-- is there a number of so many bytes? -/
def sz (n : Int) : Bool := n == 1 || (n == 2 || n == 4)

/-- the byte that a number's lowest eight bits are -/
def byte (x : Int) : UInt8 := UInt8.ofNat x.toNat
theorem byte_cell (x : Int) (h : 0 ≤ x) : Value.int .u8 (byte x).toNat = .int .u8 (x % 256) := by
 unfold byte
 have : (((UInt8.ofNat x.toNat).toNat : Nat) : Int) = x % 256 := by rw [UInt8.toNat_ofNat']; omega
 rw [this]
/-- a number's bytes, the highest first -/
def be (n b : Int) : List UInt8 := if b = 1 then [byte n] else if b = 2 then [byte (n / 256), byte n] else [byte (n / 16777216), byte (n / 65536), byte (n / 256), byte n]
theorem be1 (n : Int) (h0 : 0 ≤ n) : bCells (be n 1) = [.int .u8 (n % 256)] := by
 simp only [be, if_true, bCells, List.map_cons, List.map_nil, byte_cell n h0]
theorem be2 (n : Int) (h0 : 0 ≤ n) (h1 : n < 65536) : bCells (be n 2) = [.int .u8 (n / 256), .int .u8 (n % 256)] := by
 have e : n / 256 % 256 = n / 256 := by omega
 simp only [be, if_true, bCells, List.map_cons, List.map_nil, byte_cell n h0, byte_cell (n / 256) (by omega), e, show (2 : Int) ≠ 1 from by decide, if_false]
theorem be4 (n : Int) (h0 : 0 ≤ n) (h1 : n < 4294967296) : bCells (be n 4) = [.int .u8 (n / 16777216), .int .u8 (n / 65536 % 256), .int .u8 (n / 256 % 256), .int .u8 (n % 256)] := by
 have e : n / 16777216 % 256 = n / 16777216 := by omega
 simp only [be, bCells, List.map_cons, List.map_nil, byte_cell n h0, byte_cell (n / 256) (by omega), byte_cell (n / 65536) (by omega), byte_cell (n / 16777216) (by omega), e, show (4 : Int) ≠ 1 from by decide, show (4 : Int) ≠ 2 from by decide, if_false]

/-- the error with which a number is refused; 0: none -/
def numErr (n b : Int) : Int := if sz b = false then 1 else if n < 0 ∨ (if b = 1 then 256 else if b = 2 then 65536 else 4294967296) ≤ n then 5 else 0
def wNum (st : List UInt8 × Int) (n b : Int) : List UInt8 × Int := if st.2 ≠ 0 then st else if numErr n b ≠ 0 then ([], numErr n b) else (st.1 ++ be n b, 0)

def textBytes (s : ByteArray) : List UInt8 := be s.size 2 ++ s.data.toList

def wText (st : List UInt8 × Int) (s : ByteArray) : List UInt8 × Int := if st.2 ≠ 0 then st else if 65535 < s.size then ([], 3) else (st.1 ++ textBytes s, 0)
def wRaw (st : List UInt8 × Int) (s : ByteArray) : List UInt8 × Int := if st.2 ≠ 0 then st else (st.1 ++ s.data.toList, 0)
def wDone (st : List UInt8 × Int) : ByteArray × Int := if st.2 ≠ 0 then (⟨#[]⟩, st.2) else (⟨st.1.toArray⟩, 0)

/-- the number that some bytes are, the highest first -/
def num (l : List UInt8) : Int := l.foldl (fun (a : Int) b => a * 256 + b.toNat) 0

theorem u8_lt (b : UInt8) : (b.toNat : Int) < 256 := by have := b.toNat_lt; omega
theorem u8_ge (b : UInt8) : 0 ≤ (b.toNat : Int) := by omega

/-- the bytes that are left behind n, and what take answers -/
def rTake (st : ByteArray × Int) (n : Int) : ByteArray × (ByteArray × Int) :=
 if st.2 ≠ 0 then (⟨#[]⟩, st) else if n < 0 then (⟨#[]⟩, (⟨#[]⟩, 1)) else if (st.1.size : Int) < n then (⟨#[]⟩, (⟨#[]⟩, 2)) else (st.1.extract 0 n.toNat, (st.1.extract n.toNat st.1.size, 0))

def rNum (st : ByteArray × Int) (b : Int) : Int × (ByteArray × Int) :=
 if sz b = false then (0, if st.2 ≠ 0 then st else (⟨#[]⟩, 1)) else (num (rTake st b).1.data.toList, (rTake st b).2)
def rText (st : ByteArray × Int) (most : Int) : ByteArray × (ByteArray × Int) :=
 if most < (rNum st 2).1 then (⟨#[]⟩, if (rNum st 2).2.2 ≠ 0 then (rNum st 2).2 else (⟨#[]⟩, 3)) else rTake (rNum st 2).2 (rNum st 2).1

def rLeft (st : ByteArray × Int) : Int := if st.2 ≠ 0 then 0 else st.1.size
def rEnd (st : ByteArray × Int) : Int := if st.2 ≠ 0 then st.2 else if st.1.data.toList.isEmpty then 0 else 4
theorem byte_toNat (x : Int) (h : 0 ≤ x) : ((byte x).toNat : Int) = x % 256 := by
 unfold byte
 rw [UInt8.toNat_ofNat']; omega

theorem numErr_ok {n b : Int} (h : numErr n b = 0) : (b = 1 ∧ 0 ≤ n ∧ n < 256) ∨ (b = 2 ∧ 0 ≤ n ∧ n < 65536) ∨ (b = 4 ∧ 0 ≤ n ∧ n < 4294967296) := by
 unfold numErr at h
 by_cases hs : sz b = false
 ·
  rw [if_pos hs] at h; omega
 ·
  rw [if_neg hs] at h
  have hb : b = 1 ∨ b = 2 ∨ b = 4 := by simp [sz] at hs; omega
  by_cases hr : n < 0 ∨ (if b = 1 then 256 else if b = 2 then 65536 else 4294967296) ≤ n
  ·
   rw [if_pos hr] at h; omega
  ·
   rcases hb with rfl | rfl | rfl
   ·
    rw [if_pos rfl] at hr; omega
   ·
    rw [if_neg (by decide), if_pos rfl] at hr; omega
   ·
    rw [if_neg (by decide), if_neg (by decide)] at hr; omega

theorem num_be {n b : Int} (h : numErr n b = 0) : num (be n b) = n ∧ ((be n b).length : Int) = b ∧ sz b = true := by
 rcases numErr_ok h with ⟨rfl, h0, h1⟩ | ⟨rfl, h0, h1⟩ | ⟨rfl, h0, h1⟩
 ·
  refine ⟨?_, rfl, rfl⟩
  simp only [be, if_true, num, List.foldl_cons, List.foldl_nil, byte_toNat n h0]
  omega
 ·
  refine ⟨?_, rfl, rfl⟩
  simp only [be, if_true, num, List.foldl_cons, List.foldl_nil, byte_toNat n h0, byte_toNat (n / 256) (by omega), show (2 : Int) ≠ 1 from by decide, if_false]
  omega
 ·
  refine ⟨?_, rfl, rfl⟩
  simp only [be, num, List.foldl_cons, List.foldl_nil, byte_toNat n h0, byte_toNat (n / 256) (by omega), byte_toNat (n / 65536) (by omega), byte_toNat (n / 16777216) (by omega), show (4 : Int) ≠ 1 from by decide, show (4 : Int) ≠ 2 from by decide, if_false]
  omega

/-- bytes as a text -/
def tx (l : List UInt8) : ByteArray := ⟨l.toArray⟩
theorem tx_size (l : List UInt8) : (tx l).size = l.length := by
 show l.toArray.size = _
 simp
theorem tx_list (l : List UInt8) : (tx l).data.toList = l := by simp [tx]
theorem tx_eta (s : ByteArray) : tx s.data.toList = s := by
 cases s; simp [tx]
theorem bytes_ext {a b : ByteArray} (h : a.data.toList = b.data.toList) : a = b := by
 rw [← tx_eta a, ← tx_eta b, h]
theorem tx_extract (l : List UInt8) (i j : Nat) : (tx l).extract i j = tx ((l.take j).drop i) := by
 apply bytes_ext
 rw [tx_list, ByteArray.data_extract, Array.toList_extract]
 simp [tx, List.drop_take]
theorem numErr_size (s : ByteArray) (h : s.size ≤ 65535) : numErr s.size 2 = 0 := by
 have hs : sz 2 = true := rfl
 unfold numErr
 rw [if_neg (by simp [hs]), if_neg (by simp; omega)]
theorem be_len (n b : Int) : (be n b).length ≤ 4 := by
 unfold be
 split
 ·
  simp
 ·
  split
  ·
   simp
  ·
   simp
end Go.Proofs.YtpeneeddfgmjpaaGreatDoor.oct

namespace Go.Proofs.YtpeneeddfgmjpaaGreatDoor.oct
open Go.RowKit Go.Proofs.YtpeneeddfgmjpaaGreatDoor.mem

theorem refnum_size (n b : Int) (w : World) (hb : sz b = false) :
  Calls Tryz.prog 98 #[.int .i64 n, .int .i64 b] w fun e w' => e = .returned (.tuple #[.string ⟨#[]⟩, .int .i64 1]) ∧ Below w.heap.size w w' := by
 have h3 : b ≠ 1 ∧ b ≠ 2 ∧ b ≠ 4 := by simp [sz] at hb; omega
 obtain ⟨h1, h2, h4⟩ := h3
 have d1 : (b != 1) = true := by simpa using h1
 have d2 : (b != 2) = true := by simpa using h2
 have d4 : (b != 4) = true := by simpa using h4
 clear h1 h2 h4 hb
 go_enter Tryz.func98, Tryz.ntmps98
 go_wp2
 go_ret2
 exact ⟨rfl, Below.refl _ _⟩

theorem refnum_neg1 (n : Int) (w : World) (h0 : n < 0) :
  Calls Tryz.prog 98 #[.int .i64 n, .int .i64 1] w fun e w' => e = .returned (.tuple #[.string ⟨#[]⟩, .int .i64 5]) ∧ Below w.heap.size w w' := by
 go_enter Tryz.func98, Tryz.ntmps98
 go_wp2
 go_loop [6, 7] (fun m i => (m = .int .i64 256 ∧ i = .int .i64 1)) (fun _ i => 1 - (intOf i).toNat)
 case atStart => exact ⟨rfl, rfl⟩
 case round =>
  obtain ⟨rfl, rfl⟩ := hrel
  go_wp2
  go_ret2
  exact ⟨rfl, Below.refl _ _⟩

theorem refnum_wide1 (n : Int) (w : World) (h0 : 256 ≤ n) :
  Calls Tryz.prog 98 #[.int .i64 n, .int .i64 1] w fun e w' => e = .returned (.tuple #[.string ⟨#[]⟩, .int .i64 5]) ∧ Below w.heap.size w w' := by
 have hng : ¬ n < 0 := by omega
 go_enter Tryz.func98, Tryz.ntmps98
 go_wp2
 go_loop [6, 7] (fun m i => (m = .int .i64 256 ∧ i = .int .i64 1)) (fun _ i => 1 - (intOf i).toNat)
 case atStart => exact ⟨rfl, rfl⟩
 case round =>
  obtain ⟨rfl, rfl⟩ := hrel
  go_wp2
  go_ret2
  exact ⟨rfl, Below.refl _ _⟩

theorem refnum_neg2 (n : Int) (w : World) (h0 : n < 0) :
  Calls Tryz.prog 98 #[.int .i64 n, .int .i64 2] w fun e w' => e = .returned (.tuple #[.string ⟨#[]⟩, .int .i64 5]) ∧ Below w.heap.size w w' := by
 go_enter Tryz.func98, Tryz.ntmps98
 go_wp2
 go_loop [6, 7] (fun m i => (m = .int .i64 256 ∧ i = .int .i64 1) ∨ (m = .int .i64 65536 ∧ i = .int .i64 2)) (fun _ i => 2 - (intOf i).toNat)
 case atStart => exact .inl ⟨rfl, rfl⟩
 case round =>
  rcases hrel with ⟨rfl, rfl⟩ | ⟨rfl, rfl⟩
  ·
   go_wp2
   go_round
   case rel => exact .inr (⟨rfl, rfl⟩)
   case measure => simp [intOf]
  ·
   go_wp2
   go_ret2
   exact ⟨rfl, Below.refl _ _⟩

theorem refnum_wide2 (n : Int) (w : World) (h0 : 65536 ≤ n) :
  Calls Tryz.prog 98 #[.int .i64 n, .int .i64 2] w fun e w' => e = .returned (.tuple #[.string ⟨#[]⟩, .int .i64 5]) ∧ Below w.heap.size w w' := by
 have hng : ¬ n < 0 := by omega
 go_enter Tryz.func98, Tryz.ntmps98
 go_wp2
 go_loop [6, 7] (fun m i => (m = .int .i64 256 ∧ i = .int .i64 1) ∨ (m = .int .i64 65536 ∧ i = .int .i64 2)) (fun _ i => 2 - (intOf i).toNat)
 case atStart => exact .inl ⟨rfl, rfl⟩
 case round =>
  rcases hrel with ⟨rfl, rfl⟩ | ⟨rfl, rfl⟩
  ·
   go_wp2
   go_round
   case rel => exact .inr (⟨rfl, rfl⟩)
   case measure => simp [intOf]
  ·
   go_wp2
   go_ret2
   exact ⟨rfl, Below.refl _ _⟩

theorem refnum_neg4 (n : Int) (w : World) (h0 : n < 0) :
  Calls Tryz.prog 98 #[.int .i64 n, .int .i64 4] w fun e w' => e = .returned (.tuple #[.string ⟨#[]⟩, .int .i64 5]) ∧ Below w.heap.size w w' := by
 go_enter Tryz.func98, Tryz.ntmps98
 go_wp2
 go_loop [6, 7] (fun m i => (m = .int .i64 256 ∧ i = .int .i64 1) ∨ (m = .int .i64 65536 ∧ i = .int .i64 2) ∨ (m = .int .i64 16777216 ∧ i = .int .i64 3) ∨ (m = .int .i64 4294967296 ∧ i = .int .i64 4)) (fun _ i => 4 - (intOf i).toNat)
 case atStart => exact .inl ⟨rfl, rfl⟩
 case round =>
  rcases hrel with ⟨rfl, rfl⟩ | ⟨rfl, rfl⟩ | ⟨rfl, rfl⟩ | ⟨rfl, rfl⟩
  ·
   go_wp2
   go_round
   case rel => exact .inr (.inl ⟨rfl, rfl⟩)
   case measure => simp [intOf]
  ·
   go_wp2
   go_round
   case rel => exact .inr (.inr (.inl ⟨rfl, rfl⟩))
   case measure => simp [intOf]
  ·
   go_wp2
   go_round
   case rel => exact .inr (.inr (.inr (⟨rfl, rfl⟩)))
   case measure => simp [intOf]
  ·
   go_wp2
   go_ret2
   exact ⟨rfl, Below.refl _ _⟩

theorem refnum_wide4 (n : Int) (w : World) (h0 : 4294967296 ≤ n) :
  Calls Tryz.prog 98 #[.int .i64 n, .int .i64 4] w fun e w' => e = .returned (.tuple #[.string ⟨#[]⟩, .int .i64 5]) ∧ Below w.heap.size w w' := by
 have hng : ¬ n < 0 := by omega
 go_enter Tryz.func98, Tryz.ntmps98
 go_wp2
 go_loop [6, 7] (fun m i => (m = .int .i64 256 ∧ i = .int .i64 1) ∨ (m = .int .i64 65536 ∧ i = .int .i64 2) ∨ (m = .int .i64 16777216 ∧ i = .int .i64 3) ∨ (m = .int .i64 4294967296 ∧ i = .int .i64 4)) (fun _ i => 4 - (intOf i).toNat)
 case atStart => exact .inl ⟨rfl, rfl⟩
 case round =>
  rcases hrel with ⟨rfl, rfl⟩ | ⟨rfl, rfl⟩ | ⟨rfl, rfl⟩ | ⟨rfl, rfl⟩
  ·
   go_wp2
   go_round
   case rel => exact .inr (.inl ⟨rfl, rfl⟩)
   case measure => simp [intOf]
  ·
   go_wp2
   go_round
   case rel => exact .inr (.inr (.inl ⟨rfl, rfl⟩))
   case measure => simp [intOf]
  ·
   go_wp2
   go_round
   case rel => exact .inr (.inr (.inr (⟨rfl, rfl⟩)))
   case measure => simp [intOf]
  ·
   go_wp2
   go_ret2
   exact ⟨rfl, Below.refl _ _⟩

set_option maxRecDepth 100000 in
theorem refnum_good1 (n : Int) (w : World) (h0 : 0 ≤ n) (h1 : n < 256) :
  Calls Tryz.prog 98 #[.int .i64 n, .int .i64 1] w fun e w' => e = .returned (.tuple #[.string (tx (be n 1)), .int .i64 0]) ∧ Below w.heap.size w w' := by
 have hng : ¬ n < 0 := by omega
 have hge : ¬ 256 ≤ n := by omega
 have hmk : ∀ w : World, (Instr.makeSlice 42 (.int .i64 1) (.int .i64 1)).run Tryz.prog w = .ok (.slice (some ⟨w.heap.size, 0, none⟩) 1 1) (w.alloc (.cells #[.int .u8 0] 5)) := fun _ => by kernel_rfl
 have hcv : (convert 42 9 (.slice (some ⟨w.heap.size, 0, none⟩) 1 1)).run Tryz.prog (w.alloc (.cells #[.int .u8 (n % 256)] 5)) = .ok (.string (tx (be n 1))) (w.alloc (.cells #[.int .u8 (n % 256)] 5)) := by
  have hc : bCells (be n 1) = #[.int .u8 (n % 256)].toList := by rw [be1 n h0]
  have h := run_convert_bytes_back (P := Tryz.prog) (w.alloc (.cells #[.int .u8 (n % 256)] 5)) 42 9 5 ⟨w.heap.size, 0, none⟩ 1 (be n 1) Tryz.underlying42 Tryz.underlying5 Tryz.underlying9 (fun j hj => by
   have := new_cells w 5 (bCells (be n 1)) j _ (by simp [bCells, List.getElem?_eq_getElem hj]; rfl)
   rw [hc] at this
   exact this)
  exact h
 go_enter Tryz.func98, Tryz.ntmps98
 go_wp2
 go_loop [6, 7] (fun m i => (m = .int .i64 256 ∧ i = .int .i64 1)) (fun _ i => 1 - (intOf i).toNat)
 case atStart => exact ⟨rfl, rfl⟩
 case round =>
  obtain ⟨rfl, rfl⟩ := hrel
  go_wp2
  go_loopw [9, 10] (fun x i wr => (x = .int .i64 (n) ∧ i = .int .i64 (0) ∧ wr = w.alloc (.cells #[.int .u8 0] 5)) ∨ (x = .int .i64 (n / 256) ∧ i = .int .i64 (-1) ∧ wr = w.alloc (.cells #[.int .u8 (n % 256)] 5))) (fun _ i _ => (intOf i + 1).toNat)
  case atStart => exact .inl ⟨rfl, rfl, rfl⟩
  case round =>
   rcases hrel with ⟨rfl, rfl, rfl⟩ | ⟨rfl, rfl, rfl⟩
   ·
    go_wp2
    go_roundw
    case rel => exact .inr (⟨by first | rfl | (congr 1; omega), by first | rfl | simp, by first | trivial | rfl⟩)
    case measure => simp [intOf]
   ·
    go_wp2
    go_ret2
    exact ⟨rfl, (Below.refl _ _).alloc (Nat.le_refl _) _⟩

set_option maxRecDepth 100000 in
theorem refnum_good2 (n : Int) (w : World) (h0 : 0 ≤ n) (h1 : n < 65536) :
  Calls Tryz.prog 98 #[.int .i64 n, .int .i64 2] w fun e w' => e = .returned (.tuple #[.string (tx (be n 2)), .int .i64 0]) ∧ Below w.heap.size w w' := by
 have hng : ¬ n < 0 := by omega
 have hge : ¬ 65536 ≤ n := by omega
 have hmk : ∀ w : World, (Instr.makeSlice 42 (.int .i64 2) (.int .i64 2)).run Tryz.prog w = .ok (.slice (some ⟨w.heap.size, 0, none⟩) 2 2) (w.alloc (.cells #[.int .u8 0, .int .u8 0] 5)) := fun _ => by kernel_rfl
 have hcv : (convert 42 9 (.slice (some ⟨w.heap.size, 0, none⟩) 2 2)).run Tryz.prog (w.alloc (.cells #[.int .u8 (n / 256 % 256), .int .u8 (n % 256)] 5)) = .ok (.string (tx (be n 2))) (w.alloc (.cells #[.int .u8 (n / 256 % 256), .int .u8 (n % 256)] 5)) := by
  have hc : bCells (be n 2) = #[.int .u8 (n / 256 % 256), .int .u8 (n % 256)].toList := by rw [be2 n h0 h1]; simp; omega
  have h := run_convert_bytes_back (P := Tryz.prog) (w.alloc (.cells #[.int .u8 (n / 256 % 256), .int .u8 (n % 256)] 5)) 42 9 5 ⟨w.heap.size, 0, none⟩ 2 (be n 2) Tryz.underlying42 Tryz.underlying5 Tryz.underlying9 (fun j hj => by
   have := new_cells w 5 (bCells (be n 2)) j _ (by simp [bCells, List.getElem?_eq_getElem hj]; rfl)
   rw [hc] at this
   exact this)
  exact h
 go_enter Tryz.func98, Tryz.ntmps98
 go_wp2
 go_loop [6, 7] (fun m i => (m = .int .i64 256 ∧ i = .int .i64 1) ∨ (m = .int .i64 65536 ∧ i = .int .i64 2)) (fun _ i => 2 - (intOf i).toNat)
 case atStart => exact .inl ⟨rfl, rfl⟩
 case round =>
  rcases hrel with ⟨rfl, rfl⟩ | ⟨rfl, rfl⟩
  ·
   go_wp2
   go_round
   case rel => exact .inr (⟨rfl, rfl⟩)
   case measure => simp [intOf]
  ·
   go_wp2
   go_loopw [9, 10] (fun x i wr => (x = .int .i64 (n) ∧ i = .int .i64 (1) ∧ wr = w.alloc (.cells #[.int .u8 0, .int .u8 0] 5)) ∨ (x = .int .i64 (n / 256) ∧ i = .int .i64 (0) ∧ wr = w.alloc (.cells #[.int .u8 0, .int .u8 (n % 256)] 5)) ∨ (x = .int .i64 (n / 65536) ∧ i = .int .i64 (-1) ∧ wr = w.alloc (.cells #[.int .u8 (n / 256 % 256), .int .u8 (n % 256)] 5))) (fun _ i _ => (intOf i + 1).toNat)
   case atStart => exact .inl ⟨rfl, rfl, rfl⟩
   case round =>
    rcases hrel with ⟨rfl, rfl, rfl⟩ | ⟨rfl, rfl, rfl⟩ | ⟨rfl, rfl, rfl⟩
    ·
     go_wp2
     go_roundw
     case rel => exact .inr (.inl ⟨by first | rfl | (congr 1; omega), by first | rfl | simp, by first | trivial | rfl⟩)
     case measure => simp [intOf]
    ·
     go_wp2
     go_roundw
     case rel => exact .inr (.inr (⟨by first | rfl | (congr 1; omega), by first | rfl | simp, by first | trivial | rfl⟩))
     case measure => simp [intOf]
    ·
     go_wp2
     go_ret2
     exact ⟨rfl, (Below.refl _ _).alloc (Nat.le_refl _) _⟩

set_option maxRecDepth 100000 in
theorem refnum_good4 (n : Int) (w : World) (h0 : 0 ≤ n) (h1 : n < 4294967296) :
  Calls Tryz.prog 98 #[.int .i64 n, .int .i64 4] w fun e w' => e = .returned (.tuple #[.string (tx (be n 4)), .int .i64 0]) ∧ Below w.heap.size w w' := by
 have hng : ¬ n < 0 := by omega
 have hge : ¬ 4294967296 ≤ n := by omega
 have hmk : ∀ w : World, (Instr.makeSlice 42 (.int .i64 4) (.int .i64 4)).run Tryz.prog w = .ok (.slice (some ⟨w.heap.size, 0, none⟩) 4 4) (w.alloc (.cells #[.int .u8 0, .int .u8 0, .int .u8 0, .int .u8 0] 5)) := fun _ => by kernel_rfl
 have hcv : (convert 42 9 (.slice (some ⟨w.heap.size, 0, none⟩) 4 4)).run Tryz.prog (w.alloc (.cells #[.int .u8 (n / 16777216 % 256), .int .u8 (n / 65536 % 256), .int .u8 (n / 256 % 256), .int .u8 (n % 256)] 5)) = .ok (.string (tx (be n 4))) (w.alloc (.cells #[.int .u8 (n / 16777216 % 256), .int .u8 (n / 65536 % 256), .int .u8 (n / 256 % 256), .int .u8 (n % 256)] 5)) := by
  have hc : bCells (be n 4) = #[.int .u8 (n / 16777216 % 256), .int .u8 (n / 65536 % 256), .int .u8 (n / 256 % 256), .int .u8 (n % 256)].toList := by rw [be4 n h0 h1]; simp; omega
  have h := run_convert_bytes_back (P := Tryz.prog) (w.alloc (.cells #[.int .u8 (n / 16777216 % 256), .int .u8 (n / 65536 % 256), .int .u8 (n / 256 % 256), .int .u8 (n % 256)] 5)) 42 9 5 ⟨w.heap.size, 0, none⟩ 4 (be n 4) Tryz.underlying42 Tryz.underlying5 Tryz.underlying9 (fun j hj => by
   have := new_cells w 5 (bCells (be n 4)) j _ (by simp [bCells, List.getElem?_eq_getElem hj]; rfl)
   rw [hc] at this
   exact this)
  exact h
 go_enter Tryz.func98, Tryz.ntmps98
 go_wp2
 go_loop [6, 7] (fun m i => (m = .int .i64 256 ∧ i = .int .i64 1) ∨ (m = .int .i64 65536 ∧ i = .int .i64 2) ∨ (m = .int .i64 16777216 ∧ i = .int .i64 3) ∨ (m = .int .i64 4294967296 ∧ i = .int .i64 4)) (fun _ i => 4 - (intOf i).toNat)
 case atStart => exact .inl ⟨rfl, rfl⟩
 case round =>
  rcases hrel with ⟨rfl, rfl⟩ | ⟨rfl, rfl⟩ | ⟨rfl, rfl⟩ | ⟨rfl, rfl⟩
  ·
   go_wp2
   go_round
   case rel => exact .inr (.inl ⟨rfl, rfl⟩)
   case measure => simp [intOf]
  ·
   go_wp2
   go_round
   case rel => exact .inr (.inr (.inl ⟨rfl, rfl⟩))
   case measure => simp [intOf]
  ·
   go_wp2
   go_round
   case rel => exact .inr (.inr (.inr (⟨rfl, rfl⟩)))
   case measure => simp [intOf]
  ·
   go_wp2
   go_loopw [9, 10] (fun x i wr => (x = .int .i64 (n) ∧ i = .int .i64 (3) ∧ wr = w.alloc (.cells #[.int .u8 0, .int .u8 0, .int .u8 0, .int .u8 0] 5)) ∨ (x = .int .i64 (n / 256) ∧ i = .int .i64 (2) ∧ wr = w.alloc (.cells #[.int .u8 0, .int .u8 0, .int .u8 0, .int .u8 (n % 256)] 5)) ∨ (x = .int .i64 (n / 65536) ∧ i = .int .i64 (1) ∧ wr = w.alloc (.cells #[.int .u8 0, .int .u8 0, .int .u8 (n / 256 % 256), .int .u8 (n % 256)] 5)) ∨ (x = .int .i64 (n / 16777216) ∧ i = .int .i64 (0) ∧ wr = w.alloc (.cells #[.int .u8 0, .int .u8 (n / 65536 % 256), .int .u8 (n / 256 % 256), .int .u8 (n % 256)] 5)) ∨ (x = .int .i64 (n / 4294967296) ∧ i = .int .i64 (-1) ∧ wr = w.alloc (.cells #[.int .u8 (n / 16777216 % 256), .int .u8 (n / 65536 % 256), .int .u8 (n / 256 % 256), .int .u8 (n % 256)] 5))) (fun _ i _ => (intOf i + 1).toNat)
   case atStart => exact .inl ⟨rfl, rfl, rfl⟩
   case round =>
    rcases hrel with ⟨rfl, rfl, rfl⟩ | ⟨rfl, rfl, rfl⟩ | ⟨rfl, rfl, rfl⟩ | ⟨rfl, rfl, rfl⟩ | ⟨rfl, rfl, rfl⟩
    ·
     go_wp2
     go_roundw
     case rel => exact .inr (.inl ⟨by first | rfl | (congr 1; omega), by first | rfl | simp, by first | trivial | rfl⟩)
     case measure => simp [intOf]
    ·
     go_wp2
     go_roundw
     case rel => exact .inr (.inr (.inl ⟨by first | rfl | (congr 1; omega), by first | rfl | simp, by first | trivial | rfl⟩))
     case measure => simp [intOf]
    ·
     go_wp2
     go_roundw
     case rel => exact .inr (.inr (.inr (.inl ⟨by first | rfl | (congr 1; omega), by first | rfl | simp, by first | trivial | rfl⟩)))
     case measure => simp [intOf]
    ·
     go_wp2
     go_roundw
     case rel => exact .inr (.inr (.inr (.inr (⟨by first | rfl | (congr 1; omega), by first | rfl | simp, by first | trivial | rfl⟩))))
     case measure => simp [intOf]
    ·
     go_wp2
     go_ret2
     exact ⟨rfl, (Below.refl _ _).alloc (Nat.le_refl _) _⟩

def refNum (n b : Int) : ByteArray × Int := if numErr n b ≠ 0 then (⟨#[]⟩, numErr n b) else (tx (be n b), 0)
theorem refnum_any (n b : Int) (w : World) : Calls Tryz.prog 98 #[.int .i64 n, .int .i64 b] w fun e w' => e = .returned (.tuple #[.string (refNum n b).1, .int .i64 (refNum n b).2]) ∧ Below w.heap.size w w' := by
 by_cases hs : sz b = false
 ·
  have e : numErr n b = 1 := by unfold numErr; rw [if_pos hs]
  have e2 : refNum n b = (⟨#[]⟩, 1) := by unfold refNum; rw [e, if_pos (by decide)]
  rw [e2]
  exact refnum_size n b w hs
 ·
  have hb : b = 1 ∨ b = 2 ∨ b = 4 := by simp [sz] at hs; omega
  by_cases hng : n < 0
  ·
   have e : numErr n b = 5 := by unfold numErr; rw [if_neg hs, if_pos (.inl hng)]
   have e2 : refNum n b = (⟨#[]⟩, 5) := by unfold refNum; rw [e, if_pos (by decide)]
   rw [e2]
   rcases hb with rfl | rfl | rfl
   ·
    exact refnum_neg1 n w hng
   ·
    exact refnum_neg2 n w hng
   ·
    exact refnum_neg4 n w hng
  ·
   by_cases hw : (if b = 1 then 256 else if b = 2 then 65536 else 4294967296) ≤ n
   ·
    have e : numErr n b = 5 := by unfold numErr; rw [if_neg hs, if_pos (.inr hw)]
    have e2 : refNum n b = (⟨#[]⟩, 5) := by unfold refNum; rw [e, if_pos (by decide)]
    rw [e2]
    rcases hb with rfl | rfl | rfl
    ·
     exact refnum_wide1 n w (by simpa using hw)
    ·
     exact refnum_wide2 n w (by simpa using hw)
    ·
     exact refnum_wide4 n w (by simpa using hw)
   ·
    have e : numErr n b = 0 := by unfold numErr; rw [if_neg hs, if_neg (by rintro (h | h) <;> contradiction)]
    have e2 : refNum n b = (tx (be n b), 0) := by unfold refNum; rw [e, if_neg (by decide)]
    rw [e2]
    rcases hb with rfl | rfl | rfl
    ·
     exact refnum_good1 n w (by omega) (by simpa using hw)
    ·
     exact refnum_good2 n w (by omega) (by simpa using hw)
    ·
     exact refnum_good4 n w (by omega) (by simpa using hw)
end Go.Proofs.YtpeneeddfgmjpaaGreatDoor.oct

namespace Go.Proofs.YtpeneeddfgmjpaaGreatDoor.opn
open Go.RowKit Go.Proofs.YtpeneeddfgmjpaaGreatDoor.mem Go.Proofs.YtpeneeddfgmjpaaGreatDoor.sha

theorem tx_app (a b : List UInt8) : oct.tx a ++ oct.tx b = oct.tx (a ++ b) := by
 apply oct.bytes_ext
 rw [ByteArray.data_append, Array.toList_append, oct.tx_list, oct.tx_list, oct.tx_list]
theorem num1_r (n : Int) (h0 : 0 ≤ n) (h1 : n < 256) (w : World) : Calls Tryz.prog 98 #[.int .i64 n, .int .i64 1] w fun e w' => e = .returned (.tuple #[.string (oct.tx (b1 n)), .int .i64 0]) ∧ Below w.heap.size w w' := by
 have := oct.refnum_any n 1 w
 rw [show oct.refNum n 1 = (oct.tx (b1 n), 0) by
  unfold oct.refNum
  rw [if_neg (by unfold oct.numErr; rw [if_neg (by decide), if_neg (by simp; omega)]; decide)]
  rfl] at this
 exact this
theorem num4_r (n : Int) (h0 : 0 ≤ n) (h1 : n < 4294967296) (w : World) : Calls Tryz.prog 98 #[.int .i64 n, .int .i64 4] w fun e w' => e = .returned (.tuple #[.string (oct.tx (b4 n)), .int .i64 0]) ∧ Below w.heap.size w w' := by
 have := oct.refnum_any n 4 w
 rw [show oct.refNum n 4 = (oct.tx (b4 n), 0) by
  unfold oct.refNum
  rw [if_neg (by unfold oct.numErr; rw [if_neg (by decide), if_neg (by simp; omega)]; decide)]
  rfl] at this
 exact this

theorem num2_r (n : Int) (h0 : 0 ≤ n) (h1 : n < 65536) (w : World) : Calls Tryz.prog 98 #[.int .i64 n, .int .i64 2] w fun e w' => e = .returned (.tuple #[.string (oct.tx (b2 n)), .int .i64 0]) ∧ Below w.heap.size w w' := by
 have := oct.refnum_any n 2 w
 rw [show oct.refNum n 2 = (oct.tx (b2 n), 0) by
  unfold oct.refNum
  rw [if_neg (by unfold oct.numErr; rw [if_neg (by decide), if_neg (by simp; omega)]; decide)]
  rfl] at this
 exact this

end Go.Proofs.YtpeneeddfgmjpaaGreatDoor.opn

namespace Go.Proofs.YtpeneeddfgmjpaaGreatDoor.opn
open Go.RowKit Go.Proofs.YtpeneeddfgmjpaaGreatDoor.mem Go.Proofs.YtpeneeddfgmjpaaGreatDoor.sha Go.Proofs.YtpeneeddfgmjpaaGreatDoor.ids

theorem conv_one (w : World) (y : UInt8) : (convert 42 9 (.slice (some ⟨w.heap.size, 0, none⟩) 1 1)).run Tryz.prog (w.alloc (.cells #[.int .u8 (B y)] 5)) = .ok (.string (oct.tx [y])) (w.alloc (.cells #[.int .u8 (B y)] 5)) := by
 have h := run_convert_bytes_back (P := Tryz.prog) (w.alloc (.cells #[.int .u8 (B y)] 5)) 42 9 5 ⟨w.heap.size, 0, none⟩ 1 [y] Tryz.underlying42 Tryz.underlying5 Tryz.underlying9 (fun j hj => by
  obtain rfl : j = 0 := by simpa using hj
  exact new_cells w 5 (bCells [y]) 0 _ rfl)
 exact h
theorem tx_snoc (l : List UInt8) (y : UInt8) : oct.tx l ++ oct.tx [y] = oct.tx (l ++ [y]) := by
 apply oct.bytes_ext
 rw [ByteArray.data_append, Array.toList_append, oct.tx_list, oct.tx_list, oct.tx_list]
theorem flat_len {L : List (List UInt8)} (h : okIds L) : L.flatten.length = L.length * 32 := by
 induction L with
 | nil => rfl
 | cons x L ih =>
  rw [List.flatten_cons, List.length_append, h x List.mem_cons_self, ih fun y hy => h y (List.mem_cons_of_mem _ hy), List.length_cons]
  omega
theorem flat_step (L : List (List UInt8)) (i : Nat) (h : i < L.length) : (L.take (i + 1)).flatten = (L.take i).flatten ++ L.getD i [] := by
 rw [List.take_succ_eq_append_getElem h, List.flatten_append, List.getD_eq_getElem?_getD, List.getElem?_eq_getElem h]
 simp

set_option maxHeartbeats 2000000 in
set_option maxRecDepth 100000 in
theorem ids_any (L : List (List UInt8)) (ad : Option Addr) (n cap : Nat) (w : World) (hL : RdV w (.slice ad n cap) L) (hmax : L.length ≤ 255) :
  Calls Tryz.prog 72 #[.slice ad n cap] w fun e w' => e = .returned (.string (oct.tx (idl L))) ∧ Below w.heap.size w w' := by
 have hn := hL.len
 subst hn
 have e1 : oct.refNum L.length 1 = (oct.tx (b1 L.length), 0) := by
  unfold oct.refNum
  rw [if_neg (by unfold oct.numErr; rw [if_neg (by decide), if_neg (by simp; omega)]; decide)]
  rfl
 have HL := Lib.hid hL
 have E1 := Lib.hid e1
 have hOK := hL.1
 have HOK := Lib.hid hOK
 clear e1 hL hOK
 go_enter Tryz.func72, Tryz.ntmps72
 go_wp2_with (go_at_call 98; refine (oct.refnum_any L.length 1 _).mono ?_; rw [E1.out]; rintro e w1 ⟨rfl, hb1⟩; have HB1 := Lib.hid hb1; clear hb1)
 go_loopw [3, 5] (fun o i wr => ∃ k : Nat, k ≤ L.length ∧ i = .int .i64 k ∧ o = .string (oct.tx (b1 L.length ++ (L.take k).flatten)) ∧ Below w.heap.size w wr) (fun _ i _ => L.length - (intOf i).toNat)
 case atStart => exact ⟨0, Nat.zero_le _, rfl, by simp, HB1.out⟩
 case round =>
  clear HB1
  obtain ⟨k, hk, rfl, rfl, hB⟩ := hrel
  have HB := Lib.hid hB
  clear hB
  have k0 : (0 : Int) ≤ (k : Int) := Int.natCast_nonneg _
  by_cases hlt : k < L.length
  ·
   have kI : (k : Int) < (L.length : Int) := by omega
   have HFS := Lib.hid (flat_step L k hlt)
   obtain ⟨x, hx⟩ : ∃ x, x = L.getD k [] := ⟨_, rfl⟩
   have hxl : x.length = 32 := by rw [hx]; exact HOK.out.get hlt
   have hpre : (b1 L.length ++ (L.take k).flatten).length ≤ 8161 := by
    rw [List.length_append, flat_len (HOK.out.take k), List.length_take]
    simp [b1]; omega
   rw [← hx] at HFS
   obtain ⟨p, hp⟩ : ∃ p, p = b1 L.length ++ (L.take k).flatten := ⟨_, rfl⟩
   rw [← hp] at hpre ⊢
   obtain ⟨b, off, rfl, hcells⟩ : ∃ b off, ad = some ⟨b, off, none⟩ ∧ ∀ u, Below w.heap.size w u → ∀ j, j < 32 → u.cell? ⟨b, off + k * 32 + j, none⟩ = some (.int .u8 (B (x.getD j 0))) := by
    obtain ⟨h1, h2, ad', cap', hv, h3, h4, h5, h6, h7⟩ := HL.out
    cases hv
    rcases h7 with h7 | ⟨b, off, h7, h8, h9⟩
    ·
     exfalso
     have := fl_len HOK.out
     rw [h7] at this
     simp at this
     omega
    ·
     refine ⟨b, off, h7, fun u hu j hj => ?_⟩
     have := h9 (k * 32 + j) _ (fl_get HOK.out hlt hj)
     rw [← hx] at this
     rw [Nat.add_assoc]
     exact ((Turn.ofBelow hu).cell (Nat.not_le.2 h8)).trans this
   have HC := Lib.hid hcells
   have HP := Lib.hid hp
   clear hcells hp hx
   go_wp2_with fail
   go_loopw [3, 6] (fun o i wr => ∃ j : Nat, j ≤ 32 ∧ i = .int .i64 j ∧ o = .string (oct.tx (p ++ x.take j)) ∧ Below w.heap.size w wr) (fun _ i _ => 32 - (intOf i).toNat)
   case atStart => exact ⟨0, by decide, rfl, by simp, HB.out⟩
   case round =>
    clear HB
    obtain ⟨j, hj, rfl, rfl, hB⟩ := hrel
    have HB := Lib.hid hB
    have j0 : (0 : Int) ≤ (j : Int) := Int.natCast_nonneg _
    by_cases hjl : j < 32
    ·
     have jI : (j : Int) < 32 := by omega
     have hc := HC.out _ hB j hjl
     have hts : x.take (j + 1) = x.take j ++ [x.getD j 0] := by
      rw [List.take_succ_eq_append_getElem (by rw [hxl]; exact hjl), List.getD_eq_getElem?_getD, List.getElem?_eq_getElem (by rw [hxl]; exact hjl)]
      rfl
     have HTS := Lib.hid hts
     obtain ⟨y, hy⟩ : ∃ y, y = x.getD j 0 := ⟨_, rfl⟩
     rw [← hy] at hc HTS
     have hcv := fun u : World => conv_one u y
     have HS := Lib.hid (tx_snoc (p ++ x.take j) y)
     have hsz : (oct.tx (p ++ x.take j)).size ≤ 10000 := by rw [oct.tx_size, List.length_append, List.length_take]; omega
     have hsy : (oct.tx [y]).size = 1 := oct.tx_size _
     obtain ⟨q, hq⟩ : ∃ q, q = oct.tx (p ++ x.take j) := ⟨_, rfl⟩
     obtain ⟨yy, hyy⟩ : ∃ q, q = oct.tx [y] := ⟨_, rfl⟩
     rw [← hq] at hsz HS ⊢
     rw [← hyy] at hsy HS hcv
     clear hts hy hB hq hyy
     go_wp2_with fail
     go_roundw
     case rel => exact ⟨j + 1, hjl, by push_cast; rfl, by rw [HS.out, HTS.out, List.append_assoc], by exact (HB.out.alloc (by have := HB.out; exact this.size) _)⟩
     case measure => simp [intOf]; omega
    ·
     obtain rfl : j = 32 := by omega
     have e32 : x.take 32 = x := List.take_of_length_le (by rw [hxl]; exact Nat.le_refl _)
     have HE := Lib.hid e32
     clear hB hjl e32
     go_wp2_with fail
     go_roundw
     case rel => exact ⟨k + 1, hlt, by push_cast; rfl, by rw [HE.out, HP.out, HFS.out, List.append_assoc], HB.out⟩
     case measure => simp [intOf]; omega
  ·
   obtain rfl : k = L.length := by omega
   have e : L.take L.length = L := List.take_length
   rw [e]
   clear hlt e
   have hi : ¬ (L.length : Int) < (L.length : Int) := by omega
   go_wp2_with fail
   go_ret
   exact ⟨rfl, HB.out⟩
end Go.Proofs.YtpeneeddfgmjpaaGreatDoor.opn
