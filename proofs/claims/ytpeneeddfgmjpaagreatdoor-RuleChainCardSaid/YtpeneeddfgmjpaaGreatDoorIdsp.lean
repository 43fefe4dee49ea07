/-
 Sets of ids by plain functions (petrelref06).
-/
import Derived.Test.YtpeneeddfgmjpaaGreatDoorIda
namespace Go.Proofs.YtpeneeddfgmjpaaGreatDoor.ids
open Go.RowKit Go.Proofs.YtpeneeddfgmjpaaGreatDoor.mem Go.Proofs.YtpeneeddfgmjpaaGreatDoor.sha

abbrev Id := List UInt8
def cmpL : Id → Id → Int
 | [], [] => 0
 | [], _ :: _ => -1
 | _ :: _, [] => 1
 | a :: x, b :: y => if a.toNat < b.toNat then -1 else if b.toNat < a.toNat then 1 else cmpL x y
def withL (L : List Id) (x : Id) : List Id := if L.contains x then L else L.takeWhile (fun y => decide (cmpL y x < 0)) ++ x :: L.dropWhile (fun y => decide (cmpL y x < 0))
def setL (L : List Id) : List Id := L.foldl withL []
def neX (x y : Id) : Bool := y != x
def woutL (L : List Id) (x : Id) : List Id := L.filter (neX x)
def notIn (M : List Id) (x : Id) : Bool := !M.contains x
def lessL (L M : List Id) : List Id := (setL L).filter (notIn M)
def bothL (L M : List Id) : List Id := M.foldl withL (setL L)

theorem withL_ok {L : List Id} {x : Id} (h : okIds L) (hx : x.length = 32) : okIds (withL L x) := by
 unfold withL
 split
 ·
  exact h
 ·
  intro y hy
  rcases List.mem_append.1 hy with hy | hy
  ·
   exact h y ((List.takeWhile_sublist _).mem hy)
  ·
   rcases List.mem_cons.1 hy with rfl | hy
   ·
    exact hx
   ·
    exact h y ((List.dropWhile_sublist _).mem hy)
theorem foldl_with_ok : ∀ {M L : List Id}, okIds L → okIds M → okIds (M.foldl withL L)
 | [], _, h, _ => h
 | x :: M, L, h, hM => foldl_with_ok (M := M) (L := withL L x) (withL_ok h (hM x List.mem_cons_self)) (fun y hy => hM y (List.mem_cons_of_mem _ hy))
theorem setL_ok {L : List Id} (h : okIds L) : okIds (setL L) := foldl_with_ok okIds.nil h
theorem withL_len (L : List Id) (x : Id) : (withL L x).length ≤ L.length + 1 := by
 unfold withL
 split
 ·
  omega
 ·
  rw [List.length_append, List.length_cons]
  have := congrArg List.length (List.takeWhile_append_dropWhile (p := fun y => decide (cmpL y x < 0)) (l := L))
  rw [List.length_append] at this
  omega
theorem foldl_with_len : ∀ (M L : List Id), (M.foldl withL L).length ≤ L.length + M.length
 | [], L => Nat.le_refl _
 | x :: M, L => by
  have h1 := foldl_with_len M (withL L x)
  have h2 := withL_len L x
  rw [List.foldl_cons, List.length_cons]
  omega
theorem setL_len (L : List Id) : (setL L).length ≤ L.length := by have := foldl_with_len L []; rw [List.length_nil, Nat.zero_add] at this; exact this

/-! The order. -/
theorem cmpL_self : ∀ x : Id, cmpL x x = 0
 | [] => rfl
 | a :: x => by rw [cmpL, if_neg (Nat.lt_irrefl _), if_neg (Nat.lt_irrefl _), cmpL_self x]
theorem cmpL_zero : ∀ x y : Id, cmpL x y = 0 → x = y
 | [], [], _ => rfl
 | [], _ :: _, h => by cases h
 | _ :: _, [], h => by cases h
 | a :: x, b :: y, h => by
  rw [cmpL] at h
  split at h
  ·
   cases h
  ·
   split at h
   ·
    cases h
   ·
    rw [cmpL_zero x y h, UInt8.toNat_inj.1 (show a.toNat = b.toNat by omega)]
theorem cmpL_neg : ∀ x y : Id, cmpL y x = - cmpL x y
 | [], [] => rfl
 | [], _ :: _ => rfl
 | _ :: _, [] => rfl
 | a :: x, b :: y => by
  rw [cmpL, cmpL, cmpL_neg x y]
  repeat' split
  all_goals omega
theorem cmpL_range : ∀ x y : Id, cmpL x y = -1 ∨ cmpL x y = 0 ∨ cmpL x y = 1
 | [], [] => .inr (.inl rfl)
 | [], _ :: _ => .inl rfl
 | _ :: _, [] => .inr (.inr rfl)
 | a :: x, b :: y => by
  rw [cmpL]
  repeat' split
  ·
   exact .inl rfl
  ·
   exact .inr (.inr rfl)
  ·
   exact cmpL_range x y
theorem cmpL_trans : ∀ x y z : Id, cmpL x y < 0 → cmpL y z < 0 → cmpL x z < 0
 | [], [], _, h, _ => by simp [cmpL] at h
 | [], _ :: _, [], _, h => by simp [cmpL] at h
 | [], _ :: _, _ :: _, _, _ => by simp [cmpL]
 | _ :: _, [], _, h, _ => by simp [cmpL] at h
 | _ :: _, _ :: _, [], _, h => by simp [cmpL] at h
 | a :: x, b :: y, c :: z, h, k => by
  have ih := cmpL_trans x y z
  rw [cmpL] at h k ⊢
  repeat' split at h
  all_goals repeat' split at k
  all_goals repeat' split
  all_goals first
   | omega
   | exact ih h k
theorem cmpL_step (x y : Id) (k : Nat) (hx : k < x.length) (hy : k < y.length) : cmpL (x.drop k) (y.drop k) = if (x.getD k 0).toNat < (y.getD k 0).toNat then -1 else if (y.getD k 0).toNat < (x.getD k 0).toNat then 1 else cmpL (x.drop (k + 1)) (y.drop (k + 1)) := by
 rw [List.drop_eq_getElem_cons hx, List.drop_eq_getElem_cons hy, cmpL, List.getD_eq_getElem?_getD, List.getD_eq_getElem?_getD, List.getElem?_eq_getElem hx, List.getElem?_eq_getElem hy]
 rfl
end Go.Proofs.YtpeneeddfgmjpaaGreatDoor.ids
