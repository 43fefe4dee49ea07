/-
 Sets of ids as sorted lists.
-/
import Derived.Test.YtpeneeddfgmjpaaGreatDoorIdsp
namespace Go.Proofs.YtpeneeddfgmjpaaGreatDoor.ids
open Go.RowKit Go.Proofs.YtpeneeddfgmjpaaGreatDoor.mem Go.Proofs.YtpeneeddfgmjpaaGreatDoor.sha

def Sorted (L : List Id) : Prop := L.Pairwise fun a b => cmpL a b < 0
theorem lt_irrefl (a : Id) : ¬ cmpL a a < 0 := by rw [cmpL_self]; decide
theorem while_lt (x : Id) : ∀ L : List Id, ∀ y ∈ L.takeWhile (fun y => decide (cmpL y x < 0)), cmpL y x < 0
 | [], y, h => by cases h
 | a :: L, y, h => by
  rw [List.takeWhile_cons] at h
  split at h
  ·
   rename_i ha
   rcases List.mem_cons.1 h with rfl | h
   ·
    exact of_decide_eq_true ha
   ·
    exact while_lt x L y h
  ·
   cases h
theorem mem_withL (L : List Id) (x y : Id) : y ∈ withL L x ↔ y = x ∨ y ∈ L := by
 unfold withL
 split
 ·
  rename_i h
  rw [List.contains_iff_mem] at h
  constructor
  ·
   exact Or.inr
  ·
   rintro (rfl | h2)
   ·
    exact h
   ·
    exact h2
 ·
  have e : y ∈ L ↔ y ∈ L.takeWhile (fun y => decide (cmpL y x < 0)) ∨ y ∈ L.dropWhile (fun y => decide (cmpL y x < 0)) := by
   rw [← List.mem_append, List.takeWhile_append_dropWhile]
  rw [List.mem_append, List.mem_cons, e]
  constructor
  ·
   rintro (h | h | h)
   ·
    exact .inr (.inl h)
   ·
    exact .inl h
   ·
    exact .inr (.inr h)
  ·
   rintro (h | h | h)
   ·
    exact .inr (.inl h)
   ·
    exact .inl h
   ·
    exact .inr (.inr h)
theorem drop_gt (x : Id) : ∀ L : List Id, Sorted L → x ∉ L → ∀ y ∈ L.dropWhile (fun y => decide (cmpL y x < 0)), cmpL x y < 0
 | [], _, _, y, h => by cases h
 | a :: L, hs, hn, y, h => by
  rw [List.dropWhile_cons] at h
  obtain ⟨ha, hs⟩ := List.pairwise_cons.1 hs
  split at h
  ·
   exact drop_gt x L hs (fun h => hn (List.mem_cons_of_mem _ h)) y h
  ·
   rename_i hax
   have hax' : ¬ cmpL a x < 0 := by simpa using hax
   have h1 : cmpL x a < 0 := by
    have hne : cmpL a x ≠ 0 := fun e => hn (by rw [cmpL_zero _ _ e]; exact List.mem_cons_self)
    have := cmpL_neg a x
    have := cmpL_range a x
    omega
   rcases List.mem_cons.1 h with rfl | h
   ·
    exact h1
   ·
    exact cmpL_trans x a y h1 (ha y h)
theorem withL_sorted (L : List Id) (x : Id) (h : Sorted L) : Sorted (withL L x) := by
 unfold withL
 split
 ·
  exact h
 ·
  rename_i hc
  have hn : x ∉ L := fun hm => hc (by rw [List.contains_iff_mem]; exact hm)
  have h' : Sorted (L.takeWhile (fun y => decide (cmpL y x < 0)) ++ L.dropWhile (fun y => decide (cmpL y x < 0))) := by rw [List.takeWhile_append_dropWhile]; exact h
  obtain ⟨h1, h2, h3⟩ := List.pairwise_append.1 h'
  refine List.pairwise_append.2 ⟨h1, List.pairwise_cons.2 ⟨fun y hy => drop_gt x L h hn y hy, h2⟩, fun a ha b hb => ?_⟩
  rcases List.mem_cons.1 hb with rfl | hb
  ·
   exact while_lt _ L a ha
  ·
   exact h3 a ha b hb
theorem fold_sorted : ∀ (M L : List Id), Sorted L → Sorted (M.foldl withL L)
 | [], _, h => h
 | x :: M, L, h => fold_sorted M _ (withL_sorted L x h)
theorem mem_fold (y : Id) : ∀ (M L : List Id), y ∈ M.foldl withL L ↔ y ∈ L ∨ y ∈ M
 | [], L => by simp
 | x :: M, L => by
  rw [List.foldl_cons, mem_fold y M, mem_withL, List.mem_cons]
  constructor
  ·
   rintro ((h | h) | h)
   ·
    exact .inr (.inl h)
   ·
    exact .inl h
   ·
    exact .inr (.inr h)
  ·
   rintro (h | h | h)
   ·
    exact .inl (.inr h)
   ·
    exact .inl (.inl h)
   ·
    exact .inr h
theorem setL_sorted (L : List Id) : Sorted (setL L) := fold_sorted L [] List.Pairwise.nil
theorem mem_setL (L : List Id) (y : Id) : y ∈ setL L ↔ y ∈ L := by
 unfold setL
 rw [mem_fold]
 simp
theorem sorted_ext : ∀ (L M : List Id), Sorted L → Sorted M → (∀ y, y ∈ L ↔ y ∈ M) → L = M
 | [], [], _, _, _ => rfl
 | [], b :: M, _, _, h => absurd ((h b).2 List.mem_cons_self) (by simp)
 | a :: L, [], _, _, h => absurd ((h a).1 List.mem_cons_self) (by simp)
 | a :: L, b :: M, hL, hM, h => by
  obtain ⟨ha, hL'⟩ := List.pairwise_cons.1 hL
  obtain ⟨hb, hM'⟩ := List.pairwise_cons.1 hM
  have hab : a = b := by
   rcases List.mem_cons.1 ((h a).1 List.mem_cons_self) with h1 | h1
   ·
    exact h1
   ·
    rcases List.mem_cons.1 ((h b).2 List.mem_cons_self) with h2 | h2
    ·
     exact h2.symm
    ·
     exact absurd (cmpL_trans a b a (ha b h2) (hb a h1)) (lt_irrefl a)
  subst hab
  congr 1
  refine sorted_ext L M hL' hM' fun y => ?_
  constructor
  ·
   intro hy
   rcases List.mem_cons.1 ((h y).1 (List.mem_cons_of_mem _ hy)) with h1 | h1
   ·
    exact absurd (ha y hy) (by rw [h1]; exact lt_irrefl a)
   ·
    exact h1
  ·
   intro hy
   rcases List.mem_cons.1 ((h y).2 (List.mem_cons_of_mem _ hy)) with h1 | h1
   ·
    exact absurd (hb y hy) (by rw [h1]; exact lt_irrefl a)
   ·
    exact h1
theorem setL_same (L M : List Id) (h : ∀ y, y ∈ L ↔ y ∈ M) : setL L = setL M :=
 sorted_ext _ _ (setL_sorted L) (setL_sorted M) fun y => by rw [mem_setL, mem_setL]; exact h y
theorem setL_of_sorted (L : List Id) (h : Sorted L) : setL L = L := sorted_ext _ _ (setL_sorted L) h fun y => mem_setL L y
theorem setL_idem (L : List Id) : setL (setL L) = setL L := setL_of_sorted _ (setL_sorted L)
end Go.Proofs.YtpeneeddfgmjpaaGreatDoor.ids
