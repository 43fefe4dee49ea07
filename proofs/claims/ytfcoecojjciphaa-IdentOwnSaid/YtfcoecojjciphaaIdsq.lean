/-
  What follows for sets of ids: sorted, of the same ids the same list.
-/
import Derived.Test.YtfcoecojjciphaaHexp
namespace Go.Proofs.Ytfcoecojjciphaa.ids
open Go.RowKit Go.Proofs.Ytfcoecojjciphaa.mem Go.Proofs.Ytfcoecojjciphaa.sha Go.Proofs.Ytfcoecojjciphaa.strx

def Sorted (L : List Id) : Prop := L.Pairwise fun a b => cmpL a b < 0
theorem lt_irrefl (a : Id) : ¬ cmpL a a < 0 := by rw [cmpL_self]; decide
theorem while_lt (x : Id) : ∀ L : List Id, ∀ y ∈ L.takeWhile (fun y => decide (cmpL y x < 0)), cmpL y x < 0
  | [], y, h => by cases h
  | a :: L, y, h => by
    rw [List.takeWhile_cons] at h
    split at h
    · rename_i ha
      rcases List.mem_cons.1 h with rfl | h
      · exact of_decide_eq_true ha
      · exact while_lt x L y h
    · cases h
theorem mem_withL (L : List Id) (x y : Id) : y ∈ withL L x ↔ y = x ∨ y ∈ L := by
  unfold withL
  split
  · rename_i h
    rw [List.contains_iff_mem] at h
    constructor
    · exact Or.inr
    · rintro (rfl | h2)
      · exact h
      · exact h2
  · have e : y ∈ L ↔ y ∈ L.takeWhile (fun y => decide (cmpL y x < 0)) ∨ y ∈ L.dropWhile (fun y => decide (cmpL y x < 0)) := by
      rw [← List.mem_append, List.takeWhile_append_dropWhile]
    rw [List.mem_append, List.mem_cons, e]
    constructor
    · rintro (h | h | h)
      · exact .inr (.inl h)
      · exact .inl h
      · exact .inr (.inr h)
    · rintro (h | h | h)
      · exact .inr (.inl h)
      · exact .inl h
      · exact .inr (.inr h)
theorem drop_gt (x : Id) : ∀ L : List Id, Sorted L → x ∉ L → ∀ y ∈ L.dropWhile (fun y => decide (cmpL y x < 0)), cmpL x y < 0
  | [], _, _, y, h => by cases h
  | a :: L, hs, hn, y, h => by
    rw [List.dropWhile_cons] at h
    obtain ⟨ha, hs⟩ := List.pairwise_cons.1 hs
    split at h
    · exact drop_gt x L hs (fun h => hn (List.mem_cons_of_mem _ h)) y h
    · rename_i hax
      have hax' : ¬ cmpL a x < 0 := by simpa using hax
      have h1 : cmpL x a < 0 := by
        have hne : cmpL a x ≠ 0 := fun e => hn (by rw [cmpL_zero _ _ e]; exact List.mem_cons_self)
        have := cmpL_neg a x
        have := cmpL_range a x
        omega
      rcases List.mem_cons.1 h with rfl | h
      · exact h1
      · exact cmpL_trans x a y h1 (ha y h)
theorem withL_sorted (L : List Id) (x : Id) (h : Sorted L) : Sorted (withL L x) := by
  unfold withL
  split
  · exact h
  · rename_i hc
    have hn : x ∉ L := fun hm => hc (by rw [List.contains_iff_mem]; exact hm)
    have h' : Sorted (L.takeWhile (fun y => decide (cmpL y x < 0)) ++ L.dropWhile (fun y => decide (cmpL y x < 0))) := by rw [List.takeWhile_append_dropWhile]; exact h
    obtain ⟨h1, h2, h3⟩ := List.pairwise_append.1 h'
    refine List.pairwise_append.2 ⟨h1, List.pairwise_cons.2 ⟨fun y hy => drop_gt x L h hn y hy, h2⟩, fun a ha b hb => ?_⟩
    rcases List.mem_cons.1 hb with rfl | hb
    · exact while_lt _ L a ha
    · exact h3 a ha b hb
theorem fold_sorted : ∀ (M L : List Id), Sorted L → Sorted (M.foldl withL L)
  | [], _, h => h
  | x :: M, L, h => fold_sorted M _ (withL_sorted L x h)
theorem mem_fold (y : Id) : ∀ (M L : List Id), y ∈ M.foldl withL L ↔ y ∈ L ∨ y ∈ M
  | [], L => by simp
  | x :: M, L => by
    rw [List.foldl_cons, mem_fold y M, mem_withL, List.mem_cons]
    constructor
    · rintro ((h | h) | h)
      · exact .inr (.inl h)
      · exact .inl h
      · exact .inr (.inr h)
    · rintro (h | h | h)
      · exact .inl (.inr h)
      · exact .inl (.inl h)
      · exact .inr h
theorem setL_sorted (L : List Id) : Sorted (setL L) := fold_sorted L [] List.Pairwise.nil
theorem mem_setL (L : List Id) (y : Id) : y ∈ setL L ↔ y ∈ L := by
  unfold setL
  rw [mem_fold]
  simp
theorem sorted_ext : ∀ (L M : List Id), Sorted L → Sorted M → (∀ y, y ∈ L ↔ y ∈ M) → L = M
  | [], [], _, _, _ => rfl
  | [], b :: M, _, _, h => absurd ((h b).2 List.mem_cons_self) (by simp)
  | a :: L, [], _, _, h => absurd ((h a).1 List.mem_cons_self) (by simp)
  | a :: L, b :: M, hL, hM, h => by
    obtain ⟨ha, hL'⟩ := List.pairwise_cons.1 hL
    obtain ⟨hb, hM'⟩ := List.pairwise_cons.1 hM
    have hab : a = b := by
      rcases List.mem_cons.1 ((h a).1 List.mem_cons_self) with h1 | h1
      · exact h1
      · rcases List.mem_cons.1 ((h b).2 List.mem_cons_self) with h2 | h2
        · exact h2.symm
        · exact absurd (cmpL_trans a b a (ha b h2) (hb a h1)) (lt_irrefl a)
    subst hab
    congr 1
    refine sorted_ext L M hL' hM' fun y => ?_
    constructor
    · intro hy
      rcases List.mem_cons.1 ((h y).1 (List.mem_cons_of_mem _ hy)) with h1 | h1
      · exact absurd (ha y hy) (by rw [h1]; exact lt_irrefl a)
      · exact h1
    · intro hy
      rcases List.mem_cons.1 ((h y).2 (List.mem_cons_of_mem _ hy)) with h1 | h1
      · exact absurd (hb y hy) (by rw [h1]; exact lt_irrefl a)
      · exact h1
theorem setL_same (L M : List Id) (h : ∀ y, y ∈ L ↔ y ∈ M) : setL L = setL M :=
  sorted_ext _ _ (setL_sorted L) (setL_sorted M) fun y => by rw [mem_setL, mem_setL]; exact h y
theorem setL_of_sorted (L : List Id) (h : Sorted L) : setL L = L := sorted_ext _ _ (setL_sorted L) h fun y => mem_setL L y
theorem setL_idem (L : List Id) : setL (setL L) = setL L := setL_of_sorted _ (setL_sorted L)
theorem bothL_sorted (L M : List Id) : Sorted (bothL L M) := fold_sorted M _ (setL_sorted L)
theorem mem_bothL (L M : List Id) (y : Id) : y ∈ bothL L M ↔ y ∈ L ∨ y ∈ M := by unfold bothL; rw [mem_fold, mem_setL]
theorem filter_sorted (L : List Id) (p : Id → Bool) (h : Sorted L) : Sorted (L.filter p) := List.Pairwise.filter p h
theorem woutL_sorted (L : List Id) (x : Id) (h : Sorted L) : Sorted (woutL L x) := filter_sorted _ _ h
theorem mem_woutL (L : List Id) (x y : Id) : y ∈ woutL L x ↔ y ∈ L ∧ y ≠ x := by
  unfold woutL
  rw [List.mem_filter]
  unfold neX
  rw [bne_iff_ne]
theorem lessL_sorted (L M : List Id) : Sorted (lessL L M) := filter_sorted _ _ (setL_sorted L)
theorem mem_lessL (L M : List Id) (y : Id) : y ∈ lessL L M ↔ y ∈ L ∧ y ∉ M := by
  unfold lessL
  rw [List.mem_filter, mem_setL]
  unfold notIn
  rw [Bool.not_eq_true', Bool.eq_false_iff, ne_eq, List.contains_iff_mem]

/-! What the laws ask. -/
theorem back_in (L : List Id) (x : Id) (h : x ∈ L) : withL (setL (woutL (setL L) x)) x = setL L := by
  refine sorted_ext _ _ (withL_sorted _ _ (setL_sorted _)) (setL_sorted L) fun y => ?_
  rw [mem_withL, mem_setL, mem_woutL, mem_setL]
  constructor
  · rintro (rfl | h)
    · exact h
    · exact h.1
  · intro hy
    by_cases e : y = x
    · exact .inl e
    · exact .inr ⟨hy, e⟩
theorem back_out (L : List Id) (x : Id) (h : x ∉ L) : woutL (setL (withL (setL L) x)) x = setL L := by
  refine sorted_ext _ _ (woutL_sorted _ _ (setL_sorted _)) (setL_sorted L) fun y => ?_
  rw [mem_woutL, mem_setL, mem_withL, mem_setL]
  constructor
  · rintro ⟨h1 | h1, h2⟩
    · exact absurd h1 h2
    · exact h1
  · intro hy
    exact ⟨.inr hy, fun e => h (e ▸ hy)⟩
theorem back_both (L M : List Id) : bothL (lessL L M) M = bothL L M := by
  refine sorted_ext _ _ (bothL_sorted _ _) (bothL_sorted _ _) fun y => ?_
  rw [mem_bothL, mem_bothL, mem_lessL]
  constructor
  · rintro (h | h)
    · exact .inl h.1
    · exact .inr h
  · rintro (h | h)
    · by_cases e : y ∈ M
      · exact .inr e
      · exact .inl ⟨h, e⟩
    · exact .inr h
theorem withL_length (L : List Id) (x : Id) (h : x ∉ L) : (withL L x).length = L.length + 1 := by
  unfold withL
  rw [if_neg (by rw [List.contains_iff_mem]; exact h), List.length_append, List.length_cons]
  have := congrArg List.length (List.takeWhile_append_dropWhile (p := fun y => decide (cmpL y x < 0)) (l := L))
  rw [List.length_append] at this
  omega
theorem fold_length : ∀ (M L : List Id), (∀ y ∈ M, y ∉ L) → Sorted M → (M.foldl withL L).length = L.length + M.length
  | [], L, _, _ => rfl
  | x :: M, L, h, hs => by
    obtain ⟨h1, h2⟩ := List.pairwise_cons.1 hs
    rw [List.foldl_cons, fold_length M _ (fun y hy hm => ?_) h2, withL_length L x (h x List.mem_cons_self), List.length_cons]
    · omega
    · rcases (mem_withL L x y).1 hm with rfl | hm
      · exact lt_irrefl y (h1 y hy)
      · exact h y (List.mem_cons_of_mem _ hy) hm
theorem back_len (L M : List Id) : (bothL (lessL L M) (lessL M L)).length = (lessL L M).length + (lessL M L).length := by
  unfold bothL
  rw [fold_length _ _ (fun y hy hm => ?_) (lessL_sorted M L), setL_of_sorted _ (lessL_sorted L M)]
  rw [mem_setL, mem_lessL] at hm
  rw [mem_lessL] at hy
  exact hm.2 hy.1
theorem sorted_next (L : List Id) (h : Sorted L) (i : Nat) (h1 : 1 ≤ i) (h2 : i < L.length) : cmpL (L.getD (i - 1) []) (L.getD i []) = -1 := by
  rw [List.getD_eq_getElem?_getD, List.getD_eq_getElem?_getD, List.getElem?_eq_getElem (by omega), List.getElem?_eq_getElem h2]
  have := List.pairwise_iff_getElem.1 h (i - 1) i (by omega) h2 (by omega)
  have hr := cmpL_range L[i - 1] L[i]
  show cmpL L[i - 1] L[i] = -1
  omega

/-! Texts: there and back. -/
theorem hexB_half : ∀ n : Fin 16, halfI (hexB n.val) = n.val := by decide +kernel
theorem half_hexB (c : UInt8) (h : 0 ≤ halfI c) : hexB (halfI c).toNat = c := by
  have h0 := B_nonneg c
  have hc : ∀ n : Nat, n < 256 → B c = (n : Int) → c = UInt8.ofNat n := fun n hn e => by
    apply UInt8.toNat_inj.1
    unfold B at e
    rw [UInt8.toNat_ofNat_of_lt' (by exact hn)]
    omega
  have hall : ∀ n : Fin 256, 0 ≤ halfI (UInt8.ofNat n.val) → hexB (halfI (UInt8.ofNat n.val)).toNat = UInt8.ofNat n.val := by decide +kernel
  have he := hc c.toNat c.toNat_lt rfl
  have := hall ⟨c.toNat, c.toNat_lt⟩
  rw [← he] at this
  exact this h
theorem text_get : ∀ (x : Id) (i : Nat), i < x.length → (textL x).getD (2 * i) 0 = hexB ((x.getD i 0).toNat / 16) ∧ (textL x).getD (2 * i + 1) 0 = hexB ((x.getD i 0).toNat % 16)
  | [], i, h => by simp at h
  | b :: x, 0, _ => ⟨rfl, rfl⟩
  | b :: x, i + 1, h => by
    have ih := text_get x i (by simpa using h)
    have e1 : 2 * (i + 1) = (2 * i) + 1 + 1 := by omega
    have ht : textL (b :: x) = hexB (b.toNat / 16) :: hexB (b.toNat % 16) :: textL x := rfl
    rw [ht, e1, List.getD_cons_succ, List.getD_cons_succ, List.getD_cons_succ, List.getD_cons_succ, List.getD_cons_succ]
    exact ih
theorem pAcc_get (l : List UInt8) (i : Nat) (h : i < 32) : (pAcc l 32).getD i 0 = pb l i := by
  unfold pAcc
  rw [Nat.sub_self, List.replicate_zero, List.append_nil, List.getD_eq_getElem?_getD, List.getElem?_map, List.getElem?_range h]
  rfl
theorem ext_getD (x y : List UInt8) (hl : x.length = y.length) (h : ∀ i, i < x.length → x.getD i 0 = y.getD i 0) : x = y := by
  apply List.ext_getElem hl
  intro i h1 h2
  have := h i h1
  rw [List.getD_eq_getElem?_getD, List.getD_eq_getElem?_getD, List.getElem?_eq_getElem h1, List.getElem?_eq_getElem h2] at this
  exact this
theorem parse_text (x : Id) (h : x.length = 32) : parseOf (textL x) = (x, 0) := by
  have hg := text_get x
  have hh : ∀ i, i < 32 → halfI ((textL x).getD (2 * i) 0) = ((x.getD i 0).toNat / 16 : Nat) ∧ halfI ((textL x).getD (2 * i + 1) 0) = ((x.getD i 0).toNat % 16 : Nat) := fun i hi => by
    obtain ⟨h1, h2⟩ := hg i (by omega)
    have := (x.getD i 0).toNat_lt
    rw [h1, h2]
    exact ⟨hexB_half ⟨(x.getD i 0).toNat / 16, by omega⟩, hexB_half ⟨(x.getD i 0).toNat % 16, by omega⟩⟩
  have hf : fine (textL x) := ⟨by rw [textL_len, h], fun j hj => by
    rcases Nat.mod_two_eq_zero_or_one j with e | e
    · obtain ⟨i, rfl⟩ : ∃ i, j = 2 * i := ⟨j / 2, by omega⟩
      rw [(hh i (by omega)).1]; omega
    · obtain ⟨i, rfl⟩ : ∃ i, j = 2 * i + 1 := ⟨j / 2, by omega⟩
      rw [(hh i (by omega)).2]; omega⟩
  rw [parse_fine hf]
  have : pAcc (textL x) 32 = x := ext_getD _ _ (by rw [pAcc_len _ _ (Nat.le_refl _), h]) fun i hi => by
    rw [pAcc_len _ _ (Nat.le_refl _)] at hi
    rw [pAcc_get _ _ hi]
    unfold pb
    obtain ⟨h1, h2⟩ := hh i hi
    rw [h1, h2]
    have := (x.getD i 0).toNat_lt
    apply UInt8.toNat_inj.1
    rw [show (16 * (((x.getD i 0).toNat / 16 : Nat) : Int) + (((x.getD i 0).toNat % 16 : Nat) : Int)).toNat = (x.getD i 0).toNat by omega]
    exact UInt8.toNat_ofNat_of_lt' (by exact this)
  rw [this]
theorem text_parse (l : List UInt8) (h : (parseOf l).2 = 0) : textL (parseOf l).1 = l := by
  by_cases hf : fine l
  · rw [parse_fine hf]
    have hp := pAcc_len l 32 (Nat.le_refl _)
    refine ext_getD _ _ (by rw [textL_len, hp, hf.1]) fun j hj => ?_
    rw [textL_len, hp] at hj
    have hkey : ∀ i, i < 32 → (textL (pAcc l 32)).getD (2 * i) 0 = l.getD (2 * i) 0 ∧ (textL (pAcc l 32)).getD (2 * i + 1) 0 = l.getD (2 * i + 1) 0 := fun i hi => by
      obtain ⟨h1, h2⟩ := text_get (pAcc l 32) i (by omega)
      rw [h1, h2, pAcc_get l i hi]
      have f1 := hf.2 (2 * i) (by omega)
      have f2 := hf.2 (2 * i + 1) (by omega)
      have r1 := halfI_range (l.getD (2 * i) 0)
      have r2 := halfI_range (l.getD (2 * i + 1) 0)
      have e : (pb l i).toNat = (16 * halfI (l.getD (2 * i) 0) + halfI (l.getD (2 * i + 1) 0)).toNat := by
        unfold pb
        exact UInt8.toNat_ofNat_of_lt' (by show _ < 256; omega)
      rw [e, show (16 * halfI (l.getD (2 * i) 0) + halfI (l.getD (2 * i + 1) 0)).toNat / 16 = (halfI (l.getD (2 * i) 0)).toNat by omega, show (16 * halfI (l.getD (2 * i) 0) + halfI (l.getD (2 * i + 1) 0)).toNat % 16 = (halfI (l.getD (2 * i + 1) 0)).toNat by omega]
      exact ⟨half_hexB _ f1, half_hexB _ f2⟩
    rcases Nat.mod_two_eq_zero_or_one j with e | e
    · obtain ⟨i, rfl⟩ : ∃ i, j = 2 * i := ⟨j / 2, by omega⟩
      exact (hkey i (by omega)).1
    · obtain ⟨i, rfl⟩ : ∃ i, j = 2 * i + 1 := ⟨j / 2, by omega⟩
      exact (hkey i (by omega)).2
  · rw [parse_bad hf] at h
    cases h
end Go.Proofs.Ytfcoecojjciphaa.ids
