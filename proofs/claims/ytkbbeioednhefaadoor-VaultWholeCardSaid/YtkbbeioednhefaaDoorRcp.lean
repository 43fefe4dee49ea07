/-
  Records as bytes, by plain functions: put, the next one, all; there and back; what is torn off; what is turned.
-/
import Derived.Test.YtkbbeioednhefaaDoorOpp
import Derived.Test.YtkbbeioednhefaaDoorCrcp
namespace Go.Proofs.YtkbbeioednhefaaDoor.rcd
open Go.Proofs.YtkbbeioednhefaaDoor.opn

structure Rc where
  (k : Int) (body : List UInt8)
deriving DecidableEq
def zrc : Rc := ⟨0, []⟩
def inner (r : Rc) : List UInt8 := b1 r.k ++ r.body
def sumI (r : Rc) : Int := ((crc.addC 0 (inner r)).toNat : Int)
def enR (r : Rc) : List UInt8 := b4 r.body.length ++ inner r ++ b4 (sumI r)
def checkR (r : Rc) : Int := if r.k < 1 ∨ 3 < r.k then 10 else if 1048576 < r.body.length then 3 else 0
def putR (r : Rc) : List UInt8 × Int := if checkR r ≠ 0 then ([], checkR r) else (enR r, 0)
/-- the record at the beginning, how many bytes it has, or why there is none -/
def firstR (t : List UInt8) : Rc × Int × Int :=
  let a := rdN 4 (t, 0)
  if a.2.2 ≠ 0 then (zrc, 0, 2)
  else if 1048576 < a.1 then (zrc, 0, 3)
  else
    let k := rdN 1 a.2
    let b := rd a.1.toNat k.2
    let s := rdN 4 b.2
    if s.2.2 ≠ 0 then (zrc, 0, 2)
    else if k.1 < 1 ∨ 3 < k.1 then (zrc, 0, 10)
    else if sumI ⟨k.1, b.1⟩ ≠ s.1 then (zrc, 0, 13)
    else (⟨k.1, b.1⟩, a.1 + 9, 0)
def nextR (s : List UInt8) (i : Int) : Rc × Int × Int :=
  if i < 0 ∨ (s.length : Int) < i then (zrc, 0, 5)
  else if (firstR (s.drop i.toNat)).2.2 ≠ 0 then (zrc, 0, (firstR (s.drop i.toNat)).2.2)
  else ((firstR (s.drop i.toNat)).1, i + (firstR (s.drop i.toNat)).2.1, 0)
/-- all records, how many bytes they have, and why no more -/
def allR : Nat → List UInt8 → List Rc × Nat × Int
  | 0, _ => ([], 0, 0)
  | n + 1, t =>
    if t = [] then ([], 0, 0)
    else if (firstR t).2.2 ≠ 0 then ([], 0, (firstR t).2.2)
    else
      let x := allR n (t.drop (firstR t).2.1.toNat)
      ((firstR t).1 :: x.1, (firstR t).2.1.toNat + x.2.1, x.2.2)
def allT (t : List UInt8) : List Rc × Nat × Int := allR t.length t
def sizeR (n : Int) : Int := if n < 0 then 0 else n + 9

theorem b1_byte {k : Int} (h : 1 ≤ k ∧ k ≤ 3) : 0 ≤ k ∧ k < 256 := by omega
theorem enR_len (r : Rc) : (enR r).length = r.body.length + 9 := by
  simp only [enR, inner, List.length_append, b1_len, b4_len]; omega
theorem sumI_lt (r : Rc) : 0 ≤ sumI r ∧ sumI r < 4294967296 := by
  have := (crc.addC 0 (inner r)).toNat_lt
  unfold sumI; omega
theorem checkR_ok {r : Rc} (h : checkR r = 0) : 1 ≤ r.k ∧ r.k ≤ 3 ∧ r.body.length ≤ 1048576 := by
  unfold checkR at h
  split at h
  · cases h
  · split at h
    · cases h
    · omega
theorem rd_st (n : Nat) (l : List UInt8) : (n ≤ l.length → rd n (l, 0) = (l.take n, (l.drop n, 0))) ∧ (l.length < n → rd n (l, 0) = ([], ([], 2))) := by
  unfold rd
  refine ⟨fun h => ?_, fun h => ?_⟩
  · rw [if_neg (by simp), if_neg (by show ¬ l.length < n; omega)]
  · rw [if_neg (by simp), if_pos (by exact h)]
/-- what the bytes of a record, and a beginning of them, are read as -/
theorem first_take (r : Rc) (hc : checkR r = 0) (t : List UInt8) (m : Nat) : firstR ((enR r ++ t).take m) = if (enR r).length ≤ m then (r, ((enR r).length : Int), 0) else (zrc, 0, 2) := by
  obtain ⟨k1, k2, hb⟩ := checkR_ok hc
  obtain ⟨s0, s1⟩ := sumI_lt r
  have hlen := enR_len r
  have e : enR r ++ t = b4 r.body.length ++ (b1 r.k ++ (r.body ++ (b4 (sumI r) ++ t))) := by
    simp only [enR, inner, List.append_assoc]
  have R4 := reads_4 (r.body.length : Int) (by omega) (by omega) (b1 r.k ++ (r.body ++ (b4 (sumI r) ++ t))) m
  rw [← e] at R4
  have R1 := reads_1 r.k (by omega) (by omega) (r.body ++ (b4 (sumI r) ++ t)) (m - 4)
  have RB := reads_rd r.body (b4 (sumI r) ++ t) (m - 4 - 1)
  have RS := reads_4 (sumI r) s0 s1 t (m - 4 - 1 - r.body.length)
  simp only [b4_len, b1_len] at R4 R1 RS
  unfold firstR
  by_cases h4 : 4 ≤ m
  · rw [R4.1 h4]
    simp only [ne_eq, not_true_eq_false, if_false]
    rw [if_neg (by omega)]
    rw [Int.toNat_natCast]
    by_cases h1 : 1 ≤ m - 4
    · rw [R1.1 h1]
      by_cases h2 : r.body.length ≤ m - 4 - 1
      · rw [RB.1 h2]
        by_cases h3 : 4 ≤ m - 4 - 1 - r.body.length
        · rw [RS.1 h3]
          simp only [not_true_eq_false, if_false]
          rw [if_neg (by omega), if_pos (by omega), hlen]
          rfl
        · rw [RS.2 (by omega), if_pos (by simp), if_neg (by omega)]
      · rw [RB.2 (by omega), if_neg (show ¬ (enR r).length ≤ m by omega)]
        rw [if_pos (by rw [stays_N 4 2 (by decide)]; simp)]
    · rw [R1.2 (by omega), if_neg (show ¬ (enR r).length ≤ m by omega)]
      rw [if_pos (by rw [stays_rd _ 2 (by decide), stays_N 4 2 (by decide)]; simp)]
  · dsimp only
    rw [R4.2 (by omega), if_pos (by simp), if_neg (by omega)]
theorem first_put (r : Rc) (hc : checkR r = 0) (t : List UInt8) : firstR (enR r ++ t) = (r, ((enR r).length : Int), 0) := by
  have := first_take r hc t (enR r ++ t).length
  rw [List.take_length, if_pos (by rw [List.length_append]; omega)] at this
  exact this
theorem first_size {t : List UInt8} (h : (firstR t).2.2 = 0) : 9 ≤ (firstR t).2.1 ∧ (firstR t).2.1 ≤ t.length := by
  unfold firstR at h ⊢
  by_cases h4 : 4 ≤ t.length
  · have e4 := (rd_st 4 t).1 h4
    have hn4 : rdN 4 (t, 0) = (num (t.take 4), (t.drop 4, 0)) := by unfold rdN; rw [e4]
    rw [hn4] at h ⊢
    have h0 := num_nonneg (t.take 4)
    obtain ⟨n, hn⟩ : ∃ n : Nat, num (t.take 4) = (n : Int) := ⟨(num (t.take 4)).toNat, by omega⟩
    rw [hn] at h ⊢
    simp only [ne_eq, not_true_eq_false, if_false, Int.toNat_natCast] at h ⊢
    by_cases hbig : (1048576 : Int) < n
    · rw [if_pos hbig] at h; cases h
    rw [if_neg hbig] at h ⊢
    by_cases h1 : 1 ≤ (t.drop 4).length
    · have e1 := (rd_st 1 (t.drop 4)).1 h1
      have hn1 : rdN 1 (t.drop 4, 0) = (num ((t.drop 4).take 1), ((t.drop 4).drop 1, 0)) := by unfold rdN; rw [e1]
      rw [hn1] at h ⊢
      by_cases h2 : n ≤ ((t.drop 4).drop 1).length
      · rw [(rd_st n _).1 h2] at h ⊢
        by_cases h3 : 4 ≤ (((t.drop 4).drop 1).drop n).length
        · have hn3 : rdN 4 (((t.drop 4).drop 1).drop n, 0) = (num ((((t.drop 4).drop 1).drop n).take 4), ((((t.drop 4).drop 1).drop n).drop 4, 0)) := by unfold rdN; rw [(rd_st 4 _).1 h3]
          rw [hn3] at h ⊢
          simp only [not_true_eq_false, if_false] at h ⊢
          simp only [List.length_drop] at h1 h2 h3
          split at h
          · cases h
          · split at h
            · cases h
            · next a b =>
              rw [if_neg a, if_neg b]
              exact ⟨by show (9 : Int) ≤ n + 9; omega, by show (n : Int) + 9 ≤ t.length; omega⟩
        · have hn3 : (rdN 4 (((t.drop 4).drop 1).drop n, 0)).2 = ([], 2) := by unfold rdN; rw [(rd_st 4 _).2 (by omega)]
          rw [hn3, if_pos (by simp)] at h; cases h
      · rw [(rd_st n _).2 (by omega)] at h
        rw [stays_N 4 2 (by decide), if_pos (by simp)] at h; cases h
    · have hn1 : (rdN 1 (t.drop 4, 0)).2 = ([], 2) := by unfold rdN; rw [(rd_st 1 _).2 (by omega)]
      rw [hn1, stays_rd _ 2 (by decide), stays_N 4 2 (by decide), if_pos (by simp)] at h; cases h
  · have hn4 : (rdN 4 (t, 0)).2 = ([], 2) := by unfold rdN; rw [(rd_st 4 _).2 (by omega)]
    dsimp only at h
    rw [hn4, if_pos (by simp)] at h; cases h
/-- more rounds than bytes add nothing -/
theorem allR_more : ∀ (n m : Nat) (t : List UInt8), t.length ≤ n → t.length ≤ m → allR n t = allR m t
  | 0, m, t, h, _ => by
    have : t = [] := List.eq_nil_of_length_eq_zero (by omega)
    subst this
    cases m <;> simp [allR]
  | n + 1, 0, t, _, h => by
    have : t = [] := List.eq_nil_of_length_eq_zero (by omega)
    subst this
    simp [allR]
  | n + 1, m + 1, t, h, k => by
    unfold allR
    split
    · rfl
    · split
      · rfl
      · next a b =>
        have hs := first_size (t := t) (Decidable.not_not.1 b)
        rw [allR_more n m (t.drop (firstR t).2.1.toNat) (by rw [List.length_drop]; omega) (by rw [List.length_drop]; omega)]
theorem allT_nil : allT [] = ([], 0, 0) := rfl
theorem allT_none {t : List UInt8} (h : t ≠ []) (he : (firstR t).2.2 ≠ 0) : allT t = ([], 0, (firstR t).2.2) := by
  unfold allT
  obtain ⟨n, hn⟩ : ∃ n, t.length = n + 1 := ⟨t.length - 1, by have := List.length_pos_iff.2 h; omega⟩
  rw [hn, allR, if_neg h, if_pos he]
theorem allT_next {t : List UInt8} (h : t ≠ []) (he : (firstR t).2.2 = 0) : allT t = ((firstR t).1 :: (allT (t.drop (firstR t).2.1.toNat)).1, (firstR t).2.1.toNat + (allT (t.drop (firstR t).2.1.toNat)).2.1, (allT (t.drop (firstR t).2.1.toNat)).2.2) := by
  have hs := first_size he
  unfold allT
  obtain ⟨n, hn⟩ : ∃ n, t.length = n + 1 := ⟨t.length - 1, by have := List.length_pos_iff.2 h; omega⟩
  rw [hn, allR, if_neg h, if_neg (fun hh => hh he), allR_more n _ (t.drop (firstR t).2.1.toNat) (by rw [List.length_drop]; omega) (Nat.le_refl _)]
/-- records put, one behind the other -/
def enL (L : List Rc) : List UInt8 := (L.map enR).flatten
theorem enL_cons (r : Rc) (L : List Rc) : enL (r :: L) = enR r ++ enL L := rfl
theorem enL_snoc (L : List Rc) (r : Rc) : enL (L ++ [r]) = enL L ++ enR r := by simp [enL]
theorem enL_append (L M : List Rc) : enL (L ++ M) = enL L ++ enL M := by simp [enL]
def endsL : List Rc → List Nat
  | [] => []
  | r :: L => (enR r).length :: (endsL L).map ((enR r).length + ·)
/-- how many of them lie within the first m bytes -/
def wholeN : List Rc → Nat → Nat
  | [], _ => 0
  | r :: L, m => if (enR r).length ≤ m then wholeN L (m - (enR r).length) + 1 else 0
theorem enR_pos (r : Rc) : 0 < (enR r).length := by rw [enR_len]; omega
theorem all_torn : ∀ (L : List Rc), (∀ r ∈ L, checkR r = 0) → ∀ m, m ≤ (enL L).length →
    allT ((enL L).take m) = (L.take (wholeN L m), (enL (L.take (wholeN L m))).length, if (enL (L.take (wholeN L m))).length = m then 0 else 2)
  | [], _, m, hm => by
    have : m = 0 := by simpa [enL] using hm
    subst this
    simp [enL, allT_nil]
  | r :: L, h, m, hm => by
    have hc := h r List.mem_cons_self
    have hf := first_take r hc (enL L) m
    rw [enL_cons] at hm ⊢
    by_cases h0 : m = 0
    · subst h0
      have : wholeN (r :: L) 0 = 0 := by unfold wholeN; rw [if_neg (by have := enR_pos r; omega)]
      rw [this, List.take_zero, List.take_zero]
      simp [allT_nil, enL]
    have hne : (enR r ++ enL L).take m ≠ [] := by
      intro he
      have := congrArg List.length he
      rw [List.length_take, List.length_nil] at this
      omega
    by_cases hw : (enR r).length ≤ m
    · rw [if_pos hw] at hf
      have hn : wholeN (r :: L) m = wholeN L (m - (enR r).length) + 1 := by rw [wholeN, if_pos hw]
      rw [allT_next hne (by rw [hf]), hf, hn, List.take_succ_cons, enL_cons]
      simp only [Int.toNat_natCast]
      have ed : ((enR r ++ enL L).take m).drop (enR r).length = (enL L).take (m - (enR r).length) := by rw [List.drop_take, List.drop_left' rfl]
      rw [ed, all_torn L (fun x hx => h x (List.mem_cons_of_mem _ hx)) (m - (enR r).length) (by rw [List.length_append] at hm; omega)]
      simp only [List.length_append]
      congr 2
      by_cases hq : (enL (L.take (wholeN L (m - (enR r).length)))).length = m - (enR r).length
      · rw [if_pos hq, if_pos (by omega)]
      · rw [if_neg hq, if_neg (by omega)]
    · rw [if_neg hw] at hf
      have hn : wholeN (r :: L) m = 0 := by rw [wholeN, if_neg hw]
      rw [allT_none hne (by rw [hf]; simp), hf, hn, List.take_zero]
      simp only [enL, List.map_nil, List.flatten_nil, List.length_nil]
      rw [if_neg (fun hh => h0 hh.symm)]
theorem wholeN_le : ∀ (G : List Rc) (m : Nat), wholeN G m ≤ G.length
  | [], _ => Nat.le_refl _
  | r :: G, m => by
    unfold wholeN
    split
    · rw [List.length_cons]; have := wholeN_le G (m - (enR r).length); omega
    · exact Nat.zero_le _
theorem whole_iff : ∀ (G : List Rc) (m j : Nat), j < G.length → ((enL (G.take (j + 1))).length ≤ m ↔ j < wholeN G m)
  | [], _, _, h => by simp at h
  | r :: G, m, j, h => by
    rw [List.take_succ_cons, enL_cons, List.length_append]
    unfold wholeN
    by_cases hw : (enR r).length ≤ m
    · rw [if_pos hw]
      match j with
      | 0 => simp only [List.take_zero, enL, List.map_nil, List.flatten_nil, List.length_nil]; omega
      | j + 1 =>
        have := whole_iff G (m - (enR r).length) j (by simpa using h)
        omega
    · rw [if_neg hw]
      omega
theorem wholeN_all : ∀ (L : List Rc), wholeN L (enL L).length = L.length
  | [] => rfl
  | r :: L => by
    rw [wholeN, enL_cons, List.length_append, if_pos (by omega), Nat.add_sub_cancel_left, wholeN_all L]
    rfl
theorem all_back (L : List Rc) (h : ∀ r ∈ L, checkR r = 0) : allT (enL L) = (L, (enL L).length, 0) := by
  have := all_torn L h (enL L).length (Nat.le_refl _)
  rw [List.take_length, wholeN_all, List.take_length, if_pos rfl] at this
  exact this
end Go.Proofs.YtkbbeioednhefaaDoor.rcd
