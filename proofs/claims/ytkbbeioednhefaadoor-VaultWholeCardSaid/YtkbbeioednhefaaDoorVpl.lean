/-
  The landed vault, plainly: whatever bytes a file has, what is read of it are its records' bytes; what stands while a vault lives.
-/
import Derived.Test.YtkbbeioednhefaaDoorVtp
import Derived.Test.YtkbbeioednhefaaDoorOctp
namespace Go.Proofs.YtkbbeioednhefaaDoor.vt
open Go.Proofs.YtkbbeioednhefaaDoor.rcd Go.Proofs.YtkbbeioednhefaaDoor.jn
open Go.Proofs.YtkbbeioednhefaaDoor.opn (b1 b4 num rd rdN endE back_1 back_4 back_rd rd_err' num_nonneg)

/-- a record that is read has been put -/
theorem first_of {t : List UInt8} (h : (firstR t).2.2 = 0) : checkR (firstR t).1 = 0 ∧ t = enR (firstR t).1 ++ t.drop (firstR t).2.1.toNat := by
  have e : firstR t = (if (rdN 4 (t, 0)).2.2 ≠ 0 then (zrc, 0, 2) else if 1048576 < (rdN 4 (t, 0)).1 then (zrc, 0, 3)
    else if (rdN 4 (rd (rdN 4 (t, 0)).1.toNat (rdN 1 (rdN 4 (t, 0)).2).2).2).2.2 ≠ 0 then (zrc, 0, 2)
    else if (rdN 1 (rdN 4 (t, 0)).2).1 < 1 ∨ 3 < (rdN 1 (rdN 4 (t, 0)).2).1 then (zrc, 0, 10)
    else if sumI ⟨(rdN 1 (rdN 4 (t, 0)).2).1, (rd (rdN 4 (t, 0)).1.toNat (rdN 1 (rdN 4 (t, 0)).2).2).1⟩ ≠ (rdN 4 (rd (rdN 4 (t, 0)).1.toNat (rdN 1 (rdN 4 (t, 0)).2).2).2).1 then (zrc, 0, 13)
    else (⟨(rdN 1 (rdN 4 (t, 0)).2).1, (rd (rdN 4 (t, 0)).1.toNat (rdN 1 (rdN 4 (t, 0)).2).2).1⟩, (rdN 4 (t, 0)).1 + 9, 0)) := rfl
  obtain ⟨A, hA⟩ : ∃ A, A = rdN 4 (t, 0) := ⟨_, rfl⟩
  have a0 : 0 ≤ A.1 := by rw [hA]; exact num_nonneg _
  have ha := back_4 (t, 0)
  rw [← hA] at e ha
  obtain ⟨K, hK⟩ : ∃ K, K = rdN 1 A.2 := ⟨_, rfl⟩
  have hk := back_1 A.2
  rw [← hK] at e hk
  obtain ⟨B, hB⟩ : ∃ B, B = rd A.1.toNat K.2 := ⟨_, rfl⟩
  have hb := back_rd A.1.toNat K.2
  have hb2 := fun (h : B.2.2 = 0) => rd_err' (n := A.1.toNat) (st := K.2) (by rw [← hB]; exact h)
  rw [← hB] at e hb
  obtain ⟨S, hS⟩ : ∃ S, S = rdN 4 B.2 := ⟨_, rfl⟩
  have hs := back_4 B.2
  have hs2 := fun (h : S.2.2 = 0) => rd_err' (n := 4) (st := B.2) (by rw [hS] at h; exact h)
  have hk2 := fun (h : K.2.2 = 0) => rd_err' (n := 1) (st := A.2) (by rw [hK] at h; exact h)
  rw [← hS] at e hs
  by_cases c1 : A.2.2 ≠ 0
  · rw [e, if_pos c1] at h; cases h
  rw [if_neg c1] at e
  by_cases c2 : 1048576 < A.1
  · rw [e, if_pos c2] at h; cases h
  rw [if_neg c2] at e
  by_cases c3 : S.2.2 ≠ 0
  · rw [e, if_pos c3] at h; cases h
  rw [if_neg c3] at e
  by_cases c4 : K.1 < 1 ∨ 3 < K.1
  · rw [e, if_pos c4] at h; cases h
  rw [if_neg c4] at e
  by_cases c5 : sumI ⟨K.1, B.1⟩ ≠ S.1
  · rw [e, if_pos c5] at h; cases h
  rw [if_neg c5] at e
  have s0 : S.2.2 = 0 := Decidable.not_not.1 c3
  have b0 : B.2.2 = 0 := hs2 s0
  have k0 : K.2.2 = 0 := hb2 b0
  have e1 := congrArg Prod.fst (ha (Decidable.not_not.1 c1))
  have e2 := congrArg Prod.fst (hk k0)
  obtain ⟨e3, e4⟩ := hb b0
  have e3 := congrArg Prod.fst e3
  have e5 := congrArg Prod.fst (hs s0)
  simp only at e1 e2 e3 e5
  have hl : (B.1.length : Int) = A.1 := by rw [e4]; omega
  have hen : enR ⟨K.1, B.1⟩ = b4 A.1 ++ (b1 K.1 ++ B.1) ++ b4 S.1 := by
    unfold enR inner
    simp only
    rw [hl, Decidable.not_not.1 c5]
  have ht : t = enR ⟨K.1, B.1⟩ ++ S.2.1 := by
    rw [hen]
    conv => lhs; rw [e1, e2, e3, e5]
    simp only [List.append_assoc]
  rw [e]
  refine ⟨?_, ?_⟩
  · unfold checkR
    simp only
    rw [if_neg c4, if_neg (by omega)]
  · simp only
    have hlen : (enR ⟨K.1, B.1⟩).length = (A.1 + 9).toNat := by rw [enR_len]; simp only; omega
    have hd : t.drop (A.1 + 9).toNat = S.2.1 := by
      conv => lhs; rw [ht]
      exact List.drop_left' hlen
    rw [hd]
    exact ht
theorem all_of : ∀ (n : Nat) (t : List UInt8), (∀ r ∈ (allR n t).1, checkR r = 0) ∧ t.take (allR n t).2.1 = enL (allR n t).1
  | 0, t => by
    unfold allR
    exact ⟨fun r hr => (by cases hr), rfl⟩
  | n + 1, t => by
    unfold allR
    by_cases h0 : t = []
    · rw [if_pos h0]
      exact ⟨fun r hr => (by cases hr), rfl⟩
    rw [if_neg h0]
    by_cases h1 : (firstR t).2.2 ≠ 0
    · rw [if_pos h1]
      exact ⟨fun r hr => (by cases hr), rfl⟩
    rw [if_neg h1]
    have hf := first_of (Decidable.not_not.1 h1)
    have hz := first_size (Decidable.not_not.1 h1)
    have hi := all_of n (t.drop (firstR t).2.1.toNat)
    simp only
    refine ⟨fun r hr => (List.mem_cons.1 hr).elim (fun e => by rw [e]; exact hf.1) (hi.1 r), ?_⟩
    rw [enL_cons, ← hi.2]
    have hl : (enR (firstR t).1).length = (firstR t).2.1.toNat := by
      have h2 := congrArg List.length hf.2
      rw [List.length_append, List.length_drop] at h2
      omega
    have ht : t.take (firstR t).2.1.toNat = enR (firstR t).1 := by
      have h3 := congrArg (List.take (firstR t).2.1.toNat) hf.2
      rw [List.take_left' hl] at h3
      exact h3
    rw [← ht]
    exact List.take_add
/-- whatever bytes a file has: it is opened as its records -/
theorem open_any (s : List UInt8) : allOk (openJ s).l ∧ openJ s = fileJ (openJ s).l (openJ s).l.length := by
  have h := all_of s.length s
  refine ⟨h.1, ?_⟩
  have h2 : s.take (allT s).2.1 = enL (allT s).1 := h.2
  have hl := congrArg List.length h2
  rw [List.length_take, Nat.min_eq_left (allT_le s)] at hl
  unfold fileJ
  rw [List.take_length]
  show (⟨s.take (allT s).2.1, (allT s).2.1, (allT s).1, (allT s).1.length⟩ : Jr) = ⟨enL (allT s).1, (enL (allT s).1).length, (allT s).1, (allT s).1.length⟩
  rw [h2, hl]
theorem numV_ge (L : List Rc) : -1 ≤ numV L ∧ numV L < 4294967296 := by
  cases L with
  | nil => exact ⟨Int.le_refl _, by decide⟩
  | cons r t =>
    have h := opn.rdN4_lt (r.body, 0)
    have h2 := opn.rdN_nonneg 4 (r.body, 0)
    have e : numV (r :: t) = (if r.k ≠ 1 then (-1 : Int) else if endE (rdN 4 (r.body, 0)).2 ≠ 0 then -1 else if (r :: t).any (fun x => decide (x.k = 2)) = true then (rdN 4 (r.body, 0)).1 else -1) := rfl
    rw [e]
    split
    · omega
    · split
      · omega
      · split <;> omega
theorem num_more {A : List Rc} (B : List Rc) (h : 0 ≤ numV A) : numV (A ++ B) = numV A := by
  cases A with
  | nil => exact absurd h (by decide)
  | cons r t =>
    have e : numV (r :: t) = (if r.k ≠ 1 then (-1 : Int) else if endE (rdN 4 (r.body, 0)).2 ≠ 0 then -1 else if (r :: t).any (fun x => decide (x.k = 2)) = true then (rdN 4 (r.body, 0)).1 else -1) := rfl
    have e2 : numV (r :: t ++ B) = (if r.k ≠ 1 then (-1 : Int) else if endE (rdN 4 (r.body, 0)).2 ≠ 0 then -1 else if (r :: t ++ B).any (fun x => decide (x.k = 2)) = true then (rdN 4 (r.body, 0)).1 else -1) := rfl
    rw [e2, e]
    rw [e] at h
    by_cases c1 : r.k ≠ 1
    · rw [if_pos c1] at h; omega
    rw [if_neg c1] at h ⊢
    by_cases c2 : endE (rdN 4 (r.body, 0)).2 ≠ 0
    · rw [if_pos c2] at h; omega
    rw [if_neg c2] at h ⊢
    by_cases c3 : (r :: t).any (fun x => decide (x.k = 2)) = true
    · rw [if_neg c1, if_neg c2, if_pos c3, if_pos (by rw [List.any_append, c3, Bool.true_or])]
    · rw [if_neg c3] at h; omega
theorem num_take {G : List Rc} {m k : Nat} (hm : m ≤ k) (h : 0 ≤ numV (G.take m)) : 0 ≤ numV (G.take k) := by
  have e : G.take k = G.take m ++ (G.take k).drop m := by
    have := (List.take_append_drop m (G.take k)).symm
    rw [List.take_take, Nat.min_eq_left hm] at this
    exact this
  rw [e, num_more _ h]
  exact h

/-! What stands while a vault lives. -/
/-- a file of records, so many of them safe -/
def FileV (j : Jr) : Prop := ∃ G m, j = fileJ G m ∧ allOk G ∧ m ≤ G.length
/-- .. whose safe part makes it whole -/
def Kept (j : Jr) : Prop := 0 ≤ numV (j.l.take j.m)
def Vt.othr (v : Vt) : Jr := if v.use = 0 then v.b else v.a
structure Snd (v : Vt) : Prop where
  c : FileV v.cur
  o : FileV v.othr
  k : Kept v.cur
  use : v.use = 0 ∨ v.use = 1
  no : 0 ≤ v.no ∧ v.no < 4294967296
theorem FileV.zero : FileV j0 := ⟨[], 0, rfl, (fun r hr => by cases hr), Nat.le_refl _⟩
theorem FileV.open (s : List UInt8) : FileV (openJ s) := ⟨_, _, (open_any s).2, (open_any s).1, Nat.le_refl _⟩
theorem FileV.app {j : Jr} (h : FileV j) {r : Rc} (hr : checkR r = 0) : FileV (appJ j r).1 := by
  obtain ⟨G, m, rfl, hG, hm⟩ := h
  rw [app_file G m r hm hr]
  refine ⟨G ++ [r], m, rfl, fun x hx => ?_, by rw [List.length_append]; omega⟩
  rcases List.mem_append.1 hx with h | h
  · exact hG x h
  · rw [List.mem_singleton.1 h]; exact hr
theorem FileV.sync {j : Jr} (h : FileV j) : FileV (syncJ j).1 := by
  obtain ⟨G, m, rfl, hG, hm⟩ := h
  rw [sync_file]
  exact ⟨G, _, rfl, hG, Nat.le_refl _⟩
theorem FileV.crash {j : Jr} (n : Int) : FileV (crashJ j n) := FileV.open _
theorem Kept.app {j : Jr} (h : Kept j) (hj : FileV j) {r : Rc} (hr : checkR r = 0) : Kept (appJ j r).1 := by
  obtain ⟨G, m, rfl, hG, hm⟩ := hj
  rw [app_file G m r hm hr]
  show 0 ≤ numV ((G ++ [r]).take m)
  rw [List.take_append_of_le_length hm]
  exact h
theorem Kept.sync {j : Jr} (h : Kept j) (hj : FileV j) : Kept (syncJ j).1 := by
  obtain ⟨G, m, rfl, hG, hm⟩ := hj
  rw [sync_file]
  exact num_take hm h
/-- what is left of it is whole -/
theorem Kept.crash {j : Jr} (h : Kept j) (hj : FileV j) (n : Int) : 0 ≤ numV (openJ (crashJ j n).s).l := by
  obtain ⟨G, m, rfl, hG, hm⟩ := hj
  obtain ⟨W, e, h1, h2⟩ := crash_file G hG m hm n
  rw [e, show (fileJ (G.take W) W).s = enL (G.take W) from rfl, open_file (G.take W) fun r hr => hG r (List.mem_of_mem_take hr)]
  exact num_take h1 h
theorem Kept.opened {j : Jr} (h : Kept j) (hj : FileV j) : 0 ≤ numV (openJ j.s).l := by
  obtain ⟨G, m, rfl, hG, hm⟩ := hj
  rw [show (fileJ G m).s = enL G from rfl, open_file G hG]
  have : 0 ≤ numV (G.take G.length) := num_take hm h
  rw [List.take_length] at this
  exact this
theorem Snd.pick (s t : List UInt8) (h : ¬ noneV (openJ s) (openJ t)) : Snd (pickV (openJ s) (openJ t)) := by
  have hs := (open_any s).2
  have ht := (open_any t).2
  have ls := numV_ge (openJ s).l
  have lt := numV_ge (openJ t).l
  have ks : 0 ≤ numV (openJ s).l → Kept (openJ s) := fun h => by
    unfold Kept
    rw [show (openJ s).m = (openJ s).l.length from rfl, List.take_length]
    exact h
  have kt : 0 ≤ numV (openJ t).l → Kept (openJ t) := fun h => by
    unfold Kept
    rw [show (openJ t).m = (openJ t).l.length from rfl, List.take_length]
    exact h
  unfold noneV at h
  unfold pickV
  split
  · exact ⟨FileV.open t, FileV.open s, kt (by omega), .inr rfl, ⟨by simp only; omega, lt.2⟩⟩
  · exact ⟨FileV.open s, FileV.open t, ks (by omega), .inl rfl, ⟨by simp only; omega, ls.2⟩⟩
section
variable {v : Vt}
theorem cur_set (v : Vt) (j : Jr) : (v.set j).cur = j := by
  unfold Vt.set Vt.cur
  by_cases h : v.use = 0
  · rw [if_pos h]; simp only; rw [if_pos h]
  · rw [if_neg h]; simp only; rw [if_neg h]
theorem othr_set (v : Vt) (j : Jr) : (v.set j).othr = v.othr := by
  unfold Vt.set Vt.othr
  by_cases h : v.use = 0
  · rw [if_pos h]; simp only; rw [if_pos h, if_pos h]
  · rw [if_neg h]; simp only; rw [if_neg h, if_neg h]
theorem use_set (v : Vt) (j : Jr) : (v.set j).use = v.use := by unfold Vt.set; split <;> rfl
theorem no_set (v : Vt) (j : Jr) : (v.set j).no = v.no := by unfold Vt.set; split <;> rfl
theorem cur_oth (v : Vt) (j : Jr) : (v.oth j).cur = v.cur := by
  unfold Vt.oth Vt.cur
  by_cases h : v.use = 0
  · rw [if_pos h]; simp only; rw [if_pos h, if_pos h]
  · rw [if_neg h]; simp only; rw [if_neg h, if_neg h]
theorem othr_oth (v : Vt) (j : Jr) : (v.oth j).othr = j := by
  unfold Vt.oth Vt.othr
  by_cases h : v.use = 0
  · rw [if_pos h]; simp only; rw [if_pos h]
  · rw [if_neg h]; simp only; rw [if_neg h]
theorem use_oth (v : Vt) (j : Jr) : (v.oth j).use = v.use := by unfold Vt.oth; split <;> rfl
theorem no_oth (v : Vt) (j : Jr) : (v.oth j).no = v.no := by unfold Vt.oth; split <;> rfl
theorem Snd.set (h : Snd v) {j : Jr} (hj : FileV j) (hk : Kept j) : Snd (v.set j) :=
  ⟨by rw [cur_set]; exact hj, by rw [othr_set]; exact h.o, by rw [cur_set]; exact hk, by rw [use_set]; exact h.use, by rw [no_set]; exact h.no⟩
theorem Snd.oth (h : Snd v) {j : Jr} (hj : FileV j) : Snd (v.oth j) :=
  ⟨by rw [cur_oth]; exact h.c, by rw [othr_oth]; exact hj, by rw [cur_oth]; exact h.k, by rw [use_oth]; exact h.use, by rw [no_oth]; exact h.no⟩
theorem Snd.sync (h : Snd v) : Snd (syncV v).1 := h.set h.c.sync (h.k.sync h.c)
theorem Snd.app (h : Snd v) {s : List UInt8} (hs : s.length ≤ 1048576) : Snd (appV v s).1 := by
  unfold appV
  rw [if_neg (by omega)]
  exact h.set (h.c.app (checkR_ent hs)) (h.k.app h.c (checkR_ent hs))
/-- one of them is whole -/
theorem none_of (h : 0 ≤ numV (openJ v.cur.s).l) : ¬ noneV (openJ v.a.s) (openJ v.b.s) := by
  unfold Vt.cur at h
  unfold noneV
  split at h <;> omega
theorem Snd.again (h : 0 ≤ numV (openJ v.cur.s).l) : (loadV v.a.s v.b.s).2.2 = 0 ∧ Snd (againV v).1 ∧ againV v = (pickV (openJ v.a.s) (openJ v.b.s), heldV (pickV (openJ v.a.s) (openJ v.b.s)).cur.l) := by
  have hn := none_of h
  unfold againV loadV
  rw [if_neg hn]
  exact ⟨rfl, Snd.pick _ _ hn, rfl⟩
theorem Snd.crash (h : Snd v) (n : Int) : 0 ≤ numV (openJ (v.set (crashJ v.cur n)).cur.s).l := by
  rw [cur_set]
  exact h.k.crash h.c n
theorem Snd.opened (h : Snd v) : 0 ≤ numV (openJ v.cur.s).l := h.k.opened h.c
/-- a snapshot's file -/
theorem lay_v (no : Int) (l : List (List UInt8)) (h : ∀ s ∈ l, s.length ≤ 1048576) : FileV (layJ no l) := by
  rw [lay_file no l h]
  exact ⟨_, _, rfl, snap_ok h, Nat.zero_le _⟩
theorem lay_kept (no : Int) (h0 : 0 ≤ no + 1) (h1 : no + 1 < 4294967296) (l : List (List UInt8)) (h : ∀ s ∈ l, s.length ≤ 1048576) : Kept (syncJ (layJ no l)).1 := by
  rw [lay_file no l h, sync_file]
  show 0 ≤ numV ((snapG (no + 1) l).take (snapG (no + 1) l).length)
  rw [List.take_length, snap_num (no + 1) h0 h1]
  exact h0
end
end Go.Proofs.YtkbbeioednhefaaDoor.vt
