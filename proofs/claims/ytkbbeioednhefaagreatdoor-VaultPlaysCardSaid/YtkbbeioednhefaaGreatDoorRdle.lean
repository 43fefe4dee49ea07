/-
  The landed vault, plainly: whatever bytes a file has, what is read of it are its records' bytes; what stands while a vault lives.
  The landed vault: a Vault's block and its two journals; made, other, entry, Use; of one that nobody made.
  octet's Reader: End.
  octet's Reader by plain functions: End.
-/
import Derived.Test.YtkbbeioednhefaaGreatDoorVtp
import Derived.Test.YtkbbeioednhefaaGreatDoorRdm
import Derived.Test.YtkbbeioednhefaaGreatDoorJnn
import Derived.Test.YtkbbeioednhefaaGreatDoorVtis
import Derived.Test.YtkbbeioednhefaaGreatDoorRdl
namespace Go.Proofs.YtkbbeioednhefaaGreatDoor.vt
open Go.Proofs.YtkbbeioednhefaaGreatDoor.rcd Go.Proofs.YtkbbeioednhefaaGreatDoor.jn
open Go.Proofs.YtkbbeioednhefaaGreatDoor.opn (b1 b4 num rd rdN endE back_1 back_4 back_rd rd_err' num_nonneg)

/-- a record that is read has been put -/
theorem first_of {t : List UInt8} (h : (firstR t).2.2 = 0) : checkR (firstR t).1 = 0 ∧ t = enR (firstR t).1 ++ t.drop (firstR t).2.1.toNat := by
  have e : firstR t = (if (rdN 4 (t, 0)).2.2 ≠ 0 then (zrc, 0, 2) else if 1048576 < (rdN 4 (t, 0)).1 then (zrc, 0, 3)
    else if (rdN 4 (rd (rdN 4 (t, 0)).1.toNat (rdN 1 (rdN 4 (t, 0)).2).2).2).2.2 ≠ 0 then (zrc, 0, 2)
    else if (rdN 1 (rdN 4 (t, 0)).2).1 < 1 ∨ 3 < (rdN 1 (rdN 4 (t, 0)).2).1 then (zrc, 0, 10)
    else if sumI ⟨(rdN 1 (rdN 4 (t, 0)).2).1, (rd (rdN 4 (t, 0)).1.toNat (rdN 1 (rdN 4 (t, 0)).2).2).1⟩ ≠ (rdN 4 (rd (rdN 4 (t, 0)).1.toNat (rdN 1 (rdN 4 (t, 0)).2).2).2).1 then (zrc, 0, 13)
    else (⟨(rdN 1 (rdN 4 (t, 0)).2).1, (rd (rdN 4 (t, 0)).1.toNat (rdN 1 (rdN 4 (t, 0)).2).2).1⟩, (rdN 4 (t, 0)).1 + 9, 0)) := rfl
  obtain ⟨A, hA⟩ : ∃ A, A = rdN 4 (t, 0) := ⟨_, rfl⟩
  have a0 : 0 ≤ A.1 := by rw [hA]; exact num_nonneg _
  have ha := back_4 (t, 0)
  rw [← hA] at e ha
  obtain ⟨K, hK⟩ : ∃ K, K = rdN 1 A.2 := ⟨_, rfl⟩
  have hk := back_1 A.2
  rw [← hK] at e hk
  obtain ⟨B, hB⟩ : ∃ B, B = rd A.1.toNat K.2 := ⟨_, rfl⟩
  have hb := back_rd A.1.toNat K.2
  have hb2 := fun (h : B.2.2 = 0) => rd_err' (n := A.1.toNat) (st := K.2) (by rw [← hB]; exact h)
  rw [← hB] at e hb
  obtain ⟨S, hS⟩ : ∃ S, S = rdN 4 B.2 := ⟨_, rfl⟩
  have hs := back_4 B.2
  have hs2 := fun (h : S.2.2 = 0) => rd_err' (n := 4) (st := B.2) (by rw [hS] at h; exact h)
  have hk2 := fun (h : K.2.2 = 0) => rd_err' (n := 1) (st := A.2) (by rw [hK] at h; exact h)
  rw [← hS] at e hs
  by_cases c1 : A.2.2 ≠ 0
  · rw [e, if_pos c1] at h; cases h
  rw [if_neg c1] at e
  by_cases c2 : 1048576 < A.1
  · rw [e, if_pos c2] at h; cases h
  rw [if_neg c2] at e
  by_cases c3 : S.2.2 ≠ 0
  · rw [e, if_pos c3] at h; cases h
  rw [if_neg c3] at e
  by_cases c4 : K.1 < 1 ∨ 3 < K.1
  · rw [e, if_pos c4] at h; cases h
  rw [if_neg c4] at e
  by_cases c5 : sumI ⟨K.1, B.1⟩ ≠ S.1
  · rw [e, if_pos c5] at h; cases h
  rw [if_neg c5] at e
  have s0 : S.2.2 = 0 := Decidable.not_not.1 c3
  have b0 : B.2.2 = 0 := hs2 s0
  have k0 : K.2.2 = 0 := hb2 b0
  have e1 := congrArg Prod.fst (ha (Decidable.not_not.1 c1))
  have e2 := congrArg Prod.fst (hk k0)
  obtain ⟨e3, e4⟩ := hb b0
  have e3 := congrArg Prod.fst e3
  have e5 := congrArg Prod.fst (hs s0)
  simp only at e1 e2 e3 e5
  have hl : (B.1.length : Int) = A.1 := by rw [e4]; omega
  have hen : enR ⟨K.1, B.1⟩ = b4 A.1 ++ (b1 K.1 ++ B.1) ++ b4 S.1 := by
    unfold enR inner
    simp only
    rw [hl, Decidable.not_not.1 c5]
  have ht : t = enR ⟨K.1, B.1⟩ ++ S.2.1 := by
    rw [hen]
    conv => lhs; rw [e1, e2, e3, e5]
    simp only [List.append_assoc]
  rw [e]
  refine ⟨?_, ?_⟩
  · unfold checkR
    simp only
    rw [if_neg c4, if_neg (by omega)]
  · simp only
    have hlen : (enR ⟨K.1, B.1⟩).length = (A.1 + 9).toNat := by rw [enR_len]; simp only; omega
    have hd : t.drop (A.1 + 9).toNat = S.2.1 := by
      conv => lhs; rw [ht]
      exact List.drop_left' hlen
    rw [hd]
    exact ht
theorem all_of : ∀ (n : Nat) (t : List UInt8), (∀ r ∈ (allR n t).1, checkR r = 0) ∧ t.take (allR n t).2.1 = enL (allR n t).1
  | 0, t => by
    unfold allR
    exact ⟨fun r hr => (by cases hr), rfl⟩
  | n + 1, t => by
    unfold allR
    by_cases h0 : t = []
    · rw [if_pos h0]
      exact ⟨fun r hr => (by cases hr), rfl⟩
    rw [if_neg h0]
    by_cases h1 : (firstR t).2.2 ≠ 0
    · rw [if_pos h1]
      exact ⟨fun r hr => (by cases hr), rfl⟩
    rw [if_neg h1]
    have hf := first_of (Decidable.not_not.1 h1)
    have hz := first_size (Decidable.not_not.1 h1)
    have hi := all_of n (t.drop (firstR t).2.1.toNat)
    simp only
    refine ⟨fun r hr => (List.mem_cons.1 hr).elim (fun e => by rw [e]; exact hf.1) (hi.1 r), ?_⟩
    rw [enL_cons, ← hi.2]
    have hl : (enR (firstR t).1).length = (firstR t).2.1.toNat := by
      have h2 := congrArg List.length hf.2
      rw [List.length_append, List.length_drop] at h2
      omega
    have ht : t.take (firstR t).2.1.toNat = enR (firstR t).1 := by
      have h3 := congrArg (List.take (firstR t).2.1.toNat) hf.2
      rw [List.take_left' hl] at h3
      exact h3
    rw [← ht]
    exact List.take_add
/-- whatever bytes a file has: it is opened as its records -/
theorem open_any (s : List UInt8) : allOk (openJ s).l ∧ openJ s = fileJ (openJ s).l (openJ s).l.length := by
  have h := all_of s.length s
  refine ⟨h.1, ?_⟩
  have h2 : s.take (allT s).2.1 = enL (allT s).1 := h.2
  have hl := congrArg List.length h2
  rw [List.length_take, Nat.min_eq_left (allT_le s)] at hl
  unfold fileJ
  rw [List.take_length]
  show (⟨s.take (allT s).2.1, (allT s).2.1, (allT s).1, (allT s).1.length⟩ : Jr) = ⟨enL (allT s).1, (enL (allT s).1).length, (allT s).1, (allT s).1.length⟩
  rw [h2, hl]
theorem numV_ge (L : List Rc) : -1 ≤ numV L ∧ numV L < 4294967296 := by
  cases L with
  | nil => exact ⟨Int.le_refl _, by decide⟩
  | cons r t =>
    have h := opn.rdN4_lt (r.body, 0)
    have h2 := opn.rdN_nonneg 4 (r.body, 0)
    have e : numV (r :: t) = (if r.k ≠ 1 then (-1 : Int) else if endE (rdN 4 (r.body, 0)).2 ≠ 0 then -1 else if (r :: t).any (fun x => decide (x.k = 2)) = true then (rdN 4 (r.body, 0)).1 else -1) := rfl
    rw [e]
    split
    · omega
    · split
      · omega
      · split <;> omega
theorem num_more {A : List Rc} (B : List Rc) (h : 0 ≤ numV A) : numV (A ++ B) = numV A := by
  cases A with
  | nil => exact absurd h (by decide)
  | cons r t =>
    have e : numV (r :: t) = (if r.k ≠ 1 then (-1 : Int) else if endE (rdN 4 (r.body, 0)).2 ≠ 0 then -1 else if (r :: t).any (fun x => decide (x.k = 2)) = true then (rdN 4 (r.body, 0)).1 else -1) := rfl
    have e2 : numV (r :: t ++ B) = (if r.k ≠ 1 then (-1 : Int) else if endE (rdN 4 (r.body, 0)).2 ≠ 0 then -1 else if (r :: t ++ B).any (fun x => decide (x.k = 2)) = true then (rdN 4 (r.body, 0)).1 else -1) := rfl
    rw [e2, e]
    rw [e] at h
    by_cases c1 : r.k ≠ 1
    · rw [if_pos c1] at h; omega
    rw [if_neg c1] at h ⊢
    by_cases c2 : endE (rdN 4 (r.body, 0)).2 ≠ 0
    · rw [if_pos c2] at h; omega
    rw [if_neg c2] at h ⊢
    by_cases c3 : (r :: t).any (fun x => decide (x.k = 2)) = true
    · rw [if_neg c1, if_neg c2, if_pos c3, if_pos (by rw [List.any_append, c3, Bool.true_or])]
    · rw [if_neg c3] at h; omega
theorem num_take {G : List Rc} {m k : Nat} (hm : m ≤ k) (h : 0 ≤ numV (G.take m)) : 0 ≤ numV (G.take k) := by
  have e : G.take k = G.take m ++ (G.take k).drop m := by
    have := (List.take_append_drop m (G.take k)).symm
    rw [List.take_take, Nat.min_eq_left hm] at this
    exact this
  rw [e, num_more _ h]
  exact h

/-! What stands while a vault lives. -/
/-- a file of records, so many of them safe -/
def FileV (j : Jr) : Prop := ∃ G m, j = fileJ G m ∧ allOk G ∧ m ≤ G.length
/-- .. whose safe part makes it whole -/
def Kept (j : Jr) : Prop := 0 ≤ numV (j.l.take j.m)
def Vt.othr (v : Vt) : Jr := if v.use = 0 then v.b else v.a
structure Snd (v : Vt) : Prop where
  c : FileV v.cur
  o : FileV v.othr
  k : Kept v.cur
  use : v.use = 0 ∨ v.use = 1
  no : 0 ≤ v.no ∧ v.no < 4294967296
theorem FileV.zero : FileV j0 := ⟨[], 0, rfl, (fun r hr => by cases hr), Nat.le_refl _⟩
theorem FileV.open (s : List UInt8) : FileV (openJ s) := ⟨_, _, (open_any s).2, (open_any s).1, Nat.le_refl _⟩
theorem FileV.app {j : Jr} (h : FileV j) {r : Rc} (hr : checkR r = 0) : FileV (appJ j r).1 := by
  obtain ⟨G, m, rfl, hG, hm⟩ := h
  rw [app_file G m r hm hr]
  refine ⟨G ++ [r], m, rfl, fun x hx => ?_, by rw [List.length_append]; omega⟩
  rcases List.mem_append.1 hx with h | h
  · exact hG x h
  · rw [List.mem_singleton.1 h]; exact hr
theorem FileV.sync {j : Jr} (h : FileV j) : FileV (syncJ j).1 := by
  obtain ⟨G, m, rfl, hG, hm⟩ := h
  rw [sync_file]
  exact ⟨G, _, rfl, hG, Nat.le_refl _⟩
theorem FileV.crash {j : Jr} (n : Int) : FileV (crashJ j n) := FileV.open _
theorem Kept.app {j : Jr} (h : Kept j) (hj : FileV j) {r : Rc} (hr : checkR r = 0) : Kept (appJ j r).1 := by
  obtain ⟨G, m, rfl, hG, hm⟩ := hj
  rw [app_file G m r hm hr]
  show 0 ≤ numV ((G ++ [r]).take m)
  rw [List.take_append_of_le_length hm]
  exact h
theorem Kept.sync {j : Jr} (h : Kept j) (hj : FileV j) : Kept (syncJ j).1 := by
  obtain ⟨G, m, rfl, hG, hm⟩ := hj
  rw [sync_file]
  exact num_take hm h
/-- what is left of it is whole -/
theorem Kept.crash {j : Jr} (h : Kept j) (hj : FileV j) (n : Int) : 0 ≤ numV (openJ (crashJ j n).s).l := by
  obtain ⟨G, m, rfl, hG, hm⟩ := hj
  obtain ⟨W, e, h1, h2⟩ := crash_file G hG m hm n
  rw [e, show (fileJ (G.take W) W).s = enL (G.take W) from rfl, open_file (G.take W) fun r hr => hG r (List.mem_of_mem_take hr)]
  exact num_take h1 h
theorem Kept.opened {j : Jr} (h : Kept j) (hj : FileV j) : 0 ≤ numV (openJ j.s).l := by
  obtain ⟨G, m, rfl, hG, hm⟩ := hj
  rw [show (fileJ G m).s = enL G from rfl, open_file G hG]
  have : 0 ≤ numV (G.take G.length) := num_take hm h
  rw [List.take_length] at this
  exact this
theorem Snd.pick (s t : List UInt8) (h : ¬ noneV (openJ s) (openJ t)) : Snd (pickV (openJ s) (openJ t)) := by
  have hs := (open_any s).2
  have ht := (open_any t).2
  have ls := numV_ge (openJ s).l
  have lt := numV_ge (openJ t).l
  have ks : 0 ≤ numV (openJ s).l → Kept (openJ s) := fun h => by
    unfold Kept
    rw [show (openJ s).m = (openJ s).l.length from rfl, List.take_length]
    exact h
  have kt : 0 ≤ numV (openJ t).l → Kept (openJ t) := fun h => by
    unfold Kept
    rw [show (openJ t).m = (openJ t).l.length from rfl, List.take_length]
    exact h
  unfold noneV at h
  unfold pickV
  split
  · exact ⟨FileV.open t, FileV.open s, kt (by omega), .inr rfl, ⟨by simp only; omega, lt.2⟩⟩
  · exact ⟨FileV.open s, FileV.open t, ks (by omega), .inl rfl, ⟨by simp only; omega, ls.2⟩⟩
section
variable {v : Vt}
theorem cur_set (v : Vt) (j : Jr) : (v.set j).cur = j := by
  unfold Vt.set Vt.cur
  by_cases h : v.use = 0
  · rw [if_pos h]; simp only; rw [if_pos h]
  · rw [if_neg h]; simp only; rw [if_neg h]
theorem othr_set (v : Vt) (j : Jr) : (v.set j).othr = v.othr := by
  unfold Vt.set Vt.othr
  by_cases h : v.use = 0
  · rw [if_pos h]; simp only; rw [if_pos h, if_pos h]
  · rw [if_neg h]; simp only; rw [if_neg h, if_neg h]
theorem use_set (v : Vt) (j : Jr) : (v.set j).use = v.use := by unfold Vt.set; split <;> rfl
theorem no_set (v : Vt) (j : Jr) : (v.set j).no = v.no := by unfold Vt.set; split <;> rfl
theorem cur_oth (v : Vt) (j : Jr) : (v.oth j).cur = v.cur := by
  unfold Vt.oth Vt.cur
  by_cases h : v.use = 0
  · rw [if_pos h]; simp only; rw [if_pos h, if_pos h]
  · rw [if_neg h]; simp only; rw [if_neg h, if_neg h]
theorem othr_oth (v : Vt) (j : Jr) : (v.oth j).othr = j := by
  unfold Vt.oth Vt.othr
  by_cases h : v.use = 0
  · rw [if_pos h]; simp only; rw [if_pos h]
  · rw [if_neg h]; simp only; rw [if_neg h]
theorem use_oth (v : Vt) (j : Jr) : (v.oth j).use = v.use := by unfold Vt.oth; split <;> rfl
theorem no_oth (v : Vt) (j : Jr) : (v.oth j).no = v.no := by unfold Vt.oth; split <;> rfl
theorem Snd.set (h : Snd v) {j : Jr} (hj : FileV j) (hk : Kept j) : Snd (v.set j) :=
  ⟨by rw [cur_set]; exact hj, by rw [othr_set]; exact h.o, by rw [cur_set]; exact hk, by rw [use_set]; exact h.use, by rw [no_set]; exact h.no⟩
theorem Snd.oth (h : Snd v) {j : Jr} (hj : FileV j) : Snd (v.oth j) :=
  ⟨by rw [cur_oth]; exact h.c, by rw [othr_oth]; exact hj, by rw [cur_oth]; exact h.k, by rw [use_oth]; exact h.use, by rw [no_oth]; exact h.no⟩
theorem Snd.sync (h : Snd v) : Snd (syncV v).1 := h.set h.c.sync (h.k.sync h.c)
theorem Snd.app (h : Snd v) {s : List UInt8} (hs : s.length ≤ 1048576) : Snd (appV v s).1 := by
  unfold appV
  rw [if_neg (by omega)]
  exact h.set (h.c.app (checkR_ent hs)) (h.k.app h.c (checkR_ent hs))
/-- one of them is whole -/
theorem none_of (h : 0 ≤ numV (openJ v.cur.s).l) : ¬ noneV (openJ v.a.s) (openJ v.b.s) := by
  unfold Vt.cur at h
  unfold noneV
  split at h <;> omega
theorem Snd.again (h : 0 ≤ numV (openJ v.cur.s).l) : (loadV v.a.s v.b.s).2.2 = 0 ∧ Snd (againV v).1 ∧ againV v = (pickV (openJ v.a.s) (openJ v.b.s), heldV (pickV (openJ v.a.s) (openJ v.b.s)).cur.l) := by
  have hn := none_of h
  unfold againV loadV
  rw [if_neg hn]
  exact ⟨rfl, Snd.pick _ _ hn, rfl⟩
theorem Snd.crash (h : Snd v) (n : Int) : 0 ≤ numV (openJ (v.set (crashJ v.cur n)).cur.s).l := by
  rw [cur_set]
  exact h.k.crash h.c n
theorem Snd.opened (h : Snd v) : 0 ≤ numV (openJ v.cur.s).l := h.k.opened h.c
/-- a snapshot's file -/
theorem lay_v (no : Int) (l : List (List UInt8)) (h : ∀ s ∈ l, s.length ≤ 1048576) : FileV (layJ no l) := by
  rw [lay_file no l h]
  exact ⟨_, _, rfl, snap_ok h, Nat.zero_le _⟩
theorem lay_kept (no : Int) (h0 : 0 ≤ no + 1) (h1 : no + 1 < 4294967296) (l : List (List UInt8)) (h : ∀ s ∈ l, s.length ≤ 1048576) : Kept (syncJ (layJ no l)).1 := by
  rw [lay_file no l h, sync_file]
  show 0 ≤ numV ((snapG (no + 1) l).take (snapG (no + 1) l).length)
  rw [List.take_length, snap_num (no + 1) h0 h1]
  exact h0
end
end Go.Proofs.YtkbbeioednhefaaGreatDoor.vt

namespace Go.Proofs.YtkbbeioednhefaaGreatDoor.vt
open Go.RowKit Go.Proofs.YtkbbeioednhefaaGreatDoor.mem Go.Proofs.YtkbbeioednhefaaGreatDoor.sha Go.Proofs.YtkbbeioednhefaaGreatDoor.strx Go.Proofs.YtkbbeioednhefaaGreatDoor.rows Go.Proofs.YtkbbeioednhefaaGreatDoor.ids Go.Proofs.YtkbbeioednhefaaGreatDoor.rcd Go.Proofs.YtkbbeioednhefaaGreatDoor.jn Go.Proofs.YtkbbeioednhefaaGreatDoor.txl

/-- a Vault's block: itself, its two files, which of them is in use, that one's number -/
def VBlk (w : World) (g : Nat) (sv fa fb : Value) (u n : Int) : Prop := Blk w g 70 #[sv, fa, fb, .int .i64 u, .int .i64 n]
section
variable {w : World} {g : Nat} {sv fa fb : Value} {u n : Int}
theorem VBlk.c0 (h : VBlk w g sv fa fb u n) : w.cell? ⟨g, 0, none⟩ = some sv := Blk.cell h 0
theorem VBlk.c1 (h : VBlk w g sv fa fb u n) : w.cell? ⟨g, 1, none⟩ = some fa := Blk.cell h 1
theorem VBlk.c2 (h : VBlk w g sv fa fb u n) : w.cell? ⟨g, 2, none⟩ = some fb := Blk.cell h 2
theorem VBlk.c3 (h : VBlk w g sv fa fb u n) : w.cell? ⟨g, 3, none⟩ = some (.int .i64 u) := Blk.cell h 3
theorem VBlk.c4 (h : VBlk w g sv fa fb u n) : w.cell? ⟨g, 4, none⟩ = some (.int .i64 n) := Blk.cell h 4
end
/-- .. the file in use at pc, in the blocks of A; the other one at po, in those of B -/
structure VtOf (G : Nat → Prop) (w : World) (g : Nat) (v : Vt) (pc po bc bo : Value) (A B : Nat → Prop) : Prop where
  blk : VBlk w g (.pointer (some ⟨g, 0, none⟩)) (if v.use = 0 then pc else po) (if v.use = 0 then po else pc) v.use v.no
  c : JnL A w pc bc v.cur
  o : JnL B w po bo v.othr
  a : ∀ k, A k → G k ∧ k ≠ g ∧ k < w.heap.size
  b : ∀ k, B k → G k ∧ k ≠ g ∧ k < w.heap.size
  ab : ∀ k, A k → ¬ B k
  g : G g ∧ g ≠ 0
  s : Snd v
theorem JnL.form {G : Nat → Prop} {w : World} {p b : Value} {j : Jr} (h : JnL G w p b j) : ∃ k, p = .pointer (some ⟨k, 0, none⟩) ∧ w.cell? ⟨k, 0, none⟩ = some b ∧ k < w.heap.size ∧ G k := by
  obtain ⟨k, hp, hj, _, hg, _⟩ := h
  exact ⟨k, hp, hj.c0, Blk.lt hj, hg.1⟩
/-- a Vault that New or Load made -/
def VtL (G : Nat → Prop) (w : World) (p : Value) (v : Vt) : Prop := ∃ g pc po bc bo A B, p = .pointer (some ⟨g, 0, none⟩) ∧ VtOf G w g v pc po bc bo A B
/-- nil, or one that nobody made -/
def VtNo (w : World) (p : Value) : Prop := p = .pointer none ∨ ∃ g, p = .pointer (some ⟨g, 0, none⟩) ∧ VBlk w g (.pointer none) (.pointer none) (.pointer none) 0 0
section
variable {G H F : Nat → Prop} {w w' : World} {g : Nat} {v : Vt} {pc po bc bo : Value} {A B : Nat → Prop} {j : Jr}
theorem VtOf.lt (h : VtOf G w g v pc po bc bo A B) : g < w.heap.size := Blk.lt h.blk
theorem VtOf.turn (h : VtOf G w g v pc po bc bo A B) (ht : Turn H w w') (hd : ∀ k, k < w.heap.size → G k → ¬ H k) : VtOf G w' g v pc po bc bo A B :=
  ⟨Blk.turn h.blk ht (hd g h.lt h.g.1), jn_a.turn h.c ht fun k hk ha => hd k hk (h.a k ha).1, jn_a.turn h.o ht fun k hk hb => hd k hk (h.b k hb).1,
    fun k hk => ⟨(h.a k hk).1, (h.a k hk).2.1, Nat.lt_of_lt_of_le (h.a k hk).2.2 ht.size⟩, fun k hk => ⟨(h.b k hk).1, (h.b k hk).2.1, Nat.lt_of_lt_of_le (h.b k hk).2.2 ht.size⟩, h.ab, h.g, h.s⟩
theorem VtOf.next (h : VtOf G w g v pc po bc bo A B) (hb : Below w.heap.size w w') : VtOf G w' g v pc po bc bo A B := h.turn (Turn.ofBelow hb) fun k hk _ hh => by omega
/-- the file in use behind a call -/
theorem VtOf.cur (h : VtOf G w g v pc po bc bo A B) (hn : New G w) (hj : JnL F w' pc bc j) (hF : ∀ k, F k → A k ∨ w.heap.size ≤ k) (ht : Turn (fun k => A k ∨ w.heap.size ≤ k) w w') (hs : Snd (v.set j)) :
    VtOf G w' g (v.set j) pc po bc bo (fun k => F k ∧ k < w'.heap.size) B := by
  have hl := h.lt
  have hz := ht.size
  refine ⟨?_, by rw [cur_set]; exact jn_a.cap hj, by rw [othr_set]; exact jn_a.turn h.o ht fun k hk hb hh => hh.elim (fun x => h.ab k x hb) fun x => by omega, ?_, ?_, ?_, h.g, hs⟩
  · rw [use_set, no_set]
    exact Blk.turn h.blk ht fun hh => hh.elim (fun x => (h.a g x).2.1 rfl) fun x => by omega
  · intro k hk
    exact (hF k hk.1).elim (fun x => ⟨(h.a k x).1, (h.a k x).2.1, hk.2⟩) fun x => ⟨hn k x, by omega, hk.2⟩
  · exact fun k hk => ⟨(h.b k hk).1, (h.b k hk).2.1, Nat.lt_of_lt_of_le (h.b k hk).2.2 hz⟩
  · intro k hk hb
    exact (hF k hk.1).elim (fun x => h.ab k x hb) fun x => by have := (h.b k hb).2.2; omega
/-- the other one behind a call -/
theorem VtOf.oth (h : VtOf G w g v pc po bc bo A B) (hn : New G w) (hj : JnL F w' po bo j) (hF : ∀ k, F k → B k ∨ w.heap.size ≤ k) (ht : Turn (fun k => B k ∨ w.heap.size ≤ k) w w') (hs : Snd (v.oth j)) :
    VtOf G w' g (v.oth j) pc po bc bo A (fun k => F k ∧ k < w'.heap.size) := by
  have hl := h.lt
  have hz := ht.size
  refine ⟨?_, by rw [cur_oth]; exact jn_a.turn h.c ht fun k hk ha hh => hh.elim (fun x => h.ab k ha x) fun x => by omega, by rw [othr_oth]; exact jn_a.cap hj, ?_, ?_, ?_, h.g, hs⟩
  · rw [use_oth, no_oth]
    exact Blk.turn h.blk ht fun hh => hh.elim (fun x => (h.b g x).2.1 rfl) fun x => by omega
  · exact fun k hk => ⟨(h.a k hk).1, (h.a k hk).2.1, Nat.lt_of_lt_of_le (h.a k hk).2.2 hz⟩
  · intro k hk
    exact (hF k hk.1).elim (fun x => ⟨(h.b k x).1, (h.b k x).2.1, hk.2⟩) fun x => ⟨hn k x, by omega, hk.2⟩
  · intro k ha hk
    exact (hF k hk.1).elim (fun x => h.ab k ha x) fun x => by have := (h.a k ha).2.2; omega
/-- .. what turns is neither file's, nor the block itself -/
theorem VtOf.aside (h : VtOf G w g v pc po bc bo A B) (ht : Turn H w w') (hA : ∀ k, A k → ¬ H k) (hB : ∀ k, B k → ¬ H k) (hg : ¬ H g) : VtOf G w' g v pc po bc bo A B :=
  ⟨Blk.turn h.blk ht hg, jn_a.turn h.c ht fun k _ ha => hA k ha, jn_a.turn h.o ht fun k _ hb => hB k hb,
    fun k hk => ⟨(h.a k hk).1, (h.a k hk).2.1, Nat.lt_of_lt_of_le (h.a k hk).2.2 ht.size⟩, fun k hk => ⟨(h.b k hk).1, (h.b k hk).2.1, Nat.lt_of_lt_of_le (h.b k hk).2.2 ht.size⟩, h.ab, h.g, h.s⟩
/-- another file in the place of the other one -/
theorem VtOf.put (h : VtOf G w g v pc po bc bo A B) {p b : Value} (hj : JnL F w p b j) (hF : ∀ k, F k → G k ∧ k ≠ g ∧ k < w.heap.size) (hA : ∀ k, A k → ¬ F k) (hs : Snd (v.oth j)) (i : Nat) (hi : i = if v.use = 0 then 2 else 1) :
    VtOf G (w.setCell ⟨g, i, none⟩ p) g (v.oth j) pc p bc b A F ∧ Turn G w (w.setCell ⟨g, i, none⟩ p) := by
  have ht : Turn (· = g) w (w.setCell ⟨g, i, none⟩ p) := (Turn.refl (· = g) w).setCell (p := ⟨g, i, none⟩) rfl _
  have hz := ht.size
  refine ⟨⟨?_, by rw [cur_oth]; exact jn_a.turn h.c ht fun k _ ha hh => (h.a k ha).2.1 hh, by rw [othr_oth]; exact jn_a.turn hj ht fun k _ ha hh => (hF k ha).2.1 hh, fun k hk => ⟨(h.a k hk).1, (h.a k hk).2.1, Nat.lt_of_lt_of_le (h.a k hk).2.2 hz⟩, fun k hk => ⟨(hF k hk).1, (hF k hk).2.1, Nat.lt_of_lt_of_le (hF k hk).2.2 hz⟩, hA, h.g, hs⟩, ht.mono fun k hk => hk ▸ h.g.1⟩
  have hb := Blk.set_ h.blk i p
  rw [use_oth, no_oth]
  by_cases hu : v.use = 0
  · rw [if_pos hu] at hi
    rw [if_pos hu, if_pos hu] at hb ⊢
    subst hi
    exact hb
  · rw [if_neg hu] at hi
    rw [if_neg hu, if_neg hu] at hb ⊢
    subst hi
    exact hb
/-- what a call may turn that is asked of the file in use -/
theorem VtOf.newA (h : VtOf G w g v pc po bc bo A B) : New (fun k => A k ∨ w.heap.size ≤ k) w := fun _ hk => .inr hk
theorem VtOf.turnA (h : VtOf G w g v pc po bc bo A B) (hn : New G w) (ht : Turn (fun k => A k ∨ w.heap.size ≤ k) w w') : Turn G w w' := ht.mono fun k hk => hk.elim (fun x => (h.a k x).1) (hn k)
theorem VtOf.turnB (h : VtOf G w g v pc po bc bo A B) (hn : New G w) (ht : Turn (fun k => B k ∨ w.heap.size ≤ k) w w') : Turn G w w' := ht.mono fun k hk => hk.elim (fun x => (h.b k x).1) (hn k)
theorem FileV.wf {j : Jr} (h : FileV j) : Wf j := by
  obtain ⟨G, m, rfl, _, hm⟩ := h
  refine ⟨?_, hm⟩
  have := enL_take_le G m G.length hm
  rwa [List.take_length] at this
theorem Snd.wf {v : Vt} (h : Snd v) : WfV v := by
  have hc := h.c.wf
  have ho := h.o.wf
  unfold Vt.cur at hc
  unfold Vt.othr at ho
  by_cases hu : v.use = 0
  · rw [if_pos hu] at hc ho; exact ⟨hc, ho, h.use⟩
  · rw [if_neg hu] at hc ho; exact ⟨ho, hc, h.use⟩
theorem VtL.cap (h : VtL G w (.pointer (some ⟨g, 0, none⟩)) v) : VtL (fun k => G k ∧ k < w.heap.size) w (.pointer (some ⟨g, 0, none⟩)) v := by
  obtain ⟨g', pc, po, bc, bo, A, B, e, h⟩ := h
  exact ⟨g', pc, po, bc, bo, A, B, e, h.blk, h.c, h.o, fun k hk => ⟨⟨(h.a k hk).1, (h.a k hk).2.2⟩, (h.a k hk).2⟩, fun k hk => ⟨⟨(h.b k hk).1, (h.b k hk).2.2⟩, (h.b k hk).2⟩, h.ab, ⟨⟨h.g.1, h.lt⟩, h.g.2⟩, h.s⟩
theorem VtOf.mono (h : VtOf G w g v pc po bc bo A B) (hh : ∀ k, G k → H k) : VtOf H w g v pc po bc bo A B :=
  ⟨h.blk, h.c, h.o, fun k hk => ⟨hh k (h.a k hk).1, (h.a k hk).2⟩, fun k hk => ⟨hh k (h.b k hk).1, (h.b k hk).2⟩, h.ab, ⟨hh g h.g.1, h.g.2⟩, h.s⟩
end

theorem hasV : (Tryz.prog.info? 70).isSome = true := by kernel_rfl
theorem vt_eql (a : Addr) (w : World) : (binOp .eql 23 (.pointer (some a)) (.pointer (some a))).run Tryz.prog w = .ok (.bool true) w := by
  obtain ⟨j, hj⟩ := Option.isSome_iff_exists.1 hasV
  exact run_eql_ptr_same w a Tryz.underlying23 hj
theorem vmade_ok (g : Nat) (w : World) (h0 : w.cell? ⟨g, 0, none⟩ = some (.pointer (some ⟨g, 0, none⟩))) : Calls Tryz.prog 28 #[.pointer (some ⟨g, 0, none⟩)] w fun e w' => e = .returned (.bool true) ∧ w = w' := by
  have hne := vt_eql
  go_enter Tryz.func28, Tryz.ntmps28
  go_wp2
  go_ret
  exact ⟨rfl, rfl⟩
theorem vmade_no (p : Value) (w : World) (h : VtNo w p) : Calls Tryz.prog 28 #[p] w fun e w' => e = .returned (.bool false) ∧ w = w' := by
  rcases h with rfl | ⟨g, rfl, h⟩
  · go_enter Tryz.func28, Tryz.ntmps28
    go_wp2
    go_ret
    exact ⟨rfl, rfl⟩
  · have h0 : w.cell? ⟨g, 0, none⟩ = some (.pointer none) := h.c0
    have hne := fun a w => bk.eql_nil_left (t := 23) a w Tryz.underlying23
    clear h
    go_enter Tryz.func28, Tryz.ntmps28
    go_wp2
    go_ret
    exact ⟨rfl, rfl⟩
theorem vother_any (g : Nat) (u : Int) (w : World) (h3 : w.cell? ⟨g, 3, none⟩ = some (.int .i64 u)) (hu : u = 0 ∨ u = 1) : Calls Tryz.prog 38 #[.pointer (some ⟨g, 0, none⟩)] w fun e w' => e = .returned (.int .i64 (1 - u)) ∧ w = w' := by
  have ew : IntKind.i64.wrap (1 - u) = 1 - u := by rw [IntKind.wrap_i64]; omega
  clear hu
  go_enter Tryz.func38, Tryz.ntmps38
  go_wp2
  go_ret
  exact ⟨rfl, rfl⟩
/-- one record as the answer -/
theorem results_recv {fn : Func} {p : Tmp} (h : fn.results = #[.cell p 66]) (tmps : Array Value) (w : World) (g : Nat) (k : Int) (t : ByteArray)
    (hp : tmps.getD p undef = .pointer (some ⟨g, 0, none⟩)) (hg : Blk w g 66 #[.int .i64 k, .string t]) :
    (results fn tmps).run Tryz.prog w = .ok (.agg #[.int .i64 k, .string t]) w := by
  have hp' : tmps[p]?.getD undef = .pointer (some ⟨g, 0, none⟩) := by simpa using hp
  have hl := run_loadVar_row w g 66 66 #[.int .i64 k, .string t] (0, 0) _ hg Tryz.underlying66 rfl (by kernel_rfl)
  simp [results, h, hp', asAddr, hl]
theorem ventry_any (t : ByteArray) (w : World) : Calls Tryz.prog 30 #[.string t] w fun e w' => e = .returned (.agg #[.int .i64 3, .string t]) ∧ Below w.heap.size w w' := by
  have hb1 : Below w.heap.size w (w.alloc (.cells #[.int .i64 0, .string ⟨#[]⟩] 66)) := (Below.refl _ w).alloc (Nat.le_refl _) _
  have hB := Blk.new w 66 #[.int .i64 0, .string ⟨#[]⟩]
  obtain ⟨u, hu⟩ : ∃ u, u = w.alloc (.cells #[.int .i64 0, .string ⟨#[]⟩] 66) := ⟨_, rfl⟩
  rw [← hu] at hb1 hB
  have HU := Lib.hid hu
  have HB := Lib.hid hb1
  have HBL := Lib.hid hB
  have c0 : u.cell? ⟨w.heap.size, 0, none⟩ = some (.int .i64 0) := hB.cell 0
  have c1 : u.cell? ⟨w.heap.size, 1, none⟩ = some (.string ⟨#[]⟩) := hB.cell 1
  have f0 := hB.frozen 0
  have f1 := hB.frozen 1
  clear hu hb1 hB
  go_enter Tryz.func30, Tryz.ntmps30
  go_upto_region 1 with fail
  rw [← HU.out]
  go_wp2_with fail
  have hfin := (HBL.out.set_ 0 (.int .i64 3)).set_ 1 (.string t)
  refine bodyPost_ret (results_recv rfl _ _ w.heap.size 3 t rfl hfin) rfl ⟨rfl, ?_⟩
  exact (HB.out.setCell (p := ⟨w.heap.size, 0, none⟩) (Nat.le_refl _) _).setCell (p := ⟨w.heap.size, 1, none⟩) (Nat.le_refl _) _
section
variable {G : Nat → Prop} {w : World} {g : Nat} {v : Vt} {pc po bc bo : Value} {A B : Nat → Prop}
set_option maxHeartbeats 4000000 in
theorem vuse_any (h : VtOf G w g v pc po bc bo A B) : Calls Tryz.prog 41 #[.pointer (some ⟨g, 0, none⟩)] w fun e w' => e = .returned (.tuple #[.int .i64 v.use, .int .i64 v.no]) ∧ Below w.heap.size w w' := by
  have c0 := h.blk.c0
  have c3 := h.blk.c3
  have c4 := h.blk.c4
  have HM := Lib.hid (vmade_ok g w c0)
  clear h c0
  go_enter Tryz.func41, Tryz.ntmps41
  go_wp2_with (go_at_call 28; (with_reducible refine HM.out.mono ?_); rintro e w1 ⟨rfl, rfl⟩)
  go_quiet (fail)
  go_wp2_with fail
  refine bodyPost_ret (results_tmp2 rfl _ _ _) rfl ⟨rfl, below_drewN (Below.refl _ _) _⟩
end
end Go.Proofs.YtkbbeioednhefaaGreatDoor.vt

namespace Go.Proofs.YtkbbeioednhefaaGreatDoor.oct
open Go.RowKit Go.Proofs.YtkbbeioednhefaaGreatDoor.mem

theorem end_stuck (p : Option Addr) (e0 : Int) (w : World) (h : RFault w p e0) (h0 : e0 ≠ 0) :
    Calls Tryz.prog 87 #[.pointer p] w fun e w' => e = .returned (.int .i64 e0) ∧ w = w' := by
  have hd : (e0 != 0) = true := by simpa using h0
  clear h0
  go_enter Tryz.func87, Tryz.ntmps87
  go_wp2_with (go_at_call 99; refine (err_any _ _ _ h).mono ?_; rintro e w' ⟨rfl, rfl⟩)
  go_ret
  exact ⟨rfl, rfl⟩
theorem end_ok (g : Nat) (rest : ByteArray) (w : World) (h : RBlk w g rest 0) :
    Calls Tryz.prog 87 #[.pointer (some ⟨g, 0, none⟩)] w fun e w' => e = .returned (.int .i64 (if rest.data.toList.isEmpty then 0 else 4)) ∧ w = w' := by
  have c1 := h.c1
  by_cases he : rest.data.toList.isEmpty = true
  · rw [if_pos he]
    have h2 : (!rest.toList.isEmpty) = false := by rw [ByteArray.toList_eq, he]; rfl
    go_enter Tryz.func87, Tryz.ntmps87
    go_wp2_with (go_at_call 99; refine (err_ok _ _ _ _ h).mono ?_; rintro e w' ⟨rfl, rfl⟩)
    go_ret
    exact ⟨rfl, rfl⟩
  · rw [if_neg he]
    have he : rest.data.toList.isEmpty = false := by simpa using he
    have h2 : (!rest.toList.isEmpty) = true := by rw [ByteArray.toList_eq, he]; rfl
    go_enter Tryz.func87, Tryz.ntmps87
    go_wp2_with (go_at_call 99; refine (err_ok _ _ _ _ h).mono ?_; rintro e w' ⟨rfl, rfl⟩)
    go_ret
    exact ⟨rfl, rfl⟩
theorem end_any (g : Nat) (rest : ByteArray) (err : Int) (w : World) (h : RBlk w g rest err) :
    Calls Tryz.prog 87 #[.pointer (some ⟨g, 0, none⟩)] w fun e w' => e = .returned (.int .i64 (rEnd (rest, err))) ∧ w = w' := by
  by_cases he : err = 0
  · subst he
    have e2 : rEnd (rest, 0) = if rest.data.toList.isEmpty then 0 else 4 := by unfold rEnd; rw [if_neg (by simp)]
    rw [e2]
    exact end_ok g rest w h
  · have e2 : rEnd (rest, err) = err := by unfold rEnd; rw [if_pos he]
    rw [e2]
    exact end_stuck _ err w h.fault he
end Go.Proofs.YtkbbeioednhefaaGreatDoor.oct

namespace Go.Proofs.YtkbbeioednhefaaGreatDoor.opn
open Go.RowKit Go.Proofs.YtkbbeioednhefaaGreatDoor.mem Go.Proofs.YtkbbeioednhefaaGreatDoor.sha

theorem lsr_end {x : ByteArray × Int} {st : St} (h : Sr x st) : oct.rEnd x = endE st := by
  unfold oct.rEnd endE
  rw [h.1]
  by_cases h0 : x.2 = 0
  · have hn : ¬ (x.2 ≠ 0) := fun hh => hh h0
    rw [if_neg hn, if_neg hn, h.2 h0, oct.tx_list]
    cases st.1 with
    | nil => rfl
    | cons a l => rw [if_neg (by simp), if_neg (by simp)]
  · rw [if_pos h0, if_pos h0]
theorem lend_s (g : Nat) (st : St) (w : World) (h : RdL w g st) :
    Calls Tryz.prog 87 #[.pointer (some ⟨g, 0, none⟩)] w fun e w' => e = .returned (.int .i64 (endE st)) ∧ w = w' := by
  obtain ⟨s, e, hx, hs, -⟩ := h
  rw [← lsr_end hs]
  exact oct.end_any g s e w hx
end Go.Proofs.YtkbbeioednhefaaGreatDoor.opn
