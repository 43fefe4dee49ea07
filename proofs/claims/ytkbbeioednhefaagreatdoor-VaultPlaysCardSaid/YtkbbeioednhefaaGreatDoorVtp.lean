/-
  A vault by plain functions: two journals, which one is in use, its number; what is left behind a crash, a snapshot with a crash within.
-/
import Derived.Test.YtkbbeioednhefaaGreatDoorJnp
namespace Go.Proofs.YtkbbeioednhefaaGreatDoor.vt
open Go.Proofs.YtkbbeioednhefaaGreatDoor.rcd Go.Proofs.YtkbbeioednhefaaGreatDoor.jn
open Go.Proofs.YtkbbeioednhefaaGreatDoor.opn (b1 b4 num rd rdN endE)

def genR (n : Int) : Rc := ⟨1, b4 n⟩
def sealR : Rc := ⟨2, []⟩
def entR (s : List UInt8) : Rc := ⟨3, s⟩
def j0 : Jr := ⟨[], 0, [], 0⟩
/-- the number of a whole file; -1: it is not whole -/
def numV : List Rc → Int
  | [] => -1
  | r :: t => if r.k ≠ 1 then -1 else if endE (rdN 4 (r.body, 0)).2 ≠ 0 then -1 else if (r :: t).any (fun x => decide (x.k = 2)) = true then (rdN 4 (r.body, 0)).1 else -1
def heldV (l : List Rc) : List (List UInt8) := (l.filter fun x => decide (x.k = 3)).map (·.body)
structure Vt where
  (a b : Jr) (use : Int) (no : Int)
/-- the journal in use -/
def Vt.cur (v : Vt) : Jr := if v.use = 0 then v.a else v.b
def Vt.set (v : Vt) (j : Jr) : Vt := if v.use = 0 then { v with a := j } else { v with b := j }
/-- the other one -/
def Vt.oth (v : Vt) (j : Jr) : Vt := if v.use = 0 then { v with b := j } else { v with a := j }
def pickV (a b : Jr) : Vt := if numV a.l < numV b.l then ⟨a, b, 1, numV b.l⟩ else ⟨a, b, 0, numV a.l⟩
def noneV (a b : Jr) : Prop := numV a.l < 0 ∧ numV b.l < 0
instance (a b : Jr) : Decidable (noneV a b) := inferInstanceAs (Decidable (_ ∧ _))
def zvt : Vt := ⟨j0, j0, 0, 0⟩
def loadV (s t : List UInt8) : Vt × List (List UInt8) × Int := if noneV (openJ s) (openJ t) then (zvt, [], 4) else (pickV (openJ s) (openJ t), heldV (pickV (openJ s) (openJ t)).cur.l, 0)
def newV : Vt := ⟨(syncJ (appJ (appJ j0 (genR 0)).1 sealR).1).1, j0, 0, 0⟩
def appV (v : Vt) (s : List UInt8) : Vt × Int := if 1048576 < s.length then (v, 3) else (v.set (appJ v.cur (entR s)).1, (appJ v.cur (entR s)).2)
def syncV (v : Vt) : Vt × Int := (v.set (syncJ v.cur).1, (syncJ v.cur).2)
/-- loaded again from what the files have -/
def againV (v : Vt) : Vt × List (List UInt8) := ((loadV v.a.s v.b.s).1, (loadV v.a.s v.b.s).2.1)
def crashV (v : Vt) (n : Int) : Vt × List (List UInt8) := againV (v.set (crashJ v.cur n))
/-- a snapshot's file, not safe yet -/
def layJ (no : Int) (l : List (List UInt8)) : Jr := (appJ (l.foldl (fun j s => (appJ j (entR s)).1) (appJ j0 (genR (no + 1))).1) sealR).1
def layE (v : Vt) (l : List (List UInt8)) : Int := if 2147483647 ≤ v.no then 3 else if l.any (fun s => decide (1048576 < s.length)) = true then 3 else 0
def snapV (v : Vt) (l : List (List UInt8)) : Vt × Int :=
  if layE v l ≠ 0 then (v, layE v l) else ({ ((syncV v).1.oth (syncJ (layJ v.no l)).1) with use := 1 - v.use, no := v.no + 1 }, 0)
def dieV (v : Vt) (l : List (List UInt8)) (n : Int) : Vt × List (List UInt8) × Int :=
  if layE v l ≠ 0 then (v, [], layE v l) else ((againV ((syncV v).1.oth (crashJ (layJ v.no l) n))).1, (againV ((syncV v).1.oth (crashJ (layJ v.no l) n))).2, 0)

/-! A file as its records: G, so many of them safe. -/
def fileJ (G : List Rc) (m : Nat) : Jr := ⟨enL G, (enL (G.take m)).length, G, m⟩
theorem app_file (G : List Rc) (m : Nat) (r : Rc) (hm : m ≤ G.length) (hr : checkR r = 0) : appJ (fileJ G m) r = (fileJ (G ++ [r]) m, 0) := by
  unfold appJ fileJ
  rw [if_neg (by rw [hr]; simp), enL_snoc, List.take_append_of_le_length hm]
theorem sync_file (G : List Rc) (m : Nat) : (syncJ (fileJ G m)).1 = fileJ G G.length := by
  unfold syncJ fileJ
  rw [List.take_length]
theorem crash_file (G : List Rc) (hG : ∀ r ∈ G, checkR r = 0) (m : Nat) (hm : m ≤ G.length) (n : Int) : ∃ W, crashJ (fileJ G m) n = fileJ (G.take W) W ∧ m ≤ W ∧ W ≤ G.length := by
  obtain ⟨W, h, h1, h2⟩ := keeps1 G hG m hm n
  refine ⟨W, ?_, h1, h2⟩
  rw [show crashJ (fileJ G m) n = _ from h]
  unfold fileJ
  rw [List.take_take, Nat.min_self]
theorem open_file (G : List Rc) (hG : ∀ r ∈ G, checkR r = 0) : openJ (enL G) = fileJ G G.length := by
  unfold openJ fileJ
  rw [all_back G hG, List.take_length, List.take_length]
theorem j0_file : j0 = fileJ [] 0 := rfl
theorem checkR_gen (n : Int) : checkR (genR n) = 0 := by
  unfold checkR genR
  rw [if_neg (show ¬ ((1 : Int) < 1 ∨ (3 : Int) < 1) by decide), if_neg (by show ¬ 1048576 < (b4 n).length; rw [opn.b4_len]; decide)]
theorem checkR_seal : checkR sealR = 0 := by decide
theorem checkR_ent {s : List UInt8} (h : s.length ≤ 1048576) : checkR (entR s) = 0 := by
  unfold checkR entR
  rw [if_neg (show ¬ ((3 : Int) < 1 ∨ (3 : Int) < 3) by decide), if_neg (by show ¬ 1048576 < s.length; omega)]
theorem num_gen (n : Int) (h0 : 0 ≤ n) (h1 : n < 4294967296) (t : List Rc) : numV (genR n :: t) = if t.any (fun x => decide (x.k = 2)) = true then n else -1 := by
  have e : rdN 4 (b4 n, 0) = (n, ([], 0)) := by
    unfold rdN
    have := opn.rd_cut (b4 n) [] 4
    rw [opn.b4_len, List.append_nil, if_pos (Nat.le_refl _), List.take_of_length_le (by rw [opn.b4_len]; exact Nat.le_refl _)] at this
    rw [this, opn.num4 n h0 h1]
    rfl
  show (if (genR n).k ≠ 1 then (-1 : Int) else if endE (rdN 4 (b4 n, 0)).2 ≠ 0 then -1 else if (genR n :: t).any (fun x => decide (x.k = 2)) = true then (rdN 4 (b4 n, 0)).1 else -1) = _
  rw [if_neg (show ¬ ((genR n).k ≠ 1) from fun h => h rfl), e, if_neg (show ¬ (endE ([], 0) ≠ 0) by decide), List.any_cons, show decide ((genR n).k = 2) = false from rfl, Bool.false_or]
theorem held_ents (l : List (List UInt8)) : heldV (l.map entR) = l := by
  unfold heldV
  induction l with
  | nil => rfl
  | cons s l ih =>
    rw [List.map_cons, List.filter_cons]
    simp only [entR, decide_true, if_true, List.map_cons] at ih ⊢
    rw [ih]
theorem any_ents (l : List (List UInt8)) : (l.map entR).any (fun x => decide (x.k = 2)) = false := by
  induction l with
  | nil => rfl
  | cons s l ih => rw [List.map_cons, List.any_cons, ih]; simp [entR]

/-! The first file: a number, a seal, entries. -/
def firstG (l : List (List UInt8)) : List Rc := genR 0 :: sealR :: l.map entR
/-- .. of a snapshot -/
def snapG (no : Int) (l : List (List UInt8)) : List Rc := genR no :: (l.map entR ++ [sealR])
theorem first_ok {l : List (List UInt8)} (h : ∀ s ∈ l, s.length ≤ 1048576) : ∀ r ∈ firstG l, checkR r = 0 := by
  intro r hr
  unfold firstG at hr
  rcases List.mem_cons.1 hr with rfl | hr
  · exact checkR_gen 0
  rcases List.mem_cons.1 hr with rfl | hr
  · exact checkR_seal
  obtain ⟨s, hs, rfl⟩ := List.mem_map.1 hr
  exact checkR_ent (h s hs)
theorem snap_ok {no : Int} {l : List (List UInt8)} (h : ∀ s ∈ l, s.length ≤ 1048576) : ∀ r ∈ snapG no l, checkR r = 0 := by
  intro r hr
  unfold snapG at hr
  rcases List.mem_cons.1 hr with rfl | hr
  · exact checkR_gen no
  rcases List.mem_append.1 hr with hr | hr
  · obtain ⟨s, hs, rfl⟩ := List.mem_map.1 hr
    exact checkR_ent (h s hs)
  · rw [List.mem_singleton.1 hr]; exact checkR_seal
theorem new_file : newV = ⟨fileJ (firstG []) 2, j0, 0, 0⟩ := by
  unfold newV
  rw [j0_file, app_file [] 0 _ (Nat.le_refl _) (checkR_gen 0), app_file _ 0 _ (Nat.zero_le _) checkR_seal, sync_file]
  rfl
theorem first_num (l : List (List UInt8)) : numV (firstG l) = 0 := by
  unfold firstG
  rw [num_gen 0 (by decide) (by decide), if_pos (by simp [sealR])]
theorem first_held (l : List (List UInt8)) : heldV (firstG l) = l := by
  have := held_ents l
  unfold firstG heldV at *
  simp only [List.filter_cons, genR, sealR]
  simpa using this
theorem first_take (l : List (List UInt8)) (W : Nat) (h : 2 ≤ W) : (firstG l).take W = firstG (l.take (W - 2)) := by
  obtain ⟨k, rfl⟩ : ∃ k, W = k + 2 := ⟨W - 2, by omega⟩
  unfold firstG
  rw [List.take_succ_cons, List.take_succ_cons, Nat.add_sub_cancel, List.map_take]
theorem first_len (l : List (List UInt8)) : (firstG l).length = l.length + 2 := by simp [firstG]
theorem first_app (l : List (List UInt8)) (s : List UInt8) : firstG (l ++ [s]) = firstG l ++ [entR s] := by simp [firstG]
theorem snap_num (no : Int) (h0 : 0 ≤ no) (h1 : no < 4294967296) (l : List (List UInt8)) : numV (snapG no l) = no := by
  unfold snapG
  rw [num_gen no h0 h1, if_pos (by simp [sealR])]
theorem snap_held (no : Int) (l : List (List UInt8)) : heldV (snapG no l) = l := by
  have := held_ents l
  unfold snapG heldV at *
  simp only [List.filter_cons, List.filter_append, genR, sealR, List.map_append]
  simpa using this
theorem snap_torn (no : Int) (h0 : 0 ≤ no) (h1 : no < 4294967296) (l : List (List UInt8)) (W : Nat) (h : W < (snapG no l).length) : numV ((snapG no l).take W) < 0 := by
  have hl : (snapG no l).length = l.length + 2 := by simp [snapG]
  cases W with
  | zero => rw [List.take_zero]; decide
  | succ W =>
    unfold snapG
    rw [List.take_succ_cons, num_gen no h0 h1, List.take_append_of_le_length (by rw [List.length_map]; omega), ← List.map_take, any_ents, if_neg (by simp)]
    decide
theorem fold_lay (l : List (List UInt8)) (h : ∀ s ∈ l, s.length ≤ 1048576) : ∀ G, l.foldl (fun j s => (appJ j (entR s)).1) (fileJ G 0) = fileJ (G ++ l.map entR) 0 := by
  induction l with
  | nil => intro G; simp
  | cons s l ih =>
    intro G
    rw [List.foldl_cons, app_file G 0 _ (Nat.zero_le _) (checkR_ent (h s List.mem_cons_self)), ih (fun x hx => h x (List.mem_cons_of_mem _ hx))]
    simp
theorem lay_file (no : Int) (l : List (List UInt8)) (h : ∀ s ∈ l, s.length ≤ 1048576) : layJ no l = fileJ (snapG (no + 1) l) 0 := by
  unfold layJ
  rw [j0_file, app_file [] 0 _ (Nat.le_refl _) (checkR_gen _)]
  show (appJ (l.foldl _ (fileJ [genR (no + 1)] 0)) sealR).1 = _
  rw [fold_lay l h, app_file _ 0 _ (Nat.zero_le _) checkR_seal]
  unfold snapG
  simp

/-! VaultKeeps. -/
theorem keep_app (l : List (List UInt8)) (m : Nat) (hm : m ≤ l.length + 2) (s : List UInt8) (hs : s.length ≤ 1048576) : appV ⟨fileJ (firstG l) m, j0, 0, 0⟩ s = (⟨fileJ (firstG (l ++ [s])) m, j0, 0, 0⟩, 0) := by
  unfold appV Vt.set Vt.cur
  rw [if_neg (by omega)]
  simp only [if_true]
  rw [app_file _ m _ (by rw [first_len]; exact hm) (checkR_ent hs), first_app]
theorem keep_sync (l : List (List UInt8)) (m : Nat) : (syncV ⟨fileJ (firstG l) m, j0, 0, 0⟩).1 = ⟨fileJ (firstG l) (l.length + 2), j0, 0, 0⟩ := by
  unfold syncV Vt.set Vt.cur
  simp only [if_true]
  rw [sync_file, first_len]
theorem openJ_nil : openJ [] = j0 := rfl
theorem keep_crash (l : List (List UInt8)) (h : ∀ s ∈ l, s.length ≤ 1048576) (m : Nat) (h2 : 2 ≤ m) (hm : m ≤ l.length + 2) (n : Int) :
    ∃ W, crashV ⟨fileJ (firstG l) m, j0, 0, 0⟩ n = (⟨fileJ (firstG (l.take W)) (W + 2), j0, 0, 0⟩, l.take W) ∧ m ≤ W + 2 ∧ W ≤ l.length := by
  obtain ⟨W, hc, h3, h4⟩ := crash_file (firstG l) (first_ok h) m (by rw [first_len]; exact hm) n
  rw [first_len] at h4
  refine ⟨W - 2, ?_, by omega, by omega⟩
  have hk : ∀ s ∈ l.take (W - 2), s.length ≤ 1048576 := fun s hs => h s (List.mem_of_mem_take hs)
  have hlen : (l.take (W - 2)).length = W - 2 := by rw [List.length_take]; omega
  unfold crashV againV loadV Vt.set Vt.cur
  simp only [if_true]
  rw [hc, first_take l W (by omega)]
  show (_, _) = _
  have ho : openJ (fileJ (firstG (l.take (W - 2))) W).s = fileJ (firstG (l.take (W - 2))) (W - 2 + 2) := by
    have := open_file _ (first_ok hk)
    rw [first_len, hlen] at this
    exact this
  have hn : openJ j0.s = j0 := openJ_nil
  rw [ho, hn]
  have n1 : numV (fileJ (firstG (l.take (W - 2))) (W - 2 + 2)).l = 0 := first_num _
  have n2 : numV j0.l = -1 := rfl
  rw [if_neg (by unfold noneV; rw [n1]; omega)]
  unfold pickV
  rw [n1, n2, if_neg (by decide)]
  show (_, heldV (firstG (l.take (W - 2)))) = _
  rw [first_held]

/-! VaultWhole. -/
def allOk (G : List Rc) : Prop := ∀ r ∈ G, checkR r = 0
theorem again_file (A B : List Rc) (hA : allOk A) (hB : allOk B) (m k : Nat) (u n : Int) (h : ¬ (numV A < 0 ∧ numV B < 0)) :
    againV ⟨fileJ A m, fileJ B k, u, n⟩ = (if numV A < numV B then (⟨fileJ A A.length, fileJ B B.length, 1, numV B⟩, heldV B) else (⟨fileJ A A.length, fileJ B B.length, 0, numV A⟩, heldV A)) := by
  unfold againV loadV
  have ea : openJ (fileJ A m).s = fileJ A A.length := open_file A hA
  have eb : openJ (fileJ B k).s = fileJ B B.length := open_file B hB
  simp only
  rw [ea, eb, if_neg (show ¬ noneV (fileJ A A.length) (fileJ B B.length) from h)]
  unfold pickV
  by_cases hc : numV A < numV B
  · rw [if_pos hc, if_pos (show numV (fileJ A A.length).l < numV (fileJ B B.length).l from hc)]
    rfl
  · rw [if_neg hc, if_neg (show ¬ numV (fileJ A A.length).l < numV (fileJ B B.length).l from hc)]
    rfl
theorem crash_safe (G : List Rc) (hG : allOk G) (n : Int) : crashJ (fileJ G G.length) n = fileJ G G.length := by
  obtain ⟨W, h, h1, h2⟩ := crash_file G hG G.length (Nat.le_refl _) n
  have : W = G.length := by omega
  rw [h, this, List.take_length]
theorem allOk.take {G : List Rc} (h : allOk G) (W : Nat) : allOk (G.take W) := fun r hr => h r (List.mem_of_mem_take hr)
theorem snap_len (no : Int) (l : List (List UInt8)) : (snapG no l).length = l.length + 2 := by simp [snapG]
/-- what stands behind a snapshot with a crash within -/
inductive Behind (l snap : List (List UInt8)) : Vt → List (List UInt8) → Prop where
  | new : Behind l snap ⟨fileJ (firstG l) (firstG l).length, fileJ (snapG 1 snap) (snapG 1 snap).length, 1, 1⟩ snap
  | old (W : Nat) (hW : W < (snapG 1 snap).length) : Behind l snap ⟨fileJ (firstG l) (firstG l).length, fileJ ((snapG 1 snap).take W) W, 0, 0⟩ l
theorem layE_zero {v : Vt} (hn : v.no < 2147483647) {l : List (List UInt8)} (h : ∀ s ∈ l, s.length ≤ 1048576) : layE v l = 0 := by
  unfold layE
  rw [if_neg (by omega), if_neg]
  intro hh
  obtain ⟨s, hs, hd⟩ := List.any_eq_true.1 hh
  have := h s hs
  have := of_decide_eq_true hd
  omega
theorem die_behind (l snap : List (List UInt8)) (hl : ∀ s ∈ l, s.length ≤ 1048576) (hs : ∀ s ∈ snap, s.length ≤ 1048576) (m : Nat) (n : Int) :
    ∃ v left, dieV ⟨fileJ (firstG l) m, j0, 0, 0⟩ snap n = (v, left, 0) ∧ Behind l snap v left := by
  unfold dieV
  rw [if_neg (by rw [layE_zero (by show (0 : Int) < 2147483647; decide) hs]; simp), keep_sync, lay_file 0 snap hs]
  obtain ⟨W, hc, -, h2⟩ := crash_file (snapG (0 + 1) snap) (snap_ok hs) 0 (Nat.zero_le _) n
  rw [hc]
  unfold Vt.oth
  simp only [if_true]
  rw [show ((0 : Int) + 1) = 1 from rfl] at *
  rw [again_file _ _ (first_ok hl) (allOk.take (snap_ok hs) W) _ _ _ _ (by rw [first_num]; omega), first_num, first_held]
  by_cases hW : W < (snapG 1 snap).length
  · have := snap_torn 1 (by decide) (by decide) snap W hW
    rw [if_neg (by omega)]
    have e : ((snapG 1 snap).take W).length = W := by rw [List.length_take]; omega
    rw [e]
    exact ⟨_, _, rfl, .old W hW⟩
  · have e : W = (snapG 1 snap).length := by omega
    rw [e, List.take_length, snap_num 1 (by decide) (by decide), snap_held, if_pos (by decide)]
    exact ⟨_, _, rfl, .new⟩
theorem behind_no {l snap left : List (List UInt8)} {v : Vt} (h : Behind l snap v left) : (v.no = 0 ∨ v.no = 1) ∧ (left = l ∨ left = snap) := by
  cases h with
  | new => exact ⟨.inr rfl, .inr rfl⟩
  | old W hW => exact ⟨.inl rfl, .inl rfl⟩
theorem behind_crash {l snap left : List (List UInt8)} {v : Vt} (hl : ∀ s ∈ l, s.length ≤ 1048576) (hs : ∀ s ∈ snap, s.length ≤ 1048576) (h : Behind l snap v left) (n : Int) : crashV v n = (v, left) := by
  cases h with
  | new =>
    unfold crashV Vt.set Vt.cur
    rw [if_neg (by simp), if_neg (by simp)]
    simp only
    rw [crash_safe _ (snap_ok hs), again_file _ _ (first_ok hl) (snap_ok hs) _ _ _ _ (by rw [first_num]; omega), first_num, snap_num 1 (by decide) (by decide), if_pos (by decide), snap_held]
  | old W hW =>
    unfold crashV Vt.set Vt.cur
    simp only [if_true]
    have e : ((snapG 1 snap).take W).length = W := by rw [List.length_take]; omega
    have := snap_torn 1 (by decide) (by decide) snap W hW
    rw [crash_safe _ (first_ok hl), again_file _ _ (first_ok hl) (allOk.take (snap_ok hs) W) _ _ _ _ (by rw [first_num]; omega), first_num, if_neg (by omega), first_held, e]
theorem behind_snap {l snap left : List (List UInt8)} {v : Vt} (hl : ∀ s ∈ l, s.length ≤ 1048576) (hs : ∀ s ∈ snap, s.length ≤ 1048576) (h : Behind l snap v left) (n : Int) :
    ∃ v', snapV v left = (v', 0) ∧ v'.no = v.no + 1 ∧ (crashV v' n).2 = left := by
  have hb := (behind_no h).1
  have hlf : ∀ s ∈ left, s.length ≤ 1048576 := by rcases (behind_no h).2 with e | e <;> rw [e] <;> assumption
  unfold snapV
  rw [if_neg (by rw [layE_zero (by omega) hlf]; simp)]
  refine ⟨_, rfl, rfl, ?_⟩
  rw [lay_file v.no left hlf, sync_file]
  cases h with
  | new =>
    have e1 : (1 : Int) + 1 = 2 := rfl
    unfold syncV Vt.set Vt.cur Vt.oth crashV Vt.set Vt.cur
    simp only [show ¬ ((1 : Int) = 0) by decide, if_false, show (1 : Int) - 1 = 0 by decide, if_true, e1]
    rw [sync_file, crash_safe _ (snap_ok hs), again_file _ _ (snap_ok hs) (snap_ok hs) _ _ _ _ (by rw [snap_num 2 (by decide) (by decide)]; omega), snap_num 2 (by decide) (by decide), snap_num 1 (by decide) (by decide), if_neg (by decide), snap_held]
  | old W hW =>
    have e1 : (0 : Int) + 1 = 1 := rfl
    unfold syncV Vt.set Vt.cur Vt.oth crashV Vt.set Vt.cur
    simp only [if_true, show ¬ ((1 : Int) - 0 = 0) by decide, show (1 : Int) - 0 = 1 by decide, show ¬ ((1 : Int) = 0) by decide, if_false, e1]
    rw [sync_file, crash_safe _ (snap_ok hl), again_file _ _ (first_ok hl) (snap_ok hl) _ _ _ _ (by rw [first_num]; omega), first_num, snap_num 1 (by decide) (by decide), if_pos (by decide), snap_held]
end Go.Proofs.YtkbbeioednhefaaGreatDoor.vt
