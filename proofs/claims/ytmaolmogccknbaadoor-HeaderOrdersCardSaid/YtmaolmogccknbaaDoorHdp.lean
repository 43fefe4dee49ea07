/-
  Headers as bytes, by plain functions: put, read; there and back; an order.
-/
import Derived.Test.YtmaolmogccknbaaDoorOpp
import Derived.Test.YtmaolmogccknbaaDoorTop
namespace Go.Proofs.YtmaolmogccknbaaDoor.hdr
open Go.Proofs.YtmaolmogccknbaaDoor.opn (b1 b2 b4 num txt idl byte rd rdN rdT rdI rdS rdL St Reads Stays endE zid mkId)
open Go.Proofs.YtmaolmogccknbaaDoor.ids (cmpL setL okIds)

structure Hd where
  (parents : List (List UInt8)) (height : Int) (topic : List UInt8) (author seq size : Int) (commit : List UInt8)
def zhd : Hd := ⟨[], 0, [], 0, 0, 0, zid⟩
def badHeight (h : Hd) : Prop := h.height < 1 ∨ 1073741824 < h.height ∨ ¬ (h.parents.length = 0 ↔ h.height = 1)
def badRange (h : Hd) : Prop := h.author < 0 ∨ 255 < h.author ∨ h.seq < 1 ∨ 1073741824 < h.seq ∨ h.size < 1 ∨ 512 < h.size
instance (h : Hd) : Decidable (badHeight h) := inferInstanceAs (Decidable (_ ∨ _ ∨ ¬ (_ ↔ _)))
instance (h : Hd) : Decidable (badRange h) := inferInstanceAs (Decidable (_ ∨ _ ∨ _ ∨ _ ∨ _ ∨ _))
def checkH (h : Hd) : Int :=
  if 4 < h.parents.length then 6
  else if (h.parents == setL h.parents) = false then 4
  else if badHeight h then 12
  else if topic.kindOf h.topic = 0 then 9
  else if badRange h then 5
  else 0
/-- the bytes of one -/
def enH (h : Hd) : List UInt8 := idl h.parents ++ (b4 h.height ++ (txt h.topic ++ (b1 h.author ++ (b4 h.seq ++ (b2 h.size ++ h.commit)))))
def putH (h : Hd) : List UInt8 × Int := if checkH h ≠ 0 then ([], checkH h) else (enH h, 0)
def rd7 (p : List (List UInt8)) (h : Int) (t : List UInt8) (a q z : Int) (st : St) : Hd × St := (⟨p, h, t, a, q, z, (rdI st).1⟩, (rdI st).2)
def rd6 (p : List (List UInt8)) (h : Int) (t : List UInt8) (a q : Int) (st : St) : Hd × St := rd7 p h t a q (rdN 2 st).1 (rdN 2 st).2
def rd5 (p : List (List UInt8)) (h : Int) (t : List UInt8) (a : Int) (st : St) : Hd × St := rd6 p h t a (rdN 4 st).1 (rdN 4 st).2
def rd4 (p : List (List UInt8)) (h : Int) (t : List UInt8) (st : St) : Hd × St := rd5 p h t (rdN 1 st).1 (rdN 1 st).2
def rd3 (p : List (List UInt8)) (h : Int) (st : St) : Hd × St := rd4 p h (rdT st).1 (rdT st).2
def rd2 (p : List (List UInt8)) (st : St) : Hd × St := rd3 p (rdN 4 st).1 (rdN 4 st).2
def rdH (st : St) : Hd × St := rd2 (rdS st).1 (rdS st).2
def ofH (s : List UInt8) : Hd × Int :=
  if 256 < s.length then (zhd, 3)
  else
    let r := rdH (s, 0)
    let e := if endE r.2 ≠ 0 then endE r.2 else checkH r.1
    if e ≠ 0 then (zhd, e) else (r.1, 0)
def aheadB (x : Int) (a : List UInt8) (y : Int) (b : List UInt8) : Bool := decide (x < y) || (decide (x = y) && decide (cmpL a b < 0))

/-! There. -/
structure FitsH (h : Hd) : Prop where
  parents : okIds h.parents ∧ h.parents.length < 256
  height : 0 ≤ h.height ∧ h.height < 4294967296
  topic : h.topic.length < 256
  author : 0 ≤ h.author ∧ h.author < 256
  seq : 0 ≤ h.seq ∧ h.seq < 4294967296
  size : 0 ≤ h.size ∧ h.size < 65536
  commit : h.commit.length = 32
theorem check_parts {h : Hd} (hc : checkH h = 0) : h.parents.length ≤ 4 ∧ (h.parents == setL h.parents) = true ∧ ¬ badHeight h ∧ topic.kindOf h.topic ≠ 0 ∧ ¬ badRange h := by
  unfold checkH at hc
  split at hc
  · cases hc
  rename_i h0
  split at hc
  · cases hc
  rename_i h1
  split at hc
  · cases hc
  rename_i h2
  split at hc
  · cases hc
  rename_i h3
  split at hc
  · cases hc
  rename_i h4
  exact ⟨by omega, by simpa using h1, h2, h3, h4⟩
theorem fitsH {h : Hd} (hc : checkH h = 0) (hr : h.commit.length = 32) (hs : okIds h.parents) : FitsH h := by
  obtain ⟨h0, _, h2, h3, h4⟩ := check_parts hc
  have ht := (topic.kindOf_pos _ h3).2.1
  unfold badHeight at h2
  unfold badRange at h4
  exact ⟨⟨hs, by omega⟩, by omega, by omega, by omega, by omega, by omega, hr⟩
open Go.Proofs.YtmaolmogccknbaaDoor.opn in
theorem stays_7 (p : List (List UInt8)) (h : Int) (t : List UInt8) (a q z : Int) : Stays (rd7 p h t a q z) := stays_I.map fun v => (⟨p, h, t, a, q, z, v⟩ : Hd)
open Go.Proofs.YtmaolmogccknbaaDoor.opn in
theorem stays_6 (p : List (List UInt8)) (h : Int) (t : List UInt8) (a q : Int) : Stays (rd6 p h t a q) := (stays_N 2).bind (g := fun z st => rd7 p h t a q z st) fun z => stays_7 p h t a q z
open Go.Proofs.YtmaolmogccknbaaDoor.opn in
theorem stays_5 (p : List (List UInt8)) (h : Int) (t : List UInt8) (a : Int) : Stays (rd5 p h t a) := (stays_N 4).bind (g := fun q st => rd6 p h t a q st) fun q => stays_6 p h t a q
open Go.Proofs.YtmaolmogccknbaaDoor.opn in
theorem stays_4 (p : List (List UInt8)) (h : Int) (t : List UInt8) : Stays (rd4 p h t) := (stays_N 1).bind (g := fun a st => rd5 p h t a st) fun a => stays_5 p h t a
open Go.Proofs.YtmaolmogccknbaaDoor.opn in
theorem stays_3 (p : List (List UInt8)) (h : Int) : Stays (rd3 p h) := stays_T.bind (g := fun t st => rd4 p h t st) fun t => stays_4 p h t
open Go.Proofs.YtmaolmogccknbaaDoor.opn in
theorem stays_2 (p : List (List UInt8)) : Stays (rd2 p) := (stays_N 4).bind (g := fun h st => rd3 p h st) fun h => stays_3 p h
open Go.Proofs.YtmaolmogccknbaaDoor.opn in
theorem reads_H {h : Hd} (f : FitsH h) : Reads rdH (enH h) h := by
  have r7 : Reads (rd7 h.parents h.height h.topic h.author h.seq h.size) h.commit h := (reads_I h.commit f.commit).map fun v => (⟨h.parents, h.height, h.topic, h.author, h.seq, h.size, v⟩ : Hd)
  have r6 : Reads (rd6 h.parents h.height h.topic h.author h.seq) (b2 h.size ++ h.commit) h := (reads_2 h.size f.size.1 f.size.2).bind (g := fun z st => rd7 h.parents h.height h.topic h.author h.seq z st) r7 fun z => stays_7 _ _ _ _ _ z
  have r5 : Reads (rd5 h.parents h.height h.topic h.author) (b4 h.seq ++ (b2 h.size ++ h.commit)) h := (reads_4 h.seq f.seq.1 f.seq.2).bind (g := fun q st => rd6 h.parents h.height h.topic h.author q st) r6 fun q => stays_6 _ _ _ _ q
  have r4 : Reads (rd4 h.parents h.height h.topic) (b1 h.author ++ (b4 h.seq ++ (b2 h.size ++ h.commit))) h := (reads_1 h.author f.author.1 f.author.2).bind (g := fun a st => rd5 h.parents h.height h.topic a st) r5 fun a => stays_5 _ _ _ a
  have r3 : Reads (rd3 h.parents h.height) (txt h.topic ++ (b1 h.author ++ (b4 h.seq ++ (b2 h.size ++ h.commit)))) h := (reads_T h.topic f.topic).bind (g := fun t st => rd4 h.parents h.height t st) r4 fun t => stays_4 _ _ t
  have r2 : Reads (rd2 h.parents) (b4 h.height ++ (txt h.topic ++ (b1 h.author ++ (b4 h.seq ++ (b2 h.size ++ h.commit))))) h := (reads_4 h.height f.height.1 f.height.2).bind (g := fun x st => rd3 h.parents x st) r3 fun x => stays_3 _ x
  exact (reads_S h.parents f.parents.1 f.parents.2).bind (g := fun p st => rd2 p st) r2 fun p => stays_2 p
theorem txt_len {l : List UInt8} {n : Nat} (h : l.length ≤ n) : (txt l).length ≤ n + 1 := by
  unfold txt; rw [List.length_append, opn.b1_len]; omega
theorem flatH {L : List (List UInt8)} (h : okIds L) : L.flatten.length = L.length * 32 := by
  induction L with
  | nil => rfl
  | cons x L ih =>
    rw [List.flatten_cons, List.length_append, h x List.mem_cons_self, ih fun y hy => h y (List.mem_cons_of_mem _ hy), List.length_cons]
    omega
theorem en_len {h : Hd} (hc : checkH h = 0) (hr : h.commit.length = 32) (hs : okIds h.parents) : (enH h).length ≤ 200 := by
  obtain ⟨h0, _, _, h3, _⟩ := check_parts hc
  have ht := txt_len (topic.kindOf_pos _ h3).2.1
  have hp : (idl h.parents).length ≤ 129 := by unfold idl; rw [List.length_append, opn.b1_len, flatH hs]; omega
  unfold enH
  simp only [List.length_append, opn.b1_len, opn.b2_len, opn.b4_len, hr]
  omega
theorem of_put {h : Hd} (hc : checkH h = 0) (hr : h.commit.length = 32) (hs : okIds h.parents) : ofH (enH h) = (h, 0) := by
  have hl := en_len hc hr hs
  have k := (reads_H (fitsH hc hr hs) [] (enH h).length).1 (Nat.le_refl _)
  rw [List.append_nil, List.take_length, Nat.sub_self, List.take_zero] at k
  unfold ofH
  rw [if_neg (by omega)]
  simp only [k]
  have e : endE ([], 0) = 0 := rfl
  rw [e]
  simp [hc]
theorem put_ok {h : Hd} (hc : checkH h = 0) : putH h = (enH h, 0) := by unfold putH; rw [if_neg (by rw [hc]; simp)]
theorem put_no {h : Hd} (hc : checkH h ≠ 0) : putH h = ([], checkH h) := by unfold putH; rw [if_pos hc]

/-! And back. -/
def Errs {α : Type} (f : St → α × St) : Prop := ∀ st, (f st).2.2 = 0 → st.2 = 0
theorem errs_rd (n : Nat) : Errs (rd n) := fun _ h => opn.rd_err' h
theorem errs_N (n : Nat) : Errs (rdN n) := fun _ h => opn.rd_err' (n := n) h
theorem errs_T : Errs rdT := fun st h => errs_N 1 st (errs_rd _ _ h)
theorem errs_I : Errs rdI := fun _ h => opn.rd_err' (n := 32) h
theorem back_H (st : St) (h : (rdH st).2.2 = 0) : st = (enH (rdH st).1 ++ (rdH st).2.1, 0) := by
  obtain ⟨s1, e1⟩ : ∃ x, x = (rdS st).2 := ⟨_, rfl⟩
  obtain ⟨s2, e2⟩ : ∃ x, x = (rdN 4 s1).2 := ⟨_, rfl⟩
  obtain ⟨s3, e3⟩ : ∃ x, x = (rdT s2).2 := ⟨_, rfl⟩
  obtain ⟨s4, e4⟩ : ∃ x, x = (rdN 1 s3).2 := ⟨_, rfl⟩
  obtain ⟨s5, e5⟩ : ∃ x, x = (rdN 4 s4).2 := ⟨_, rfl⟩
  obtain ⟨s6, e6⟩ : ∃ x, x = (rdN 2 s5).2 := ⟨_, rfl⟩
  have hv : rdH st = (⟨(rdS st).1, (rdN 4 s1).1, (rdT s2).1, (rdN 1 s3).1, (rdN 4 s4).1, (rdN 2 s5).1, (rdI s6).1⟩, (rdI s6).2) := by
    rw [e6, e5, e4, e3, e2, e1]; rfl
  rw [hv] at h ⊢
  simp only at h
  have z6 := errs_I s6 h
  rw [e6] at z6
  have z5 := errs_N 2 s5 z6
  rw [e5] at z5
  have z4 := errs_N 4 s4 z5
  rw [e4] at z4
  have z3 := errs_N 1 s3 z4
  rw [e3] at z3
  have z2 := errs_T s2 z3
  rw [e2] at z2
  have z1 := errs_N 4 s1 z2
  rw [e1] at z1
  have k0 := opn.back_S st z1
  have k1 := opn.back_4 s1 z2
  have k2 := opn.back_T s2 z3
  have k3 := opn.back_1 s3 z4
  have k4 := opn.back_4 s4 z5
  have k5 := opn.back_2 s5 z6
  have k6 := (opn.back_I s6 h).1
  rw [← e1] at k0
  rw [← e2] at k1
  rw [← e3] at k2
  rw [← e4] at k3
  rw [← e5] at k4
  rw [← e6] at k5
  have f : ∀ {x y : St}, x = y → x.1 = y.1 := fun h => congrArg Prod.fst h
  refine k0.trans ?_
  rw [f k1, f k2, f k3, f k4, f k5, f k6]
  simp only [enH, List.append_assoc]
theorem ofH_eq (s : List UInt8) (hl : ¬ 256 < s.length) : ofH s = if endE (rdH (s, 0)).2 ≠ 0 then (zhd, endE (rdH (s, 0)).2) else if checkH (rdH (s, 0)).1 ≠ 0 then (zhd, checkH (rdH (s, 0)).1) else ((rdH (s, 0)).1, 0) := by
  unfold ofH
  rw [if_neg hl]
  by_cases h1 : endE (rdH (s, 0)).2 = 0
  · simp only [h1, ne_eq, not_true, if_false]
  · simp only [ne_eq, h1, not_false_eq_true, if_true]
theorem of_back {s : List UInt8} {q : Hd} (h : ofH s = (q, 0)) : checkH q = 0 ∧ s = enH q := by
  by_cases hl : 256 < s.length
  · unfold ofH at h; rw [if_pos hl] at h; simp at h
  rw [ofH_eq s hl] at h
  by_cases h1 : endE (rdH (s, 0)).2 = 0
  case neg =>
    rw [if_pos h1] at h
    exact absurd (congrArg Prod.snd h) h1
  rw [if_neg (fun hh => hh h1)] at h
  by_cases h2 : checkH (rdH (s, 0)).1 = 0
  case neg =>
    rw [if_pos h2] at h
    exact absurd (congrArg Prod.snd h) h2
  rw [if_neg (fun hh => hh h2)] at h
  have hq : (rdH (s, 0)).1 = q := congrArg Prod.fst h
  rw [hq] at h2
  refine ⟨h2, ?_⟩
  unfold endE at h1
  have h3 : (rdH (s, 0)).2.2 = 0 := by
    by_cases a : (rdH (s, 0)).2.2 = 0
    · exact a
    · rw [if_pos a] at h1; exact h1
  rw [if_neg (fun hh => hh h3)] at h1
  have h4 : (rdH (s, 0)).2.1 = [] := by
    by_cases a : (rdH (s, 0)).2.1 = []
    · exact a
    · rw [if_neg a] at h1; cases h1
  have k := back_H (s, 0) h3
  rw [h4, List.append_nil, hq] at k
  exact congrArg Prod.fst k
theorem of_err {s : List UInt8} {q : Hd} {e : Int} (h : ofH s = (q, e)) (he : e ≠ 0) : q = zhd := by
  by_cases hl : 256 < s.length
  · unfold ofH at h; rw [if_pos hl] at h; exact (congrArg Prod.fst h).symm
  rw [ofH_eq s hl] at h
  by_cases h1 : endE (rdH (s, 0)).2 = 0
  case neg => rw [if_pos h1] at h; exact (congrArg Prod.fst h).symm
  rw [if_neg (fun hh => hh h1)] at h
  by_cases h2 : checkH (rdH (s, 0)).1 = 0
  case neg => rw [if_pos h2] at h; exact (congrArg Prod.fst h).symm
  rw [if_neg (fun hh => hh h2)] at h
  exact absurd (congrArg Prod.snd h).symm he

/-! An order. -/
theorem ahead_iff {x y : Int} {a b : List UInt8} : aheadB x a y b = true ↔ x < y ∨ (x = y ∧ cmpL a b < 0) := by
  unfold aheadB; simp
theorem ahead_anti {x y : Int} {a b : List UInt8} (h : aheadB x a y b = true) : aheadB y b x a = false := by
  rw [← Bool.not_eq_true, ahead_iff]
  rw [ahead_iff] at h
  have := ids.cmpL_neg a b
  omega
theorem ahead_trans {x y z : Int} {a b c : List UInt8} (h1 : aheadB x a y b = true) (h2 : aheadB y b z c = true) : aheadB x a z c = true := by
  rw [ahead_iff] at *
  have := ids.cmpL_trans a b c
  rcases h1 with h1 | ⟨h1, h1'⟩ <;> rcases h2 with h2 | ⟨h2, h2'⟩
  · left; omega
  · left; omega
  · left; omega
  · right; exact ⟨by omega, this h1' h2'⟩
theorem ahead_total (x y : Int) (a b : List UInt8) : (aheadB x a y b || aheadB y b x a) = !(decide (x = y) && decide (a = b)) := by
  by_cases h : x = y ∧ a = b
  · obtain ⟨rfl, rfl⟩ := h
    have : aheadB x a x a = false := by
      rw [← Bool.not_eq_true, ahead_iff, ids.cmpL_self]; omega
    rw [this]; simp
  · have h2 : (aheadB x a y b || aheadB y b x a) = true := by
      rw [Bool.or_eq_true, ahead_iff, ahead_iff]
      have h0 := ids.cmpL_neg a b
      have h3 := ids.cmpL_zero a b
      rcases Int.lt_trichotomy x y with c | c | c
      · exact .inl (.inl c)
      · by_cases hab : a = b
        · exact absurd ⟨c, hab⟩ h
        · have : cmpL a b ≠ 0 := fun e => hab (h3 e)
          rcases Int.lt_or_gt_of_ne this with d | d
          · exact .inl (.inr ⟨c, d⟩)
          · exact .inr (.inr ⟨c.symm, by omega⟩)
      · exact .inr (.inl c)
    rw [h2]
    have : ¬ (decide (x = y) && decide (a = b)) = true := by simpa using h
    simp only [Bool.not_eq_true] at this
    rw [this]; rfl
end Go.Proofs.YtmaolmogccknbaaDoor.hdr
