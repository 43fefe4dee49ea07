/-
 Operations as bytes, by plain functions: put, read; there and back; no beginning of one is one.
-/
import Derived.Test.YtpeneeddfgmjpaaGreatDoorIda
namespace Go.Proofs.YtpeneeddfgmjpaaGreatDoor.opn

abbrev Id := List UInt8
structure Opn where
 (k n : Int) (key val : List UInt8) (ref : Id) (refs : List Id)
def zid : Id := List.replicate 32 0
def zop : Opn := ⟨0, 0, [], [], zid, []⟩
def byte (x : Int) : UInt8 := UInt8.ofNat x.toNat
def b1 (n : Int) : List UInt8 := [byte n]
def b4 (n : Int) : List UInt8 := [byte (n / 16777216), byte (n / 65536), byte (n / 256), byte n]
def num (l : List UInt8) : Int := l.foldl (fun (a : Int) b => a * 256 + b.toNat) 0
def txt (s : List UInt8) : List UInt8 := b1 s.length ++ s
def idl (L : List Id) : List UInt8 := b1 L.length ++ L.flatten
inductive Part where
 | N | K | V | R | S
deriving DecidableEq
def has (k : Int) : List Part :=
 if k = 1 then [.N] else if k = 2 then [.V] else if k = 3 then [.V, .S] else if k = 4 then [.K, .V, .N] else if k = 5 then [.K, .V, .S] else if k = 6 then [.R, .V] else if k = 7 then [.R] else []
/-- what is added to a number -/
def off (k : Int) : Int := if k = 1 then 2147483648 else 0
def enc (o : Opn) : Part → List UInt8
 | .N => b4 (o.n + off o.k)
 | .K => txt o.key
 | .V => txt o.val
 | .R => o.ref
 | .S => idl o.refs
def encs (o : Opn) (ps : List Part) : List UInt8 := (ps.map (enc o)).flatten
def check (rise : List Id → Bool) (o : Opn) : Int :=
 if has o.k = [] then 10
 else if (Part.N ∉ has o.k ∧ o.n ≠ 0) ∨ (Part.K ∉ has o.k ∧ o.key ≠ []) ∨ (Part.V ∉ has o.k ∧ o.val ≠ []) ∨ (Part.R ∉ has o.k ∧ o.ref ≠ zid) ∨ (Part.S ∉ has o.k ∧ o.refs ≠ []) then 4
 else if 16 < o.key.length ∨ 16 < o.val.length then 3
 else if 2147483648 ≤ o.n ∨ o.n < -2147483648 ∨ (o.k = 4 ∧ o.n < 0) then 5
 else if 8 < o.refs.length then 6
 else if rise o.refs = false then 4
 else 0
def put (rise : List Id → Bool) (o : Opn) : List UInt8 × Int :=
 if check rise o ≠ 0 then ([], check rise o) else (b1 o.k ++ encs o (has o.k), 0)

/-! Reading: what is left, and the first error. -/
abbrev St := List UInt8 × Int
def rd (n : Nat) (st : St) : List UInt8 × St :=
 if st.2 ≠ 0 then ([], ([], st.2)) else if st.1.length < n then ([], ([], 2)) else (st.1.take n, (st.1.drop n, 0))
def rdN (b : Nat) (st : St) : Int × St := (num (rd b st).1, (rd b st).2)
def rdT (st : St) : List UInt8 × St := rd (rdN 1 st).1.toNat (rdN 1 st).2
def mkId (s : List UInt8) : Id := if s = [] then zid else s
def rdI (st : St) : Id × St := (mkId (rd 32 st).1, (rd 32 st).2)
def rdL : Nat → St → List Id × St
 | 0, st => ([], st)
 | n + 1, st => ((rdI st).1 :: (rdL n (rdI st).2).1, (rdL n (rdI st).2).2)
def rdS (st : St) : List Id × St := rdL (rdN 1 st).1.toNat (rdN 1 st).2
def part (o : Opn) (st : St) : Part → Opn × St
 | .N => ({ o with n := (rdN 4 st).1 - off o.k }, (rdN 4 st).2)
 | .K => ({ o with key := (rdT st).1 }, (rdT st).2)
 | .V => ({ o with val := (rdT st).1 }, (rdT st).2)
 | .R => ({ o with ref := (rdI st).1 }, (rdI st).2)
 | .S => ({ o with refs := (rdS st).1 }, (rdS st).2)
def parts (o : Opn) : List Part → St → Opn × St
 | [], st => (o, st)
 | p :: ps, st => parts (part o st p).1 ps (part o st p).2
def endE (st : St) : Int := if st.2 ≠ 0 then st.2 else if st.1 = [] then 0 else 4
def ofL (rise : List Id → Bool) (s : List UInt8) : Opn × Int :=
 let k := (rdN 1 (s, 0)).1
 let st := (rdN 1 (s, 0)).2
 if st.2 ≠ 0 then (zop, st.2)
 else if has k = [] then (zop, 10)
 else
  let r := parts { zop with k := k } (has k) st
  let e := if endE r.2 ≠ 0 then endE r.2 else check rise r.1
  if e ≠ 0 then (zop, e) else (r.1, 0)

/-! Numbers. -/
theorem byte_toNat (x : Int) (h : 0 ≤ x) : ((byte x).toNat : Int) = x % 256 := by
 unfold byte
 rw [UInt8.toNat_ofNat']; omega
theorem num1 (n : Int) (h0 : 0 ≤ n) (h1 : n < 256) : num (b1 n) = n := by
 simp only [b1, num, List.foldl_cons, List.foldl_nil, byte_toNat n h0]; omega
theorem num4 (n : Int) (h0 : 0 ≤ n) (h1 : n < 4294967296) : num (b4 n) = n := by
 simp only [b4, num, List.foldl_cons, List.foldl_nil, byte_toNat n h0, byte_toNat (n / 256) (by omega), byte_toNat (n / 65536) (by omega), byte_toNat (n / 16777216) (by omega)]
 omega
theorem byte_eq (b : UInt8) (x : Int) (h : x % 256 = b.toNat) (h0 : 0 ≤ x) : byte x = b := by
 have := byte_toNat x h0
 rw [h] at this
 exact UInt8.toNat_inj.1 (by omega)
theorem b1_num (b : UInt8) : b1 (num [b]) = [b] := by
 have hb := b.toNat_lt
 unfold b1
 rw [byte_eq b _ (by simp only [num, List.foldl_cons, List.foldl_nil]; omega) (by simp only [num, List.foldl_cons, List.foldl_nil]; omega)]
theorem b4_num (a b c d : UInt8) : b4 (num [a, b, c, d]) = [a, b, c, d] := by
 have ha := a.toNat_lt
 have hb := b.toNat_lt
 have hc := c.toNat_lt
 have hd := d.toNat_lt
 have e : num [a, b, c, d] = (((0 * 256 + a.toNat) * 256 + b.toNat) * 256 + c.toNat) * 256 + (d.toNat : Int) := rfl
 unfold b4
 rw [byte_eq a _ (by rw [e]; omega) (by rw [e]; omega), byte_eq b _ (by rw [e]; omega) (by rw [e]; omega), byte_eq c _ (by rw [e]; omega) (by rw [e]; omega), byte_eq d _ (by rw [e]; omega) (by rw [e]; omega)]
theorem num_nonneg : ∀ (l : List UInt8), 0 ≤ num l := by
 have : ∀ (l : List UInt8) (a : Int), 0 ≤ a → 0 ≤ l.foldl (fun (a : Int) b => a * 256 + b.toNat) a := by
  intro l
  induction l with
  | nil => intro a h; exact h
  | cons b l ih => intro a h; exact ih _ (show 0 ≤ a * 256 + (b.toNat : Int) by omega)
 intro l
 exact this l 0 (by decide)
theorem b1_len (n : Int) : (b1 n).length = 1 := rfl
theorem b4_len (n : Int) : (b4 n).length = 4 := rfl

/-! One read, of what was put. -/
theorem rd_cut (a t : List UInt8) (m : Nat) : rd a.length ((a ++ t).take m, 0) = if a.length ≤ m then (a, (t.take (m - a.length), 0)) else ([], ([], 2)) := by
 unfold rd
 rw [if_neg (by simp)]
 by_cases h : a.length ≤ m
 ·
  rw [if_pos h, if_neg (by simp only [List.length_take, List.length_append]; omega)]
  have e1 : ((a ++ t).take m).take a.length = a := by rw [List.take_take, Nat.min_eq_left h, List.take_left' rfl]
  have e2 : ((a ++ t).take m).drop a.length = t.take (m - a.length) := by rw [List.drop_take, List.drop_left' rfl]
  rw [e1, e2]
 ·
  rw [if_neg h, if_pos (by simp only [List.length_take, List.length_append]; omega)]
theorem rd_err (n : Nat) (l : List UInt8) (e : Int) (he : e ≠ 0) : rd n (l, e) = ([], ([], e)) := by
 unfold rd
 rw [if_pos he]
theorem rd_ok {n : Nat} {st : St} {s t : List UInt8} (h : rd n st = (s, (t, 0))) : st = (s ++ t, 0) ∧ s.length = n := by
 obtain ⟨l, e⟩ := st
 unfold rd at h
 by_cases he : e = 0
 ·
  subst he
  rw [if_neg (by simp)] at h
  by_cases hl : l.length < n
  ·
   rw [if_pos hl] at h
   simp at h
  ·
   rw [if_neg hl] at h
   simp only [Prod.mk.injEq] at h
   obtain ⟨h1, h2, -⟩ := h
   refine ⟨by rw [← h1, ← h2, List.take_append_drop], by rw [← h1, List.length_take]; omega⟩
 ·
  rw [if_pos he] at h
  simp only [Prod.mk.injEq] at h
  exact absurd h.2.2 he

/-- f reads v off e, whatever stands behind; of a beginning of e it says ErrShort -/
def Reads {α : Type} (f : St → α × St) (e : List UInt8) (v : α) : Prop := ∀ (t : List UInt8) (m : Nat), (e.length ≤ m → f ((e ++ t).take m, 0) = (v, (t.take (m - e.length), 0))) ∧ (m < e.length → (f ((e ++ t).take m, 0)).2 = ([], 2))
/-- the first error stays -/
def Stays {α : Type} (f : St → α × St) : Prop := ∀ (e : Int), e ≠ 0 → (f ([], e)).2 = ([], e)
theorem Reads.bind {α β : Type} {f : St → α × St} {g : α → St → β × St} {e1 e2 : List UInt8} {v1 : α} {v2 : β} (h1 : Reads f e1 v1) (h2 : Reads (g v1) e2 v2) (hs : ∀ v, Stays (g v)) : Reads (fun st => g (f st).1 (f st).2) (e1 ++ e2) v2 := by
 intro t m
 have k1 := h1 (e2 ++ t) m
 rw [← List.append_assoc] at k1
 refine ⟨fun h => ?_, fun h => ?_⟩
 ·
  rw [List.length_append] at h
  have a := k1.1 (by omega)
  have b := (h2 t (m - e1.length)).1 (by omega)
  simp only [a, b, List.length_append, Nat.sub_sub]
 ·
  rw [List.length_append] at h
  by_cases hl : e1.length ≤ m
  ·
   have a := k1.1 hl
   have b := (h2 t (m - e1.length)).2 (by omega)
   simp only [a, b]
  ·
   have a := k1.2 (by omega)
   show (g (f ((e1 ++ e2 ++ t).take m, 0)).1 (f ((e1 ++ e2 ++ t).take m, 0)).2).2 = _
   rw [a]
   exact hs _ 2 (by decide)
theorem Reads.map {α β : Type} {f : St → α × St} {e : List UInt8} {v : α} (h : Reads f e v) (g : α → β) : Reads (fun st => (g (f st).1, (f st).2)) e (g v) := by
 intro t m
 have k := h t m
 exact ⟨fun hm => by simp only [k.1 hm], fun hm => k.2 hm⟩
theorem Stays.map {α β : Type} {f : St → α × St} (h : Stays f) (g : α → β) : Stays (fun st => (g (f st).1, (f st).2)) := fun e he => h e he
theorem Stays.bind {α β : Type} {f : St → α × St} {g : α → St → β × St} (h : Stays f) (hg : ∀ v, Stays (g v)) : Stays (fun st => g (f st).1 (f st).2) := fun e he => by
 show (g (f ([], e)).1 (f ([], e)).2).2 = _
 rw [h e he]
 exact hg _ e he
theorem stays_rd (n : Nat) : Stays (rd n) := fun e he => by rw [rd_err n [] e he]
theorem stays_N (b : Nat) : Stays (rdN b) := (stays_rd b).map num
theorem stays_T : Stays rdT := (stays_N 1).bind fun n => stays_rd n.toNat
theorem stays_I : Stays rdI := (stays_rd 32).map mkId
theorem stays_L : ∀ n, Stays (rdL n)
 | 0 => fun e _ => rfl
 | n + 1 => stays_I.bind (g := fun x st => (x :: (rdL n st).1, (rdL n st).2)) fun x => (stays_L n).map (x :: ·)
theorem stays_S : Stays rdS := (stays_N 1).bind fun n => stays_L n.toNat
theorem reads_rd (a : List UInt8) : Reads (rd a.length) a a := fun t m => by
 have h := rd_cut a t m
 refine ⟨fun hm => by rw [h, if_pos hm], fun hm => by rw [h, if_neg (by omega)]⟩
theorem reads_1 (n : Int) (h0 : 0 ≤ n) (h1 : n < 256) : Reads (rdN 1) (b1 n) n := by
 have := (reads_rd (b1 n)).map num
 rw [num1 n h0 h1] at this
 exact this
theorem reads_4 (n : Int) (h0 : 0 ≤ n) (h1 : n < 4294967296) : Reads (rdN 4) (b4 n) n := by
 have := (reads_rd (b4 n)).map num
 rw [num4 n h0 h1] at this
 exact this
theorem reads_T (s : List UInt8) (h : s.length < 256) : Reads rdT (txt s) s := by
 refine (reads_1 (s.length : Int) (by omega) (by omega)).bind (g := fun n => rd n.toNat) ?_ fun n => stays_rd n.toNat
 rw [Int.toNat_natCast]
 exact reads_rd s
theorem mkId_of {x : Id} (h : x.length = 32) : mkId x = x := by
 unfold mkId
 rw [if_neg (fun e => by rw [e] at h; simp at h)]
theorem reads_I (x : Id) (h : x.length = 32) : Reads rdI x x := by
 have := reads_rd x
 rw [h] at this
 have := this.map mkId
 rw [mkId_of h] at this
 exact this
theorem reads_L : ∀ (L : List Id), (∀ x ∈ L, x.length = 32) → Reads (rdL L.length) L.flatten L
 | [], _ => fun t m => ⟨fun _ => by simp [rdL], fun h => by simp at h⟩
 | x :: L, h => (reads_I x (h x List.mem_cons_self)).bind (g := fun x st => (x :: (rdL L.length st).1, (rdL L.length st).2)) ((reads_L L fun y hy => h y (List.mem_cons_of_mem _ hy)).map (x :: ·)) fun v => (stays_L L.length).map (v :: ·)
theorem reads_S (L : List Id) (h : ∀ x ∈ L, x.length = 32) (hl : L.length < 256) : Reads rdS (idl L) L := by
 refine (reads_1 (L.length : Int) (by omega) (by omega)).bind (g := fun n => rdL n.toNat) ?_ fun n => stays_L n.toNat
 rw [Int.toNat_natCast]
 exact reads_L L h
/-- a part of o in the place of o0's -/
def set1 (o0 o : Opn) : Part → Opn
 | .N => { o0 with n := o.n }
 | .K => { o0 with key := o.key }
 | .V => { o0 with val := o.val }
 | .R => { o0 with ref := o.ref }
 | .S => { o0 with refs := o.refs }
def sets (o : Opn) : Opn → List Part → Opn
 | o0, [] => o0
 | o0, p :: ps => sets o (set1 o0 o p) ps
/-- what may be put -/
structure Fits (o : Opn) : Prop where
 n : 0 ≤ o.n + off o.k ∧ o.n + off o.k < 4294967296
 key : o.key.length < 256
 val : o.val.length < 256
 ref : o.ref.length = 32
 refs : (∀ x ∈ o.refs, x.length = 32) ∧ o.refs.length < 256
theorem stays_part (o : Opn) (p : Part) : Stays fun st => part o st p := by
 cases p
 ·
  exact (stays_N 4).map fun v => { o with n := v - off o.k }
 ·
  exact stays_T.map fun v => { o with key := v }
 ·
  exact stays_T.map fun v => { o with val := v }
 ·
  exact stays_I.map fun v => { o with ref := v }
 ·
  exact stays_S.map fun v => { o with refs := v }
theorem stays_parts : ∀ (ps : List Part) (o : Opn), Stays (parts o ps)
 | [], o => fun e _ => rfl
 | p :: ps, o => (stays_part o p).bind (g := fun o st => parts o ps st) fun o => stays_parts ps o
theorem reads_part {o0 o : Opn} (hk : o0.k = o.k) (h : Fits o) (p : Part) : Reads (fun st => part o0 st p) (enc o p) (set1 o0 o p) := by
 cases p
 ·
  have := (reads_4 (o.n + off o.k) h.n.1 h.n.2).map fun v => ({ o0 with n := v - off o0.k } : Opn)
  have hv : ({ o0 with n := o.n + off o.k - off o0.k } : Opn) = set1 o0 o .N := by
   unfold set1
   rw [hk, Int.add_sub_cancel]
  rw [hv] at this
  exact this
 ·
  exact (reads_T o.key h.key).map fun v => ({ o0 with key := v } : Opn)
 ·
  exact (reads_T o.val h.val).map fun v => ({ o0 with val := v } : Opn)
 ·
  exact (reads_I o.ref h.ref).map fun v => ({ o0 with ref := v } : Opn)
 ·
  exact (reads_S o.refs h.refs.1 h.refs.2).map fun v => ({ o0 with refs := v } : Opn)
theorem set1_k (o0 o : Opn) (p : Part) : (set1 o0 o p).k = o0.k := by cases p <;> rfl
theorem reads_parts {o : Opn} (h : Fits o) : ∀ (ps : List Part) (o0 : Opn), o0.k = o.k → Reads (parts o0 ps) (encs o ps) (sets o o0 ps)
 | [], o0, _ => fun t m => ⟨fun _ => by simp [parts, encs, sets], fun h => by simp [encs] at h⟩
 | p :: ps, o0, hk => by
  have := (reads_part hk h p).bind (g := fun o st => parts o ps st) (reads_parts h ps (set1 o0 o p) (by rw [set1_k, hk])) fun o => stays_parts ps o
  have e : encs o (p :: ps) = enc o p ++ encs o ps := by simp [encs]
  rw [e]
  exact this

/-! There. -/
section
variable {rise : List Id → Bool} {o : Opn}
theorem check_parts (h : check rise o = 0) : has o.k ≠ [] ∧ (Part.N ∉ has o.k → o.n = 0) ∧ (Part.K ∉ has o.k → o.key = []) ∧ (Part.V ∉ has o.k → o.val = []) ∧ (Part.R ∉ has o.k → o.ref = zid) ∧ (Part.S ∉ has o.k → o.refs = []) ∧
  o.key.length ≤ 16 ∧ o.val.length ≤ 16 ∧ o.n < 2147483648 ∧ -2147483648 ≤ o.n ∧ (o.k = 4 → 0 ≤ o.n) ∧ o.refs.length ≤ 8 ∧ rise o.refs = true := by
 unfold check at h
 split at h
 ·
  cases h
 rename_i h0
 split at h
 ·
  cases h
 rename_i h1
 split at h
 ·
  cases h
 rename_i h2
 split at h
 ·
  cases h
 rename_i h3
 split at h
 ·
  cases h
 rename_i h4
 split at h
 ·
  cases h
 rename_i h5
 simp only [not_or, not_and, Decidable.not_not] at h1 h2 h3
 exact ⟨h0, h1.1, h1.2.1, h1.2.2.1, h1.2.2.2.1, h1.2.2.2.2, by omega, by omega, by omega, by omega, fun e => by have := h3.2.2 e; omega, by omega, by simpa using h5⟩
theorem kind_of (h : has o.k ≠ []) : o.k = 1 ∨ o.k = 2 ∨ o.k = 3 ∨ o.k = 4 ∨ o.k = 5 ∨ o.k = 6 ∨ o.k = 7 := by
 unfold has at h
 by_cases h1 : o.k = 1
 ·
  exact .inl h1
 by_cases h2 : o.k = 2
 ·
  exact .inr (.inl h2)
 by_cases h3 : o.k = 3
 ·
  exact .inr (.inr (.inl h3))
 by_cases h4 : o.k = 4
 ·
  exact .inr (.inr (.inr (.inl h4)))
 by_cases h5 : o.k = 5
 ·
  exact .inr (.inr (.inr (.inr (.inl h5))))
 by_cases h6 : o.k = 6
 ·
  exact .inr (.inr (.inr (.inr (.inr (.inl h6)))))
 by_cases h7 : o.k = 7
 ·
  exact .inr (.inr (.inr (.inr (.inr (.inr h7)))))
 ·
  simp [h1, h2, h3, h4, h5, h6, h7] at h
theorem fits_of (h : check rise o = 0) (hr : o.ref.length = 32) (hs : ∀ x ∈ o.refs, x.length = 32) (hN : Part.N ∈ has o.k ∨ o.n = 0) : Fits o := by
 obtain ⟨h0, _, _, _, _, _, hk, hv, n1, n2, n4, hl, _⟩ := check_parts h
 have hkk := kind_of h0
 refine ⟨?_, by omega, by omega, hr, hs, by omega⟩
 unfold off
 rcases hkk with e | e | e | e | e | e | e <;> rw [e] at hN n4 ⊢
 ·
  rw [if_pos rfl]; omega
 ·
  simp [has] at hN; simp [hN]
 ·
  simp [has] at hN; simp [hN]
 ·
  have := n4 rfl; rw [if_neg (by decide)]; omega
 ·
  simp [has] at hN; simp [hN]
 ·
  simp [has] at hN; simp [hN]
 ·
  simp [has] at hN; simp [hN]
theorem sets_all (h : check rise o = 0) : sets o { zop with k := o.k } (has o.k) = o := by
 obtain ⟨h0, hN, hK, hV, hR, hS, _⟩ := check_parts h
 have hkk := kind_of h0
 obtain ⟨k, n, key, val, ref, refs⟩ := o
 simp only at hkk hN hK hV hR hS ⊢
 rcases hkk with rfl | rfl | rfl | rfl | rfl | rfl | rfl <;> simp [has] at hN hK hV hR hS <;> simp [has, sets, set1, zop, *]
theorem of_parts (rise : List Id → Bool) (k : Int) (r : Opn × St) (l : List UInt8) (h1 : rdN 1 (l, 0) = (k, (l.drop 1, 0))) (hk : has k ≠ []) (h2 : parts { zop with k := k } (has k) (l.drop 1, 0) = r) :
  ofL rise l = if (if endE r.2 ≠ 0 then endE r.2 else check rise r.1) ≠ 0 then (zop, if endE r.2 ≠ 0 then endE r.2 else check rise r.1) else (r.1, 0) := by
 unfold ofL
 simp only [h1, h2]
 rw [if_neg (by simp), if_neg hk]
theorem b1_take (n : Int) (e t : List UInt8) (m : Nat) (hm : 1 ≤ m) : ((b1 n ++ e ++ t).take m).drop 1 = (e ++ t).take (m - 1) := by
 rw [List.append_assoc, List.drop_take, List.drop_left' (by rfl)]
theorem of_cut (h : check rise o = 0) (hf : Fits o) (t : List UInt8) (m : Nat) :
  ofL rise ((b1 o.k ++ encs o (has o.k) ++ t).take m) = if (b1 o.k ++ encs o (has o.k)).length ≤ m then (if t.take (m - (b1 o.k ++ encs o (has o.k)).length) = [] then (o, 0) else (zop, 4)) else (zop, 2) := by
 obtain ⟨h0, _⟩ := check_parts h
 have hkk := kind_of h0
 have hk1 := reads_1 o.k (by omega) (by omega)
 have hps := reads_parts hf (has o.k) { zop with k := o.k } rfl
 rw [sets_all h] at hps
 have hlen : (b1 o.k ++ encs o (has o.k)).length = (encs o (has o.k)).length + 1 := by rw [List.length_append, b1_len]; omega
 rw [hlen]
 have k1 := hk1 (encs o (has o.k) ++ t) m
 rw [← List.append_assoc] at k1
 by_cases hm : 1 ≤ m
 ·
  have a := k1.1 hm
  rw [b1_len] at a
  have hd := b1_take o.k (encs o (has o.k)) t m hm
  rw [← hd] at a
  have hp := hps t (m - 1)
  rw [← hd] at hp
  by_cases hl : (encs o (has o.k)).length + 1 ≤ m
  ·
   rw [if_pos hl, of_parts rise o.k _ _ a h0 (hp.1 (by omega))]
   have e : m - ((encs o (has o.k)).length + 1) = m - 1 - (encs o (has o.k)).length := by omega
   rw [e]
   by_cases ht : t.take (m - 1 - (encs o (has o.k)).length) = []
   ·
    simp [endE, ht, h]
   ·
    simp [endE, ht]
  ·
   rw [if_neg hl]
   have hs := hp.2 (by omega)
   rw [of_parts rise o.k _ _ a h0 rfl, hs]
   simp [endE]
 ·
  obtain rfl : m = 0 := by omega
  rw [if_neg (by omega), List.take_zero]
  rfl
/-- what was put is read as it was -/
theorem there (h : check rise o = 0) (hf : Fits o) : ofL rise (b1 o.k ++ encs o (has o.k)) = (o, 0) := by
 have := of_cut h hf [] (b1 o.k ++ encs o (has o.k)).length
 rw [List.append_nil, List.take_length, if_pos (Nat.le_refl _), if_pos (by simp)] at this
 exact this
/-- no beginning is one -/
theorem short (h : check rise o = 0) (hf : Fits o) (m : Nat) (hm : m < (b1 o.k ++ encs o (has o.k)).length) : ofL rise ((b1 o.k ++ encs o (has o.k)).take m) = (zop, 2) := by
 have := of_cut h hf [] m
 rw [List.append_nil, if_neg (by omega)] at this
 exact this
/-- nor with something behind it -/
theorem behind (h : check rise o = 0) (hf : Fits o) (t : List UInt8) (ht : t ≠ []) : ofL rise (b1 o.k ++ encs o (has o.k) ++ t) = (zop, 4) := by
 have := of_cut h hf t (b1 o.k ++ encs o (has o.k) ++ t).length
 rw [List.take_length, if_pos (by simp), if_neg] at this
 ·
  exact this
 ·
  rw [List.length_append, Nat.add_sub_cancel_left, List.take_length]
  exact ht
end

/-! And back. -/
def Back {α : Type} (f : St → α × St) (e : α → List UInt8) : Prop := ∀ (st : St) (v : α) (t : List UInt8), f st = (v, (t, 0)) → st = (e v ++ t, 0)
theorem st_of {st : St} (h : st.2 = 0) : st = (st.1, 0) := by
 obtain ⟨l, e⟩ := st
 try simp only at h
 rw [h]
theorem rd_err' {n : Nat} {st : St} (h : (rd n st).2.2 = 0) : st.2 = 0 := by
 obtain ⟨l, e⟩ := st
 by_cases he : e = 0
 ·
  exact he
 ·
  rw [rd_err n l e he] at h; exact h
theorem back_rd (n : Nat) (st : St) (h : (rd n st).2.2 = 0) : st = ((rd n st).1 ++ (rd n st).2.1, 0) ∧ (rd n st).1.length = n := by
 have : rd n st = ((rd n st).1, ((rd n st).2.1, 0)) := by rw [← h]
 exact rd_ok this
theorem b1_of (s : List UInt8) (h : s.length = 1) : b1 (num s) = s := by
 match s, h with
 | [b], _ => exact b1_num b
theorem b4_of (s : List UInt8) (h : s.length = 4) : b4 (num s) = s := by
 match s, h with
 | [a, b, c, d], _ => exact b4_num a b c d
theorem back_1 (st : St) (h : (rdN 1 st).2.2 = 0) : st = (b1 (rdN 1 st).1 ++ (rdN 1 st).2.1, 0) := by
 have k := back_rd 1 st h
 show st = (b1 (num (rd 1 st).1) ++ (rd 1 st).2.1, 0)
 rw [b1_of _ k.2]
 exact k.1
theorem back_4 (st : St) (h : (rdN 4 st).2.2 = 0) : st = (b4 (rdN 4 st).1 ++ (rdN 4 st).2.1, 0) := by
 have k := back_rd 4 st h
 show st = (b4 (num (rd 4 st).1) ++ (rd 4 st).2.1, 0)
 rw [b4_of _ k.2]
 exact k.1
theorem back_T (st : St) (h : (rdT st).2.2 = 0) : st = (txt (rdT st).1 ++ (rdT st).2.1, 0) := by
 have h1 : (rdN 1 st).2.2 = 0 := rd_err' h
 have k1 := back_1 st h1
 have k2 := back_rd (rdN 1 st).1.toNat (rdN 1 st).2 h
 have hn : 0 ≤ (rdN 1 st).1 := num_nonneg _
 have e1 : (rdN 1 st).2.1 = (rdT st).1 ++ (rdT st).2.1 := congrArg Prod.fst k2.1
 have e2 : ((rdT st).1.length : Int) = (rdN 1 st).1 := by
  show ((rd (rdN 1 st).1.toNat (rdN 1 st).2).1.length : Int) = _
  rw [k2.2]; omega
 unfold txt
 rw [e2, List.append_assoc, ← e1]
 exact k1
theorem back_I (st : St) (h : (rdI st).2.2 = 0) : st = ((rdI st).1 ++ (rdI st).2.1, 0) ∧ (rdI st).1.length = 32 := by
 have k := back_rd 32 st h
 have e : (rdI st).1 = (rd 32 st).1 := mkId_of k.2
 rw [e]
 exact k
theorem err_L : ∀ (n : Nat) (st : St), (rdL n st).2.2 = 0 → st.2 = 0
 | 0, _, h => h
 | n + 1, st, h => rd_err' (n := 32) (err_L n (rdI st).2 h)
theorem back_L : ∀ (n : Nat) (st : St), (rdL n st).2.2 = 0 → st = ((rdL n st).1.flatten ++ (rdL n st).2.1, 0) ∧ (rdL n st).1.length = n
 | 0, st, h => ⟨st_of h, rfl⟩
 | n + 1, st, h => by
  have k1 := back_L n (rdI st).2 h
  have k2 := back_I st (err_L n (rdI st).2 h)
  refine ⟨?_, by show (_ :: _).length = _; rw [List.length_cons, k1.2]⟩
  show st = (((rdI st).1 :: (rdL n (rdI st).2).1).flatten ++ (rdL n (rdI st).2).2.1, 0)
  rw [List.flatten_cons, List.append_assoc]
  have e1 : (rdI st).2.1 = (rdL n (rdI st).2).1.flatten ++ (rdL n (rdI st).2).2.1 := congrArg Prod.fst k1.1
  rw [← e1]
  exact k2.1
theorem back_S (st : St) (h : (rdS st).2.2 = 0) : st = (idl (rdS st).1 ++ (rdS st).2.1, 0) := by
 have h1 : (rdN 1 st).2.2 = 0 := err_L _ _ h
 have k1 := back_1 st h1
 have k2 := back_L (rdN 1 st).1.toNat (rdN 1 st).2 h
 have hn : 0 ≤ (rdN 1 st).1 := num_nonneg _
 have e1 : (rdN 1 st).2.1 = (rdS st).1.flatten ++ (rdS st).2.1 := congrArg Prod.fst k2.1
 have e2 : ((rdS st).1.length : Int) = (rdN 1 st).1 := by
  show ((rdL (rdN 1 st).1.toNat (rdN 1 st).2).1.length : Int) = _
  rw [k2.2]; omega
 unfold idl
 rw [e2, List.append_assoc, ← e1]
 exact k1
theorem back_part (o : Opn) (st : St) (p : Part) (h : (part o st p).2.2 = 0) : st = (enc (part o st p).1 p ++ (part o st p).2.1, 0) := by
 cases p
 ·
  have := back_4 st h
  show st = (b4 ((rdN 4 st).1 - off o.k + off o.k) ++ _, 0)
  rw [Int.sub_add_cancel]
  exact this
 ·
  exact back_T st h
 ·
  exact back_T st h
 ·
  exact (back_I st h).1
 ·
  exact back_S st h
theorem part_k (o : Opn) (st : St) (p : Part) : (part o st p).1.k = o.k := by cases p <;> rfl
theorem part_other (o : Opn) (st : St) (p q : Part) (h : q ≠ p) : enc (part o st p).1 q = enc o q := by
 cases p <;> cases q <;> first | rfl | exact absurd rfl h
theorem parts_k : ∀ (ps : List Part) (o : Opn) (st : St), (parts o ps st).1.k = o.k
 | [], _, _ => rfl
 | p :: ps, o, st => (parts_k ps _ _).trans (part_k o st p)
theorem parts_other : ∀ (ps : List Part) (o : Opn) (st : St) (q : Part), q ∉ ps → enc (parts o ps st).1 q = enc o q
 | [], _, _, _, _ => rfl
 | p :: ps, o, st, q, h => (parts_other ps _ _ q (fun hm => h (List.mem_cons_of_mem _ hm))).trans (part_other o st p q fun e => h (e ▸ List.mem_cons_self))
theorem part_err (o : Opn) (st : St) (p : Part) (h : (part o st p).2.2 = 0) : st.2 = 0 := by
 have := back_part o st p h
 rw [this]
theorem parts_err : ∀ (ps : List Part) (o : Opn) (st : St), (parts o ps st).2.2 = 0 → st.2 = 0
 | [], _, _, h => h
 | p :: ps, o, st, h => part_err o st p (parts_err ps _ _ h)
theorem back_parts : ∀ (ps : List Part) (o : Opn) (st : St), ps.Nodup → (parts o ps st).2.2 = 0 → st = (encs (parts o ps st).1 ps ++ (parts o ps st).2.1, 0)
 | [], o, st, _, h => st_of h
 | p :: ps, o, st, hn, h => by
  have hn' := List.nodup_cons.1 hn
  have k1 := back_parts ps (part o st p).1 (part o st p).2 hn'.2 h
  have k2 := back_part o st p (parts_err ps _ _ h)
  have e1 : (part o st p).2.1 = encs (parts o (p :: ps) st).1 ps ++ (parts o (p :: ps) st).2.1 := congrArg Prod.fst k1
  have e2 : enc (parts o (p :: ps) st).1 p = enc (part o st p).1 p := parts_other ps _ _ p hn'.1
  have e3 : encs (parts o (p :: ps) st).1 (p :: ps) = enc (parts o (p :: ps) st).1 p ++ encs (parts o (p :: ps) st).1 ps := by simp [encs]
  rw [e3, e2, List.append_assoc, ← e1]
  exact k2
theorem has_nodup (k : Int) : (has k).Nodup := by
 unfold has
 repeat' split
 all_goals decide
/-- what was read, put again, is the bytes -/
theorem back {rise : List Id → Bool} {s : List UInt8} {q : Opn} (h : ofL rise s = (q, 0)) : check rise q = 0 ∧ s = b1 q.k ++ encs q (has q.k) := by
 unfold ofL at h
 try simp only at h
 split at h
 ·
  rename_i h1
  simp only [Prod.mk.injEq] at h
  exact absurd h.2 h1
 rename_i h1
 split at h
 ·
  simp at h
 split at h
 ·
  rename_i h2 h3
  simp only [Prod.mk.injEq] at h
  exact absurd h.2 h3
 rename_i h2 h3
 try simp only [Decidable.not_not] at h1
 try simp only [Decidable.not_not] at h3
 split at h
 ·
  rename_i h4
  simp only [Prod.mk.injEq] at h
  exact absurd h.2 h4
 rename_i h4
 simp only [Decidable.not_not] at h4
 simp only [Prod.mk.injEq, and_true] at h
 have k1 := back_1 (s, 0) h1
 have hk : q.k = (rdN 1 (s, 0)).1 := by rw [← h]; exact parts_k _ _ _
 rw [h] at h4
 have h5 : (parts { zop with k := (rdN 1 (s, 0)).1 } (has (rdN 1 (s, 0)).1) (rdN 1 (s, 0)).2).2.2 = 0 := by
  unfold endE at h3
  split at h3
  ·
   rename_i h6; exact absurd h3 h6
  ·
   rename_i h6; simpa using h6
 have h6 : (parts { zop with k := (rdN 1 (s, 0)).1 } (has (rdN 1 (s, 0)).1) (rdN 1 (s, 0)).2).2.1 = [] := by
  unfold endE at h3
  rw [if_neg (by simpa using h5)] at h3
  split at h3
  ·
   assumption
  ·
   cases h3
 have k2 := back_parts (has (rdN 1 (s, 0)).1) { zop with k := (rdN 1 (s, 0)).1 } (rdN 1 (s, 0)).2 (has_nodup _) h5
 rw [h6, List.append_nil, h] at k2
 refine ⟨h4, ?_⟩
 have e1 : (rdN 1 (s, 0)).2.1 = encs q (has (rdN 1 (s, 0)).1) := congrArg Prod.fst k2
 rw [hk, ← e1]
 exact congrArg Prod.fst k1
theorem of_zero {rise : List Id → Bool} {s : List UInt8} {q : Opn} {e : Int} (h : ofL rise s = (q, e)) (he : e ≠ 0) : q = zop := by
 unfold ofL at h
 try simp only at h
 split at h
 ·
  simp only [Prod.mk.injEq] at h; exact h.1.symm
 split at h
 ·
  simp only [Prod.mk.injEq] at h; exact h.1.symm
 split at h
 ·
  simp only [Prod.mk.injEq] at h; exact h.1.symm
 ·
  split at h
  ·
   simp only [Prod.mk.injEq] at h; exact h.1.symm
  ·
   simp only [Prod.mk.injEq] at h; exact absurd h.2.symm he
/-! Numbers of two bytes. -/
def b2 (n : Int) : List UInt8 := [byte (n / 256), byte n]
theorem b2_len (n : Int) : (b2 n).length = 2 := rfl
theorem num2 (n : Int) (h0 : 0 ≤ n) (h1 : n < 65536) : num (b2 n) = n := by
 simp only [b2, num, List.foldl_cons, List.foldl_nil, byte_toNat n h0, byte_toNat (n / 256) (by omega)]; omega
theorem b2_num (a b : UInt8) : b2 (num [a, b]) = [a, b] := by
 have ha := a.toNat_lt
 have hb := b.toNat_lt
 have e : num [a, b] = (0 * 256 + a.toNat) * 256 + (b.toNat : Int) := rfl
 unfold b2
 rw [byte_eq a _ (by rw [e]; omega) (by rw [e]; omega), byte_eq b _ (by rw [e]; omega) (by rw [e]; omega)]
theorem reads_2 (n : Int) (h0 : 0 ≤ n) (h1 : n < 65536) : Reads (rdN 2) (b2 n) n := by
 have := (reads_rd (b2 n)).map num
 rw [num2 n h0 h1] at this
 exact this
theorem b2_of (s : List UInt8) (h : s.length = 2) : b2 (num s) = s := by
 match s, h with
 | [a, b], _ => exact b2_num a b
theorem back_2 (st : St) (h : (rdN 2 st).2.2 = 0) : st = (b2 (rdN 2 st).1 ++ (rdN 2 st).2.1, 0) := by
 have k := back_rd 2 st h
 show st = (b2 (num (rd 2 st).1) ++ (rd 2 st).2.1, 0)
 rw [b2_of _ k.2]
 exact k.1
end Go.Proofs.YtpeneeddfgmjpaaGreatDoor.opn
