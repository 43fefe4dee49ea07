/-
  A snapshot's file behind its first texts, plainly.
  What vault's functions answer; what stands while a vault lives; awake; petrellaw13.long.
-/
import Derived.Test.YtkbbeioednhefaaGreatDoorVtp
import Derived.Test.YtkbbeioednhefaaGreatDoorOpentx
namespace Go.Proofs.YtkbbeioednhefaaGreatDoor.vt
open Go.Proofs.YtkbbeioednhefaaGreatDoor.rcd Go.Proofs.YtkbbeioednhefaaGreatDoor.jn

theorem appJ_grow (j : Jr) (r : Rc) : (appJ j r).1.s.length ≤ j.s.length + 9 + r.body.length ∧ (appJ j r).1.l.length ≤ j.l.length + 1 := by
  unfold appJ
  split
  · exact ⟨by show j.s.length ≤ _; omega, by show j.l.length ≤ _; omega⟩
  · refine ⟨?_, ?_⟩
    · show (j.s ++ enR r).length ≤ _
      rw [List.length_append, enR_len]; omega
    · show (j.l ++ [r]).length ≤ _
      rw [List.length_append, List.length_singleton]; omega
/-- a snapshot's file behind its first i texts -/
def jat (no : Int) (L : List (List UInt8)) (i : Nat) : Jr := (L.take i).foldl (fun j s => (appJ j (entR s)).1) (appJ j0 (genR (no + 1))).1
theorem jat_succ (no : Int) (L : List (List UInt8)) (i : Nat) (h : i < L.length) : jat no L (i + 1) = (appJ (jat no L i) (entR (L.getD i []))).1 := by
  unfold jat
  rw [List.take_succ_eq_append_getElem h, List.foldl_append, List.getD_eq_getElem?_getD, List.getElem?_eq_getElem h]
  rfl
theorem jat_all (no : Int) (L : List (List UInt8)) : layJ no L = (appJ (jat no L L.length) sealR).1 := by
  unfold layJ jat
  rw [List.take_length]
theorem jat_size (no : Int) (L : List (List UInt8)) (hL : ∀ s ∈ L, s.length ≤ 300) : ∀ i, i ≤ L.length → (jat no L i).s.length ≤ 20 + 309 * i ∧ (jat no L i).l.length ≤ 1 + i
  | 0, _ => by
    have := appJ_grow j0 (genR (no + 1))
    have hb : (genR (no + 1)).body.length = 4 := opn.b4_len _
    have h0 : j0.s.length = 0 := rfl
    have h1 : j0.l.length = 0 := rfl
    show (appJ j0 (genR (no + 1))).1.s.length ≤ _ ∧ (appJ j0 (genR (no + 1))).1.l.length ≤ _
    omega
  | i + 1, h => by
    have ih := jat_size no L hL i (by omega)
    rw [jat_succ no L i (by omega)]
    have := appJ_grow (jat no L i) (entR (L.getD i []))
    have hb : (entR (L.getD i [])).body.length ≤ 300 := by
      refine hL _ ?_
      show L.getD i [] ∈ L
      rw [List.getD_eq_getElem?_getD, List.getElem?_eq_getElem (by omega)]
      exact List.getElem_mem _
    omega
end Go.Proofs.YtkbbeioednhefaaGreatDoor.vt

namespace Go.Proofs.YtkbbeioednhefaaGreatDoor.vt
open Go.RowKit Go.Proofs.YtkbbeioednhefaaGreatDoor.mem Go.Proofs.YtkbbeioednhefaaGreatDoor.sha Go.Proofs.YtkbbeioednhefaaGreatDoor.strx Go.Proofs.YtkbbeioednhefaaGreatDoor.rows Go.Proofs.YtkbbeioednhefaaGreatDoor.ids Go.Proofs.YtkbbeioednhefaaGreatDoor.rcd Go.Proofs.YtkbbeioednhefaaGreatDoor.jn Go.Proofs.YtkbbeioednhefaaGreatDoor.txl

structure WfV (v : Vt) : Prop where
  a : Wf v.a
  b : Wf v.b
  use : v.use = 0 ∨ v.use = 1
def smallV (v : Vt) : Prop := v.a.s.length ≤ 100000 ∧ v.b.s.length ≤ 100000
def smallL (L : List (List UInt8)) : Prop := L.length ≤ 30 ∧ ∀ s ∈ L, s.length ≤ 300
/-- what a call leaves that answers a list: the vault, in blocks of G', and the list elsewhere -/
def Left (Vt_ : (Nat → Prop) → World → Value → Vt → Prop) (G : Nat → Prop) (w : World) (p : Value) (v : Vt) (l : Value) (L : List (List UInt8)) (w' : World) : Prop :=
  ∃ G', Vt_ G' w' p v ∧ New G' w' ∧ (∀ k, G' k → G k) ∧ TxA w' (fun k => G k ∧ ¬ G' k) l L ∧ Turn G w w'
/-- Vt_ G w p v: p is a Vault that stands as v, in blocks of G -/
structure VtIs (T : World → Prop) (Vt_ : (Nat → Prop) → World → Value → Vt → Prop) : Prop where
  next : ∀ {w w' : World}, T w → Below w.heap.size w w' → T w'
  wf : ∀ {G : Nat → Prop} {w : World} {p : Value} {v : Vt}, Vt_ G w p v → WfV v
  cap : ∀ {G : Nat → Prop} {w : World} {p : Value} {v : Vt}, Vt_ G w p v → Vt_ (fun k => G k ∧ k < w.heap.size) w p v
  mono : ∀ {G H : Nat → Prop} {w : World} {p : Value} {v : Vt}, Vt_ G w p v → (∀ k, G k → H k) → Vt_ H w p v
  turn : ∀ {G H : Nat → Prop} {w w' : World} {p : Value} {v : Vt}, Vt_ G w p v → Turn H w w' → (∀ k, k < w.heap.size → G k → ¬ H k) → Vt_ G w' p v
  new : ∀ (w : World), T w → Calls Tryz.prog 5 #[] w fun e w' => ∃ p, e = .returned p ∧ Vt_ (w.heap.size ≤ ·) w' p newV ∧ Below w.heap.size w w'
  append : ∀ (G : Nat → Prop) (p : Value) (v : Vt) (t : ByteArray) (w : World), T w → New G w → Vt_ G w p v → smallV v → t.size ≤ 300 → Calls Tryz.prog 8 #[p, .string t] w fun e w' => e = .returned (.int .i64 (appV v t.data.toList).2) ∧ Vt_ G w' p (appV v t.data.toList).1 ∧ Turn G w w'
  sync : ∀ (G : Nat → Prop) (p : Value) (v : Vt) (w : World), T w → New G w → Vt_ G w p v → smallV v → Calls Tryz.prog 10 #[p] w fun e w' => e = .returned (.int .i64 (syncV v).2) ∧ Vt_ G w' p (syncV v).1 ∧ Turn G w w'
  crash : ∀ (G : Nat → Prop) (p : Value) (v : Vt) (n : Int) (w : World), T w → New G w → Vt_ G w p v → smallV v → Calls Tryz.prog 13 #[p, .int .i64 n] w fun e w' => ∃ l, e = .returned l ∧ Left Vt_ G w p (crashV v n).1 l (crashV v n).2 w'
  snap : ∀ (G : Nat → Prop) (p : Value) (v : Vt) (l : Value) (L : List (List UInt8)) (w : World), T w → New G w → Vt_ G w p v → smallV v → TxA w (fun k => ¬ G k) l L → smallL L → Calls Tryz.prog 15 #[p, l] w fun e w' => e = .returned (.int .i64 (snapV v L).2) ∧ Vt_ G w' p (snapV v L).1 ∧ Turn G w w'
  die : ∀ (G : Nat → Prop) (p : Value) (v : Vt) (l : Value) (L : List (List UInt8)) (n : Int) (w : World), T w → New G w → Vt_ G w p v → smallV v → TxA w (fun k => ¬ G k) l L → smallL L → Calls Tryz.prog 17 #[p, l, .int .i64 n] w fun e w' =>
    ∃ m, e = .returned (.tuple #[m, .int .i64 (dieV v L n).2.2]) ∧ Left Vt_ G w p (dieV v L n).1 m (dieV v L n).2.1 w'
  files : ∀ (G : Nat → Prop) (p : Value) (v : Vt) (w : World), T w → Vt_ G w p v → Calls Tryz.prog 34 #[p] w fun e w' => e = .returned (.tuple #[.string (bt v.a.s), .string (bt v.b.s)]) ∧ Below w.heap.size w w'
  load : ∀ (s t : ByteArray) (w : World), T w → s.size ≤ 1500 → t.size ≤ 1500 → Calls Tryz.prog 21 #[.string s, .string t] w fun e w' => ∃ p l, e = .returned (.tuple #[p, l, .int .i64 (loadV s.data.toList t.data.toList).2.2]) ∧ Below w.heap.size w w' ∧
    ((¬ (loadV s.data.toList t.data.toList).2.2 = 0 ∧ p = .pointer none ∧ TxA w' (fun _ => True) l []) ∨ ((loadV s.data.toList t.data.toList).2.2 = 0 ∧ ∃ pa G', p = .pointer (some pa) ∧ Vt_ G' w' p (loadV s.data.toList t.data.toList).1 ∧ New G' w' ∧ (∀ k, G' k → w.heap.size ≤ k) ∧ TxA w' (fun k => w.heap.size ≤ k ∧ ¬ G' k) l (loadV s.data.toList t.data.toList).2.1))
  use : ∀ (G : Nat → Prop) (p : Value) (v : Vt) (w : World), T w → Vt_ G w p v → Calls Tryz.prog 41 #[p] w fun e w' => e = .returned (.tuple #[.int .i64 v.use, .int .i64 v.no]) ∧ Below w.heap.size w w'
  size : ∀ (G : Nat → Prop) (p : Value) (v : Vt) (w : World), T w → Vt_ G w p v → Calls Tryz.prog 42 #[p] w fun e w' => e = .returned (.int .i64 (v.cur.s.length : Int)) ∧ Below w.heap.size w w'
section
variable {T : World → Prop} {Vt_ : (Nat → Prop) → World → Value → Vt → Prop}
/-- what stands while one vault lives, in blocks of G, all new since w0 -/
structure VS (T : World → Prop) (Vt_ : (Nat → Prop) → World → Value → Vt → Prop) (w0 : World) (G : Nat → Prop) (p : Value) (v : Vt) (w : World) : Prop where
  t : T w
  n : New G w
  v : Vt_ G w p v
  g : ∀ k, G k → w0.heap.size ≤ k
  below : Below w0.heap.size w0 w
variable {w0 w w' : World} {G G' F : Nat → Prop} {p : Value} {v v' : Vt}
theorem VS.op (hI : VtIs T Vt_) (hT : T w0) (h : VS T Vt_ w0 G p v w) (hv : Vt_ G w' p v') (ht : Turn G w w') : VS T Vt_ w0 G p v' w' := by
  have hB := h.below.trans (ht.below h.g)
  exact ⟨hI.next hT hB, h.n.turn ht, hv, h.g, hB⟩
theorem VS.left (hI : VtIs T Vt_) (hT : T w0) (h : VS T Vt_ w0 G p v w) {l : Value} {L : List (List UInt8)} (hl : Left Vt_ G w p v' l L w') : ∃ G', VS T Vt_ w0 G' p v' w' ∧ (∀ k, G' k → G k) ∧ TxA w' (fun k => ¬ G' k) l L ∧ Turn G w w' := by
  obtain ⟨G', h1, h2, h3, h4, h5⟩ := hl
  have hB := h.below.trans (h5.below h.g)
  exact ⟨G', ⟨hI.next hT hB, h2, h1, fun k hk => h.g k (h3 k hk), hB⟩, h3, h4.mono fun k _ hk => hk.2, h5⟩
theorem VS.next (hI : VtIs T Vt_) (h : VS T Vt_ w0 G p v w) (hb : Below w.heap.size w w') : VS T Vt_ w0 G p v w' :=
  ⟨hI.next h.t hb, h.n.of hb.size, hI.turn h.v (Turn.ofBelow hb) fun k hk _ hh => by omega, h.g, h.below.trans (hb.mono h.below.size)⟩
theorem VS.start (hI : VtIs T Vt_) (hT : T w0) (hv : Vt_ (w0.heap.size ≤ ·) w' p v) (hb : Below w0.heap.size w0 w') : VS T Vt_ w0 (w0.heap.size ≤ ·) p v w' :=
  ⟨hI.next hT hb, fun _ hk => Nat.le_trans hb.size hk, hv, fun _ hk => hk, hb⟩
/-- what the law itself lays and turns, outside of the vault's blocks: these are none of the vault's from then on -/
theorem VS.aside (hI : VtIs T Vt_) (hT : T w0) (h : VS T Vt_ w0 G p v w) (ht : Turn F w w') (hF : ∀ k, k < w.heap.size → F k → ¬ G k) (hF0 : ∀ k, F k → w0.heap.size ≤ k) :
    ∃ G', VS T Vt_ w0 G' p v w' ∧ (∀ k, G' k → G k) ∧ (∀ k, G' k → k < w.heap.size ∨ w'.heap.size ≤ k) := by
  have hB := h.below.trans (ht.below hF0)
  have hs := ht.size
  refine ⟨fun k => (G k ∧ k < w.heap.size) ∨ w'.heap.size ≤ k, ⟨hI.next hT hB, fun k hk => .inr hk, ?_, fun k hk => hk.elim (fun x => h.g k x.1) (fun x => by have := h.below.size; omega), hB⟩, fun k hk => hk.elim (·.1) (fun x => h.n k (Nat.le_trans hs x)), fun k hk => hk.imp (·.2) id⟩
  exact hI.mono (hI.turn (hI.cap h.v) ht fun k hk hg hf => hF k hk hf hg.1) fun k hk => .inl hk
/-! The sizes of files. -/
theorem fileJ_len (G : List Rc) (m : Nat) (h : ∀ r ∈ G, r.body.length ≤ 300) : (fileJ G m).s.length ≤ G.length * 309 := by
  show (enL G).length ≤ _
  induction G with
  | nil => simp [enL]
  | cons r G ih =>
    have := ih fun x hx => h x (List.mem_cons_of_mem _ hx)
    have h1 := h r List.mem_cons_self
    rw [enL_cons, List.length_append, List.length_cons, enR_len]
    omega
theorem first_body {l : List (List UInt8)} (h : ∀ s ∈ l, s.length ≤ 300) : ∀ r ∈ firstG l, r.body.length ≤ 300 := by
  intro r hr
  unfold firstG at hr
  rcases List.mem_cons.1 hr with rfl | hr
  · show (opn.b4 0).length ≤ 300
    rw [opn.b4_len]; decide
  rcases List.mem_cons.1 hr with rfl | hr
  · decide
  obtain ⟨s, hs, rfl⟩ := List.mem_map.1 hr
  exact h s hs
theorem snap_body {no : Int} {l : List (List UInt8)} (h : ∀ s ∈ l, s.length ≤ 300) : ∀ r ∈ snapG no l, r.body.length ≤ 300 := by
  intro r hr
  unfold snapG at hr
  rcases List.mem_cons.1 hr with rfl | hr
  · show (opn.b4 no).length ≤ 300
    rw [opn.b4_len]; decide
  rcases List.mem_append.1 hr with hr | hr
  · obtain ⟨s, hs, rfl⟩ := List.mem_map.1 hr
    exact h s hs
  · rw [List.mem_singleton.1 hr]; decide
theorem first_small {l : List (List UInt8)} (hl : l.length ≤ 40) (h : ∀ s ∈ l, s.length ≤ 300) (m : Nat) (u n : Int) : smallV ⟨fileJ (firstG l) m, j0, u, n⟩ := by
  have := fileJ_len (firstG l) m (first_body h)
  rw [first_len] at this
  exact ⟨by show (fileJ (firstG l) m).s.length ≤ 100000; omega, by show ([] : List UInt8).length ≤ 100000; decide⟩
theorem behind_small {l snap left : List (List UInt8)} {v : Vt} (hl : l.length ≤ 40) (hs : snap.length ≤ 40) (h1 : ∀ s ∈ l, s.length ≤ 300) (h2 : ∀ s ∈ snap, s.length ≤ 300) (h : Behind l snap v left) : smallV v := by
  have a := fun m => fileJ_len (firstG l) m (first_body h1)
  have b := fun m => fileJ_len (snapG 1 snap) m (snap_body h2)
  rw [first_len] at a
  rw [snap_len] at b
  cases h with
  | new => exact ⟨by have := a (firstG l).length; show (fileJ (firstG l) _).s.length ≤ 100000; rw [first_len] at this ⊢; omega, by have := b (snapG 1 snap).length; show (fileJ (snapG 1 snap) _).s.length ≤ 100000; rw [snap_len] at this ⊢; omega⟩
  | old W hW =>
    have c := fileJ_len ((snapG 1 snap).take W) W fun r hr => snap_body h2 r (List.mem_of_mem_take hr)
    rw [List.length_take, snap_len] at c
    exact ⟨by have := a (firstG l).length; show (fileJ (firstG l) _).s.length ≤ 100000; rw [first_len] at this ⊢; omega, by show (fileJ ((snapG 1 snap).take W) W).s.length ≤ 100000; omega⟩
set_option maxHeartbeats 4000000 in
set_option maxRecDepth 100000 in
theorem awake_any (hI : VtIs T Vt_) (w : World) (hT : T w) : Calls Tryz.prog 20 #[] w fun e w' => e = .returned (.bool true) ∧ Below w.heap.size w w' := by
  have HI := Lib.hid hI
  have HT := Lib.hid hT
  obtain ⟨A, hA⟩ : ∃ A : List (List UInt8), A = [[97]] := ⟨_, rfl⟩
  obtain ⟨B, hB⟩ : ∃ B : List (List UInt8), B = [[97], [98]] := ⟨_, rfl⟩
  have hAs : ∀ s ∈ A, s.length ≤ 300 := by rw [hA]; decide
  have hBs : ∀ s ∈ B, s.length ≤ 300 := by rw [hB]; decide
  obtain ⟨v0, h0⟩ : ∃ x : Vt, x = ⟨fileJ (firstG []) 2, j0, 0, 0⟩ := ⟨_, rfl⟩
  obtain ⟨v1, h1⟩ : ∃ x : Vt, x = ⟨fileJ (firstG A) 2, j0, 0, 0⟩ := ⟨_, rfl⟩
  obtain ⟨v2, h2⟩ : ∃ x : Vt, x = ⟨fileJ (firstG A) 3, j0, 0, 0⟩ := ⟨_, rfl⟩
  obtain ⟨v3, h3⟩ : ∃ x : Vt, x = ⟨fileJ (firstG B) 3, j0, 0, 0⟩ := ⟨_, rfl⟩
  have s0 : smallV v0 := by rw [h0]; exact first_small (l := []) (by decide) (fun s hs => by cases hs) 2 0 0
  have s1 : smallV v1 := by rw [h1]; exact first_small (by rw [hA]; decide) hAs 2 0 0
  have s2 : smallV v2 := by rw [h2]; exact first_small (by rw [hA]; decide) hAs 3 0 0
  have s3 : smallV v3 := by rw [h3]; exact first_small (by rw [hB]; decide) hBs 3 0 0
  have e1 : appV v0 [97] = (v1, 0) := by rw [h0, keep_app [] 2 (by decide) [97] (by decide), h1, hA]; rfl
  have e2 : (syncV v1).1 = v2 := by rw [h1, keep_sync, h2, hA]; rfl
  have e3 : appV v2 [98] = (v3, 0) := by rw [h2, keep_app A 3 (by rw [hA]; decide) [98] (by decide), h3, hA, hB]; rfl
  have e4 : crashV v3 0 = (v2, A) := by
    rw [h3, h2, hA, hB]
    kernel_rfl
  have e5 : (snapV v2 A).2 = 0 := by rw [h2, hA]; decide +kernel
  obtain ⟨v5, h5⟩ : ∃ x : Vt, x = (snapV v2 A).1 := ⟨_, rfl⟩
  have e6 : (0 : Int) < (v5.cur.s.length : Int) := by rw [h5, h2, hA]; decide +kernel
  obtain ⟨q, hq⟩ : ∃ q : Int, q = (v5.cur.s.length : Int) := ⟨_, rfl⟩
  rw [← hq] at e6
  have e0 : newV = v0 := by rw [new_file, h0]
  have HN := Lib.hid fun u (h : T u) => hI.new u h
  rw [e0] at HN
  have HA1 := Lib.hid fun G p u (h : VS T Vt_ w G p v0 u) => hI.append G p v0 ⟨#[97]⟩ u h.t h.n h.v s0 (by decide)
  have HA2 := Lib.hid fun G p u (h : VS T Vt_ w G p v2 u) => hI.append G p v2 ⟨#[98]⟩ u h.t h.n h.v s2 (by decide)
  have HSY := Lib.hid fun G p u (h : VS T Vt_ w G p v1 u) => hI.sync G p v1 u h.t h.n h.v s1
  have HCR := Lib.hid fun G p u (h : VS T Vt_ w G p v3 u) => hI.crash G p v3 0 u h.t h.n h.v s3
  have HSN := Lib.hid fun G p u l (h : VS T Vt_ w G p v2 u) (hl : TxA u (fun k => ¬ G k) l A) => hI.snap G p v2 l A u h.t h.n h.v s2 hl ⟨by rw [hA]; decide, hAs⟩
  have HSZ := Lib.hid fun G p u (h : VS T Vt_ w G p v5 u) => hI.size G p v5 u h.t h.v
  simp only [show (⟨#[97]⟩ : ByteArray).data.toList = [97] from rfl, e1] at HA1
  simp only [show (⟨#[98]⟩ : ByteArray).data.toList = [98] from rfl, e3] at HA2
  rw [e2] at HSY
  rw [e4] at HCR
  rw [e5, ← h5] at HSN
  rw [← hq] at HSZ
  have HAA := Lib.hid hA
  have hst : ((bt ([[97]].getD 0 [])).toList == [97]) = true := by rw [ByteArray.toList_eq, bt_list]; rfl
  obtain ⟨tx, htx⟩ : ∃ t, t = bt (([[97]] : List (List UInt8)).getD 0 []) := ⟨_, rfl⟩
  rw [← htx] at hst
  have HTX := Lib.hid htx
  clear hI hT hA hB hAs hBs h0 h1 h2 h3 s0 s1 s2 s3 e1 e2 e3 e4 e5 h5 hq e0 htx
  go_enter Tryz.func20, Tryz.ntmps20
  go_wp2_with (first
    | (go_at_call 5; (with_reducible refine (HN.out _ HT.out).mono ?_); rintro e w1 ⟨p, rfl, hk1, hb1⟩; have S1 := Lib.hid (VS.start HI.out HT.out hk1 hb1); clear hk1 hb1)
    | (go_at_call 8; (with_reducible refine (HA1.out _ _ _ S1.out).mono ?_); rintro e w2 ⟨rfl, hk2, ht2⟩; have S2 := Lib.hid (S1.out.op HI.out HT.out hk2 ht2); clear hk2 ht2 S1)
    | (go_at_call 10; (with_reducible refine (HSY.out _ _ _ S2.out).mono ?_); rintro e w3 ⟨rfl, hk3, ht3⟩; have S3 := Lib.hid (S2.out.op HI.out HT.out hk3 ht3); clear hk3 ht3 S2)
    | (go_at_call 8; (with_reducible refine (HA2.out _ _ _ S3.out).mono ?_); rintro e w4 ⟨rfl, hk4, ht4⟩; have S4 := Lib.hid (S3.out.op HI.out HT.out hk4 ht4); clear hk4 ht4 S3)
    | (go_at_call 13; (with_reducible refine (HCR.out _ _ _ S4.out).mono ?_); rintro e w5 ⟨l, rfl, hL5⟩; obtain ⟨G5, S5, -, hl5, -⟩ := S4.out.left HI.out HT.out hL5; have HL5 := Lib.hid hl5; rw [HAA.out] at hl5; obtain ⟨ad, cap, rfl, hcc⟩ := hl5; obtain ⟨bb, off, rfl, -, -, hcell⟩ := hcc 0 (by decide); rw [← HTX.out, Nat.add_zero] at hcell; have S5' := Lib.hid S5; have HL6 := Lib.hid (show TxA w5 (fun k => ¬ G5 k) (.slice (some ⟨bb, off, none⟩) 1 cap) A from HL5.out); clear hL5 hcc S5 S4 HL5)
    | (go_at_call 15; (with_reducible refine (HSN.out _ _ _ _ S5'.out HL6.out).mono ?_); rintro e w6 ⟨rfl, hk6, ht6⟩; have S6 := Lib.hid (S5'.out.op HI.out HT.out hk6 ht6); clear hk6 ht6 S5')
    | (go_at_call 42; (with_reducible refine (HSZ.out _ _ _ S6.out).mono ?_); rintro e w7 ⟨rfl, hb7⟩; have S7 := Lib.hid (S6.out.next HI.out hb7); clear hb7 S6))
  go_ret
  exact ⟨rfl, S7.out.below⟩
end
end Go.Proofs.YtkbbeioednhefaaGreatDoor.vt
