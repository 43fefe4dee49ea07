/-
  A list of ids to read, when other blocks turn.
  Lists whose elements have one cell (numbers, texts, slices): how they are read; one of the call's own, and what is appended to it.
  Rows of the call's own whose elements have c cells: what lies in them, a load, a store, a piece, an append.
-/
import Derived.Test.YtpeneeddfgmjpaaGreatDoorIda
import Derived.Test.YtpeneeddfgmjpaaGreatDoorStepl
namespace Go.Proofs.YtpeneeddfgmjpaaGreatDoor.ids
open Go.RowKit Go.Proofs.YtpeneeddfgmjpaaGreatDoor.mem Go.Proofs.YtpeneeddfgmjpaaGreatDoor.sha

theorem rdv_lt {w : World} {u : Value} {L : List (List UInt8)} (h : RdV w u L) (hne : L ≠ []) {b off n c : Nat} (e : u = .slice (some ⟨b, off, none⟩) n c) : b < w.heap.size := by
 obtain ⟨h1, h2, ad, cap, hv, h3, h4, h5, h6, h7⟩ := h
 rw [e] at hv
 cases hv
 rcases h7 with h7 | ⟨b', off', e', hb, _⟩
 ·
  exact absurd (by cases L with
   | nil => rfl
   | cons x L => exact absurd h7 (by
     have := h1 x List.mem_cons_self
     cases x with
     | nil => simp at this
     | cons a x => simp [fl, bv])) hne
 ·
  cases e'; exact hb
theorem rdv_turn {F : Nat → Prop} {w w' : World} {u : Value} {L : List (List UInt8)} (h : RdV w u L) (ht : Turn F w w') (hF : L ≠ [] → ∀ b off n c, u = .slice (some ⟨b, off, none⟩) n c → b < w.heap.size → ¬ F b) : RdV w' u L := by
 obtain ⟨h1, h2, ad, cap, hv, h3, h4, h5, h6, h7⟩ := h
 refine ⟨h1, h2, ad, cap, hv, h3, h4, h5, h6, ?_⟩
 by_cases h0 : L = []
 ·
  subst h0; exact .inl rfl
 ·
  exact h7.turn ht fun b off e hb => hF h0 b off _ _ (by rw [hv, e]) hb
end Go.Proofs.YtpeneeddfgmjpaaGreatDoor.ids

namespace Go.Proofs.YtpeneeddfgmjpaaGreatDoor.rows
open Go.RowKit Go.Proofs.YtpeneeddfgmjpaaGreatDoor.mem Go.Proofs.YtpeneeddfgmjpaaGreatDoor.sha Go.Proofs.YtpeneeddfgmjpaaGreatDoor.ids

/-- a slice type of elements of one cell -/
structure Elem (t e : TypeId) (k : Nat) : Prop where
 hu : Tryz.prog.underlying t = some (.slice e)
 info : ∃ i z, Tryz.prog.info? e = some i ∧ i.zero = some z ∧ i.size = 1 ∧ i.bytes = k ∧ z.cells.size = 1
theorem Elem.of {t e : TypeId} {z : Value} {k : Nat} (hu : Tryz.prog.underlying t = some (.slice e)) (hi : (Tryz.prog.info? e).map (fun i => (i.zero, i.size, i.bytes)) = some (some z, 1, k)) (hz : z.cells.size = 1) : Elem t e k := by
 obtain ⟨i, h1, h2, h3, h4⟩ := info_parts hi
 exact ⟨hu, i, z, h1, h2, h3, h4, hz⟩
/-- a list as a value -/
structure RdC (w : World) (v : Value) (xs : List Value) : Prop where
 max : xs.length ≤ 140737488355328
 at_ : ∃ ad cap, v = .slice ad xs.length cap ∧ xs.length ≤ cap ∧ cap ≤ maxLen ∧ (ad = none → cap = 0) ∧ (∀ a, ad = some a → 0 < cap → ∃ b off, a = ⟨b, off, none⟩) ∧ Rd w ad xs
theorem RdC.below {w w' : World} {v : Value} {xs : List Value} (h : RdC w v xs) {B : Nat} (hb : Below B w w') (hB : w.heap.size ≤ B) : RdC w' v xs := by
 obtain ⟨h2, ad', cap', hv, h3, h4, h5, h6, h7⟩ := h
 exact ⟨h2, ad', cap', hv, h3, h4, h5, h6, h7.below hb hB⟩
theorem RdC.next {w w' : World} {v : Value} {xs : List Value} (h : RdC w v xs) (hb : Below w.heap.size w w') : RdC w' v xs := h.below hb (Nat.le_refl _)
theorem RdC.turn {F : Nat → Prop} {w w' : World} {ad : Option Addr} {n cap : Nat} {xs : List Value} (h : RdC w (.slice ad n cap) xs) (ht : Turn F w w') (hF : ∀ b off, ad = some ⟨b, off, none⟩ → b < w.heap.size → ¬ F b) : RdC w' (.slice ad n cap) xs := by
 obtain ⟨h2, ad', cap', hv, h3, h4, h5, h6, h7⟩ := h
 cases hv
 exact ⟨h2, ad, cap, rfl, h3, h4, h5, h6, h7.turn ht hF⟩
theorem RdC.form {w : World} {v : Value} {xs : List Value} (h : RdC w v xs) : ∃ ad cap, v = .slice ad xs.length cap := by
 obtain ⟨h2, ad', cap', hv, _⟩ := h
 exact ⟨ad', cap', hv⟩
theorem RdC.len {w : World} {ad : Option Addr} {n cap : Nat} {xs : List Value} (h : RdC w (.slice ad n cap) xs) : n = xs.length := by
 obtain ⟨h2, ad', cap', hv, _⟩ := h
 cases hv; rfl
theorem RdC.nil (w : World) : RdC w (.slice none 0 0) [] := ⟨Nat.zero_le _, none, 0, rfl, Nat.le_refl _, Nat.zero_le _, fun _ => rfl, (fun a h => by cases h), .inl rfl⟩
/-- an element -/
theorem RdC.cell {w : World} {ad : Option Addr} {n cap : Nat} {xs : List Value} (h : RdC w (.slice ad n cap) xs) {i : Nat} (hi : i < xs.length) :
  ∃ b off, ad = some ⟨b, off, none⟩ ∧ b < w.heap.size ∧ w.cell? ⟨b, off + i, none⟩ = some (xs.getD i undef) := by
 obtain ⟨h2, ad', cap', hv, h3, h4, h5, h6, h7⟩ := h
 cases hv
 rcases h7 with h7 | ⟨b, off, e, hb, hc⟩
 ·
  rw [h7] at hi; simp at hi
 ·
  refine ⟨b, off, e, hb, hc i _ ?_⟩
  rw [List.getD_eq_getElem?_getD, List.getElem?_eq_getElem hi]
  rfl
theorem RdC.cell_at {w : World} {b off n cap : Nat} {xs : List Value} (h : RdC w (.slice (some ⟨b, off, none⟩) n cap) xs) {i : Nat} (hi : i < xs.length) {u : Value} (hu : xs.getD i undef = u) : w.cell? ⟨b, off + i, none⟩ = some u := by
 obtain ⟨b', off', e, _, hc⟩ := h.cell hi
 cases e
 rw [hc, hu]

/-- a list of the call's own, its row one of F, one that grows in place -/
def OwnC (w : World) (F : Nat → Prop) (e : TypeId) (v : Value) (xs : List Value) : Prop := w.ownsRow 0 e 1 v xs.length xs ∧ ∀ k, v.ownBlock = some k → F k
theorem OwnC.nil (w : World) (F : Nat → Prop) (e : TypeId) : OwnC w F e (.slice none 0 0) [] := ⟨World.ownsRow_nil w 0 _ 1, fun k hk => by simp [Value.ownBlock] at hk⟩
theorem OwnC.turn {w w' : World} {F G : Nat → Prop} {e : TypeId} {v : Value} {xs : List Value} (h : OwnC w F e v xs) (ht : Turn G w w') (hg : ∀ k, v.ownBlock = some k → ¬ G k) : OwnC w' F e v xs := by
 refine ⟨⟨h.1.1, ?_⟩, h.2⟩
 rcases h.1.2 with h0 | ⟨g, cap, cur, rfl, hb, hh, hr⟩
 ·
  exact .inl h0
 ·
  exact .inr ⟨g, cap, cur, rfl, hb, (ht.block g (hg g rfl)).trans hh, hr⟩
theorem OwnC.lt {w : World} {F : Nat → Prop} {e : TypeId} {v : Value} {xs : List Value} (h : OwnC w F e v xs) {k : Nat} (hk : v.ownBlock = some k) : k < w.heap.size := (h.1.lt k hk).2
theorem OwnC.below {w w' : World} {F : Nat → Prop} {e : TypeId} {v : Value} {xs : List Value} (h : OwnC w F e v xs) (hb : Below w.heap.size w w') : OwnC w' F e v xs :=
 h.turn (Turn.ofBelow hb) fun k hk => by have := h.lt hk; omega
theorem OwnC.mono {w : World} {F G : Nat → Prop} {e : TypeId} {v : Value} {xs : List Value} (h : OwnC w F e v xs) (hFG : ∀ k, F k → G k) : OwnC w G e v xs := ⟨h.1, fun k hk => hFG k (h.2 k hk)⟩
theorem OwnC.rdc {w : World} {F : Nat → Prop} {e : TypeId} {v : Value} {xs : List Value} (h : OwnC w F e v xs) (hm : xs.length ≤ 140737488355328) : RdC w v xs ∧ ∀ b off n c, v = .slice (some ⟨b, off, none⟩) n c → F b := by
 refine ⟨⟨hm, ?_⟩, fun b off n c e => h.2 b (by rw [e]; rfl)⟩
 rcases h.1.2 with ⟨rfl, hn⟩ | ⟨g, cap, cur, rfl, hb, hh, hle, hcm, hr⟩
 ·
  have : xs = [] := List.eq_nil_of_length_eq_zero hn
  subst this
  exact ⟨none, 0, rfl, Nat.le_refl _, Nat.zero_le _, fun _ => rfl, (fun a ha => by cases ha), .inl rfl⟩
 ·
  refine ⟨some ⟨g, 0, none⟩, cap, rfl, hle, hcm, fun h => (by cases h), fun a ha _ => (by cases ha; exact ⟨g, 0, rfl⟩), .inr ⟨g, 0, rfl, (Array.getElem?_eq_some_iff.1 hh).1, fun k u hu => ?_⟩⟩
  have := h.1.cells (g := g) rfl k u hu
  rw [Addr.add_lit] at this
  exact this
/-- what a statement has just laid: 'T{}', 'T{x}' -/
theorem OwnC.laid0 (w : World) (F : Nat → Prop) (e : TypeId) (hF : New F w) : OwnC (w.alloc (.cells #[] e)) F e (.slice (some ⟨w.heap.size, 0, none⟩) 0 0) [] :=
 ⟨⟨rfl, .inr ⟨w.heap.size, 0, #[], rfl, Nat.zero_le _, heap_alloc_new w _, Nat.le_refl _, Nat.zero_le _, rfl, rfl⟩⟩, fun k hk => by
  injection hk with hk
  subst hk
  exact hF _ (Nat.le_refl _)⟩
theorem OwnC.laid1 (w : World) (F : Nat → Prop) (e : TypeId) (x : Value) (hF : New F w) : OwnC (w.alloc (.cells #[x] e)) F e (.slice (some ⟨w.heap.size, 0, none⟩) 1 1) [x] :=
 ⟨⟨rfl, .inr ⟨w.heap.size, 1, #[x], rfl, Nat.zero_le _, heap_alloc_new w _, Nat.le_refl _, by unfold maxLen; omega, rfl, rfl⟩⟩, fun k hk => by
  injection hk with hk
  subst hk
  exact hF _ (Nat.le_refl _)⟩
/-- 'append(v, x..)' -/
theorem run_append_c {t e : TypeId} {k : Nat} (hE : Elem t e k) {w : World} {F : Nat → Prop} {v vx : Value} {xs ys : List Value} (hown : OwnC w F e v xs) (hx : RdC w vx ys) (h1 : ∀ u ∈ ys, u.oneCell' = true)
  (hlen : xs.length + ys.length ≤ 140737488355328) (hby : (xs.length + ys.length) * k ≤ 140737488355328) (hn : New F w) (ty : TypeId) :
  ∃ v' w', (Builtin.append_ #[t, t] ty #[v, vx]).run Tryz.prog w = .ok v' w' ∧ OwnC w' F e v' (xs ++ ys) ∧ Turn (fun k => v.ownBlock = some k ∨ w.heap.size ≤ k) w w' := by
 obtain ⟨i0, z, hi, hz0, hz1, hz2, hz3⟩ := hE.info
 obtain ⟨_, ad, cap, rfl, h3, h4, h5, h6, h7⟩ := hx
 cases ad with
 | none =>
  have hM0 : ys = [] := by
   rcases h7 with h | ⟨b, off, h, _⟩
   ·
    exact h
   ·
    cases h
  subst hM0
  rw [h5 rfl, List.append_nil, List.length_nil]
  exact ⟨v, w, run_append_owned_none (P := Tryz.prog) w 0 t ty e i0 1 hE.hu hi v xs.length xs hown.1, hown, Turn.refl _ w⟩
 | some a =>
  have hnews : ∀ j u, ys[j]? = some u → w.cell? (a.add j) = some u := fun j u hu => by
   rcases h7 with h | ⟨b, off, h, _, hcl⟩
   ·
    rw [h] at hu; simp at hu
   ·
    cases h
    rw [Addr.add_lit]
    exact hcl j u hu
  obtain ⟨v', w', hrun, hown', hg, _, hat⟩ := run_append_own_at (P := Tryz.prog) w 0 t ty e i0 z 1 k hE.hu hi hz0 hz1 hz2 hz3 (by decide) v xs.length xs hown.1 a ys.length cap ys (by rw [Nat.mul_one]) hnews h1
   (by unfold maxLen; omega) hby (Nat.zero_le _)
  refine ⟨v', w', hrun, ⟨by rw [List.length_append]; exact hown', fun b hb => ?_⟩, Turn.grown hg (fun k hk => .inl hk) (fun k hk => .inr hk)⟩
  rcases hat with e | e <;> rw [e] at hb
  ·
   exact hown.2 b hb
  ·
   injection hb with hb
   subst hb
   exact hn _ (Nat.le_refl _)
/-- the changes of an append are changes of F -/
theorem app_turn {w w' : World} {F : Nat → Prop} {v : Value} (hv : ∀ k, v.ownBlock = some k → F k) (hn : New F w) (ht : Turn (fun k => v.ownBlock = some k ∨ w.heap.size ≤ k) w w') : Turn F w w' :=
 ht.mono fun j hj => hj.elim (hv j) (hn j)
end Go.Proofs.YtpeneeddfgmjpaaGreatDoor.rows

namespace Go.Proofs.YtpeneeddfgmjpaaGreatDoor.rows
open Go.RowKit Go.Proofs.YtpeneeddfgmjpaaGreatDoor.mem Go.Proofs.YtpeneeddfgmjpaaGreatDoor.sha Go.Proofs.YtpeneeddfgmjpaaGreatDoor.ids

section
variable {c : Nat}
/-- each element has c cells -/
def Uni (c : Nat) (xs : List (List Value)) : Prop := ∀ x ∈ xs, x.length = c ∧ ∀ u ∈ x, u.oneCell' = true
theorem Uni.len : ∀ {xs : List (List Value)}, Uni c xs → xs.flatten.length = xs.length * c
 | [], _ => by simp
 | x :: xs, h => by
  rw [List.flatten_cons, List.length_append, (h x List.mem_cons_self).1, Uni.len fun y hy => h y (List.mem_cons_of_mem _ hy), List.length_cons, Nat.succ_mul]
  omega
theorem Uni.drop : ∀ (i : Nat) {xs : List (List Value)}, Uni c xs → xs.flatten.drop (i * c) = (xs.drop i).flatten
 | 0, xs, _ => by rw [Nat.zero_mul, List.drop_zero, List.drop_zero]
 | i + 1, [], _ => by simp
 | i + 1, x :: xs, h => by
  rw [List.flatten_cons, List.drop_succ_cons, ← Uni.drop i (fun y hy => h y (List.mem_cons_of_mem _ hy)), Nat.succ_mul, Nat.add_comm, ← List.drop_drop, List.drop_left' (h x List.mem_cons_self).1]
theorem Uni.take : ∀ (i : Nat) {xs : List (List Value)}, Uni c xs → xs.flatten.take (i * c) = (xs.take i).flatten
 | 0, xs, _ => by simp
 | i + 1, [], _ => by simp
 | i + 1, x :: xs, h => by
  have hx := (h x List.mem_cons_self).1
  rw [List.flatten_cons, List.take_succ_cons, List.flatten_cons, ← Uni.take i (fun y hy => h y (List.mem_cons_of_mem _ hy)), Nat.succ_mul, Nat.add_comm, List.take_append, hx, List.take_of_length_le (by omega), show c + i * c - c = i * c by omega]
theorem Uni.get {xs : List (List Value)} (h : Uni c xs) {i j : Nat} (hi : i < xs.length) (hj : j < c) : xs.flatten[i * c + j]? = (xs.getD i [])[j]? := by
 have e : xs.drop i = xs.getD i [] :: xs.drop (i + 1) := by rw [List.getD_eq_getElem?_getD, List.getElem?_eq_getElem hi, Option.getD_some, List.drop_eq_getElem_cons hi]
 have hx : (xs.getD i []).length = c := by
  rw [List.getD_eq_getElem?_getD, List.getElem?_eq_getElem hi]
  exact (h _ (List.getElem_mem _)).1
 rw [← List.getElem?_drop, h.drop i, e, List.flatten_cons, List.getElem?_append_left (by omega)]
theorem Uni.one {xs : List (List Value)} (h : Uni c xs) : ∀ u ∈ xs.flatten, u.oneCell' = true := by
 intro u hu
 obtain ⟨x, hx, hux⟩ := List.mem_flatten.1 hu
 exact (h x hx).2 u hux
theorem Uni.append {xs ys : List (List Value)} (h : Uni c xs) (k : Uni c ys) : Uni c (xs ++ ys) := fun x hx => (List.mem_append.1 hx).elim (h x) (k x)
theorem Uni.takes {xs : List (List Value)} (h : Uni c xs) (k : Nat) : Uni c (xs.take k) := fun x hx => h x (List.mem_of_mem_take hx)
theorem Uni.set {xs : List (List Value)} (h : Uni c xs) (i : Nat) {y : List Value} (hy : y.length = c ∧ ∀ u ∈ y, u.oneCell' = true) : Uni c (xs.set i y) := fun z hz => by
 rcases List.mem_or_eq_of_mem_set hz with h1 | h1
 ·
  exact h z h1
 ·
  rw [h1]; exact hy
theorem Uni.flat_set {xs : List (List Value)} (h : Uni c xs) {i : Nat} (hi : i < xs.length) {y : List Value} : (xs.set i y).flatten = xs.flatten.take (i * c) ++ y ++ xs.flatten.drop ((i + 1) * c) := by
 have e : xs.set i y = xs.take i ++ y :: xs.drop (i + 1) := List.set_eq_take_append_cons_drop.trans (by rw [if_pos hi])
 rw [e, List.flatten_append, List.flatten_cons, h.take i, h.drop (i + 1), List.append_assoc]
end

/-- a row of the call's own, its block one of F -/
def OwnK (w : World) (F : Nat → Prop) (e : TypeId) (c : Nat) (v : Value) (xs : List (List Value)) : Prop := Uni c xs ∧ w.ownsRow 0 e c v xs.length xs.flatten ∧ ∀ k, v.ownBlock = some k → F k
section
variable {w w' : World} {F G : Nat → Prop} {e : TypeId} {c : Nat} {v : Value} {xs : List (List Value)}
theorem OwnK.nil (w : World) (F : Nat → Prop) (e : TypeId) (c : Nat) : OwnK w F e c (.slice none 0 0) [] := ⟨(fun _ h => by cases h), World.ownsRow_nil w 0 _ c, fun k hk => by simp [Value.ownBlock] at hk⟩
theorem OwnK.lt (h : OwnK w F e c v xs) {k : Nat} (hk : v.ownBlock = some k) : k < w.heap.size := (h.2.1.lt k hk).2
theorem OwnK.turn (h : OwnK w F e c v xs) (ht : Turn G w w') (hg : ∀ k, v.ownBlock = some k → ¬ G k) : OwnK w' F e c v xs := by
 refine ⟨h.1, ⟨h.2.1.1, ?_⟩, h.2.2⟩
 rcases h.2.1.2 with h0 | ⟨g, cap, cur, rfl, hb, hh, hr⟩
 ·
  exact .inl h0
 ·
  exact .inr ⟨g, cap, cur, rfl, hb, (ht.block g (hg g rfl)).trans hh, hr⟩
theorem OwnK.next (h : OwnK w F e c v xs) (hb : Below w.heap.size w w') : OwnK w' F e c v xs := h.turn (Turn.ofBelow hb) fun k hk => by have := h.lt hk; omega
theorem OwnK.place (h : OwnK w F e c v xs) (hG : ∀ k, v.ownBlock = some k → G k) : OwnK w G e c v xs := ⟨h.1, h.2.1, hG⟩
theorem OwnK.form (h : OwnK w F e c v xs) : ∃ ad cap, v = .slice ad xs.length cap := by
 rcases h.2.1.2 with ⟨rfl, hn⟩ | ⟨g, cap, cur, rfl, _⟩
 ·
  exact ⟨none, 0, by rw [hn]⟩
 ·
  exact ⟨_, _, rfl⟩
/-- where it lies -/
theorem OwnK.at_ (h : OwnK w F e c v xs) (hne : 0 < xs.length) : ∃ g cap cur, v = .slice (some ⟨g, 0, none⟩) xs.length cap ∧ F g ∧ w.heap[g]? = some (.cells cur e (0, 0)) ∧ xs.length ≤ cap ∧ cap ≤ maxLen ∧ cur.size = cap * c ∧ cur.toList.take (xs.length * c) = xs.flatten := by
 rcases h.2.1.2 with ⟨_, hn⟩ | ⟨g, cap, cur, hv, _, hh, h1, h2, h3, h4⟩
 ·
  omega
 ·
  exact ⟨g, cap, cur, hv, h.2.2 g (by rw [hv]; rfl), hh, h1, h2, h3, h4⟩
theorem OwnK.cell {g cap : Nat} (h : OwnK w F e c (.slice (some ⟨g, 0, none⟩) xs.length cap) xs) {i j : Nat} (hi : i < xs.length) (hj : j < c) {u : Value} (hu : (xs.getD i [])[j]? = some u) : w.cell? ⟨g, i * c + j, none⟩ = some u := by
 have := h.2.1.cells (g := g) rfl (i * c + j) u (by rw [h.1.get hi hj]; exact hu)
 rw [Addr.add_lit, Nat.zero_add] at this
 exact this
theorem OwnK.frozen {g cap : Nat} (h : OwnK w F e c (.slice (some ⟨g, 0, none⟩) xs.length cap) xs) (j : Nat) : w.frozen? ⟨g, j, none⟩ = false := by
 rcases h.2.1.2 with ⟨hv, _⟩ | ⟨g', cap', cur, hv, _, hh, _⟩
 ·
  cases hv
 ·
  cases hv
  exact frozen_of_row w g j cur e hh
/-- a piece -/
theorem OwnK.cut {ad : Option Addr} {n cap : Nat} (h : OwnK w F e c (.slice ad n cap) xs) (k : Nat) (hk : k ≤ xs.length) : OwnK w F e c (.slice ad k cap) (xs.take k) := by
 refine ⟨h.1.takes k, ⟨by rw [(h.1.takes k).len], ?_⟩, fun j hj => h.2.2 j (by cases ad with | none => cases hj | some a => exact hj)⟩
 have hl : (xs.take k).length = k := by rw [List.length_take]; omega
 rw [hl]
 rcases h.2.1.2 with ⟨hv, hn⟩ | ⟨g, cap', cur, hv, hb, hh, h1, h2, h3, h4⟩
 ·
  cases hv
  exact .inl ⟨by rw [show k = 0 by omega], by omega⟩
 ·
  cases hv
  refine .inr ⟨g, cap, cur, rfl, hb, hh, by omega, h2, h3, ?_⟩
  rw [← h.1.take k, ← h4, List.take_take, Nat.min_eq_left (Nat.mul_le_mul_right c hk)]
/-- another element in the place of the i-th -/
theorem OwnK.put {g cap : Nat} {cur : Array Value} (h : OwnK w F e c (.slice (some ⟨g, 0, none⟩) xs.length cap) xs) (hh : w.heap[g]? = some (.cells cur e (0, 0))) {i : Nat} (hi : i < xs.length) {y : List Value} (hy : y.length = c ∧ ∀ u ∈ y, u.oneCell' = true) :
  OwnK (w.setRow g (cur.toList.take (i * c) ++ y ++ cur.toList.drop ((i + 1) * c)).toArray) F e c (.slice (some ⟨g, 0, none⟩) xs.length cap) (xs.set i y) := by
 rcases h.2.1.2 with ⟨hv, _⟩ | ⟨g', cap', cur', hv, hb, hh', h1, h2, h3, h4⟩
 ·
  cases hv
 ·
  cases hv
  rw [hh] at hh'
  obtain rfl : cur = cur' := by injection hh' with a; injection a
  have hic : (i + 1) * c ≤ xs.length * c := Nat.mul_le_mul_right c hi
  have hcc : xs.length * c ≤ cap * c := Nat.mul_le_mul_right c h1
  have hsm : (i + 1) * c = i * c + c := Nat.succ_mul i c
  have hcl : cur.toList.length = cap * c := by rw [Array.length_toList]; exact h3
  refine ⟨h.1.set i hy, ⟨by rw [(h.1.set i hy).len], .inr ⟨g, cap, _, by rw [List.length_set], hb, setRow_heap w g cur _ _ _ hh, by rw [List.length_set]; exact h1, h2, ?_, ?_⟩⟩, h.2.2⟩
  ·
   rw [List.size_toArray, List.length_append, List.length_append, List.length_take, List.length_drop, hy.1]; omega
  ·
   have ht : (cur.toList.take (i * c)).length = i * c := by rw [List.length_take]; omega
   have e1 : xs.flatten.take (i * c) = cur.toList.take (i * c) := by rw [← h4, List.take_take, Nat.min_eq_left (by omega)]
   have e2 : xs.flatten.drop ((i + 1) * c) = (cur.toList.drop ((i + 1) * c)).take (xs.length * c - (i + 1) * c) := by rw [← h4, List.drop_take]
   rw [List.length_set, h.1.flat_set hi, e1, e2, List.take_append, List.take_of_length_le (by rw [List.length_append, ht, hy.1]; omega)]
   congr 2
   rw [List.length_append, ht, hy.1, hsm]
/-- 'append(v, y)', y just laid -/
theorem run_append_k {t : TypeId} {i0 : TypeInfo} {z : Value} {by_ : Nat} (hu : Tryz.prog.underlying t = some (.slice e)) (hi : Tryz.prog.info? e = some i0) (hz0 : i0.zero = some z) (hz1 : i0.size = c) (hz2 : i0.bytes = by_) (hz3 : z.cells.size = c) (hc : 0 < c)
  (h : OwnK w F e c v xs) {y : List Value} (hy : y.length = c ∧ ∀ u ∈ y, u.oneCell' = true) {g cap : Nat} (hg : ∀ j u, y[j]? = some u → w.cell? ⟨g, j, none⟩ = some u) (hlen : xs.length < 1000000) (hby : by_ ≤ 100000) (ty : TypeId) :
  ∃ v' w', (Builtin.append_ #[t, t] ty #[v, .slice (some ⟨g, 0, none⟩) 1 cap]).run Tryz.prog w = .ok v' w' ∧ OwnK w' (fun k => v.ownBlock = some k ∨ w.heap.size ≤ k) e c v' (xs ++ [y]) ∧ Turn (fun k => v.ownBlock = some k ∨ w.heap.size ≤ k) w w' := by
 have hle : (xs.length + 1) * by_ ≤ 1000000 * 100000 := Nat.mul_le_mul (by omega) hby
 obtain ⟨v', w', hrun, hown', hgr, _, hat⟩ := run_append_own_at (P := Tryz.prog) w 0 t ty e i0 z c by_ hu hi hz0 hz1 hz2 hz3 hc v xs.length xs.flatten h.2.1 ⟨g, 0, none⟩ 1 cap y (by rw [hy.1, Nat.one_mul])
  (fun j u hj => by rw [Addr.add_lit, Nat.zero_add]; exact hg j u hj) hy.2 (by unfold maxLen; omega) (by omega) (Nat.zero_le _)
 refine ⟨v', w', hrun, ⟨h.1.append fun x hx => by rw [List.mem_singleton.1 hx]; exact hy, by rw [List.length_append, List.length_singleton, List.flatten_append]; simpa using hown', fun k hk => ?_⟩, Turn.grown hgr (fun k hk => .inl hk) (fun k hk => .inr hk)⟩
 rcases hat with e1 | e1 <;> rw [e1] at hk
 ·
  exact .inl hk
 ·
  injection hk with hk
  exact .inr (by omega)
end
end Go.Proofs.YtpeneeddfgmjpaaGreatDoor.rows
