/-
  A list of ids to read, when other blocks turn.
  Lists whose elements have one cell (numbers, texts, slices): how they are read; one of the call's own, and what is appended to it.
  Rows of the call's own whose elements have c cells: what lies in them, a load, a store, a piece, an append.
  Lists whose elements have c cells: how they lie to be read; pieces of them; one appended to another of the call's own.
  Lists of headers: how they lie to be read; one of the call's own, one more behind it.
-/
import Derived.Test.YtpeneeddfgmjpaaGreatDoorIda
import Derived.Test.YtpeneeddfgmjpaaGreatDoorHdm
import Derived.Test.YtpeneeddfgmjpaaGreatDoorIdst
namespace Go.Proofs.YtpeneeddfgmjpaaGreatDoor.ids
open Go.RowKit Go.Proofs.YtpeneeddfgmjpaaGreatDoor.mem Go.Proofs.YtpeneeddfgmjpaaGreatDoor.sha

theorem rdv_lt {w : World} {u : Value} {L : List (List UInt8)} (h : RdV w u L) (hne : L ≠ []) {b off n c : Nat} (e : u = .slice (some ⟨b, off, none⟩) n c) : b < w.heap.size := by
 obtain ⟨h1, h2, ad, cap, hv, h3, h4, h5, h6, h7⟩ := h
 rw [e] at hv
 cases hv
 rcases h7 with h7 | ⟨b', off', e', hb, _⟩
 ·
  exact absurd (by cases L with
   | nil => rfl
   | cons x L => exact absurd h7 (by
     have := h1 x List.mem_cons_self
     cases x with
     | nil => simp at this
     | cons a x => simp [fl, bv])) hne
 ·
  cases e'; exact hb
theorem rdv_turn {F : Nat → Prop} {w w' : World} {u : Value} {L : List (List UInt8)} (h : RdV w u L) (ht : Turn F w w') (hF : L ≠ [] → ∀ b off n c, u = .slice (some ⟨b, off, none⟩) n c → b < w.heap.size → ¬ F b) : RdV w' u L := by
 obtain ⟨h1, h2, ad, cap, hv, h3, h4, h5, h6, h7⟩ := h
 refine ⟨h1, h2, ad, cap, hv, h3, h4, h5, h6, ?_⟩
 by_cases h0 : L = []
 ·
  subst h0; exact .inl rfl
 ·
  exact h7.turn ht fun b off e hb => hF h0 b off _ _ (by rw [hv, e]) hb
end Go.Proofs.YtpeneeddfgmjpaaGreatDoor.ids

namespace Go.Proofs.YtpeneeddfgmjpaaGreatDoor.rows
open Go.RowKit Go.Proofs.YtpeneeddfgmjpaaGreatDoor.mem Go.Proofs.YtpeneeddfgmjpaaGreatDoor.sha Go.Proofs.YtpeneeddfgmjpaaGreatDoor.ids

/-- a slice type of elements of one cell -/
structure Elem (t e : TypeId) (k : Nat) : Prop where
 hu : Tryz.prog.underlying t = some (.slice e)
 info : ∃ i z, Tryz.prog.info? e = some i ∧ i.zero = some z ∧ i.size = 1 ∧ i.bytes = k ∧ z.cells.size = 1
theorem Elem.of {t e : TypeId} {z : Value} {k : Nat} (hu : Tryz.prog.underlying t = some (.slice e)) (hi : (Tryz.prog.info? e).map (fun i => (i.zero, i.size, i.bytes)) = some (some z, 1, k)) (hz : z.cells.size = 1) : Elem t e k := by
 obtain ⟨i, h1, h2, h3, h4⟩ := info_parts hi
 exact ⟨hu, i, z, h1, h2, h3, h4, hz⟩
/-- a list as a value -/
structure RdC (w : World) (v : Value) (xs : List Value) : Prop where
 max : xs.length ≤ 140737488355328
 at_ : ∃ ad cap, v = .slice ad xs.length cap ∧ xs.length ≤ cap ∧ cap ≤ maxLen ∧ (ad = none → cap = 0) ∧ (∀ a, ad = some a → 0 < cap → ∃ b off, a = ⟨b, off, none⟩) ∧ Rd w ad xs
theorem RdC.below {w w' : World} {v : Value} {xs : List Value} (h : RdC w v xs) {B : Nat} (hb : Below B w w') (hB : w.heap.size ≤ B) : RdC w' v xs := by
 obtain ⟨h2, ad', cap', hv, h3, h4, h5, h6, h7⟩ := h
 exact ⟨h2, ad', cap', hv, h3, h4, h5, h6, h7.below hb hB⟩
theorem RdC.next {w w' : World} {v : Value} {xs : List Value} (h : RdC w v xs) (hb : Below w.heap.size w w') : RdC w' v xs := h.below hb (Nat.le_refl _)
theorem RdC.turn {F : Nat → Prop} {w w' : World} {ad : Option Addr} {n cap : Nat} {xs : List Value} (h : RdC w (.slice ad n cap) xs) (ht : Turn F w w') (hF : ∀ b off, ad = some ⟨b, off, none⟩ → b < w.heap.size → ¬ F b) : RdC w' (.slice ad n cap) xs := by
 obtain ⟨h2, ad', cap', hv, h3, h4, h5, h6, h7⟩ := h
 cases hv
 exact ⟨h2, ad, cap, rfl, h3, h4, h5, h6, h7.turn ht hF⟩
theorem RdC.form {w : World} {v : Value} {xs : List Value} (h : RdC w v xs) : ∃ ad cap, v = .slice ad xs.length cap := by
 obtain ⟨h2, ad', cap', hv, _⟩ := h
 exact ⟨ad', cap', hv⟩
theorem RdC.len {w : World} {ad : Option Addr} {n cap : Nat} {xs : List Value} (h : RdC w (.slice ad n cap) xs) : n = xs.length := by
 obtain ⟨h2, ad', cap', hv, _⟩ := h
 cases hv; rfl
theorem RdC.nil (w : World) : RdC w (.slice none 0 0) [] := ⟨Nat.zero_le _, none, 0, rfl, Nat.le_refl _, Nat.zero_le _, fun _ => rfl, (fun a h => by cases h), .inl rfl⟩
/-- an element -/
theorem RdC.cell {w : World} {ad : Option Addr} {n cap : Nat} {xs : List Value} (h : RdC w (.slice ad n cap) xs) {i : Nat} (hi : i < xs.length) :
  ∃ b off, ad = some ⟨b, off, none⟩ ∧ b < w.heap.size ∧ w.cell? ⟨b, off + i, none⟩ = some (xs.getD i undef) := by
 obtain ⟨h2, ad', cap', hv, h3, h4, h5, h6, h7⟩ := h
 cases hv
 rcases h7 with h7 | ⟨b, off, e, hb, hc⟩
 ·
  rw [h7] at hi; simp at hi
 ·
  refine ⟨b, off, e, hb, hc i _ ?_⟩
  rw [List.getD_eq_getElem?_getD, List.getElem?_eq_getElem hi]
  rfl
theorem RdC.cell_at {w : World} {b off n cap : Nat} {xs : List Value} (h : RdC w (.slice (some ⟨b, off, none⟩) n cap) xs) {i : Nat} (hi : i < xs.length) {u : Value} (hu : xs.getD i undef = u) : w.cell? ⟨b, off + i, none⟩ = some u := by
 obtain ⟨b', off', e, _, hc⟩ := h.cell hi
 cases e
 rw [hc, hu]

/-- a list of the call's own, its row one of F, one that grows in place -/
def OwnC (w : World) (F : Nat → Prop) (e : TypeId) (v : Value) (xs : List Value) : Prop := w.ownsRow 0 e 1 v xs.length xs ∧ ∀ k, v.ownBlock = some k → F k
theorem OwnC.nil (w : World) (F : Nat → Prop) (e : TypeId) : OwnC w F e (.slice none 0 0) [] := ⟨World.ownsRow_nil w 0 _ 1, fun k hk => by simp [Value.ownBlock] at hk⟩
theorem OwnC.turn {w w' : World} {F G : Nat → Prop} {e : TypeId} {v : Value} {xs : List Value} (h : OwnC w F e v xs) (ht : Turn G w w') (hg : ∀ k, v.ownBlock = some k → ¬ G k) : OwnC w' F e v xs := by
 refine ⟨⟨h.1.1, ?_⟩, h.2⟩
 rcases h.1.2 with h0 | ⟨g, cap, cur, rfl, hb, hh, hr⟩
 ·
  exact .inl h0
 ·
  exact .inr ⟨g, cap, cur, rfl, hb, (ht.block g (hg g rfl)).trans hh, hr⟩
theorem OwnC.lt {w : World} {F : Nat → Prop} {e : TypeId} {v : Value} {xs : List Value} (h : OwnC w F e v xs) {k : Nat} (hk : v.ownBlock = some k) : k < w.heap.size := (h.1.lt k hk).2
theorem OwnC.below {w w' : World} {F : Nat → Prop} {e : TypeId} {v : Value} {xs : List Value} (h : OwnC w F e v xs) (hb : Below w.heap.size w w') : OwnC w' F e v xs :=
 h.turn (Turn.ofBelow hb) fun k hk => by have := h.lt hk; omega
theorem OwnC.mono {w : World} {F G : Nat → Prop} {e : TypeId} {v : Value} {xs : List Value} (h : OwnC w F e v xs) (hFG : ∀ k, F k → G k) : OwnC w G e v xs := ⟨h.1, fun k hk => hFG k (h.2 k hk)⟩
theorem OwnC.rdc {w : World} {F : Nat → Prop} {e : TypeId} {v : Value} {xs : List Value} (h : OwnC w F e v xs) (hm : xs.length ≤ 140737488355328) : RdC w v xs ∧ ∀ b off n c, v = .slice (some ⟨b, off, none⟩) n c → F b := by
 refine ⟨⟨hm, ?_⟩, fun b off n c e => h.2 b (by rw [e]; rfl)⟩
 rcases h.1.2 with ⟨rfl, hn⟩ | ⟨g, cap, cur, rfl, hb, hh, hle, hcm, hr⟩
 ·
  have : xs = [] := List.eq_nil_of_length_eq_zero hn
  subst this
  exact ⟨none, 0, rfl, Nat.le_refl _, Nat.zero_le _, fun _ => rfl, (fun a ha => by cases ha), .inl rfl⟩
 ·
  refine ⟨some ⟨g, 0, none⟩, cap, rfl, hle, hcm, fun h => (by cases h), fun a ha _ => (by cases ha; exact ⟨g, 0, rfl⟩), .inr ⟨g, 0, rfl, (Array.getElem?_eq_some_iff.1 hh).1, fun k u hu => ?_⟩⟩
  have := h.1.cells (g := g) rfl k u hu
  rw [Addr.add_lit] at this
  exact this
/-- what a statement has just laid: 'T{}', 'T{x}' -/
theorem OwnC.laid0 (w : World) (F : Nat → Prop) (e : TypeId) (hF : New F w) : OwnC (w.alloc (.cells #[] e)) F e (.slice (some ⟨w.heap.size, 0, none⟩) 0 0) [] :=
 ⟨⟨rfl, .inr ⟨w.heap.size, 0, #[], rfl, Nat.zero_le _, heap_alloc_new w _, Nat.le_refl _, Nat.zero_le _, rfl, rfl⟩⟩, fun k hk => by
  injection hk with hk
  subst hk
  exact hF _ (Nat.le_refl _)⟩
theorem OwnC.laid1 (w : World) (F : Nat → Prop) (e : TypeId) (x : Value) (hF : New F w) : OwnC (w.alloc (.cells #[x] e)) F e (.slice (some ⟨w.heap.size, 0, none⟩) 1 1) [x] :=
 ⟨⟨rfl, .inr ⟨w.heap.size, 1, #[x], rfl, Nat.zero_le _, heap_alloc_new w _, Nat.le_refl _, by unfold maxLen; omega, rfl, rfl⟩⟩, fun k hk => by
  injection hk with hk
  subst hk
  exact hF _ (Nat.le_refl _)⟩
/-- 'append(v, x..)' -/
theorem run_append_c {t e : TypeId} {k : Nat} (hE : Elem t e k) {w : World} {F : Nat → Prop} {v vx : Value} {xs ys : List Value} (hown : OwnC w F e v xs) (hx : RdC w vx ys) (h1 : ∀ u ∈ ys, u.oneCell' = true)
  (hlen : xs.length + ys.length ≤ 140737488355328) (hby : (xs.length + ys.length) * k ≤ 140737488355328) (hn : New F w) (ty : TypeId) :
  ∃ v' w', (Builtin.append_ #[t, t] ty #[v, vx]).run Tryz.prog w = .ok v' w' ∧ OwnC w' F e v' (xs ++ ys) ∧ Turn (fun k => v.ownBlock = some k ∨ w.heap.size ≤ k) w w' := by
 obtain ⟨i0, z, hi, hz0, hz1, hz2, hz3⟩ := hE.info
 obtain ⟨_, ad, cap, rfl, h3, h4, h5, h6, h7⟩ := hx
 cases ad with
 | none =>
  have hM0 : ys = [] := by
   rcases h7 with h | ⟨b, off, h, _⟩
   ·
    exact h
   ·
    cases h
  subst hM0
  rw [h5 rfl, List.append_nil, List.length_nil]
  exact ⟨v, w, run_append_owned_none (P := Tryz.prog) w 0 t ty e i0 1 hE.hu hi v xs.length xs hown.1, hown, Turn.refl _ w⟩
 | some a =>
  have hnews : ∀ j u, ys[j]? = some u → w.cell? (a.add j) = some u := fun j u hu => by
   rcases h7 with h | ⟨b, off, h, _, hcl⟩
   ·
    rw [h] at hu; simp at hu
   ·
    cases h
    rw [Addr.add_lit]
    exact hcl j u hu
  obtain ⟨v', w', hrun, hown', hg, _, hat⟩ := run_append_own_at (P := Tryz.prog) w 0 t ty e i0 z 1 k hE.hu hi hz0 hz1 hz2 hz3 (by decide) v xs.length xs hown.1 a ys.length cap ys (by rw [Nat.mul_one]) hnews h1
   (by unfold maxLen; omega) hby (Nat.zero_le _)
  refine ⟨v', w', hrun, ⟨by rw [List.length_append]; exact hown', fun b hb => ?_⟩, Turn.grown hg (fun k hk => .inl hk) (fun k hk => .inr hk)⟩
  rcases hat with e | e <;> rw [e] at hb
  ·
   exact hown.2 b hb
  ·
   injection hb with hb
   subst hb
   exact hn _ (Nat.le_refl _)
/-- the changes of an append are changes of F -/
theorem app_turn {w w' : World} {F : Nat → Prop} {v : Value} (hv : ∀ k, v.ownBlock = some k → F k) (hn : New F w) (ht : Turn (fun k => v.ownBlock = some k ∨ w.heap.size ≤ k) w w') : Turn F w w' :=
 ht.mono fun j hj => hj.elim (hv j) (hn j)
end Go.Proofs.YtpeneeddfgmjpaaGreatDoor.rows

namespace Go.Proofs.YtpeneeddfgmjpaaGreatDoor.rows
open Go.RowKit Go.Proofs.YtpeneeddfgmjpaaGreatDoor.mem Go.Proofs.YtpeneeddfgmjpaaGreatDoor.sha Go.Proofs.YtpeneeddfgmjpaaGreatDoor.ids

section
variable {c : Nat}
/-- each element has c cells -/
def Uni (c : Nat) (xs : List (List Value)) : Prop := ∀ x ∈ xs, x.length = c ∧ ∀ u ∈ x, u.oneCell' = true
theorem Uni.len : ∀ {xs : List (List Value)}, Uni c xs → xs.flatten.length = xs.length * c
 | [], _ => by simp
 | x :: xs, h => by
  rw [List.flatten_cons, List.length_append, (h x List.mem_cons_self).1, Uni.len fun y hy => h y (List.mem_cons_of_mem _ hy), List.length_cons, Nat.succ_mul]
  omega
theorem Uni.drop : ∀ (i : Nat) {xs : List (List Value)}, Uni c xs → xs.flatten.drop (i * c) = (xs.drop i).flatten
 | 0, xs, _ => by rw [Nat.zero_mul, List.drop_zero, List.drop_zero]
 | i + 1, [], _ => by simp
 | i + 1, x :: xs, h => by
  rw [List.flatten_cons, List.drop_succ_cons, ← Uni.drop i (fun y hy => h y (List.mem_cons_of_mem _ hy)), Nat.succ_mul, Nat.add_comm, ← List.drop_drop, List.drop_left' (h x List.mem_cons_self).1]
theorem Uni.take : ∀ (i : Nat) {xs : List (List Value)}, Uni c xs → xs.flatten.take (i * c) = (xs.take i).flatten
 | 0, xs, _ => by simp
 | i + 1, [], _ => by simp
 | i + 1, x :: xs, h => by
  have hx := (h x List.mem_cons_self).1
  rw [List.flatten_cons, List.take_succ_cons, List.flatten_cons, ← Uni.take i (fun y hy => h y (List.mem_cons_of_mem _ hy)), Nat.succ_mul, Nat.add_comm, List.take_append, hx, List.take_of_length_le (by omega), show c + i * c - c = i * c by omega]
theorem Uni.get {xs : List (List Value)} (h : Uni c xs) {i j : Nat} (hi : i < xs.length) (hj : j < c) : xs.flatten[i * c + j]? = (xs.getD i [])[j]? := by
 have e : xs.drop i = xs.getD i [] :: xs.drop (i + 1) := by rw [List.getD_eq_getElem?_getD, List.getElem?_eq_getElem hi, Option.getD_some, List.drop_eq_getElem_cons hi]
 have hx : (xs.getD i []).length = c := by
  rw [List.getD_eq_getElem?_getD, List.getElem?_eq_getElem hi]
  exact (h _ (List.getElem_mem _)).1
 rw [← List.getElem?_drop, h.drop i, e, List.flatten_cons, List.getElem?_append_left (by omega)]
theorem Uni.one {xs : List (List Value)} (h : Uni c xs) : ∀ u ∈ xs.flatten, u.oneCell' = true := by
 intro u hu
 obtain ⟨x, hx, hux⟩ := List.mem_flatten.1 hu
 exact (h x hx).2 u hux
theorem Uni.append {xs ys : List (List Value)} (h : Uni c xs) (k : Uni c ys) : Uni c (xs ++ ys) := fun x hx => (List.mem_append.1 hx).elim (h x) (k x)
theorem Uni.takes {xs : List (List Value)} (h : Uni c xs) (k : Nat) : Uni c (xs.take k) := fun x hx => h x (List.mem_of_mem_take hx)
theorem Uni.set {xs : List (List Value)} (h : Uni c xs) (i : Nat) {y : List Value} (hy : y.length = c ∧ ∀ u ∈ y, u.oneCell' = true) : Uni c (xs.set i y) := fun z hz => by
 rcases List.mem_or_eq_of_mem_set hz with h1 | h1
 ·
  exact h z h1
 ·
  rw [h1]; exact hy
theorem Uni.flat_set {xs : List (List Value)} (h : Uni c xs) {i : Nat} (hi : i < xs.length) {y : List Value} : (xs.set i y).flatten = xs.flatten.take (i * c) ++ y ++ xs.flatten.drop ((i + 1) * c) := by
 have e : xs.set i y = xs.take i ++ y :: xs.drop (i + 1) := List.set_eq_take_append_cons_drop.trans (by rw [if_pos hi])
 rw [e, List.flatten_append, List.flatten_cons, h.take i, h.drop (i + 1), List.append_assoc]
end

/-- a row of the call's own, its block one of F -/
def OwnK (w : World) (F : Nat → Prop) (e : TypeId) (c : Nat) (v : Value) (xs : List (List Value)) : Prop := Uni c xs ∧ w.ownsRow 0 e c v xs.length xs.flatten ∧ ∀ k, v.ownBlock = some k → F k
section
variable {w w' : World} {F G : Nat → Prop} {e : TypeId} {c : Nat} {v : Value} {xs : List (List Value)}
theorem OwnK.nil (w : World) (F : Nat → Prop) (e : TypeId) (c : Nat) : OwnK w F e c (.slice none 0 0) [] := ⟨(fun _ h => by cases h), World.ownsRow_nil w 0 _ c, fun k hk => by simp [Value.ownBlock] at hk⟩
theorem OwnK.lt (h : OwnK w F e c v xs) {k : Nat} (hk : v.ownBlock = some k) : k < w.heap.size := (h.2.1.lt k hk).2
theorem OwnK.turn (h : OwnK w F e c v xs) (ht : Turn G w w') (hg : ∀ k, v.ownBlock = some k → ¬ G k) : OwnK w' F e c v xs := by
 refine ⟨h.1, ⟨h.2.1.1, ?_⟩, h.2.2⟩
 rcases h.2.1.2 with h0 | ⟨g, cap, cur, rfl, hb, hh, hr⟩
 ·
  exact .inl h0
 ·
  exact .inr ⟨g, cap, cur, rfl, hb, (ht.block g (hg g rfl)).trans hh, hr⟩
theorem OwnK.next (h : OwnK w F e c v xs) (hb : Below w.heap.size w w') : OwnK w' F e c v xs := h.turn (Turn.ofBelow hb) fun k hk => by have := h.lt hk; omega
theorem OwnK.place (h : OwnK w F e c v xs) (hG : ∀ k, v.ownBlock = some k → G k) : OwnK w G e c v xs := ⟨h.1, h.2.1, hG⟩
theorem OwnK.form (h : OwnK w F e c v xs) : ∃ ad cap, v = .slice ad xs.length cap := by
 rcases h.2.1.2 with ⟨rfl, hn⟩ | ⟨g, cap, cur, rfl, _⟩
 ·
  exact ⟨none, 0, by rw [hn]⟩
 ·
  exact ⟨_, _, rfl⟩
/-- where it lies -/
theorem OwnK.at_ (h : OwnK w F e c v xs) (hne : 0 < xs.length) : ∃ g cap cur, v = .slice (some ⟨g, 0, none⟩) xs.length cap ∧ F g ∧ w.heap[g]? = some (.cells cur e (0, 0)) ∧ xs.length ≤ cap ∧ cap ≤ maxLen ∧ cur.size = cap * c ∧ cur.toList.take (xs.length * c) = xs.flatten := by
 rcases h.2.1.2 with ⟨_, hn⟩ | ⟨g, cap, cur, hv, _, hh, h1, h2, h3, h4⟩
 ·
  omega
 ·
  exact ⟨g, cap, cur, hv, h.2.2 g (by rw [hv]; rfl), hh, h1, h2, h3, h4⟩
theorem OwnK.cell {g cap : Nat} (h : OwnK w F e c (.slice (some ⟨g, 0, none⟩) xs.length cap) xs) {i j : Nat} (hi : i < xs.length) (hj : j < c) {u : Value} (hu : (xs.getD i [])[j]? = some u) : w.cell? ⟨g, i * c + j, none⟩ = some u := by
 have := h.2.1.cells (g := g) rfl (i * c + j) u (by rw [h.1.get hi hj]; exact hu)
 rw [Addr.add_lit, Nat.zero_add] at this
 exact this
theorem OwnK.frozen {g cap : Nat} (h : OwnK w F e c (.slice (some ⟨g, 0, none⟩) xs.length cap) xs) (j : Nat) : w.frozen? ⟨g, j, none⟩ = false := by
 rcases h.2.1.2 with ⟨hv, _⟩ | ⟨g', cap', cur, hv, _, hh, _⟩
 ·
  cases hv
 ·
  cases hv
  exact frozen_of_row w g j cur e hh
/-- a piece -/
theorem OwnK.cut {ad : Option Addr} {n cap : Nat} (h : OwnK w F e c (.slice ad n cap) xs) (k : Nat) (hk : k ≤ xs.length) : OwnK w F e c (.slice ad k cap) (xs.take k) := by
 refine ⟨h.1.takes k, ⟨by rw [(h.1.takes k).len], ?_⟩, fun j hj => h.2.2 j (by cases ad with | none => cases hj | some a => exact hj)⟩
 have hl : (xs.take k).length = k := by rw [List.length_take]; omega
 rw [hl]
 rcases h.2.1.2 with ⟨hv, hn⟩ | ⟨g, cap', cur, hv, hb, hh, h1, h2, h3, h4⟩
 ·
  cases hv
  exact .inl ⟨by rw [show k = 0 by omega], by omega⟩
 ·
  cases hv
  refine .inr ⟨g, cap, cur, rfl, hb, hh, by omega, h2, h3, ?_⟩
  rw [← h.1.take k, ← h4, List.take_take, Nat.min_eq_left (Nat.mul_le_mul_right c hk)]
/-- another element in the place of the i-th -/
theorem OwnK.put {g cap : Nat} {cur : Array Value} (h : OwnK w F e c (.slice (some ⟨g, 0, none⟩) xs.length cap) xs) (hh : w.heap[g]? = some (.cells cur e (0, 0))) {i : Nat} (hi : i < xs.length) {y : List Value} (hy : y.length = c ∧ ∀ u ∈ y, u.oneCell' = true) :
  OwnK (w.setRow g (cur.toList.take (i * c) ++ y ++ cur.toList.drop ((i + 1) * c)).toArray) F e c (.slice (some ⟨g, 0, none⟩) xs.length cap) (xs.set i y) := by
 rcases h.2.1.2 with ⟨hv, _⟩ | ⟨g', cap', cur', hv, hb, hh', h1, h2, h3, h4⟩
 ·
  cases hv
 ·
  cases hv
  rw [hh] at hh'
  obtain rfl : cur = cur' := by injection hh' with a; injection a
  have hic : (i + 1) * c ≤ xs.length * c := Nat.mul_le_mul_right c hi
  have hcc : xs.length * c ≤ cap * c := Nat.mul_le_mul_right c h1
  have hsm : (i + 1) * c = i * c + c := Nat.succ_mul i c
  have hcl : cur.toList.length = cap * c := by rw [Array.length_toList]; exact h3
  refine ⟨h.1.set i hy, ⟨by rw [(h.1.set i hy).len], .inr ⟨g, cap, _, by rw [List.length_set], hb, setRow_heap w g cur _ _ _ hh, by rw [List.length_set]; exact h1, h2, ?_, ?_⟩⟩, h.2.2⟩
  ·
   rw [List.size_toArray, List.length_append, List.length_append, List.length_take, List.length_drop, hy.1]; omega
  ·
   have ht : (cur.toList.take (i * c)).length = i * c := by rw [List.length_take]; omega
   have e1 : xs.flatten.take (i * c) = cur.toList.take (i * c) := by rw [← h4, List.take_take, Nat.min_eq_left (by omega)]
   have e2 : xs.flatten.drop ((i + 1) * c) = (cur.toList.drop ((i + 1) * c)).take (xs.length * c - (i + 1) * c) := by rw [← h4, List.drop_take]
   rw [List.length_set, h.1.flat_set hi, e1, e2, List.take_append, List.take_of_length_le (by rw [List.length_append, ht, hy.1]; omega)]
   congr 2
   rw [List.length_append, ht, hy.1, hsm]
/-- 'append(v, y)', y just laid -/
theorem run_append_k {t : TypeId} {i0 : TypeInfo} {z : Value} {by_ : Nat} (hu : Tryz.prog.underlying t = some (.slice e)) (hi : Tryz.prog.info? e = some i0) (hz0 : i0.zero = some z) (hz1 : i0.size = c) (hz2 : i0.bytes = by_) (hz3 : z.cells.size = c) (hc : 0 < c)
  (h : OwnK w F e c v xs) {y : List Value} (hy : y.length = c ∧ ∀ u ∈ y, u.oneCell' = true) {g cap : Nat} (hg : ∀ j u, y[j]? = some u → w.cell? ⟨g, j, none⟩ = some u) (hlen : xs.length < 1000000) (hby : by_ ≤ 100000) (ty : TypeId) :
  ∃ v' w', (Builtin.append_ #[t, t] ty #[v, .slice (some ⟨g, 0, none⟩) 1 cap]).run Tryz.prog w = .ok v' w' ∧ OwnK w' (fun k => v.ownBlock = some k ∨ w.heap.size ≤ k) e c v' (xs ++ [y]) ∧ Turn (fun k => v.ownBlock = some k ∨ w.heap.size ≤ k) w w' := by
 have hle : (xs.length + 1) * by_ ≤ 1000000 * 100000 := Nat.mul_le_mul (by omega) hby
 obtain ⟨v', w', hrun, hown', hgr, _, hat⟩ := run_append_own_at (P := Tryz.prog) w 0 t ty e i0 z c by_ hu hi hz0 hz1 hz2 hz3 hc v xs.length xs.flatten h.2.1 ⟨g, 0, none⟩ 1 cap y (by rw [hy.1, Nat.one_mul])
  (fun j u hj => by rw [Addr.add_lit, Nat.zero_add]; exact hg j u hj) hy.2 (by unfold maxLen; omega) (by omega) (Nat.zero_le _)
 refine ⟨v', w', hrun, ⟨h.1.append fun x hx => by rw [List.mem_singleton.1 hx]; exact hy, by rw [List.length_append, List.length_singleton, List.flatten_append]; simpa using hown', fun k hk => ?_⟩, Turn.grown hgr (fun k hk => .inl hk) (fun k hk => .inr hk)⟩
 rcases hat with e1 | e1 <;> rw [e1] at hk
 ·
  exact .inl hk
 ·
  injection hk with hk
  exact .inr (by omega)
end
end Go.Proofs.YtpeneeddfgmjpaaGreatDoor.rows

namespace Go.Proofs.YtpeneeddfgmjpaaGreatDoor.rows
open Go.RowKit Go.Proofs.YtpeneeddfgmjpaaGreatDoor.mem Go.Proofs.YtpeneeddfgmjpaaGreatDoor.sha Go.Proofs.YtpeneeddfgmjpaaGreatDoor.ids

structure RdK (w : World) (c : Nat) (v : Value) (xs : List (List Value)) : Prop where
 uni : Uni c xs
 max : xs.length ≤ 4398046511104
 at_ : ∃ ad cap, v = .slice ad xs.length cap ∧ xs.length ≤ cap ∧ cap ≤ maxLen ∧ (ad = none → cap = 0) ∧ (∀ a, ad = some a → 0 < cap → ∃ b off, a = ⟨b, off, none⟩) ∧ Rd w ad xs.flatten
/-- what a type of lists is -/
structure ElK (t e : TypeId) (c bytes : Nat) (z : Value) : Prop where
 hu : Tryz.prog.underlying t = some (.slice e)
 hi : (Tryz.prog.info? e).map (fun i => (i.zero, i.size, i.bytes)) = some (some z, c, bytes)
 hz : z.cells.size = c
 pos : 0 < c
section
variable {w w' : World} {c : Nat} {v : Value} {xs ys : List (List Value)} {F G : Nat → Prop} {ad : Option Addr} {n cap : Nat}
theorem RdK.nil (w : World) (c : Nat) : RdK w c (.slice none 0 0) [] := ⟨(fun _ h => by cases h), Nat.zero_le _, none, 0, rfl, Nat.le_refl _, Nat.zero_le _, fun _ => rfl, (fun a h => by cases h), .inl rfl⟩
theorem RdK.form (h : RdK w c v xs) : ∃ ad cap, v = .slice ad xs.length cap := by
 obtain ⟨_, _, ad, cap, hv, _⟩ := h
 exact ⟨ad, cap, hv⟩
theorem RdK.len (h : RdK w c (.slice ad n cap) xs) : n = xs.length := by
 obtain ⟨ad', cap', hv⟩ := h.form
 injection hv
theorem RdK.turn (h : RdK w c (.slice ad n cap) xs) (ht : Turn F w w') (hF : ∀ b off, ad = some ⟨b, off, none⟩ → b < w.heap.size → ¬ F b) : RdK w' c (.slice ad n cap) xs := by
 obtain ⟨h1, h2, ad', cap', hv, h3, h4, h5, h6, h7⟩ := h
 cases hv
 exact ⟨h1, h2, ad, cap, rfl, h3, h4, h5, h6, h7.turn ht hF⟩
theorem RdK.turn' (h : RdK w c v xs) (ht : Turn F w w') (hF : xs ≠ [] → ∀ b off n c, v = .slice (some ⟨b, off, none⟩) n c → b < w.heap.size → ¬ F b) : RdK w' c v xs := by
 obtain ⟨h1, h2, ad, cap, hv, h3, h4, h5, h6, h7⟩ := h
 refine ⟨h1, h2, ad, cap, hv, h3, h4, h5, h6, ?_⟩
 by_cases h0 : xs = []
 ·
  subst h0; exact .inl rfl
 ·
  exact h7.turn ht fun b off e hb => hF h0 b off _ _ (by rw [hv, e]) hb
theorem RdK.next (h : RdK w c v xs) (hb : Below w.heap.size w w') : RdK w' c v xs := by
 obtain ⟨h1, h2, ad, cap, hv, h3, h4, h5, h6, h7⟩ := h
 exact ⟨h1, h2, ad, cap, hv, h3, h4, h5, h6, h7.below hb (Nat.le_refl _)⟩
theorem RdK.drewN (h : RdK w c v xs) (m : Nat) : RdK (w.drewN m) c v xs := ⟨h.uni, h.max, h.at_⟩
theorem RdK.lt (h : RdK w c v xs) (hc : 0 < c) (hne : xs ≠ []) {b off n cap : Nat} (e : v = .slice (some ⟨b, off, none⟩) n cap) : b < w.heap.size := by
 obtain ⟨h1, h2, ad, cap', hv, h3, h4, h5, h6, h7⟩ := h
 rw [e] at hv
 cases hv
 rcases h7 with h7 | ⟨b', off', e', hb, _⟩
 ·
  have := h1.len
  rw [h7, List.length_nil] at this
  have h0 : xs.length ≠ 0 := fun e => hne (List.eq_nil_of_length_eq_zero e)
  exact absurd this (by have := Nat.mul_pos (Nat.pos_of_ne_zero h0) hc; omega)
 ·
  cases e'; exact hb
/-- the i-th, its j-th cell -/
theorem RdK.cell (h : RdK w c (.slice ad n cap) xs) {i : Nat} (hi : i < xs.length) (hc : 0 < c) : ∃ b off, ad = some ⟨b, off, none⟩ ∧ b < w.heap.size ∧ ∀ j u, (xs.getD i [])[j]? = some u → w.cell? ⟨b, off + i * c + j, none⟩ = some u := by
 obtain ⟨h1, h2, ad', cap', hv, h3, h4, h5, h6, h7⟩ := h
 cases hv
 rcases h7 with h7 | ⟨b, off, rfl, hb, hcl⟩
 ·
  have := h1.len
  rw [h7, List.length_nil] at this
  exact absurd this (by have := Nat.mul_pos (show 0 < xs.length by omega) hc; omega)
 ·
  refine ⟨b, off, rfl, hb, fun j u hj => ?_⟩
  have hlt : j < c := by
   have := (List.getElem?_eq_some_iff.1 hj).1
   rw [List.getD_eq_getElem?_getD, List.getElem?_eq_getElem hi, Option.getD_some, (h1 _ (List.getElem_mem hi)).1] at this
   exact this
  rw [Nat.add_assoc]
  exact hcl _ u (by rw [h1.get hi hlt]; exact hj)
theorem OwnK.rdk {e : TypeId} (h : OwnK w F e c v xs) (hm : xs.length ≤ 4398046511104) : RdK w c v xs := by
 refine ⟨h.1, hm, ?_⟩
 rcases h.2.1.2 with ⟨rfl, hn⟩ | ⟨g, cap, cur, rfl, hb, hh, hle, hcm, hcs, htk⟩
 ·
  have : xs = [] := List.eq_nil_of_length_eq_zero hn
  subst this
  exact ⟨none, 0, rfl, Nat.le_refl _, Nat.zero_le _, fun _ => rfl, (fun a h => by cases h), .inl rfl⟩
 ·
  refine ⟨_, cap, rfl, hle, hcm, (fun h => by cases h), fun a ha _ => ⟨g, 0, (Option.some.inj ha).symm⟩, .inr ⟨g, 0, rfl, (Array.getElem?_eq_some_iff.1 hh).1, fun k u hu => ?_⟩⟩
  have := h.2.1.cells (g := g) rfl k u hu
  rw [Addr.add_lit] at this
  exact this
theorem Uni.drops (h : Uni c xs) (k : Nat) : Uni c (xs.drop k) := fun x hx => h x (List.mem_of_mem_drop hx)
end
section
variable {t e : TypeId} {c bytes : Nat} {z : Value} {w : World} {ad : Option Addr} {n cap : Nat} {xs ys : List (List Value)} {F : Nat → Prop} {v vx : Value}
/-- the first k of them -/
theorem slice_hi_k (E : ElK t e c bytes z) (h : RdK w c (.slice ad n cap) xs) (k : Nat) (hk : k ≤ n) (u : World) :
  (Instr.sliceAt t (.slice ad n cap) none (some (.int .i64 (k : Int))) none).run Tryz.prog u = .ok (.slice ad k cap) u ∧ RdK w c (.slice ad k cap) (xs.take k) := by
 obtain ⟨h1, h2, ad', cap', hv, h3, h4, h5, h6, h7⟩ := h
 cases hv
 obtain ⟨y, hy, _, hs, _⟩ := info_parts E.hi
 have hkl : (xs.take k).length = k := by rw [List.length_take]; omega
 have hr : Rd w ad (xs.take k).flatten := by
  rw [← h1.take k]
  rcases h7 with h | ⟨b, off, e, hb, hc⟩
  ·
   rw [h]; exact .inl List.take_nil
  ·
   refine .inr ⟨b, off, e, hb, fun j v hv => hc j v ?_⟩
   rw [List.getElem?_take] at hv
   split at hv
   ·
    exact hv
   ·
    cases hv
 refine ⟨?_, h1.takes k, by omega, ad, cap, by rw [hkl], by omega, h4, h5, h6, hr⟩
 have h0 : (0 : Int) ≤ (k : Int) := Int.natCast_nonneg _
 have hc : (k : Int) ≤ (cap : Int) := by omega
 simp only [Instr.sliceAt, Instr.slice, Instr.sliceBounds, Instr.sliceBound, asIntOf, sizeOf, typeInfo, Sem.run_bind, Sem.run_pure, Result.andThen_ok, run_underlying E.hu]
 cases ad with
 | none =>
  have := h5 rfl
  subst this
  obtain rfl : k = 0 := by omega
  simp [hy, hs]
 | some a =>
  by_cases hc0 : cap = 0
  ·
   subst hc0
   obtain rfl : k = 0 := by omega
   simp [hy, hs, Addr.add]
  ·
   obtain ⟨b, off, rfl⟩ := h6 a rfl (by omega)
   simp [hy, hs, hc, Addr.add]
/-- those from the k-th on -/
def loK (c : Nat) (ad : Option Addr) (cap k : Nat) : Option Addr := ad.map fun a => if cap = k then a else ⟨a.block, a.off + k * c, none⟩
theorem slice_lo_k (E : ElK t e c bytes z) (h : RdK w c (.slice ad n cap) xs) (k : Nat) (hk : k ≤ n) (u : World) :
  (Instr.sliceAt t (.slice ad n cap) (some (.int .i64 (k : Int))) none none).run Tryz.prog u = .ok (.slice (loK c ad cap k) (n - k) (cap - k)) u ∧ RdK w c (.slice (loK c ad cap k) (n - k) (cap - k)) (xs.drop k) := by
 obtain ⟨h1, h2, ad', cap', hv, h3, h4, h5, h6, h7⟩ := h
 cases hv
 obtain ⟨y, hy, _, hs, _⟩ := info_parts E.hi
 have hkl : (xs.drop k).length = xs.length - k := List.length_drop
 refine ⟨?_, h1.drops k, by omega, loK c ad cap k, cap - k, by rw [hkl], by omega, by omega, ?_, ?_, ?_⟩
 ·
  have h0 : (0 : Int) ≤ (k : Int) := Int.natCast_nonneg _
  have hc : (k : Int) ≤ (xs.length : Int) := by omega
  simp only [Instr.sliceAt, Instr.slice, Instr.sliceBounds, Instr.sliceBound, asIntOf, sizeOf, typeInfo, Sem.run_bind, Sem.run_pure, Result.andThen_ok, run_underlying E.hu]
  cases ad with
  | none =>
   have := h5 rfl
   subst this
   obtain rfl : k = 0 := by omega
   simp [hy, hs, loK]
   try omega
  | some a =>
   by_cases hck : cap = k
   ·
    subst hck
    simp [hy, hs, hc, loK]
   ·
    obtain ⟨b, off, rfl⟩ := h6 a rfl (by omega)
    simp [hy, hs, hc, Addr.add, loK, hck]
    try omega
 ·
  intro h
  cases ad with
  | none => rw [h5 rfl]; omega
  | some a => simp [loK] at h
 ·
  intro a ha hpos
  cases ad with
  | none => simp [loK] at ha
  | some a0 =>
   obtain ⟨b, off, rfl⟩ := h6 a0 rfl (by omega)
   simp only [loK, Option.map_some, Option.some.injEq] at ha
   subst ha
   split
   ·
    exact ⟨b, off, rfl⟩
   ·
    exact ⟨b, off + k * c, rfl⟩
 ·
  rcases h7 with h | ⟨b, off, rfl, hb, hc⟩
  ·
   rw [← h1.drop k, h]; exact .inl List.drop_nil
  ·
   by_cases hck : cap = k
   ·
    have : xs.drop k = [] := List.drop_of_length_le (by omega)
    rw [this]; exact .inl rfl
   ·
    refine .inr ⟨b, off + k * c, by simp [loK, hck], hb, fun j v hv => ?_⟩
    rw [← h1.drop k, List.getElem?_drop] at hv
    rw [Nat.add_assoc]
    exact hc _ v hv
/-- '[]E{}' -/
theorem own_laid0 (w : World) (e : TypeId) (c : Nat) (hF : New F w) : OwnK (w.alloc (.cells #[] e)) F e c (.slice (some ⟨w.heap.size, 0, none⟩) 0 0) [] :=
 ⟨(fun _ h => by cases h), ⟨by simp, .inr ⟨w.heap.size, 0, #[], rfl, Nat.zero_le _, heap_alloc_new w _, Nat.le_refl _, Nat.zero_le _, by simp, by simp⟩⟩, fun k hk => by
  injection hk with hk
  subst hk
  exact hF _ (Nat.le_refl _)⟩
/-- 'append(v, x..)', x a list that reads -/
theorem run_append_ks (E : ElK t e c bytes z) (hb : bytes ≤ 100000) (h : OwnK w F e c v xs) (hx : RdK w c vx ys) (hlen : xs.length + ys.length ≤ 1000000) (hn : New F w) (ty : TypeId) :
  ∃ v' w', (Builtin.append_ #[t, t] ty #[v, vx]).run Tryz.prog w = .ok v' w' ∧ OwnK w' F e c v' (xs ++ ys) ∧ Turn (fun k => v.ownBlock = some k ∨ w.heap.size ≤ k) w w' ∧ (∀ k, v'.ownBlock = some k → v.ownBlock = some k ∨ w.heap.size ≤ k) := by
 obtain ⟨h1, h2, ad, cap, rfl, h3, h4, h5, h6, h7⟩ := hx
 obtain ⟨i0, hi, hz0, hz1, hz2⟩ := info_parts E.hi
 have hfl := h1.len
 have hle : (xs.length + ys.length) * bytes ≤ 1000000 * 100000 := Nat.mul_le_mul hlen hb
 cases ad with
 | none =>
  have hM0 : ys = [] := by
   have := h5 rfl
   exact List.eq_nil_of_length_eq_zero (by omega)
  subst hM0
  rw [h5 rfl, List.append_nil, List.length_nil]
  exact ⟨v, w, run_append_owned_none (P := Tryz.prog) w 0 t ty e i0 c E.hu hi v xs.length xs.flatten h.2.1, h, Turn.refl _ w, fun k hk => .inl hk⟩
 | some a =>
  have hnews : ∀ j u, ys.flatten[j]? = some u → w.cell? (a.add j) = some u := fun j u hu => by
   rcases h7 with h | ⟨b, off, h, _, hcl⟩
   ·
    rw [h] at hu; simp at hu
   ·
    cases h
    rw [Addr.add_lit]
    exact hcl j u hu
  obtain ⟨v', w', hrun, hown', hg, _, hat⟩ := run_append_own_at (P := Tryz.prog) w 0 t ty e i0 z c bytes E.hu hi hz0 hz1 hz2 E.hz E.pos v xs.length xs.flatten h.2.1 a ys.length cap ys.flatten hfl hnews h1.one
   (by unfold maxLen; omega) (by omega) (Nat.zero_le _)
  have hat' : ∀ k, v'.ownBlock = some k → v.ownBlock = some k ∨ w.heap.size ≤ k := fun k hk => by
   rcases hat with e | e <;> rw [e] at hk
   ·
    exact .inl hk
   ·
    injection hk with hk
    exact .inr (by omega)
  refine ⟨v', w', hrun, ⟨h.1.append h1, by rw [List.length_append, List.flatten_append]; exact hown', fun k hk => ?_⟩, Turn.grown hg (fun k hk => .inl hk) (fun k hk => .inr hk), hat'⟩
  exact (hat' k hk).elim (h.2.2 k) (hn k)
end
end Go.Proofs.YtpeneeddfgmjpaaGreatDoor.rows

namespace Go.Proofs.YtpeneeddfgmjpaaGreatDoor.hds
open Go.RowKit Go.Proofs.YtpeneeddfgmjpaaGreatDoor.mem Go.Proofs.YtpeneeddfgmjpaaGreatDoor.sha Go.Proofs.YtpeneeddfgmjpaaGreatDoor.ids Go.Proofs.YtpeneeddfgmjpaaGreatDoor.rows Go.Proofs.YtpeneeddfgmjpaaGreatDoor.hdr

/-- headers, each with its parents as they lie -/
abbrev HP := List (Hd × Value)
def zhp : Hd × Value := (zhd, nv)
def hcs (P : HP) : List (List Value) := P.map fun p => hdc p.1 p.2
theorem hcs_len (P : HP) : (hcs P).length = P.length := List.length_map ..
theorem hcs_get {P : HP} {i : Nat} (hi : i < P.length) : (hcs P).getD i [] = hdc (P.getD i zhp).1 (P.getD i zhp).2 := by
 unfold hcs
 rw [List.getD_eq_getElem?_getD, List.getElem?_map, List.getD_eq_getElem?_getD, List.getElem?_eq_getElem hi]
 rfl
/-- each reads -/
def Ins (w : World) (P : HP) : Prop := ∀ p ∈ P, RdV w p.2 p.1.parents ∧ p.1.commit.length = 32
theorem Ins.get {w : World} {P : HP} (h : Ins w P) {i : Nat} (hi : i < P.length) : RdV w (P.getD i zhp).2 (P.getD i zhp).1.parents ∧ (P.getD i zhp).1.commit.length = 32 := by
 rw [List.getD_eq_getElem?_getD, List.getElem?_eq_getElem hi]
 exact h _ (List.getElem_mem hi)
theorem Ins.next {w w' : World} {P : HP} (h : Ins w P) (hb : Below w.heap.size w w') : Ins w' P := fun p hp => ⟨(h p hp).1.next hb, (h p hp).2⟩
theorem Ins.append {w : World} {P Q : HP} (h : Ins w P) (k : Ins w Q) : Ins w (P ++ Q) := fun p hp => (List.mem_append.1 hp).elim (h p) (k p)
/-- a list of headers that reads -/
def HsV (w : World) (v : Value) (P : HP) : Prop := RdK w 38 v (hcs P) ∧ Ins w P
theorem HsV.next {w w' : World} {v : Value} {P : HP} (h : HsV w v P) (hb : Below w.heap.size w w') : HsV w' v P := ⟨h.1.next hb, h.2.next hb⟩
theorem HsV.drewN {w : World} {v : Value} {P : HP} (h : HsV w v P) (n : Nat) : HsV (w.drewN n) v P := ⟨h.1.drewN n, fun p hp => ⟨(h.2 p hp).1.drewN n, (h.2 p hp).2⟩⟩
theorem HsV.form {w : World} {v : Value} {P : HP} (h : HsV w v P) : ∃ ad cap, v = .slice ad P.length cap := by
 obtain ⟨ad, cap, hv⟩ := h.1.form
 rw [hcs_len] at hv
 exact ⟨ad, cap, hv⟩
theorem HsV.nil (w : World) : HsV w (.slice none 0 0) [] := ⟨RdK.nil w 38, fun p hp => (by cases hp)⟩
theorem run_load_mid_hd {w : World} {b o : Nat} {h : Hd} {v : Value} (hc : ∀ j u, (hdc h v)[j]? = some u → w.cell? ⟨b, o + j, none⟩ = some u) (hr : h.commit.length = 32) : (Instr.loadAt 26 (.pointer (some ⟨b, o, none⟩))).run Tryz.prog w = .ok (hdv h v) w := by
 have hl : (loadCells ⟨b, o, none⟩ (hdc h v).length).run Tryz.prog w = .ok (hdc h v).toArray w :=
  run_loadCells_list (P := Tryz.prog) w ⟨b, o, none⟩ (hdc h v) (fun j u hu => by rw [Addr.add_lit]; exact hc j u hu)
 have hi := info_hd
 cases hq : Tryz.prog.info? 26 with
 | none => simp [hq] at hi
 | some i =>
  have hs : i.size = (hdc h v).length := by rw [hdc_len h v hr]; simpa [hq] using hi
  simp [Instr.loadAt, Instr.sureAddr, loadVar, Sem.run_bind, agg_hd, sizeOf, typeInfo, hq, hs, hl, hdv]
/-- the i-th: where it lies, its whole, its height -/
theorem HsV.at_ {w : World} {ad : Option Addr} {n cap : Nat} {P : HP} (h : HsV w (.slice ad n cap) P) {i : Nat} (hi : i < P.length) :
  ∃ b off, ad = some ⟨b, off, none⟩ ∧ b < w.heap.size ∧ (∀ m, (Instr.loadAt 26 (.pointer (some ⟨b, off + i * 38, none⟩))).run Tryz.prog (w.drewN m) = .ok (hdv (P.getD i zhp).1 (P.getD i zhp).2) (w.drewN m)) ∧
   w.cell? ⟨b, off + i * 38, none⟩ = some (P.getD i zhp).2 ∧ w.cell? ⟨b, off + i * 38 + 1, none⟩ = some (.int .i64 (P.getD i zhp).1.height) ∧ w.cell? ⟨b, off + i * 38 + 2, none⟩ = some (.string (oct.tx (P.getD i zhp).1.topic)) := by
 obtain ⟨b, off, e, hlt, h0⟩ := h.1.cell (i := i) (by rw [hcs_len]; exact hi) (by decide)
 rw [hcs_get hi] at h0
 exact ⟨b, off, e, hlt, fun m => run_load_mid_hd (w := w.drewN m) (fun j u hu => h0 j u hu) (h.2.get hi).2, h0 0 _ rfl, h0 1 _ rfl, h0 2 _ rfl⟩
theorem hdc_uni {h : Hd} {v : Value} (hr : h.commit.length = 32) (hv : v.oneCell' = true) : (hdc h v).length = 38 ∧ ∀ u ∈ hdc h v, u.oneCell' = true := ⟨hdc_len h v hr, hdc_one hv⟩
/-- its parents lie in another block than the list -/
def Sep (v : Value) (p : Hd × Value) : Prop := p.1.parents ≠ [] → ∀ b off n c, p.2 = .slice (some ⟨b, off, none⟩) n c → v.ownBlock ≠ some b
/-- a list of headers of the call's own -/
def OwnH (w : World) (F : Nat → Prop) (v : Value) (P : HP) : Prop := OwnK w F 26 38 v (hcs P) ∧ Ins w P ∧ ∀ p ∈ P, Sep v p
theorem OwnH.nil (w : World) (F : Nat → Prop) : OwnH w F (.slice none 0 0) [] := ⟨OwnK.nil w F _ _, fun p hp => (by cases hp), fun p hp => (by cases hp)⟩
theorem OwnH.form {w : World} {F : Nat → Prop} {v : Value} {P : HP} (h : OwnH w F v P) : ∃ ad cap, v = .slice ad P.length cap := by
 obtain ⟨ad, cap, hv⟩ := h.1.form
 rw [hcs_len] at hv
 exact ⟨ad, cap, hv⟩
theorem OwnH.next {w w' : World} {F : Nat → Prop} {v : Value} {P : HP} (h : OwnH w F v P) (hb : Below w.heap.size w w') : OwnH w' F v P := ⟨h.1.next hb, h.2.1.next hb, h.2.2⟩
theorem OwnH.mono {w : World} {F G : Nat → Prop} {v : Value} {P : HP} (h : OwnH w F v P) (hG : ∀ k, F k → G k) : OwnH w G v P := ⟨h.1.place fun k hk => hG k (h.1.2.2 k hk), h.2⟩
theorem OwnH.hsv {w : World} {F : Nat → Prop} {v : Value} {P : HP} (h : OwnH w F v P) (hm : P.length ≤ 1000000) : HsV w v P := ⟨h.1.rdk (by rw [hcs_len]; omega), h.2.1⟩
theorem info_hd3 : (Tryz.prog.info? 26).map (fun i => (i.zero, i.size, i.bytes)) = some (some (hdv zhd nv), 38, 104) := by kernel_rfl
/-- '[]Header{h}' -/
theorem run_build1h (w : World) (h : Hd) (v : Value) (hr : h.commit.length = 32) : (Instr.buildSlice 27 1 #[(0, hdv h v)]).run Tryz.prog w = .ok (.slice (some ⟨w.heap.size, 0, none⟩) 1 1) (w.alloc (.cells (hdc h v).toArray 26)) := by
 obtain ⟨y, hy, hz, hs, _⟩ := info_parts info_hd3
 have hf : ∀ arr : Array Value, arr.size = 38 → Instr.fill (fun i => some (i * 38, 38)) arr [(0, .agg (hdc h v).toArray)] = some (hdc h v).toArray := fun arr ha => by
  have h1 := fold_all (hdc h v) arr (by rw [ha, hdc_len h v hr])
  have hb : (hdc h v).length = 38 := hdc_len h v hr
  simp only [Instr.fill, Value.cells, Nat.zero_mul, Nat.zero_add, List.size_toArray, hb, ha]
  simp [h1]
 have hzc : (hdv zhd nv).cells.size = 38 := rfl
 unfold Instr.buildSlice hdv
 simp only [Sem.run_bind, run_underlying Tryz.underlying27, Result.andThen_ok, sizeOf, typeInfo]
 simp only [Nat.one_mul]
 simp [hy, hs, hf, newRow, newObj]
 rfl
theorem step_build1h {ops : Array Oper} {rest : List Oper} {o : Oper} {a : Act} {w : World} {Q : Exit → Act → World → Prop} {x : Operand} {h : Hd} {v : Value} (hg : o.guard = none)
  (ho : o.op = .buildSlice 27 1 #[(0, x)]) (hx : a.eval x = hdv h v) (hr : h.commit.length = 32)
  (k : wpList Tryz.prog ops Q rest (a.put o.dst (.slice (some ⟨w.heap.size, 0, none⟩) 1 1)) (w.alloc (.cells (hdc h v).toArray 26))) : wpList Tryz.prog ops Q (o :: rest) a w := by
 refine wpList_plain hg fun K hK => ?_
 unfold Oper.wp execOp
 have hrun := run_build1h w h v hr
 simp only [ho, List.map_toArray, List.map_cons, List.map_nil, hx, Sem.run_bind, hrun, Result.andThen_ok, Sem.run_pure]
 exact hK _ _ k
/-- 'append(v, h)', h in a box of its own -/
theorem push_hd {F : Nat → Prop} {w : World} {v : Value} {P : HP} (hO : OwnH w F v P) (h : Hd) (u : Value) (hr : h.commit.length = 32) (hu : RdV w u h.parents) (hs : Sep v (h, u)) (hL : P.length < 100000) (hn : New F w) (ty : TypeId) :
  ∃ v' w', (Builtin.append_ #[27, 27] ty #[v, .slice (some ⟨w.heap.size, 0, none⟩) 1 1]).run Tryz.prog (w.alloc (.cells (hdc h u).toArray 26)) = .ok v' w' ∧
   OwnH w' F v' (P ++ [(h, u)]) ∧ Turn (fun j => v.ownBlock = some j ∨ w.heap.size ≤ j) w w' ∧ (∀ k, v'.ownBlock = some k → v.ownBlock = some k ∨ w.heap.size ≤ k) := by
 obtain ⟨i0, hi, hz0, hz1, hz2⟩ := info_parts info_hd3
 have h2 : Below w.heap.size w (w.alloc (.cells (hdc h u).toArray 26)) := (Below.refl _ _).alloc (Nat.le_refl _) _
 have hb := Blk.new w 26 (hdc h u).toArray
 have hone : u.oneCell' = true := by
  obtain ⟨ad, cap, hv⟩ := hu.form
  rw [hv]; rfl
 obtain ⟨v', w', hrun, hO', hT⟩ := run_append_k (c := 38) (by_ := 104) Tryz.underlying27 hi hz0 hz1 hz2 rfl (by decide) (hO.1.next h2) (hdc_uni hr hone) (g := w.heap.size) (cap := 1) (fun j x hx => by
  rw [hb.cell, List.getElem?_toArray]; exact hx) (by rw [hcs_len]; omega) (by decide) ty
 have hsz := h2.size
 have hTT : Turn (fun j => v.ownBlock = some j ∨ w.heap.size ≤ j) w w' := ((Turn.ofBelow h2).mono fun j hj => .inr hj).trans (hT.mono fun j hj => hj.imp id fun e => by omega)
 have hin : Ins w (P ++ [(h, u)]) := hO.2.1.append fun p hp => by rw [List.mem_singleton.1 hp]; exact ⟨hu, hr⟩
 have hsp : ∀ p ∈ P ++ [(h, u)], Sep v p := fun p hp => (List.mem_append.1 hp).elim (hO.2.2 p) fun e => by rw [List.mem_singleton.1 e]; exact hs
 have hat : ∀ k, v'.ownBlock = some k → v.ownBlock = some k ∨ w.heap.size ≤ k := fun k hk => (hO'.2.2 k hk).imp id fun e => by omega
 refine ⟨v', w', hrun, ⟨?_, fun p hp => ⟨?_, (hin p hp).2⟩, fun p hp hne b off n c e hk => ?_⟩, hTT, hat⟩
 ·
  have := hO'.place (G := F) fun j hj => (hat j hj).elim (fun e => hO.1.2.2 j e) (fun e => hn j e)
  unfold hcs
  rw [List.map_append]
  exact this
 ·
  refine rdv_turn (hin p hp).1 hTT fun hne b off n c e hlt hb => ?_
  rcases hb with hb | hb
  ·
   exact hsp p hp hne b off n c e hb
  ·
   omega
 ·
  rcases hat b hk with hb | hb
  ·
   exact hsp p hp hne b off n c e hb
  ·
   have := rdv_lt (hin p hp).1 hne e
   omega
theorem elh : ElK 27 26 38 104 (hdv zhd nv) := ⟨Tryz.underlying27, info_hd3, rfl, by decide⟩
theorem Ins.take {w : World} {P : HP} (h : Ins w P) (k : Nat) : Ins w (P.take k) := fun p hp => h p (List.mem_of_mem_take hp)
theorem Ins.drop {w : World} {P : HP} (h : Ins w P) (k : Nat) : Ins w (P.drop k) := fun p hp => h p (List.mem_of_mem_drop hp)
theorem slice_hi_h {w : World} {ad : Option Addr} {n cap : Nat} {P : HP} (h : HsV w (.slice ad n cap) P) (k : Nat) (hk : k ≤ n) (u : World) :
  (Instr.sliceAt 27 (.slice ad n cap) none (some (.int .i64 (k : Int))) none).run Tryz.prog u = .ok (.slice ad k cap) u ∧ HsV w (.slice ad k cap) (P.take k) := by
 obtain ⟨h1, h2⟩ := slice_hi_k elh h.1 k hk u
 refine ⟨h1, ?_, h.2.take k⟩
 unfold hcs at h2 ⊢
 rw [List.map_take]; exact h2
theorem slice_lo_h {w : World} {ad : Option Addr} {n cap : Nat} {P : HP} (h : HsV w (.slice ad n cap) P) (k : Nat) (hk : k ≤ n) (u : World) :
  (Instr.sliceAt 27 (.slice ad n cap) (some (.int .i64 (k : Int))) none none).run Tryz.prog u = .ok (.slice (loK 38 ad cap k) (n - k) (cap - k)) u ∧ HsV w (.slice (loK 38 ad cap k) (n - k) (cap - k)) (P.drop k) := by
 obtain ⟨h1, h2⟩ := slice_lo_k elh h.1 k hk u
 refine ⟨h1, ?_, h.2.drop k⟩
 unfold hcs at h2 ⊢
 rw [List.map_drop]; exact h2
theorem OwnH.laid0 (w : World) {F : Nat → Prop} (hF : New F w) : OwnH (w.alloc (.cells #[] 26)) F (.slice (some ⟨w.heap.size, 0, none⟩) 0 0) [] := ⟨own_laid0 w _ 38 hF, fun p hp => (by cases hp), fun p hp => (by cases hp)⟩
/-- 'append(v, l..)' -/
theorem app_hs {F : Nat → Prop} {w : World} {v u : Value} {P Q : HP} (hO : OwnH w F v P) (hu : HsV w u Q) (hs : ∀ p ∈ Q, Sep v p) (hL : P.length + Q.length ≤ 1000000) (hn : New F w) (ty : TypeId) :
  ∃ v' w', (Builtin.append_ #[27, 27] ty #[v, u]).run Tryz.prog w = .ok v' w' ∧ OwnH w' F v' (P ++ Q) ∧ Turn (fun j => v.ownBlock = some j ∨ w.heap.size ≤ j) w w' ∧ (∀ k, v'.ownBlock = some k → v.ownBlock = some k ∨ w.heap.size ≤ k) := by
 obtain ⟨v', w', hrun, hO', hT, hat⟩ := run_append_ks elh (by decide) hO.1 hu.1 (by rw [hcs_len, hcs_len]; exact hL) hn ty
 have hin : Ins w (P ++ Q) := hO.2.1.append hu.2
 have hsp : ∀ p ∈ P ++ Q, Sep v p := fun p hp => (List.mem_append.1 hp).elim (hO.2.2 p) (hs p)
 refine ⟨v', w', hrun, ⟨?_, fun p hp => ⟨?_, (hin p hp).2⟩, fun p hp hne b off n c e hk => ?_⟩, hT, hat⟩
 ·
  unfold hcs at hO' ⊢
  rw [List.map_append]; exact hO'
 ·
  refine rdv_turn (hin p hp).1 hT fun hne b off n c e hlt hb => ?_
  rcases hb with hb | hb
  ·
   exact hsp p hp hne b off n c e hb
  ·
   omega
 ·
  rcases hat b hk with hb | hb
  ·
   exact hsp p hp hne b off n c e hb
  ·
   have := rdv_lt (hin p hp).1 hne e
   omega
/-- parents that lie below all that may be the list's own -/
theorem sep_low {w : World} {P : HP} {v : Value} {B : Nat} (h : Ins w P) (hB : w.heap.size ≤ B) (hv : ∀ k, v.ownBlock = some k → B ≤ k) : ∀ p ∈ P, Sep v p := fun p hp hne b off n c e hk => by
 have := rdv_lt (h p hp).1 hne e
 have := hv b hk
 omega
end Go.Proofs.YtpeneeddfgmjpaaGreatDoor.hds
