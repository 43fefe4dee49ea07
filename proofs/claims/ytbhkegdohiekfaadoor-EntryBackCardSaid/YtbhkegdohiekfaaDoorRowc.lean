/-
  Lists whose elements have one cell (numbers, texts, slices): how they are read; one of the call's own, and what is appended to it.
-/
import Derived.Test.YtbhkegdohiekfaaDoorSha
import Derived.Test.YtbhkegdohiekfaaDoorStepl
namespace Go.Proofs.YtbhkegdohiekfaaDoor.rows
open Go.RowKit Go.Proofs.YtbhkegdohiekfaaDoor.mem Go.Proofs.YtbhkegdohiekfaaDoor.sha Go.Proofs.YtbhkegdohiekfaaDoor.ids

/-- a slice type of elements of one cell -/
structure Elem (t e : TypeId) (k : Nat) : Prop where
  hu : Tryd.prog.underlying t = some (.slice e)
  info : ∃ i z, Tryd.prog.info? e = some i ∧ i.zero = some z ∧ i.size = 1 ∧ i.bytes = k ∧ z.cells.size = 1
theorem Elem.of {t e : TypeId} {z : Value} {k : Nat} (hu : Tryd.prog.underlying t = some (.slice e)) (hi : (Tryd.prog.info? e).map (fun i => (i.zero, i.size, i.bytes)) = some (some z, 1, k)) (hz : z.cells.size = 1) : Elem t e k := by
  obtain ⟨i, h1, h2, h3, h4⟩ := info_parts hi
  exact ⟨hu, i, z, h1, h2, h3, h4, hz⟩
/-- a list as a value -/
structure RdC (w : World) (v : Value) (xs : List Value) : Prop where
  max : xs.length ≤ 140737488355328
  at_ : ∃ ad cap, v = .slice ad xs.length cap ∧ xs.length ≤ cap ∧ cap ≤ maxLen ∧ (ad = none → cap = 0) ∧ (∀ a, ad = some a → 0 < cap → ∃ b off, a = ⟨b, off, none⟩) ∧ Rd w ad xs
theorem RdC.below {w w' : World} {v : Value} {xs : List Value} (h : RdC w v xs) {B : Nat} (hb : Below B w w') (hB : w.heap.size ≤ B) : RdC w' v xs := by
  obtain ⟨h2, ad', cap', hv, h3, h4, h5, h6, h7⟩ := h
  exact ⟨h2, ad', cap', hv, h3, h4, h5, h6, h7.below hb hB⟩
theorem RdC.next {w w' : World} {v : Value} {xs : List Value} (h : RdC w v xs) (hb : Below w.heap.size w w') : RdC w' v xs := h.below hb (Nat.le_refl _)
theorem RdC.turn {F : Nat → Prop} {w w' : World} {ad : Option Addr} {n cap : Nat} {xs : List Value} (h : RdC w (.slice ad n cap) xs) (ht : Turn F w w') (hF : ∀ b off, ad = some ⟨b, off, none⟩ → b < w.heap.size → ¬ F b) : RdC w' (.slice ad n cap) xs := by
  obtain ⟨h2, ad', cap', hv, h3, h4, h5, h6, h7⟩ := h
  cases hv
  exact ⟨h2, ad, cap, rfl, h3, h4, h5, h6, h7.turn ht hF⟩
theorem RdC.form {w : World} {v : Value} {xs : List Value} (h : RdC w v xs) : ∃ ad cap, v = .slice ad xs.length cap := by
  obtain ⟨h2, ad', cap', hv, _⟩ := h
  exact ⟨ad', cap', hv⟩
theorem RdC.len {w : World} {ad : Option Addr} {n cap : Nat} {xs : List Value} (h : RdC w (.slice ad n cap) xs) : n = xs.length := by
  obtain ⟨h2, ad', cap', hv, _⟩ := h
  cases hv; rfl
theorem RdC.nil (w : World) : RdC w (.slice none 0 0) [] := ⟨Nat.zero_le _, none, 0, rfl, Nat.le_refl _, Nat.zero_le _, fun _ => rfl, (fun a h => by cases h), .inl rfl⟩
/-- an element -/
theorem RdC.cell {w : World} {ad : Option Addr} {n cap : Nat} {xs : List Value} (h : RdC w (.slice ad n cap) xs) {i : Nat} (hi : i < xs.length) :
    ∃ b off, ad = some ⟨b, off, none⟩ ∧ b < w.heap.size ∧ w.cell? ⟨b, off + i, none⟩ = some (xs.getD i undef) := by
  obtain ⟨h2, ad', cap', hv, h3, h4, h5, h6, h7⟩ := h
  cases hv
  rcases h7 with h7 | ⟨b, off, e, hb, hc⟩
  · rw [h7] at hi; simp at hi
  · refine ⟨b, off, e, hb, hc i _ ?_⟩
    rw [List.getD_eq_getElem?_getD, List.getElem?_eq_getElem hi]
    rfl
theorem RdC.cell_at {w : World} {b off n cap : Nat} {xs : List Value} (h : RdC w (.slice (some ⟨b, off, none⟩) n cap) xs) {i : Nat} (hi : i < xs.length) {u : Value} (hu : xs.getD i undef = u) : w.cell? ⟨b, off + i, none⟩ = some u := by
  obtain ⟨b', off', e, _, hc⟩ := h.cell hi
  cases e
  rw [hc, hu]

/-- a list of the call's own, its row one of F, one that grows in place -/
def OwnC (w : World) (F : Nat → Prop) (e : TypeId) (v : Value) (xs : List Value) : Prop := w.ownsRow 0 e 1 v xs.length xs ∧ ∀ k, v.ownBlock = some k → F k
theorem OwnC.nil (w : World) (F : Nat → Prop) (e : TypeId) : OwnC w F e (.slice none 0 0) [] := ⟨World.ownsRow_nil w 0 _ 1, fun k hk => by simp [Value.ownBlock] at hk⟩
theorem OwnC.turn {w w' : World} {F G : Nat → Prop} {e : TypeId} {v : Value} {xs : List Value} (h : OwnC w F e v xs) (ht : Turn G w w') (hg : ∀ k, v.ownBlock = some k → ¬ G k) : OwnC w' F e v xs := by
  refine ⟨⟨h.1.1, ?_⟩, h.2⟩
  rcases h.1.2 with h0 | ⟨g, cap, cur, rfl, hb, hh, hr⟩
  · exact .inl h0
  · exact .inr ⟨g, cap, cur, rfl, hb, (ht.block g (hg g rfl)).trans hh, hr⟩
theorem OwnC.lt {w : World} {F : Nat → Prop} {e : TypeId} {v : Value} {xs : List Value} (h : OwnC w F e v xs) {k : Nat} (hk : v.ownBlock = some k) : k < w.heap.size := (h.1.lt k hk).2
theorem OwnC.below {w w' : World} {F : Nat → Prop} {e : TypeId} {v : Value} {xs : List Value} (h : OwnC w F e v xs) (hb : Below w.heap.size w w') : OwnC w' F e v xs :=
  h.turn (Turn.ofBelow hb) fun k hk => by have := h.lt hk; omega
theorem OwnC.mono {w : World} {F G : Nat → Prop} {e : TypeId} {v : Value} {xs : List Value} (h : OwnC w F e v xs) (hFG : ∀ k, F k → G k) : OwnC w G e v xs := ⟨h.1, fun k hk => hFG k (h.2 k hk)⟩
theorem OwnC.rdc {w : World} {F : Nat → Prop} {e : TypeId} {v : Value} {xs : List Value} (h : OwnC w F e v xs) (hm : xs.length ≤ 140737488355328) : RdC w v xs ∧ ∀ b off n c, v = .slice (some ⟨b, off, none⟩) n c → F b := by
  refine ⟨⟨hm, ?_⟩, fun b off n c e => h.2 b (by rw [e]; rfl)⟩
  rcases h.1.2 with ⟨rfl, hn⟩ | ⟨g, cap, cur, rfl, hb, hh, hle, hcm, hr⟩
  · have : xs = [] := List.eq_nil_of_length_eq_zero hn
    subst this
    exact ⟨none, 0, rfl, Nat.le_refl _, Nat.zero_le _, fun _ => rfl, (fun a ha => by cases ha), .inl rfl⟩
  · refine ⟨some ⟨g, 0, none⟩, cap, rfl, hle, hcm, fun h => (by cases h), fun a ha _ => (by cases ha; exact ⟨g, 0, rfl⟩), .inr ⟨g, 0, rfl, (Array.getElem?_eq_some_iff.1 hh).1, fun k u hu => ?_⟩⟩
    have := h.1.cells (g := g) rfl k u hu
    rw [Addr.add_lit] at this
    exact this
/-- what a statement has just laid: 'T{}', 'T{x}' -/
theorem OwnC.laid0 (w : World) (F : Nat → Prop) (e : TypeId) (hF : New F w) : OwnC (w.alloc (.cells #[] e)) F e (.slice (some ⟨w.heap.size, 0, none⟩) 0 0) [] :=
  ⟨⟨rfl, .inr ⟨w.heap.size, 0, #[], rfl, Nat.zero_le _, heap_alloc_new w _, Nat.le_refl _, Nat.zero_le _, rfl, rfl⟩⟩, fun k hk => by
    injection hk with hk
    subst hk
    exact hF _ (Nat.le_refl _)⟩
theorem OwnC.laid1 (w : World) (F : Nat → Prop) (e : TypeId) (x : Value) (hF : New F w) : OwnC (w.alloc (.cells #[x] e)) F e (.slice (some ⟨w.heap.size, 0, none⟩) 1 1) [x] :=
  ⟨⟨rfl, .inr ⟨w.heap.size, 1, #[x], rfl, Nat.zero_le _, heap_alloc_new w _, Nat.le_refl _, by unfold maxLen; omega, rfl, rfl⟩⟩, fun k hk => by
    injection hk with hk
    subst hk
    exact hF _ (Nat.le_refl _)⟩
/-- 'append(v, x..)' -/
theorem run_append_c {t e : TypeId} {k : Nat} (hE : Elem t e k) {w : World} {F : Nat → Prop} {v vx : Value} {xs ys : List Value} (hown : OwnC w F e v xs) (hx : RdC w vx ys) (h1 : ∀ u ∈ ys, u.oneCell' = true)
    (hlen : xs.length + ys.length ≤ 140737488355328) (hby : (xs.length + ys.length) * k ≤ 140737488355328) (hn : New F w) (ty : TypeId) :
    ∃ v' w', (Builtin.append_ #[t, t] ty #[v, vx]).run Tryd.prog w = .ok v' w' ∧ OwnC w' F e v' (xs ++ ys) ∧ Turn (fun k => v.ownBlock = some k ∨ w.heap.size ≤ k) w w' := by
  obtain ⟨i0, z, hi, hz0, hz1, hz2, hz3⟩ := hE.info
  obtain ⟨_, ad, cap, rfl, h3, h4, h5, h6, h7⟩ := hx
  cases ad with
  | none =>
    have hM0 : ys = [] := by
      rcases h7 with h | ⟨b, off, h, _⟩
      · exact h
      · cases h
    subst hM0
    rw [h5 rfl, List.append_nil, List.length_nil]
    exact ⟨v, w, run_append_owned_none (P := Tryd.prog) w 0 t ty e i0 1 hE.hu hi v xs.length xs hown.1, hown, Turn.refl _ w⟩
  | some a =>
    have hnews : ∀ j u, ys[j]? = some u → w.cell? (a.add j) = some u := fun j u hu => by
      rcases h7 with h | ⟨b, off, h, _, hcl⟩
      · rw [h] at hu; simp at hu
      · cases h
        rw [Addr.add_lit]
        exact hcl j u hu
    obtain ⟨v', w', hrun, hown', hg, _, hat⟩ := run_append_own_at (P := Tryd.prog) w 0 t ty e i0 z 1 k hE.hu hi hz0 hz1 hz2 hz3 (by decide) v xs.length xs hown.1 a ys.length cap ys (by rw [Nat.mul_one]) hnews h1
      (by unfold maxLen; omega) hby (Nat.zero_le _)
    refine ⟨v', w', hrun, ⟨by rw [List.length_append]; exact hown', fun b hb => ?_⟩, Turn.grown hg (fun k hk => .inl hk) (fun k hk => .inr hk)⟩
    rcases hat with e | e <;> rw [e] at hb
    · exact hown.2 b hb
    · injection hb with hb
      subst hb
      exact hn _ (Nat.le_refl _)
/-- the changes of an append are changes of F -/
theorem app_turn {w w' : World} {F : Nat → Prop} {v : Value} (hv : ∀ k, v.ownBlock = some k → F k) (hn : New F w) (ht : Turn (fun k => v.ownBlock = some k ∨ w.heap.size ≤ k) w w') : Turn F w w' :=
  ht.mono fun j hj => hj.elim (hv j) (hn j)
end Go.Proofs.YtbhkegdohiekfaaDoor.rows
