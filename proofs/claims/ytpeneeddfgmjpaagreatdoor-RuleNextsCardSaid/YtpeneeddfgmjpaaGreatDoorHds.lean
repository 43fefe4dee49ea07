/-
  Lists whose elements have c cells: how they lie to be read; pieces of them; one appended to another of the call's own.
  Lists of headers: how they lie to be read; one of the call's own, one more behind it.
-/
import Derived.Test.YtpeneeddfgmjpaaGreatDoorOwnk
import Derived.Test.YtpeneeddfgmjpaaGreatDoorIda
import Derived.Test.YtpeneeddfgmjpaaGreatDoorHdm
namespace Go.Proofs.YtpeneeddfgmjpaaGreatDoor.rows
open Go.RowKit Go.Proofs.YtpeneeddfgmjpaaGreatDoor.mem Go.Proofs.YtpeneeddfgmjpaaGreatDoor.sha Go.Proofs.YtpeneeddfgmjpaaGreatDoor.ids

structure RdK (w : World) (c : Nat) (v : Value) (xs : List (List Value)) : Prop where
 uni : Uni c xs
 max : xs.length ≤ 4398046511104
 at_ : ∃ ad cap, v = .slice ad xs.length cap ∧ xs.length ≤ cap ∧ cap ≤ maxLen ∧ (ad = none → cap = 0) ∧ (∀ a, ad = some a → 0 < cap → ∃ b off, a = ⟨b, off, none⟩) ∧ Rd w ad xs.flatten
/-- what a type of lists is -/
structure ElK (t e : TypeId) (c bytes : Nat) (z : Value) : Prop where
 hu : Tryz.prog.underlying t = some (.slice e)
 hi : (Tryz.prog.info? e).map (fun i => (i.zero, i.size, i.bytes)) = some (some z, c, bytes)
 hz : z.cells.size = c
 pos : 0 < c
section
variable {w w' : World} {c : Nat} {v : Value} {xs ys : List (List Value)} {F G : Nat → Prop} {ad : Option Addr} {n cap : Nat}
theorem RdK.nil (w : World) (c : Nat) : RdK w c (.slice none 0 0) [] := ⟨(fun _ h => by cases h), Nat.zero_le _, none, 0, rfl, Nat.le_refl _, Nat.zero_le _, fun _ => rfl, (fun a h => by cases h), .inl rfl⟩
theorem RdK.form (h : RdK w c v xs) : ∃ ad cap, v = .slice ad xs.length cap := by
 obtain ⟨_, _, ad, cap, hv, _⟩ := h
 exact ⟨ad, cap, hv⟩
theorem RdK.len (h : RdK w c (.slice ad n cap) xs) : n = xs.length := by
 obtain ⟨ad', cap', hv⟩ := h.form
 injection hv
theorem RdK.turn (h : RdK w c (.slice ad n cap) xs) (ht : Turn F w w') (hF : ∀ b off, ad = some ⟨b, off, none⟩ → b < w.heap.size → ¬ F b) : RdK w' c (.slice ad n cap) xs := by
 obtain ⟨h1, h2, ad', cap', hv, h3, h4, h5, h6, h7⟩ := h
 cases hv
 exact ⟨h1, h2, ad, cap, rfl, h3, h4, h5, h6, h7.turn ht hF⟩
theorem RdK.turn' (h : RdK w c v xs) (ht : Turn F w w') (hF : xs ≠ [] → ∀ b off n c, v = .slice (some ⟨b, off, none⟩) n c → b < w.heap.size → ¬ F b) : RdK w' c v xs := by
 obtain ⟨h1, h2, ad, cap, hv, h3, h4, h5, h6, h7⟩ := h
 refine ⟨h1, h2, ad, cap, hv, h3, h4, h5, h6, ?_⟩
 by_cases h0 : xs = []
 ·
  subst h0; exact .inl rfl
 ·
  exact h7.turn ht fun b off e hb => hF h0 b off _ _ (by rw [hv, e]) hb
theorem RdK.next (h : RdK w c v xs) (hb : Below w.heap.size w w') : RdK w' c v xs := by
 obtain ⟨h1, h2, ad, cap, hv, h3, h4, h5, h6, h7⟩ := h
 exact ⟨h1, h2, ad, cap, hv, h3, h4, h5, h6, h7.below hb (Nat.le_refl _)⟩
theorem RdK.drewN (h : RdK w c v xs) (m : Nat) : RdK (w.drewN m) c v xs := ⟨h.uni, h.max, h.at_⟩
theorem RdK.lt (h : RdK w c v xs) (hc : 0 < c) (hne : xs ≠ []) {b off n cap : Nat} (e : v = .slice (some ⟨b, off, none⟩) n cap) : b < w.heap.size := by
 obtain ⟨h1, h2, ad, cap', hv, h3, h4, h5, h6, h7⟩ := h
 rw [e] at hv
 cases hv
 rcases h7 with h7 | ⟨b', off', e', hb, _⟩
 ·
  have := h1.len
  rw [h7, List.length_nil] at this
  have h0 : xs.length ≠ 0 := fun e => hne (List.eq_nil_of_length_eq_zero e)
  exact absurd this (by have := Nat.mul_pos (Nat.pos_of_ne_zero h0) hc; omega)
 ·
  cases e'; exact hb
/-- the i-th, its j-th cell -/
theorem RdK.cell (h : RdK w c (.slice ad n cap) xs) {i : Nat} (hi : i < xs.length) (hc : 0 < c) : ∃ b off, ad = some ⟨b, off, none⟩ ∧ b < w.heap.size ∧ ∀ j u, (xs.getD i [])[j]? = some u → w.cell? ⟨b, off + i * c + j, none⟩ = some u := by
 obtain ⟨h1, h2, ad', cap', hv, h3, h4, h5, h6, h7⟩ := h
 cases hv
 rcases h7 with h7 | ⟨b, off, rfl, hb, hcl⟩
 ·
  have := h1.len
  rw [h7, List.length_nil] at this
  exact absurd this (by have := Nat.mul_pos (show 0 < xs.length by omega) hc; omega)
 ·
  refine ⟨b, off, rfl, hb, fun j u hj => ?_⟩
  have hlt : j < c := by
   have := (List.getElem?_eq_some_iff.1 hj).1
   rw [List.getD_eq_getElem?_getD, List.getElem?_eq_getElem hi, Option.getD_some, (h1 _ (List.getElem_mem hi)).1] at this
   exact this
  rw [Nat.add_assoc]
  exact hcl _ u (by rw [h1.get hi hlt]; exact hj)
theorem OwnK.rdk {e : TypeId} (h : OwnK w F e c v xs) (hm : xs.length ≤ 4398046511104) : RdK w c v xs := by
 refine ⟨h.1, hm, ?_⟩
 rcases h.2.1.2 with ⟨rfl, hn⟩ | ⟨g, cap, cur, rfl, hb, hh, hle, hcm, hcs, htk⟩
 ·
  have : xs = [] := List.eq_nil_of_length_eq_zero hn
  subst this
  exact ⟨none, 0, rfl, Nat.le_refl _, Nat.zero_le _, fun _ => rfl, (fun a h => by cases h), .inl rfl⟩
 ·
  refine ⟨_, cap, rfl, hle, hcm, (fun h => by cases h), fun a ha _ => ⟨g, 0, (Option.some.inj ha).symm⟩, .inr ⟨g, 0, rfl, (Array.getElem?_eq_some_iff.1 hh).1, fun k u hu => ?_⟩⟩
  have := h.2.1.cells (g := g) rfl k u hu
  rw [Addr.add_lit] at this
  exact this
theorem Uni.drops (h : Uni c xs) (k : Nat) : Uni c (xs.drop k) := fun x hx => h x (List.mem_of_mem_drop hx)
end
section
variable {t e : TypeId} {c bytes : Nat} {z : Value} {w : World} {ad : Option Addr} {n cap : Nat} {xs ys : List (List Value)} {F : Nat → Prop} {v vx : Value}
/-- the first k of them -/
theorem slice_hi_k (E : ElK t e c bytes z) (h : RdK w c (.slice ad n cap) xs) (k : Nat) (hk : k ≤ n) (u : World) :
  (Instr.sliceAt t (.slice ad n cap) none (some (.int .i64 (k : Int))) none).run Tryz.prog u = .ok (.slice ad k cap) u ∧ RdK w c (.slice ad k cap) (xs.take k) := by
 obtain ⟨h1, h2, ad', cap', hv, h3, h4, h5, h6, h7⟩ := h
 cases hv
 obtain ⟨y, hy, _, hs, _⟩ := info_parts E.hi
 have hkl : (xs.take k).length = k := by rw [List.length_take]; omega
 have hr : Rd w ad (xs.take k).flatten := by
  rw [← h1.take k]
  rcases h7 with h | ⟨b, off, e, hb, hc⟩
  ·
   rw [h]; exact .inl List.take_nil
  ·
   refine .inr ⟨b, off, e, hb, fun j v hv => hc j v ?_⟩
   rw [List.getElem?_take] at hv
   split at hv
   ·
    exact hv
   ·
    cases hv
 refine ⟨?_, h1.takes k, by omega, ad, cap, by rw [hkl], by omega, h4, h5, h6, hr⟩
 have h0 : (0 : Int) ≤ (k : Int) := Int.natCast_nonneg _
 have hc : (k : Int) ≤ (cap : Int) := by omega
 simp only [Instr.sliceAt, Instr.slice, Instr.sliceBounds, Instr.sliceBound, asIntOf, sizeOf, typeInfo, Sem.run_bind, Sem.run_pure, Result.andThen_ok, run_underlying E.hu]
 cases ad with
 | none =>
  have := h5 rfl
  subst this
  obtain rfl : k = 0 := by omega
  simp [hy, hs]
 | some a =>
  by_cases hc0 : cap = 0
  ·
   subst hc0
   obtain rfl : k = 0 := by omega
   simp [hy, hs, Addr.add]
  ·
   obtain ⟨b, off, rfl⟩ := h6 a rfl (by omega)
   simp [hy, hs, hc, Addr.add]
/-- those from the k-th on -/
def loK (c : Nat) (ad : Option Addr) (cap k : Nat) : Option Addr := ad.map fun a => if cap = k then a else ⟨a.block, a.off + k * c, none⟩
theorem slice_lo_k (E : ElK t e c bytes z) (h : RdK w c (.slice ad n cap) xs) (k : Nat) (hk : k ≤ n) (u : World) :
  (Instr.sliceAt t (.slice ad n cap) (some (.int .i64 (k : Int))) none none).run Tryz.prog u = .ok (.slice (loK c ad cap k) (n - k) (cap - k)) u ∧ RdK w c (.slice (loK c ad cap k) (n - k) (cap - k)) (xs.drop k) := by
 obtain ⟨h1, h2, ad', cap', hv, h3, h4, h5, h6, h7⟩ := h
 cases hv
 obtain ⟨y, hy, _, hs, _⟩ := info_parts E.hi
 have hkl : (xs.drop k).length = xs.length - k := List.length_drop
 refine ⟨?_, h1.drops k, by omega, loK c ad cap k, cap - k, by rw [hkl], by omega, by omega, ?_, ?_, ?_⟩
 ·
  have h0 : (0 : Int) ≤ (k : Int) := Int.natCast_nonneg _
  have hc : (k : Int) ≤ (xs.length : Int) := by omega
  simp only [Instr.sliceAt, Instr.slice, Instr.sliceBounds, Instr.sliceBound, asIntOf, sizeOf, typeInfo, Sem.run_bind, Sem.run_pure, Result.andThen_ok, run_underlying E.hu]
  cases ad with
  | none =>
   have := h5 rfl
   subst this
   obtain rfl : k = 0 := by omega
   simp [hy, hs, loK]
   try omega
  | some a =>
   by_cases hck : cap = k
   ·
    subst hck
    simp [hy, hs, hc, loK]
   ·
    obtain ⟨b, off, rfl⟩ := h6 a rfl (by omega)
    simp [hy, hs, hc, Addr.add, loK, hck]
    try omega
 ·
  intro h
  cases ad with
  | none => rw [h5 rfl]; omega
  | some a => simp [loK] at h
 ·
  intro a ha hpos
  cases ad with
  | none => simp [loK] at ha
  | some a0 =>
   obtain ⟨b, off, rfl⟩ := h6 a0 rfl (by omega)
   simp only [loK, Option.map_some, Option.some.injEq] at ha
   subst ha
   split
   ·
    exact ⟨b, off, rfl⟩
   ·
    exact ⟨b, off + k * c, rfl⟩
 ·
  rcases h7 with h | ⟨b, off, rfl, hb, hc⟩
  ·
   rw [← h1.drop k, h]; exact .inl List.drop_nil
  ·
   by_cases hck : cap = k
   ·
    have : xs.drop k = [] := List.drop_of_length_le (by omega)
    rw [this]; exact .inl rfl
   ·
    refine .inr ⟨b, off + k * c, by simp [loK, hck], hb, fun j v hv => ?_⟩
    rw [← h1.drop k, List.getElem?_drop] at hv
    rw [Nat.add_assoc]
    exact hc _ v hv
/-- '[]E{}' -/
theorem own_laid0 (w : World) (e : TypeId) (c : Nat) (hF : New F w) : OwnK (w.alloc (.cells #[] e)) F e c (.slice (some ⟨w.heap.size, 0, none⟩) 0 0) [] :=
 ⟨(fun _ h => by cases h), ⟨by simp, .inr ⟨w.heap.size, 0, #[], rfl, Nat.zero_le _, heap_alloc_new w _, Nat.le_refl _, Nat.zero_le _, by simp, by simp⟩⟩, fun k hk => by
  injection hk with hk
  subst hk
  exact hF _ (Nat.le_refl _)⟩
/-- 'append(v, x..)', x a list that reads -/
theorem run_append_ks (E : ElK t e c bytes z) (hb : bytes ≤ 100000) (h : OwnK w F e c v xs) (hx : RdK w c vx ys) (hlen : xs.length + ys.length ≤ 1000000) (hn : New F w) (ty : TypeId) :
  ∃ v' w', (Builtin.append_ #[t, t] ty #[v, vx]).run Tryz.prog w = .ok v' w' ∧ OwnK w' F e c v' (xs ++ ys) ∧ Turn (fun k => v.ownBlock = some k ∨ w.heap.size ≤ k) w w' ∧ (∀ k, v'.ownBlock = some k → v.ownBlock = some k ∨ w.heap.size ≤ k) := by
 obtain ⟨h1, h2, ad, cap, rfl, h3, h4, h5, h6, h7⟩ := hx
 obtain ⟨i0, hi, hz0, hz1, hz2⟩ := info_parts E.hi
 have hfl := h1.len
 have hle : (xs.length + ys.length) * bytes ≤ 1000000 * 100000 := Nat.mul_le_mul hlen hb
 cases ad with
 | none =>
  have hM0 : ys = [] := by
   have := h5 rfl
   exact List.eq_nil_of_length_eq_zero (by omega)
  subst hM0
  rw [h5 rfl, List.append_nil, List.length_nil]
  exact ⟨v, w, run_append_owned_none (P := Tryz.prog) w 0 t ty e i0 c E.hu hi v xs.length xs.flatten h.2.1, h, Turn.refl _ w, fun k hk => .inl hk⟩
 | some a =>
  have hnews : ∀ j u, ys.flatten[j]? = some u → w.cell? (a.add j) = some u := fun j u hu => by
   rcases h7 with h | ⟨b, off, h, _, hcl⟩
   ·
    rw [h] at hu; simp at hu
   ·
    cases h
    rw [Addr.add_lit]
    exact hcl j u hu
  obtain ⟨v', w', hrun, hown', hg, _, hat⟩ := run_append_own_at (P := Tryz.prog) w 0 t ty e i0 z c bytes E.hu hi hz0 hz1 hz2 E.hz E.pos v xs.length xs.flatten h.2.1 a ys.length cap ys.flatten hfl hnews h1.one
   (by unfold maxLen; omega) (by omega) (Nat.zero_le _)
  have hat' : ∀ k, v'.ownBlock = some k → v.ownBlock = some k ∨ w.heap.size ≤ k := fun k hk => by
   rcases hat with e | e <;> rw [e] at hk
   ·
    exact .inl hk
   ·
    injection hk with hk
    exact .inr (by omega)
  refine ⟨v', w', hrun, ⟨h.1.append h1, by rw [List.length_append, List.flatten_append]; exact hown', fun k hk => ?_⟩, Turn.grown hg (fun k hk => .inl hk) (fun k hk => .inr hk), hat'⟩
  exact (hat' k hk).elim (h.2.2 k) (hn k)
end
end Go.Proofs.YtpeneeddfgmjpaaGreatDoor.rows

namespace Go.Proofs.YtpeneeddfgmjpaaGreatDoor.hds
open Go.RowKit Go.Proofs.YtpeneeddfgmjpaaGreatDoor.mem Go.Proofs.YtpeneeddfgmjpaaGreatDoor.sha Go.Proofs.YtpeneeddfgmjpaaGreatDoor.ids Go.Proofs.YtpeneeddfgmjpaaGreatDoor.rows Go.Proofs.YtpeneeddfgmjpaaGreatDoor.hdr

/-- headers, each with its parents as they lie -/
abbrev HP := List (Hd × Value)
def zhp : Hd × Value := (zhd, nv)
def hcs (P : HP) : List (List Value) := P.map fun p => hdc p.1 p.2
theorem hcs_len (P : HP) : (hcs P).length = P.length := List.length_map ..
theorem hcs_get {P : HP} {i : Nat} (hi : i < P.length) : (hcs P).getD i [] = hdc (P.getD i zhp).1 (P.getD i zhp).2 := by
 unfold hcs
 rw [List.getD_eq_getElem?_getD, List.getElem?_map, List.getD_eq_getElem?_getD, List.getElem?_eq_getElem hi]
 rfl
/-- each reads -/
def Ins (w : World) (P : HP) : Prop := ∀ p ∈ P, RdV w p.2 p.1.parents ∧ p.1.commit.length = 32
theorem Ins.get {w : World} {P : HP} (h : Ins w P) {i : Nat} (hi : i < P.length) : RdV w (P.getD i zhp).2 (P.getD i zhp).1.parents ∧ (P.getD i zhp).1.commit.length = 32 := by
 rw [List.getD_eq_getElem?_getD, List.getElem?_eq_getElem hi]
 exact h _ (List.getElem_mem hi)
theorem Ins.next {w w' : World} {P : HP} (h : Ins w P) (hb : Below w.heap.size w w') : Ins w' P := fun p hp => ⟨(h p hp).1.next hb, (h p hp).2⟩
theorem Ins.append {w : World} {P Q : HP} (h : Ins w P) (k : Ins w Q) : Ins w (P ++ Q) := fun p hp => (List.mem_append.1 hp).elim (h p) (k p)
/-- a list of headers that reads -/
def HsV (w : World) (v : Value) (P : HP) : Prop := RdK w 38 v (hcs P) ∧ Ins w P
theorem HsV.next {w w' : World} {v : Value} {P : HP} (h : HsV w v P) (hb : Below w.heap.size w w') : HsV w' v P := ⟨h.1.next hb, h.2.next hb⟩
theorem HsV.drewN {w : World} {v : Value} {P : HP} (h : HsV w v P) (n : Nat) : HsV (w.drewN n) v P := ⟨h.1.drewN n, fun p hp => ⟨(h.2 p hp).1.drewN n, (h.2 p hp).2⟩⟩
theorem HsV.form {w : World} {v : Value} {P : HP} (h : HsV w v P) : ∃ ad cap, v = .slice ad P.length cap := by
 obtain ⟨ad, cap, hv⟩ := h.1.form
 rw [hcs_len] at hv
 exact ⟨ad, cap, hv⟩
theorem HsV.nil (w : World) : HsV w (.slice none 0 0) [] := ⟨RdK.nil w 38, fun p hp => (by cases hp)⟩
theorem run_load_mid_hd {w : World} {b o : Nat} {h : Hd} {v : Value} (hc : ∀ j u, (hdc h v)[j]? = some u → w.cell? ⟨b, o + j, none⟩ = some u) (hr : h.commit.length = 32) : (Instr.loadAt 26 (.pointer (some ⟨b, o, none⟩))).run Tryz.prog w = .ok (hdv h v) w := by
 have hl : (loadCells ⟨b, o, none⟩ (hdc h v).length).run Tryz.prog w = .ok (hdc h v).toArray w :=
  run_loadCells_list (P := Tryz.prog) w ⟨b, o, none⟩ (hdc h v) (fun j u hu => by rw [Addr.add_lit]; exact hc j u hu)
 have hi := info_hd
 cases hq : Tryz.prog.info? 26 with
 | none => simp [hq] at hi
 | some i =>
  have hs : i.size = (hdc h v).length := by rw [hdc_len h v hr]; simpa [hq] using hi
  simp [Instr.loadAt, Instr.sureAddr, loadVar, Sem.run_bind, agg_hd, sizeOf, typeInfo, hq, hs, hl, hdv]
/-- the i-th: where it lies, its whole, its height -/
theorem HsV.at_ {w : World} {ad : Option Addr} {n cap : Nat} {P : HP} (h : HsV w (.slice ad n cap) P) {i : Nat} (hi : i < P.length) :
  ∃ b off, ad = some ⟨b, off, none⟩ ∧ b < w.heap.size ∧ (∀ m, (Instr.loadAt 26 (.pointer (some ⟨b, off + i * 38, none⟩))).run Tryz.prog (w.drewN m) = .ok (hdv (P.getD i zhp).1 (P.getD i zhp).2) (w.drewN m)) ∧
   w.cell? ⟨b, off + i * 38, none⟩ = some (P.getD i zhp).2 ∧ w.cell? ⟨b, off + i * 38 + 1, none⟩ = some (.int .i64 (P.getD i zhp).1.height) ∧ w.cell? ⟨b, off + i * 38 + 2, none⟩ = some (.string (oct.tx (P.getD i zhp).1.topic)) := by
 obtain ⟨b, off, e, hlt, h0⟩ := h.1.cell (i := i) (by rw [hcs_len]; exact hi) (by decide)
 rw [hcs_get hi] at h0
 exact ⟨b, off, e, hlt, fun m => run_load_mid_hd (w := w.drewN m) (fun j u hu => h0 j u hu) (h.2.get hi).2, h0 0 _ rfl, h0 1 _ rfl, h0 2 _ rfl⟩
theorem hdc_uni {h : Hd} {v : Value} (hr : h.commit.length = 32) (hv : v.oneCell' = true) : (hdc h v).length = 38 ∧ ∀ u ∈ hdc h v, u.oneCell' = true := ⟨hdc_len h v hr, hdc_one hv⟩
/-- its parents lie in another block than the list -/
def Sep (v : Value) (p : Hd × Value) : Prop := p.1.parents ≠ [] → ∀ b off n c, p.2 = .slice (some ⟨b, off, none⟩) n c → v.ownBlock ≠ some b
/-- a list of headers of the call's own -/
def OwnH (w : World) (F : Nat → Prop) (v : Value) (P : HP) : Prop := OwnK w F 26 38 v (hcs P) ∧ Ins w P ∧ ∀ p ∈ P, Sep v p
theorem OwnH.nil (w : World) (F : Nat → Prop) : OwnH w F (.slice none 0 0) [] := ⟨OwnK.nil w F _ _, fun p hp => (by cases hp), fun p hp => (by cases hp)⟩
theorem OwnH.form {w : World} {F : Nat → Prop} {v : Value} {P : HP} (h : OwnH w F v P) : ∃ ad cap, v = .slice ad P.length cap := by
 obtain ⟨ad, cap, hv⟩ := h.1.form
 rw [hcs_len] at hv
 exact ⟨ad, cap, hv⟩
theorem OwnH.next {w w' : World} {F : Nat → Prop} {v : Value} {P : HP} (h : OwnH w F v P) (hb : Below w.heap.size w w') : OwnH w' F v P := ⟨h.1.next hb, h.2.1.next hb, h.2.2⟩
theorem OwnH.mono {w : World} {F G : Nat → Prop} {v : Value} {P : HP} (h : OwnH w F v P) (hG : ∀ k, F k → G k) : OwnH w G v P := ⟨h.1.place fun k hk => hG k (h.1.2.2 k hk), h.2⟩
theorem OwnH.hsv {w : World} {F : Nat → Prop} {v : Value} {P : HP} (h : OwnH w F v P) (hm : P.length ≤ 1000000) : HsV w v P := ⟨h.1.rdk (by rw [hcs_len]; omega), h.2.1⟩
theorem info_hd3 : (Tryz.prog.info? 26).map (fun i => (i.zero, i.size, i.bytes)) = some (some (hdv zhd nv), 38, 104) := by kernel_rfl
/-- '[]Header{h}' -/
theorem run_build1h (w : World) (h : Hd) (v : Value) (hr : h.commit.length = 32) : (Instr.buildSlice 27 1 #[(0, hdv h v)]).run Tryz.prog w = .ok (.slice (some ⟨w.heap.size, 0, none⟩) 1 1) (w.alloc (.cells (hdc h v).toArray 26)) := by
 obtain ⟨y, hy, hz, hs, _⟩ := info_parts info_hd3
 have hf : ∀ arr : Array Value, arr.size = 38 → Instr.fill (fun i => some (i * 38, 38)) arr [(0, .agg (hdc h v).toArray)] = some (hdc h v).toArray := fun arr ha => by
  have h1 := fold_all (hdc h v) arr (by rw [ha, hdc_len h v hr])
  have hb : (hdc h v).length = 38 := hdc_len h v hr
  simp only [Instr.fill, Value.cells, Nat.zero_mul, Nat.zero_add, List.size_toArray, hb, ha]
  simp [h1]
 have hzc : (hdv zhd nv).cells.size = 38 := rfl
 unfold Instr.buildSlice hdv
 simp only [Sem.run_bind, run_underlying Tryz.underlying27, Result.andThen_ok, sizeOf, typeInfo]
 simp only [Nat.one_mul]
 simp [hy, hs, hf, newRow, newObj]
 rfl
theorem step_build1h {ops : Array Oper} {rest : List Oper} {o : Oper} {a : Act} {w : World} {Q : Exit → Act → World → Prop} {x : Operand} {h : Hd} {v : Value} (hg : o.guard = none)
  (ho : o.op = .buildSlice 27 1 #[(0, x)]) (hx : a.eval x = hdv h v) (hr : h.commit.length = 32)
  (k : wpList Tryz.prog ops Q rest (a.put o.dst (.slice (some ⟨w.heap.size, 0, none⟩) 1 1)) (w.alloc (.cells (hdc h v).toArray 26))) : wpList Tryz.prog ops Q (o :: rest) a w := by
 refine wpList_plain hg fun K hK => ?_
 unfold Oper.wp execOp
 have hrun := run_build1h w h v hr
 simp only [ho, List.map_toArray, List.map_cons, List.map_nil, hx, Sem.run_bind, hrun, Result.andThen_ok, Sem.run_pure]
 exact hK _ _ k
/-- 'append(v, h)', h in a box of its own -/
theorem push_hd {F : Nat → Prop} {w : World} {v : Value} {P : HP} (hO : OwnH w F v P) (h : Hd) (u : Value) (hr : h.commit.length = 32) (hu : RdV w u h.parents) (hs : Sep v (h, u)) (hL : P.length < 100000) (hn : New F w) (ty : TypeId) :
  ∃ v' w', (Builtin.append_ #[27, 27] ty #[v, .slice (some ⟨w.heap.size, 0, none⟩) 1 1]).run Tryz.prog (w.alloc (.cells (hdc h u).toArray 26)) = .ok v' w' ∧
   OwnH w' F v' (P ++ [(h, u)]) ∧ Turn (fun j => v.ownBlock = some j ∨ w.heap.size ≤ j) w w' ∧ (∀ k, v'.ownBlock = some k → v.ownBlock = some k ∨ w.heap.size ≤ k) := by
 obtain ⟨i0, hi, hz0, hz1, hz2⟩ := info_parts info_hd3
 have h2 : Below w.heap.size w (w.alloc (.cells (hdc h u).toArray 26)) := (Below.refl _ _).alloc (Nat.le_refl _) _
 have hb := Blk.new w 26 (hdc h u).toArray
 have hone : u.oneCell' = true := by
  obtain ⟨ad, cap, hv⟩ := hu.form
  rw [hv]; rfl
 obtain ⟨v', w', hrun, hO', hT⟩ := run_append_k (c := 38) (by_ := 104) Tryz.underlying27 hi hz0 hz1 hz2 rfl (by decide) (hO.1.next h2) (hdc_uni hr hone) (g := w.heap.size) (cap := 1) (fun j x hx => by
  rw [hb.cell, List.getElem?_toArray]; exact hx) (by rw [hcs_len]; omega) (by decide) ty
 have hsz := h2.size
 have hTT : Turn (fun j => v.ownBlock = some j ∨ w.heap.size ≤ j) w w' := ((Turn.ofBelow h2).mono fun j hj => .inr hj).trans (hT.mono fun j hj => hj.imp id fun e => by omega)
 have hin : Ins w (P ++ [(h, u)]) := hO.2.1.append fun p hp => by rw [List.mem_singleton.1 hp]; exact ⟨hu, hr⟩
 have hsp : ∀ p ∈ P ++ [(h, u)], Sep v p := fun p hp => (List.mem_append.1 hp).elim (hO.2.2 p) fun e => by rw [List.mem_singleton.1 e]; exact hs
 have hat : ∀ k, v'.ownBlock = some k → v.ownBlock = some k ∨ w.heap.size ≤ k := fun k hk => (hO'.2.2 k hk).imp id fun e => by omega
 refine ⟨v', w', hrun, ⟨?_, fun p hp => ⟨?_, (hin p hp).2⟩, fun p hp hne b off n c e hk => ?_⟩, hTT, hat⟩
 ·
  have := hO'.place (G := F) fun j hj => (hat j hj).elim (fun e => hO.1.2.2 j e) (fun e => hn j e)
  unfold hcs
  rw [List.map_append]
  exact this
 ·
  refine rdv_turn (hin p hp).1 hTT fun hne b off n c e hlt hb => ?_
  rcases hb with hb | hb
  ·
   exact hsp p hp hne b off n c e hb
  ·
   omega
 ·
  rcases hat b hk with hb | hb
  ·
   exact hsp p hp hne b off n c e hb
  ·
   have := rdv_lt (hin p hp).1 hne e
   omega
theorem elh : ElK 27 26 38 104 (hdv zhd nv) := ⟨Tryz.underlying27, info_hd3, rfl, by decide⟩
theorem Ins.take {w : World} {P : HP} (h : Ins w P) (k : Nat) : Ins w (P.take k) := fun p hp => h p (List.mem_of_mem_take hp)
theorem Ins.drop {w : World} {P : HP} (h : Ins w P) (k : Nat) : Ins w (P.drop k) := fun p hp => h p (List.mem_of_mem_drop hp)
theorem slice_hi_h {w : World} {ad : Option Addr} {n cap : Nat} {P : HP} (h : HsV w (.slice ad n cap) P) (k : Nat) (hk : k ≤ n) (u : World) :
  (Instr.sliceAt 27 (.slice ad n cap) none (some (.int .i64 (k : Int))) none).run Tryz.prog u = .ok (.slice ad k cap) u ∧ HsV w (.slice ad k cap) (P.take k) := by
 obtain ⟨h1, h2⟩ := slice_hi_k elh h.1 k hk u
 refine ⟨h1, ?_, h.2.take k⟩
 unfold hcs at h2 ⊢
 rw [List.map_take]; exact h2
theorem slice_lo_h {w : World} {ad : Option Addr} {n cap : Nat} {P : HP} (h : HsV w (.slice ad n cap) P) (k : Nat) (hk : k ≤ n) (u : World) :
  (Instr.sliceAt 27 (.slice ad n cap) (some (.int .i64 (k : Int))) none none).run Tryz.prog u = .ok (.slice (loK 38 ad cap k) (n - k) (cap - k)) u ∧ HsV w (.slice (loK 38 ad cap k) (n - k) (cap - k)) (P.drop k) := by
 obtain ⟨h1, h2⟩ := slice_lo_k elh h.1 k hk u
 refine ⟨h1, ?_, h.2.drop k⟩
 unfold hcs at h2 ⊢
 rw [List.map_drop]; exact h2
theorem OwnH.laid0 (w : World) {F : Nat → Prop} (hF : New F w) : OwnH (w.alloc (.cells #[] 26)) F (.slice (some ⟨w.heap.size, 0, none⟩) 0 0) [] := ⟨own_laid0 w _ 38 hF, fun p hp => (by cases hp), fun p hp => (by cases hp)⟩
/-- 'append(v, l..)' -/
theorem app_hs {F : Nat → Prop} {w : World} {v u : Value} {P Q : HP} (hO : OwnH w F v P) (hu : HsV w u Q) (hs : ∀ p ∈ Q, Sep v p) (hL : P.length + Q.length ≤ 1000000) (hn : New F w) (ty : TypeId) :
  ∃ v' w', (Builtin.append_ #[27, 27] ty #[v, u]).run Tryz.prog w = .ok v' w' ∧ OwnH w' F v' (P ++ Q) ∧ Turn (fun j => v.ownBlock = some j ∨ w.heap.size ≤ j) w w' ∧ (∀ k, v'.ownBlock = some k → v.ownBlock = some k ∨ w.heap.size ≤ k) := by
 obtain ⟨v', w', hrun, hO', hT, hat⟩ := run_append_ks elh (by decide) hO.1 hu.1 (by rw [hcs_len, hcs_len]; exact hL) hn ty
 have hin : Ins w (P ++ Q) := hO.2.1.append hu.2
 have hsp : ∀ p ∈ P ++ Q, Sep v p := fun p hp => (List.mem_append.1 hp).elim (hO.2.2 p) (hs p)
 refine ⟨v', w', hrun, ⟨?_, fun p hp => ⟨?_, (hin p hp).2⟩, fun p hp hne b off n c e hk => ?_⟩, hT, hat⟩
 ·
  unfold hcs at hO' ⊢
  rw [List.map_append]; exact hO'
 ·
  refine rdv_turn (hin p hp).1 hT fun hne b off n c e hlt hb => ?_
  rcases hb with hb | hb
  ·
   exact hsp p hp hne b off n c e hb
  ·
   omega
 ·
  rcases hat b hk with hb | hb
  ·
   exact hsp p hp hne b off n c e hb
  ·
   have := rdv_lt (hin p hp).1 hne e
   omega
/-- parents that lie below all that may be the list's own -/
theorem sep_low {w : World} {P : HP} {v : Value} {B : Nat} (h : Ins w P) (hB : w.heap.size ≤ B) (hv : ∀ k, v.ownBlock = some k → B ≤ k) : ∀ p ∈ P, Sep v p := fun p hp hne b off n c e hk => by
 have := rdv_lt (h p hp).1 hne e
 have := hv b hk
 omega
end Go.Proofs.YtpeneeddfgmjpaaGreatDoor.hds
