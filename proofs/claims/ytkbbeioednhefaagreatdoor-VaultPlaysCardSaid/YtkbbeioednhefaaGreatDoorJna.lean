/-
  A list of records copied into a new row, and one more behind it ('append(append([]Record{}, l...), r)'); petrelref12.Append.
-/
import Derived.Test.YtkbbeioednhefaaGreatDoorJnr
import Derived.Test.YtkbbeioednhefaaGreatDoorRcr
namespace Go.Proofs.YtkbbeioednhefaaGreatDoor.jn
open Go.RowKit Go.Proofs.YtkbbeioednhefaaGreatDoor.mem Go.Proofs.YtkbbeioednhefaaGreatDoor.sha Go.Proofs.YtkbbeioednhefaaGreatDoor.opn Go.Proofs.YtkbbeioednhefaaGreatDoor.rows Go.Proofs.YtkbbeioednhefaaGreatDoor.ids Go.Proofs.YtkbbeioednhefaaGreatDoor.rcd

set_option maxRecDepth 100000 in
/-- a list that reads, appended -/
theorem app_rcs {w : World} {F : Nat → Prop} {v vx : Value} {K L : List Rc} (hO : OwnR w F v K) (hx : RcV w vx L) (hl : K.length + L.length ≤ 1000000) :
    ∃ v' w', (Builtin.append_ #[27, 27] 27 #[v, vx]).run Tryz.prog w = .ok v' w' ∧ OwnR w' (fun k => v.ownBlock = some k ∨ w.heap.size ≤ k) v' (K ++ L) ∧ Turn (fun k => v.ownBlock = some k ∨ w.heap.size ≤ k) w w' := by
  obtain ⟨i0, hi, hz0, hz1, hz2⟩ := info_parts info_rc3
  obtain ⟨ad, cap, rfl, hc⟩ := hx
  have hun : Uni 2 (L.map rcc) := fun x hx => by
    obtain ⟨r, _, rfl⟩ := List.mem_map.1 hx
    exact rcc_uni r
  have hfl : (L.map rcc).flatten.length = L.length * 2 := by rw [hun.len, List.length_map]
  cases ad with
  | none =>
    have hL : L = [] := by
      cases L with
      | nil => rfl
      | cons x L => obtain ⟨b, off, e, _⟩ := hc 0 (by simp); cases e
    subst hL
    refine ⟨v, w, run_append_owned_none (P := Tryz.prog) w 0 27 27 66 i0 2 Tryz.underlying27 hi v _ _ hO.2.1, ?_, Turn.refl _ w⟩
    rw [List.append_nil]
    exact hO.place fun k hk => .inl hk
  | some a =>
    have hnews : ∀ j u, (L.map rcc).flatten[j]? = some u → w.cell? (a.add j) = some u := fun j u hu => by
      have hj : j < L.length * 2 := by rw [← hfl]; exact (List.getElem?_eq_some_iff.1 hu).1
      have hi2 : j / 2 < L.length := by omega
      obtain ⟨b, off, e, _, h0, h1⟩ := hc (j / 2) hi2
      injection e with e
      subst e
      rw [Addr.add_lit]
      have hg := hun.get (i := j / 2) (j := j % 2) (by rw [List.length_map]; exact hi2) (Nat.mod_lt _ (by decide))
      rw [show j / 2 * 2 + j % 2 = j by omega, hu, getD_map L hi2] at hg
      rcases Nat.mod_two_eq_zero_or_one j with hm | hm
      · rw [hm] at hg
        rw [show off + j = off + j / 2 * 2 by omega, h0]
        exact hg.symm
      · rw [hm] at hg
        rw [show off + j = off + j / 2 * 2 + 1 by omega, h1]
        exact hg.symm
    obtain ⟨v', w', hrun, hown', hgr, _, hat⟩ := run_append_own_at (P := Tryz.prog) w 0 27 27 66 i0 _ 2 24 Tryz.underlying27 hi hz0 hz1 hz2 rfl (by decide) v _ _ hO.2.1 a L.length cap (L.map rcc).flatten hfl hnews hun.one
      (by rw [List.length_map]; unfold maxLen; omega) (by rw [List.length_map]; omega) (Nat.zero_le _)
    refine ⟨v', w', hrun, ⟨?_, ?_, fun k hk => ?_⟩, Turn.grown hgr (fun k hk => .inl hk) (fun k hk => .inr hk)⟩
    · rw [List.map_append]; exact hO.1.append hun
    · rw [List.map_append, List.flatten_append, List.length_append]
      rw [List.length_map] at hown' ⊢
      rw [List.length_map]
      exact hown'
    · rcases hat with e | e <;> rw [e] at hk
      · exact .inl hk
      · injection hk with hk
        exact .inr (by omega)
/-- one more, laid in block g -/
theorem app_one {w : World} {F : Nat → Prop} {v : Value} {L : List Rc} (hO : OwnR w F v L) (r : Rc) {g : Nat} (hg : Blk w g 66 #[.int .i64 r.k, .string (oct.tx r.body)]) (hl : L.length < 1000000) :
    ∃ v' w', (Builtin.append_ #[27, 27] 27 #[v, .slice (some ⟨g, 0, none⟩) 1 1]).run Tryz.prog w = .ok v' w' ∧ OwnR w' (fun k => v.ownBlock = some k ∨ w.heap.size ≤ k) v' (L ++ [r]) ∧ Turn (fun k => v.ownBlock = some k ∨ w.heap.size ≤ k) w w' :=
  app_rcs hO ⟨some ⟨g, 0, none⟩, 1, rfl, fun i hi => by
    have : i = 0 := by simpa using hi
    subst this
    exact ⟨g, 0, rfl, hg.lt, hg.cell 0, hg.cell 1⟩⟩ (by simp; omega)
/-- an empty list just laid -/
theorem own_nil (w : World) : OwnR (w.alloc (.cells #[] 66)) (w.heap.size ≤ ·) (.slice (some ⟨w.heap.size, 0, none⟩) 0 0) [] :=
  ⟨(fun _ h => by cases h), ⟨rfl, .inr ⟨w.heap.size, 0, #[], rfl, Nat.zero_le _, heap_alloc_new w _, Nat.le_refl _, Nat.zero_le _, rfl, rfl⟩⟩, fun k hk => by
    injection hk with hk
    subst hk
    exact Nat.le_refl _⟩
/-! petrelref12.Append. -/
/-- the two appends, in whatever order the memory is laid: the list copied, the record behind it -/
structure Two (u0 u1 u3 : World) (e g : Nat) (v : Value) (l : List Rc) (r : Rc) (v2 : Value) (u2 : World) (v4 : Value) (u4 : World) : Prop where
  run1 : (Builtin.append_ #[27, 27] 27 #[.slice (some ⟨e, 0, none⟩) 0 0, v]).run Tryz.prog u1 = .ok v2 u2
  run2 : (Builtin.append_ #[27, 27] 27 #[v2, .slice (some ⟨g, 0, none⟩) 1 1]).run Tryz.prog u3 = .ok v4 u4
  mid : Turn (u0.heap.size ≤ ·) u1 u2
  own : OwnR u4 (u0.heap.size ≤ ·) v4 (l ++ [r])
  turn : Turn (u0.heap.size ≤ ·) u0 u4
theorem two_a {u : World} {v : Value} {l : List Rc} (hv : RcV u v l) (r : Rc) (hl : l.length ≤ 100000) :
    ∃ v2 u2 v4 u4, Two u (u.alloc (.cells #[] 66)) (u2.alloc (.cells #[.int .i64 r.k, .string (oct.tx r.body)] 66)) u.heap.size u2.heap.size v l r v2 u2 v4 u4 := by
  have h1 : Below u.heap.size u (u.alloc (.cells #[] 66)) := (Below.refl _ _).alloc (Nat.le_refl _) _
  obtain ⟨v2, u2, hr1, hO2, hT2⟩ := app_rcs (own_nil u) (hv.next h1) (by simp; omega)
  have h2 : Below u2.heap.size u2 (u2.alloc (.cells #[.int .i64 r.k, .string (oct.tx r.body)] 66)) := (Below.refl _ _).alloc (Nat.le_refl _) _
  have s1 := h1.size
  have s2 := hT2.size
  have hO2' : OwnR u2 (u.heap.size ≤ ·) v2 l := hO2.place fun k hk => (hO2.2.2 k hk).elim (fun e => by injection e with e; subst e; exact Nat.le_refl _) (fun e => by show u.heap.size ≤ k; omega)
  obtain ⟨v4, u4, hr2, hO4, hT4⟩ := app_one (OwnK.next hO2' h2) r (Blk.new u2 _ _) (by omega)
  have s4 := h2.size
  refine ⟨v2, u2, v4, u4, hr1, hr2, hT2.mono fun k hk => hk.elim (fun e => by injection e with e; subst e; exact Nat.le_refl _) (fun e => by show u.heap.size ≤ k; omega), hO4.place fun k hk => (hO4.2.2 k hk).elim (fun e => hO2'.2.2 k e) (fun e => by show u.heap.size ≤ k; omega), ?_⟩
  exact (((Turn.ofBelow h1).trans (hT2.mono fun k hk => hk.elim (fun e => by injection e with e; subst e; exact Nat.le_refl _) (fun e => by show u.heap.size ≤ k; omega))).trans ((Turn.ofBelow h2).mono fun k hk => by show u.heap.size ≤ k; omega)).trans (hT4.mono fun k hk => hk.elim (fun e => hO2'.2.2 k e) (fun e => by show u.heap.size ≤ k; omega))
/-- .. both rows laid ahead of the appends -/
theorem two_b {u u1 : World} {v : Value} {l : List Rc} (hv : RcV u v l) (r : Rc) (hl : l.length ≤ 100000) {e g : Nat} (hb : Below u.heap.size u u1) (he : OwnR u1 (u.heap.size ≤ ·) (.slice (some ⟨e, 0, none⟩) 0 0) []) (hg : Blk u1 g 66 #[.int .i64 r.k, .string (oct.tx r.body)]) (hne : e ≠ g) :
    ∃ v2 u2 v4 u4, Two u u1 u2 e g v l r v2 u2 v4 u4 := by
  obtain ⟨v2, u2, hr1, hO2, hT2⟩ := app_rcs he (hv.next hb) (by simp; omega)
  have s1 := hb.size
  have s2 := hT2.size
  have heF := he.2.2 e rfl
  have hO2' : OwnR u2 (u.heap.size ≤ ·) v2 l := hO2.place fun k hk => (hO2.2.2 k hk).elim (fun x => by injection x with x; subst x; exact heF) (fun x => by show u.heap.size ≤ k; omega)
  have hgl := hg.lt
  have hg2 : Blk u2 g 66 #[.int .i64 r.k, .string (oct.tx r.body)] := Blk.turn hg hT2 fun h => h.elim (fun x => by injection x with x; exact hne x) (fun x => by omega)
  obtain ⟨v4, u4, hr2, hO4, hT4⟩ := app_one hO2' r hg2 (by omega)
  refine ⟨v2, u2, v4, u4, hr1, hr2, hT2.mono fun k hk => hk.elim (fun x => by injection x with x; subst x; exact heF) (fun x => by show u.heap.size ≤ k; omega), hO4.place fun k hk => (hO4.2.2 k hk).elim (fun e => hO2'.2.2 k e) (fun e => by show u.heap.size ≤ k; omega), ?_⟩
  exact ((Turn.ofBelow hb).trans (hT2.mono fun k hk => hk.elim (fun x => by injection x with x; subst x; exact heF) (fun x => by show u.heap.size ≤ k; omega))).trans (hT4.mono fun k hk => hk.elim (fun x => hO2'.2.2 k x) (fun x => by show u.heap.size ≤ k; omega))
end Go.Proofs.YtkbbeioednhefaaGreatDoor.jn
