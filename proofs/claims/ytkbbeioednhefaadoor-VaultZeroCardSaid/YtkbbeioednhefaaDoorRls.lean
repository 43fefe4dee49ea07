/-
  The landed record: what stands while All goes through the records.
-/
import Derived.Test.YtkbbeioednhefaaDoorRlr
import Derived.Test.YtkbbeioednhefaaDoorRlp
namespace Go.Proofs.YtkbbeioednhefaaDoor.rcd
open Go.RowKit Go.Shelf Go.Proofs.YtkbbeioednhefaaDoor.mem Go.Proofs.YtkbbeioednhefaaDoor.sha Go.Proofs.YtkbbeioednhefaaDoor.opn Go.Proofs.YtkbbeioednhefaaDoor.rows Go.Proofs.YtkbbeioednhefaaDoor.ids
attribute [local go_sem] Oper.semAt_some

theorem recs_stops (n BS : Nat) (s : ByteArray) (hs : s.size ≤ 1000000) (w : World) (hBS : w.cell? ⟨BS, 0, none⟩ = some (.string s)) (hBl : BS < w.heap.size) (hT : crc.Tab w) :
    SeqStopsK Fence.wide (n + 1) Tryd.prog 89 #[.pointer (some ⟨BS, 0, none⟩)] encR (KpR BS) (fun ys => ys.map (·.1) = items s.data.toList) (fun pre => pre.map (·.1) <+: items s.data.toList) s.size w := fun l J Jx W hW hJ _ hY h0 =>
  recs1_in n l BS s hs J Jx hY (fun s W W' hs hb => hJ s W W' none hs ⟨hb.os, hb.tape, hb.output, hb.size, fun k hk _ => hb.block k hk⟩ (fun r e => by cases e)) W ((hW.cell (p := ⟨BS, 0, none⟩) hBl).trans hBS) (Nat.lt_of_lt_of_le hBl hW.size) (hT.next hW) h0
theorem allT_at : ∀ (n : Nat) (t : List UInt8), t.length ≤ n → (allT t).2.1 = ((allT t).1.map fun r => r.body.length + 9).sum
  | n, t, hn => by
    by_cases h0 : t = []
    · subst h0; rfl
    by_cases he : (firstR t).2.2 = 0
    · have hl := List.length_pos_iff.2 h0
      have hs := first_size he
      match n, hn with
      | 0, hn => omega
      | n + 1, hn =>
        rw [allT_next h0 he]
        simp only [List.map_cons, List.sum_cons]
        rw [allT_at n (t.drop (firstR t).2.1.toNat) (by rw [List.length_drop]; omega), (first_len he).1]
        omega
    · rw [allT_none h0 he]; rfl
/-- how many bytes the records have that have come -/
def sumS (pre : List RE) : Nat := (pre.map fun x => x.1.1.body.length + 9).sum
theorem sumS_snoc (pre : List RE) (x : RE) : sumS (pre ++ [x]) = sumS pre + (x.1.1.body.length + 9) := by
  unfold sumS; rw [List.map_append, List.sum_append]; simp
theorem sumS_le : ∀ pre : List RE, sumS pre ≤ pre.length * 1048585
  | [] => Nat.zero_le _
  | x :: pre => by
    have := sumS_le pre
    have h := x.2
    unfold sumS at this ⊢
    rw [List.map_cons, List.sum_cons, List.length_cons]
    omega
theorem OwnR.push {w : World} {F : Nat → Prop} {v : Value} {L : List Rc} (hO : OwnR w F v L) (r : Rc) (hL : L.length < 1000000) :
    ∃ v' w', (Builtin.append_ #[29, 29] 29 #[v, .slice (some ⟨w.heap.size, 0, none⟩) 1 1]).run Tryd.prog (w.alloc (.cells #[.int .i64 r.k, .string (oct.tx r.body)] 39)) = .ok v' w' ∧
      OwnR w' (fun j => v.ownBlock = some j ∨ w.heap.size ≤ j) v' (L ++ [r]) ∧ Turn (fun j => v.ownBlock = some j ∨ w.heap.size ≤ j) w w' := by
  obtain ⟨i0, hi, hz0, hz1, hz2⟩ := info_parts info_rc3
  have h1 : Below w.heap.size w (w.alloc (.cells #[.int .i64 r.k, .string (oct.tx r.body)] 39)) := (Below.refl _ _).alloc (Nat.le_refl _) _
  have hb : Blk (w.alloc (.cells #[.int .i64 r.k, .string (oct.tx r.body)] 39)) w.heap.size 39 #[.int .i64 r.k, .string (oct.tx r.body)] := Blk.new w _ _
  obtain ⟨v', w', hrun, hO', hT⟩ := run_append_k (c := 2) (by_ := 24) Tryd.underlying29 hi hz0 hz1 hz2 rfl (by decide) (OwnK.next hO h1) (rcc_uni r) (g := w.heap.size) (cap := 1) (fun j u hu => by
    rw [hb.cell, ← hu]
    match j with
    | 0 => rfl
    | 1 => rfl
    | j + 2 => rfl) (by rw [List.length_map]; omega) (by decide) 29
  have hle := h1.size
  refine ⟨v', w', hrun, ?_, ((Turn.ofBelow h1).mono fun j hj => .inr hj).trans (hT.mono fun j hj => hj.imp id fun h => by omega)⟩
  have := hO'.place (G := fun j => v.ownBlock = some j ∨ w.heap.size ≤ j) fun j hj => (hO'.2.2 j hj).imp id fun h => by omega
  unfold OwnR
  rw [List.map_append]
  exact this
/-- between two records: the results' boxes, the list so far, the place -/
structure AllJ (n0 : Nat) (w0 : World) (pre : List RE) (vo : Value) (W : World) : Prop where
  r2 : Blk W n0 29 #[.slice none 0 0]
  r3 : Blk W (n0 + 1) 3 #[.int .i64 0]
  r4 : Blk W (n0 + 1 + 1) 26 #[.int .i64 0]
  lb : Blk W (n0 + 1 + 1 + 1) 29 #[vo]
  ab : Blk W (n0 + 1 + 1 + 1 + 1) 3 #[.int .i64 (sumS pre : Nat)]
  own : OwnR W (n0 + 6 ≤ ·) vo (pre.map (·.1.1))
  zs : ∀ x ∈ pre, x.1.2 = 0
  below : Below n0 w0 W
  siz : n0 + 6 ≤ W.heap.size
def AllIv (n0 : Nat) (w0 : World) (pre : List RE) (W : World) : Prop := ∃ vo, AllJ n0 w0 pre vo W
/-- the first that is none has come: its error, and what came ahead of it, is told -/
structure AllX (n0 : Nat) (w0 : World) (ps : List RE) (x : RE) (vo : Value) (W : World) : Prop where
  r2 : Blk W n0 29 #[vo]
  r3 : Blk W (n0 + 1) 3 #[.int .i64 (sumS ps : Nat)]
  r4 : Blk W (n0 + 1 + 1) 26 #[.int .i64 x.1.2]
  own : OwnR W (n0 + 6 ≤ ·) vo (ps.map (·.1.1))
  zs : ∀ x ∈ ps, x.1.2 = 0
  xs : x.1.2 ≠ 0
  below : Below n0 w0 W
def AllXv (n0 : Nat) (w0 : World) (c : Code) (pre : List RE) (W : World) : Prop := c = .ret ∧ ∃ ps x vo, pre = ps ++ [x] ∧ AllX n0 w0 ps x vo W
theorem OwnR.own_cells {w : World} {F : Nat → Prop} {v : Value} {L : List Rc} (h : OwnR w F v L) {j : Nat} (hj : v.ownBlock = some j) : ∃ cs, w.heap[j]? = some (.cells cs 39 (0, 0)) := by
  rcases h.2.1.2 with ⟨rfl, _⟩ | ⟨g, cap, cur, rfl, _, hh, _⟩
  · simp [Value.ownBlock] at hj
  · obtain rfl : g = j := by simpa [Value.ownBlock] using hj
    exact ⟨cur, hh⟩
section
variable {B : Nat} {W W' : World} {row : Option Nat}
theorem own_turn (hg : W.grownBy W' row) (hr : ∀ r, row = some r → B ≤ r ∧ ∃ o : Obj, W.heap[r]? = some o ∧ o.isCells = false) :
    Turn (fun j => row = some j ∨ W.heap.size ≤ j) W W' ∧ ∀ j cs t z, W.heap[j]? = some (.cells cs t z) → ¬ (row = some j ∨ W.heap.size ≤ j) := by
  refine ⟨Turn.grown hg (fun k hk => .inl hk) (fun k hk => .inr hk), fun j cs t z hj hh => ?_⟩
  rcases hh with hh | hh
  · obtain ⟨_, o, ho, hc⟩ := hr j hh
    rw [hj] at ho
    cases ho
    cases hc
  · rw [Array.getElem?_eq_none hh] at hj
    cases hj
end
theorem allIv_own {n0 B : Nat} {w0 : World} (hn : n0 = w0.heap.size) (hB : n0 ≤ B) : OwnFrom B (AllIv n0 w0) := by
  rintro s W W' row ⟨vo, h⟩ hg hr
  obtain ⟨ht, hn⟩ := own_turn hg hr
  exact ⟨vo, h.r2.turn ht (hn _ _ _ _ h.r2), h.r3.turn ht (hn _ _ _ _ h.r3), h.r4.turn ht (hn _ _ _ _ h.r4), h.lb.turn ht (hn _ _ _ _ h.lb), h.ab.turn ht (hn _ _ _ _ h.ab), OwnK.turn h.own ht (fun j hj => by obtain ⟨cs, hcs⟩ := OwnR.own_cells h.own hj; exact hn _ _ _ _ hcs), h.zs, h.below.trans (ht.below fun j hj => by
    rcases hj with hj | hj
    · exact Nat.le_trans hB (hr j hj).1
    · have := h.siz; omega), Nat.le_trans h.siz hg.size⟩
theorem allXv_own {n0 B : Nat} {w0 : World} (hn : n0 = w0.heap.size) (hB : n0 ≤ B) (c : Code) : OwnFrom B (AllXv n0 w0 c) := by
  rintro s W W' row ⟨hc, ps, x, vo, hp, h⟩ hg hr
  obtain ⟨ht, hn2⟩ := own_turn hg hr
  refine ⟨hc, ps, x, vo, hp, h.r2.turn ht (hn2 _ _ _ _ h.r2), h.r3.turn ht (hn2 _ _ _ _ h.r3), h.r4.turn ht (hn2 _ _ _ _ h.r4), OwnK.turn h.own ht (fun j hj => by obtain ⟨cs, hcs⟩ := OwnR.own_cells h.own hj; exact hn2 _ _ _ _ hcs), h.zs, h.xs, h.below.trans (ht.below fun j hj => ?_)⟩
  rcases hj with hj | hj
  · exact Nat.le_trans hB (hr j hj).1
  · have := h.below.size; omega
/-- what turns no object that is no cells -/
theorem keepsFrom_cells {B : Nat} {W W' : World} {F : Nat → Prop} (ht : Turn F W W') (hF : ∀ j, F j → W.heap.size ≤ j ∨ ∃ cs t z, W.heap[j]? = some (.cells cs t z)) : KeepsFrom B W W' :=
  keepsFrom_turn ht fun k o ho hc hk => by
    rcases hF k hk with h | ⟨cs, t, z, h⟩
    · rw [Array.getElem?_eq_none h] at ho; cases ho
    · rw [ho] at h; cases h; cases hc
end Go.Proofs.YtkbbeioednhefaaDoor.rcd
