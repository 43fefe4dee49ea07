/-
  Two stacks of errors, as the program has them and as the document does.
-/
import Derived.Test.YtlbieneklijpeaaDoorOwnk
import Derived.Test.YtlbieneklijpeaaDoorFops
namespace Go.Proofs.YtlbieneklijpeaaDoor.fault
open Go.RowKit Go.Proofs.YtlbieneklijpeaaDoor.mem Go.Proofs.YtlbieneklijpeaaDoor.sha Go.Proofs.YtlbieneklijpeaaDoor.ids Go.Proofs.YtlbieneklijpeaaDoor.rows

theorem LieO.form {w : World} {F : Nat → Prop} {v : Value} {o : Option Tr} (h : LieO w F v o) : v.oneCell' = true := by
  cases o with
  | none => cases h; rfl
  | some t =>
    obtain ⟨ty, x, rfl⟩ := Lie.form h
    rfl
theorem LieO.cap {w : World} {F : Nat → Prop} {v : Value} {o : Option Tr} (h : LieO w F v o) : LieO w (fun k => F k ∧ k < w.heap.size) v o := by
  cases o with
  | none => exact h
  | some t => exact Lie.cap h
def one (x : Value) : List Value := [x]
def tri (y : Value × Value × Value) : List Value := [y.1, y.2.1, y.2.2]
def wt (o : Option Tr) : Nat := (fltO o).nums.length + (fltO o).ops.length + (fltO o).reps.length
def tot (st : List (Option Tr)) : Nat := (st.map wt).sum
theorem tot_push (st : List (Option Tr)) (o : Option Tr) : tot (st ++ [o]) = tot st + wt o := by simp [tot]
theorem wt_le : ∀ {st : List (Option Tr)} {i : Nat}, i < st.length → wt (st.getD i none) ≤ tot st
  | o :: st, 0, _ => by simp [tot]
  | o :: st, i + 1, h => by
    have := wt_le (st := st) (i := i) (by simpa using h)
    simp only [tot, List.map_cons, List.sum_cons, List.getD_cons_succ] at this ⊢
    omega
theorem tot_set : ∀ {st : List (Option Tr)} {i : Nat} (o : Option Tr), i < st.length → tot (st.set i o) + wt (st.getD i none) = tot st + wt o
  | p :: st, 0, o, _ => by simp [tot]; omega
  | p :: st, i + 1, o, h => by
    have := tot_set (st := st) (i := i) o (by simpa using h)
    simp only [tot, List.map_cons, List.sum_cons, List.set_cons_succ, List.getD_cons_succ] at this ⊢
    omega
theorem wt_new (e : Int) : wt (newT e) ≤ 1 := by
  unfold wt; rw [flt_new]; unfold newF; split <;> simp [noF]
theorem wt_miss (L : List Id) : wt (missT L) ≤ 2 := by
  unfold wt; rw [flt_miss]; unfold missF; split <;> simp [noF]
theorem wt_wrap (op : ByteArray) (o : Option Tr) : wt (wrapT op o) ≤ wt o + 1 := by
  unfold wt; rw [flt_wrap]; unfold wrapF; split
  · omega
  · simp; omega
theorem wt_join (a b : Option Tr) : wt (joinT a b) = wt a + wt b := by
  unfold wt; rw [flt_join]; unfold joinF; simp; omega

/-- the two stacks in memory: their rows, and what lies in them -/
structure MSt (S : Nat) (P : Nat → Prop) (ve vw : Value) (s1 s2 : List (Option Tr)) (w0 w : World) : Prop where
  below : Below S w0 w
  pS : ∀ k, P k → S ≤ k ∧ k < w.heap.size
  errs : ∃ xs : List Value, xs.length = s1.length ∧ OwnK w (fun k => S ≤ k ∧ ¬ P k) 24 1 ve (xs.map one) ∧ ∀ j, j < s1.length → LieO w P (xs.getD j undef) (s1.getD j none)
  want : ∃ ys : List (Value × Value × Value), ys.length = s2.length ∧ OwnK w (fun k => S ≤ k ∧ ¬ P k) 29 3 vw (ys.map tri) ∧ ∀ j, j < s2.length → FRd w P (ys.getD j (undef, undef, undef)).1 (ys.getD j (undef, undef, undef)).2.1 (ys.getD j (undef, undef, undef)).2.2 (fltO (s2.getD j none))
  apart : ∀ k, ve.ownBlock = some k → vw.ownBlock = some k → False
section
variable {S : Nat} {P : Nat → Prop} {ve vw : Value} {s1 s2 : List (Option Tr)} {w0 w w' : World}
theorem MSt.start (w : World) : MSt w.heap.size (fun _ => False) (.slice none 0 0) (.slice none 0 0) [] [] w w :=
  ⟨Below.refl _ _, fun k h => h.elim, ⟨[], rfl, OwnK.nil _ _ _ _, fun j hj => by simp at hj⟩, ⟨[], rfl, OwnK.nil _ _ _ _, fun j hj => by simp at hj⟩, fun k h => by simp [Value.ownBlock] at h⟩
/-- behind what only makes memory: that may hold further errors -/
theorem MSt.grow (h : MSt S P ve vw s1 s2 w0 w) (hS : S ≤ w.heap.size) (hb : Below w.heap.size w w') : MSt S (fun k => P k ∨ (w.heap.size ≤ k ∧ k < w'.heap.size)) ve vw s1 s2 w0 w' := by
  obtain ⟨xs, hx1, hx2, hx3⟩ := h.errs
  obtain ⟨ys, hy1, hy2, hy3⟩ := h.want
  have hP : ∀ k, P k → k < w.heap.size := fun k hk => (h.pS k hk).2
  refine ⟨h.below.trans (hb.mono hS), fun k hk => ?_, ⟨xs, hx1, (hx2.next hb).place fun k hk => ?_, fun j hj => ((hx3 j hj).next hb).mono fun k h => .inl h⟩, ⟨ys, hy1, (hy2.next hb).place fun k hk => ?_, fun j hj => ((hy3 j hj).next hb).mono fun k h => .inl h⟩, h.apart⟩
  · rcases hk with hk | hk
    · exact ⟨(h.pS k hk).1, Nat.lt_of_lt_of_le (h.pS k hk).2 hb.size⟩
    · exact ⟨Nat.le_trans hS hk.1, hk.2⟩
  · have h1 := hx2.2.2 k hk
    have h2 := hx2.lt hk
    exact ⟨h1.1, fun h => h.elim h1.2 fun h => by omega⟩
  · have h1 := hy2.2.2 k hk
    have h2 := hy2.lt hk
    exact ⟨h1.1, fun h => h.elim h1.2 fun h => by omega⟩
theorem MSt.next (h : MSt S P ve vw s1 s2 w0 w) (hS : S ≤ w.heap.size) (hb : Below w.heap.size w w') : MSt S P ve vw s1 s2 w0 w' := by
  obtain ⟨xs, hx1, hx2, hx3⟩ := h.errs
  obtain ⟨ys, hy1, hy2, hy3⟩ := h.want
  exact ⟨h.below.trans (hb.mono hS), fun k hk => ⟨(h.pS k hk).1, Nat.lt_of_lt_of_le (h.pS k hk).2 hb.size⟩, ⟨xs, hx1, hx2.next hb, fun j hj => (hx3 j hj).next hb⟩, ⟨ys, hy1, hy2.next hb, fun j hj => (hy3 j hj).next hb⟩, h.apart⟩
theorem MSt.drew (h : MSt S P ve vw s1 s2 w0 w) (hS : S ≤ w.heap.size) : MSt S P ve vw s1 s2 w0 w.drew := h.next hS ((Below.refl _ _).drew)
theorem one_uni (x : Value) (h : x.oneCell' = true) : (one x).length = 1 ∧ ∀ u ∈ one x, u.oneCell' = true := ⟨rfl, fun u hu => by
  obtain rfl : u = x := by simpa [one] using hu
  exact h⟩
theorem info_err : ∃ i0, Tryd.prog.info? 24 = some i0 ∧ i0.zero = some .nilIface ∧ i0.size = 1 ∧ i0.bytes = 16 := by
  obtain ⟨i, hi, h1, h2, h3⟩ := info_parts (show (Tryd.prog.info? 24).map (fun i => (i.zero, i.size, i.bytes)) = some (some .nilIface, 1, 16) by kernel_rfl)
  exact ⟨i, hi, h1, h2, h3⟩
theorem info_flt3 : ∃ i0, Tryd.prog.info? 29 = some i0 ∧ i0.zero = some (.agg #[.slice none 0 0, .slice none 0 0, .slice none 0 0]) ∧ i0.size = 3 ∧ i0.bytes = 72 := by
  obtain ⟨i, hi, h1, h2, h3⟩ := info_parts (show (Tryd.prog.info? 29).map (fun i => (i.zero, i.size, i.bytes)) = some (some (.agg #[.slice none 0 0, .slice none 0 0, .slice none 0 0]), 3, 72) by kernel_rfl)
  exact ⟨i, hi, h1, h2, h3⟩
theorem getD_push {α : Type} (l : List α) (x d : α) (j : Nat) (h : j < l.length) : (l ++ [x]).getD j d = l.getD j d := by
  rw [List.getD_eq_getElem?_getD, List.getElem?_append_left h, ← List.getD_eq_getElem?_getD]
theorem getD_last {α : Type} (l : List α) (x d : α) (j : Nat) (h : j = l.length) : (l ++ [x]).getD j d = x := by
  subst h
  rw [List.getD_eq_getElem?_getD, List.getElem?_append_right (Nat.le_refl _), Nat.sub_self]
  rfl
/-- 'errs = append(errs, x)' -/
theorem MSt.pushE (h : MSt S P ve vw s1 s2 w0 w) (hS : S ≤ w.heap.size) {x : Value} {o : Option Tr} (hx : LieO w P x o) (hn : s1.length < 1000) (ty : TypeId) :
    ∃ ve' w', (Builtin.append_ #[53, 53] ty #[ve, .slice (some ⟨w.heap.size, 0, none⟩) 1 1]).run Tryd.prog (w.alloc (.cells #[x] 24)) = .ok ve' w' ∧ MSt S P ve' vw (s1 ++ [o]) s2 w0 w' ∧ w.heap.size ≤ w'.heap.size := by
  obtain ⟨xs, hx1, hx2, hx3⟩ := h.errs
  obtain ⟨ys, hy1, hy2, hy3⟩ := h.want
  obtain ⟨i0, hi, hz0, hz1, hz2⟩ := info_err
  have hb : Below w.heap.size w (w.alloc (.cells #[x] 24)) := (Below.refl _ _).alloc (Nat.le_refl _) _
  have hnew := Blk.new w 24 #[x]
  obtain ⟨ve', w', hrun, hO, ht⟩ := run_append_k Tryd.underlying53 hi hz0 hz1 hz2 rfl (by decide) (hx2.next hb) (one_uni x hx.form) (g := w.heap.size) (cap := 1) (fun j u hu => by rw [hnew.cell j]; simpa [one] using hu) (by rw [List.length_map]; omega) (by decide) ty
  have hsz : (w.alloc (.cells #[x] 24)).heap.size = w.heap.size + 1 := by simp
  have hPt : ∀ k, P k → ¬ (ve.ownBlock = some k ∨ (w.alloc (.cells #[x] 24)).heap.size ≤ k) := fun k hk h2 => by
    rcases h2 with h2 | h2
    · exact (hx2.2.2 k h2).2 hk
    · have := (h.pS k hk).2; omega
  have hwt : Below S (w.alloc (.cells #[x] 24)) w' := ht.below fun k hk => hk.elim (fun h2 => (hx2.2.2 k h2).1) (fun h2 => by omega)
  refine ⟨ve', w', hrun, ⟨(h.below.trans (hb.mono hS)).trans hwt, fun k hk => ⟨(h.pS k hk).1, by have := (h.pS k hk).2; have := ht.size; omega⟩, ⟨xs ++ [x], by simp [hx1], ?_, fun j hj => ?_⟩, ⟨ys, hy1, (hy2.next hb).turn ht fun k hk h2 => ?_, fun j hj => ((hy3 j hj).next hb).turn ht hPt⟩, fun k hk hk2 => ?_⟩, by have := ht.size; omega⟩
  · rw [List.map_append]
    refine hO.place fun k hk => ?_
    rcases hO.2.2 k hk with h2 | h2
    · exact hx2.2.2 k h2
    · exact ⟨by omega, fun h3 => by have := (h.pS k h3).2; omega⟩
  · rw [List.length_append, List.length_singleton] at hj
    by_cases hl : j < s1.length
    · rw [getD_push _ _ _ _ (by omega), getD_push _ _ _ _ hl]
      exact ((hx3 j hl).next hb).turn ht fun k hk _ => hPt k hk
    · rw [getD_last _ _ _ _ (by omega), getD_last _ _ _ _ (by omega)]
      exact (hx.next hb).turn ht fun k hk _ => hPt k hk
  · rcases h2 with h2 | h2
    · exact h.apart k h2 hk
    · have := hy2.lt hk; omega
  · rcases hO.2.2 k hk with h2 | h2
    · exact h.apart k h2 hk2
    · have := hy2.lt hk2; omega
/-- 'want = append(want, y)' -/
theorem MSt.pushW (h : MSt S P ve vw s1 s2 w0 w) (hS : S ≤ w.heap.size) {a b c : Value} {o : Option Tr} (hx : FRd w P a b c (fltO o)) (hn : s2.length < 1000) (ty : TypeId) :
    ∃ vw' w', (Builtin.append_ #[54, 54] ty #[vw, .slice (some ⟨w.heap.size, 0, none⟩) 1 1]).run Tryd.prog (w.alloc (.cells #[a, b, c] 29)) = .ok vw' w' ∧ MSt S P ve vw' s1 (s2 ++ [o]) w0 w' ∧ w.heap.size ≤ w'.heap.size := by
  obtain ⟨xs, hx1, hx2, hx3⟩ := h.errs
  obtain ⟨ys, hy1, hy2, hy3⟩ := h.want
  obtain ⟨i0, hi, hz0, hz1, hz2⟩ := info_flt3
  obtain ⟨a1, c1, rfl⟩ := hx.nums.form
  obtain ⟨a2, c2, rfl⟩ := hx.ops.form
  obtain ⟨rv, r1, _⟩ := hx.reps
  obtain ⟨a3, c3, rfl⟩ := r1.form
  obtain ⟨y, hy⟩ : ∃ y : Value × Value × Value, y = (.slice a1 (ints (fltO o).nums).length c1, .slice a2 (texts (fltO o).ops).length c2, .slice a3 rv.length c3) := ⟨_, rfl⟩
  have hyu : (tri y).length = 3 ∧ ∀ u ∈ tri y, u.oneCell' = true := ⟨rfl, fun u hu => by
    rw [hy] at hu
    simp only [tri, List.mem_cons, List.not_mem_nil, or_false] at hu
    rcases hu with rfl | rfl | rfl <;> rfl⟩
  have hb : Below w.heap.size w (w.alloc (.cells (tri y).toArray 29)) := (Below.refl _ _).alloc (Nat.le_refl _) _
  have hnew := Blk.new w 29 (tri y).toArray
  obtain ⟨vw', w', hrun, hO, ht⟩ := run_append_k Tryd.underlying54 hi hz0 hz1 hz2 rfl (by decide) (hy2.next hb) hyu (g := w.heap.size) (cap := 1) (fun j u hu => by rw [hnew.cell j]; simpa using hu) (by rw [List.length_map]; omega) (by decide) ty
  have hsz : (w.alloc (.cells (tri y).toArray 29)).heap.size = w.heap.size + 1 := by simp
  have hPt : ∀ k, P k → ¬ (vw.ownBlock = some k ∨ (w.alloc (.cells (tri y).toArray 29)).heap.size ≤ k) := fun k hk h2 => by
    rcases h2 with h2 | h2
    · exact (hy2.2.2 k h2).2 hk
    · have := (h.pS k hk).2; omega
  have hwt : Below S (w.alloc (.cells (tri y).toArray 29)) w' := ht.below fun k hk => hk.elim (fun h2 => (hy2.2.2 k h2).1) (fun h2 => by omega)
  have hxy : FRd w P y.1 y.2.1 y.2.2 (fltO o) := by rw [hy]; exact hx
  have harr : (tri y).toArray = #[.slice a1 (ints (fltO o).nums).length c1, .slice a2 (texts (fltO o).ops).length c2, .slice a3 rv.length c3] := by rw [hy]; rfl
  refine ⟨vw', w', by rw [← harr]; exact hrun, ⟨(h.below.trans (hb.mono hS)).trans hwt, fun k hk => ⟨(h.pS k hk).1, by have := (h.pS k hk).2; have := ht.size; omega⟩, ⟨xs, hx1, (hx2.next hb).turn ht fun k hk h2 => ?_, fun j hj => ((hx3 j hj).next hb).turn ht fun k hk _ => hPt k hk⟩, ⟨ys ++ [y], by simp [hy1], ?_, fun j hj => ?_⟩, fun k hk hk2 => ?_⟩, by have := ht.size; omega⟩
  · rcases h2 with h2 | h2
    · exact h.apart k hk h2
    · have := hx2.lt hk; omega
  · rw [List.map_append]
    refine hO.place fun k hk => ?_
    rcases hO.2.2 k hk with h2 | h2
    · exact hy2.2.2 k h2
    · exact ⟨by omega, fun h3 => by have := (h.pS k h3).2; omega⟩
  · rw [List.length_append, List.length_singleton] at hj
    by_cases hl : j < s2.length
    · rw [getD_push _ _ _ _ (by omega), getD_push _ _ _ _ hl]
      exact ((hy3 j hl).next hb).turn ht hPt
    · rw [getD_last _ _ _ _ (by omega), getD_last _ _ _ _ (by omega)]
      exact (hxy.next hb).turn ht hPt
  · rcases hO.2.2 k hk2 with h2 | h2
    · exact h.apart k hk h2
    · have := hx2.lt hk; omega
/-- a store into the middle of a block -/
theorem run_store_k {g off : Nat} {cur : Array Value} {e ty : TypeId} {v : Value} {y : List Value} (hg : w.heap[g]? = some (.cells cur e (0, 0))) (hv : v.cells = y.toArray) (hi : (Tryd.prog.info? ty).map (·.size) = some y.length) (h1 : ∀ u ∈ y, u.oneCell' = true) (hfit : off + y.length ≤ cur.size) :
    (Instr.storeAt ty (.pointer (some ⟨g, off, none⟩)) v).run Tryd.prog w = .ok () (w.setRow g (cur.toList.take off ++ y ++ cur.toList.drop (off + y.length)).toArray) := by
  have hst := run_storeCells_at Tryd.prog g off e y 0 cur w hg (by omega) h1
  cases hq : Tryd.prog.info? ty with
  | none => simp [hq] at hi
  | some i =>
    have hs : i.size = y.length := by simpa [hq] using hi
    simp only [Instr.storeAt, Instr.sureAddr, storeVar, sizeOf, typeInfo, Sem.run_bind, Sem.run_pure, Result.andThen_ok]
    simp [hq, hs, hv, hst]
theorem info_err' : (Tryd.prog.info? 24).map (·.size) = some 1 := by kernel_rfl
theorem MSt.formE (h : MSt S P ve vw s1 s2 w0 w) : ∃ ad cap, ve = .slice ad s1.length cap := by
  obtain ⟨xs, hx1, hx2, _⟩ := h.errs
  obtain ⟨ad, cap, hv⟩ := hx2.form
  exact ⟨ad, cap, by rw [hv, List.length_map, hx1]⟩
theorem MSt.formW (h : MSt S P ve vw s1 s2 w0 w) : ∃ ad cap, vw = .slice ad s2.length cap := by
  obtain ⟨xs, hx1, hx2, _⟩ := h.want
  obtain ⟨ad, cap, hv⟩ := hx2.form
  exact ⟨ad, cap, by rw [hv, List.length_map, hx1]⟩
theorem getD_map {α β : Type} (f : α → β) (l : List α) (d : α) (e : β) (i : Nat) (h : i < l.length) : (l.map f).getD i e = f (l.getD i d) := by
  rw [List.getD_eq_getElem?_getD, List.getElem?_map, List.getD_eq_getElem?_getD, List.getElem?_eq_getElem h]
  rfl
theorem MSt.getE (h : MSt S P ve vw s1 s2 w0 w) {i : Nat} (hi : i < s1.length) : ∃ g cap x, ve = .slice (some ⟨g, 0, none⟩) s1.length cap ∧ S ≤ g ∧ w.cell? ⟨g, i, none⟩ = some x ∧ LieO w P x (s1.getD i none) := by
  obtain ⟨xs, hx1, hx2, hx3⟩ := h.errs
  obtain ⟨g, cap, cur, rfl, hF, _⟩ := hx2.at_ (by rw [List.length_map]; omega)
  refine ⟨g, cap, xs.getD i undef, by rw [List.length_map, hx1], hF.1, ?_, hx3 i hi⟩
  have hc := hx2.cell (i := i) (j := 0) (by rw [List.length_map]; omega) (by decide) (u := xs.getD i undef) (by rw [getD_map one xs undef [] i (by omega)]; rfl)
  rwa [Nat.mul_one, Nat.add_zero] at hc
theorem MSt.getW (h : MSt S P ve vw s1 s2 w0 w) {i : Nat} (hi : i < s2.length) : ∃ g cap a b c, vw = .slice (some ⟨g, 0, none⟩) s2.length cap ∧ S ≤ g ∧ w.cell? ⟨g, i * 3, none⟩ = some a ∧ w.cell? ⟨g, i * 3 + 1, none⟩ = some b ∧ w.cell? ⟨g, i * 3 + 2, none⟩ = some c ∧ FRd w P a b c (fltO (s2.getD i none)) := by
  obtain ⟨xs, hx1, hx2, hx3⟩ := h.want
  obtain ⟨g, cap, cur, rfl, hF, _⟩ := hx2.at_ (by rw [List.length_map]; omega)
  have hg := getD_map tri xs (undef, undef, undef) [] i (by omega)
  have hl : i < (xs.map tri).length := by rw [List.length_map]; omega
  exact ⟨g, cap, _, _, _, by rw [List.length_map, hx1], hF.1, hx2.cell (j := 0) hl (by decide) (by rw [hg]; rfl), hx2.cell (j := 1) hl (by decide) (by rw [hg]; rfl), hx2.cell (j := 2) hl (by decide) (by rw [hg]; rfl), hx3 i hi⟩
theorem map_set' {α β : Type} (f : α → β) (l : List α) (i : Nat) (x : α) : (l.map f).set i (f x) = (l.set i x).map f := List.map_set.symm
theorem getD_set {α : Type} (l : List α) (x d : α) (i j : Nat) (hi : i < l.length) : (l.set i x).getD j d = if i = j then x else l.getD j d := by
  rw [List.getD_eq_getElem?_getD, List.getElem?_set]
  by_cases e : i = j
  · subst e
    rw [if_pos rfl, if_pos rfl, if_pos hi]
    rfl
  · rw [if_neg e, if_neg e, ← List.getD_eq_getElem?_getD]
/-- 'errs[i] = x' -/
theorem MSt.setE (h : MSt S P ve vw s1 s2 w0 w) {i : Nat} (hi : i < s1.length) {x : Value} {o : Option Tr} (hx : LieO w P x o) {g cap : Nat} (hv : ve = .slice (some ⟨g, 0, none⟩) s1.length cap) :
    ∃ w', (Instr.storeAt 24 (.pointer (some ⟨g, i, none⟩)) x).run Tryd.prog w = .ok () w' ∧ MSt S P ve vw (s1.set i o) s2 w0 w' ∧ w.heap.size ≤ w'.heap.size := by
  obtain ⟨xs, hx1, hx2, hx3⟩ := h.errs
  obtain ⟨ys, hy1, hy2, hy3⟩ := h.want
  have hl : i < (xs.map one).length := by rw [List.length_map]; omega
  obtain ⟨g', cap', cur, hv', hF, hh, h1, h2, h3, h4⟩ := hx2.at_ (by omega)
  rw [hv] at hv' hx2
  obtain ⟨rfl, rfl⟩ : g = g' ∧ cap = cap' := by injection hv' with a b c; injection a with a; injection a with a; exact ⟨a, c⟩
  have hx2' : OwnK w (fun k => S ≤ k ∧ ¬ P k) 24 1 (.slice (some ⟨g, 0, none⟩) (xs.map one).length cap) (xs.map one) := by rw [List.length_map, hx1]; exact hx2
  have hxu := one_uni x hx.form
  have hput := hx2'.put hh hl hxu
  have hcl : cur.toList.length = cap * 1 := by rw [Array.length_toList]; exact h3
  have hvc : x.cells = (one x).toArray := by
    have := hx.form
    cases x <;> first | rfl | cases this
  have hrun := run_store_k (y := one x) (off := i) hh hvc info_err' hxu.2 (by rw [h3, show (one x).length = 1 from rfl]; omega)
  have ht := turn_row w g (cur.toList.take (i * 1) ++ one x ++ cur.toList.drop ((i + 1) * 1)).toArray
  rw [Nat.mul_one, Nat.mul_one] at hput ht
  rw [hxu.1] at hrun
  have hPt : ∀ k, P k → ¬ (k = g) := fun k hk e => hF.2 (e ▸ hk)
  refine ⟨_, hrun, ⟨h.below.trans (ht.below fun k hk => by rw [hk]; exact hF.1), fun k hk => ⟨(h.pS k hk).1, by have := (h.pS k hk).2; have := ht.size; omega⟩, ⟨xs.set i x, by simp [hx1], ?_, fun j hj => ?_⟩, ⟨ys, hy1, hy2.turn ht fun k hk e => ?_, fun j hj => (hy3 j hj).turn ht hPt⟩, h.apart⟩, ht.size⟩
  · rw [hv, ← hx1, ← map_set' one xs i x]
    rw [List.length_map] at hput
    exact hput
  · rw [List.length_set] at hj
    rw [getD_set _ _ _ _ _ (by omega), getD_set _ _ _ _ _ hi]
    split
    · exact hx.turn ht fun k hk _ => hPt k hk
    · exact (hx3 j hj).turn ht fun k hk _ => hPt k hk
  · exact h.apart g (by rw [hv]; rfl) (e ▸ hk)
/-- 'want[i] = y' -/
theorem MSt.setW (h : MSt S P ve vw s1 s2 w0 w) {i : Nat} (hi : i < s2.length) {a b c : Value} {o : Option Tr} (hx : FRd w P a b c (fltO o)) {g cap : Nat} (hv : vw = .slice (some ⟨g, 0, none⟩) s2.length cap) :
    ∃ w', (Instr.storeAt 29 (.pointer (some ⟨g, i * 3, none⟩)) (.agg #[a, b, c])).run Tryd.prog w = .ok () w' ∧ MSt S P ve vw s1 (s2.set i o) w0 w' ∧ w.heap.size ≤ w'.heap.size := by
  obtain ⟨xs, hx1, hx2, hx3⟩ := h.errs
  obtain ⟨ys, hy1, hy2, hy3⟩ := h.want
  obtain ⟨a1, c1, rfl⟩ := hx.nums.form
  obtain ⟨a2, c2, rfl⟩ := hx.ops.form
  obtain ⟨rv, r1, _⟩ := hx.reps
  obtain ⟨a3, c3, rfl⟩ := r1.form
  obtain ⟨y, hy⟩ : ∃ y : Value × Value × Value, y = (.slice a1 (ints (fltO o).nums).length c1, .slice a2 (texts (fltO o).ops).length c2, .slice a3 rv.length c3) := ⟨_, rfl⟩
  have hyu : (tri y).length = 3 ∧ ∀ u ∈ tri y, u.oneCell' = true := ⟨rfl, fun u hu => by
    rw [hy] at hu
    simp only [tri, List.mem_cons, List.not_mem_nil, or_false] at hu
    rcases hu with rfl | rfl | rfl <;> rfl⟩
  have hxy : FRd w P y.1 y.2.1 y.2.2 (fltO o) := by rw [hy]; exact hx
  have hl : i < (ys.map tri).length := by rw [List.length_map]; omega
  obtain ⟨g', cap', cur, hv', hF, hh, h1, h2, h3, h4⟩ := hy2.at_ (by omega)
  rw [hv] at hv' hy2
  obtain ⟨rfl, rfl⟩ : g = g' ∧ cap = cap' := by injection hv' with a b c; injection a with a; injection a with a; exact ⟨a, c⟩
  have hy2' : OwnK w (fun k => S ≤ k ∧ ¬ P k) 29 3 (.slice (some ⟨g, 0, none⟩) (ys.map tri).length cap) (ys.map tri) := by rw [List.length_map, hy1]; exact hy2
  have hput := hy2'.put hh hl hyu
  have hcl : cur.toList.length = cap * 3 := by rw [Array.length_toList]; exact h3
  have hrun := run_store_k (v := .agg (tri y).toArray) (y := tri y) (off := i * 3) hh rfl (by rw [info_flt]; rfl) hyu.2 (by rw [h3, hyu.1]; omega)
  rw [hyu.1, show i * 3 + 3 = (i + 1) * 3 by omega] at hrun
  have ht := turn_row w g (cur.toList.take (i * 3) ++ tri y ++ cur.toList.drop ((i + 1) * 3)).toArray
  have hPt : ∀ k, P k → ¬ (k = g) := fun k hk e => hF.2 (e ▸ hk)
  have harr : (tri y).toArray = #[.slice a1 (ints (fltO o).nums).length c1, .slice a2 (texts (fltO o).ops).length c2, .slice a3 rv.length c3] := by rw [hy]; rfl
  refine ⟨_, by rw [← harr]; exact hrun, ⟨h.below.trans (ht.below fun k hk => by rw [hk]; exact hF.1), fun k hk => ⟨(h.pS k hk).1, by have := (h.pS k hk).2; have := ht.size; omega⟩, ⟨xs, hx1, hx2.turn ht fun k hk e => ?_, fun j hj => (hx3 j hj).turn ht fun k hk _ => hPt k hk⟩, ⟨ys.set i y, by simp [hy1], ?_, fun j hj => ?_⟩, h.apart⟩, ht.size⟩
  · exact h.apart g (e ▸ hk) (by rw [hv]; rfl)
  · rw [hv, ← hy1, ← map_set' tri ys i y]
    rw [List.length_map] at hput
    exact hput
  · rw [List.length_set] at hj
    rw [getD_set _ _ _ _ _ (by omega), getD_set _ _ _ _ _ hi]
    split
    · exact hxy.turn ht hPt
    · exact (hy3 j hj).turn ht hPt
theorem getD_take {α : Type} (l : List α) (d : α) (k j : Nat) (h : j < k) : (l.take k).getD j d = l.getD j d := by
  rw [List.getD_eq_getElem?_getD, List.getElem?_take, if_pos h, ← List.getD_eq_getElem?_getD]
theorem MSt.cutE {ad : Option Addr} {n cap : Nat} (h : MSt S P (.slice ad n cap) vw s1 s2 w0 w) (k : Nat) (hk : k ≤ s1.length) : MSt S P (.slice ad k cap) vw (s1.take k) s2 w0 w := by
  obtain ⟨xs, hx1, hx2, hx3⟩ := h.errs
  refine ⟨h.below, h.pS, ⟨xs.take k, by simp [hx1], ?_, fun j hj => ?_⟩, h.want, fun j hj => h.apart j (by cases ad with | none => cases hj | some a => exact hj)⟩
  · rw [List.map_take]; exact hx2.cut k (by rw [List.length_map]; omega)
  · rw [List.length_take] at hj
    rw [getD_take _ _ _ _ (by omega), getD_take _ _ _ _ (by omega)]
    exact hx3 j (by omega)
theorem MSt.cutW {ad : Option Addr} {n cap : Nat} (h : MSt S P ve (.slice ad n cap) s1 s2 w0 w) (k : Nat) (hk : k ≤ s2.length) : MSt S P ve (.slice ad k cap) s1 (s2.take k) w0 w := by
  obtain ⟨xs, hx1, hx2, hx3⟩ := h.want
  refine ⟨h.below, h.pS, h.errs, ⟨xs.take k, by simp [hx1], ?_, fun j hj => ?_⟩, fun j hj hj2 => h.apart j hj (by cases ad with | none => cases hj2 | some a => exact hj2)⟩
  · rw [List.map_take]; exact hx2.cut k (by rw [List.length_map]; omega)
  · rw [List.length_take] at hj
    rw [getD_take _ _ _ _ (by omega), getD_take _ _ _ _ (by omega)]
    exact hx3 j (by omega)
end
end Go.Proofs.YtlbieneklijpeaaDoor.fault
