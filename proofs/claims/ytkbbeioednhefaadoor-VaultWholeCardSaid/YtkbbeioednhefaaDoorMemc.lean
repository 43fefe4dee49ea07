/-
  Bytes appended to a slice of the call's own; a string out of it.
  A slice of bytes that a text was turned into ('[]byte(s)'), and what is appended to it byte by byte: its row may bear the mark of such a turn.
-/
import Derived.Test.YtkbbeioednhefaaDoorMemi
import Derived.Laws.IdiomStrings
import Derived.Laws.MakeOwn
import Derived.Laws.IdiomCopy
import Derived.Laws.AppendOwn
namespace Go.Proofs.YtkbbeioednhefaaDoor.mem
open Go.RowKit

/-- 'append(v, x..)': the new bytes lie in the block that the statement has just laid -/
theorem wp_append_new {ops : Array Oper} {rest : List Oper} {o : Oper} {a : Act} {Q : Exit → Act → World → Prop} (hgd : o.guard = none) (s x : Operand)
    (ho : o.op = .call { callee := .builtin .append, args := #[s, x], argTypes := #[53, 53] })
    (F : Nat → Prop) (w0 : World) (v : Value) (n : Nat) (xs : List Value) (hs : a.eval s = v) (hown : Owns w0 F v n xs) (news : List Value) (k : Nat)
    (hx : a.eval x = .slice (some ⟨w0.heap.size, 0, none⟩) k k) (hl : news.length = k * 1) (h1 : ∀ u ∈ news, u.oneCell' = true) (hlen : n + k ≤ 140737488355328) (hn : New F w0)
    (h : ∀ v' w', Owns w' F v' (n + k) (xs ++ news) → Turn F w0 w' → wpList Tryd.prog ops Q rest (a.put o.dst v') w') : wpList Tryd.prog ops Q (o :: rest) a (w0.alloc (.cells news.toArray 5)) := by
  obtain ⟨i0, hi, hz0, hz1, hz2⟩ := info_parts info5
  refine wpList_append_own_at (w0.alloc (.cells news.toArray 5)) hgd s x 53 ho 0 5 i0 (.int .u8 0) 1 1 Tryd.underlying53 hi hz0 hz1 hz2 rfl (by decide) v n xs hs (hown.1.alloc _) ⟨w0.heap.size, 0, none⟩ k k news hx hl
    (new_cells w0 5 news) h1 (by unfold maxLen; omega) (by omega) (Nat.zero_le _) ?_
  intro v' w' ho' hg _ hat
  refine h v' w' ⟨ho', fun b hb => ?_⟩ (((Turn.refl F w0).alloc hn _).trans (Turn.grown hg hown.2 (hn.alloc _)))
  rcases hat with e | e <;> rw [e] at hb
  · exact hown.2 b hb
  · injection hb with hb
    subst hb
    exact hn _ (by simp)

theorem string_at {w w' : World} {i : TypeInfo} (hi : Tryd.prog.info? 5 = some i) (hz : i.zero = some (.int .u8 0)) (hsize : i.size = 1) (hby : i.bytes = 1) {ty : TypeId}
    {v v' : Value} {n : Nat} {xs : List Value} (hown : w.ownsRow 0 5 1 v n xs) {s : ByteArray} (hbytes : n + s.size ≤ 140737488355328)
    (hr : (Builtin.append_ #[53, 9] ty #[v, .string s]).run Tryd.prog w = .ok v' w') (h4 : v' = .slice none 0 0 ↔ v = .slice none 0 0 ∧ s.size = 0) :
    v'.ownBlock = v.ownBlock ∨ v'.ownBlock = some w.heap.size := by
  have hxl : xs.length = n := by simpa using hown.1
  rcases hown.2 with ⟨rfl, rfl⟩ | ⟨g, cap, cur, rfl, hbg, hg, hnc, hcm, hcs, htake⟩
  · by_cases hm : s.size = 0
    · rw [h4.2 ⟨rfl, hm⟩]; exact .inl rfl
    · have h2 := run_append_nil_string (P := Tryd.prog) w 53 9 ty 5 i (.int .u8 0) Tryd.underlying53 Tryd.underlying9 hi hz s (by omega) (by omega) (by rw [hby]; omega)
      rw [h2] at hr
      injection hr with hr _
      subst hr
      exact .inr rfl
  · by_cases hroom : n + s.size ≤ cap
    · have hcs' : cur.size = cap := by simpa using hcs
      have h2 := Lib.run_append_room_string (P := Tryd.prog) w 53 9 ty 5 i Tryd.underlying53 Tryd.underlying9 hi hsize g n cap cur hg s hroom (by omega)
      rw [h2] at hr
      injection hr with hr _
      subst hr
      exact .inl rfl
    · have holds : ∀ j u, xs[j]? = some u → w.cell? ((⟨g, 0, none⟩ : Addr).add j) = some u := hown.cells (g := g) rfl
      have h2 := Lib.run_append_grow_string (P := Tryd.prog) w 53 9 ty 5 i (.int .u8 0) Tryd.underlying53 Tryd.underlying9 hi hz ⟨g, 0, none⟩ n cap xs (by rw [hsize]; simpa using hxl) holds s (by omega) (by omega) (by rw [hby]; exact growslice_fits (by omega) (by omega))
      rw [h2] at hr
      injection hr with hr _
      subst hr
      exact .inr rfl

/-- 'append(v, s...)', s a string -/
theorem wp_append_str {ops : Array Oper} {rest : List Oper} {o : Oper} {a : Act} {Q : Exit → Act → World → Prop} (hgd : o.guard = none) (sl x : Operand)
    (ho : o.op = .call { callee := .builtin .append, args := #[sl, x], argTypes := #[53, 9] })
    (F : Nat → Prop) (w0 : World) (v : Value) (n : Nat) (xs : List Value) (hs : a.eval sl = v) (hown : Owns w0 F v n xs) (s : ByteArray) (hx : a.eval x = .string s) (hlen : n + s.size ≤ 140737488355328) (hn : New F w0)
    (h : ∀ v' w', Owns w' F v' (n + s.size) (xs ++ Lib.strCells s) → Turn F w0 w' → wpList Tryd.prog ops Q rest (a.put o.dst v') w') : wpList Tryd.prog ops Q (o :: rest) a w0 := by
  obtain ⟨i, hi, hz, hsize, hby⟩ := info_parts info5
  refine wpList_plain hgd fun K hK => ?_
  obtain ⟨v', w', hr, h2, h3, h4⟩ := Lib.run_append_own_string (P := Tryd.prog) w0 0 53 9 o.type 5 i Tryd.underlying53 Tryd.underlying9 hi hz hsize hby v n xs hown.1 s (by unfold maxLen; omega) hlen (Nat.zero_le _)
  have hat := string_at hi hz hsize hby hown.1 hlen hr h4
  unfold Oper.wp execOp
  simp only [ho, resolve, invoke, builtin, Sem.run_bind, Sem.run_pure, Result.andThen_ok, List.map_toArray, List.map_cons, List.map_nil, hs, hx, hr]
  refine hK _ _ (h v' w' ⟨h2, fun b hb => ?_⟩ (Turn.grown h3 hown.2 hn))
  rcases hat with e | e <;> rw [e] at hb
  · exact hown.2 b hb
  · injection hb with hb
    subst hb
    exact hn _ (Nat.le_refl _)

def bCells (l : List UInt8) : List Value := l.map fun b => Value.int .u8 b.toNat
theorem bCells_append (a b : List UInt8) : bCells (a ++ b) = bCells a ++ bCells b := List.map_append
theorem strCells_eq (s : ByteArray) : Lib.strCells s = bCells s.data.toList := rfl

theorem Owns.string {w : World} {F : Nat → Prop} {v : Value} {out : List UInt8} (h : Owns w F v out.length (bCells out)) :
    (convert 53 9 v).run Tryd.prog w = .ok (.string ⟨out.toArray⟩) w := by
  rcases h.1.2 with ⟨rfl, h0⟩ | ⟨g', cap, cur, rfl, _, hh, _⟩
  · have e : out = [] := List.eq_nil_of_length_eq_zero h0
    subst e
    exact run_convert_bytes_nil w 53 5 Tryd.underlying53 Tryd.underlying5 0 0 9 Tryd.underlying9
  · refine run_convert_bytes_back w 53 9 5 ⟨g', 0, none⟩ cap out Tryd.underlying53 Tryd.underlying5 Tryd.underlying9 fun j hj => ?_
    exact h.1.cells (g := g') rfl j _ (by simp [bCells, List.getElem?_eq_getElem hj])

end Go.Proofs.YtkbbeioednhefaaDoor.mem

namespace Go.Proofs.YtkbbeioednhefaaDoor.mem
open Go.RowKit

/-- v is a slice over a row of the call's own (one of F), marked or not: it holds the bytes l -/
def OwnB (w : World) (F : Nat → Prop) (v : Value) (l : List UInt8) : Prop :=
  ∃ g cap cur fr, v = .slice (some ⟨g, 0, none⟩) l.length cap ∧ w.heap[g]? = some (.cells cur 5 fr) ∧ (fr = (0, 0) ∨ fr = (cap, cap + 1)) ∧ cur.size = cap ∧ l.length ≤ cap ∧ cur.toList.take l.length = bCells l ∧ F g

theorem OwnB.lt {w : World} {F : Nat → Prop} {v : Value} {l : List UInt8} (h : OwnB w F v l) : ∃ g c, v = .slice (some ⟨g, 0, none⟩) l.length c ∧ g < w.heap.size ∧ F g := by
  obtain ⟨g, cap, cur, fr, hv, hg, _, _, _, _, hF⟩ := h
  exact ⟨g, cap, hv, (Array.getElem?_eq_some_iff.1 hg).1, hF⟩
theorem OwnB.turn {w w' : World} {F G : Nat → Prop} {v : Value} {l : List UInt8} (h : OwnB w F v l) (ht : Turn G w w') (hd : ∀ k, k < w.heap.size → F k → ¬ G k) : OwnB w' F v l := by
  obtain ⟨g, cap, cur, fr, hv, hg, h1, h2, h3, h4, hF⟩ := h
  exact ⟨g, cap, cur, fr, hv, (ht.block g (hd g (Array.getElem?_eq_some_iff.1 hg).1 hF)).trans hg, h1, h2, h3, h4, hF⟩
theorem OwnB.past {w w' : World} {F G : Nat → Prop} {g n c : Nat} {l : List UInt8} (h : OwnB w F (.slice (some ⟨g, 0, none⟩) n c) l) (ht : Turn G w w') (hd : ¬ G g) : OwnB w' F (.slice (some ⟨g, 0, none⟩) n c) l := by
  obtain ⟨g', cap, cur, fr, hv, hg, h1, h2, h3, h4, hF⟩ := h
  have e : g = g' := by
    injection hv with hv1
    injection hv1 with hv2
    injection hv2
  subst e
  exact ⟨g, cap, cur, fr, hv, (ht.block g hd).trans hg, h1, h2, h3, h4, hF⟩
theorem OwnB.fresh {w w' : World} {F : Nat → Prop} {v : Value} {l : List UInt8} (h : OwnB w F v l) (hb : Below w.heap.size w w') : OwnB w' F v l :=
  h.turn (G := (w.heap.size ≤ ·)) (Turn.ofBelow hb) fun _ hk _ => Nat.not_le.2 hk
theorem OwnB.cell {w : World} {F : Nat → Prop} {l : List UInt8} {g n c : Nat} (h : OwnB w F (.slice (some ⟨g, 0, none⟩) n c) l) (j : Nat) (hj : j < l.length) : w.cell? ⟨g, j, none⟩ = some (.int .u8 ((l.getD j 0).toNat : Int)) := by
  obtain ⟨g', cap, cur, fr, hv, hg, _, _, _, h4, _⟩ := h
  cases hv
  have e : (bCells l)[j]? = some (.int .u8 ((l.getD j 0).toNat : Int)) := by
    unfold bCells
    rw [List.getElem?_map, List.getElem?_eq_getElem hj, List.getD_eq_getElem?_getD, List.getElem?_eq_getElem hj]
    rfl
  rw [← h4, List.getElem?_take_of_lt hj] at e
  unfold World.cell?
  rw [hg]
  simpa using e

/-- '[]byte(s)' -/
theorem run_to_bytes (w : World) (F : Nat → Prop) (s : ByteArray) (hF : New F w) : ∃ v w', (convert 9 53 (.string s)).run Tryd.prog w = .ok v w' ∧ OwnB w' F v s.data.toList ∧ Below w.heap.size w w' := by
  have h := run_bytes_of_string (P := Tryd.prog) w 9 53 5 s Tryd.underlying9 Tryd.underlying53 Tryd.underlying5
  have hge := grownCap_ge w s.size 0 5
  have hsz : s.data.toList.length = s.size := by rw [Array.length_toList]; rfl
  have hbs : (bytesRow s (grownCap w s.size 0 5)).size = grownCap w s.size 0 5 := by
    have : s.data.size = s.size := rfl
    simp [bytesRow, this]
    omega
  refine ⟨_, _, h, ⟨w.heap.size, grownCap w s.size 0 5, bytesRow s (grownCap w s.size 0 5), ((bytesRow s (grownCap w s.size 0 5)).size, (bytesRow s (grownCap w s.size 0 5)).size + 1), by rw [hsz], heap_alloc_new w.drew _, .inr (by rw [hbs]), hbs, by rw [hsz]; exact hge, ?_, hF _ (Nat.le_refl _)⟩, ⟨rfl, rfl, rfl, by simp, fun k hk => heap_alloc_old w.drew _ hk⟩⟩
  rw [hsz]
  unfold bytesRow
  rw [Array.toList_append, List.take_append_of_le_length (by rw [Array.length_toList, Array.size_map]; exact Nat.le_refl _), List.take_of_length_le (by rw [Array.length_toList, Array.size_map]; exact Nat.le_refl _), Array.toList_map]
  rfl

/-- one byte more -/
theorem run_append1 (w : World) (ty : TypeId) (F : Nat → Prop) (v : Value) (l : List UInt8) (hown : OwnB w F v l) (a : Addr) (b : UInt8) (ha : w.cell? a = some (.int .u8 (b.toNat : Int))) (hl : l.length + 1 ≤ 1099511627776) (hn : New F w) :
    ∃ v' w', (Builtin.append_ #[53, 53] ty #[v, .slice (some a) 1 1]).run Tryd.prog w = .ok v' w' ∧ OwnB w' F v' (l ++ [b]) ∧ Turn F w w' := by
  obtain ⟨g, cap, cur, fr, rfl, hg, hfr, hsz, hle, htk, hF⟩ := hown
  obtain ⟨i, hi, hz, hs, hby⟩ := info_parts info5
  have hnews : ∀ j u, [Value.int .u8 (b.toNat : Int)][j]? = some u → w.cell? (a.add j) = some u := fun j u hu => by
    rcases j with _ | j
    · have e : a.add 0 = a := by unfold Addr.add; split <;> simp_all
      rw [e, ha]
      simpa using hu
    · simp at hu
  have hlen : (l ++ [b]).length = l.length + 1 := by simp
  by_cases hroom : l.length + 1 ≤ cap
  · have hf := run_firstCells_some (P := Tryd.prog) w i.size 1 a 1 1 [.int .u8 (b.toNat : Int)] (by rw [hs]; rfl) hnews
    have hcell : w.cell? ⟨g, l.length, none⟩ = some cur[l.length] := by simp [World.cell?, hg, show l.length < cur.size by omega]
    have hfro : w.frozen? ⟨g, l.length, none⟩ = false := by
      rcases hfr with rfl | rfl
      · simp [World.frozen?, hg]
      · simp [World.frozen?, hg]; omega
    have hst := run_storeCells_cells (P := Tryd.prog) g l.length [.int .u8 (b.toNat : Int)] 0 w (fun j hj => by
      have : j = 0 := by simpa using hj
      subst this
      simp [hcell]) (fun j hj => by
      have : j = 0 := by simpa using hj
      subst this
      simpa using hfro) (by
      intro v hv
      simp only [List.mem_cons, List.not_mem_nil, or_false] at hv
      subst hv
      rfl)
    have hr : (Builtin.append_ #[53, 53] ty #[.slice (some ⟨g, 0, none⟩) l.length cap, .slice (some a) 1 1]).run Tryd.prog w = .ok (.slice (some ⟨g, 0, none⟩) (l.length + 1) cap) (w.setCell ⟨g, l.length, none⟩ (.int .u8 (b.toNat : Int))) := by
      rw [hs] at hf
      simp only [Nat.add_zero] at hst
      simp [Builtin.append_, run_underlying Tryd.underlying53, sizeOf, typeInfo, hi, hs, Builtin.lenOf, hroom, Addr.add_lit, hf, hst]
      rfl
    refine ⟨_, _, hr, ⟨g, cap, cur.setIfInBounds l.length (.int .u8 (b.toNat : Int)), fr, by rw [hlen], ?_, hfr, by simp [hsz], by rw [hlen]; exact hroom, ?_, hF⟩, (Turn.refl F w).setCell hF _⟩
    · simp [World.setCell, Array.getElem?_modify, hg]
    · have e : cur.toList.length = cap := by rw [← hsz]; exact Array.length_toList
      have e2 : l.length < (cur.toList.set l.length (Value.int .u8 (b.toNat : Int))).length := by rw [List.length_set]; omega
      rw [hlen, Array.toList_setIfInBounds, bCells_append, ← htk, List.take_succ_eq_append_getElem e2, List.getElem_set_self, List.take_set_of_le (Nat.le_refl _)]
      rfl
  · have holds : ∀ j u, (bCells l)[j]? = some u → w.cell? ((⟨g, 0, none⟩ : Addr).add j) = some u := fun j u hu => by
      have hadd : (⟨g, 0, none⟩ : Addr).add j = ⟨g, j, none⟩ := by unfold Addr.add; split <;> simp_all
      rw [hadd]
      rw [← htk, List.getElem?_take] at hu
      split at hu
      · unfold World.cell?
        rw [hg]
        simpa using hu
      · cases hu
    have hbl : (bCells l).length = l.length := List.length_map ..
    have hr := run_append_grow (P := Tryd.prog) w 53 ty 5 i (.int .u8 0) Tryd.underlying53 hi hz ⟨g, 0, none⟩ l.length cap (bCells l) (by rw [hs, hbl, Nat.mul_one]) holds a 1 1 [.int .u8 (b.toNat : Int)] (by rw [hs]; rfl) hnews (by omega) (by omega)
      (growslice_fits (by omega) (by rw [hby]; omega))
    have hge := grownCap_ge w (l.length + 1) cap 5
    refine ⟨_, _, hr, ⟨w.heap.size, grownCap w (l.length + 1) cap 5, _, (0, 0), by rw [hlen], heap_alloc_new w.drew _, .inl rfl, ?_, by rw [hlen]; exact hge, ?_, hn _ (Nat.le_refl _)⟩, (Turn.refl F w).drew.alloc (fun k hk => hn k hk) _⟩
    · simp only [Array.size_append, List.size_toArray, size_zeroCells, hbl, List.length_cons, List.length_nil]
      show l.length + (0 + 1) + (grownCap w (l.length + 1) cap 5 - (l.length + 1)) * 1 = _
      omega
    · rw [hlen, bCells_append, Array.toList_append, Array.toList_append]
      have e : ((bCells l).toArray.toList ++ #[Value.int .u8 (b.toNat : Int)].toList).length = l.length + 1 := by rw [List.length_append]; simp [hbl]
      rw [← e, List.take_left]
      rfl
/-- 'append(v, x)', x one byte that the statement has just laid -/
theorem wp_append1 {ops : Array Oper} {rest : List Oper} {o : Oper} {a : Act} {Q : Exit → Act → World → Prop} (hgd : o.guard = none) (s x : Operand)
    (ho : o.op = .call { callee := .builtin .append, args := #[s, x], argTypes := #[53, 53] })
    (F : Nat → Prop) (w0 : World) (v : Value) (l : List UInt8) (hs : a.eval s = v) (hown : OwnB w0 F v l) (b : UInt8) (k : Int) (hk : k = (b.toNat : Int)) (hx : a.eval x = .slice (some ⟨w0.heap.size, 0, none⟩) 1 1)
    (hl : l.length + 1 ≤ 1099511627776) (hn : New F w0)
    (h : ∀ v' w', OwnB w' F v' (l ++ [b]) → Turn F w0 w' → wpList Tryd.prog ops Q rest (a.put o.dst v') w') : wpList Tryd.prog ops Q (o :: rest) a (w0.alloc (.cells #[.int .u8 k] 5)) := by
  subst hk
  have ha : (w0.alloc (.cells #[.int .u8 (b.toNat : Int)] 5)).cell? ⟨w0.heap.size, 0, none⟩ = some (.int .u8 (b.toNat : Int)) := (Blk.new w0 5 #[.int .u8 (b.toNat : Int)]).cell 0
  have hown' : OwnB (w0.alloc (.cells #[.int .u8 (b.toNat : Int)] 5)) F v l := hown.fresh ((Below.refl _ w0).alloc (Nat.le_refl _) _)
  obtain ⟨v', w', hr, ho', ht'⟩ := run_append1 (w0.alloc (.cells #[.int .u8 (b.toNat : Int)] 5)) o.type F v l hown' ⟨w0.heap.size, 0, none⟩ b ha hl (hn.alloc _)
  refine wpList_plain hgd fun K hK => ?_
  unfold Oper.wp execOp
  simp only [ho, resolve, invoke, builtin, Sem.run_bind, Sem.run_pure, Result.andThen_ok, List.map_toArray, List.map_cons, List.map_nil, hs, hx, hr]
  exact hK _ _ (h v' w' ho' (((Turn.refl F w0).alloc hn _).trans ht'))
end Go.Proofs.YtkbbeioednhefaaDoor.mem
