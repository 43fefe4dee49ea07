/-
  A slice of bytes that a text was turned into ('[]byte(s)'), and what is appended to it byte by byte: its row may bear the mark of such a turn.
  The bytes of a file in a row of its own: cut, grown, written behind.
  What package block answers: contracts of its calls.
  What block's functions answer.
-/
import Derived.Test.YtkbbeioednhefaaGreatDoorMema
import Derived.Laws.IdiomCopy
import Derived.Laws.AppendOwn
import Derived.Test.YtkbbeioednhefaaGreatDoorStrx
import Derived.Laws.CopyRow
import Derived.Lib.AppendZerosOnto
import Derived.Test.YtkbbeioednhefaaGreatDoorBkpl
import Derived.Test.YtkbbeioednhefaaGreatDoorMemi
namespace Go.Proofs.YtkbbeioednhefaaGreatDoor.mem
open Go.RowKit

/-- v is a slice over a row of the call's own (one of F), marked or not: it holds the bytes l -/
def OwnB (w : World) (F : Nat → Prop) (v : Value) (l : List UInt8) : Prop :=
  ∃ g cap cur fr, v = .slice (some ⟨g, 0, none⟩) l.length cap ∧ w.heap[g]? = some (.cells cur 5 fr) ∧ (fr = (0, 0) ∨ fr = (cap, cap + 1)) ∧ cur.size = cap ∧ l.length ≤ cap ∧ cur.toList.take l.length = bCells l ∧ F g

theorem OwnB.lt {w : World} {F : Nat → Prop} {v : Value} {l : List UInt8} (h : OwnB w F v l) : ∃ g c, v = .slice (some ⟨g, 0, none⟩) l.length c ∧ g < w.heap.size ∧ F g := by
  obtain ⟨g, cap, cur, fr, hv, hg, _, _, _, _, hF⟩ := h
  exact ⟨g, cap, hv, (Array.getElem?_eq_some_iff.1 hg).1, hF⟩
theorem OwnB.turn {w w' : World} {F G : Nat → Prop} {v : Value} {l : List UInt8} (h : OwnB w F v l) (ht : Turn G w w') (hd : ∀ k, k < w.heap.size → F k → ¬ G k) : OwnB w' F v l := by
  obtain ⟨g, cap, cur, fr, hv, hg, h1, h2, h3, h4, hF⟩ := h
  exact ⟨g, cap, cur, fr, hv, (ht.block g (hd g (Array.getElem?_eq_some_iff.1 hg).1 hF)).trans hg, h1, h2, h3, h4, hF⟩
theorem OwnB.past {w w' : World} {F G : Nat → Prop} {g n c : Nat} {l : List UInt8} (h : OwnB w F (.slice (some ⟨g, 0, none⟩) n c) l) (ht : Turn G w w') (hd : ¬ G g) : OwnB w' F (.slice (some ⟨g, 0, none⟩) n c) l := by
  obtain ⟨g', cap, cur, fr, hv, hg, h1, h2, h3, h4, hF⟩ := h
  have e : g = g' := by
    injection hv with hv1
    injection hv1 with hv2
    injection hv2
  subst e
  exact ⟨g, cap, cur, fr, hv, (ht.block g hd).trans hg, h1, h2, h3, h4, hF⟩
theorem OwnB.fresh {w w' : World} {F : Nat → Prop} {v : Value} {l : List UInt8} (h : OwnB w F v l) (hb : Below w.heap.size w w') : OwnB w' F v l :=
  h.turn (G := (w.heap.size ≤ ·)) (Turn.ofBelow hb) fun _ hk _ => Nat.not_le.2 hk
theorem OwnB.cell {w : World} {F : Nat → Prop} {l : List UInt8} {g n c : Nat} (h : OwnB w F (.slice (some ⟨g, 0, none⟩) n c) l) (j : Nat) (hj : j < l.length) : w.cell? ⟨g, j, none⟩ = some (.int .u8 ((l.getD j 0).toNat : Int)) := by
  obtain ⟨g', cap, cur, fr, hv, hg, _, _, _, h4, _⟩ := h
  cases hv
  have e : (bCells l)[j]? = some (.int .u8 ((l.getD j 0).toNat : Int)) := by
    unfold bCells
    rw [List.getElem?_map, List.getElem?_eq_getElem hj, List.getD_eq_getElem?_getD, List.getElem?_eq_getElem hj]
    rfl
  rw [← h4, List.getElem?_take_of_lt hj] at e
  unfold World.cell?
  rw [hg]
  simpa using e

/-- '[]byte(s)' -/
theorem run_to_bytes (w : World) (F : Nat → Prop) (s : ByteArray) (hF : New F w) : ∃ v w', (convert 9 95 (.string s)).run Tryz.prog w = .ok v w' ∧ OwnB w' F v s.data.toList ∧ Below w.heap.size w w' := by
  have h := run_bytes_of_string (P := Tryz.prog) w 9 95 5 s Tryz.underlying9 Tryz.underlying95 Tryz.underlying5
  have hge := grownCap_ge w s.size 0 5
  have hsz : s.data.toList.length = s.size := by rw [Array.length_toList]; rfl
  have hbs : (bytesRow s (grownCap w s.size 0 5)).size = grownCap w s.size 0 5 := by
    have : s.data.size = s.size := rfl
    simp [bytesRow, this]
    omega
  refine ⟨_, _, h, ⟨w.heap.size, grownCap w s.size 0 5, bytesRow s (grownCap w s.size 0 5), ((bytesRow s (grownCap w s.size 0 5)).size, (bytesRow s (grownCap w s.size 0 5)).size + 1), by rw [hsz], heap_alloc_new w.drew _, .inr (by rw [hbs]), hbs, by rw [hsz]; exact hge, ?_, hF _ (Nat.le_refl _)⟩, ⟨rfl, rfl, rfl, by simp, fun k hk => heap_alloc_old w.drew _ hk⟩⟩
  rw [hsz]
  unfold bytesRow
  rw [Array.toList_append, List.take_append_of_le_length (by rw [Array.length_toList, Array.size_map]; exact Nat.le_refl _), List.take_of_length_le (by rw [Array.length_toList, Array.size_map]; exact Nat.le_refl _), Array.toList_map]
  rfl

/-- one byte more -/
theorem run_append1 (w : World) (ty : TypeId) (F : Nat → Prop) (v : Value) (l : List UInt8) (hown : OwnB w F v l) (a : Addr) (b : UInt8) (ha : w.cell? a = some (.int .u8 (b.toNat : Int))) (hl : l.length + 1 ≤ 1099511627776) (hn : New F w) :
    ∃ v' w', (Builtin.append_ #[95, 95] ty #[v, .slice (some a) 1 1]).run Tryz.prog w = .ok v' w' ∧ OwnB w' F v' (l ++ [b]) ∧ Turn F w w' := by
  obtain ⟨g, cap, cur, fr, rfl, hg, hfr, hsz, hle, htk, hF⟩ := hown
  obtain ⟨i, hi, hz, hs, hby⟩ := info_parts info5
  have hnews : ∀ j u, [Value.int .u8 (b.toNat : Int)][j]? = some u → w.cell? (a.add j) = some u := fun j u hu => by
    rcases j with _ | j
    · have e : a.add 0 = a := by unfold Addr.add; split <;> simp_all
      rw [e, ha]
      simpa using hu
    · simp at hu
  have hlen : (l ++ [b]).length = l.length + 1 := by simp
  by_cases hroom : l.length + 1 ≤ cap
  · have hf := run_firstCells_some (P := Tryz.prog) w i.size 1 a 1 1 [.int .u8 (b.toNat : Int)] (by rw [hs]; rfl) hnews
    have hcell : w.cell? ⟨g, l.length, none⟩ = some cur[l.length] := by simp [World.cell?, hg, show l.length < cur.size by omega]
    have hfro : w.frozen? ⟨g, l.length, none⟩ = false := by
      rcases hfr with rfl | rfl
      · simp [World.frozen?, hg]
      · simp [World.frozen?, hg]; omega
    have hst := run_storeCells_cells (P := Tryz.prog) g l.length [.int .u8 (b.toNat : Int)] 0 w (fun j hj => by
      have : j = 0 := by simpa using hj
      subst this
      simp [hcell]) (fun j hj => by
      have : j = 0 := by simpa using hj
      subst this
      simpa using hfro) (by
      intro v hv
      simp only [List.mem_cons, List.not_mem_nil, or_false] at hv
      subst hv
      rfl)
    have hr : (Builtin.append_ #[95, 95] ty #[.slice (some ⟨g, 0, none⟩) l.length cap, .slice (some a) 1 1]).run Tryz.prog w = .ok (.slice (some ⟨g, 0, none⟩) (l.length + 1) cap) (w.setCell ⟨g, l.length, none⟩ (.int .u8 (b.toNat : Int))) := by
      rw [hs] at hf
      simp only [Nat.add_zero] at hst
      simp [Builtin.append_, run_underlying Tryz.underlying95, sizeOf, typeInfo, hi, hs, Builtin.lenOf, hroom, Addr.add_lit, hf, hst]
      rfl
    refine ⟨_, _, hr, ⟨g, cap, cur.setIfInBounds l.length (.int .u8 (b.toNat : Int)), fr, by rw [hlen], ?_, hfr, by simp [hsz], by rw [hlen]; exact hroom, ?_, hF⟩, (Turn.refl F w).setCell hF _⟩
    · simp [World.setCell, Array.getElem?_modify, hg]
    · have e : cur.toList.length = cap := by rw [← hsz]; exact Array.length_toList
      have e2 : l.length < (cur.toList.set l.length (Value.int .u8 (b.toNat : Int))).length := by rw [List.length_set]; omega
      rw [hlen, Array.toList_setIfInBounds, bCells_append, ← htk, List.take_succ_eq_append_getElem e2, List.getElem_set_self, List.take_set_of_le (Nat.le_refl _)]
      rfl
  · have holds : ∀ j u, (bCells l)[j]? = some u → w.cell? ((⟨g, 0, none⟩ : Addr).add j) = some u := fun j u hu => by
      have hadd : (⟨g, 0, none⟩ : Addr).add j = ⟨g, j, none⟩ := by unfold Addr.add; split <;> simp_all
      rw [hadd]
      rw [← htk, List.getElem?_take] at hu
      split at hu
      · unfold World.cell?
        rw [hg]
        simpa using hu
      · cases hu
    have hbl : (bCells l).length = l.length := List.length_map ..
    have hr := run_append_grow (P := Tryz.prog) w 95 ty 5 i (.int .u8 0) Tryz.underlying95 hi hz ⟨g, 0, none⟩ l.length cap (bCells l) (by rw [hs, hbl, Nat.mul_one]) holds a 1 1 [.int .u8 (b.toNat : Int)] (by rw [hs]; rfl) hnews (by omega) (by omega)
      (growslice_fits (by omega) (by rw [hby]; omega))
    have hge := grownCap_ge w (l.length + 1) cap 5
    refine ⟨_, _, hr, ⟨w.heap.size, grownCap w (l.length + 1) cap 5, _, (0, 0), by rw [hlen], heap_alloc_new w.drew _, .inl rfl, ?_, by rw [hlen]; exact hge, ?_, hn _ (Nat.le_refl _)⟩, (Turn.refl F w).drew.alloc (fun k hk => hn k hk) _⟩
    · simp only [Array.size_append, List.size_toArray, size_zeroCells, hbl, List.length_cons, List.length_nil]
      show l.length + (0 + 1) + (grownCap w (l.length + 1) cap 5 - (l.length + 1)) * 1 = _
      omega
    · rw [hlen, bCells_append, Array.toList_append, Array.toList_append]
      have e : ((bCells l).toArray.toList ++ #[Value.int .u8 (b.toNat : Int)].toList).length = l.length + 1 := by rw [List.length_append]; simp [hbl]
      rw [← e, List.take_left]
      rfl
/-- 'append(v, x)', x one byte that the statement has just laid -/
theorem wp_append1 {ops : Array Oper} {rest : List Oper} {o : Oper} {a : Act} {Q : Exit → Act → World → Prop} (hgd : o.guard = none) (s x : Operand)
    (ho : o.op = .call { callee := .builtin .append, args := #[s, x], argTypes := #[95, 95] })
    (F : Nat → Prop) (w0 : World) (v : Value) (l : List UInt8) (hs : a.eval s = v) (hown : OwnB w0 F v l) (b : UInt8) (k : Int) (hk : k = (b.toNat : Int)) (hx : a.eval x = .slice (some ⟨w0.heap.size, 0, none⟩) 1 1)
    (hl : l.length + 1 ≤ 1099511627776) (hn : New F w0)
    (h : ∀ v' w', OwnB w' F v' (l ++ [b]) → Turn F w0 w' → wpList Tryz.prog ops Q rest (a.put o.dst v') w') : wpList Tryz.prog ops Q (o :: rest) a (w0.alloc (.cells #[.int .u8 k] 5)) := by
  subst hk
  have ha : (w0.alloc (.cells #[.int .u8 (b.toNat : Int)] 5)).cell? ⟨w0.heap.size, 0, none⟩ = some (.int .u8 (b.toNat : Int)) := (Blk.new w0 5 #[.int .u8 (b.toNat : Int)]).cell 0
  have hown' : OwnB (w0.alloc (.cells #[.int .u8 (b.toNat : Int)] 5)) F v l := hown.fresh ((Below.refl _ w0).alloc (Nat.le_refl _) _)
  obtain ⟨v', w', hr, ho', ht'⟩ := run_append1 (w0.alloc (.cells #[.int .u8 (b.toNat : Int)] 5)) o.type F v l hown' ⟨w0.heap.size, 0, none⟩ b ha hl (hn.alloc _)
  refine wpList_plain hgd fun K hK => ?_
  unfold Oper.wp execOp
  simp only [ho, resolve, invoke, builtin, Sem.run_bind, Sem.run_pure, Result.andThen_ok, List.map_toArray, List.map_cons, List.map_nil, hs, hx, hr]
  exact hK _ _ (h v' w' ho' (((Turn.refl F w0).alloc hn _).trans ht'))
end Go.Proofs.YtkbbeioednhefaaGreatDoor.mem

namespace Go.Proofs.YtkbbeioednhefaaGreatDoor.bk
open Go.RowKit Go.Proofs.YtkbbeioednhefaaGreatDoor.mem Go.Proofs.YtkbbeioednhefaaGreatDoor.strx

/-- v is a slice over a row of F: the bytes s, and what lies behind them -/
def RowB (w : World) (F : Nat → Prop) (g cap : Nat) (s : List UInt8) : Prop :=
  ∃ cur : Array Value, w.heap[g]? = some (.cells cur 5 (0, 0)) ∧ cur.size = cap ∧ s.length ≤ cap ∧ cap ≤ maxLen ∧ cur.toList.take s.length = bCells s ∧ F g
def DB (w : World) (F : Nat → Prop) (v : Value) (s : List UInt8) : Prop := (v = .slice none 0 0 ∧ s = []) ∨ ∃ g cap, v = .slice (some ⟨g, 0, none⟩) s.length cap ∧ RowB w F g cap s

theorem RowB.lt {w : World} {F : Nat → Prop} {g cap : Nat} {s : List UInt8} (h : RowB w F g cap s) : g < w.heap.size := by
  obtain ⟨cur, hg, _⟩ := h
  exact (Array.getElem?_eq_some_iff.1 hg).1
theorem RowB.of_ {w : World} {F : Nat → Prop} {g cap : Nat} {s : List UInt8} (h : RowB w F g cap s) : F g := by
  obtain ⟨cur, _, _, _, _, _, hF⟩ := h
  exact hF
theorem RowB.turn {w w' : World} {F H : Nat → Prop} {g cap : Nat} {s : List UInt8} (h : RowB w F g cap s) (ht : Turn H w w') (hd : ¬ H g) : RowB w' F g cap s := by
  obtain ⟨cur, hg, h1⟩ := h
  exact ⟨cur, (ht.block g hd).trans hg, h1⟩
theorem RowB.mono {w : World} {F H : Nat → Prop} {g cap : Nat} {s : List UInt8} (h : RowB w F g cap s) (hh : H g) : RowB w H g cap s := by
  obtain ⟨cur, hg, h1, h2, h3, h4, _⟩ := h
  exact ⟨cur, hg, h1, h2, h3, h4, hh⟩
theorem RowB.take {w : World} {F : Nat → Prop} {g cap : Nat} {s : List UInt8} (h : RowB w F g cap s) (n : Nat) : RowB w F g cap (s.take n) := by
  obtain ⟨cur, hg, h1, h2, h3, h4, hF⟩ := h
  refine ⟨cur, hg, h1, by rw [List.length_take]; omega, h3, ?_, hF⟩
  have e : (s.take n).length = min n s.length := List.length_take
  have e2 : cur.toList.take (s.take n).length = (cur.toList.take s.length).take (s.take n).length := by rw [List.take_take, Nat.min_eq_left (by omega)]
  rw [e2, h4, e]
  unfold bCells
  rw [← List.map_take, show List.take (min n s.length) s = List.take n s by rw [← List.take_take, List.take_of_length_le (Nat.le_refl _)]]
theorem RowB.ne {w : World} {F : Nat → Prop} {g cap b : Nat} {s : List UInt8} {t : TypeId} {cs : Array Value} (h : RowB w F g cap s) (hb : Blk w b t cs) (hne : 5 ≠ t) : g ≠ b := by
  rintro rfl
  obtain ⟨cur, hg, _⟩ := h
  unfold Blk at hb
  rw [hb] at hg
  injection hg with hg
  injection hg with _ ht
  exact hne ht.symm
theorem DB.turn {w w' : World} {F H : Nat → Prop} {v : Value} {s : List UInt8} (h : DB w F v s) (ht : Turn H w w') (hd : ∀ j, j < w.heap.size → F j → ¬ H j) : DB w' F v s := by
  rcases h with h | ⟨g, cap, hv, h⟩
  · exact .inl h
  · exact .inr ⟨g, cap, hv, h.turn ht (hd g h.lt h.of_)⟩
theorem DB.next {w w' : World} {F : Nat → Prop} {v : Value} {s : List UInt8} (h : DB w F v s) (hb : Below w.heap.size w w') : DB w' F v s :=
  h.turn (Turn.ofBelow hb) fun _ hj _ => Nat.not_le.2 hj
theorem DB.mono {w : World} {F H : Nat → Prop} {v : Value} {s : List UInt8} (h : DB w F v s) (hh : ∀ j, j < w.heap.size → F j → H j) : DB w H v s := by
  rcases h with h | ⟨g, cap, hv, h⟩
  · exact .inl h
  · exact .inr ⟨g, cap, hv, h.mono (hh g h.lt h.of_)⟩
theorem DB.form {w : World} {F : Nat → Prop} {v : Value} {s : List UInt8} (h : DB w F v s) : ∃ a c, v = .slice a s.length c ∧ s.length ≤ c ∧ c ≤ maxLen := by
  rcases h with ⟨rfl, rfl⟩ | ⟨g, cap, rfl, cur, _, _, h2, h3, _⟩
  · exact ⟨none, 0, rfl, Nat.le_refl _, Nat.zero_le _⟩
  · exact ⟨_, cap, rfl, h2, h3⟩
theorem DB.len {w : World} {F : Nat → Prop} {v : Value} {s : List UInt8} (h : DB w F v s) : s.length ≤ maxLen := by
  obtain ⟨_, c, _, h1, h2⟩ := h.form
  exact Nat.le_trans h1 h2
theorem RowB.cell {w : World} {F : Nat → Prop} {g cap : Nat} {s : List UInt8} (h : RowB w F g cap s) (j : Nat) (hj : j < s.length) : w.cell? ⟨g, j, none⟩ = some (.int .u8 ((s[j]).toNat : Int)) := by
  obtain ⟨cur, hg, _, _, _, h4, _⟩ := h
  have e : (bCells s)[j]? = some (.int .u8 ((s[j]).toNat : Int)) := by
    unfold bCells
    rw [List.getElem?_map, List.getElem?_eq_getElem hj]
    rfl
  rw [← h4, List.getElem?_take_of_lt hj] at e
  unfold World.cell?
  rw [hg]
  simpa using e
theorem DB.string {w : World} {F : Nat → Prop} {v : Value} {s : List UInt8} (h : DB w F v s) : (convert 95 9 v).run Tryz.prog w = .ok (.string (bt s)) w := by
  rcases h with ⟨rfl, rfl⟩ | ⟨g, cap, rfl, hR⟩
  · exact run_convert_bytes_nil w 95 5 Tryz.underlying95 Tryz.underlying5 0 0 9 Tryz.underlying9
  · refine run_convert_bytes_back w 95 9 5 ⟨g, 0, none⟩ cap s Tryz.underlying95 Tryz.underlying5 Tryz.underlying9 fun j hj => ?_
    rw [Addr.add_lit, Nat.zero_add]
    exact hR.cell j hj
/-- 'data[:n]' -/
theorem run_to (u : World) (g n cap k : Nat) (hk : k ≤ cap) : (Instr.sliceAt 95 (.slice (some ⟨g, 0, none⟩) n cap) none (some (.int .i64 (k : Int))) none).run Tryz.prog u = .ok (.slice (some ⟨g, 0, none⟩) k cap) u := by
  obtain ⟨y, hy, _, hs, _⟩ := info_parts info5
  have h0 : (0 : Int) ≤ (k : Int) := Int.natCast_nonneg _
  have hc : (k : Int) ≤ (cap : Int) := by omega
  simp only [Instr.sliceAt, Instr.slice, Instr.sliceBounds, Instr.sliceBound, asIntOf, sizeOf, typeInfo, Sem.run_bind, Sem.run_pure, Result.andThen_ok, run_underlying Tryz.underlying95]
  simp [hy, hs, hc, Addr.add]
/-- 'data[n:m:m]' -/
theorem run_3 (u : World) (g l cap n m : Nat) (hk : n < m) (hc : m ≤ cap) : (Instr.sliceAt 95 (.slice (some ⟨g, 0, none⟩) l cap) (some (.int .i64 (n : Int))) (some (.int .i64 (m : Int))) (some (.int .i64 (m : Int)))).run Tryz.prog u = .ok (.slice (some ⟨g, n, none⟩) (m - n) (m - n)) u := by
  obtain ⟨y, hy, _, hs, _⟩ := info_parts info5
  have h0 : (0 : Int) ≤ (n : Int) := Int.natCast_nonneg _
  have h1 : (0 : Int) ≤ (m : Int) := Int.natCast_nonneg _
  have h2 : (n : Int) ≤ (m : Int) := by omega
  have h3 : (m : Int) ≤ (cap : Int) := by omega
  have h4 : ¬ m = n := by omega
  have h5 : ¬ m - n = 0 := by omega
  simp only [Instr.sliceAt, Instr.slice, Instr.sliceBounds, Instr.sliceBound, asIntOf, sizeOf, typeInfo, Sem.run_bind, Sem.run_pure, Result.andThen_ok, run_underlying Tryz.underlying95]
  have h6 : n ≤ m := by omega
  simp [hy, hs, h3, h4, h6, Addr.add]
  exact fun h => h.symm
/-- 'append(s[:cap(s)], make([]byte, n)...)' -/
theorem run_grow (w : World) (ty : TypeId) (F : Nat → Prop) (v : Value) (s : List UInt8) (c m : Nat) (a : Option Addr) (hv : v = .slice a s.length c) (h : DB w F v s) (h0 : 0 < m) (hm : c + m ≤ 140737488355328) (hn : New F w) :
    ∃ cap2 w2, (Builtin.append_ #[95, 3] ty #[.slice a c c, .int .i64 (m : Int)]).run Tryz.prog w = .ok (.slice (some ⟨w.heap.size, 0, none⟩) (c + m) cap2) w2 ∧ RowB w2 F w.heap.size cap2 s ∧ c + m ≤ cap2 ∧ Below w.heap.size w w2 := by
  subst hv
  obtain ⟨y, hy, hz, hs, hb⟩ := info_parts info5
  obtain ⟨old, hold, hol, hot⟩ : ∃ old : List Value, (Builtin.firstCells y.size c (.slice a c c)).run Tryz.prog w.drew = .ok old.toArray w.drew ∧ old.length = c ∧ old.take s.length = bCells s := by
    rcases h with ⟨e, rfl⟩ | ⟨g, cap, e, cur, hg, h1, h2, h3, h4, hF⟩
    · cases e
      exact ⟨[], by rw [hs]; rfl, rfl, rfl⟩
    · cases e
      have h1' : cur.toList.length = c := by rw [Array.length_toList]; exact h1
      refine ⟨cur.toList, run_firstCells_some (P := Tryz.prog) w.drew y.size c ⟨g, 0, none⟩ c c cur.toList (by rw [hs, h1', Nat.mul_one]) ?_, h1', h4⟩
      intro j u hu
      rw [Addr.add_lit, Nat.zero_add]
      show w.cell? ⟨g, j, none⟩ = _
      rw [(show Blk w g 5 cur from hg).cell]
      simpa using hu
  have hsl : s.length ≤ c := by
    rcases h with ⟨e, rfl⟩ | ⟨g, cap, e, cur, hg, h1, h2, h3, h4, hF⟩
    · exact Nat.zero_le _
    · cases e
      exact h2
  have hfit : Builtin.nextslicecap (c + m) c * y.bytes ≤ 281474976710656 := growslice_fits (by omega) (by rw [hb]; omega)
  have hr := Lib.run_append_grow_zeros (P := Tryz.prog) w 95 3 ty 5 y _ .i64 .i64 Tryz.underlying95 Tryz.underlying3 hy hz a c c old hold m h0 (by rw [hs]; decide) (by omega) (by omega) (by rw [hb]; omega) hfit
  have hge := grownCap_ge w (c + m) c 5
  have hmax := grownCap_le_maxLen w (c + m) c 5 (by unfold maxLen; omega)
  refine ⟨_, _, hr, ⟨_, heap_alloc_new w.drew _, ?_, by omega, hmax, ?_, hn _ (Nat.le_refl _)⟩, hge, ((Below.refl _ w).drew).alloc (Nat.le_refl _) _⟩
  · rw [Array.size_append, Array.size_append, List.size_toArray, hol, size_zeroCells, size_zeroCells]
    show c + m * 1 + _ * 1 = _
    omega
  · rw [Array.toList_append, Array.toList_append, List.toList_toArray, List.append_assoc, List.take_append_of_le_length (by omega)]
    exact hot
/-- 'copy(dst, t)', dst the row from place n on, as long as t -/
theorem run_copy_b (w : World) (ty : TypeId) (F : Nat → Prop) (g cap c : Nat) (s : List UInt8) (t : ByteArray) (h : RowB w F g cap s) (hc : s.length + t.size ≤ cap) :
    ∃ w', (Builtin.copy_ #[95, 9] ty #[.slice (some ⟨g, s.length, none⟩) t.size c, .string t]).run Tryz.prog w = .ok (goInt (t.size : Int)) w' ∧ RowB w' F g cap (s ++ t.data.toList) ∧ Turn (· = g) w w' := by
  obtain ⟨cur, hg, h1, h2, h3, h4, hF⟩ := h
  obtain ⟨i, hi, _, hs, _⟩ := info_parts info5
  have hlen : (bCells t.data.toList).length = t.size := by unfold bCells; rw [List.length_map, size_list]
  have hst := run_storeCells_at Tryz.prog g s.length 5 (bCells t.data.toList) 0 cur w hg (by rw [hlen]; simp; omega) (by
    intro v hv
    simp only [bCells, List.mem_map] at hv
    obtain ⟨b, _, rfl⟩ := hv
    rfl)
  have htk : List.take t.size (List.map (fun b : UInt8 => Value.int IntKind.u8 (b.toNat : Int)) t.data.toList) = bCells t.data.toList := by
    unfold bCells
    exact List.take_of_length_le (by rw [List.length_map, size_list]; exact Nat.le_refl _)
  rw [hlen] at hst
  simp only [Nat.add_zero] at hst
  refine ⟨w.setRow g (cur.toList.take s.length ++ (bCells t.data.toList ++ cur.toList.drop (s.length + t.size))).toArray, ?_, ⟨_, setRow_heap w g _ _ _ _ hg, ?_, ?_, h3, ?_, hF⟩, ⟨rfl, rfl, rfl, by simp [World.setRow], fun k hk => setRow_other w g k _ hk⟩⟩
  · simp [Builtin.copy_, run_underlying Tryz.underlying95, Builtin.lenOf, Builtin.firstCells, sizeOf, typeInfo, hi]
    rw [htk, hst]
    simp only [Result.andThen_ok, List.append_assoc]
    try rfl
  · have h1' : cur.toList.length = cap := by rw [Array.length_toList]; exact h1
    rw [List.size_toArray, List.length_append, List.length_append, List.length_take, List.length_drop, hlen, h1']
    omega
  · rw [List.length_append, ← size_list]
    exact hc
  · rw [List.toList_toArray, List.length_append, ← size_list, ← List.append_assoc, h4, bCells_append]
    have e : (bCells s ++ bCells t.data.toList).length = s.length + t.size := by
      rw [List.length_append, hlen]
      unfold bCells
      rw [List.length_map]
    rw [← e, List.take_left]
end Go.Proofs.YtkbbeioednhefaaGreatDoor.bk

namespace Go.Proofs.YtkbbeioednhefaaGreatDoor.bk
open Go.RowKit Go.Proofs.YtkbbeioednhefaaGreatDoor.mem Go.Proofs.YtkbbeioednhefaaGreatDoor.sha Go.Proofs.YtkbbeioednhefaaGreatDoor.strx

/-- a Block's block: itself, its bytes, how many are safe -/
def BBlk (w : World) (g : Nat) (v : Value) (k : Nat) : Prop := Blk w g 97 #[.pointer (some ⟨g, 0, none⟩), v, .int .i64 (k : Int)]
theorem BBlk.c0 {w : World} {g : Nat} {v : Value} {k : Nat} (h : BBlk w g v k) : w.cell? ⟨g, 0, none⟩ = some (.pointer (some ⟨g, 0, none⟩)) := Blk.cell h 0
theorem BBlk.c1 {w : World} {g : Nat} {v : Value} {k : Nat} (h : BBlk w g v k) : w.cell? ⟨g, 1, none⟩ = some v := Blk.cell h 1
theorem BBlk.c2 {w : World} {g : Nat} {v : Value} {k : Nat} (h : BBlk w g v k) : w.cell? ⟨g, 2, none⟩ = some (.int .i64 (k : Int)) := Blk.cell h 2
/-- a Block that New made -/
def BlkIs (G : Nat → Prop) (w : World) (p : Value) (s : List UInt8) (k : Nat) : Prop := ∃ g v, p = .pointer (some ⟨g, 0, none⟩) ∧ BBlk w g v k ∧ DB w (fun j => G j ∧ j ≠ g) v s ∧ G g ∧ k ≤ s.length
theorem BlkIs.next {G : Nat → Prop} {w w' : World} {p : Value} {s : List UInt8} {k : Nat} (h : BlkIs G w p s k) (hb : Below w.heap.size w w') : BlkIs G w' p s k := by
  obtain ⟨g, v, hp, h1, h2, h3, h4⟩ := h
  exact ⟨g, v, hp, Blk.below h1 hb (Blk.lt h1), h2.next hb, h3, h4⟩
/-- nil, or one that nobody made -/
def BlkNo (w : World) (p : Value) : Prop := p = .pointer none ∨ ∃ g, p = .pointer (some ⟨g, 0, none⟩) ∧ Blk w g 97 #[.pointer none, .slice none 0 0, .int .i64 0]
theorem BlkNo.next {w w' : World} {p : Value} (h : BlkNo w p) (hb : Below w.heap.size w w') : BlkNo w' p := by
  rcases h with h | ⟨g, hp, h⟩
  · exact .inl h
  · exact .inr ⟨g, hp, h.below hb h.lt⟩

theorem hasB : (Tryz.prog.info? 97).isSome = true := by kernel_rfl
theorem bk_eql (a : Addr) (w : World) : (binOp .eql 61 (.pointer (some a)) (.pointer (some a))).run Tryz.prog w = .ok (.bool true) w := by
  obtain ⟨j, hj⟩ := Option.isSome_iff_exists.1 hasB
  exact run_eql_ptr_same w a Tryz.underlying61 hj

theorem eql_nil_left {t e : TypeId} (a : Addr) (w : World) (h : Tryz.prog.underlying t = some (.pointer e)) : (binOp .eql t (.pointer none) (.pointer (some a))).run Tryz.prog w = .ok (.bool false) w := by
  have h1 : ∀ d : Nat, (Op.equalIn (d + 1) t (.pointer none) (.pointer (some a))).run Tryz.prog w = .ok false w := fun d => by
    simp [Op.equalIn, run_underlying h]
  simp only [binOp]
  simp [Op.equal, Op.maxDepth, h1 9999]
theorem made_ok (g : Nat) (v : Value) (k : Nat) (w : World) (h : BBlk w g v k) : Calls Tryz.prog 51 #[.pointer (some ⟨g, 0, none⟩)] w fun e w' => e = .returned (.bool true) ∧ w = w' := by
  have h0 := h.c0
  have hne := bk_eql
  clear h
  go_enter Tryz.func51, Tryz.ntmps51
  go_wp2
  go_ret
  exact ⟨rfl, rfl⟩
theorem made_no (p : Value) (w : World) (h : BlkNo w p) : Calls Tryz.prog 51 #[p] w fun e w' => e = .returned (.bool false) ∧ w = w' := by
  rcases h with rfl | ⟨g, rfl, h⟩
  · go_enter Tryz.func51, Tryz.ntmps51
    go_wp2
    go_ret
    exact ⟨rfl, rfl⟩
  · have h0 : w.cell? ⟨g, 0, none⟩ = some (.pointer none) := h.cell 0
    have hne := fun a w => eql_nil_left (t := 61) a w Tryz.underlying61
    clear h
    go_enter Tryz.func51, Tryz.ntmps51
    go_wp2
    go_ret
    exact ⟨rfl, rfl⟩
theorem new_any (w : World) : Calls Tryz.prog 72 #[] w fun e w' => ∃ p, e = .returned p ∧ BlkIs (fun j => w.heap.size ≤ j ∧ j < w'.heap.size) w' p [] 0 ∧ Below w.heap.size w w' := by
  go_enter Tryz.func72, Tryz.ntmps72
  go_wp2
  go_ret
  refine ⟨_, rfl, ⟨w.heap.size, .slice none 0 0, rfl, Blk.new w _ _, .inl ⟨rfl, rfl⟩, ⟨Nat.le_refl _, by simp⟩, Nat.le_refl _⟩, (Below.refl _ w).alloc (Nat.le_refl _) _⟩

theorem size_any (G : Nat → Prop) (p : Value) (s : List UInt8) (k : Nat) (w : World) (h : BlkIs G w p s k) : Calls Tryz.prog 83 #[p] w fun e w' => e = .returned (.int .i64 (s.length : Int)) ∧ w = w' := by
  obtain ⟨g, v, rfl, hb, hd, _, _⟩ := h
  obtain ⟨a, c, rfl, _, _⟩ := hd.form
  have h1 := hb.c1
  have HM := Lib.hid (made_ok g _ k w hb)
  clear hb hd
  go_enter Tryz.func83, Tryz.ntmps83
  go_wp2_with (go_at_call 51; (with_reducible refine HM.out.mono ?_); rintro e w1 ⟨rfl, rfl⟩)
  go_ret
  exact ⟨rfl, rfl⟩
theorem size_no (p : Value) (w : World) (h : BlkNo w p) : Calls Tryz.prog 83 #[p] w fun e w' => e = .returned (.int .i64 0) ∧ w = w' := by
  have HM := Lib.hid (made_no p w h)
  clear h
  go_enter Tryz.func83, Tryz.ntmps83
  go_wp2_with (go_at_call 51; (with_reducible refine HM.out.mono ?_); rintro e w1 ⟨rfl, rfl⟩)
  go_ret
  exact ⟨rfl, rfl⟩
theorem tail_any (G : Nat → Prop) (p : Value) (s : List UInt8) (k : Nat) (w : World) (h : BlkIs G w p s k) : Calls Tryz.prog 81 #[p] w fun e w' => e = .returned (.int .i64 ((s.length : Int) - (k : Int))) ∧ Below w.heap.size w w' := by
  obtain ⟨g, v, rfl, hb, hd, _, hk⟩ := h
  have hl := hd.len
  unfold maxLen at hl
  obtain ⟨a, c, rfl, _, _⟩ := hd.form
  have h1 := hb.c1
  have h2 := hb.c2
  have HM := Lib.hid (made_ok g _ k w hb)
  have hw : IntKind.i64.wrap ((s.length : Int) - (k : Int)) = (s.length : Int) - (k : Int) := by rw [IntKind.wrap_i64]; omega
  clear hb hd
  go_enter Tryz.func81, Tryz.ntmps81
  go_wp2_with (go_at_call 51; (with_reducible refine HM.out.mono ?_); rintro e w1 ⟨rfl, rfl⟩)
  go_quiet (fail)
  go_wp2
  go_ret
  exact ⟨rfl, below_drewN (Below.refl _ _) _⟩
theorem tail_no (p : Value) (w : World) (h : BlkNo w p) : Calls Tryz.prog 81 #[p] w fun e w' => e = .returned (.int .i64 0) ∧ w = w' := by
  have HM := Lib.hid (made_no p w h)
  clear h
  go_enter Tryz.func81, Tryz.ntmps81
  go_wp2_with (go_at_call 51; (with_reducible refine HM.out.mono ?_); rintro e w1 ⟨rfl, rfl⟩)
  go_ret
  exact ⟨rfl, rfl⟩
theorem data_any (G : Nat → Prop) (p : Value) (s : List UInt8) (k : Nat) (w : World) (h : BlkIs G w p s k) : Calls Tryz.prog 24 #[p] w fun e w' => e = .returned (.string (bt s)) ∧ Below w.heap.size w w' := by
  obtain ⟨g, v, rfl, hb, hd, _, hk⟩ := h
  have hstr := hd.string
  have h1 := hb.c1
  have HM := Lib.hid (made_ok g _ k w hb)
  clear hb hd
  go_enter Tryz.func24, Tryz.ntmps24
  go_wp2_with (go_at_call 51; (with_reducible refine HM.out.mono ?_); rintro e w1 ⟨rfl, rfl⟩)
  go_ret
  exact ⟨rfl, Below.refl _ _⟩
theorem data_no (p : Value) (w : World) (h : BlkNo w p) : Calls Tryz.prog 24 #[p] w fun e w' => e = .returned (.string ⟨#[]⟩) ∧ w = w' := by
  have HM := Lib.hid (made_no p w h)
  clear h
  go_enter Tryz.func24, Tryz.ntmps24
  go_wp2_with (go_at_call 51; (with_reducible refine HM.out.mono ?_); rintro e w1 ⟨rfl, rfl⟩)
  go_ret
  exact ⟨rfl, rfl⟩
theorem cut_no (p : Value) (n : Int) (w : World) (h : BlkNo w p) : Calls Tryz.prog 82 #[p, .int .i64 n] w fun e w' => e = .returned (.int .i64 8) ∧ w = w' := by
  have HM := Lib.hid (made_no p w h)
  clear h
  go_enter Tryz.func82, Tryz.ntmps82
  go_wp2_with (go_at_call 51; (with_reducible refine HM.out.mono ?_); rintro e w1 ⟨rfl, rfl⟩)
  go_ret
  exact ⟨rfl, rfl⟩
theorem write_no (p : Value) (t : ByteArray) (w : World) (h : BlkNo w p) : Calls Tryz.prog 56 #[p, .string t] w fun e w' => e = .returned (.int .i64 8) ∧ w = w' := by
  have HM := Lib.hid (made_no p w h)
  clear h
  go_enter Tryz.func56, Tryz.ntmps56
  go_wp2_with (go_at_call 51; (with_reducible refine HM.out.mono ?_); rintro e w1 ⟨rfl, rfl⟩)
  go_ret
  exact ⟨rfl, rfl⟩
theorem sync_no (p : Value) (w : World) (h : BlkNo w p) : Calls Tryz.prog 57 #[p] w fun e w' => e = .returned (.int .i64 0) ∧ w = w' := by
  have HT := Lib.hid (tail_no p w h)
  have HS := Lib.hid (size_no p w h)
  have HC := Lib.hid (cut_no p 0 w h)
  clear h
  go_enter Tryz.func57, Tryz.ntmps57
  go_wp2_with (first
    | (go_at_call 81; (with_reducible refine HT.out.mono ?_); rintro e w1 ⟨rfl, rfl⟩)
    | (go_at_call 83; (with_reducible refine HS.out.mono ?_); rintro e w1 ⟨rfl, rfl⟩)
    | (go_at_call 82; (with_reducible refine HC.out.mono ?_); rintro e w1 ⟨rfl, rfl⟩))
  go_ret
  exact ⟨rfl, rfl⟩
end Go.Proofs.YtkbbeioednhefaaGreatDoor.bk

namespace Go.Proofs.YtkbbeioednhefaaGreatDoor.bk
open Go.RowKit Go.Proofs.YtkbbeioednhefaaGreatDoor.mem Go.Proofs.YtkbbeioednhefaaGreatDoor.sha Go.Proofs.YtkbbeioednhefaaGreatDoor.strx

/-- Bk G w p s k: p is a Block of the bytes s, of which k are safe, in blocks of G -/
structure BkIs (T : World → Prop) (Bk : (Nat → Prop) → World → Value → List UInt8 → Nat → Prop) : Prop where
  next : ∀ {w w' : World}, T w → Below w.heap.size w w' → T w'
  le : ∀ {G : Nat → Prop} {w : World} {p : Value} {s : List UInt8} {k : Nat}, Bk G w p s k → k ≤ s.length
  cap : ∀ {G : Nat → Prop} {w : World} {p : Value} {s : List UInt8} {k : Nat}, Bk G w p s k → Bk (fun j => G j ∧ j < w.heap.size) w p s k
  mono : ∀ {G H : Nat → Prop} {w : World} {p : Value} {s : List UInt8} {k : Nat}, Bk G w p s k → (∀ j, G j → H j) → Bk H w p s k
  turn : ∀ {G H : Nat → Prop} {w w' : World} {p : Value} {s : List UInt8} {k : Nat}, Bk G w p s k → Turn H w w' → (∀ j, j < w.heap.size → G j → ¬ H j) → Bk G w' p s k
  new : ∀ (w : World), T w → Calls Tryz.prog 72 #[] w fun e w' => ∃ p, e = .returned p ∧ Bk (fun j => w.heap.size ≤ j ∧ j < w'.heap.size) w' p [] 0 ∧ Below w.heap.size w w'
  write : ∀ (G : Nat → Prop) (p : Value) (s : List UInt8) (k : Nat) (t : ByteArray) (w : World), T w → New G w → Bk G w p s k → s.length + t.size ≤ 50000000 → Calls Tryz.prog 56 #[p, .string t] w fun e w' => e = .returned (.int .i64 0) ∧ Bk G w' p (s ++ t.data.toList) k ∧ Turn G w w'
  sync : ∀ (G : Nat → Prop) (p : Value) (s : List UInt8) (k : Nat) (w : World), T w → New G w → Bk G w p s k → Calls Tryz.prog 57 #[p] w fun e w' => e = .returned (.int .i64 ((s.length : Int) - (k : Int))) ∧ Bk G w' p s s.length ∧ Turn G w w'
  cut : ∀ (G : Nat → Prop) (p : Value) (s : List UInt8) (k : Nat) (n : Int) (w : World), T w → New G w → Bk G w p s k → Calls Tryz.prog 82 #[p, .int .i64 n] w fun e w' => e = .returned (.int .i64 (cutB s k n).2.2) ∧ Bk G w' p (cutB s k n).1 (cutB s k n).2.1 ∧ Turn G w w'
  crash : ∀ (G : Nat → Prop) (p : Value) (s : List UInt8) (k : Nat) (n : Int) (w : World), T w → New G w → Bk G w p s k → Calls Tryz.prog 58 #[p, .int .i64 n] w fun e w' => e = .returned (.int .i64 (crashB s k n).2.2) ∧ Bk G w' p (crashB s k n).1 (crashB s k n).2.1 ∧ Turn G w w'
  data : ∀ (G : Nat → Prop) (p : Value) (s : List UInt8) (k : Nat) (w : World), T w → Bk G w p s k → Calls Tryz.prog 24 #[p] w fun e w' => e = .returned (.string (bt s)) ∧ Below w.heap.size w w'
  size : ∀ (G : Nat → Prop) (p : Value) (s : List UInt8) (k : Nat) (w : World), T w → Bk G w p s k → Calls Tryz.prog 83 #[p] w fun e w' => e = .returned (.int .i64 (s.length : Int)) ∧ Below w.heap.size w w'
  tail : ∀ (G : Nat → Prop) (p : Value) (s : List UInt8) (k : Nat) (w : World), T w → Bk G w p s k → Calls Tryz.prog 81 #[p] w fun e w' => e = .returned (.int .i64 ((s.length : Int) - (k : Int))) ∧ Below w.heap.size w w'
end Go.Proofs.YtkbbeioednhefaaGreatDoor.bk
