/-
  The bytes of a file in a row of its own: cut, grown, written behind.
-/
import Derived.Test.YtkbbeioednhefaaDoorMemc
import Derived.Test.YtkbbeioednhefaaDoorStrx
import Derived.Laws.CopyRow
import Derived.Lib.AppendZerosOnto
namespace Go.Proofs.YtkbbeioednhefaaDoor.bk
open Go.RowKit Go.Proofs.YtkbbeioednhefaaDoor.mem Go.Proofs.YtkbbeioednhefaaDoor.strx

/-- v is a slice over a row of F: the bytes s, and what lies behind them -/
def RowB (w : World) (F : Nat → Prop) (g cap : Nat) (s : List UInt8) : Prop :=
  ∃ cur : Array Value, w.heap[g]? = some (.cells cur 5 (0, 0)) ∧ cur.size = cap ∧ s.length ≤ cap ∧ cap ≤ maxLen ∧ cur.toList.take s.length = bCells s ∧ F g
def DB (w : World) (F : Nat → Prop) (v : Value) (s : List UInt8) : Prop := (v = .slice none 0 0 ∧ s = []) ∨ ∃ g cap, v = .slice (some ⟨g, 0, none⟩) s.length cap ∧ RowB w F g cap s

theorem RowB.lt {w : World} {F : Nat → Prop} {g cap : Nat} {s : List UInt8} (h : RowB w F g cap s) : g < w.heap.size := by
  obtain ⟨cur, hg, _⟩ := h
  exact (Array.getElem?_eq_some_iff.1 hg).1
theorem RowB.of_ {w : World} {F : Nat → Prop} {g cap : Nat} {s : List UInt8} (h : RowB w F g cap s) : F g := by
  obtain ⟨cur, _, _, _, _, _, hF⟩ := h
  exact hF
theorem RowB.turn {w w' : World} {F H : Nat → Prop} {g cap : Nat} {s : List UInt8} (h : RowB w F g cap s) (ht : Turn H w w') (hd : ¬ H g) : RowB w' F g cap s := by
  obtain ⟨cur, hg, h1⟩ := h
  exact ⟨cur, (ht.block g hd).trans hg, h1⟩
theorem RowB.mono {w : World} {F H : Nat → Prop} {g cap : Nat} {s : List UInt8} (h : RowB w F g cap s) (hh : H g) : RowB w H g cap s := by
  obtain ⟨cur, hg, h1, h2, h3, h4, _⟩ := h
  exact ⟨cur, hg, h1, h2, h3, h4, hh⟩
theorem RowB.take {w : World} {F : Nat → Prop} {g cap : Nat} {s : List UInt8} (h : RowB w F g cap s) (n : Nat) : RowB w F g cap (s.take n) := by
  obtain ⟨cur, hg, h1, h2, h3, h4, hF⟩ := h
  refine ⟨cur, hg, h1, by rw [List.length_take]; omega, h3, ?_, hF⟩
  have e : (s.take n).length = min n s.length := List.length_take
  have e2 : cur.toList.take (s.take n).length = (cur.toList.take s.length).take (s.take n).length := by rw [List.take_take, Nat.min_eq_left (by omega)]
  rw [e2, h4, e]
  unfold bCells
  rw [← List.map_take, show List.take (min n s.length) s = List.take n s by rw [← List.take_take, List.take_of_length_le (Nat.le_refl _)]]
theorem RowB.ne {w : World} {F : Nat → Prop} {g cap b : Nat} {s : List UInt8} {t : TypeId} {cs : Array Value} (h : RowB w F g cap s) (hb : Blk w b t cs) (hne : 5 ≠ t) : g ≠ b := by
  rintro rfl
  obtain ⟨cur, hg, _⟩ := h
  unfold Blk at hb
  rw [hb] at hg
  injection hg with hg
  injection hg with _ ht
  exact hne ht.symm
theorem DB.turn {w w' : World} {F H : Nat → Prop} {v : Value} {s : List UInt8} (h : DB w F v s) (ht : Turn H w w') (hd : ∀ j, j < w.heap.size → F j → ¬ H j) : DB w' F v s := by
  rcases h with h | ⟨g, cap, hv, h⟩
  · exact .inl h
  · exact .inr ⟨g, cap, hv, h.turn ht (hd g h.lt h.of_)⟩
theorem DB.next {w w' : World} {F : Nat → Prop} {v : Value} {s : List UInt8} (h : DB w F v s) (hb : Below w.heap.size w w') : DB w' F v s :=
  h.turn (Turn.ofBelow hb) fun _ hj _ => Nat.not_le.2 hj
theorem DB.mono {w : World} {F H : Nat → Prop} {v : Value} {s : List UInt8} (h : DB w F v s) (hh : ∀ j, j < w.heap.size → F j → H j) : DB w H v s := by
  rcases h with h | ⟨g, cap, hv, h⟩
  · exact .inl h
  · exact .inr ⟨g, cap, hv, h.mono (hh g h.lt h.of_)⟩
theorem DB.form {w : World} {F : Nat → Prop} {v : Value} {s : List UInt8} (h : DB w F v s) : ∃ a c, v = .slice a s.length c ∧ s.length ≤ c ∧ c ≤ maxLen := by
  rcases h with ⟨rfl, rfl⟩ | ⟨g, cap, rfl, cur, _, _, h2, h3, _⟩
  · exact ⟨none, 0, rfl, Nat.le_refl _, Nat.zero_le _⟩
  · exact ⟨_, cap, rfl, h2, h3⟩
theorem DB.len {w : World} {F : Nat → Prop} {v : Value} {s : List UInt8} (h : DB w F v s) : s.length ≤ maxLen := by
  obtain ⟨_, c, _, h1, h2⟩ := h.form
  exact Nat.le_trans h1 h2
theorem RowB.cell {w : World} {F : Nat → Prop} {g cap : Nat} {s : List UInt8} (h : RowB w F g cap s) (j : Nat) (hj : j < s.length) : w.cell? ⟨g, j, none⟩ = some (.int .u8 ((s[j]).toNat : Int)) := by
  obtain ⟨cur, hg, _, _, _, h4, _⟩ := h
  have e : (bCells s)[j]? = some (.int .u8 ((s[j]).toNat : Int)) := by
    unfold bCells
    rw [List.getElem?_map, List.getElem?_eq_getElem hj]
    rfl
  rw [← h4, List.getElem?_take_of_lt hj] at e
  unfold World.cell?
  rw [hg]
  simpa using e
theorem DB.string {w : World} {F : Nat → Prop} {v : Value} {s : List UInt8} (h : DB w F v s) : (convert 53 9 v).run Tryd.prog w = .ok (.string (bt s)) w := by
  rcases h with ⟨rfl, rfl⟩ | ⟨g, cap, rfl, hR⟩
  · exact run_convert_bytes_nil w 53 5 Tryd.underlying53 Tryd.underlying5 0 0 9 Tryd.underlying9
  · refine run_convert_bytes_back w 53 9 5 ⟨g, 0, none⟩ cap s Tryd.underlying53 Tryd.underlying5 Tryd.underlying9 fun j hj => ?_
    rw [Addr.add_lit, Nat.zero_add]
    exact hR.cell j hj
/-- 'data[:n]' -/
theorem run_to (u : World) (g n cap k : Nat) (hk : k ≤ cap) : (Instr.sliceAt 53 (.slice (some ⟨g, 0, none⟩) n cap) none (some (.int .i64 (k : Int))) none).run Tryd.prog u = .ok (.slice (some ⟨g, 0, none⟩) k cap) u := by
  obtain ⟨y, hy, _, hs, _⟩ := info_parts info5
  have h0 : (0 : Int) ≤ (k : Int) := Int.natCast_nonneg _
  have hc : (k : Int) ≤ (cap : Int) := by omega
  simp only [Instr.sliceAt, Instr.slice, Instr.sliceBounds, Instr.sliceBound, asIntOf, sizeOf, typeInfo, Sem.run_bind, Sem.run_pure, Result.andThen_ok, run_underlying Tryd.underlying53]
  simp [hy, hs, hc, Addr.add]
/-- 'data[n:m:m]' -/
theorem run_3 (u : World) (g l cap n m : Nat) (hk : n < m) (hc : m ≤ cap) : (Instr.sliceAt 53 (.slice (some ⟨g, 0, none⟩) l cap) (some (.int .i64 (n : Int))) (some (.int .i64 (m : Int))) (some (.int .i64 (m : Int)))).run Tryd.prog u = .ok (.slice (some ⟨g, n, none⟩) (m - n) (m - n)) u := by
  obtain ⟨y, hy, _, hs, _⟩ := info_parts info5
  have h0 : (0 : Int) ≤ (n : Int) := Int.natCast_nonneg _
  have h1 : (0 : Int) ≤ (m : Int) := Int.natCast_nonneg _
  have h2 : (n : Int) ≤ (m : Int) := by omega
  have h3 : (m : Int) ≤ (cap : Int) := by omega
  have h4 : ¬ m = n := by omega
  have h5 : ¬ m - n = 0 := by omega
  simp only [Instr.sliceAt, Instr.slice, Instr.sliceBounds, Instr.sliceBound, asIntOf, sizeOf, typeInfo, Sem.run_bind, Sem.run_pure, Result.andThen_ok, run_underlying Tryd.underlying53]
  have h6 : n ≤ m := by omega
  simp [hy, hs, h3, h4, h6, Addr.add]
  exact fun h => h.symm
/-- 'append(s[:cap(s)], make([]byte, n)...)' -/
theorem run_grow (w : World) (ty : TypeId) (F : Nat → Prop) (v : Value) (s : List UInt8) (c m : Nat) (a : Option Addr) (hv : v = .slice a s.length c) (h : DB w F v s) (h0 : 0 < m) (hm : c + m ≤ 140737488355328) (hn : New F w) :
    ∃ cap2 w2, (Builtin.append_ #[53, 3] ty #[.slice a c c, .int .i64 (m : Int)]).run Tryd.prog w = .ok (.slice (some ⟨w.heap.size, 0, none⟩) (c + m) cap2) w2 ∧ RowB w2 F w.heap.size cap2 s ∧ c + m ≤ cap2 ∧ Below w.heap.size w w2 := by
  subst hv
  obtain ⟨y, hy, hz, hs, hb⟩ := info_parts info5
  obtain ⟨old, hold, hol, hot⟩ : ∃ old : List Value, (Builtin.firstCells y.size c (.slice a c c)).run Tryd.prog w.drew = .ok old.toArray w.drew ∧ old.length = c ∧ old.take s.length = bCells s := by
    rcases h with ⟨e, rfl⟩ | ⟨g, cap, e, cur, hg, h1, h2, h3, h4, hF⟩
    · cases e
      exact ⟨[], by rw [hs]; rfl, rfl, rfl⟩
    · cases e
      have h1' : cur.toList.length = c := by rw [Array.length_toList]; exact h1
      refine ⟨cur.toList, run_firstCells_some (P := Tryd.prog) w.drew y.size c ⟨g, 0, none⟩ c c cur.toList (by rw [hs, h1', Nat.mul_one]) ?_, h1', h4⟩
      intro j u hu
      rw [Addr.add_lit, Nat.zero_add]
      show w.cell? ⟨g, j, none⟩ = _
      rw [(show Blk w g 5 cur from hg).cell]
      simpa using hu
  have hsl : s.length ≤ c := by
    rcases h with ⟨e, rfl⟩ | ⟨g, cap, e, cur, hg, h1, h2, h3, h4, hF⟩
    · exact Nat.zero_le _
    · cases e
      exact h2
  have hfit : Builtin.nextslicecap (c + m) c * y.bytes ≤ 281474976710656 := growslice_fits (by omega) (by rw [hb]; omega)
  have hr := Lib.run_append_grow_zeros (P := Tryd.prog) w 53 3 ty 5 y _ .i64 .i64 Tryd.underlying53 Tryd.underlying3 hy hz a c c old hold m h0 (by rw [hs]; decide) (by omega) (by omega) (by rw [hb]; omega) hfit
  have hge := grownCap_ge w (c + m) c 5
  have hmax := grownCap_le_maxLen w (c + m) c 5 (by unfold maxLen; omega)
  refine ⟨_, _, hr, ⟨_, heap_alloc_new w.drew _, ?_, by omega, hmax, ?_, hn _ (Nat.le_refl _)⟩, hge, ((Below.refl _ w).drew).alloc (Nat.le_refl _) _⟩
  · rw [Array.size_append, Array.size_append, List.size_toArray, hol, size_zeroCells, size_zeroCells]
    show c + m * 1 + _ * 1 = _
    omega
  · rw [Array.toList_append, Array.toList_append, List.toList_toArray, List.append_assoc, List.take_append_of_le_length (by omega)]
    exact hot
/-- 'copy(dst, t)', dst the row from place n on, as long as t -/
theorem run_copy_b (w : World) (ty : TypeId) (F : Nat → Prop) (g cap c : Nat) (s : List UInt8) (t : ByteArray) (h : RowB w F g cap s) (hc : s.length + t.size ≤ cap) :
    ∃ w', (Builtin.copy_ #[53, 9] ty #[.slice (some ⟨g, s.length, none⟩) t.size c, .string t]).run Tryd.prog w = .ok (goInt (t.size : Int)) w' ∧ RowB w' F g cap (s ++ t.data.toList) ∧ Turn (· = g) w w' := by
  obtain ⟨cur, hg, h1, h2, h3, h4, hF⟩ := h
  obtain ⟨i, hi, _, hs, _⟩ := info_parts info5
  have hlen : (bCells t.data.toList).length = t.size := by unfold bCells; rw [List.length_map, size_list]
  have hst := run_storeCells_at Tryd.prog g s.length 5 (bCells t.data.toList) 0 cur w hg (by rw [hlen]; simp; omega) (by
    intro v hv
    simp only [bCells, List.mem_map] at hv
    obtain ⟨b, _, rfl⟩ := hv
    rfl)
  have htk : List.take t.size (List.map (fun b : UInt8 => Value.int IntKind.u8 (b.toNat : Int)) t.data.toList) = bCells t.data.toList := by
    unfold bCells
    exact List.take_of_length_le (by rw [List.length_map, size_list]; exact Nat.le_refl _)
  rw [hlen] at hst
  simp only [Nat.add_zero] at hst
  refine ⟨w.setRow g (cur.toList.take s.length ++ (bCells t.data.toList ++ cur.toList.drop (s.length + t.size))).toArray, ?_, ⟨_, setRow_heap w g _ _ _ _ hg, ?_, ?_, h3, ?_, hF⟩, ⟨rfl, rfl, rfl, by simp [World.setRow], fun k hk => setRow_other w g k _ hk⟩⟩
  · simp [Builtin.copy_, run_underlying Tryd.underlying53, Builtin.lenOf, Builtin.firstCells, sizeOf, typeInfo, hi]
    rw [htk, hst]
    simp only [Result.andThen_ok, List.append_assoc]
    try rfl
  · have h1' : cur.toList.length = cap := by rw [Array.length_toList]; exact h1
    rw [List.size_toArray, List.length_append, List.length_append, List.length_take, List.length_drop, hlen, h1']
    omega
  · rw [List.length_append, ← size_list]
    exact hc
  · rw [List.toList_toArray, List.length_append, ← size_list, ← List.append_assoc, h4, bCells_append]
    have e : (bCells s ++ bCells t.data.toList).length = s.length + t.size := by
      rw [List.length_append, hlen]
      unfold bCells
      rw [List.length_map]
    rw [← e, List.take_left]
end Go.Proofs.YtkbbeioednhefaaDoor.bk
