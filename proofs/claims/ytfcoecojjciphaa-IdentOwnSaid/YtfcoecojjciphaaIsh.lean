/-
  Rows of ids written in place: pieces, copy, append, clear (what slices.Insert, Delete, DeleteFunc do).
-/
import Derived.Test.YtfcoecojjciphaaIsf
import Derived.Laws.CopyRow
import Derived.Lib.Overlaps
import Derived.Lib.AppendZerosOnto
import Derived.Shelf.Spec.SlicesInsert
namespace Go.Proofs.Ytfcoecojjciphaa.ids
open Go.RowKit Go.Proofs.Ytfcoecojjciphaa.mem Go.Proofs.Ytfcoecojjciphaa.sha Go.Proofs.Ytfcoecojjciphaa.srt

/-! Lists of cells. -/
def spl (c : List Value) (o : Nat) (cs : List Value) : List Value := c.take o ++ cs ++ c.drop (o + cs.length)
theorem spl_len (c : List Value) (o : Nat) (cs : List Value) (h : o + cs.length ≤ c.length) : (spl c o cs).length = c.length := by
  unfold spl
  rw [List.length_append, List.length_append, List.length_take, List.length_drop]
  omega
theorem take_fl {L : List (List UInt8)} (hL : okIds L) {c : List Value} (hc : c.take (L.length * 32) = fl L) {k : Nat} (hk : k ≤ L.length) : c.take (k * 32) = fl (L.take k) := by
  rw [← fl_take k hL, ← hc, List.take_take, Nat.min_eq_left (by omega)]
theorem fl_ins {L : List (List UInt8)} (k : Nat) (x : List UInt8) : fl (L.take k ++ x :: L.drop k) = fl (L.take k) ++ (bv x ++ fl (L.drop k)) := by rw [fl_append, fl]
/-- in place, behind a shift -/
theorem ins_room {L : List (List UInt8)} (hL : okIds L) {c : List Value} (hc : c.take (L.length * 32) = fl L) {k : Nat} (hk : k < L.length) {x : List UInt8} (hx : x.length = 32) (hl : (L.length + 1) * 32 ≤ c.length) :
    (spl (spl c ((k + 1) * 32) (fl (L.drop k))) (k * 32) (bv x)).take ((L.length + 1) * 32) = fl (L.take k ++ x :: L.drop k) := by
  have hD : (fl (L.drop k)).length = (L.length - k) * 32 := by rw [fl_len (hL.drop k), List.length_drop]
  have hT : (fl (L.take k)).length = k * 32 := by rw [fl_len (hL.take k), List.length_take, Nat.min_eq_left (by omega)]
  have hX : (bv x).length = 32 := by rw [bv_length, hx]
  have hk1 : (c.take ((k + 1) * 32)).length = (k + 1) * 32 := by rw [List.length_take]; omega
  have e1 : (spl c ((k + 1) * 32) (fl (L.drop k))).take (k * 32) = fl (L.take k) := by
    unfold spl
    rw [List.append_assoc, List.take_append_of_le_length (by omega), List.take_take, Nat.min_eq_left (by omega), take_fl hL hc (by omega)]
  have e2 : (spl c ((k + 1) * 32) (fl (L.drop k))).drop (k * 32 + 32) = fl (L.drop k) ++ c.drop ((k + 1) * 32 + (fl (L.drop k)).length) := by
    unfold spl
    rw [List.append_assoc, List.drop_append_of_le_length (by omega), List.drop_of_length_le (by omega), List.nil_append]
  rw [fl_ins]
  rw [spl, e1, hX, e2, List.append_assoc, ← List.append_assoc (bv x), ← List.append_assoc (fl (L.take k)), List.take_append_of_le_length (by rw [List.length_append, List.length_append]; omega), List.take_of_length_le (by rw [List.length_append, List.length_append]; omega)]
/-- into a new row -/
theorem ins_grow {L : List (List UInt8)} (hL : okIds L) {c : List Value} {k : Nat} (hk : k < L.length) (hc : c.take (k * 32) = fl (L.take k)) {x : List UInt8} (hx : x.length = 32) (hl : (L.length + 1) * 32 ≤ c.length) :
    (spl (spl c (k * 32) (bv x)) ((k + 1) * 32) (fl (L.drop k))).take ((L.length + 1) * 32) = fl (L.take k ++ x :: L.drop k) := by
  have hD : (fl (L.drop k)).length = (L.length - k) * 32 := by rw [fl_len (hL.drop k), List.length_drop]
  have hT : (fl (L.take k)).length = k * 32 := by rw [fl_len (hL.take k), List.length_take, Nat.min_eq_left (by omega)]
  have hX : (bv x).length = 32 := by rw [bv_length, hx]
  have e1 : (spl c (k * 32) (bv x)).take ((k + 1) * 32) = fl (L.take k) ++ bv x := by
    unfold spl
    rw [hc, List.take_append_of_le_length (by rw [List.length_append]; omega), List.take_of_length_le (by rw [List.length_append]; omega)]
  rw [fl_ins]
  rw [spl, e1, List.append_assoc, ← List.append_assoc (fl (L.take k) ++ bv x), List.append_assoc (fl (L.take k)), List.take_append_of_le_length (by rw [List.length_append, List.length_append]; omega), List.take_of_length_le (by rw [List.length_append, List.length_append]; omega)]
/-- one taken out -/
theorem del_row {L : List (List UInt8)} (hL : okIds L) {c : List Value} (hc : c.take (L.length * 32) = fl L) {k : Nat} (hk : k < L.length) (zs : List Value) (hl : L.length * 32 ≤ c.length) :
    (spl (spl c (k * 32) (fl (L.drop (k + 1)))) ((L.length - 1) * 32) zs).take ((L.length - 1) * 32) = fl (L.take k ++ L.drop (k + 1)) := by
  have hD : (fl (L.drop (k + 1))).length = (L.length - (k + 1)) * 32 := by rw [fl_len (hL.drop _), List.length_drop]
  have hT : (fl (L.take k)).length = k * 32 := by rw [fl_len (hL.take k), List.length_take, Nat.min_eq_left (by omega)]
  have e1 : (spl c (k * 32) (fl (L.drop (k + 1)))).take ((L.length - 1) * 32) = fl (L.take k) ++ fl (L.drop (k + 1)) := by
    unfold spl
    rw [take_fl hL hc (by omega), List.take_append_of_le_length (by rw [List.length_append]; omega), List.take_of_length_le (by rw [List.length_append]; omega)]
  have hlen : (fl (L.take k) ++ fl (L.drop (k + 1))).length = (L.length - 1) * 32 := by rw [List.length_append]; omega
  rw [spl, e1, fl_append, List.append_assoc, List.take_append_of_le_length (by omega), List.take_of_length_le (by omega)]

/-! Runs. -/
theorem run_copy_ids (w : World) (ty : TypeId) (g o dLen dCap sLen sCap : Nat) (a : Addr) (cur : Array Value) (cs : List Value) (hg : w.heap[g]? = some (.cells cur 23 (0, 0))) (hn : cs.length = Nat.min sLen dLen * 32)
    (hsrc : ∀ j v, cs[j]? = some v → w.cell? (a.add j) = some v) (hfit : o + cs.length ≤ cur.size) (h1 : ∀ v ∈ cs, v.oneCell' = true) :
    (Builtin.copy_ #[33, 33] ty #[.slice (some ⟨g, o, none⟩) dLen dCap, .slice (some a) sLen sCap]).run Try.prog w = .ok (goInt (Nat.min sLen dLen)) (w.setRow g (spl cur.toList o cs).toArray) := by
  obtain ⟨y, hy, _, hs, _⟩ := info_parts info_id
  have hl := run_loadCells_list (P := Try.prog) w a cs hsrc
  have hst := run_storeCells_at Try.prog g o 23 cs 0 cur w hg (by simpa using hfit) h1
  rw [hn] at hl
  unfold spl
  simp [Builtin.copy_, run_underlying Try.underlying33, Builtin.lenOf, Builtin.firstCells, sizeOf, typeInfo, hy, hs, hl, hst]
theorem run_cap (u : World) (g n cap k : Nat) (hk : k ≤ cap) : (Instr.sliceAt 33 (.slice (some ⟨g, 0, none⟩) n cap) none (some (.int .i64 (k : Int))) none).run Try.prog u = .ok (.slice (some ⟨g, 0, none⟩) k cap) u := by
  obtain ⟨y, hy, _, hs, _⟩ := info_parts info_id
  have h0 : (0 : Int) ≤ (k : Int) := Int.natCast_nonneg _
  have hc : (k : Int) ≤ (cap : Int) := by omega
  simp only [Instr.sliceAt, Instr.slice, Instr.sliceBounds, Instr.sliceBound, asIntOf, sizeOf, typeInfo, Sem.run_bind, Sem.run_pure, Result.andThen_ok, run_underlying Try.underlying33]
  simp [hy, hs, hc, Addr.add]
theorem run_from (u : World) (g n cap k : Nat) (hk : k ≤ n) (hn : k < cap) (hnc : n ≤ cap) : (Instr.sliceAt 33 (.slice (some ⟨g, 0, none⟩) n cap) (some (.int .i64 (k : Int))) none none).run Try.prog u = .ok (.slice (some ⟨g, k * 32, none⟩) (n - k) (cap - k)) u := by
  obtain ⟨y, hy, _, hs, _⟩ := info_parts info_id
  have h0 : (0 : Int) ≤ (k : Int) := Int.natCast_nonneg _
  have hc : (k : Int) ≤ (n : Int) := by omega
  have hck : ¬ cap = k := by omega
  simp only [Instr.sliceAt, Instr.slice, Instr.sliceBounds, Instr.sliceBound, asIntOf, sizeOf, typeInfo, Sem.run_bind, Sem.run_pure, Result.andThen_ok, run_underlying Try.underlying33]
  simp [hy, hs, hc, Addr.add, hck]
  try omega
theorem idZero : ∀ w, (zeroValue 23).run Try.prog w = .ok (.agg (Array.replicate 32 (.int .u8 0))) w := fun w => by
  obtain ⟨y, hy, hz, _, _⟩ := info_parts info_id
  simp [zeroValue, typeInfo, hy, hz]
theorem zero_one : ∀ v ∈ (Builtin.zeroCells (Value.cells (.agg (Array.replicate 32 (.int .u8 0)))) 1).toList, v.oneCell' = true := by decide +kernel
theorem zero_len : (Builtin.zeroCells (Value.cells (.agg (Array.replicate 32 (.int .u8 0)))) 1).toList.length = 32 := by decide +kernel
/-- 'clear' of one id -/
theorem run_clear_one (w : World) (ty : TypeId) (g o c : Nat) (cur : Array Value) (hg : w.heap[g]? = some (.cells cur 23 (0, 0))) (hfit : o + 32 ≤ cur.size) :
    (Builtin.clear_ #[33] ty #[.slice (some ⟨g, o, none⟩) 1 c]).run Try.prog w = .ok (.tuple #[]) (w.setRow g (spl cur.toList o (Builtin.zeroCells (Value.cells (.agg (Array.replicate 32 (.int .u8 0)))) 1).toList).toArray) := by
  have hst := run_storeCells_at Try.prog g o 23 (Builtin.zeroCells (Value.cells (.agg (Array.replicate 32 (.int .u8 0)))) 1).toList 0 cur w hg (by rw [zero_len]; simpa using hfit) zero_one
  rw [Nat.add_zero] at hst
  unfold spl
  simp only [Builtin.clear_, run_underlying Try.underlying33, Sem.run_bind, Result.andThen_ok, List.getElem?_toArray, List.getElem?_cons_zero, idZero, hst, Sem.run_pure]

/-- a list of the call's own, by its row -/
theorem OwnI.of_row {w : World} {F : Nat → Prop} {g cap : Nat} {L : List (List UInt8)} {cs : List Value} (hok : okIds L) (hg : w.heap[g]? = some (.cells cs.toArray 23 (0, 0))) (hcs : cs.length = cap * 32) (hle : L.length ≤ cap) (hcm : cap ≤ maxLen) (ht : cs.take (L.length * 32) = fl L) (hF : F g) :
    OwnI w F (.slice (some ⟨g, 0, none⟩) L.length cap) L :=
  ⟨hok, ⟨fl_len hok, .inr ⟨g, cap, cs.toArray, rfl, Nat.zero_le _, hg, hle, hcm, by rw [List.size_toArray]; exact hcs, by rw [List.toList_toArray]; exact ht⟩⟩, fun k hk => by injection hk with hk; subst hk; exact hF⟩
theorem OwnI.row {w : World} {F : Nat → Prop} {g n cap : Nat} {L : List (List UInt8)} (h : OwnI w F (.slice (some ⟨g, 0, none⟩) n cap) L) :
    ∃ cur : Array Value, n = L.length ∧ w.heap[g]? = some (.cells cur 23 (0, 0)) ∧ L.length ≤ cap ∧ cap ≤ maxLen ∧ cur.size = cap * 32 ∧ cur.toList.take (L.length * 32) = fl L := by
  rcases h.2.1.2 with ⟨e, _⟩ | ⟨g', cap', cur, e, hb, hh, hle, hcm, hcs, htk⟩
  · cases e
  · cases e
    exact ⟨cur, rfl, hh, hle, hcm, hcs, htk⟩
theorem row_cell {w : World} {g : Nat} {cur : Array Value} {cs : List Value} {o : Nat} (hg : w.heap[g]? = some (.cells cur 23 (0, 0))) (h : ∀ j v, cs[j]? = some v → cur[o + j]? = some v) : ∀ j v, cs[j]? = some v → w.cell? ((⟨g, o, none⟩ : Addr).add j) = some v := fun j v hv => by
  rw [Addr.add_lit, (show Blk w g 23 cur from hg).cell]
  exact h j v hv
theorem drop_cells {L : List (List UInt8)} (hL : okIds L) {cur : Array Value} (hc : cur.toList.take (L.length * 32) = fl L) (k : Nat) : ∀ j v, (fl (L.drop k))[j]? = some v → cur[k * 32 + j]? = some v := fun j v hv => by
  rw [← fl_drop k hL, List.getElem?_drop, ← hc, List.getElem?_take] at hv
  split at hv
  · rw [← Array.getElem?_toList]; exact hv
  · cases hv
end Go.Proofs.Ytfcoecojjciphaa.ids
