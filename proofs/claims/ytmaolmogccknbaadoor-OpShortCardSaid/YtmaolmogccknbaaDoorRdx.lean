/-
  A whole id stored into a list of ids.
  Cells stored at once into a row.
  An operation in a block: a part of it stored, the whole of it stored; an operation as a result.
  petrelref01.Reader by plain functions: what is left, and the first error (no ids).
-/
import Derived.Test.YtmaolmogccknbaaDoorIda
import Derived.Test.YtmaolmogccknbaaDoorOpput
import Derived.Test.YtmaolmogccknbaaDoorOpp
import Derived.Test.YtmaolmogccknbaaDoorRef1
import Derived.Test.YtmaolmogccknbaaDoorSha
import Derived.Deep.RegionWith
import Derived.Deep.CutRange
import Derived.Deep.CutBlock
namespace Go.Proofs.YtmaolmogccknbaaDoor.ids
open Go.RowKit Go.Proofs.YtmaolmogccknbaaDoor.mem Go.Proofs.YtmaolmogccknbaaDoor.sha

def splice (cur : Array Value) (off : Nat) (ys : List Value) : Array Value := (cur.toList.take off ++ ys ++ cur.toList.drop (off + ys.length)).toArray
theorem splice_get (cur : Array Value) (off : Nat) (ys : List Value) (h : off + ys.length ≤ cur.size) (k : Nat) : (splice cur off ys)[k]? = if k < off then cur[k]? else if k < off + ys.length then ys[k - off]? else cur[k]? := by
  have hl : cur.toList.length = cur.size := Array.length_toList
  unfold splice
  rw [List.getElem?_toArray, List.append_assoc]
  have h1 : (cur.toList.take off).length = off := by rw [List.length_take]; omega
  by_cases a : k < off
  · rw [if_pos a, List.getElem?_append_left (by omega), List.getElem?_take, if_pos a, Array.getElem?_toList]
  · rw [if_neg a, List.getElem?_append_right (by omega), h1]
    by_cases b : k < off + ys.length
    · rw [if_pos b, List.getElem?_append_left (by omega)]
    · rw [if_neg b, List.getElem?_append_right (by omega), List.getElem?_drop, show off + ys.length + (k - off - ys.length) = k by omega, Array.getElem?_toList]
theorem splice_size (cur : Array Value) (off : Nat) (ys : List Value) (h : off + ys.length ≤ cur.size) : (splice cur off ys).size = cur.size := by
  have hl : cur.toList.length = cur.size := Array.length_toList
  unfold splice
  rw [List.size_toArray, List.length_append, List.length_append, List.length_take, List.length_drop]
  omega
theorem one_bvl (y : List UInt8) : ∀ v ∈ bv y, v.oneCell' = true := by
  intro v hv
  simp only [bv, List.mem_map] at hv
  obtain ⟨x, _, rfl⟩ := hv
  rfl
theorem run_store_mid {w : World} {g off : Nat} {cur : Array Value} {t : TypeId} (hg : w.heap[g]? = some (.cells cur t (0, 0))) (y : List UInt8) (hy : y.length = 32) (hfit : off + 32 ≤ cur.size) :
    (Instr.storeAt 23 (.pointer (some ⟨g, off, none⟩)) (.agg (bv y).toArray)).run Tryd.prog w = .ok () (w.setRow g (splice cur off (bv y))) := by
  have hlen : (bv y).length = 32 := by rw [bv_length, hy]
  have hst := run_storeCells_at Tryd.prog g off t (bv y) 0 cur w hg (by omega) (one_bvl y)
  obtain ⟨i, hi, _, hs, _⟩ := info_parts info_id
  have e : (bv y).toArray.size = 32 := by rw [List.size_toArray, hlen]
  simp only [Instr.storeAt, Instr.sureAddr, storeVar, sizeOf, typeInfo, Value.cells, Sem.run_bind, Sem.run_pure, Result.andThen_ok]
  simp [hi, hs, e, hst, splice]
theorem fl_set_get {L : List (List UInt8)} (hL : okIds L) {i : Nat} (hi : i < L.length) {y : List UInt8} (hy : y.length = 32) (k : Nat) : (fl (L.set i y))[k]? = if k < i * 32 then (fl L)[k]? else if k < i * 32 + 32 then (bv y)[k - i * 32]? else (fl L)[k]? := by
  have e : L.set i y = L.take i ++ y :: L.drop (i + 1) := List.set_eq_take_append_cons_drop.trans (by rw [if_pos hi])
  have hf : fl (L.set i y) = (fl L).take (i * 32) ++ (bv y ++ (fl L).drop ((i + 1) * 32)) := by
    rw [e, fl_append, fl, fl_take i hL, fl_drop (i + 1) hL]
  have hlen := fl_len hL
  have h1 : ((fl L).take (i * 32)).length = i * 32 := by rw [List.length_take, hlen]; omega
  have h2 : (bv y).length = 32 := by rw [bv_length, hy]
  rw [hf]
  by_cases a : k < i * 32
  · rw [if_pos a, List.getElem?_append_left (by omega), List.getElem?_take, if_pos a]
  · rw [if_neg a, List.getElem?_append_right (by omega), h1]
    by_cases b : k < i * 32 + 32
    · rw [if_pos b, List.getElem?_append_left (by omega)]
    · rw [if_neg b, List.getElem?_append_right (by omega), List.getElem?_drop, h2, show (i + 1) * 32 + (k - i * 32 - 32) = k by omega]
theorem okIds.set {L : List (List UInt8)} (h : okIds L) (i : Nat) {y : List UInt8} (hy : y.length = 32) : okIds (L.set i y) := fun z hz => by
  rcases List.mem_or_eq_of_mem_set hz with h1 | h1
  · exact h z h1
  · rw [h1]; exact hy

theorem OwnI.store {w : World} {F : Nat → Prop} {v : Value} {L : List (List UInt8)} (h : OwnI w F v L) {i : Nat} (hi : i < L.length) {y : List UInt8} (hy : y.length = 32) :
    ∃ b c w', v = .slice (some ⟨b, 0, none⟩) L.length c ∧ F b ∧ (Instr.storeAt 23 (.pointer (some ⟨b, i * 32, none⟩)) (.agg (bv y).toArray)).run Tryd.prog w = .ok () w' ∧ OwnI w' F v (L.set i y) ∧ Turn (· = b) w w' := by
  obtain ⟨hok, ⟨hxl, hrow⟩, hF⟩ := h
  rcases hrow with ⟨rfl, hn⟩ | ⟨g, cap, cur, rfl, hb, hg, hle, hcm, hcs, htake⟩
  · omega
  have hlen := fl_len hok
  have hbl : (bv y).length = 32 := by rw [bv_length, hy]
  have hfit : i * 32 + 32 ≤ cur.size := by rw [hcs]; omega
  refine ⟨g, cap, _, rfl, hF g rfl, run_store_mid hg y hy hfit, ⟨hok.set i hy, ⟨by rw [fl_len (hok.set i hy)], .inr ⟨g, cap, _, by rw [List.length_set], Nat.zero_le _, setRow_heap w g cur _ _ _ hg, by rw [List.length_set]; exact hle, hcm, by rw [splice_size _ _ _ (by omega)]; exact hcs, ?_⟩⟩, fun k hk => hF k hk⟩, turn_row w g _⟩
  apply List.ext_getElem?
  intro k
  rw [List.getElem?_take, List.length_set, fl_set_get hok hi hy]
  have hcell : ∀ k, k < L.length * 32 → cur[k]? = (fl L)[k]? := fun k hk => by
    rw [← htake, List.getElem?_take, if_pos hk, Array.getElem?_toList]
  by_cases hk : k < L.length * 32
  · rw [if_pos hk, Array.getElem?_toList, splice_get _ _ _ (by omega), hbl]
    by_cases a : k < i * 32
    · rw [if_pos a, if_pos a]; exact hcell k hk
    · rw [if_neg a, if_neg a]
      by_cases d : k < i * 32 + 32
      · rw [if_pos d, if_pos d]
      · rw [if_neg d, if_neg d]; exact hcell k hk
  · rw [if_neg hk, if_neg (by omega), if_neg (by omega), List.getElem?_eq_none (by omega)]
/-- in a plain region -/
theorem step_store_at {ops : Array Oper} {rest : List Oper} {o : Oper} {a : Act} {w w' : World} {Q : Exit → Act → World → Prop} {x y : Operand} {p v : Value} (hg : o.guard = none) (ho : o.op = .store 23 x y) (hx : a.eval x = p) (hy : a.eval y = v)
    (hr : (Instr.storeAt 23 p v).run Tryd.prog w = .ok () w') (h : wpList Tryd.prog ops Q rest (a.put o.dst undef) w') : wpList Tryd.prog ops Q (o :: rest) a w := by
  refine wpList_plain hg fun K hK => ?_
  unfold Oper.wp execOp
  simp only [ho, hx, hy, Sem.run_bind, hr, Result.andThen_ok, Sem.run_pure]
  exact hK _ _ h
end Go.Proofs.YtmaolmogccknbaaDoor.ids

namespace Go.Proofs.YtmaolmogccknbaaDoor.ids
open Go.RowKit Go.Proofs.YtmaolmogccknbaaDoor.mem Go.Proofs.YtmaolmogccknbaaDoor.sha

theorem run_store_cells {w : World} {g off : Nat} {cur : Array Value} {t : TypeId} (hg : w.heap[g]? = some (.cells cur t (0, 0))) (ty : TypeId) (cs : List Value) (hi : (Tryd.prog.info? ty).map (·.size) = some cs.length) (h1 : ∀ u ∈ cs, u.oneCell' = true) (hfit : off + cs.length ≤ cur.size) :
    (Instr.storeAt ty (.pointer (some ⟨g, off, none⟩)) (.agg cs.toArray)).run Tryd.prog w = .ok () (w.setRow g (ids.splice cur off cs)) := by
  have hst := run_storeCells_at Tryd.prog g off t cs 0 cur w hg (by omega) h1
  cases hq : Tryd.prog.info? ty with
  | none => simp [hq] at hi
  | some i =>
    have hs : i.size = cs.length := by simpa [hq] using hi
    simp only [Instr.storeAt, Instr.sureAddr, storeVar, sizeOf, typeInfo, Value.cells, Sem.run_bind, Sem.run_pure, Result.andThen_ok]
    simp [hq, hs, hst, ids.splice]
theorem splice_all (cur : Array Value) (cs : List Value) (h : cs.length = cur.size) : ids.splice cur 0 cs = cs.toArray := by
  have hl : cur.toList.length = cur.size := Array.length_toList
  unfold ids.splice
  rw [List.take_zero, List.nil_append, Nat.zero_add, List.drop_of_length_le (by omega), List.append_nil]
theorem below_row' {B : Nat} {w0 w : World} {g : Nat} (hb : Below B w0 w) (hg : B ≤ g) (cs : Array Value) : Below B w0 (w.setRow g cs) := hb.trans ((turn_row w g cs).below fun j hj => by rw [hj]; exact hg)
end Go.Proofs.YtmaolmogccknbaaDoor.ids

namespace Go.Proofs.YtmaolmogccknbaaDoor.opn
open Go.RowKit Go.Proofs.YtmaolmogccknbaaDoor.mem Go.Proofs.YtmaolmogccknbaaDoor.sha Go.Proofs.YtmaolmogccknbaaDoor.ids

/-- how an operation's refs are one cell -/
theorem opc_one {o : Opn} {v : Value} (hv : v.oneCell' = true) : ∀ u ∈ opc o v, u.oneCell' = true := by
  intro u hu
  unfold opc at hu
  rcases List.mem_append.1 hu with h | h
  · simp only [List.mem_cons, List.not_mem_nil, or_false] at h
    rcases h with rfl | rfl | rfl | rfl <;> rfl
  · rcases List.mem_append.1 h with h | h
    · exact one_bvl _ u h
    · simp only [List.mem_cons, List.not_mem_nil, or_false] at h
      subst h; exact hv
/-- the whole of one -/
theorem run_store_op {w : World} {S : Nat} {t : TypeId} {cur : Array Value} (h : Blk w S t cur) (hc : cur.size = 37) (o : Opn) (v : Value) (hr : o.ref.length = 32) (hv : v.oneCell' = true) :
    (Instr.storeAt 26 (.pointer (some ⟨S, 0, none⟩)) (opv o v)).run Tryd.prog w = .ok () (w.setRow S (opc o v).toArray) := by
  have := run_store_cells h 26 (opc o v) (off := 0) (by rw [info_op, opc_len o v hr]) (opc_one hv) (by rw [opc_len o v hr, hc]; exact Nat.le_refl _)
  rw [splice_all _ _ (by rw [opc_len o v hr, hc])] at this
  exact this
theorem opc_size (o : Opn) (v : Value) (hr : o.ref.length = 32) : (opc o v).toArray.size = 37 := by rw [List.size_toArray, opc_len o v hr]
section
variable {w : World} {S : Nat} {t : TypeId} {o : Opn} {v : Value}
theorem opm_n (h : Blk w S t (opc o v).toArray) (n : Int) : Blk (w.setCell ⟨S, 1, none⟩ (.int .i64 n)) S t (opc { o with n := n } v).toArray := by
  have := h.set_ 1 (.int .i64 n)
  rw [List.setIfInBounds_toArray] at this
  exact this
theorem opm_key (h : Blk w S t (opc o v).toArray) (l : List UInt8) : Blk (w.setCell ⟨S, 2, none⟩ (.string (oct.tx l))) S t (opc { o with key := l } v).toArray := by
  have := h.set_ 2 (.string (oct.tx l))
  rw [List.setIfInBounds_toArray] at this
  exact this
theorem opm_val (h : Blk w S t (opc o v).toArray) (l : List UInt8) : Blk (w.setCell ⟨S, 3, none⟩ (.string (oct.tx l))) S t (opc { o with val := l } v).toArray := by
  have := h.set_ 3 (.string (oct.tx l))
  rw [List.setIfInBounds_toArray] at this
  exact this
theorem opm_refs (h : Blk w S t (opc o v).toArray) (hr : o.ref.length = 32) (L : List Id) (u : Value) : Blk (w.setCell ⟨S, 36, none⟩ u) S t (opc { o with refs := L } u).toArray := by
  have := h.set_ 36 u
  rw [List.setIfInBounds_toArray] at this
  have e : (opc o v).set 36 u = opc { o with refs := L } u := by
    unfold opc
    rw [List.set_append_right _ _ (by simp), List.set_append_right _ _ (by simp [bv_length, hr])]
    simp [bv_length, hr]
  rw [e] at this
  exact this
theorem opm_ref (h : Blk w S t (opc o v).toArray) (hr : o.ref.length = 32) (y : Id) (hy : y.length = 32) :
    (Instr.storeAt 23 (.pointer (some ⟨S, 4, none⟩)) (idv y)).run Tryd.prog w = .ok () (w.setRow S (opc { o with ref := y } v).toArray) := by
  have := run_store_mid (off := 4) h y hy (by rw [opc_size o v hr]; decide)
  have e : ids.splice (opc o v).toArray 4 (bv y) = (opc { o with ref := y } v).toArray := by
    unfold ids.splice opc
    rw [List.toList_toArray, List.take_append_of_le_length (by simp), List.take_of_length_le (by simp), List.drop_append, List.drop_of_length_le (by simp [bv_length, hy]), List.nil_append]
    have : 4 + (bv y).length - ([Value.int .i64 o.k, .int .i64 o.n, .string (oct.tx o.key), .string (oct.tx o.val)] : List Value).length = (bv o.ref).length := by simp [bv_length, hy, hr]
    rw [this, List.drop_left' rfl, List.append_assoc]
  rw [e] at this
  exact this
end
/-- an operation and a number as results -/
theorem results_op {fn : Func} {p q : Tmp} (h : fn.results = #[.cell p 26, .tmp q]) (tmps : Array Value) (w : World) (g : Nat) (t : TypeId) (o : Opn) (v : Value)
    (hp : tmps.getD p undef = .pointer (some ⟨g, 0, none⟩)) (hg : Blk w g t (opc o v).toArray) (hr : o.ref.length = 32) :
    (results fn tmps).run Tryd.prog w = .ok (.tuple #[opv o v, tmps.getD q undef]) w := by
  have hp' : tmps[p]?.getD undef = .pointer (some ⟨g, 0, none⟩) := by simpa using hp
  have hl := run_loadVar_row w g t 26 (opc o v).toArray (0, 0) _ hg Tryd.underlying26 rfl (by rw [info_op, opc_size o v hr])
  simp [results, h, hp', asAddr, hl, opv]
/-- '.build' of one -/
def nv : Value := .slice none 0 0
def kop (k : Int) : Opn := { zop with k := k }
theorem nv_one : nv.oneCell' = true := rfl
theorem kop_ref (k : Int) : (kop k).ref.length = 32 := zid_len
theorem run_build_k (w : World) (k : Int) : (Instr.build 26 #[(0, .int .i64 k)]).run Tryd.prog w = .ok (opv (kop k) nv) w := by kernel_rfl
theorem run_build_z (w : World) : (Instr.build 26 #[]).run Tryd.prog w = .ok (opv zop nv) w := by kernel_rfl
end Go.Proofs.YtmaolmogccknbaaDoor.opn

namespace Go.Proofs.YtmaolmogccknbaaDoor.opn
open Go.RowKit Go.Proofs.YtmaolmogccknbaaDoor.mem Go.Proofs.YtmaolmogccknbaaDoor.sha

def Sr (x : ByteArray × Int) (st : St) : Prop := st.2 = x.2 ∧ (x.2 = 0 → x.1 = oct.tx st.1)
theorem sr_take {x : ByteArray × Int} {st : St} (h : Sr x st) (n : Nat) : (oct.xTake x n).1 = oct.tx (rd n st).1 ∧ Sr (oct.xTake x n).2 (rd n st).2 := by
  obtain ⟨s, e⟩ := x
  obtain ⟨l, e'⟩ := st
  obtain ⟨h1, h2⟩ := h
  simp only at h1 h2
  subst h1
  unfold oct.xTake rd
  by_cases h0 : e' = 0
  · subst h0
    obtain rfl := h2 rfl
    simp only [ne_eq, not_true, if_false]
    rw [if_neg (by omega), oct.tx_size]
    by_cases hl : l.length < n
    · rw [if_pos (by omega), if_pos hl]
      exact ⟨rfl, rfl, fun h => absurd (show (2 : Int) = 0 from h) (by decide)⟩
    · rw [if_neg (by omega), if_neg hl]
      simp only [Int.toNat_natCast]
      refine ⟨?_, rfl, fun _ => ?_⟩
      · rw [oct.tx_extract, List.drop_zero]
      · rw [oct.tx_extract, List.take_of_length_le (Nat.le_refl _)]
  · simp only [ne_eq, h0, not_false_eq_true, if_true]
    exact ⟨rfl, rfl, fun h => absurd h h0⟩
theorem sr_num {x : ByteArray × Int} {st : St} (h : Sr x st) (b : Nat) (hb : b = 1 ∨ b = 2 ∨ b = 4) : (oct.xNum x b).1 = (rdN b st).1 ∧ Sr (oct.xNum x b).2 (rdN b st).2 := by
  have hs := sr_take h b
  unfold oct.xNum rdN
  by_cases h0 : x.2 = 0
  · rw [if_neg (by simpa using h0), if_neg (by rcases hb with rfl | rfl | rfl <;> decide)]
    refine ⟨?_, hs.2⟩
    rw [hs.1, oct.tx_list]
    rfl
  · rw [if_pos h0, rd]
    rw [if_pos (by rw [h.1]; exact h0)]
    exact ⟨rfl, h.1, fun hh => absurd hh h0⟩
theorem rdN_nonneg (b : Nat) (st : St) : 0 ≤ (rdN b st).1 := num_nonneg _
theorem rd_len (n : Nat) (st : St) : (rd n st).1.length = 0 ∨ (rd n st).1.length = n := by
  unfold rd
  repeat' split
  · exact .inl rfl
  · exact .inl rfl
  · right; rw [List.length_take]; omega
theorem rdN1_lt (st : St) : (rdN 1 st).1 < 256 := by
  show num (rd 1 st).1 < 256
  rcases rd_len 1 st with h | h
  · rw [List.eq_nil_of_length_eq_zero h]; decide
  · match (rd 1 st).1, h with
    | [b], _ =>
      have := b.toNat_lt
      simp only [num, List.foldl_cons, List.foldl_nil]; omega
theorem rdN4_lt (st : St) : (rdN 4 st).1 < 4294967296 := by
  show num (rd 4 st).1 < 4294967296
  rcases rd_len 4 st with h | h
  · rw [List.eq_nil_of_length_eq_zero h]; decide
  · match (rd 4 st).1, h with
    | [a, b, c, d], _ =>
      have := a.toNat_lt
      have := b.toNat_lt
      have := c.toNat_lt
      have := d.toNat_lt
      simp only [num, List.foldl_cons, List.foldl_nil]; omega
theorem rdN2_lt (st : St) : (rdN 2 st).1 < 65536 := by
  show num (rd 2 st).1 < 65536
  rcases rd_len 2 st with h | h
  · rw [List.eq_nil_of_length_eq_zero h]; decide
  · match (rd 2 st).1, h with
    | [a, b], _ =>
      have := a.toNat_lt
      have := b.toNat_lt
      simp only [num, List.foldl_cons, List.foldl_nil]; omega
/-- a Reader in block g, by what is left and the first error -/
def RdrS (w : World) (g : Nat) (st : St) : Prop := ∃ s e, oct.XBlk w g s e ∧ Sr (s, e) st
theorem RdrS.turn {F : Nat → Prop} {w w' : World} {g : Nat} {st : St} (h : RdrS w g st) (ht : Turn F w w') (hg : ¬ F g) : RdrS w' g st := by
  obtain ⟨s, e, hx, hs⟩ := h
  exact ⟨s, e, Blk.turn hx ht hg, hs⟩
theorem RdrS.err {w : World} {g : Nat} {st : St} (h : RdrS w g st) : w.cell? ⟨g, 1, none⟩ = some (.int .i64 st.2) := by
  obtain ⟨s, e, hx, hs⟩ := h
  rw [hs.1]
  exact hx.c1
theorem RdrS.lt {w : World} {g : Nat} {st : St} (h : RdrS w g st) : g < w.heap.size := by
  obtain ⟨s, e, hx, hs⟩ := h
  exact Blk.lt hx
theorem num_s (g : Nat) (st : St) (b : Nat) (hb : b = 1 ∨ b = 2 ∨ b = 4) (w : World) (h : RdrS w g st) :
    Calls Tryd.prog 58 #[.pointer (some ⟨g, 0, none⟩), .int .i64 (b : Int)] w fun e w' => e = .returned (.int .i64 (rdN b st).1) ∧ RdrS w' g (rdN b st).2 ∧ Turn (· = g) w w' := by
  obtain ⟨s, e, hx, hs⟩ := h
  refine (oct.xnum_any (· = g) g s e b w hx rfl).mono ?_
  rintro e2 w2 ⟨rfl, h2, ht⟩
  have := sr_num hs b hb
  exact ⟨by rw [this.1], ⟨_, _, h2, this.2⟩, ht⟩
theorem num1_s (g : Nat) (st : St) (w : World) (h : RdrS w g st) :
    Calls Tryd.prog 58 #[.pointer (some ⟨g, 0, none⟩), .int .i64 1] w fun e w' => e = .returned (.int .i64 (rdN 1 st).1) ∧ RdrS w' g (rdN 1 st).2 ∧ Turn (· = g) w w' := num_s g st 1 (.inl rfl) w h
theorem num2_s (g : Nat) (st : St) (w : World) (h : RdrS w g st) :
    Calls Tryd.prog 58 #[.pointer (some ⟨g, 0, none⟩), .int .i64 2] w fun e w' => e = .returned (.int .i64 (rdN 2 st).1) ∧ RdrS w' g (rdN 2 st).2 ∧ Turn (· = g) w w' := num_s g st 2 (.inr (.inl rfl)) w h
theorem num4_s (g : Nat) (st : St) (w : World) (h : RdrS w g st) :
    Calls Tryd.prog 58 #[.pointer (some ⟨g, 0, none⟩), .int .i64 4] w fun e w' => e = .returned (.int .i64 (rdN 4 st).1) ∧ RdrS w' g (rdN 4 st).2 ∧ Turn (· = g) w w' := num_s g st 4 (.inr (.inr rfl)) w h
theorem raw_s (g : Nat) (st : St) (n : Int) (hn : 0 ≤ n) (w : World) (h : RdrS w g st) :
    Calls Tryd.prog 59 #[.pointer (some ⟨g, 0, none⟩), .int .i64 n] w fun e w' => e = .returned (.string (oct.tx (rd n.toNat st).1)) ∧ RdrS w' g (rd n.toNat st).2 ∧ Turn (· = g) w w' := by
  obtain ⟨s, e, hx, hs⟩ := h
  refine (oct.xraw_any (· = g) g s e n w hx rfl).mono ?_
  rintro e2 w2 ⟨rfl, h2, ht⟩
  have := sr_take hs n.toNat
  rw [Int.toNat_of_nonneg hn] at this
  exact ⟨by rw [this.1], ⟨_, _, h2, this.2⟩, ht⟩
end Go.Proofs.YtmaolmogccknbaaDoor.opn
