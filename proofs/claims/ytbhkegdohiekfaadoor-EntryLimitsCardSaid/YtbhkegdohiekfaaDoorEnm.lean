/-
  An entry in memory: 35 cells; loads and stores of a part and of the whole; an entry as a result.
-/
import Derived.Test.YtbhkegdohiekfaaDoorEnp
import Derived.Test.YtbhkegdohiekfaaDoorOpia
import Derived.Test.YtbhkegdohiekfaaDoorIdst
import Derived.Test.YtbhkegdohiekfaaDoorStepl
import Derived.Test.YtbhkegdohiekfaaDoorOpi
import Derived.Laws.StructEq
namespace Go.Proofs.YtbhkegdohiekfaaDoor.ent
open Go.RowKit Go.Proofs.YtbhkegdohiekfaaDoor.mem Go.Proofs.YtbhkegdohiekfaaDoor.sha Go.Proofs.YtbhkegdohiekfaaDoor.ids
open Go.Proofs.YtbhkegdohiekfaaDoor.opn (b1 b2 b4 num txt idl byte rd rdN rdT rdI rdS rdL St Reads Stays endE zid mkId)

def enc (e : En) : List Value := [.int .i64 e.k, .string (oct.tx e.topic), .string (oct.tx e.body)] ++ bv e.commit
def env (e : En) : Value := .agg (enc e).toArray
theorem info_en : (Tryd.prog.info? 25).map (·.size) = some 35 := by kernel_rfl
theorem agg_en (w : World) : (isAgg 25).run Tryd.prog w = .ok true w := by
  unfold isAgg
  rw [Sem.run_bind, run_underlying Tryd.underlying25 w]
  rfl
theorem enc_len (e : En) (hr : e.commit.length = 32) : (enc e).length = 35 := by
  unfold enc
  simp [bv_length, hr]
theorem enc_size (e : En) (hr : e.commit.length = 32) : (enc e).toArray.size = 35 := by rw [List.size_toArray, enc_len e hr]
theorem enc_one (e : En) : ∀ u ∈ enc e, u.oneCell' = true := by
  intro u hu
  unfold enc at hu
  rcases List.mem_append.1 hu with h | h
  · simp only [List.mem_cons, List.not_mem_nil, or_false] at h
    rcases h with rfl | rfl | rfl <;> rfl
  · exact one_bvl _ u h
/-- an entry in a block -/
structure EnBlk (w : World) (S : Nat) (e : En) : Prop where
  k : w.cell? ⟨S, 0, none⟩ = some (.int .i64 e.k)
  topic : w.cell? ⟨S, 1, none⟩ = some (.string (oct.tx e.topic))
  body : w.cell? ⟨S, 2, none⟩ = some (.string (oct.tx e.body))
  commit : ∀ n, (Instr.loadAt 23 (.pointer (some ⟨S, 3, none⟩))).run Tryd.prog (w.drewN n) = .ok (idv e.commit) (w.drewN n)
theorem EnBlk.of {w : World} {S : Nat} {t : TypeId} {e : En} (h : Blk w S t (enc e).toArray) (hr : e.commit.length = 32) : EnBlk w S e := by
  have hc : ∀ j, w.cell? ⟨S, j, none⟩ = (enc e)[j]? := fun j => by rw [h.cell, List.getElem?_toArray]
  refine ⟨hc 0, hc 1, hc 2, fun n => ?_⟩
  refine run_load_mid (w.drewN n) S 3 32 23 5 (bv e.commit) (fun j u hu => ?_) Tryd.underlying23 (by rw [info_id', bv_length, hr])
  have hj : j < (bv e.commit).length := (List.getElem?_eq_some_iff.1 hu).1
  show w.cell? ⟨S, 3 + j, none⟩ = some u
  rw [hc]
  unfold enc
  rw [List.getElem?_append_right (by simp), show 3 + j - ([Value.int .i64 e.k, .string (oct.tx e.topic), .string (oct.tx e.body)] : List Value).length = j by simp]
  exact hu
/-- an entry out of a place of 35 cells -/
theorem run_load_at {w : World} {b off : Nat} {e : En} (hc : ∀ j u, (enc e)[j]? = some u → w.cell? ⟨b, off + j, none⟩ = some u) (hr : e.commit.length = 32) : (Instr.loadAt 25 (.pointer (some ⟨b, off, none⟩))).run Tryd.prog w = .ok (env e) w := by
  have hl : (loadCells ⟨b, off, none⟩ (enc e).length).run Tryd.prog w = .ok (enc e).toArray w :=
    run_loadCells_list (P := Tryd.prog) w ⟨b, off, none⟩ (enc e) (fun j u hu => by
      rw [Addr.add_lit]
      exact hc j u hu)
  have hi := info_en
  cases hq : Tryd.prog.info? 25 with
  | none => simp [hq] at hi
  | some i =>
    have hs : i.size = (enc e).length := by rw [enc_len e hr]; simpa [hq] using hi
    simp [Instr.loadAt, Instr.sureAddr, loadVar, Sem.run_bind, agg_en, sizeOf, typeInfo, hq, hs, hl, env]
theorem run_load_en {w : World} {S : Nat} {t : TypeId} {e : En} (h : Blk w S t (enc e).toArray) (hr : e.commit.length = 32) : (Instr.loadAt 25 (.pointer (some ⟨S, 0, none⟩))).run Tryd.prog w = .ok (env e) w :=
  run_load_at (fun j u hu => by rw [Nat.zero_add, h.cell, List.getElem?_toArray]; exact hu) hr
theorem run_store_en {w : World} {S : Nat} {t : TypeId} {cur : Array Value} (h : Blk w S t cur) (hc : cur.size = 35) (e : En) (hr : e.commit.length = 32) :
    (Instr.storeAt 25 (.pointer (some ⟨S, 0, none⟩)) (env e)).run Tryd.prog w = .ok () (w.setRow S (enc e).toArray) := by
  have := run_store_cells h 25 (enc e) (off := 0) (by rw [info_en, enc_len e hr]) (enc_one e) (by rw [enc_len e hr, hc]; exact Nat.le_refl _)
  rw [splice_all _ _ (by rw [enc_len e hr, hc])] at this
  exact this
section
variable {w : World} {S : Nat} {t : TypeId} {e : En}
theorem enm_topic (h : Blk w S t (enc e).toArray) (l : List UInt8) : Blk (w.setCell ⟨S, 1, none⟩ (.string (oct.tx l))) S t (enc { e with topic := l }).toArray := by
  have := h.set_ 1 (.string (oct.tx l))
  rw [List.setIfInBounds_toArray] at this
  exact this
theorem enm_body (h : Blk w S t (enc e).toArray) (l : List UInt8) : Blk (w.setCell ⟨S, 2, none⟩ (.string (oct.tx l))) S t (enc { e with body := l }).toArray := by
  have := h.set_ 2 (.string (oct.tx l))
  rw [List.setIfInBounds_toArray] at this
  exact this
theorem enm_commit (h : Blk w S t (enc e).toArray) (hr : e.commit.length = 32) (y : List UInt8) (hy : y.length = 32) :
    (Instr.storeAt 23 (.pointer (some ⟨S, 3, none⟩)) (idv y)).run Tryd.prog w = .ok () (w.setRow S (enc { e with commit := y }).toArray) := by
  have := run_store_mid (off := 3) h y hy (by rw [enc_size e hr]; decide)
  have e1 : ids.splice (enc e).toArray 3 (bv y) = (enc { e with commit := y }).toArray := by
    unfold ids.splice enc
    rw [List.toList_toArray, List.take_append_of_le_length (by simp), List.take_of_length_le (by simp), List.drop_append, List.drop_of_length_le (by simp [bv_length, hy]), List.nil_append]
    have : 3 + (bv y).length - ([Value.int .i64 e.k, .string (oct.tx e.topic), .string (oct.tx e.body)] : List Value).length = (bv e.commit).length := by simp [bv_length, hy, hr]
    rw [this, List.drop_length, List.append_nil]
  rw [e1] at this
  exact this
end
/-- an entry and a number as results -/
theorem results_en {fn : Func} {p q : Tmp} (h : fn.results = #[.cell p 25, .tmp q]) (tmps : Array Value) (w : World) (g : Nat) (t : TypeId) (e : En)
    (hp : tmps.getD p undef = .pointer (some ⟨g, 0, none⟩)) (hg : Blk w g t (enc e).toArray) (hr : e.commit.length = 32) :
    (results fn tmps).run Tryd.prog w = .ok (.tuple #[env e, tmps.getD q undef]) w := by
  have hp' : tmps[p]?.getD undef = .pointer (some ⟨g, 0, none⟩) := by simpa using hp
  have hl := run_loadVar_row w g t 25 (enc e).toArray (0, 0) _ hg Tryd.underlying25 rfl (by rw [info_en, enc_size e hr])
  simp [results, h, hp', asAddr, hl, env]
def ken (k : Int) : En := { zen with k := k }
theorem ken_commit (k : Int) : (ken k).commit.length = 32 := zlen
theorem run_build_k (w : World) (k : Int) : (Instr.build 25 #[(0, .int .i64 k)]).run Tryd.prog w = .ok (env (ken k)) w := by kernel_rfl
theorem run_build_z (w : World) : (Instr.build 25 #[]).run Tryd.prog w = .ok (env zen) w := by kernel_rfl
/-- two entries as values -/
theorem part_one (t : TypeId) (ha : ∀ w, (isAgg t).run Tryd.prog w = .ok false w) (w : World) (xs : Array Value) (j : Nat) (v : Value) (h : xs[j]? = some v) : (part t xs j).run Tryd.prog w = .ok v w := by
  simp [part, ha, h]
theorem agg_int (w : World) : (isAgg 3).run Tryd.prog w = .ok false w := by simp [isAgg, run_underlying Tryd.underlying3]
theorem agg_str (w : World) : (isAgg 9).run Tryd.prog w = .ok false w := by simp [isAgg, run_underlying Tryd.underlying9]
theorem part_id (w : World) (xs : Array Value) (j : Nat) : (part 23 xs j).run Tryd.prog w = .ok (.agg (xs.extract j (j + 32))) w := by
  have ha : (isAgg 23).run Tryd.prog w = .ok true w := by
    unfold isAgg
    rw [Sem.run_bind, run_underlying Tryd.underlying23 w]
    rfl
  have hi := info_id'
  cases hq : Tryd.prog.info? 23 with
  | none => simp [hq] at hi
  | some i =>
    have hs : i.size = 32 := by simpa [hq] using hi
    simp [part, ha, sizeOf, typeInfo, hq, hs]
theorem enc_commit (e : En) (hr : e.commit.length = 32) : (enc e).toArray.extract 3 (3 + 32) = (bv e.commit).toArray := by
  unfold enc
  apply Array.ext'
  rw [Array.toList_extract]
  simp only [List.extract_eq_take_drop, List.toList_toArray]
  rw [List.drop_left' (by rfl), List.take_of_length_le (by rw [bv_length, hr]; decide)]
theorem equalIn_ids' (w : World) (xs ys : List UInt8) (hx : xs.length = 32) (hy : ys.length = 32) : (Op.equalIn 9999 23 (.agg (bv xs).toArray) (.agg (bv ys).toArray)).run Tryd.prog w = .ok (xs == ys) w := by
  obtain ⟨y, hy5, _, hs, _⟩ := info_parts info5
  exact run_equalIn_bytes w 9997 23 5 32 Tryd.underlying23 Tryd.underlying5 (fun w => by simp [sizeOf, typeInfo, hy5, hs]) xs ys hx hy
theorem eqFields_step (d : Nat) (xs ys : Array Value) (f : Field) (fs : List Field) (w : World) (a b : Value) (r : Bool) (hn : f.name ≠ "_") (ha : (part f.type xs f.offset).run Tryd.prog w = .ok a w) (hb : (part f.type ys f.offset).run Tryd.prog w = .ok b w) (hr : (Op.equalIn d f.type a b).run Tryd.prog w = .ok r w) :
    (Op.eqFields d xs ys (f :: fs)).run Tryd.prog w = if r = true then (Op.eqFields d xs ys fs).run Tryd.prog w else .ok false w := by
  conv => lhs; rw [Op.eqFields]
  rw [if_pos hn]
  simp only [Sem.run_bind, ha, hb, hr, Result.andThen_ok]
  cases r <;> simp
theorem tx_eqb (a b : List UInt8) : ((oct.tx a).toList == (oct.tx b).toList) = (a == b) := by
  rw [ByteArray.toList_eq, ByteArray.toList_eq, oct.tx_list, oct.tx_list]
theorem eq_en (x y : En) : (x == y) = ((x.k == y.k) && ((x.topic == y.topic) && ((x.body == y.body) && (x.commit == y.commit)))) := by
  obtain ⟨a, b, c, d⟩ := x
  obtain ⟨a', b', c', d'⟩ := y
  rw [Bool.eq_iff_iff]
  simp
theorem equalIn_ens (w : World) (x y : En) (hx : x.commit.length = 32) (hy : y.commit.length = 32) : (Op.equalIn 10000 25 (env x) (env y)).run Tryd.prog w = .ok (x == y) w := by
  unfold env
  rw [run_equalIn_struct w 9999 25 _ _ (by kernel_rfl) (by kernel_rfl)]
  have hf : ((Tryd.prog.fieldsOf 25).toList.map fun f => (decide (f.name ≠ "_"), f.type, f.offset)) = [(true, 3, 0), (true, 9, 1), (true, 9, 2), (true, 23, 3)] := by kernel_rfl
  generalize (Tryd.prog.fieldsOf 25).toList = fs at hf ⊢
  obtain ⟨f0, fs, rfl⟩ : ∃ f g, fs = f :: g := by cases fs with | nil => cases hf | cons f g => exact ⟨f, g, rfl⟩
  obtain ⟨f1, fs, rfl⟩ : ∃ f g, fs = f :: g := by cases fs with | nil => simp at hf | cons f g => exact ⟨f, g, rfl⟩
  obtain ⟨f2, fs, rfl⟩ : ∃ f g, fs = f :: g := by cases fs with | nil => simp at hf | cons f g => exact ⟨f, g, rfl⟩
  obtain ⟨f3, fs, rfl⟩ : ∃ f g, fs = f :: g := by cases fs with | nil => simp at hf | cons f g => exact ⟨f, g, rfl⟩
  simp only [List.map_cons, List.cons.injEq, Prod.mk.injEq, decide_eq_true_eq, List.map_eq_nil_iff] at hf
  obtain ⟨⟨n0, t0, o0⟩, ⟨n1, t1, o1⟩, ⟨n2, t2, o2⟩, ⟨n3, t3, o3⟩, rfl⟩ := hf
  rw [eqFields_step 9999 _ _ f0 _ w (.int .i64 x.k) (.int .i64 y.k) (x.k == y.k) n0 (by rw [t0, o0]; exact part_one _ agg_int w _ 0 _ rfl) (by rw [t0, o0]; exact part_one _ agg_int w _ 0 _ rfl) (by rw [t0]; exact run_equalIn_int w 9998 3 _ _ _ _ Tryd.underlying3)]
  rw [eqFields_step 9999 _ _ f1 _ w (.string (oct.tx x.topic)) (.string (oct.tx y.topic)) (x.topic == y.topic) n1 (by rw [t1, o1]; exact part_one _ agg_str w _ 1 _ rfl) (by rw [t1, o1]; exact part_one _ agg_str w _ 1 _ rfl) (by rw [t1, ← tx_eqb]; exact run_equalIn_string w 9998 9 _ _ Tryd.underlying9)]
  rw [eqFields_step 9999 _ _ f2 _ w (.string (oct.tx x.body)) (.string (oct.tx y.body)) (x.body == y.body) n2 (by rw [t2, o2]; exact part_one _ agg_str w _ 2 _ rfl) (by rw [t2, o2]; exact part_one _ agg_str w _ 2 _ rfl) (by rw [t2, ← tx_eqb]; exact run_equalIn_string w 9998 9 _ _ Tryd.underlying9)]
  rw [eqFields_step 9999 _ _ f3 _ w (.agg (bv x.commit).toArray) (.agg (bv y.commit).toArray) (x.commit == y.commit) n3 (by rw [t3, o3, part_id, enc_commit x hx]) (by rw [t3, o3, part_id, enc_commit y hy]) (by rw [t3]; exact equalIn_ids' w _ _ hx hy)]
  rw [eq_en]
  cases x.k == y.k <;> cases x.topic == y.topic <;> cases x.body == y.body <;> cases x.commit == y.commit <;> simp [Op.eqFields]
theorem neq_ens (w : World) (x y : En) (hx : x.commit.length = 32) (hy : y.commit.length = 32) : (binOp .neq 25 (env x) (env y)).run Tryd.prog w = .ok (.bool (x != y)) w := by
  have h := equalIn_ens w x y hx hy
  unfold env at h ⊢
  rw [run_neq_struct, h]
  rfl
theorem eql_ens (w : World) (x y : En) (hx : x.commit.length = 32) (hy : y.commit.length = 32) : (binOp .eql 25 (env x) (env y)).run Tryd.prog w = .ok (.bool (x == y)) w := by
  have h := equalIn_ens w x y hx hy
  unfold env at h ⊢
  rw [run_eql_struct, h]
  rfl
end Go.Proofs.YtbhkegdohiekfaaDoor.ent
