/-
  Lists of ids in regions that draw their order: '[]Id{x}', append.
  Cells stored at once into a row.
  A message in a block: three cells.
  A message that came in.
-/
import Derived.Test.YtbfjljbllfjicaaIds
import Derived.Test.YtbfjljbllfjicaaIdst
import Derived.Test.YtbfjljbllfjicaaStepl
import Derived.Test.YtbfjljbllfjicaaMsp
import Derived.Test.YtbfjljbllfjicaaRds
import Derived.Test.YtbfjljbllfjicaaOpd
import Derived.BigQuiet
import Derived.Deep.QuietTactic
import Derived.Test.YtbfjljbllfjicaaOpenid
namespace Go.Proofs.Ytbfjljbllfjicaa.ids
open Go.RowKit Go.Proofs.Ytbfjljbllfjicaa.mem Go.Proofs.Ytbfjljbllfjicaa.sha

theorem want_build1 {ops : Array Oper} {o : Oper} {a : Act} {w : World} {K : Act → World → Prop} {Q : Exit → Act → World → Prop} {E : Prop} {x : Operand} {y : List UInt8} (hg : o.guard = none)
    (ho : o.op = .buildSlice 22 1 #[(0, x)]) (hx : a.eval x = .agg (bv y).toArray) (hy : y.length = 32)
    (hK : K (a.put o.dst (.slice (some ⟨w.heap.size, 0, none⟩) 1 1)) (w.alloc (.cells (bv y).toArray 58))) : if Region.wanted o (yielded ops a.tmps) = true then Oper.wp Try.prog o a w K Q else E := by
  have hw : Region.wanted o (yielded ops a.tmps) = true := by simp [Region.wanted, hg]
  rw [if_pos hw]
  unfold Oper.wp execOp
  have hr := run_build1 w y hy
  simp only [ho, List.map_toArray, List.map_cons, List.map_nil, hx, Sem.run_bind, hr, Result.andThen_ok, Sem.run_pure]
  exact hK
/-- '[]Id{x}' as a list that reads -/
theorem RdV.one (w : World) (x : List UInt8) (hx : x.length = 32) : RdV (w.alloc (.cells (bv x).toArray 58)) (.slice (some ⟨w.heap.size, 0, none⟩) 1 1) [x] := by
  have := RdV.laid w [x] (fun y hy => by rw [List.mem_singleton.1 hy]; exact hx) (by simp)
  rw [fl_one] at this
  exact this
/-- one more -/
theorem run_append_one {w : World} {F : Nat → Prop} {v : Value} {L : List (List UInt8)} {x : List UInt8} (hown : OwnI w F v L) (hx : x.length = 32) (hL : L.length ≤ 1000000) (hn : New F w) (ty : TypeId) :
    ∃ v' w', (Builtin.append_ #[22, 22] ty #[v, .slice (some ⟨w.heap.size, 0, none⟩) 1 1]).run Try.prog (w.alloc (.cells (bv x).toArray 58)) = .ok v' w' ∧ OwnI w' F v' (L ++ [x]) ∧ Turn (fun k => v.ownBlock = some k ∨ w.heap.size ≤ k) w w' := by
  have ha : Turn (w.heap.size ≤ ·) w (w.alloc (.cells (bv x).toArray 58)) := (Turn.refl _ w).alloc (fun _ h => h) _
  have hs : (w.alloc (.cells (bv x).toArray 58)).heap.size = w.heap.size + 1 := by simp
  obtain ⟨v', w', hr, ho, ht⟩ := run_append_rd (hown.below ((Below.refl _ _).alloc (Nat.le_refl _) _)) (RdV.one w x hx) (by rw [List.length_singleton]; omega) (fun k hk => hn k (by rw [hs] at hk; omega)) ty
  exact ⟨v', w', hr, ho, (ha.mono fun k hk => .inr hk).trans (ht.mono fun k hk => hk.imp id fun h => by rw [hs] at h; omega)⟩
end Go.Proofs.Ytbfjljbllfjicaa.ids

namespace Go.Proofs.Ytbfjljbllfjicaa.ids
open Go.RowKit Go.Proofs.Ytbfjljbllfjicaa.mem Go.Proofs.Ytbfjljbllfjicaa.sha

theorem run_store_cells {w : World} {g off : Nat} {cur : Array Value} {t : TypeId} (hg : w.heap[g]? = some (.cells cur t (0, 0))) (ty : TypeId) (cs : List Value) (hi : (Try.prog.info? ty).map (·.size) = some cs.length) (h1 : ∀ u ∈ cs, u.oneCell' = true) (hfit : off + cs.length ≤ cur.size) :
    (Instr.storeAt ty (.pointer (some ⟨g, off, none⟩)) (.agg cs.toArray)).run Try.prog w = .ok () (w.setRow g (ids.splice cur off cs)) := by
  have hst := run_storeCells_at Try.prog g off t cs 0 cur w hg (by omega) h1
  cases hq : Try.prog.info? ty with
  | none => simp [hq] at hi
  | some i =>
    have hs : i.size = cs.length := by simpa [hq] using hi
    simp only [Instr.storeAt, Instr.sureAddr, storeVar, sizeOf, typeInfo, Value.cells, Sem.run_bind, Sem.run_pure, Result.andThen_ok]
    simp [hq, hs, hst, ids.splice]
theorem splice_all (cur : Array Value) (cs : List Value) (h : cs.length = cur.size) : ids.splice cur 0 cs = cs.toArray := by
  have hl : cur.toList.length = cur.size := Array.length_toList
  unfold ids.splice
  rw [List.take_zero, List.nil_append, Nat.zero_add, List.drop_of_length_le (by omega), List.append_nil]
theorem below_row' {B : Nat} {w0 w : World} {g : Nat} (hb : Below B w0 w) (hg : B ≤ g) (cs : Array Value) : Below B w0 (w.setRow g cs) := hb.trans ((turn_row w g cs).below fun j hj => by rw [hj]; exact hg)
end Go.Proofs.Ytbfjljbllfjicaa.ids

namespace Go.Proofs.Ytbfjljbllfjicaa.msg
open Go.RowKit Go.Proofs.Ytbfjljbllfjicaa.mem Go.Proofs.Ytbfjljbllfjicaa.sha Go.Proofs.Ytbfjljbllfjicaa.ids
open Go.Proofs.Ytbfjljbllfjicaa.opn (b1 b2 b4 num txt idl byte rd rdN rdT rdI rdS rdL St Reads Stays endE zid mkId)

def mgc (m : Mg) (v : Value) : List Value := [.int .i64 m.k, v, .string (oct.tx m.body)]
@[reducible] def mgv (m : Mg) (v : Value) : Value := .agg #[.int .i64 m.k, v, .string (oct.tx m.body)]
@[reducible] def nv : Value := .slice none 0 0
theorem info_mg : (Try.prog.info? 24).map (·.size) = some 3 := by kernel_rfl
structure MgBlk (w : World) (S : Nat) (m : Mg) (v : Value) : Prop where
  k : w.cell? ⟨S, 0, none⟩ = some (.int .i64 m.k)
  ids : w.cell? ⟨S, 1, none⟩ = some v
  body : w.cell? ⟨S, 2, none⟩ = some (.string (oct.tx m.body))
theorem MgBlk.of {w : World} {S : Nat} {t : TypeId} {m : Mg} {v : Value} (hb : Blk w S t #[.int .i64 m.k, v, .string (oct.tx m.body)]) : MgBlk w S m v :=
  ⟨hb.cell 0, hb.cell 1, hb.cell 2⟩
theorem nv_rd (w : World) : RdV w nv [] := (OwnI.nil w (fun _ => True)).rdv (by decide) |>.1
theorem rdv_one {w : World} {v : Value} {L : List (List UInt8)} (h : RdV w v L) : v.oneCell' = true := by
  obtain ⟨ad, cap, hv⟩ := h.form
  rw [hv]; rfl
theorem tx_beq (a b : List UInt8) : ((oct.tx a).toList == (oct.tx b).toList) = decide (a = b) := by
  rw [ByteArray.toList_eq, ByteArray.toList_eq, oct.tx_list, oct.tx_list, Bool.eq_iff_iff, beq_iff_eq, decide_eq_true_iff]
theorem tx_isEmpty (l : List UInt8) : (oct.tx l).toList.isEmpty = decide (l = []) := by
  rw [ByteArray.toList_eq, oct.tx_list]
  cases l <;> simp
theorem kind_any (k : Int) (w : World) : Calls Try.prog 25 #[.int .i64 k] w fun e w' => e = .returned (.int .i64 (kindM k)) ∧ w = w' := by
  by_cases h0 : 1 ≤ k ∧ k ≤ 8
  · rcases (show k = 1 ∨ k = 2 ∨ k = 3 ∨ k = 4 ∨ k = 5 ∨ k = 6 ∨ k = 7 ∨ k = 8 by omega) with rfl | rfl | rfl | rfl | rfl | rfl | rfl | rfl
    all_goals
      go_enter Try.func25, Try.ntmps25
      go_wp2
      go_ret
      exact ⟨rfl, rfl⟩
  have b1 : (k == 1) = false := by simp; omega
  have b2 : (k == 2) = false := by simp; omega
  have b3 : (k == 3) = false := by simp; omega
  have b4 : (k == 4) = false := by simp; omega
  have b5 : (k == 5) = false := by simp; omega
  have b6 : (k == 6) = false := by simp; omega
  have b7 : (k == 7) = false := by simp; omega
  have b8 : (k == 8) = false := by simp; omega
  have HE : Hid (kindM k = 0) := Lib.hid (by rcases kindM_cases k with ⟨a, b⟩ | ⟨a, b⟩ | ⟨a, b⟩; omega; omega; exact a)
  clear h0
  go_enter Try.func25, Try.ntmps25
  go_wp2
  go_ret
  exact ⟨by rw [HE.out]; rfl, rfl⟩
end Go.Proofs.Ytbfjljbllfjicaa.msg

namespace Go.Proofs.Ytbfjljbllfjicaa.kit
open Go.ChangeShapes Go.WideShapes Go.ChangeAt Go.RowKit Go.Proofs.Ytbfjljbllfjicaa.sha Go.Proofs.Ytbfjljbllfjicaa.ids Go.Proofs.Ytbfjljbllfjicaa.msg

theorem cells_mg : Try.prog.cellsOf 24 = 3 := by kernel_rfl
theorem one_int_m : Try.prog.cellsOf 3 = 1 := by kernel_rfl
theorem one_str_m : Try.prog.cellsOf 9 = 1 := by kernel_rfl
theorem one_ids_m : Try.prog.cellsOf 22 = 1 := by kernel_rfl
theorem cut_at_m (l : List Value) (n m : Nat) : l.drop n = (l.drop n).take m ++ l.drop (n + m) := by
  rw [← List.drop_drop, List.take_append_drop]
theorem mg_of_trod {H : Type} {enc : TypeId × Value → H} {W : World} {fuel : Nat} {cs0 : List Value} {x : DataW H × List MemPlace}
    (hf : DataW.trod enc Try.prog W 0 (fun _ => true) true fuel 24 cs0 = some x) (hsz : ∀ n ∈ DataW.weights Try.prog 24 x.1, n ≤ reachBytes) :
    ∃ (o : Mg) (v : Value), cs0 = mgc o v ∧ RdV W v o.ids ∧ o.body.length ≤ 140737488351232 := by
  obtain ⟨xs, n, _, hx, hlen, hn, hff⟩ := DataW.trod_struct Try.underlying24 hf
  rw [cells_mg] at hlen
  have h0 := hff 0 _ rfl
  have h1 := hff 1 _ rfl
  have h2 := hff 2 _ rfl
  have hxs : xs.length = 3 := hn
  have e : ∀ i, i < 3 → ∃ y, xs[i]? = some y := fun i hi => ⟨_, List.getElem?_eq_getElem (by omega)⟩
  obtain ⟨y0, k0⟩ := e 0 (by decide)
  obtain ⟨y1, k1⟩ := e 1 (by decide)
  obtain ⟨y2, k2⟩ := e 2 (by decide)
  rw [k0] at h0
  rw [k1] at h1
  rw [k2] at h2
  replace h0 : DataW.trod enc Try.prog W 0 (fun _ => true) true n 3 ((cs0.drop 0).take 1) = some y0 := one_int_m ▸ h0
  replace h1 : DataW.trod enc Try.prog W 0 (fun _ => true) true n 22 ((cs0.drop 1).take 1) = some y1 := one_ids_m ▸ h1
  replace h2 : DataW.trod enc Try.prog W 0 (fun _ => true) true n 9 ((cs0.drop 2).take 1) = some y2 := one_str_m ▸ h2
  have hw : ∀ j t d, (Try.prog.types.size = Try.prog.types.size) → ([3, 22, 9] : List TypeId)[j]? = some t → (xs.map (·.1))[j]? = some d → ∀ n ∈ DataW.weights Try.prog t d, n ≤ reachBytes := fun j t d _ ht hd n hn => hsz n (by
    rw [hx]
    simp only [DataW.weights, Try.underlying24]
    exact DataW.weights_mem_each (j := j) (t := t) (d := d) ht hd _ hn)
  obtain ⟨n1, e0, _, _⟩ := DataW.trod_int Try.underlying3 h0
  obtain ⟨v, L, e1, hR⟩ := ids_of_trod h1 (hw 1 _ _ rfl rfl (by rw [List.getElem?_map, k1]; rfl))
  obtain ⟨ts, e2, e2', _⟩ := DataW.trod_string Try.underlying9 h2
  refine ⟨⟨n1, L, ts.data.toList⟩, v, ?_, hR, ?_⟩
  · have c : cs0 = cs0.drop 0 := rfl
    rw [c, cut_at_m cs0 0 1, cut_at_m cs0 (0 + 1) 1, cut_at_m cs0 (0 + 1 + 1) 1, List.drop_of_length_le (i := 0 + 1 + 1 + 1) (by omega)]
    unfold mgc
    rw [oct.tx_eta]
    show List.take 1 (List.drop 0 cs0) ++ (List.take 1 (List.drop 1 cs0) ++ (List.take 1 (List.drop 2 cs0) ++ [])) = _
    rw [e0, e1, e2, List.append_nil]
    rfl
  · have := hw 2 _ _ rfl rfl (by rw [List.getElem?_map, k2]; rfl) ts.data.toList.length (by rw [e2']; simp [DataW.weights])
    exact this
set_option maxRecDepth 100000 in
theorem open_mg {H : Type} {enc : TypeId × Value → H} {W : World} {base : Nat} {ts : List TypeId} {ds : List (DataW H)} {j : Nat} {v : Value} {d : DataW H} {p : List MemPlace}
    (hv : Value.okWide Try.prog W .any base 24 v) (h : DataW.Trod enc Try.prog W 0 (fun _ => true) true 24 v d p)
    (hsz : (DataW.weightsEach Try.prog ts ds).all (· ≤ reachBytes) = true) (htj : ts[j]? = some 24) (hdj : ds[j]? = some d) :
    ∃ (o : Mg) (u : Value), v = mgv o u ∧ RdV W u o.ids ∧ o.body.length ≤ 140737488351232 := by
  obtain ⟨cs, rfl, _⟩ := okWide_struct Try.underlying24 hv
  obtain ⟨fuel, hf⟩ := h
  obtain ⟨o, u, hc, h2, h3⟩ := mg_of_trod hf fun n hn => by
    have h1 := List.all_eq_true.1 hsz _ (DataW.weights_mem_each htj hdj _ hn)
    simpa using h1
  refine ⟨o, u, ?_, h2, h3⟩
  simp only [Value.cells] at hc
  rw [show cs = cs.toList.toArray by simp, hc]
  rfl
end Go.Proofs.Ytbfjljbllfjicaa.kit
