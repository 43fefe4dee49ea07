/-
  A header in a block: how it lies, a part of it stored, the whole of it; a header as a result.
  A header that came in.
  petrelref08: an id's bytes, a number's.
  Texts: a byte of one, a piece of one.
-/
import Derived.Test.YtmaolmogccknbaaDoorHdp
import Derived.Test.YtmaolmogccknbaaDoorRds
import Derived.Test.YtmaolmogccknbaaDoorIdcm
import Derived.Test.YtmaolmogccknbaaDoorIdsc
import Derived.Test.YtmaolmogccknbaaDoorStepl
import Derived.BigQuiet
import Derived.Deep.QuietTactic
import Derived.Test.YtmaolmogccknbaaDoorOpenid
import Derived.Deep.RegionWith
import Derived.Deep.CutRange
import Derived.Deep.CutBlock
import Derived.Test.YtmaolmogccknbaaDoorSha
import Derived.Laws.IdiomStrings
namespace Go.Proofs.YtmaolmogccknbaaDoor.hdr
open Go.RowKit Go.Proofs.YtmaolmogccknbaaDoor.mem Go.Proofs.YtmaolmogccknbaaDoor.sha Go.Proofs.YtmaolmogccknbaaDoor.ids
open Go.Proofs.YtmaolmogccknbaaDoor.opn (b1 b2 b4 num txt idl byte rd rdN rdT rdI rdS rdL St Reads Stays endE zid mkId)

/-- a header as a value, its parents as they lie -/
def hdc (h : Hd) (v : Value) : List Value := [v, .int .i64 h.height, .string (oct.tx h.topic), .int .i64 h.author, .int .i64 h.seq, .int .i64 h.size] ++ bv h.commit
def hdv (h : Hd) (v : Value) : Value := .agg (hdc h v).toArray
def nv : Value := .slice none 0 0
theorem nv_one : nv.oneCell' = true := rfl
theorem zcom : zhd.commit.length = 32 := by simp [zhd, zid]
theorem hdc_len (h : Hd) (v : Value) (hr : h.commit.length = 32) : (hdc h v).length = 38 := by
  unfold hdc
  simp [bv_length, hr]
theorem hdc_size (h : Hd) (v : Value) (hr : h.commit.length = 32) : (hdc h v).toArray.size = 38 := by rw [List.size_toArray, hdc_len h v hr]
theorem info_hd : (Tryd.prog.info? 46).map (·.size) = some 38 := by kernel_rfl

structure HdBlk (w : World) (S : Nat) (h : Hd) (v : Value) : Prop where
  parents : w.cell? ⟨S, 0, none⟩ = some v
  height : w.cell? ⟨S, 1, none⟩ = some (.int .i64 h.height)
  topic : w.cell? ⟨S, 2, none⟩ = some (.string (oct.tx h.topic))
  author : w.cell? ⟨S, 3, none⟩ = some (.int .i64 h.author)
  seq : w.cell? ⟨S, 4, none⟩ = some (.int .i64 h.seq)
  size : w.cell? ⟨S, 5, none⟩ = some (.int .i64 h.size)
  commit : ∀ n, (Instr.loadAt 23 (.pointer (some ⟨S, 6, none⟩))).run Tryd.prog (w.drewN n) = .ok (idv h.commit) (w.drewN n)
theorem HdBlk.of {w : World} {S : Nat} {t : TypeId} {h : Hd} {v : Value} (hb : Blk w S t (hdc h v).toArray) (hr : h.commit.length = 32) : HdBlk w S h v := by
  have hc : ∀ j, w.cell? ⟨S, j, none⟩ = (hdc h v)[j]? := fun j => by rw [hb.cell, List.getElem?_toArray]
  refine ⟨hc 0, hc 1, hc 2, hc 3, hc 4, hc 5, fun n => ?_⟩
  refine run_load_mid (w.drewN n) S 6 32 23 5 (bv h.commit) (fun j u hu => ?_) Tryd.underlying23 (by rw [info_id', bv_length, hr])
  show w.cell? ⟨S, 6 + j, none⟩ = some u
  rw [hc]
  unfold hdc
  rw [List.getElem?_append_right (by simp), show 6 + j - ([v, Value.int .i64 h.height, .string (oct.tx h.topic), .int .i64 h.author, .int .i64 h.seq, .int .i64 h.size] : List Value).length = j by simp]
  exact hu
theorem agg_hd (w : World) : (isAgg 46).run Tryd.prog w = .ok true w := by
  unfold isAgg
  rw [Sem.run_bind, run_underlying Tryd.underlying46 w]
  rfl
/-- a header out of a block -/
theorem run_load_hd {w : World} {S : Nat} {t : TypeId} {h : Hd} {v : Value} (hb : Blk w S t (hdc h v).toArray) (hr : h.commit.length = 32) : (Instr.loadAt 46 (.pointer (some ⟨S, 0, none⟩))).run Tryd.prog w = .ok (hdv h v) w := by
  have hl : (loadCells ⟨S, 0, none⟩ (hdc h v).length).run Tryd.prog w = .ok (hdc h v).toArray w :=
    run_loadCells_list (P := Tryd.prog) w ⟨S, 0, none⟩ (hdc h v) (fun j u hu => by
      rw [Addr.add_lit, Nat.zero_add, hb.cell, List.getElem?_toArray]
      exact hu)
  have hi := info_hd
  cases hq : Tryd.prog.info? 46 with
  | none => simp [hq] at hi
  | some i =>
    have hs : i.size = (hdc h v).length := by rw [hdc_len h v hr]; simpa [hq] using hi
    simp [Instr.loadAt, Instr.sureAddr, loadVar, Sem.run_bind, agg_hd, sizeOf, typeInfo, hq, hs, hl, hdv]
theorem hdc_one {h : Hd} {v : Value} (hv : v.oneCell' = true) : ∀ u ∈ hdc h v, u.oneCell' = true := by
  intro u hu
  unfold hdc at hu
  rcases List.mem_append.1 hu with a | a
  · simp only [List.mem_cons, List.not_mem_nil, or_false] at a
    rcases a with rfl | rfl | rfl | rfl | rfl | rfl <;> first | exact hv | rfl
  · exact one_bvl _ u a
/-- the whole of one -/
theorem run_store_hd {w : World} {S : Nat} {t : TypeId} {cur : Array Value} (hb : Blk w S t cur) (hc : cur.size = 38) (h : Hd) (v : Value) (hr : h.commit.length = 32) (hv : v.oneCell' = true) :
    (Instr.storeAt 46 (.pointer (some ⟨S, 0, none⟩)) (hdv h v)).run Tryd.prog w = .ok () (w.setRow S (hdc h v).toArray) := by
  have := run_store_cells hb 46 (hdc h v) (off := 0) (by rw [info_hd, hdc_len h v hr]) (hdc_one hv) (by rw [hdc_len h v hr, hc]; exact Nat.le_refl _)
  rw [splice_all _ _ (by rw [hdc_len h v hr, hc])] at this
  exact this
section
variable {w : World} {S : Nat} {t : TypeId} {h : Hd} {v : Value}
theorem hdm_parents (hb : Blk w S t (hdc h v).toArray) (L : List (List UInt8)) (u : Value) : Blk (w.setCell ⟨S, 0, none⟩ u) S t (hdc { h with parents := L } u).toArray := by
  have := hb.set_ 0 u
  rw [List.setIfInBounds_toArray] at this
  exact this
theorem hdm_height (hb : Blk w S t (hdc h v).toArray) (n : Int) : Blk (w.setCell ⟨S, 1, none⟩ (.int .i64 n)) S t (hdc { h with height := n } v).toArray := by
  have := hb.set_ 1 (.int .i64 n)
  rw [List.setIfInBounds_toArray] at this
  exact this
theorem hdm_topic (hb : Blk w S t (hdc h v).toArray) (l : List UInt8) : Blk (w.setCell ⟨S, 2, none⟩ (.string (oct.tx l))) S t (hdc { h with topic := l } v).toArray := by
  have := hb.set_ 2 (.string (oct.tx l))
  rw [List.setIfInBounds_toArray] at this
  exact this
theorem hdm_author (hb : Blk w S t (hdc h v).toArray) (n : Int) : Blk (w.setCell ⟨S, 3, none⟩ (.int .i64 n)) S t (hdc { h with author := n } v).toArray := by
  have := hb.set_ 3 (.int .i64 n)
  rw [List.setIfInBounds_toArray] at this
  exact this
theorem hdm_seq (hb : Blk w S t (hdc h v).toArray) (n : Int) : Blk (w.setCell ⟨S, 4, none⟩ (.int .i64 n)) S t (hdc { h with seq := n } v).toArray := by
  have := hb.set_ 4 (.int .i64 n)
  rw [List.setIfInBounds_toArray] at this
  exact this
theorem hdm_size (hb : Blk w S t (hdc h v).toArray) (n : Int) : Blk (w.setCell ⟨S, 5, none⟩ (.int .i64 n)) S t (hdc { h with size := n } v).toArray := by
  have := hb.set_ 5 (.int .i64 n)
  rw [List.setIfInBounds_toArray] at this
  exact this
theorem hdm_commit (hb : Blk w S t (hdc h v).toArray) (hr : h.commit.length = 32) (y : List UInt8) (hy : y.length = 32) :
    (Instr.storeAt 23 (.pointer (some ⟨S, 6, none⟩)) (idv y)).run Tryd.prog w = .ok () (w.setRow S (hdc { h with commit := y } v).toArray) := by
  have := run_store_mid (off := 6) hb y hy (by rw [hdc_size h v hr]; decide)
  have e : ids.splice (hdc h v).toArray 6 (bv y) = (hdc { h with commit := y } v).toArray := by
    unfold ids.splice hdc
    rw [List.toList_toArray, List.take_append_of_le_length (by simp), List.take_of_length_le (by simp), List.drop_of_length_le (by simp [bv_length, hy, hr]), List.append_nil]
  rw [e] at this
  exact this
end
/-- a header and a number as results -/
theorem results_hd {fn : Func} {p q : Tmp} (h : fn.results = #[.cell p 46, .tmp q]) (tmps : Array Value) (w : World) (g : Nat) (t : TypeId) (o : Hd) (v : Value)
    (hp : tmps.getD p undef = .pointer (some ⟨g, 0, none⟩)) (hg : Blk w g t (hdc o v).toArray) (hr : o.commit.length = 32) :
    (results fn tmps).run Tryd.prog w = .ok (.tuple #[hdv o v, tmps.getD q undef]) w := by
  have hp' : tmps[p]?.getD undef = .pointer (some ⟨g, 0, none⟩) := by simpa using hp
  have hl := run_loadVar_row w g t 46 (hdc o v).toArray (0, 0) _ hg Tryd.underlying46 rfl (by rw [info_hd, hdc_size o v hr])
  simp [results, h, hp', asAddr, hl, hdv]
/-- an id and a number as results -/
theorem results_id {fn : Func} {p q : Tmp} (h : fn.results = #[.cell p 23, .tmp q]) (tmps : Array Value) (w : World) (g : Nat) (t : TypeId) (y : List UInt8)
    (hp : tmps.getD p undef = .pointer (some ⟨g, 0, none⟩)) (hg : Blk w g t (bv y).toArray) (hy : y.length = 32) :
    (results fn tmps).run Tryd.prog w = .ok (.tuple #[idv y, tmps.getD q undef]) w := by
  have hp' : tmps[p]?.getD undef = .pointer (some ⟨g, 0, none⟩) := by simpa using hp
  have hl := run_loadVar_row w g t 23 (bv y).toArray (0, 0) _ hg Tryd.underlying23 rfl (by rw [info_id']; simp [bv_length, hy])
  simp [results, h, hp', asAddr, hl, idv]
theorem run_build_z (w : World) : (Instr.build 46 #[]).run Tryd.prog w = .ok (hdv zhd nv) w := by kernel_rfl
theorem nv_rd (w : World) : RdV w nv [] := (OwnI.nil w (fun _ => True)).rdv (by decide) |>.1
theorem rdv_one {w : World} {v : Value} {L : List (List UInt8)} (h : RdV w v L) : v.oneCell' = true := by
  obtain ⟨ad, cap, hv⟩ := h.form
  rw [hv]; rfl
/-- a header that was told, held in a block of its own -/
def heldW (w : World) (o : Hd) (v : Value) : World := (w.alloc (.cells (hdc zhd nv).toArray 46)).setRow w.heap.size (hdc o v).toArray
theorem run_hold (w : World) (o : Hd) (v : Value) (hr : o.commit.length = 32) (hv : v.oneCell' = true) :
    (Instr.storeAt 46 (.pointer (some ⟨w.heap.size, 0, none⟩)) (hdv o v)).run Tryd.prog (w.alloc (.cells (hdc zhd nv).toArray 46)) = .ok () (heldW w o v) :=
  run_store_hd (Blk.new w 46 (hdc zhd nv).toArray) (hdc_size _ _ zcom) o v hr hv
theorem held_blk (w : World) (o : Hd) (v : Value) : Blk (heldW w o v) w.heap.size 46 (hdc o v).toArray := setRow_heap _ _ _ _ _ _ (Blk.new w 46 (hdc zhd nv).toArray)
theorem held_below (w : World) (o : Hd) (v : Value) : Below w.heap.size w (heldW w o v) := below_row' ((Below.refl _ _).alloc (Nat.le_refl _) _) (Nat.le_refl _) _
end Go.Proofs.YtmaolmogccknbaaDoor.hdr

namespace Go.Proofs.YtmaolmogccknbaaDoor.kit
open Go.ChangeShapes Go.WideShapes Go.ChangeAt Go.RowKit Go.Proofs.YtmaolmogccknbaaDoor.sha Go.Proofs.YtmaolmogccknbaaDoor.ids Go.Proofs.YtmaolmogccknbaaDoor.hdr

theorem cells_hd : Tryd.prog.cellsOf 46 = 38 := by kernel_rfl
theorem one_int_h : Tryd.prog.cellsOf 3 = 1 := by kernel_rfl
theorem one_str_h : Tryd.prog.cellsOf 9 = 1 := by kernel_rfl
theorem one_ids_h : Tryd.prog.cellsOf 24 = 1 := by kernel_rfl
theorem cut_at_h (l : List Value) (n m : Nat) : l.drop n = (l.drop n).take m ++ l.drop (n + m) := by
  rw [← List.drop_drop, List.take_append_drop]
set_option maxRecDepth 100000 in
theorem hd_of_trod {H : Type} {enc : TypeId × Value → H} {W : World} {fuel : Nat} {cs0 : List Value} {x : DataW H × List MemPlace}
    (hf : DataW.trod enc Tryd.prog W 0 (fun _ => true) true fuel 46 cs0 = some x) (hsz : ∀ n ∈ DataW.weights Tryd.prog 46 x.1, n ≤ reachBytes) :
    ∃ (o : Hd) (v : Value), cs0 = hdc o v ∧ o.commit.length = 32 ∧ RdV W v o.parents ∧ o.topic.length ≤ 140737488351232 := by
  obtain ⟨xs, n, _, hx, hlen, hn, hff⟩ := DataW.trod_struct Tryd.underlying46 hf
  rw [cells_hd] at hlen
  have h0 := hff 0 _ rfl
  have h1 := hff 1 _ rfl
  have h2 := hff 2 _ rfl
  have h3 := hff 3 _ rfl
  have h4 := hff 4 _ rfl
  have h5 := hff 5 _ rfl
  have h6 := hff 6 _ rfl
  have hxs : xs.length = 7 := hn
  have e : ∀ i, i < 7 → ∃ y, xs[i]? = some y := fun i hi => ⟨_, List.getElem?_eq_getElem (by omega)⟩
  obtain ⟨y0, k0⟩ := e 0 (by decide)
  obtain ⟨y1, k1⟩ := e 1 (by decide)
  obtain ⟨y2, k2⟩ := e 2 (by decide)
  obtain ⟨y3, k3⟩ := e 3 (by decide)
  obtain ⟨y4, k4⟩ := e 4 (by decide)
  obtain ⟨y5, k5⟩ := e 5 (by decide)
  obtain ⟨y6, k6⟩ := e 6 (by decide)
  rw [k0] at h0
  rw [k1] at h1
  rw [k2] at h2
  rw [k3] at h3
  rw [k4] at h4
  rw [k5] at h5
  rw [k6] at h6
  replace h0 : DataW.trod enc Tryd.prog W 0 (fun _ => true) true n 24 ((cs0.drop 0).take 1) = some y0 := one_ids_h ▸ h0
  replace h1 : DataW.trod enc Tryd.prog W 0 (fun _ => true) true n 3 ((cs0.drop 1).take 1) = some y1 := one_int_h ▸ h1
  replace h2 : DataW.trod enc Tryd.prog W 0 (fun _ => true) true n 9 ((cs0.drop 2).take 1) = some y2 := one_str_h ▸ h2
  replace h3 : DataW.trod enc Tryd.prog W 0 (fun _ => true) true n 3 ((cs0.drop 3).take 1) = some y3 := one_int_h ▸ h3
  replace h4 : DataW.trod enc Tryd.prog W 0 (fun _ => true) true n 3 ((cs0.drop 4).take 1) = some y4 := one_int_h ▸ h4
  replace h5 : DataW.trod enc Tryd.prog W 0 (fun _ => true) true n 3 ((cs0.drop 5).take 1) = some y5 := one_int_h ▸ h5
  replace h6 : DataW.trod enc Tryd.prog W 0 (fun _ => true) true n 23 ((cs0.drop 6).take 32) = some y6 := cells_id ▸ h6
  have hw : ∀ j t d, (Tryd.prog.types.size = Tryd.prog.types.size) → ([24, 3, 9, 3, 3, 3, 23] : List TypeId)[j]? = some t → (xs.map (·.1))[j]? = some d → ∀ n ∈ DataW.weights Tryd.prog t d, n ≤ reachBytes := fun j t d _ ht hd n hn => hsz n (by
    rw [hx]
    simp only [DataW.weights, Tryd.underlying46]
    exact DataW.weights_mem_each (j := j) (t := t) (d := d) ht hd _ hn)
  obtain ⟨v, L, e0, hR⟩ := ids_of_trod h0 (hw 0 _ _ rfl rfl (by rw [List.getElem?_map, k0]; rfl))
  obtain ⟨n1, e1, _, _⟩ := DataW.trod_int Tryd.underlying3 h1
  obtain ⟨ts, e2, e2', _⟩ := DataW.trod_string Tryd.underlying9 h2
  obtain ⟨n3, e3, _, _⟩ := DataW.trod_int Tryd.underlying3 h3
  obtain ⟨n4, e4, _, _⟩ := DataW.trod_int Tryd.underlying3 h4
  obtain ⟨n5, e5, _, _⟩ := DataW.trod_int Tryd.underlying3 h5
  obtain ⟨y, hy, e6⟩ := id_of_trod h6
  refine ⟨⟨L, n1, ts.data.toList, n3, n4, n5, y⟩, v, ?_, hy, hR, ?_⟩
  · have c : cs0 = cs0.drop 0 := rfl
    rw [c, cut_at_h cs0 0 1, cut_at_h cs0 (0 + 1) 1, cut_at_h cs0 (0 + 1 + 1) 1, cut_at_h cs0 (0 + 1 + 1 + 1) 1, cut_at_h cs0 (0 + 1 + 1 + 1 + 1) 1, cut_at_h cs0 (0 + 1 + 1 + 1 + 1 + 1) 1, cut_at_h cs0 (0 + 1 + 1 + 1 + 1 + 1 + 1) 32, List.drop_of_length_le (i := 0 + 1 + 1 + 1 + 1 + 1 + 1 + 32) (by omega)]
    unfold hdc
    rw [oct.tx_eta]
    show List.take 1 (List.drop 0 cs0) ++ (List.take 1 (List.drop 1 cs0) ++ (List.take 1 (List.drop 2 cs0) ++ (List.take 1 (List.drop 3 cs0) ++ (List.take 1 (List.drop 4 cs0) ++ (List.take 1 (List.drop 5 cs0) ++ (List.take 32 (List.drop 6 cs0) ++ [])))))) = _
    rw [e0, e1, e2, e3, e4, e5, e6, List.append_nil]
    rfl
  · have := hw 2 _ _ rfl rfl (by rw [List.getElem?_map, k2]; rfl) ts.data.toList.length (by rw [e2']; simp [DataW.weights])
    exact this
set_option maxRecDepth 100000 in
theorem open_hd {H : Type} {enc : TypeId × Value → H} {W : World} {base : Nat} {ts : List TypeId} {ds : List (DataW H)} {j : Nat} {v : Value} {d : DataW H} {p : List MemPlace}
    (hv : Value.okWide Tryd.prog W .any base 46 v) (h : DataW.Trod enc Tryd.prog W 0 (fun _ => true) true 46 v d p)
    (hsz : (DataW.weightsEach Tryd.prog ts ds).all (· ≤ reachBytes) = true) (htj : ts[j]? = some 46) (hdj : ds[j]? = some d) :
    ∃ (o : Hd) (u : Value), v = hdv o u ∧ o.commit.length = 32 ∧ RdV W u o.parents ∧ o.topic.length ≤ 140737488351232 := by
  obtain ⟨cs, rfl, _⟩ := okWide_struct Tryd.underlying46 hv
  obtain ⟨fuel, hf⟩ := h
  obtain ⟨o, u, hc, h1, h2, h3⟩ := hd_of_trod hf fun n hn => by
    have h1 := List.all_eq_true.1 hsz _ (DataW.weights_mem_each htj hdj _ hn)
    simpa using h1
  refine ⟨o, u, ?_, h1, h2, h3⟩
  simp only [Value.cells] at hc
  unfold hdv
  rw [← hc]
end Go.Proofs.YtmaolmogccknbaaDoor.kit

namespace Go.Proofs.YtmaolmogccknbaaDoor.hdr
open Go.RowKit Go.Proofs.YtmaolmogccknbaaDoor.mem Go.Proofs.YtmaolmogccknbaaDoor.sha Go.Proofs.YtmaolmogccknbaaDoor.ids

theorem bv_step (x : List UInt8) (k : Nat) (h : k < x.length) : bv (x.take (k + 1)) = bv (x.take k) ++ [.int .u8 (B (x.getD k 0))] := by
  rw [List.take_succ_eq_append_getElem h]
  unfold bv
  rw [List.map_append, List.getD_eq_getElem?_getD, List.getElem?_eq_getElem h]
  rfl

set_option maxHeartbeats 2000000 in
set_option maxRecDepth 100000 in
theorem raw_any (x : List UInt8) (w : World) (hx : x.length = 32) : Calls Tryd.prog 66 #[idv x] w fun e w' => e = .returned (.string (oct.tx x)) ∧ Below w.heap.size w w' := by
  obtain ⟨w1, hw1⟩ : ∃ u, u = w.alloc (.cells (bv x).toArray 23) := ⟨_, rfl⟩
  obtain ⟨S, hS⟩ : ∃ S, S = w.heap.size := ⟨_, rfl⟩
  have hX : Blk w1 S 23 (bv x).toArray := by rw [hw1, hS]; exact Blk.new w _ _
  have hB : Below w.heap.size w w1 := by rw [hw1]; exact (Below.refl _ _).alloc (Nat.le_refl _) _
  have HX1 := Lib.hid hX
  have HB1 := Lib.hid hB
  have HSS := Lib.hid hS
  have HW := Lib.hid hw1
  clear hX hB hw1 hS
  unfold idv
  go_enter Tryd.func66, Tryd.ntmps66
  go_upto_region 3 with fail
  refine wp_at HW.out.symm ?_
  rw [← HSS.out]
  clear HW
  go_loopw [3, 4] (fun vo i wr => ∃ k : Nat, k ≤ 32 ∧ i = .int .i64 k ∧ Owns wr (S < ·) vo k (bv (x.take k)) ∧ Blk wr S 23 (bv x).toArray ∧ Below w.heap.size w wr) (fun _ i _ => 32 - (intOf i).toNat)
  case atStart => exact ⟨0, by decide, rfl, Owns.nil _ _, HX1.out, HB1.out⟩
  case round =>
    clear HX1 HB1
    obtain ⟨k, hk, rfl, hO, hX, hB⟩ := hrel
    obtain ⟨ad, m, cc, rfl⟩ := hO.form
    have HO := Lib.hid hO
    have HXX := Lib.hid hX
    have HB := Lib.hid hB
    have k0 : (0 : Int) ≤ (k : Int) := Int.natCast_nonneg _
    by_cases hlt : k < 32
    · have k1 : (k : Int) < 32 := by omega
      have hc : wr.cell? ⟨S, k, none⟩ = some (.int .u8 (B (x.getD k 0))) := by
        rw [hX.cell, List.getElem?_toArray]
        exact bv_get _ _ (by rw [hx]; exact hlt)
      have HT := Lib.hid (bv_step x k (by rw [hx]; exact hlt))
      obtain ⟨y, hy⟩ : ∃ y, y = x.getD k 0 := ⟨_, rfl⟩
      rw [← hy] at hc HT
      have hn : New (S < ·) wr := fun j hj => Nat.lt_of_lt_of_le hX.lt hj
      have HN := Lib.hid hn
      clear hO hX hB hy hn
      go_wp2_with (at_builtin; go_must (refine wp_append_new rfl (.tmp 9) (.tmp 13) rfl (S < ·) _ _ k _ rfl HO.out [_] 1 rfl rfl (one1 _) (by omega) HN.out ?_); intro v1 w2 ho1 ht1; have HO1 := Lib.hid ho1; have HT1 := Lib.hid ht1; clear ho1 ht1)
      go_roundw
      case rel => exact ⟨k + 1, hlt, by push_cast; rfl, by rw [HT.out]; exact HO1.out, HXX.out.turn HT1.out (Nat.lt_irrefl S), HB.out.trans (HT1.out.below fun j hj => by have := HSS.out; have : S < j := hj; omega)⟩
      case measure => simp [intOf]; omega
    · obtain rfl : k = 32 := by omega
      have ht : x.take 32 = x := List.take_of_length_le (by rw [hx]; exact Nat.le_refl _)
      have hst : (convert 103 9 (.slice ad m cc)).run Tryd.prog wr = .ok (.string (oct.tx x)) wr := by
        rw [ht] at hO
        exact Owns.string (by rw [hx]; exact hO)
      clear hO hX hB hlt ht
      go_wp2_with fail
      go_ret
      exact ⟨rfl, HB.out⟩

theorem num4_h (n : Int) (h0 : 0 ≤ n) (h1 : n < 4294967296) (w : World) : Calls Tryd.prog 65 #[.int .i64 n, .int .i64 4] w fun e w' => e = .returned (.string (oct.tx (opn.b4 n))) ∧ Below w.heap.size w w' := by
  have HN := Lib.hid (opn.num4_r n h0 h1)
  go_enter Tryd.func65, Tryd.ntmps65
  go_wp2_with (go_at_call 40; with_reducible refine (HN.out _).mono ?_; rintro e w1 ⟨rfl, hb1⟩)
  go_ret
  exact ⟨rfl, hb1⟩
theorem num2_h (n : Int) (h0 : 0 ≤ n) (h1 : n < 65536) (w : World) : Calls Tryd.prog 65 #[.int .i64 n, .int .i64 2] w fun e w' => e = .returned (.string (oct.tx (opn.b2 n))) ∧ Below w.heap.size w w' := by
  have HN := Lib.hid (opn.num2_r n h0 h1)
  go_enter Tryd.func65, Tryd.ntmps65
  go_wp2_with (go_at_call 40; with_reducible refine (HN.out _).mono ?_; rintro e w1 ⟨rfl, hb1⟩)
  go_ret
  exact ⟨rfl, hb1⟩
theorem num1_h (n : Int) (h0 : 0 ≤ n) (h1 : n < 256) (w : World) : Calls Tryd.prog 65 #[.int .i64 n, .int .i64 1] w fun e w' => e = .returned (.string (oct.tx (opn.b1 n))) ∧ Below w.heap.size w w' := by
  have HN := Lib.hid (opn.num1_r n h0 h1)
  go_enter Tryd.func65, Tryd.ntmps65
  go_wp2_with (go_at_call 40; with_reducible refine (HN.out _).mono ?_; rintro e w1 ⟨rfl, hb1⟩)
  go_ret
  exact ⟨rfl, hb1⟩
end Go.Proofs.YtmaolmogccknbaaDoor.hdr

namespace Go.Proofs.YtmaolmogccknbaaDoor.strx
open Go.RowKit Go.Proofs.YtmaolmogccknbaaDoor.mem Go.Proofs.YtmaolmogccknbaaDoor.sha

theorem size_list (s : ByteArray) : s.size = s.data.toList.length := Array.length_toList.symm
theorem run_index_str (s : ByteArray) (k : Nat) (h : k < s.size) (w : World) : (Instr.index 9 (.string s) (.int .i64 (k : Int))).run Tryd.prog w = .ok (.int .u8 (B (s.data.toList.getD k 0))) w := by
  have hs : s[k]? = some (s.data.toList.getD k 0) := by
    rw [List.getD_eq_getElem?_getD, List.getElem?_eq_getElem (by rw [← size_list]; exact h)]
    simp [getElem?_pos s k h]
    rfl
  have h0 : (0 : Int) ≤ (k : Int) := Int.natCast_nonneg _
  simp [Instr.index, asIntOf, run_underlying Tryd.underlying9, hs]
  rfl
/-- where the place is another expression -/
theorem run_index_int (s : ByteArray) (i : Int) (k : Nat) (hi : i = (k : Int)) (h : k < s.size) (w : World) : (Instr.index 9 (.string s) (.int .i64 i)).run Tryd.prog w = .ok (.int .u8 (B (s.data.toList.getD k 0))) w := by
  subst hi; exact run_index_str s k h w
/-- a text of bytes -/
def bt (l : List UInt8) : ByteArray := ⟨l.toArray⟩
theorem bt_list (l : List UInt8) : (bt l).data.toList = l := rfl
theorem bt_of (s : ByteArray) : bt s.data.toList = s := rfl
theorem bt_size (l : List UInt8) : (bt l).size = l.length := by rw [size_list]; rfl
theorem bt_append (l m : List UInt8) : bt l ++ bt m = bt (l ++ m) := by
  apply ByteArray.ext
  rw [ByteArray.data_append]
  simp [bt]
theorem ext_list (s : ByteArray) (m : Nat) : (s.extract m s.size).data.toList = s.data.toList.drop m := by
  rw [ByteArray.data_extract, Array.toList_extract, List.extract_eq_take_drop, List.take_of_length_le]
  rw [List.length_drop, ← size_list]
  exact Nat.le_refl _
theorem ext_bt (s : ByteArray) (m : Nat) : s.extract m s.size = bt (s.data.toList.drop m) := by rw [← ext_list, bt_of]
/-- a piece of a text, from its byte m on -/
theorem run_slice_str (s : ByteArray) (m : Nat) (h : m ≤ s.size) (w : World) : (Instr.sliceAt 9 (.string s) (some (.int .i64 (m : Int))) none none).run Tryd.prog w = .ok (.string (bt (s.data.toList.drop m))) w := by
  rw [← ext_bt]
  have h0 : (0 : Int) ≤ (m : Int) := Int.natCast_nonneg _
  have h1 : (m : Int) ≤ (s.size : Int) := by omega
  simp only [Instr.sliceAt, Instr.slice, Instr.sliceBounds, Instr.sliceBound, asIntOf, sizeOf, Sem.run_bind, Result.andThen_ok, run_underlying Tryd.underlying9]
  simp [h]
theorem to_bt (s : ByteArray) (m : Nat) : s.extract 0 m = bt (s.data.toList.take m) := by
  apply ByteArray.ext
  rw [ByteArray.data_extract]
  apply Array.ext'
  rw [Array.toList_extract, List.extract_eq_take_drop, List.drop_zero, Nat.sub_zero]
  rfl
/-- a piece of a text, up to its byte m -/
theorem run_slice_to (s : ByteArray) (m : Nat) (h : m ≤ s.size) (w : World) : (Instr.sliceAt 9 (.string s) none (some (.int .i64 (m : Int))) none).run Tryd.prog w = .ok (.string (bt (s.data.toList.take m))) w := by
  rw [← to_bt]
  have h0 : (0 : Int) ≤ (m : Int) := Int.natCast_nonneg _
  have h1 : (m : Int) ≤ (s.size : Int) := by omega
  simp only [Instr.sliceAt, Instr.slice, Instr.sliceBounds, Instr.sliceBound, asIntOf, sizeOf, Sem.run_bind, Result.andThen_ok, run_underlying Tryd.underlying9]
  simp [h]
end Go.Proofs.YtmaolmogccknbaaDoor.strx
