/-
  A header in a block: how it lies, a part of it stored, the whole of it; a header as a result.
-/
import Derived.Test.YtmaolmogccknbaaDoorHdp
import Derived.Test.YtmaolmogccknbaaDoorRds
import Derived.Test.YtmaolmogccknbaaDoorIdcm
import Derived.Test.YtmaolmogccknbaaDoorIdsc
import Derived.Test.YtmaolmogccknbaaDoorStepl
import Derived.BigQuiet
import Derived.Deep.QuietTactic
namespace Go.Proofs.YtmaolmogccknbaaDoor.hdr
open Go.RowKit Go.Proofs.YtmaolmogccknbaaDoor.mem Go.Proofs.YtmaolmogccknbaaDoor.sha Go.Proofs.YtmaolmogccknbaaDoor.ids
open Go.Proofs.YtmaolmogccknbaaDoor.opn (b1 b2 b4 num txt idl byte rd rdN rdT rdI rdS rdL St Reads Stays endE zid mkId)

/-- a header as a value, its parents as they lie -/
def hdc (h : Hd) (v : Value) : List Value := [v, .int .i64 h.height, .string (oct.tx h.topic), .int .i64 h.author, .int .i64 h.seq, .int .i64 h.size] ++ bv h.commit
def hdv (h : Hd) (v : Value) : Value := .agg (hdc h v).toArray
def nv : Value := .slice none 0 0
theorem nv_one : nv.oneCell' = true := rfl
theorem zcom : zhd.commit.length = 32 := by simp [zhd, zid]
theorem hdc_len (h : Hd) (v : Value) (hr : h.commit.length = 32) : (hdc h v).length = 38 := by
  unfold hdc
  simp [bv_length, hr]
theorem hdc_size (h : Hd) (v : Value) (hr : h.commit.length = 32) : (hdc h v).toArray.size = 38 := by rw [List.size_toArray, hdc_len h v hr]
theorem info_hd : (Tryd.prog.info? 46).map (·.size) = some 38 := by kernel_rfl

structure HdBlk (w : World) (S : Nat) (h : Hd) (v : Value) : Prop where
  parents : w.cell? ⟨S, 0, none⟩ = some v
  height : w.cell? ⟨S, 1, none⟩ = some (.int .i64 h.height)
  topic : w.cell? ⟨S, 2, none⟩ = some (.string (oct.tx h.topic))
  author : w.cell? ⟨S, 3, none⟩ = some (.int .i64 h.author)
  seq : w.cell? ⟨S, 4, none⟩ = some (.int .i64 h.seq)
  size : w.cell? ⟨S, 5, none⟩ = some (.int .i64 h.size)
  commit : ∀ n, (Instr.loadAt 23 (.pointer (some ⟨S, 6, none⟩))).run Tryd.prog (w.drewN n) = .ok (idv h.commit) (w.drewN n)
theorem HdBlk.of {w : World} {S : Nat} {t : TypeId} {h : Hd} {v : Value} (hb : Blk w S t (hdc h v).toArray) (hr : h.commit.length = 32) : HdBlk w S h v := by
  have hc : ∀ j, w.cell? ⟨S, j, none⟩ = (hdc h v)[j]? := fun j => by rw [hb.cell, List.getElem?_toArray]
  refine ⟨hc 0, hc 1, hc 2, hc 3, hc 4, hc 5, fun n => ?_⟩
  refine run_load_mid (w.drewN n) S 6 32 23 5 (bv h.commit) (fun j u hu => ?_) Tryd.underlying23 (by rw [info_id', bv_length, hr])
  show w.cell? ⟨S, 6 + j, none⟩ = some u
  rw [hc]
  unfold hdc
  rw [List.getElem?_append_right (by simp), show 6 + j - ([v, Value.int .i64 h.height, .string (oct.tx h.topic), .int .i64 h.author, .int .i64 h.seq, .int .i64 h.size] : List Value).length = j by simp]
  exact hu
theorem agg_hd (w : World) : (isAgg 46).run Tryd.prog w = .ok true w := by
  unfold isAgg
  rw [Sem.run_bind, run_underlying Tryd.underlying46 w]
  rfl
/-- a header out of a block -/
theorem run_load_hd {w : World} {S : Nat} {t : TypeId} {h : Hd} {v : Value} (hb : Blk w S t (hdc h v).toArray) (hr : h.commit.length = 32) : (Instr.loadAt 46 (.pointer (some ⟨S, 0, none⟩))).run Tryd.prog w = .ok (hdv h v) w := by
  have hl : (loadCells ⟨S, 0, none⟩ (hdc h v).length).run Tryd.prog w = .ok (hdc h v).toArray w :=
    run_loadCells_list (P := Tryd.prog) w ⟨S, 0, none⟩ (hdc h v) (fun j u hu => by
      rw [Addr.add_lit, Nat.zero_add, hb.cell, List.getElem?_toArray]
      exact hu)
  have hi := info_hd
  cases hq : Tryd.prog.info? 46 with
  | none => simp [hq] at hi
  | some i =>
    have hs : i.size = (hdc h v).length := by rw [hdc_len h v hr]; simpa [hq] using hi
    simp [Instr.loadAt, Instr.sureAddr, loadVar, Sem.run_bind, agg_hd, sizeOf, typeInfo, hq, hs, hl, hdv]
theorem hdc_one {h : Hd} {v : Value} (hv : v.oneCell' = true) : ∀ u ∈ hdc h v, u.oneCell' = true := by
  intro u hu
  unfold hdc at hu
  rcases List.mem_append.1 hu with a | a
  · simp only [List.mem_cons, List.not_mem_nil, or_false] at a
    rcases a with rfl | rfl | rfl | rfl | rfl | rfl <;> first | exact hv | rfl
  · exact one_bvl _ u a
/-- the whole of one -/
theorem run_store_hd {w : World} {S : Nat} {t : TypeId} {cur : Array Value} (hb : Blk w S t cur) (hc : cur.size = 38) (h : Hd) (v : Value) (hr : h.commit.length = 32) (hv : v.oneCell' = true) :
    (Instr.storeAt 46 (.pointer (some ⟨S, 0, none⟩)) (hdv h v)).run Tryd.prog w = .ok () (w.setRow S (hdc h v).toArray) := by
  have := run_store_cells hb 46 (hdc h v) (off := 0) (by rw [info_hd, hdc_len h v hr]) (hdc_one hv) (by rw [hdc_len h v hr, hc]; exact Nat.le_refl _)
  rw [splice_all _ _ (by rw [hdc_len h v hr, hc])] at this
  exact this
section
variable {w : World} {S : Nat} {t : TypeId} {h : Hd} {v : Value}
theorem hdm_parents (hb : Blk w S t (hdc h v).toArray) (L : List (List UInt8)) (u : Value) : Blk (w.setCell ⟨S, 0, none⟩ u) S t (hdc { h with parents := L } u).toArray := by
  have := hb.set_ 0 u
  rw [List.setIfInBounds_toArray] at this
  exact this
theorem hdm_height (hb : Blk w S t (hdc h v).toArray) (n : Int) : Blk (w.setCell ⟨S, 1, none⟩ (.int .i64 n)) S t (hdc { h with height := n } v).toArray := by
  have := hb.set_ 1 (.int .i64 n)
  rw [List.setIfInBounds_toArray] at this
  exact this
theorem hdm_topic (hb : Blk w S t (hdc h v).toArray) (l : List UInt8) : Blk (w.setCell ⟨S, 2, none⟩ (.string (oct.tx l))) S t (hdc { h with topic := l } v).toArray := by
  have := hb.set_ 2 (.string (oct.tx l))
  rw [List.setIfInBounds_toArray] at this
  exact this
theorem hdm_author (hb : Blk w S t (hdc h v).toArray) (n : Int) : Blk (w.setCell ⟨S, 3, none⟩ (.int .i64 n)) S t (hdc { h with author := n } v).toArray := by
  have := hb.set_ 3 (.int .i64 n)
  rw [List.setIfInBounds_toArray] at this
  exact this
theorem hdm_seq (hb : Blk w S t (hdc h v).toArray) (n : Int) : Blk (w.setCell ⟨S, 4, none⟩ (.int .i64 n)) S t (hdc { h with seq := n } v).toArray := by
  have := hb.set_ 4 (.int .i64 n)
  rw [List.setIfInBounds_toArray] at this
  exact this
theorem hdm_size (hb : Blk w S t (hdc h v).toArray) (n : Int) : Blk (w.setCell ⟨S, 5, none⟩ (.int .i64 n)) S t (hdc { h with size := n } v).toArray := by
  have := hb.set_ 5 (.int .i64 n)
  rw [List.setIfInBounds_toArray] at this
  exact this
theorem hdm_commit (hb : Blk w S t (hdc h v).toArray) (hr : h.commit.length = 32) (y : List UInt8) (hy : y.length = 32) :
    (Instr.storeAt 23 (.pointer (some ⟨S, 6, none⟩)) (idv y)).run Tryd.prog w = .ok () (w.setRow S (hdc { h with commit := y } v).toArray) := by
  have := run_store_mid (off := 6) hb y hy (by rw [hdc_size h v hr]; decide)
  have e : ids.splice (hdc h v).toArray 6 (bv y) = (hdc { h with commit := y } v).toArray := by
    unfold ids.splice hdc
    rw [List.toList_toArray, List.take_append_of_le_length (by simp), List.take_of_length_le (by simp), List.drop_of_length_le (by simp [bv_length, hy, hr]), List.append_nil]
  rw [e] at this
  exact this
end
/-- a header and a number as results -/
theorem results_hd {fn : Func} {p q : Tmp} (h : fn.results = #[.cell p 46, .tmp q]) (tmps : Array Value) (w : World) (g : Nat) (t : TypeId) (o : Hd) (v : Value)
    (hp : tmps.getD p undef = .pointer (some ⟨g, 0, none⟩)) (hg : Blk w g t (hdc o v).toArray) (hr : o.commit.length = 32) :
    (results fn tmps).run Tryd.prog w = .ok (.tuple #[hdv o v, tmps.getD q undef]) w := by
  have hp' : tmps[p]?.getD undef = .pointer (some ⟨g, 0, none⟩) := by simpa using hp
  have hl := run_loadVar_row w g t 46 (hdc o v).toArray (0, 0) _ hg Tryd.underlying46 rfl (by rw [info_hd, hdc_size o v hr])
  simp [results, h, hp', asAddr, hl, hdv]
/-- an id and a number as results -/
theorem results_id {fn : Func} {p q : Tmp} (h : fn.results = #[.cell p 23, .tmp q]) (tmps : Array Value) (w : World) (g : Nat) (t : TypeId) (y : List UInt8)
    (hp : tmps.getD p undef = .pointer (some ⟨g, 0, none⟩)) (hg : Blk w g t (bv y).toArray) (hy : y.length = 32) :
    (results fn tmps).run Tryd.prog w = .ok (.tuple #[idv y, tmps.getD q undef]) w := by
  have hp' : tmps[p]?.getD undef = .pointer (some ⟨g, 0, none⟩) := by simpa using hp
  have hl := run_loadVar_row w g t 23 (bv y).toArray (0, 0) _ hg Tryd.underlying23 rfl (by rw [info_id']; simp [bv_length, hy])
  simp [results, h, hp', asAddr, hl, idv]
theorem run_build_z (w : World) : (Instr.build 46 #[]).run Tryd.prog w = .ok (hdv zhd nv) w := by kernel_rfl
theorem nv_rd (w : World) : RdV w nv [] := (OwnI.nil w (fun _ => True)).rdv (by decide) |>.1
theorem rdv_one {w : World} {v : Value} {L : List (List UInt8)} (h : RdV w v L) : v.oneCell' = true := by
  obtain ⟨ad, cap, hv⟩ := h.form
  rw [hv]; rfl
/-- a header that was told, held in a block of its own -/
def heldW (w : World) (o : Hd) (v : Value) : World := (w.alloc (.cells (hdc zhd nv).toArray 46)).setRow w.heap.size (hdc o v).toArray
theorem run_hold (w : World) (o : Hd) (v : Value) (hr : o.commit.length = 32) (hv : v.oneCell' = true) :
    (Instr.storeAt 46 (.pointer (some ⟨w.heap.size, 0, none⟩)) (hdv o v)).run Tryd.prog (w.alloc (.cells (hdc zhd nv).toArray 46)) = .ok () (heldW w o v) :=
  run_store_hd (Blk.new w 46 (hdc zhd nv).toArray) (hdc_size _ _ zcom) o v hr hv
theorem held_blk (w : World) (o : Hd) (v : Value) : Blk (heldW w o v) w.heap.size 46 (hdc o v).toArray := setRow_heap _ _ _ _ _ _ (Blk.new w 46 (hdc zhd nv).toArray)
theorem held_below (w : World) (o : Hd) (v : Value) : Below w.heap.size w (heldW w o v) := below_row' ((Below.refl _ _).alloc (Nat.le_refl _) _) (Nat.le_refl _) _
end Go.Proofs.YtmaolmogccknbaaDoor.hdr
