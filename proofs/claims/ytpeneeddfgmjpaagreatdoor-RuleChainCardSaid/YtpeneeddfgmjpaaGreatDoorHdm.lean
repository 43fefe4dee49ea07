/-
  Lists of ids in regions that draw their order: '[]Id{x}', append.
  Cells stored at once into a row.
  An id's box: nought, stored whole, told; held in a block of its own.
  A header in a block: how it lies, a part of it stored, the whole of it; a header as a result.
-/
import Derived.Test.YtpeneeddfgmjpaaGreatDoorIds
import Derived.Test.YtpeneeddfgmjpaaGreatDoorIdst
import Derived.Test.YtpeneeddfgmjpaaGreatDoorIda
import Derived.Test.YtpeneeddfgmjpaaGreatDoorOpp
import Derived.Test.YtpeneeddfgmjpaaGreatDoorOpd
import Derived.Test.YtpeneeddfgmjpaaGreatDoorIdsx
import Derived.BigQuiet
import Derived.Deep.QuietTactic
namespace Go.Proofs.YtpeneeddfgmjpaaGreatDoor.ids
open Go.RowKit Go.Proofs.YtpeneeddfgmjpaaGreatDoor.mem Go.Proofs.YtpeneeddfgmjpaaGreatDoor.sha

theorem want_build1 {ops : Array Oper} {o : Oper} {a : Act} {w : World} {K : Act → World → Prop} {Q : Exit → Act → World → Prop} {E : Prop} {x : Operand} {y : List UInt8} (hg : o.guard = none)
  (ho : o.op = .buildSlice 22 1 #[(0, x)]) (hx : a.eval x = .agg (bv y).toArray) (hy : y.length = 32)
  (hK : K (a.put o.dst (.slice (some ⟨w.heap.size, 0, none⟩) 1 1)) (w.alloc (.cells (bv y).toArray 24))) : if Region.wanted o (yielded ops a.tmps) = true then Oper.wp Tryz.prog o a w K Q else E := by
 have hw : Region.wanted o (yielded ops a.tmps) = true := by simp [Region.wanted, hg]
 rw [if_pos hw]
 unfold Oper.wp execOp
 have hr := run_build1 w y hy
 simp only [ho, List.map_toArray, List.map_cons, List.map_nil, hx, Sem.run_bind, hr, Result.andThen_ok, Sem.run_pure]
 exact hK
/-- '[]Id{x}' as a list that reads -/
theorem RdV.one (w : World) (x : List UInt8) (hx : x.length = 32) : RdV (w.alloc (.cells (bv x).toArray 24)) (.slice (some ⟨w.heap.size, 0, none⟩) 1 1) [x] := by
 have := RdV.laid w [x] (fun y hy => by rw [List.mem_singleton.1 hy]; exact hx) (by simp)
 rw [fl_one] at this
 exact this
/-- one more -/
theorem run_append_one {w : World} {F : Nat → Prop} {v : Value} {L : List (List UInt8)} {x : List UInt8} (hown : OwnI w F v L) (hx : x.length = 32) (hL : L.length ≤ 1000000) (hn : New F w) (ty : TypeId) :
  ∃ v' w', (Builtin.append_ #[22, 22] ty #[v, .slice (some ⟨w.heap.size, 0, none⟩) 1 1]).run Tryz.prog (w.alloc (.cells (bv x).toArray 24)) = .ok v' w' ∧ OwnI w' F v' (L ++ [x]) ∧ Turn (fun k => v.ownBlock = some k ∨ w.heap.size ≤ k) w w' := by
 have ha : Turn (w.heap.size ≤ ·) w (w.alloc (.cells (bv x).toArray 24)) := (Turn.refl _ w).alloc (fun _ h => h) _
 have hs : (w.alloc (.cells (bv x).toArray 24)).heap.size = w.heap.size + 1 := by simp
 obtain ⟨v', w', hr, ho, ht⟩ := run_append_rd (hown.below ((Below.refl _ _).alloc (Nat.le_refl _) _)) (RdV.one w x hx) (by rw [List.length_singleton]; omega) (fun k hk => hn k (by rw [hs] at hk; omega)) ty
 exact ⟨v', w', hr, ho, (ha.mono fun k hk => .inr hk).trans (ht.mono fun k hk => hk.imp id fun h => by rw [hs] at h; omega)⟩
end Go.Proofs.YtpeneeddfgmjpaaGreatDoor.ids

namespace Go.Proofs.YtpeneeddfgmjpaaGreatDoor.ids
open Go.RowKit Go.Proofs.YtpeneeddfgmjpaaGreatDoor.mem Go.Proofs.YtpeneeddfgmjpaaGreatDoor.sha

theorem run_store_cells {w : World} {g off : Nat} {cur : Array Value} {t : TypeId} (hg : w.heap[g]? = some (.cells cur t (0, 0))) (ty : TypeId) (cs : List Value) (hi : (Tryz.prog.info? ty).map (·.size) = some cs.length) (h1 : ∀ u ∈ cs, u.oneCell' = true) (hfit : off + cs.length ≤ cur.size) :
  (Instr.storeAt ty (.pointer (some ⟨g, off, none⟩)) (.agg cs.toArray)).run Tryz.prog w = .ok () (w.setRow g (ids.splice cur off cs)) := by
 have hst := run_storeCells_at Tryz.prog g off t cs 0 cur w hg (by omega) h1
 cases hq : Tryz.prog.info? ty with
 | none => simp [hq] at hi
 | some i =>
  have hs : i.size = cs.length := by simpa [hq] using hi
  simp only [Instr.storeAt, Instr.sureAddr, storeVar, sizeOf, typeInfo, Value.cells, Sem.run_bind, Sem.run_pure, Result.andThen_ok]
  simp [hq, hs, hst, ids.splice]
theorem splice_all (cur : Array Value) (cs : List Value) (h : cs.length = cur.size) : ids.splice cur 0 cs = cs.toArray := by
 have hl : cur.toList.length = cur.size := Array.length_toList
 unfold ids.splice
 rw [List.take_zero, List.nil_append, Nat.zero_add, List.drop_of_length_le (by omega), List.append_nil]
theorem below_row' {B : Nat} {w0 w : World} {g : Nat} (hb : Below B w0 w) (hg : B ≤ g) (cs : Array Value) : Below B w0 (w.setRow g cs) := hb.trans ((turn_row w g cs).below fun j hj => by rw [hj]; exact hg)
end Go.Proofs.YtpeneeddfgmjpaaGreatDoor.ids

namespace Go.Proofs.YtpeneeddfgmjpaaGreatDoor.hdr
open Go.RowKit Go.Proofs.YtpeneeddfgmjpaaGreatDoor.mem Go.Proofs.YtpeneeddfgmjpaaGreatDoor.sha Go.Proofs.YtpeneeddfgmjpaaGreatDoor.ids
open Go.Proofs.YtpeneeddfgmjpaaGreatDoor.opn (zid)

theorem zid32 : zid.length = 32 := by simp [zid]
theorem run_build_zi (w : World) : (Instr.build 24 #[]).run Tryz.prog w = .ok (idv zid) w := by kernel_rfl
theorem run_store_idw {w : World} {R : Nat} {t : TypeId} {z y : List UInt8} (hb : Blk w R t (bv z).toArray) (hz : z.length = 32) (hy : y.length = 32) : (Instr.storeAt 24 (.pointer (some ⟨R, 0, none⟩)) (idv y)).run Tryz.prog w = .ok () (w.setRow R (bv y).toArray) := by
 have h := run_store_cells hb 24 (bv y) (off := 0) (by rw [info_id', bv_length, hy]) (one_bvl y) (by rw [List.size_toArray, bv_length, bv_length, hy, hz]; decide)
 rw [splice_all _ _ (by rw [List.size_toArray, bv_length, bv_length, hy, hz])] at h
 exact h
/-- an id that was told, held in a block of its own -/
def heldI (w : World) (y : List UInt8) : World := (w.alloc (.cells (bv zid).toArray 24)).setRow w.heap.size (bv y).toArray
theorem run_holdI (w : World) (y : List UInt8) (hy : y.length = 32) : (Instr.storeAt 24 (.pointer (some ⟨w.heap.size, 0, none⟩)) (idv y)).run Tryz.prog (w.alloc (.cells (bv zid).toArray 24)) = .ok () (heldI w y) :=
 run_store_idw (Blk.new w 24 (bv zid).toArray) zid32 hy
theorem heldI_blk (w : World) (y : List UInt8) : Blk (heldI w y) w.heap.size 24 (bv y).toArray := setRow_heap _ _ _ _ _ _ (Blk.new w 24 (bv zid).toArray)
theorem heldI_below (w : World) (y : List UInt8) : Below w.heap.size w (heldI w y) := below_row' ((Below.refl _ _).alloc (Nat.le_refl _) _) (Nat.le_refl _) _
theorem results_id {fn : Func} {p q : Tmp} (h : fn.results = #[.cell p 24, .tmp q]) (tmps : Array Value) (w : World) (g : Nat) (t : TypeId) (y : List UInt8)
  (hp : tmps.getD p undef = .pointer (some ⟨g, 0, none⟩)) (hg : Blk w g t (bv y).toArray) (hy : y.length = 32) :
  (results fn tmps).run Tryz.prog w = .ok (.tuple #[idv y, tmps.getD q undef]) w := by
 have hp' : tmps[p]?.getD undef = .pointer (some ⟨g, 0, none⟩) := by simpa using hp
 have hl := run_loadVar_row w g t 24 (bv y).toArray (0, 0) _ hg Tryz.underlying24 rfl (by rw [info_id']; simp [bv_length, hy])
 simp [results, h, hp', asAddr, hl, idv]
end Go.Proofs.YtpeneeddfgmjpaaGreatDoor.hdr

namespace Go.Proofs.YtpeneeddfgmjpaaGreatDoor.hdr
open Go.RowKit Go.Proofs.YtpeneeddfgmjpaaGreatDoor.mem Go.Proofs.YtpeneeddfgmjpaaGreatDoor.sha Go.Proofs.YtpeneeddfgmjpaaGreatDoor.ids
open Go.Proofs.YtpeneeddfgmjpaaGreatDoor.opn (b1 b2 b4 num txt idl byte rd rdN rdT rdI rdS rdL St Reads Stays endE zid mkId)

/-- a header as a value, its parents as they lie -/
def hdc (h : Hd) (v : Value) : List Value := [v, .int .i64 h.height, .string (oct.tx h.topic), .int .i64 h.author, .int .i64 h.seq, .int .i64 h.size] ++ bv h.commit
def hdv (h : Hd) (v : Value) : Value := .agg (hdc h v).toArray
def nv : Value := .slice none 0 0
theorem nv_one : nv.oneCell' = true := rfl
theorem zcom : zhd.commit.length = 32 := by simp [zhd, zid]
theorem hdc_len (h : Hd) (v : Value) (hr : h.commit.length = 32) : (hdc h v).length = 38 := by
 unfold hdc
 simp [bv_length, hr]
theorem hdc_size (h : Hd) (v : Value) (hr : h.commit.length = 32) : (hdc h v).toArray.size = 38 := by rw [List.size_toArray, hdc_len h v hr]
theorem info_hd : (Tryz.prog.info? 26).map (·.size) = some 38 := by kernel_rfl

structure HdBlk (w : World) (S : Nat) (h : Hd) (v : Value) : Prop where
 parents : w.cell? ⟨S, 0, none⟩ = some v
 height : w.cell? ⟨S, 1, none⟩ = some (.int .i64 h.height)
 topic : w.cell? ⟨S, 2, none⟩ = some (.string (oct.tx h.topic))
 author : w.cell? ⟨S, 3, none⟩ = some (.int .i64 h.author)
 seq : w.cell? ⟨S, 4, none⟩ = some (.int .i64 h.seq)
 size : w.cell? ⟨S, 5, none⟩ = some (.int .i64 h.size)
 commit : ∀ n, (Instr.loadAt 24 (.pointer (some ⟨S, 6, none⟩))).run Tryz.prog (w.drewN n) = .ok (idv h.commit) (w.drewN n)
theorem HdBlk.of {w : World} {S : Nat} {t : TypeId} {h : Hd} {v : Value} (hb : Blk w S t (hdc h v).toArray) (hr : h.commit.length = 32) : HdBlk w S h v := by
 have hc : ∀ j, w.cell? ⟨S, j, none⟩ = (hdc h v)[j]? := fun j => by rw [hb.cell, List.getElem?_toArray]
 refine ⟨hc 0, hc 1, hc 2, hc 3, hc 4, hc 5, fun n => ?_⟩
 refine run_load_mid (w.drewN n) S 6 32 24 5 (bv h.commit) (fun j u hu => ?_) Tryz.underlying24 (by rw [info_id', bv_length, hr])
 show w.cell? ⟨S, 6 + j, none⟩ = some u
 rw [hc]
 unfold hdc
 rw [List.getElem?_append_right (by simp), show 6 + j - ([v, Value.int .i64 h.height, .string (oct.tx h.topic), .int .i64 h.author, .int .i64 h.seq, .int .i64 h.size] : List Value).length = j by simp]
 exact hu
theorem agg_hd (w : World) : (isAgg 26).run Tryz.prog w = .ok true w := by
 unfold isAgg
 rw [Sem.run_bind, run_underlying Tryz.underlying26 w]
 rfl
/-- a header out of a block -/
theorem run_load_hd {w : World} {S : Nat} {t : TypeId} {h : Hd} {v : Value} (hb : Blk w S t (hdc h v).toArray) (hr : h.commit.length = 32) : (Instr.loadAt 26 (.pointer (some ⟨S, 0, none⟩))).run Tryz.prog w = .ok (hdv h v) w := by
 have hl : (loadCells ⟨S, 0, none⟩ (hdc h v).length).run Tryz.prog w = .ok (hdc h v).toArray w :=
  run_loadCells_list (P := Tryz.prog) w ⟨S, 0, none⟩ (hdc h v) (fun j u hu => by
   rw [Addr.add_lit, Nat.zero_add, hb.cell, List.getElem?_toArray]
   exact hu)
 have hi := info_hd
 cases hq : Tryz.prog.info? 26 with
 | none => simp [hq] at hi
 | some i =>
  have hs : i.size = (hdc h v).length := by rw [hdc_len h v hr]; simpa [hq] using hi
  simp [Instr.loadAt, Instr.sureAddr, loadVar, Sem.run_bind, agg_hd, sizeOf, typeInfo, hq, hs, hl, hdv]
theorem hdc_one {h : Hd} {v : Value} (hv : v.oneCell' = true) : ∀ u ∈ hdc h v, u.oneCell' = true := by
 intro u hu
 unfold hdc at hu
 rcases List.mem_append.1 hu with a | a
 ·
  simp only [List.mem_cons, List.not_mem_nil, or_false] at a
  rcases a with rfl | rfl | rfl | rfl | rfl | rfl <;> first | exact hv | rfl
 ·
  exact one_bvl _ u a
/-- the whole of one -/
theorem run_store_hd {w : World} {S : Nat} {t : TypeId} {cur : Array Value} (hb : Blk w S t cur) (hc : cur.size = 38) (h : Hd) (v : Value) (hr : h.commit.length = 32) (hv : v.oneCell' = true) :
  (Instr.storeAt 26 (.pointer (some ⟨S, 0, none⟩)) (hdv h v)).run Tryz.prog w = .ok () (w.setRow S (hdc h v).toArray) := by
 have := run_store_cells hb 26 (hdc h v) (off := 0) (by rw [info_hd, hdc_len h v hr]) (hdc_one hv) (by rw [hdc_len h v hr, hc]; exact Nat.le_refl _)
 rw [splice_all _ _ (by rw [hdc_len h v hr, hc])] at this
 exact this
section
variable {w : World} {S : Nat} {t : TypeId} {h : Hd} {v : Value}
theorem hdm_parents (hb : Blk w S t (hdc h v).toArray) (L : List (List UInt8)) (u : Value) : Blk (w.setCell ⟨S, 0, none⟩ u) S t (hdc { h with parents := L } u).toArray := by
 have := hb.set_ 0 u
 rw [List.setIfInBounds_toArray] at this
 exact this
theorem hdm_height (hb : Blk w S t (hdc h v).toArray) (n : Int) : Blk (w.setCell ⟨S, 1, none⟩ (.int .i64 n)) S t (hdc { h with height := n } v).toArray := by
 have := hb.set_ 1 (.int .i64 n)
 rw [List.setIfInBounds_toArray] at this
 exact this
theorem hdm_topic (hb : Blk w S t (hdc h v).toArray) (l : List UInt8) : Blk (w.setCell ⟨S, 2, none⟩ (.string (oct.tx l))) S t (hdc { h with topic := l } v).toArray := by
 have := hb.set_ 2 (.string (oct.tx l))
 rw [List.setIfInBounds_toArray] at this
 exact this
theorem hdm_author (hb : Blk w S t (hdc h v).toArray) (n : Int) : Blk (w.setCell ⟨S, 3, none⟩ (.int .i64 n)) S t (hdc { h with author := n } v).toArray := by
 have := hb.set_ 3 (.int .i64 n)
 rw [List.setIfInBounds_toArray] at this
 exact this
theorem hdm_seq (hb : Blk w S t (hdc h v).toArray) (n : Int) : Blk (w.setCell ⟨S, 4, none⟩ (.int .i64 n)) S t (hdc { h with seq := n } v).toArray := by
 have := hb.set_ 4 (.int .i64 n)
 rw [List.setIfInBounds_toArray] at this
 exact this
theorem hdm_size (hb : Blk w S t (hdc h v).toArray) (n : Int) : Blk (w.setCell ⟨S, 5, none⟩ (.int .i64 n)) S t (hdc { h with size := n } v).toArray := by
 have := hb.set_ 5 (.int .i64 n)
 rw [List.setIfInBounds_toArray] at this
 exact this
theorem hdm_commit (hb : Blk w S t (hdc h v).toArray) (hr : h.commit.length = 32) (y : List UInt8) (hy : y.length = 32) :
  (Instr.storeAt 24 (.pointer (some ⟨S, 6, none⟩)) (idv y)).run Tryz.prog w = .ok () (w.setRow S (hdc { h with commit := y } v).toArray) := by
 have := run_store_mid (off := 6) hb y hy (by rw [hdc_size h v hr]; decide)
 have e : ids.splice (hdc h v).toArray 6 (bv y) = (hdc { h with commit := y } v).toArray := by
  unfold ids.splice hdc
  rw [List.toList_toArray, List.take_append_of_le_length (by simp), List.take_of_length_le (by simp), List.drop_of_length_le (by simp [bv_length, hy, hr]), List.append_nil]
 rw [e] at this
 exact this
end
/-- a header and a number as results -/
theorem results_hd {fn : Func} {p q : Tmp} (h : fn.results = #[.cell p 26, .tmp q]) (tmps : Array Value) (w : World) (g : Nat) (t : TypeId) (o : Hd) (v : Value)
  (hp : tmps.getD p undef = .pointer (some ⟨g, 0, none⟩)) (hg : Blk w g t (hdc o v).toArray) (hr : o.commit.length = 32) :
  (results fn tmps).run Tryz.prog w = .ok (.tuple #[hdv o v, tmps.getD q undef]) w := by
 have hp' : tmps[p]?.getD undef = .pointer (some ⟨g, 0, none⟩) := by simpa using hp
 have hl := run_loadVar_row w g t 26 (hdc o v).toArray (0, 0) _ hg Tryz.underlying26 rfl (by rw [info_hd, hdc_size o v hr])
 simp [results, h, hp', asAddr, hl, hdv]
/-- an id and a number as results -/
theorem run_build_z (w : World) : (Instr.build 26 #[]).run Tryz.prog w = .ok (hdv zhd nv) w := by kernel_rfl
theorem nv_rd (w : World) : RdV w nv [] := (OwnI.nil w (fun _ => True)).rdv (by decide) |>.1
theorem rdv_one {w : World} {v : Value} {L : List (List UInt8)} (h : RdV w v L) : v.oneCell' = true := by
 obtain ⟨ad, cap, hv⟩ := h.form
 rw [hv]; rfl
/-- a header that was told, held in a block of its own -/
def heldW (w : World) (o : Hd) (v : Value) : World := (w.alloc (.cells (hdc zhd nv).toArray 26)).setRow w.heap.size (hdc o v).toArray
theorem run_hold (w : World) (o : Hd) (v : Value) (hr : o.commit.length = 32) (hv : v.oneCell' = true) :
  (Instr.storeAt 26 (.pointer (some ⟨w.heap.size, 0, none⟩)) (hdv o v)).run Tryz.prog (w.alloc (.cells (hdc zhd nv).toArray 26)) = .ok () (heldW w o v) :=
 run_store_hd (Blk.new w 26 (hdc zhd nv).toArray) (hdc_size _ _ zcom) o v hr hv
theorem held_blk (w : World) (o : Hd) (v : Value) : Blk (heldW w o v) w.heap.size 26 (hdc o v).toArray := setRow_heap _ _ _ _ _ _ (Blk.new w 26 (hdc zhd nv).toArray)
theorem held_below (w : World) (o : Hd) (v : Value) : Below w.heap.size w (heldW w o v) := below_row' ((Below.refl _ _).alloc (Nat.le_refl _) _) (Nat.le_refl _) _
end Go.Proofs.YtpeneeddfgmjpaaGreatDoor.hdr
