/-
  Memory: a block known whole, what has turned, a byte slice of the call's own.
  Bytes: what the model knows of their type; cells just laid.
  Single operations of a region that goes in the text's order, by hand.
  Loads of whole arrays, by hand.
  Cells that lie in a row from an address on.
  SHA-256 by plain functions: words, rounds, blocks, the ending; and how the model's numbers of 32 bits are these words.
  Ids (arrays of 32 bytes) and rows of them: how they lie in memory, how they are read; a row of the call's own.
-/
import Derived.Test.YtpeneeddfgmjpaaGreatDoorProg
import Derived.WalkKit
import Derived.Defers
import Derived.Lib.Hide
import Derived.Lib.AppendStr
import Derived.Maps.AppendAt
import Derived.Deep.QuietTactic
import Derived.BigQuiet
import Derived.LaidEqlPtr
import Derived.Lib.Builder
import Derived.WalkSpells
import Derived.Deep.WholeRow
import Derived.Stop.BytesEq
import Derived.Laws.IdiomStrings
import Derived.Laws.MakeOwn
import Derived.Laws.OwnMore
import Derived.Laws.CopyOwn
import Derived.Laws.BitsAllLaws
namespace Go.Proofs.YtpeneeddfgmjpaaGreatDoor.mem
open Go.RowKit

/-- block g is just the cells cs of element type t, none frozen -/
def Blk (w : World) (g : Nat) (t : TypeId) (cs : Array Value) : Prop := w.heap[g]? = some (.cells cs t (0, 0))

section
variable {w w' : World} {g : Nat} {t : TypeId} {cs : Array Value}
theorem Blk.lt (h : Blk w g t cs) : g < w.heap.size := by
 rcases Nat.lt_or_ge g w.heap.size with hlt | hge
 ·
  exact hlt
 ·
  unfold Blk at h; rw [Array.getElem?_eq_none hge] at h; cases h
theorem Blk.cell (h : Blk w g t cs) (i : Nat) : w.cell? ⟨g, i, none⟩ = cs[i]? := cell_of_row w g i cs t (0, 0) h
theorem Blk.frozen (h : Blk w g t cs) (i : Nat) : w.frozen? ⟨g, i, none⟩ = false := by
 unfold Blk at h
 simp [World.frozen?, h]
theorem Blk.new (w : World) (t : TypeId) (cs : Array Value) : Blk (w.alloc (.cells cs t)) w.heap.size t cs := heap_alloc_new w _
theorem Blk.at_ {g : Nat} (h : w.heap.size = g) (t : TypeId) (cs : Array Value) : Blk (w.alloc (.cells cs t)) g t cs := by subst h; exact Blk.new w t cs
theorem Blk.alloc (h : Blk w g t cs) (o : Obj) : Blk (w.alloc o) g t cs := (Below.heap_alloc w o g h.lt).trans h
theorem Blk.set_ (h : Blk w g t cs) (i : Nat) (u : Value) : Blk (w.setCell ⟨g, i, none⟩ u) g t (cs.setIfInBounds i u) := by
 unfold Blk at h ⊢
 simp [World.setCell, Array.getElem?_modify, h]
theorem Blk.far (h : Blk w g t cs) {p : Addr} (hp : g ≠ p.block) (u : Value) : Blk (w.setCell p u) g t cs := (Below.heap_setCell w p u g hp).trans h
theorem Blk.below {B : Nat} (h : Blk w g t cs) (hb : Below B w w') (hg : g < B) : Blk w' g t cs := (hb.block g hg).trans h
theorem Blk.grown {row : Option Nat} (h : Blk w g t cs) (hb : w.grownBy w' row) (hg : some g ≠ row) : Blk w' g t cs := (hb.block g h.lt hg).trans h
end

/-- of what was there only blocks of F have turned -/
structure Turn (F : Nat → Prop) (w w' : World) : Prop where
 os : w'.os = w.os
 tape : w'.tape = w.tape
 output : w'.output = w.output
 size : w.heap.size ≤ w'.heap.size
 block : ∀ k, ¬ F k → w'.heap[k]? = w.heap[k]?
/-- every block that is still to come is one of F -/
def New (F : Nat → Prop) (w : World) : Prop := ∀ k, w.heap.size ≤ k → F k

section
variable {F G : Nat → Prop} {w w' w'' : World}
theorem Turn.refl (F : Nat → Prop) (w : World) : Turn F w w := ⟨rfl, rfl, rfl, Nat.le_refl _, fun _ _ => rfl⟩
theorem Turn.trans (h : Turn F w w') (k : Turn F w' w'') : Turn F w w'' :=
 ⟨k.os.trans h.os, k.tape.trans h.tape, k.output.trans h.output, Nat.le_trans h.size k.size, fun i hi => (k.block i hi).trans (h.block i hi)⟩
theorem Turn.mono (h : Turn F w w') (hFG : ∀ k, F k → G k) : Turn G w w' := ⟨h.os, h.tape, h.output, h.size, fun k hk => h.block k fun hF => hk (hFG k hF)⟩
theorem New.of (hn : New F w) (h : w.heap.size ≤ w'.heap.size) : New F w' := fun k hk => hn k (Nat.le_trans h hk)
theorem New.turn (hn : New F w) (h : Turn G w w') : New F w' := hn.of h.size
theorem New.alloc (hn : New F w) (o : Obj) : New F (w.alloc o) := hn.of (by simp)
theorem Turn.alloc (h : Turn F w w') (hn : New F w) (o : Obj) : Turn F w (w'.alloc o) :=
 h.trans ⟨rfl, rfl, rfl, by simp, fun k hk => Below.heap_alloc _ _ _ (by
  rcases Nat.lt_or_ge k w'.heap.size with hl | hl
  ·
   exact hl
  ·
   exact absurd (hn k (Nat.le_trans h.size hl)) hk)⟩
theorem Turn.setCell (h : Turn F w w') {p : Addr} (hp : F p.block) (u : Value) : Turn F w (w'.setCell p u) :=
 h.trans ⟨rfl, rfl, rfl, by simp [World.setCell], fun k hk => Below.heap_setCell _ _ _ _ (fun e => hk (e ▸ hp))⟩
theorem Turn.drew (h : Turn F w w') : Turn F w w'.drew := ⟨h.os, h.tape, h.output, h.size, h.block⟩
theorem Turn.drewN (h : Turn F w w') (n : Nat) : Turn F w (w'.drewN n) := ⟨h.os, h.tape, h.output, h.size, h.block⟩
theorem Turn.below {B : Nat} (h : Turn F w w') (hB : ∀ k, F k → B ≤ k) : Below B w w' :=
 ⟨h.os, h.tape, h.output, h.size, fun k hk => h.block k fun hF => by have := hB k hF; omega⟩
theorem Turn.ofBelow {B : Nat} (h : Below B w w') : Turn (B ≤ ·) w w' := ⟨h.os, h.tape, h.output, h.size, fun k hk => h.block k (by omega)⟩
/-- what only makes memory turns nothing of F's complement -/
theorem Turn.fresh (h : Below w.heap.size w w') (hn : New F w) : Turn F w w' :=
 ⟨h.os, h.tape, h.output, h.size, fun k hk => h.block k (by
  rcases Nat.lt_or_ge k w.heap.size with hl | hl
  ·
   exact hl
  ·
   exact absurd (hn k hl) hk)⟩
theorem Turn.grown {row : Option Nat} (h : w.grownBy w' row) (hr : ∀ k, row = some k → F k) (hn : New F w) : Turn F w w' :=
 ⟨h.os, h.tape, h.output, h.size, fun k hk => h.block k (by
  rcases Nat.lt_or_ge k w.heap.size with hl | hl
  ·
   exact hl
  ·
   exact absurd (hn k hl) hk) (fun e => hk (hr k e.symm))⟩
theorem Blk.turn {g : Nat} {t : TypeId} {cs : Array Value} (h : Blk w g t cs) (ht : Turn F w w') (hg : ¬ F g) : Blk w' g t cs := (ht.block g hg).trans h
end

/-- v is a slice of bytes of the call's own, its row one of F: n bytes, the cells xs -/
def Owns (w : World) (F : Nat → Prop) (v : Value) (n : Nat) (xs : List Value) : Prop := w.ownsRow 0 5 1 v n xs ∧ ∀ k, v.ownBlock = some k → F k
theorem Owns.nil (w : World) (F : Nat → Prop) : Owns w F (.slice none 0 0) 0 [] := ⟨World.ownsRow_nil w 0 _ 1, fun k hk => by simp [Value.ownBlock] at hk⟩
theorem Owns.alloc {w : World} {F : Nat → Prop} {v : Value} {n : Nat} {xs : List Value} (h : Owns w F v n xs) (o : Obj) : Owns (w.alloc o) F v n xs := ⟨h.1.alloc o, h.2⟩
theorem Owns.turn {w w' : World} {F G : Nat → Prop} {v : Value} {n : Nat} {xs : List Value} (h : Owns w F v n xs) (ht : Turn G w w') (hg : ∀ k, v.ownBlock = some k → ¬ G k) : Owns w' F v n xs := by
 refine ⟨⟨h.1.1, ?_⟩, h.2⟩
 rcases h.1.2 with h0 | ⟨g, cap, cur, rfl, hb, hh, hr⟩
 ·
  exact .inl h0
 ·
  exact .inr ⟨g, cap, cur, rfl, hb, (ht.block g (hg g rfl)).trans hh, hr⟩
theorem Owns.mono {w : World} {F G : Nat → Prop} {v : Value} {n : Nat} {xs : List Value} (h : Owns w F v n xs) (hFG : ∀ k, F k → G k) : Owns w G v n xs := ⟨h.1, fun k hk => hFG k (h.2 k hk)⟩
/-- its row is no block of another element type -/
theorem Owns.ne_ {w : World} {F : Nat → Prop} {v : Value} {n : Nat} {xs : List Value} {g : Nat} {t : TypeId} {cs : Array Value} (h : Owns w F v n xs) (hg : Blk w g t cs) (hne : 5 ≠ t) : v.ownBlock ≠ some g := by
 rcases h.1.2 with ⟨rfl, _⟩ | ⟨g', cap, cur, rfl, _, hh, _⟩
 ·
  simp [Value.ownBlock]
 ·
  intro he
  have : g' = g := by simpa [Value.ownBlock] using he
  subst this
  unfold Blk at hg
  rw [hg] at hh
  injection hh with hh
  injection hh with _ ht
  exact hne ht.symm

theorem neq_nil_left {t e : TypeId} (a : Addr) (w : World) (h : Tryz.prog.underlying t = some (.pointer e)) : (binOp .neq t (.pointer none) (.pointer (some a))).run Tryz.prog w = .ok (.bool true) w := by
 have h1 : ∀ d : Nat, (Op.equalIn (d + 1) t (.pointer none) (.pointer (some a))).run Tryz.prog w = .ok false w := fun d => by
  simp [Op.equalIn, run_underlying h]
 simp only [binOp]
 simp [Op.equal, Op.maxDepth, h1 9999]

theorem Owns.lt {w : World} {F : Nat → Prop} {v : Value} {n : Nat} {xs : List Value} (h : Owns w F v n xs) {k : Nat} (hk : v.ownBlock = some k) : k < w.heap.size := by
 rcases h.1.2 with ⟨rfl, _⟩ | ⟨g', cap, cur, rfl, _, hh, _⟩
 ·
  simp [Value.ownBlock] at hk
 ·
  have : g' = k := by simpa [Value.ownBlock] using hk
  subst this
  exact Blk.lt hh
/-- the blocks that an append may turn: the row's own, and what is new -/
def Row (w : World) (v : Value) : Nat → Prop := fun k => v.ownBlock = some k ∨ w.heap.size ≤ k
theorem Row.new (w : World) (v : Value) : New (Row w v) w := fun _ hk => .inr hk
theorem Owns.row {w : World} {F : Nat → Prop} {v : Value} {n : Nat} {xs : List Value} (h : Owns w F v n xs) : Owns w (Row w v) v n xs := ⟨h.1, fun _ hk => .inl hk⟩
theorem Row.sub {w : World} {F : Nat → Prop} {v : Value} {n : Nat} {xs : List Value} (h : Owns w F v n xs) (hn : New F w) : ∀ k, Row w v k → F k := fun k hk => hk.elim (h.2 k) (hn k)
theorem Owns.form {w : World} {F : Nat → Prop} {v : Value} {n : Nat} {xs : List Value} (h : Owns w F v n xs) : ∃ ad k c, v = .slice ad k c := by
 rcases h.1.2 with ⟨rfl, _⟩ | ⟨g', cap, cur, rfl, _, hh, _⟩
 ·
  exact ⟨_, _, _, rfl⟩
 ·
  exact ⟨_, _, _, rfl⟩

theorem Turn.undrew {F : Nat → Prop} {w w' : World} (h : Turn F w.drew w') : Turn F w w' := ⟨h.os, h.tape, h.output, h.size, h.block⟩
theorem Turn.cell {F : Nat → Prop} {w w' : World} (h : Turn F w w') {b i : Nat} (hp : ¬ F b) : w'.cell? ⟨b, i, none⟩ = w.cell? ⟨b, i, none⟩ := World.cell?_of_block (w := w) (a := ⟨b, i, none⟩) (h.block b hp)

/-- the world under another name -/
theorem wp_at {P : Program} {c : Code} {Q : Exit → Act → World → Prop} {a : Act} {w w' : World} (h : w = w') (k : c.wp P Q a w') : c.wp P Q a w := h ▸ k
theorem quiet_left {P : Program} {f : FuncId} {args : Array Value} {w : World} {n : Nat} {v : Value}
  (h : Calls P f args (w.drewN n) fun e w' => e = .returned v ∧ w.drewN n = w') : Calls P f args (w.drewN n) fun e w'' => e = .returned v ∧ ∃ m, w'' = w.drewN m :=
 h.mono fun _ _ ⟨he, hm⟩ => ⟨he, n, hm.symm⟩
theorem below_drewN {B : Nat} {a w : World} (h : Below B a w) (n : Nat) : Below B a (w.drewN n) := ⟨h.os, h.tape, h.output, h.size, h.block⟩
end Go.Proofs.YtpeneeddfgmjpaaGreatDoor.mem

namespace Go.Proofs.YtpeneeddfgmjpaaGreatDoor.mem
open Go.RowKit

theorem info5 : (Tryz.prog.info? 5).map (fun i => (i.zero, i.size, i.bytes)) = some (some (.int .u8 0), 1, 1) := by kernel_rfl

theorem new_cells (w : World) (t : TypeId) (cs : List Value) : ∀ (j : Nat) (u : Value), cs[j]? = some u → (w.alloc (.cells cs.toArray t)).cell? ((⟨w.heap.size, 0, none⟩ : Addr).add j) = some u := by
 intro j u h
 rw [Addr.add_lit, Nat.zero_add, (Blk.new w t cs.toArray).cell j]
 simpa using h
theorem one1 (a : Int) : ∀ u ∈ [Value.int .u8 a], u.oneCell' = true := by
 intro u hu; simp only [List.mem_cons, List.not_mem_nil, or_false] at hu; subst hu; rfl
theorem one2 (a b : Int) : ∀ u ∈ [Value.int .u8 a, .int .u8 b], u.oneCell' = true := by
 intro u hu; simp only [List.mem_cons, List.not_mem_nil, or_false] at hu; rcases hu with rfl | rfl <;> rfl
end Go.Proofs.YtpeneeddfgmjpaaGreatDoor.mem

namespace Go.Proofs.YtpeneeddfgmjpaaGreatDoor.mem
open Go.RowKit
section
variable {P : Program} {ops : Array Oper} {rest : List Oper} {o : Oper} {a : Act} {w : World} {Q : Exit → Act → World → Prop}
theorem wpl_at {l : List Oper} {w' : World} (h : w = w') (k : wpList P ops Q l a w') : wpList P ops Q l a w := h ▸ k
theorem step_move {x : Operand} (hg : o.guard = none) (ho : o.op = .move x) (h : wpList P ops Q rest (a.put o.dst (a.eval x)) w) : wpList P ops Q (o :: rest) a w := by
 refine wpList_plain hg fun K hK => ?_
 unfold Oper.wp execOp
 simp only [ho]
 exact hK _ _ h
theorem step_nil {x : Operand} {p : Addr} (hg : o.guard = none) (ho : o.op = .nilCheck x) (hx : a.eval x = .pointer (some p)) (h : wpList P ops Q rest (a.put o.dst (.pointer (some p))) w) : wpList P ops Q (o :: rest) a w := by
 refine wpList_plain hg fun K hK => ?_
 unfold Oper.wp execOp
 simp only [ho, hx]
 exact hK _ _ h
theorem step_alloc {t : TypeId} {v : Value} (hg : o.guard = none) (ho : o.op = .alloc t) (hz : ∀ w, (zeroValue t).run P w = .ok v w) (h : wpList P ops Q rest (a.put o.dst (.pointer (some ⟨w.heap.size, 0, none⟩))) (w.alloc (.cells v.cells t))) : wpList P ops Q (o :: rest) a w := by
 refine wpList_plain hg fun K hK => ?_
 unfold Oper.wp execOp
 simp [ho, Instr.alloc, hz, newVar]
 exact hK _ _ h
end
end Go.Proofs.YtpeneeddfgmjpaaGreatDoor.mem

namespace Go.Proofs.YtpeneeddfgmjpaaGreatDoor.mem
open Go.RowKit

/-- an array out of the middle of a block -/
theorem run_load_mid (w : World) (g off n : Nat) (ty e : TypeId) (cs : List Value) (hc : ∀ j v, cs[j]? = some v → w.cell? ⟨g, off + j, none⟩ = some v) (hu : Tryz.prog.underlying ty = some (.array n e)) (hi : (Tryz.prog.info? ty).map (·.size) = some cs.length) :
  (Instr.loadAt ty (.pointer (some ⟨g, off, none⟩))).run Tryz.prog w = .ok (.agg cs.toArray) w := by
 have hl : (loadCells ⟨g, off, none⟩ cs.length).run Tryz.prog w = .ok cs.toArray w :=
  run_loadCells_list (P := Tryz.prog) w ⟨g, off, none⟩ cs (fun j v hv => by
   have hadd : (⟨g, off, none⟩ : Addr).add j = ⟨g, off + j, none⟩ := by unfold Addr.add; split <;> simp_all
   rw [hadd]
   exact hc j v hv)
 cases hq : Tryz.prog.info? ty with
 | none => simp [hq] at hi
 | some i =>
  have hs : i.size = cs.length := by simpa [hq] using hi
  have hagg : (isAgg ty).run Tryz.prog w = .ok true w := by
   unfold isAgg
   rw [Sem.run_bind, run_underlying hu w]
   rfl
  simp [Instr.loadAt, Instr.sureAddr, loadVar, Sem.run_bind, hagg, sizeOf, typeInfo, hq, hs, hl]
/-! Loads of whole arrays in the walks. -/
theorem run_exec_load {P : Program} {ρ : Operand → Value} {o : Oper} {x : Operand} {t : TypeId} {p v : Value} {w : World} (ho : o.op = .load t x) (hx : ρ x = p) (h : (Instr.loadAt t p).run P w = .ok v w) :
  (execOp ρ o).run P w = .ok (.value v) w := by
 unfold execOp
 simp [ho, hx, h]
/-- in a region that only reads -/
theorem quiet_load {P : Program} {ops : Array Oper} {w : World} {Q : Act → Prop} {a : Act} {o : Oper} {rest : List Oper} {t : TypeId} {x : Operand} {p v : Value} (hg : o.guard = none) (ho : o.op = .load t x) (hx : a.eval x = p)
  (hr : ∀ n, (Instr.loadAt t p).run P (w.drewN n) = .ok v (w.drewN n)) (h : wpQuiet P ops (fun w' => ∃ n, w' = w.drewN n) Q rest (a.put o.dst v)) : wpQuiet P ops (fun w' => ∃ n, w' = w.drewN n) Q (o :: rest) a := by
 have hw : Region.wanted o (yielded ops a.tmps) = true := by simp [Region.wanted, hg]
 unfold wpQuiet
 rw [if_pos hw]
 refine ⟨v, ?_, h⟩
 rintro _ ⟨n, rfl⟩
 unfold Oper.quietAt
 rw [run_exec_load ho hx (hr n)]
 exact ⟨rfl, rfl⟩
/-- in a plain region -/
theorem step_load {P : Program} {ops : Array Oper} {rest : List Oper} {o : Oper} {a : Act} {w : World} {Q : Exit → Act → World → Prop} {t : TypeId} {x : Operand} {p v : Value} (hg : o.guard = none) (ho : o.op = .load t x) (hx : a.eval x = p)
  (hr : (Instr.loadAt t p).run P w = .ok v w) (h : wpList P ops Q rest (a.put o.dst v) w) : wpList P ops Q (o :: rest) a w := by
 refine wpList_plain hg fun K hK => ?_
 unfold Oper.wp
 rw [run_exec_load ho hx hr]
 exact hK _ _ h

/-- .. behind a guard that holds -/
theorem step_load_w {P : Program} {ops : Array Oper} {rest : List Oper} {o : Oper} {a : Act} {w : World} {Q : Exit → Act → World → Prop} {t : TypeId} {x : Operand} {p v : Value} (hw : Region.wanted o (yielded ops a.tmps) = true) (ho : o.op = .load t x) (hx : a.eval x = p)
  (hr : (Instr.loadAt t p).run P w = .ok v w) (h : wpList P ops Q rest (a.put o.dst v) w) : wpList P ops Q (o :: rest) a w := by
 unfold wpList
 rw [if_pos hw]
 left
 unfold Oper.wp
 rw [run_exec_load ho hx hr]
 exact h
/-- '!=' of two arrays, behind a guard that holds -/
theorem step_neq_w {P : Program} {ops : Array Oper} {rest : List Oper} {o : Oper} {a : Act} {w : World} {Q : Exit → Act → World → Prop} {t t2 : TypeId} {x y : Operand} {u v r : Value} (hw : Region.wanted o (yielded ops a.tmps) = true) (ho : o.op = .binOp .neq t x y t2) (hx : a.eval x = u) (hy : a.eval y = v)
  (hg : (eqGuard .neq t x y u v).run P w = .ok () w) (hr : (binOp .neq t u v).run P w = .ok r w) (h : wpList P ops Q rest (a.put o.dst r) w) : wpList P ops Q (o :: rest) a w := by
 unfold wpList
 rw [if_pos hw]
 left
 unfold Oper.wp
 have he : (execOp a.eval o).run P w = .ok (.value r) w := by
  unfold execOp
  simp [ho, hx, hy, hg, hr]
 rw [he]
 exact h
/-- .. any comparison of two arrays -/
theorem step_bin_w {P : Program} {ops : Array Oper} {rest : List Oper} {o : Oper} {a : Act} {w : World} {Q : Exit → Act → World → Prop} {op : BinOp} {t t2 : TypeId} {x y : Operand} {u v r : Value} (hw : Region.wanted o (yielded ops a.tmps) = true) (ho : o.op = .binOp op t x y t2) (hx : a.eval x = u) (hy : a.eval y = v)
  (hg : (eqGuard op t x y u v).run P w = .ok () w) (hr : (binOp op t u v).run P w = .ok r w) (h : wpList P ops Q rest (a.put o.dst r) w) : wpList P ops Q (o :: rest) a w := by
 unfold wpList
 rw [if_pos hw]
 left
 unfold Oper.wp
 have he : (execOp a.eval o).run P w = .ok (.value r) w := by
  unfold execOp
  simp [ho, hx, hy, hg, hr]
 rw [he]
 exact h
theorem exec_bin {P : Program} {o : Oper} {a : Act} {w : World} {op : BinOp} {t t2 : TypeId} {x y : Operand} {u v r : Value} (ho : o.op = .binOp op t x y t2) (hx : a.eval x = u) (hy : a.eval y = v)
  (hg : (eqGuard op t x y u v).run P w = .ok () w) (hr : (binOp op t u v).run P w = .ok r w) : (execOp a.eval o).run P w = .ok (.value r) w := by
 unfold execOp
 simp [ho, hx, hy, hg, hr]
/-! Builds and stores by their runs. -/
theorem exec_build {P : Program} {o : Oper} {a : Act} {w : World} {t : TypeId} {parts : Array (Nat × Operand)} {ps : Array (Nat × Value)} {v : Value} (ho : o.op = .build t parts) (hp : parts.map (fun x => (x.1, a.eval x.2)) = ps)
  (hr : (Instr.build t ps).run P w = .ok v w) : (execOp a.eval o).run P w = .ok (.value v) w := by
 unfold execOp
 simp only [ho, hp, Sem.run_bind, hr, Result.andThen_ok, Sem.run_pure]
theorem step_build {P : Program} {ops : Array Oper} {rest : List Oper} {o : Oper} {a : Act} {w : World} {Q : Exit → Act → World → Prop} {t : TypeId} {parts : Array (Nat × Operand)} {ps : Array (Nat × Value)} {v : Value} (hg : o.guard = none) (ho : o.op = .build t parts) (hp : parts.map (fun x => (x.1, a.eval x.2)) = ps)
  (hr : (Instr.build t ps).run P w = .ok v w) (h : wpList P ops Q rest (a.put o.dst v) w) : wpList P ops Q (o :: rest) a w := by
 refine wpList_plain hg fun K hK => ?_
 unfold Oper.wp
 rw [exec_build ho hp hr]
 exact hK _ _ h
theorem step_store_run {P : Program} {ops : Array Oper} {rest : List Oper} {o : Oper} {a : Act} {w w' : World} {Q : Exit → Act → World → Prop} {t : TypeId} {x y : Operand} {p v : Value} (hg : o.guard = none) (ho : o.op = .store t x y) (hx : a.eval x = p) (hy : a.eval y = v)
  (hr : (Instr.storeAt t p v).run P w = .ok () w') (h : wpList P ops Q rest (a.put o.dst undef) w') : wpList P ops Q (o :: rest) a w := by
 refine wpList_plain hg fun K hK => ?_
 unfold Oper.wp execOp
 simp only [ho, hx, hy, Sem.run_bind, hr, Result.andThen_ok, Sem.run_pure]
 exact hK _ _ h
/-- in a drawn region -/
theorem want_store_run {P : Program} {ops : Array Oper} {o : Oper} {a : Act} {w w' : World} {K : Act → World → Prop} {Q : Exit → Act → World → Prop} {E : Prop} {t : TypeId} {x y : Operand} {p v : Value} (hg : o.guard = none)
  (ho : o.op = .store t x y) (hx : a.eval x = p) (hy : a.eval y = v) (h : (Instr.storeAt t p v).run P w = .ok () w') (hK : K (a.put o.dst undef) w') :
  if Region.wanted o (yielded ops a.tmps) = true then Oper.wp P o a w K Q else E := by
 have hw : Region.wanted o (yielded ops a.tmps) = true := by simp [Region.wanted, hg]
 rw [if_pos hw]
 unfold Oper.wp execOp
 simp only [ho, hx, hy, Sem.run_bind, h, Result.andThen_ok, Sem.run_pure]
 exact hK
end Go.Proofs.YtpeneeddfgmjpaaGreatDoor.mem

namespace Go.Proofs.YtpeneeddfgmjpaaGreatDoor.ids
open Go.RowKit Go.Proofs.YtpeneeddfgmjpaaGreatDoor.mem

/-- the cells xs lie from the address on -/
def Rd (w : World) (ad : Option Addr) (xs : List Value) : Prop :=
 xs = [] ∨ ∃ b off, ad = some ⟨b, off, none⟩ ∧ b < w.heap.size ∧ ∀ k v, xs[k]? = some v → w.cell? ⟨b, off + k, none⟩ = some v
theorem Rd.nil (w : World) (ad : Option Addr) : Rd w ad [] := .inl rfl
theorem Rd.turn {F : Nat → Prop} {w w' : World} {ad : Option Addr} {xs : List Value} (h : Rd w ad xs) (ht : Turn F w w') (hF : ∀ b off, ad = some ⟨b, off, none⟩ → b < w.heap.size → ¬ F b) : Rd w' ad xs := by
 rcases h with h | ⟨b, off, h, hb, hc⟩
 ·
  exact .inl h
 ·
  exact .inr ⟨b, off, h, Nat.lt_of_lt_of_le hb ht.size, fun k v hv => (ht.cell (hF b off h hb)).trans (hc k v hv)⟩
theorem Rd.below {w w' : World} {ad : Option Addr} {xs : List Value} (h : Rd w ad xs) {B : Nat} (hb : Below B w w') (hB : w.heap.size ≤ B) : Rd w' ad xs :=
 h.turn (Turn.ofBelow hb) fun b _ _ hlt => by omega
theorem Rd.drewN {w : World} {ad : Option Addr} {xs : List Value} (h : Rd w ad xs) (n : Nat) : Rd (w.drewN n) ad xs := h
/-- 'append' of a list, in a plain region -/
theorem step_append {P : Program} {ops : Array Oper} {rest : List Oper} {o : Oper} {a : Act} {w w' : World} {Q : Exit → Act → World → Prop} {s x : Operand} {t : TypeId} {vs vx v' : Value} (hg : o.guard = none)
  (ho : o.op = .call { callee := .builtin .append, args := #[s, x], argTypes := #[t, t] }) (hs : a.eval s = vs) (hx : a.eval x = vx)
  (hr : (Builtin.append_ #[t, t] o.type #[vs, vx]).run P w = .ok v' w') (h : wpList P ops Q rest (a.put o.dst v') w') : wpList P ops Q (o :: rest) a w := by
 refine wpList_plain hg fun K hK => ?_
 unfold Oper.wp
 simp [execOp, ho, resolve, invoke, builtin, hs, hx, hr, Result.andThen]
 exact hK _ _ h
/-- a piece of a list, in a plain region -/
theorem step_slice {P : Program} {ops : Array Oper} {rest : List Oper} {o : Oper} {a : Act} {w : World} {Q : Exit → Act → World → Prop} {t : TypeId} {x : Operand} {lo hi : Option Operand} {vx v : Value} {vlo vhi : Option Value} (hg : o.guard = none)
  (ho : o.op = .slice t x lo hi none) (hx : a.eval x = vx) (hlo : lo.map a.eval = vlo) (hhi : hi.map a.eval = vhi) (hr : (Instr.sliceAt t vx vlo vhi none).run P w = .ok v w) (h : wpList P ops Q rest (a.put o.dst v) w) : wpList P ops Q (o :: rest) a w := by
 refine wpList_plain hg fun K hK => ?_
 unfold Oper.wp execOp
 simp only [ho, hx, hlo, hhi, Option.map_none, Sem.run_bind, hr, Result.andThen_ok, Sem.run_pure]
 exact hK _ _ h
theorem want_append {P : Program} {ops : Array Oper} {o : Oper} {a : Act} {w w' : World} {K : Act → World → Prop} {Q : Exit → Act → World → Prop} {E : Prop} {s x : Operand} {t : TypeId} {vs vx v' : Value} (hg : o.guard = none)
  (ho : o.op = .call { callee := .builtin .append, args := #[s, x], argTypes := #[t, t] }) (hs : a.eval s = vs) (hx : a.eval x = vx)
  (hr : (Builtin.append_ #[t, t] o.type #[vs, vx]).run P w = .ok v' w') (hK : K (a.put o.dst v') w') : if Region.wanted o (yielded ops a.tmps) = true then Oper.wp P o a w K Q else E := by
 have hw : Region.wanted o (yielded ops a.tmps) = true := by simp [Region.wanted, hg]
 rw [if_pos hw]
 unfold Oper.wp
 simp [execOp, ho, resolve, invoke, builtin, hs, hx, hr, Result.andThen]
 exact hK
end Go.Proofs.YtpeneeddfgmjpaaGreatDoor.ids

namespace Go.Proofs.YtpeneeddfgmjpaaGreatDoor.sha

structure W8 where
 (a b c d e f g h : UInt32)
deriving DecidableEq
def rr (n m : UInt32) (x : UInt32) : UInt32 := x >>> n ||| x <<< m
def firstL : List UInt32 := [1779033703, 3144134277, 1013904242, 2773480762, 1359893119, 2600822924, 528734635, 1541459225]
def kL : List UInt32 := [1116352408, 1899447441, 3049323471, 3921009573, 961987163, 1508970993, 2453635748, 2870763221, 3624381080, 310598401, 607225278, 1426881987, 1925078388, 2162078206, 2614888103, 3248222580, 3835390401, 4022224774, 264347078, 604807628, 770255983, 1249150122, 1555081692, 1996064986, 2554220882, 2821834349, 2952996808, 3210313671, 3336571891, 3584528711, 113926993, 338241895, 666307205, 773529912, 1294757372, 1396182291, 1695183700, 1986661051, 2177026350, 2456956037, 2730485921, 2820302411, 3259730800, 3345764771, 3516065817, 3600352804, 4094571909, 275423344, 430227734, 506948616, 659060556, 883997877, 958139571, 1322822218, 1537002063, 1747873779, 1955562222, 2024104815, 2227730452, 2361852424, 2428436474, 2756734187, 3204031479, 3329325298]
def kk (i : Nat) : UInt32 := kL.getD i 0
def sig0 (x : UInt32) : UInt32 := rr 7 25 x ^^^ rr 18 14 x ^^^ x >>> 3
def sig1 (x : UInt32) : UInt32 := rr 17 15 x ^^^ rr 19 13 x ^^^ x >>> 10
/-- the next word behind those that p is -/
def nw (p : List UInt32) : UInt32 := p.getD (p.length - 16) 0 + sig0 (p.getD (p.length - 15) 0) + p.getD (p.length - 7) 0 + sig1 (p.getD (p.length - 2) 0)
/-- the first i words of a block whose sixteen words are m -/
def wl (m : Nat → UInt32) : Nat → List UInt32
 | 0 => []
 | i + 1 => wl m i ++ [if i < 16 then m i else nw (wl m i)]
def rnd (s : W8) (k w : UInt32) : W8 :=
 let t := s.h + (rr 6 26 s.e ^^^ rr 11 21 s.e ^^^ rr 25 7 s.e) + (s.e &&& s.f ^^^ ~~~s.e &&& s.g) + k + w
 let u := (rr 2 30 s.a ^^^ rr 13 19 s.a ^^^ rr 22 10 s.a) + (s.a &&& s.b ^^^ s.a &&& s.c ^^^ s.b &&& s.c)
 ⟨t + u, s.a, s.b, s.c, s.d + t, s.e, s.f, s.g⟩
/-- i rounds -/
def rn (w : Nat → UInt32) (s : W8) : Nat → W8
 | 0 => s
 | i + 1 => rnd (rn w s i) (kk i) (w i)
def addW (x y : W8) : W8 := ⟨x.a + y.a, x.b + y.b, x.c + y.c, x.d + y.d, x.e + y.e, x.f + y.f, x.g + y.g, x.h + y.h⟩
def word (a b c d : UInt8) : UInt32 := a.toUInt32 <<< 24 ||| b.toUInt32 <<< 16 ||| c.toUInt32 <<< 8 ||| d.toUInt32
/-- the sixteen words of a block of bytes -/
def ms (b : List UInt8) (i : Nat) : UInt32 := word (b.getD (4 * i) 0) (b.getD (4 * i + 1) 0) (b.getD (4 * i + 2) 0) (b.getD (4 * i + 3) 0)
def sched (b : List UInt8) : List UInt32 := wl (ms b) 64
def turn (h : W8) (w : List UInt32) : W8 := addW h (rn (fun i => w.getD i 0) h 64)
def blk (h : W8) (b : List UInt8) : W8 := turn h (sched b)
def iv : W8 := ⟨0x6a09e667, 0xbb67ae85, 0x3c6ef372, 0xa54ff53a, 0x510e527f, 0x9b05688c, 0x1f83d9ab, 0x5be0cd19⟩
/-- the words behind the first n blocks of l -/
def fb (l : List UInt8) : Nat → W8
 | 0 => iv
 | n + 1 => blk (fb l n) ((l.drop (64 * n)).take 64)
def wList (s : W8) : List UInt32 := [s.a, s.b, s.c, s.d, s.e, s.f, s.g, s.h]
def be32 (x : UInt32) : List UInt8 := [(x >>> 24).toUInt8, (x >>> 16).toUInt8, (x >>> 8).toUInt8, x.toUInt8]
def idb (s : W8) : List UInt8 := be32 s.a ++ be32 s.b ++ be32 s.c ++ be32 s.d ++ be32 s.e ++ be32 s.f ++ be32 s.g ++ be32 s.h
def be64 (n : Nat) : List UInt8 := [UInt8.ofNat (n / 2 ^ 56), UInt8.ofNat (n / 2 ^ 48), UInt8.ofNat (n / 2 ^ 40), UInt8.ofNat (n / 2 ^ 32), UInt8.ofNat (n / 2 ^ 24), UInt8.ofNat (n / 2 ^ 16), UInt8.ofNat (n / 2 ^ 8), UInt8.ofNat n]
/-- what stands behind n bytes -/
def ending (n : Nat) : List UInt8 := 128 :: List.replicate ((119 - n % 64) % 64) 0 ++ be64 (8 * n)
def digest (l : List UInt8) : List UInt8 := idb (fb (l ++ ending l.length) ((l ++ ending l.length).length / 64))

theorem digest_abc : digest [97, 98, 99] = [186, 120, 22, 191, 143, 1, 207, 234, 65, 65, 64, 222, 93, 174, 34, 35, 176, 3, 97, 163, 150, 23, 122, 156, 180, 16, 255, 97, 242, 0, 21, 173] := by decide +kernel
theorem digest_nil : digest [] = [227, 176, 196, 66, 152, 252, 28, 20, 154, 251, 244, 200, 153, 111, 185, 36, 39, 174, 65, 228, 100, 155, 147, 76, 164, 149, 153, 27, 120, 82, 184, 85] := by decide +kernel

/-! The model's numbers. -/
def U (x : UInt32) : Int := (x.toNat : Int)
def u32 (x : UInt32) : Value := .int .u32 (U x)
theorem U_nonneg (x : UInt32) : 0 ≤ U x := Int.natCast_nonneg _
theorem U_lt (x : UInt32) : U x < 4294967296 := by have := x.toNat_lt; unfold U; omega
theorem U_xor (a b : UInt32) : bits .xor .u32 (U a) (U b) = U (a ^^^ b) := by
 unfold U; rw [u32_xor_nat _ _ a.toNat_lt b.toNat_lt, UInt32.toNat_xor]
theorem U_and (a b : UInt32) : bits .and .u32 (U a) (U b) = U (a &&& b) := by
 unfold U; rw [u32_and_nat _ _ a.toNat_lt b.toNat_lt, UInt32.toNat_and]
theorem U_or (a b : UInt32) : bits .or .u32 (U a) (U b) = U (a ||| b) := by
 unfold U; rw [u32_or_nat _ _ a.toNat_lt b.toNat_lt, UInt32.toNat_or]
theorem U_not (a : UInt32) : bits .xor .u32 4294967295 (U a) = U (~~~a) := by
 have h : (4294967295 : Int) = U 0xffffffff := by decide
 rw [h, U_xor]
 congr 1
theorem U_add (a b : UInt32) : (U a + U b) % 4294967296 = U (a + b) := by
 unfold U; rw [UInt32.toNat_add]; omega
theorem U_add' (a b : UInt32) : IntKind.u32.wrap (U a + U b) = U (a + b) := by
 rw [IntKind.wrap_u32', U_add]
theorem U_shr (n : UInt32) (a : UInt32) (m : Nat) (hm : n.toNat = m) (hn : m < 32 := by decide) : U a / ((2 ^ m : Nat) : Int) = U (a >>> n) := by
 unfold U
 rw [UInt32.toNat_shiftRight, hm, Nat.mod_eq_of_lt hn, Nat.shiftRight_eq_div_pow]
 rfl
theorem U_shl (n : UInt32) (a : UInt32) (m : Nat) (hm : n.toNat = m) (hn : m < 32 := by decide) : U a * ((2 ^ m : Nat) : Int) % 4294967296 = U (a <<< n) := by
 unfold U
 rw [UInt32.toNat_shiftLeft, hm, Nat.mod_eq_of_lt hn, Nat.shiftLeft_eq]
 rfl
/-! The model's bytes, and rows of words and bytes. -/
def B (x : UInt8) : Int := (x.toNat : Int)
theorem B_nonneg (x : UInt8) : 0 ≤ B x := Int.natCast_nonneg _
theorem B_lt (x : UInt8) : B x < 256 := by have := x.toNat_lt; unfold B; omega
theorem B_word (x : UInt8) : B x = U x.toUInt32 := by unfold B U; rw [UInt8.toNat_toUInt32]
theorem B_wrap (x : UInt8) : IntKind.u32.wrap (B x) = U x.toUInt32 := by
 rw [IntKind.wrap_u32', ← B_word]; have := B_nonneg x; have := B_lt x; omega
theorem B_mod (x : UInt8) : B x % 4294967296 = U x.toUInt32 := by
 rw [← B_word]; have := B_nonneg x; have := B_lt x; omega
def uv (l : List UInt32) : List Value := l.map fun x => Value.int .u32 (U x)
def bv (l : List UInt8) : List Value := l.map fun x => Value.int .u8 (B x)
theorem uv_length (l : List UInt32) : (uv l).length = l.length := List.length_map ..
theorem bv_length (l : List UInt8) : (bv l).length = l.length := List.length_map ..
theorem uv_append (a b : List UInt32) : uv (a ++ b) = uv a ++ uv b := List.map_append
theorem bv_append (a b : List UInt8) : bv (a ++ b) = bv a ++ bv b := List.map_append
theorem uv_get (l : List UInt32) (i : Nat) (h : i < l.length) : (uv l)[i]? = some (.int .u32 (U (l.getD i 0))) := by
 unfold uv
 rw [List.getElem?_map, List.getElem?_eq_getElem h, List.getD_eq_getElem?_getD, List.getElem?_eq_getElem h]
 rfl
theorem bv_get (l : List UInt8) (i : Nat) (h : i < l.length) : (bv l)[i]? = some (.int .u8 (B (l.getD i 0))) := by
 unfold bv
 rw [List.getElem?_map, List.getElem?_eq_getElem h, List.getD_eq_getElem?_getD, List.getElem?_eq_getElem h]
 rfl
theorem one_uv (l : List UInt32) : (uv l).toArray.all (·.oneCell') = true := by
 rw [List.all_toArray]
 simp only [List.all_eq_true, uv, List.mem_map]
 rintro _ ⟨x, _, rfl⟩
 rfl
theorem one_bv (l : List UInt8) : (bv l).toArray.all (·.oneCell') = true := by
 rw [List.all_toArray]
 simp only [List.all_eq_true, bv, List.mem_map]
 rintro _ ⟨x, _, rfl⟩
 rfl
theorem wl_length (m : Nat → UInt32) : ∀ i, (wl m i).length = i
 | 0 => rfl
 | i + 1 => by simp only [wl, List.length_append, List.length_cons, List.length_nil, wl_length m i]
/-- the row of 64 words behind the first i of them -/
def wrow (m : Nat → UInt32) (i : Nat) : List UInt32 := wl m i ++ List.replicate (64 - i) 0
theorem wrow_length (m : Nat → UInt32) (i : Nat) (h : i ≤ 64) : (wrow m i).length = 64 := by
 simp only [wrow, List.length_append, wl_length, List.length_replicate]; omega
theorem wrow_get (m : Nat → UInt32) (i j : Nat) (h : j < i) : (wrow m i).getD j 0 = (wl m i).getD j 0 := by
 unfold wrow
 rw [List.getD_eq_getElem?_getD, List.getD_eq_getElem?_getD, List.getElem?_append_left (by rw [wl_length]; exact h)]
theorem wrow_set (m : Nat → UInt32) (i : Nat) (h : i < 64) : (uv (wrow m i)).set i (.int .u32 (U (if i < 16 then m i else nw (wl m i)))) = uv (wrow m (i + 1)) := by
 have e : 64 - i = (64 - (i + 1)) + 1 := by omega
 have hl : (uv (wl m i)).length = i := by rw [uv_length, wl_length]
 unfold wrow
 rw [uv_append, uv_append, e, List.replicate_succ, List.set_append_right _ _ (by omega), hl, Nat.sub_self]
 simp only [wl, uv_append, List.append_assoc]
 rfl
theorem wrow_last (m : Nat → UInt32) : wrow m 64 = wl m 64 := by simp [wrow]
theorem wrow_zero (m : Nat → UInt32) : wrow m 0 = List.replicate 64 0 := rfl
theorem or_comm32 (a b : UInt32) : a ||| b = b ||| a := UInt32.or_comm a b
end Go.Proofs.YtpeneeddfgmjpaaGreatDoor.sha

namespace Go.Proofs.YtpeneeddfgmjpaaGreatDoor.ids
open Go.RowKit Go.Proofs.YtpeneeddfgmjpaaGreatDoor.mem Go.Proofs.YtpeneeddfgmjpaaGreatDoor.sha

def okIds (L : List (List UInt8)) : Prop := ∀ x ∈ L, x.length = 32
def idv (x : List UInt8) : Value := .agg (bv x).toArray
def fl : List (List UInt8) → List Value
 | [] => []
 | x :: L => bv x ++ fl L
theorem okIds.nil : okIds [] := fun _ h => by cases h
theorem okIds.append {L M : List (List UInt8)} (h : okIds L) (k : okIds M) : okIds (L ++ M) := fun x hx => (List.mem_append.1 hx).elim (h x) (k x)
theorem okIds.one {x : List UInt8} (h : x.length = 32) : okIds [x] := fun y hy => by rw [List.mem_singleton.1 hy]; exact h
theorem okIds.take {L : List (List UInt8)} (h : okIds L) (k : Nat) : okIds (L.take k) := fun x hx => h x (List.mem_of_mem_take hx)
theorem okIds.drop {L : List (List UInt8)} (h : okIds L) (k : Nat) : okIds (L.drop k) := fun x hx => h x (List.mem_of_mem_drop hx)
theorem okIds.get {L : List (List UInt8)} (h : okIds L) {i : Nat} (hi : i < L.length) : (L.getD i []).length = 32 := by
 rw [List.getD_eq_getElem?_getD, List.getElem?_eq_getElem hi]
 exact h _ (List.getElem_mem _)
theorem fl_append : ∀ L M : List (List UInt8), fl (L ++ M) = fl L ++ fl M
 | [], _ => rfl
 | x :: L, M => by rw [List.cons_append, fl, fl, fl_append L M, List.append_assoc]
theorem fl_len : ∀ {L : List (List UInt8)}, okIds L → (fl L).length = L.length * 32
 | [], _ => rfl
 | x :: L, h => by
  rw [fl, List.length_append, bv_length, h x List.mem_cons_self, fl_len (fun y hy => h y (List.mem_cons_of_mem _ hy)), List.length_cons, Nat.succ_mul]
  omega
theorem fl_one (x : List UInt8) : fl [x] = bv x := by rw [fl, fl, List.append_nil]
theorem fl_drop : ∀ (i : Nat) {L : List (List UInt8)}, okIds L → (fl L).drop (i * 32) = fl (L.drop i)
 | 0, L, _ => by rw [Nat.zero_mul, List.drop_zero, List.drop_zero]
 | i + 1, [], _ => by rw [fl, List.drop_nil, List.drop_nil, fl]
 | i + 1, x :: L, h => by
  have hx : (bv x).length = 32 := by rw [bv_length]; exact h x List.mem_cons_self
  rw [fl, List.drop_succ_cons, ← fl_drop i (fun y hy => h y (List.mem_cons_of_mem _ hy)), Nat.succ_mul, Nat.add_comm, ← List.drop_drop, List.drop_left' hx]
theorem fl_take : ∀ (i : Nat) {L : List (List UInt8)}, okIds L → (fl L).take (i * 32) = fl (L.take i)
 | 0, L, _ => by rw [Nat.zero_mul, List.take_zero, List.take_zero, fl]
 | i + 1, [], _ => by rw [fl, List.take_nil, List.take_nil, fl]
 | i + 1, x :: L, h => by
  have hx : (bv x).length = 32 := by rw [bv_length]; exact h x List.mem_cons_self
  rw [fl, List.take_succ_cons, fl, ← fl_take i (fun y hy => h y (List.mem_cons_of_mem _ hy)), Nat.succ_mul, Nat.add_comm, List.take_append, hx, List.take_of_length_le (by omega), show 32 + i * 32 - 32 = i * 32 by omega]
theorem fl_get {L : List (List UInt8)} (h : okIds L) {i j : Nat} (hi : i < L.length) (hj : j < 32) : (fl L)[i * 32 + j]? = some (.int .u8 (B ((L.getD i []).getD j 0))) := by
 have hx := h.get hi
 have e : L.drop i = L.getD i [] :: L.drop (i + 1) := by rw [List.getD_eq_getElem?_getD, List.getElem?_eq_getElem hi, Option.getD_some, List.drop_eq_getElem_cons hi]
 rw [← List.getElem?_drop, fl_drop i h, e, fl, List.getElem?_append_left (by rw [bv_length, hx]; exact hj)]
 exact bv_get _ _ (by rw [hx]; exact hj)
theorem one_fl (L : List (List UInt8)) : ∀ u ∈ fl L, u.oneCell' = true := by
 induction L with
 | nil => intro u hu; cases hu
 | cons x L ih =>
  intro u hu
  rw [fl] at hu
  rcases List.mem_append.1 hu with h | h
  ·
   simp only [bv, List.mem_map] at h
   obtain ⟨y, _, rfl⟩ := h
   rfl
  ·
   exact ih u h

theorem info_id : (Tryz.prog.info? 24).map (fun i => (i.zero, i.size, i.bytes)) = some (some (.agg (Array.replicate 32 (.int .u8 0))), 32, 32) := by kernel_rfl
theorem info_id' : (Tryz.prog.info? 24).map (·.size) = some 32 := by kernel_rfl

/-- an id out of a list -/
theorem run_load_id {w : World} {b off : Nat} {L : List (List UInt8)} (hL : okIds L) (hc : ∀ k v, (fl L)[k]? = some v → w.cell? ⟨b, off + k, none⟩ = some v) {i : Nat} (hi : i < L.length) :
  (Instr.loadAt 24 (.pointer (some ⟨b, off + i * 32, none⟩))).run Tryz.prog w = .ok (idv (L.getD i [])) w := by
 have hx := hL.get hi
 refine run_load_mid w b (off + i * 32) 32 24 5 (bv (L.getD i [])) (fun j v hv => ?_) Tryz.underlying24 (by rw [info_id', bv_length, hx])
 have hj : j < 32 := by have := (List.getElem?_eq_some_iff.1 hv).1; rw [bv_length, hx] at this; exact this
 rw [bv_get _ _ (by rw [hx]; exact hj)] at hv
 rw [Nat.add_assoc]
 exact (hc _ _ (fl_get hL hi hj)).trans hv
theorem Rd.load {w : World} {ad : Option Addr} {L : List (List UInt8)} (h : Rd w ad (fl L)) (hL : okIds L) {i : Nat} (hi : i < L.length) :
  ∃ b off, ad = some ⟨b, off, none⟩ ∧ b < w.heap.size ∧ (∀ k v, (fl L)[k]? = some v → w.cell? ⟨b, off + k, none⟩ = some v) := by
 rcases h with h | ⟨b, off, h, hb, hc⟩
 ·
  have := fl_len hL; rw [h] at this; simp at this; omega
 ·
  exact ⟨b, off, h, hb, hc⟩

/-- a list of the call's own, its row one of F, one that grows in place -/
def OwnI (w : World) (F : Nat → Prop) (v : Value) (L : List (List UInt8)) : Prop := okIds L ∧ w.ownsRow 0 24 32 v L.length (fl L) ∧ ∀ k, v.ownBlock = some k → F k
theorem OwnI.nil (w : World) (F : Nat → Prop) : OwnI w F (.slice none 0 0) [] := ⟨okIds.nil, World.ownsRow_nil w 0 _ 32, fun k hk => by simp [Value.ownBlock] at hk⟩
theorem OwnI.turn {w w' : World} {F G : Nat → Prop} {v : Value} {L : List (List UInt8)} (h : OwnI w F v L) (ht : Turn G w w') (hg : ∀ k, v.ownBlock = some k → ¬ G k) : OwnI w' F v L := by
 refine ⟨h.1, ⟨h.2.1.1, ?_⟩, h.2.2⟩
 rcases h.2.1.2 with h0 | ⟨g, cap, cur, rfl, hb, hh, hr⟩
 ·
  exact .inl h0
 ·
  exact .inr ⟨g, cap, cur, rfl, hb, (ht.block g (hg g rfl)).trans hh, hr⟩
theorem OwnI.mono {w : World} {F G : Nat → Prop} {v : Value} {L : List (List UInt8)} (h : OwnI w F v L) (hFG : ∀ k, F k → G k) : OwnI w G v L := ⟨h.1, h.2.1, fun k hk => hFG k (h.2.2 k hk)⟩
theorem OwnI.lt {w : World} {F : Nat → Prop} {v : Value} {L : List (List UInt8)} (h : OwnI w F v L) {k : Nat} (hk : v.ownBlock = some k) : k < w.heap.size := (h.2.1.lt k hk).2
theorem OwnI.below {w w' : World} {F : Nat → Prop} {v : Value} {L : List (List UInt8)} (h : OwnI w F v L) (hb : Below w.heap.size w w') : OwnI w' F v L :=
 h.turn (Turn.ofBelow hb) fun k hk => by have := h.lt hk; omega
/-- its form, and how it reads -/
theorem OwnI.form {w : World} {F : Nat → Prop} {v : Value} {L : List (List UInt8)} (h : OwnI w F v L) : ∃ ad cap, v = .slice ad L.length cap ∧ Rd w ad (fl L) ∧ (∀ b off z, ad = some ⟨b, off, z⟩ → F b) := by
 rcases h.2.1.2 with ⟨rfl, hn⟩ | ⟨g, cap, cur, rfl, hb, hh, hr⟩
 ·
  refine ⟨none, 0, by rw [hn], ?_, fun b off z hz => by cases hz⟩
  have : L = [] := List.eq_nil_of_length_eq_zero hn
  subst this
  exact .inl rfl
 ·
  refine ⟨some ⟨g, 0, none⟩, cap, rfl, .inr ⟨g, 0, rfl, (Array.getElem?_eq_some_iff.1 hh).1, fun k u hu => ?_⟩, fun b off z hz => ?_⟩
  ·
   have := h.2.1.cells (g := g) rfl k u hu
   rw [Addr.add_lit] at this
   exact this
  ·
   cases hz; exact h.2.2 g rfl

theorem eql_ids (w : World) (xs ys : List UInt8) (hx : xs.length = 32) (hy : ys.length = 32) : (binOp .eql 24 (idv xs) (idv ys)).run Tryz.prog w = .ok (.bool (xs == ys)) w := by
 obtain ⟨y, hy5, _, hs, _⟩ := info_parts info5
 exact run_eql_bytes w 24 5 32 Tryz.underlying24 Tryz.underlying5 (fun w => by simp [sizeOf, typeInfo, hy5, hs]) xs ys hx hy
theorem equalIn_ids (w : World) (xs ys : List UInt8) (hx : xs.length = 32) (hy : ys.length = 32) : (Op.equalIn 10000 24 (.agg (bv xs).toArray) (.agg (bv ys).toArray)).run Tryz.prog w = .ok (xs == ys) w := by
 obtain ⟨y, hy5, _, hs, _⟩ := info_parts info5
 exact run_equalIn_bytes w 9998 24 5 32 Tryz.underlying24 Tryz.underlying5 (fun w => by simp [sizeOf, typeInfo, hy5, hs]) xs ys hx hy
theorem neq_ids (w : World) (xs ys : List UInt8) (hx : xs.length = 32) (hy : ys.length = 32) : (binOp .neq 24 (idv xs) (idv ys)).run Tryz.prog w = .ok (.bool (xs != ys)) w := by
 obtain ⟨y, hy5, _, hs, _⟩ := info_parts info5
 have h : (Op.equalIn 10000 24 (.agg (bv xs).toArray) (.agg (bv ys).toArray)).run Tryz.prog w = .ok (xs == ys) w := run_equalIn_bytes w 9998 24 5 32 Tryz.underlying24 Tryz.underlying5 (fun w => by simp [sizeOf, typeInfo, hy5, hs]) xs ys hx hy
 unfold idv
 rw [run_neq_struct, h]
 rfl

/-- a list of ids as a value -/
structure RdV (w : World) (v : Value) (L : List (List UInt8)) : Prop where
 ok : okIds L
 max : L.length ≤ 4398046511104
 at_ : ∃ ad cap, v = .slice ad L.length cap ∧ L.length ≤ cap ∧ cap ≤ maxLen ∧ (ad = none → cap = 0) ∧ (∀ a, ad = some a → 0 < cap → ∃ b off, a = ⟨b, off, none⟩) ∧ Rd w ad (fl L)
theorem RdV.turn {F : Nat → Prop} {w w' : World} {ad : Option Addr} {n cap : Nat} {L : List (List UInt8)} (h : RdV w (.slice ad n cap) L) (ht : Turn F w w') (hF : ∀ b off, ad = some ⟨b, off, none⟩ → b < w.heap.size → ¬ F b) : RdV w' (.slice ad n cap) L := by
 obtain ⟨h1, h2, ad', cap', hv, h3, h4, h5, h6, h7⟩ := h
 cases hv
 exact ⟨h1, h2, ad, cap, rfl, h3, h4, h5, h6, h7.turn ht hF⟩
theorem RdV.below {w w' : World} {v : Value} {L : List (List UInt8)} (h : RdV w v L) {B : Nat} (hb : Below B w w') (hB : w.heap.size ≤ B) : RdV w' v L := by
 obtain ⟨h1, h2, ad', cap', hv, h3, h4, h5, h6, h7⟩ := h
 exact ⟨h1, h2, ad', cap', hv, h3, h4, h5, h6, h7.below hb hB⟩
theorem RdV.next {w w' : World} {v : Value} {L : List (List UInt8)} (h : RdV w v L) (hb : Below w.heap.size w w') : RdV w' v L := h.below hb (Nat.le_refl _)
theorem RdV.form {w : World} {v : Value} {L : List (List UInt8)} (h : RdV w v L) : ∃ ad cap, v = .slice ad L.length cap := by
 obtain ⟨h1, h2, ad', cap', hv, _⟩ := h
 exact ⟨ad', cap', hv⟩
theorem RdV.len {w : World} {ad : Option Addr} {n cap : Nat} {L : List (List UInt8)} (h : RdV w (.slice ad n cap) L) : n = L.length := by
 obtain ⟨h1, h2, ad', cap', hv, _⟩ := h
 cases hv; rfl
theorem RdV.drewN {w : World} {v : Value} {L : List (List UInt8)} (h : RdV w v L) (n : Nat) : RdV (w.drewN n) v L := ⟨h.ok, h.max, h.at_⟩
theorem RdV.load {w : World} {ad : Option Addr} {n cap : Nat} {L : List (List UInt8)} (h : RdV w (.slice ad n cap) L) {i : Nat} (hi : i < L.length) :
  ∃ b off, ad = some ⟨b, off, none⟩ ∧ n = L.length ∧ b < w.heap.size ∧ ∀ m, (Instr.loadAt 24 (.pointer (some ⟨b, off + i * 32, none⟩))).run Tryz.prog (w.drewN m) = .ok (.agg (bv (L.getD i [])).toArray) (w.drewN m) := by
 obtain ⟨h1, h2, ad', cap', hv, h3, h4, h5, h6, h7⟩ := h
 cases hv
 obtain ⟨b, off, rfl, hb, hc⟩ := h7.load h1 hi
 exact ⟨b, off, rfl, rfl, hb, fun m => run_load_id (w := w.drewN m) h1 hc hi⟩
/-- .. where the address is known -/
theorem RdV.load_at {w : World} {b off : Nat} {n cap : Nat} {L : List (List UInt8)} (h : RdV w (.slice (some ⟨b, off, none⟩) n cap) L) {i : Nat} (hi : i < L.length) :
  (Instr.loadAt 24 (.pointer (some ⟨b, off + i * 32, none⟩))).run Tryz.prog w = .ok (.agg (bv (L.getD i [])).toArray) w := by
 obtain ⟨b', off', e, _, _, hl⟩ := h.load hi
 cases e
 exact hl 0
theorem RdV.load_y {w : World} {b off : Nat} {n cap : Nat} {L : List (List UInt8)} {y : List UInt8} (h : RdV w (.slice (some ⟨b, off, none⟩) n cap) L) {i : Nat} (hi : i < L.length) (e : L.getD i [] = y) :
  (Instr.loadAt 24 (.pointer (some ⟨b, off + i * 32, none⟩))).run Tryz.prog w = .ok (.agg (bv y).toArray) w := by
 rw [← e]; exact h.load_at hi
theorem box_load {w : World} {S : Nat} {x : List UInt8} (h : Blk w S 24 (bv x).toArray) (hx : x.length = 32) (m : Nat) : (Instr.loadAt 24 (.pointer (some ⟨S, 0, none⟩))).run Tryz.prog (w.drewN m) = .ok (.agg (bv x).toArray) (w.drewN m) := by
 refine run_load_mid (w.drewN m) S 0 32 24 5 (bv x) (fun j v hv => ?_) Tryz.underlying24 (by rw [info_id', bv_length, hx])
 rw [Nat.zero_add]
 have := h.cell j
 rw [List.getElem?_toArray, hv] at this
 exact this
theorem OwnI.rdv {w : World} {F : Nat → Prop} {v : Value} {L : List (List UInt8)} (h : OwnI w F v L) (hm : L.length ≤ 1099511627776) : RdV w v L ∧ ∀ b off n c, v = .slice (some ⟨b, off, none⟩) n c → F b := by
 refine ⟨⟨h.1, Nat.le_trans hm (by decide), ?_⟩, fun b off n c e => h.2.2 b (by rw [e]; rfl)⟩
 rcases h.2.1.2 with ⟨rfl, hn⟩ | ⟨g, cap, cur, rfl, hb, hh, hle, hcm, hr⟩
 ·
  have : L = [] := List.eq_nil_of_length_eq_zero hn
  subst this
  exact ⟨none, 0, rfl, Nat.le_refl _, Nat.zero_le _, fun _ => rfl, (fun a ha => by cases ha), .inl rfl⟩
 ·
  refine ⟨some ⟨g, 0, none⟩, cap, rfl, hle, hcm, fun h => (by cases h), fun a ha _ => (by cases ha; exact ⟨g, 0, rfl⟩), .inr ⟨g, 0, rfl, (Array.getElem?_eq_some_iff.1 hh).1, fun k u hu => ?_⟩⟩
  have := h.2.1.cells (g := g) rfl k u hu
  rw [Addr.add_lit] at this
  exact this

/-- '[]Id{x}' -/
theorem fold_set : ∀ (ys : List Value) (k : Nat) (arr : Array Value), k + ys.length ≤ arr.size →
  ((ys.zipIdx k).foldl (fun cs p => cs.setIfInBounds p.2 p.1) arr).toList = arr.toList.take k ++ ys ++ arr.toList.drop (k + ys.length)
 | [], k, arr, _ => by simp
 | y :: ys, k, arr, h => by
  rw [List.zipIdx_cons, List.foldl_cons, fold_set ys (k + 1) _ (by simp at h ⊢; omega)]
  have hk : k < arr.toList.length := by simp at h ⊢; omega
  rw [Array.toList_setIfInBounds, List.take_set, List.drop_set_of_lt (by omega), List.length_cons, List.take_succ_eq_append_getElem hk, List.set_append_right _ _ (by rw [List.length_take]; omega)]
  simp only [List.length_take]
  rw [Nat.min_eq_left (by omega), Nat.sub_self, List.set_cons_zero, show k + 1 + ys.length = k + (ys.length + 1) by omega]
  simp
theorem fold_all (ys : List Value) (arr : Array Value) (h : arr.size = ys.length) : (ys.zipIdx 0).foldl (fun cs p => cs.setIfInBounds p.2 p.1) arr = ys.toArray := by
 apply Array.ext'
 rw [fold_set ys 0 arr (by omega), List.take_zero, List.nil_append, List.drop_of_length_le (by rw [Array.length_toList]; omega), List.append_nil]
/-- a list that the statement has just laid -/
theorem RdV.laid (w : World) (L : List (List UInt8)) (h : okIds L) (hm : L.length ≤ 1099511627776) : RdV (w.alloc (.cells (fl L).toArray 24)) (.slice (some ⟨w.heap.size, 0, none⟩) L.length L.length) L :=
 ⟨h, Nat.le_trans hm (by decide), _, _, rfl, Nat.le_refl _, by unfold maxLen; omega, fun h => (by cases h), fun a ha _ => (by cases ha; exact ⟨_, _, rfl⟩), .inr ⟨w.heap.size, 0, rfl, by simp, fun k v hv => by
  rw [Nat.zero_add, (Blk.new w _ _).cell k, List.getElem?_toArray]; exact hv⟩⟩
theorem OwnI.laid0 (w : World) (F : Nat → Prop) (hF : New F w) : OwnI (w.alloc (.cells #[] 24)) F (.slice (some ⟨w.heap.size, 0, none⟩) 0 0) [] :=
 ⟨okIds.nil, ⟨rfl, .inr ⟨w.heap.size, 0, #[], rfl, Nat.zero_le _, heap_alloc_new w _, Nat.le_refl _, Nat.zero_le _, rfl, rfl⟩⟩, fun k hk => by
  injection hk with hk
  subst hk
  exact hF _ (Nat.le_refl _)⟩
/-- a whole id into a block known whole, in a plain region -/
theorem step_store_id {ops : Array Oper} {rest : List Oper} {o : Oper} {a : Act} {w : World} {Q : Exit → Act → World → Prop} {x y : Operand} {g : Nat} {z y' : List UInt8} (hg : o.guard = none) (ho : o.op = .store 24 x y)
  (hx : a.eval x = .pointer (some ⟨g, 0, none⟩)) (hy : a.eval y = .agg (bv y').toArray) (hb : Blk w g 24 (bv z).toArray) (hz : z.length = 32) (hl : y'.length = 32)
  (h : wpList Tryz.prog ops Q rest (a.put o.dst undef) (w.setRow g (bv y').toArray)) : wpList Tryz.prog ops Q (o :: rest) a w :=
 wpList_store_row hg 24 x y ho g (bv y').toArray hx hy 24 (bv z).toArray hb (by rw [info_id']; simp [bv_length, hl]) (by simp [bv_length, hz, hl]) (one_bv _) h
theorem Blk.stored {w : World} {g : Nat} {z y : List UInt8} (hb : Blk w g 24 (bv z).toArray) : Blk (w.setRow g (bv y).toArray) g 24 (bv y).toArray := setRow_heap w g _ (bv y).toArray _ _ hb
theorem turn_row (w : World) (g : Nat) (cs : Array Value) : Turn (· = g) w (w.setRow g cs) := ⟨rfl, rfl, rfl, by simp, fun k hk => setRow_other w g k _ hk⟩
end Go.Proofs.YtpeneeddfgmjpaaGreatDoor.ids
