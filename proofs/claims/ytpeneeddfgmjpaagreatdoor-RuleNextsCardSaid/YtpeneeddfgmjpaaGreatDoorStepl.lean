/-
  Memory: a block known whole, what has turned, a byte slice of the call's own.
  Bytes: what the model knows of their type; cells just laid.
  Single operations of a region that goes in the text's order, by hand.
  Loads of whole arrays, by hand.
-/
import Derived.Test.YtpeneeddfgmjpaaGreatDoorProg
import Derived.WalkKit
import Derived.Defers
import Derived.Lib.Hide
import Derived.Lib.AppendStr
import Derived.Maps.AppendAt
import Derived.Deep.QuietTactic
import Derived.BigQuiet
import Derived.LaidEqlPtr
import Derived.Lib.Builder
import Derived.WalkSpells
import Derived.Deep.WholeRow
import Derived.Stop.BytesEq
namespace Go.Proofs.YtpeneeddfgmjpaaGreatDoor.mem
open Go.RowKit

/-- block g is just the cells cs of element type t, none frozen -/
def Blk (w : World) (g : Nat) (t : TypeId) (cs : Array Value) : Prop := w.heap[g]? = some (.cells cs t (0, 0))

section
variable {w w' : World} {g : Nat} {t : TypeId} {cs : Array Value}
theorem Blk.lt (h : Blk w g t cs) : g < w.heap.size := by
 rcases Nat.lt_or_ge g w.heap.size with hlt | hge
 ·
  exact hlt
 ·
  unfold Blk at h; rw [Array.getElem?_eq_none hge] at h; cases h
theorem Blk.cell (h : Blk w g t cs) (i : Nat) : w.cell? ⟨g, i, none⟩ = cs[i]? := cell_of_row w g i cs t (0, 0) h
theorem Blk.frozen (h : Blk w g t cs) (i : Nat) : w.frozen? ⟨g, i, none⟩ = false := by
 unfold Blk at h
 simp [World.frozen?, h]
theorem Blk.new (w : World) (t : TypeId) (cs : Array Value) : Blk (w.alloc (.cells cs t)) w.heap.size t cs := heap_alloc_new w _
theorem Blk.at_ {g : Nat} (h : w.heap.size = g) (t : TypeId) (cs : Array Value) : Blk (w.alloc (.cells cs t)) g t cs := by subst h; exact Blk.new w t cs
theorem Blk.alloc (h : Blk w g t cs) (o : Obj) : Blk (w.alloc o) g t cs := (Below.heap_alloc w o g h.lt).trans h
theorem Blk.set_ (h : Blk w g t cs) (i : Nat) (u : Value) : Blk (w.setCell ⟨g, i, none⟩ u) g t (cs.setIfInBounds i u) := by
 unfold Blk at h ⊢
 simp [World.setCell, Array.getElem?_modify, h]
theorem Blk.far (h : Blk w g t cs) {p : Addr} (hp : g ≠ p.block) (u : Value) : Blk (w.setCell p u) g t cs := (Below.heap_setCell w p u g hp).trans h
theorem Blk.below {B : Nat} (h : Blk w g t cs) (hb : Below B w w') (hg : g < B) : Blk w' g t cs := (hb.block g hg).trans h
theorem Blk.grown {row : Option Nat} (h : Blk w g t cs) (hb : w.grownBy w' row) (hg : some g ≠ row) : Blk w' g t cs := (hb.block g h.lt hg).trans h
end

/-- of what was there only blocks of F have turned -/
structure Turn (F : Nat → Prop) (w w' : World) : Prop where
 os : w'.os = w.os
 tape : w'.tape = w.tape
 output : w'.output = w.output
 size : w.heap.size ≤ w'.heap.size
 block : ∀ k, ¬ F k → w'.heap[k]? = w.heap[k]?
/-- every block that is still to come is one of F -/
def New (F : Nat → Prop) (w : World) : Prop := ∀ k, w.heap.size ≤ k → F k

section
variable {F G : Nat → Prop} {w w' w'' : World}
theorem Turn.refl (F : Nat → Prop) (w : World) : Turn F w w := ⟨rfl, rfl, rfl, Nat.le_refl _, fun _ _ => rfl⟩
theorem Turn.trans (h : Turn F w w') (k : Turn F w' w'') : Turn F w w'' :=
 ⟨k.os.trans h.os, k.tape.trans h.tape, k.output.trans h.output, Nat.le_trans h.size k.size, fun i hi => (k.block i hi).trans (h.block i hi)⟩
theorem Turn.mono (h : Turn F w w') (hFG : ∀ k, F k → G k) : Turn G w w' := ⟨h.os, h.tape, h.output, h.size, fun k hk => h.block k fun hF => hk (hFG k hF)⟩
theorem New.of (hn : New F w) (h : w.heap.size ≤ w'.heap.size) : New F w' := fun k hk => hn k (Nat.le_trans h hk)
theorem New.turn (hn : New F w) (h : Turn G w w') : New F w' := hn.of h.size
theorem New.alloc (hn : New F w) (o : Obj) : New F (w.alloc o) := hn.of (by simp)
theorem Turn.alloc (h : Turn F w w') (hn : New F w) (o : Obj) : Turn F w (w'.alloc o) :=
 h.trans ⟨rfl, rfl, rfl, by simp, fun k hk => Below.heap_alloc _ _ _ (by
  rcases Nat.lt_or_ge k w'.heap.size with hl | hl
  ·
   exact hl
  ·
   exact absurd (hn k (Nat.le_trans h.size hl)) hk)⟩
theorem Turn.setCell (h : Turn F w w') {p : Addr} (hp : F p.block) (u : Value) : Turn F w (w'.setCell p u) :=
 h.trans ⟨rfl, rfl, rfl, by simp [World.setCell], fun k hk => Below.heap_setCell _ _ _ _ (fun e => hk (e ▸ hp))⟩
theorem Turn.drew (h : Turn F w w') : Turn F w w'.drew := ⟨h.os, h.tape, h.output, h.size, h.block⟩
theorem Turn.drewN (h : Turn F w w') (n : Nat) : Turn F w (w'.drewN n) := ⟨h.os, h.tape, h.output, h.size, h.block⟩
theorem Turn.below {B : Nat} (h : Turn F w w') (hB : ∀ k, F k → B ≤ k) : Below B w w' :=
 ⟨h.os, h.tape, h.output, h.size, fun k hk => h.block k fun hF => by have := hB k hF; omega⟩
theorem Turn.ofBelow {B : Nat} (h : Below B w w') : Turn (B ≤ ·) w w' := ⟨h.os, h.tape, h.output, h.size, fun k hk => h.block k (by omega)⟩
/-- what only makes memory turns nothing of F's complement -/
theorem Turn.fresh (h : Below w.heap.size w w') (hn : New F w) : Turn F w w' :=
 ⟨h.os, h.tape, h.output, h.size, fun k hk => h.block k (by
  rcases Nat.lt_or_ge k w.heap.size with hl | hl
  ·
   exact hl
  ·
   exact absurd (hn k hl) hk)⟩
theorem Turn.grown {row : Option Nat} (h : w.grownBy w' row) (hr : ∀ k, row = some k → F k) (hn : New F w) : Turn F w w' :=
 ⟨h.os, h.tape, h.output, h.size, fun k hk => h.block k (by
  rcases Nat.lt_or_ge k w.heap.size with hl | hl
  ·
   exact hl
  ·
   exact absurd (hn k hl) hk) (fun e => hk (hr k e.symm))⟩
theorem Blk.turn {g : Nat} {t : TypeId} {cs : Array Value} (h : Blk w g t cs) (ht : Turn F w w') (hg : ¬ F g) : Blk w' g t cs := (ht.block g hg).trans h
end

/-- v is a slice of bytes of the call's own, its row one of F: n bytes, the cells xs -/
def Owns (w : World) (F : Nat → Prop) (v : Value) (n : Nat) (xs : List Value) : Prop := w.ownsRow 0 5 1 v n xs ∧ ∀ k, v.ownBlock = some k → F k
theorem Owns.nil (w : World) (F : Nat → Prop) : Owns w F (.slice none 0 0) 0 [] := ⟨World.ownsRow_nil w 0 _ 1, fun k hk => by simp [Value.ownBlock] at hk⟩
theorem Owns.alloc {w : World} {F : Nat → Prop} {v : Value} {n : Nat} {xs : List Value} (h : Owns w F v n xs) (o : Obj) : Owns (w.alloc o) F v n xs := ⟨h.1.alloc o, h.2⟩
theorem Owns.turn {w w' : World} {F G : Nat → Prop} {v : Value} {n : Nat} {xs : List Value} (h : Owns w F v n xs) (ht : Turn G w w') (hg : ∀ k, v.ownBlock = some k → ¬ G k) : Owns w' F v n xs := by
 refine ⟨⟨h.1.1, ?_⟩, h.2⟩
 rcases h.1.2 with h0 | ⟨g, cap, cur, rfl, hb, hh, hr⟩
 ·
  exact .inl h0
 ·
  exact .inr ⟨g, cap, cur, rfl, hb, (ht.block g (hg g rfl)).trans hh, hr⟩
theorem Owns.mono {w : World} {F G : Nat → Prop} {v : Value} {n : Nat} {xs : List Value} (h : Owns w F v n xs) (hFG : ∀ k, F k → G k) : Owns w G v n xs := ⟨h.1, fun k hk => hFG k (h.2 k hk)⟩
/-- its row is no block of another element type -/
theorem Owns.ne_ {w : World} {F : Nat → Prop} {v : Value} {n : Nat} {xs : List Value} {g : Nat} {t : TypeId} {cs : Array Value} (h : Owns w F v n xs) (hg : Blk w g t cs) (hne : 5 ≠ t) : v.ownBlock ≠ some g := by
 rcases h.1.2 with ⟨rfl, _⟩ | ⟨g', cap, cur, rfl, _, hh, _⟩
 ·
  simp [Value.ownBlock]
 ·
  intro he
  have : g' = g := by simpa [Value.ownBlock] using he
  subst this
  unfold Blk at hg
  rw [hg] at hh
  injection hh with hh
  injection hh with _ ht
  exact hne ht.symm

theorem neq_nil_left {t e : TypeId} (a : Addr) (w : World) (h : Tryz.prog.underlying t = some (.pointer e)) : (binOp .neq t (.pointer none) (.pointer (some a))).run Tryz.prog w = .ok (.bool true) w := by
 have h1 : ∀ d : Nat, (Op.equalIn (d + 1) t (.pointer none) (.pointer (some a))).run Tryz.prog w = .ok false w := fun d => by
  simp [Op.equalIn, run_underlying h]
 simp only [binOp]
 simp [Op.equal, Op.maxDepth, h1 9999]

theorem Owns.lt {w : World} {F : Nat → Prop} {v : Value} {n : Nat} {xs : List Value} (h : Owns w F v n xs) {k : Nat} (hk : v.ownBlock = some k) : k < w.heap.size := by
 rcases h.1.2 with ⟨rfl, _⟩ | ⟨g', cap, cur, rfl, _, hh, _⟩
 ·
  simp [Value.ownBlock] at hk
 ·
  have : g' = k := by simpa [Value.ownBlock] using hk
  subst this
  exact Blk.lt hh
/-- the blocks that an append may turn: the row's own, and what is new -/
def Row (w : World) (v : Value) : Nat → Prop := fun k => v.ownBlock = some k ∨ w.heap.size ≤ k
theorem Row.new (w : World) (v : Value) : New (Row w v) w := fun _ hk => .inr hk
theorem Owns.row {w : World} {F : Nat → Prop} {v : Value} {n : Nat} {xs : List Value} (h : Owns w F v n xs) : Owns w (Row w v) v n xs := ⟨h.1, fun _ hk => .inl hk⟩
theorem Row.sub {w : World} {F : Nat → Prop} {v : Value} {n : Nat} {xs : List Value} (h : Owns w F v n xs) (hn : New F w) : ∀ k, Row w v k → F k := fun k hk => hk.elim (h.2 k) (hn k)
theorem Owns.form {w : World} {F : Nat → Prop} {v : Value} {n : Nat} {xs : List Value} (h : Owns w F v n xs) : ∃ ad k c, v = .slice ad k c := by
 rcases h.1.2 with ⟨rfl, _⟩ | ⟨g', cap, cur, rfl, _, hh, _⟩
 ·
  exact ⟨_, _, _, rfl⟩
 ·
  exact ⟨_, _, _, rfl⟩

theorem Turn.undrew {F : Nat → Prop} {w w' : World} (h : Turn F w.drew w') : Turn F w w' := ⟨h.os, h.tape, h.output, h.size, h.block⟩
theorem Turn.cell {F : Nat → Prop} {w w' : World} (h : Turn F w w') {b i : Nat} (hp : ¬ F b) : w'.cell? ⟨b, i, none⟩ = w.cell? ⟨b, i, none⟩ := World.cell?_of_block (w := w) (a := ⟨b, i, none⟩) (h.block b hp)

/-- the world under another name -/
theorem wp_at {P : Program} {c : Code} {Q : Exit → Act → World → Prop} {a : Act} {w w' : World} (h : w = w') (k : c.wp P Q a w') : c.wp P Q a w := h ▸ k
theorem quiet_left {P : Program} {f : FuncId} {args : Array Value} {w : World} {n : Nat} {v : Value}
  (h : Calls P f args (w.drewN n) fun e w' => e = .returned v ∧ w.drewN n = w') : Calls P f args (w.drewN n) fun e w'' => e = .returned v ∧ ∃ m, w'' = w.drewN m :=
 h.mono fun _ _ ⟨he, hm⟩ => ⟨he, n, hm.symm⟩
theorem below_drewN {B : Nat} {a w : World} (h : Below B a w) (n : Nat) : Below B a (w.drewN n) := ⟨h.os, h.tape, h.output, h.size, h.block⟩
end Go.Proofs.YtpeneeddfgmjpaaGreatDoor.mem

namespace Go.Proofs.YtpeneeddfgmjpaaGreatDoor.mem
open Go.RowKit

theorem info5 : (Tryz.prog.info? 5).map (fun i => (i.zero, i.size, i.bytes)) = some (some (.int .u8 0), 1, 1) := by kernel_rfl

theorem new_cells (w : World) (t : TypeId) (cs : List Value) : ∀ (j : Nat) (u : Value), cs[j]? = some u → (w.alloc (.cells cs.toArray t)).cell? ((⟨w.heap.size, 0, none⟩ : Addr).add j) = some u := by
 intro j u h
 rw [Addr.add_lit, Nat.zero_add, (Blk.new w t cs.toArray).cell j]
 simpa using h
theorem one1 (a : Int) : ∀ u ∈ [Value.int .u8 a], u.oneCell' = true := by
 intro u hu; simp only [List.mem_cons, List.not_mem_nil, or_false] at hu; subst hu; rfl
theorem one2 (a b : Int) : ∀ u ∈ [Value.int .u8 a, .int .u8 b], u.oneCell' = true := by
 intro u hu; simp only [List.mem_cons, List.not_mem_nil, or_false] at hu; rcases hu with rfl | rfl <;> rfl
end Go.Proofs.YtpeneeddfgmjpaaGreatDoor.mem

namespace Go.Proofs.YtpeneeddfgmjpaaGreatDoor.mem
open Go.RowKit
section
variable {P : Program} {ops : Array Oper} {rest : List Oper} {o : Oper} {a : Act} {w : World} {Q : Exit → Act → World → Prop}
theorem wpl_at {l : List Oper} {w' : World} (h : w = w') (k : wpList P ops Q l a w') : wpList P ops Q l a w := h ▸ k
theorem step_move {x : Operand} (hg : o.guard = none) (ho : o.op = .move x) (h : wpList P ops Q rest (a.put o.dst (a.eval x)) w) : wpList P ops Q (o :: rest) a w := by
 refine wpList_plain hg fun K hK => ?_
 unfold Oper.wp execOp
 simp only [ho]
 exact hK _ _ h
theorem step_nil {x : Operand} {p : Addr} (hg : o.guard = none) (ho : o.op = .nilCheck x) (hx : a.eval x = .pointer (some p)) (h : wpList P ops Q rest (a.put o.dst (.pointer (some p))) w) : wpList P ops Q (o :: rest) a w := by
 refine wpList_plain hg fun K hK => ?_
 unfold Oper.wp execOp
 simp only [ho, hx]
 exact hK _ _ h
theorem step_alloc {t : TypeId} {v : Value} (hg : o.guard = none) (ho : o.op = .alloc t) (hz : ∀ w, (zeroValue t).run P w = .ok v w) (h : wpList P ops Q rest (a.put o.dst (.pointer (some ⟨w.heap.size, 0, none⟩))) (w.alloc (.cells v.cells t))) : wpList P ops Q (o :: rest) a w := by
 refine wpList_plain hg fun K hK => ?_
 unfold Oper.wp execOp
 simp [ho, Instr.alloc, hz, newVar]
 exact hK _ _ h
end
end Go.Proofs.YtpeneeddfgmjpaaGreatDoor.mem

namespace Go.Proofs.YtpeneeddfgmjpaaGreatDoor.mem
open Go.RowKit

/-- an array out of the middle of a block -/
theorem run_load_mid (w : World) (g off n : Nat) (ty e : TypeId) (cs : List Value) (hc : ∀ j v, cs[j]? = some v → w.cell? ⟨g, off + j, none⟩ = some v) (hu : Tryz.prog.underlying ty = some (.array n e)) (hi : (Tryz.prog.info? ty).map (·.size) = some cs.length) :
  (Instr.loadAt ty (.pointer (some ⟨g, off, none⟩))).run Tryz.prog w = .ok (.agg cs.toArray) w := by
 have hl : (loadCells ⟨g, off, none⟩ cs.length).run Tryz.prog w = .ok cs.toArray w :=
  run_loadCells_list (P := Tryz.prog) w ⟨g, off, none⟩ cs (fun j v hv => by
   have hadd : (⟨g, off, none⟩ : Addr).add j = ⟨g, off + j, none⟩ := by unfold Addr.add; split <;> simp_all
   rw [hadd]
   exact hc j v hv)
 cases hq : Tryz.prog.info? ty with
 | none => simp [hq] at hi
 | some i =>
  have hs : i.size = cs.length := by simpa [hq] using hi
  have hagg : (isAgg ty).run Tryz.prog w = .ok true w := by
   unfold isAgg
   rw [Sem.run_bind, run_underlying hu w]
   rfl
  simp [Instr.loadAt, Instr.sureAddr, loadVar, Sem.run_bind, hagg, sizeOf, typeInfo, hq, hs, hl]
/-! Loads of whole arrays in the walks. -/
theorem run_exec_load {P : Program} {ρ : Operand → Value} {o : Oper} {x : Operand} {t : TypeId} {p v : Value} {w : World} (ho : o.op = .load t x) (hx : ρ x = p) (h : (Instr.loadAt t p).run P w = .ok v w) :
  (execOp ρ o).run P w = .ok (.value v) w := by
 unfold execOp
 simp [ho, hx, h]
/-- in a region that only reads -/
theorem quiet_load {P : Program} {ops : Array Oper} {w : World} {Q : Act → Prop} {a : Act} {o : Oper} {rest : List Oper} {t : TypeId} {x : Operand} {p v : Value} (hg : o.guard = none) (ho : o.op = .load t x) (hx : a.eval x = p)
  (hr : ∀ n, (Instr.loadAt t p).run P (w.drewN n) = .ok v (w.drewN n)) (h : wpQuiet P ops (fun w' => ∃ n, w' = w.drewN n) Q rest (a.put o.dst v)) : wpQuiet P ops (fun w' => ∃ n, w' = w.drewN n) Q (o :: rest) a := by
 have hw : Region.wanted o (yielded ops a.tmps) = true := by simp [Region.wanted, hg]
 unfold wpQuiet
 rw [if_pos hw]
 refine ⟨v, ?_, h⟩
 rintro _ ⟨n, rfl⟩
 unfold Oper.quietAt
 rw [run_exec_load ho hx (hr n)]
 exact ⟨rfl, rfl⟩
/-- in a plain region -/
theorem step_load {P : Program} {ops : Array Oper} {rest : List Oper} {o : Oper} {a : Act} {w : World} {Q : Exit → Act → World → Prop} {t : TypeId} {x : Operand} {p v : Value} (hg : o.guard = none) (ho : o.op = .load t x) (hx : a.eval x = p)
  (hr : (Instr.loadAt t p).run P w = .ok v w) (h : wpList P ops Q rest (a.put o.dst v) w) : wpList P ops Q (o :: rest) a w := by
 refine wpList_plain hg fun K hK => ?_
 unfold Oper.wp
 rw [run_exec_load ho hx hr]
 exact hK _ _ h

/-- .. behind a guard that holds -/
theorem step_load_w {P : Program} {ops : Array Oper} {rest : List Oper} {o : Oper} {a : Act} {w : World} {Q : Exit → Act → World → Prop} {t : TypeId} {x : Operand} {p v : Value} (hw : Region.wanted o (yielded ops a.tmps) = true) (ho : o.op = .load t x) (hx : a.eval x = p)
  (hr : (Instr.loadAt t p).run P w = .ok v w) (h : wpList P ops Q rest (a.put o.dst v) w) : wpList P ops Q (o :: rest) a w := by
 unfold wpList
 rw [if_pos hw]
 left
 unfold Oper.wp
 rw [run_exec_load ho hx hr]
 exact h
/-- '!=' of two arrays, behind a guard that holds -/
theorem step_neq_w {P : Program} {ops : Array Oper} {rest : List Oper} {o : Oper} {a : Act} {w : World} {Q : Exit → Act → World → Prop} {t t2 : TypeId} {x y : Operand} {u v r : Value} (hw : Region.wanted o (yielded ops a.tmps) = true) (ho : o.op = .binOp .neq t x y t2) (hx : a.eval x = u) (hy : a.eval y = v)
  (hg : (eqGuard .neq t x y u v).run P w = .ok () w) (hr : (binOp .neq t u v).run P w = .ok r w) (h : wpList P ops Q rest (a.put o.dst r) w) : wpList P ops Q (o :: rest) a w := by
 unfold wpList
 rw [if_pos hw]
 left
 unfold Oper.wp
 have he : (execOp a.eval o).run P w = .ok (.value r) w := by
  unfold execOp
  simp [ho, hx, hy, hg, hr]
 rw [he]
 exact h
/-- .. any comparison of two arrays -/
theorem step_bin_w {P : Program} {ops : Array Oper} {rest : List Oper} {o : Oper} {a : Act} {w : World} {Q : Exit → Act → World → Prop} {op : BinOp} {t t2 : TypeId} {x y : Operand} {u v r : Value} (hw : Region.wanted o (yielded ops a.tmps) = true) (ho : o.op = .binOp op t x y t2) (hx : a.eval x = u) (hy : a.eval y = v)
  (hg : (eqGuard op t x y u v).run P w = .ok () w) (hr : (binOp op t u v).run P w = .ok r w) (h : wpList P ops Q rest (a.put o.dst r) w) : wpList P ops Q (o :: rest) a w := by
 unfold wpList
 rw [if_pos hw]
 left
 unfold Oper.wp
 have he : (execOp a.eval o).run P w = .ok (.value r) w := by
  unfold execOp
  simp [ho, hx, hy, hg, hr]
 rw [he]
 exact h
theorem exec_bin {P : Program} {o : Oper} {a : Act} {w : World} {op : BinOp} {t t2 : TypeId} {x y : Operand} {u v r : Value} (ho : o.op = .binOp op t x y t2) (hx : a.eval x = u) (hy : a.eval y = v)
  (hg : (eqGuard op t x y u v).run P w = .ok () w) (hr : (binOp op t u v).run P w = .ok r w) : (execOp a.eval o).run P w = .ok (.value r) w := by
 unfold execOp
 simp [ho, hx, hy, hg, hr]
/-! Builds and stores by their runs. -/
theorem exec_build {P : Program} {o : Oper} {a : Act} {w : World} {t : TypeId} {parts : Array (Nat × Operand)} {ps : Array (Nat × Value)} {v : Value} (ho : o.op = .build t parts) (hp : parts.map (fun x => (x.1, a.eval x.2)) = ps)
  (hr : (Instr.build t ps).run P w = .ok v w) : (execOp a.eval o).run P w = .ok (.value v) w := by
 unfold execOp
 simp only [ho, hp, Sem.run_bind, hr, Result.andThen_ok, Sem.run_pure]
theorem step_build {P : Program} {ops : Array Oper} {rest : List Oper} {o : Oper} {a : Act} {w : World} {Q : Exit → Act → World → Prop} {t : TypeId} {parts : Array (Nat × Operand)} {ps : Array (Nat × Value)} {v : Value} (hg : o.guard = none) (ho : o.op = .build t parts) (hp : parts.map (fun x => (x.1, a.eval x.2)) = ps)
  (hr : (Instr.build t ps).run P w = .ok v w) (h : wpList P ops Q rest (a.put o.dst v) w) : wpList P ops Q (o :: rest) a w := by
 refine wpList_plain hg fun K hK => ?_
 unfold Oper.wp
 rw [exec_build ho hp hr]
 exact hK _ _ h
theorem step_store_run {P : Program} {ops : Array Oper} {rest : List Oper} {o : Oper} {a : Act} {w w' : World} {Q : Exit → Act → World → Prop} {t : TypeId} {x y : Operand} {p v : Value} (hg : o.guard = none) (ho : o.op = .store t x y) (hx : a.eval x = p) (hy : a.eval y = v)
  (hr : (Instr.storeAt t p v).run P w = .ok () w') (h : wpList P ops Q rest (a.put o.dst undef) w') : wpList P ops Q (o :: rest) a w := by
 refine wpList_plain hg fun K hK => ?_
 unfold Oper.wp execOp
 simp only [ho, hx, hy, Sem.run_bind, hr, Result.andThen_ok, Sem.run_pure]
 exact hK _ _ h
/-- in a drawn region -/
theorem want_store_run {P : Program} {ops : Array Oper} {o : Oper} {a : Act} {w w' : World} {K : Act → World → Prop} {Q : Exit → Act → World → Prop} {E : Prop} {t : TypeId} {x y : Operand} {p v : Value} (hg : o.guard = none)
  (ho : o.op = .store t x y) (hx : a.eval x = p) (hy : a.eval y = v) (h : (Instr.storeAt t p v).run P w = .ok () w') (hK : K (a.put o.dst undef) w') :
  if Region.wanted o (yielded ops a.tmps) = true then Oper.wp P o a w K Q else E := by
 have hw : Region.wanted o (yielded ops a.tmps) = true := by simp [Region.wanted, hg]
 rw [if_pos hw]
 unfold Oper.wp execOp
 simp only [ho, hx, hy, Sem.run_bind, h, Result.andThen_ok, Sem.run_pure]
 exact hK
end Go.Proofs.YtpeneeddfgmjpaaGreatDoor.mem
