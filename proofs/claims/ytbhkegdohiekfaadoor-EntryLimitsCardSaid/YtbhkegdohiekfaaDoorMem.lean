/-
  Memory: a block known whole, what has turned, a byte slice of the call's own.
-/
import Derived.Test.YtbhkegdohiekfaaDoorProg
import Derived.WalkKit
import Derived.Defers
import Derived.Lib.Hide
import Derived.Lib.AppendStr
import Derived.Maps.AppendAt
import Derived.Deep.QuietTactic
import Derived.BigQuiet
import Derived.LaidEqlPtr
import Derived.Lib.Builder
import Derived.WalkSpells
namespace Go.Proofs.YtbhkegdohiekfaaDoor.mem
open Go.RowKit

/-- block g is just the cells cs of element type t, none frozen -/
def Blk (w : World) (g : Nat) (t : TypeId) (cs : Array Value) : Prop := w.heap[g]? = some (.cells cs t (0, 0))

section
variable {w w' : World} {g : Nat} {t : TypeId} {cs : Array Value}
theorem Blk.lt (h : Blk w g t cs) : g < w.heap.size := by
  rcases Nat.lt_or_ge g w.heap.size with hlt | hge
  · exact hlt
  · unfold Blk at h; rw [Array.getElem?_eq_none hge] at h; cases h
theorem Blk.cell (h : Blk w g t cs) (i : Nat) : w.cell? ⟨g, i, none⟩ = cs[i]? := cell_of_row w g i cs t (0, 0) h
theorem Blk.frozen (h : Blk w g t cs) (i : Nat) : w.frozen? ⟨g, i, none⟩ = false := by
  unfold Blk at h
  simp [World.frozen?, h]
theorem Blk.new (w : World) (t : TypeId) (cs : Array Value) : Blk (w.alloc (.cells cs t)) w.heap.size t cs := heap_alloc_new w _
theorem Blk.at_ {g : Nat} (h : w.heap.size = g) (t : TypeId) (cs : Array Value) : Blk (w.alloc (.cells cs t)) g t cs := by subst h; exact Blk.new w t cs
theorem Blk.alloc (h : Blk w g t cs) (o : Obj) : Blk (w.alloc o) g t cs := (Below.heap_alloc w o g h.lt).trans h
theorem Blk.set_ (h : Blk w g t cs) (i : Nat) (u : Value) : Blk (w.setCell ⟨g, i, none⟩ u) g t (cs.setIfInBounds i u) := by
  unfold Blk at h ⊢
  simp [World.setCell, Array.getElem?_modify, h]
theorem Blk.far (h : Blk w g t cs) {p : Addr} (hp : g ≠ p.block) (u : Value) : Blk (w.setCell p u) g t cs := (Below.heap_setCell w p u g hp).trans h
theorem Blk.below {B : Nat} (h : Blk w g t cs) (hb : Below B w w') (hg : g < B) : Blk w' g t cs := (hb.block g hg).trans h
theorem Blk.grown {row : Option Nat} (h : Blk w g t cs) (hb : w.grownBy w' row) (hg : some g ≠ row) : Blk w' g t cs := (hb.block g h.lt hg).trans h
end

/-- of what was there only blocks of F have turned -/
structure Turn (F : Nat → Prop) (w w' : World) : Prop where
  os : w'.os = w.os
  tape : w'.tape = w.tape
  output : w'.output = w.output
  size : w.heap.size ≤ w'.heap.size
  block : ∀ k, ¬ F k → w'.heap[k]? = w.heap[k]?
/-- every block that is still to come is one of F -/
def New (F : Nat → Prop) (w : World) : Prop := ∀ k, w.heap.size ≤ k → F k

section
variable {F G : Nat → Prop} {w w' w'' : World}
theorem Turn.refl (F : Nat → Prop) (w : World) : Turn F w w := ⟨rfl, rfl, rfl, Nat.le_refl _, fun _ _ => rfl⟩
theorem Turn.trans (h : Turn F w w') (k : Turn F w' w'') : Turn F w w'' :=
  ⟨k.os.trans h.os, k.tape.trans h.tape, k.output.trans h.output, Nat.le_trans h.size k.size, fun i hi => (k.block i hi).trans (h.block i hi)⟩
theorem Turn.mono (h : Turn F w w') (hFG : ∀ k, F k → G k) : Turn G w w' := ⟨h.os, h.tape, h.output, h.size, fun k hk => h.block k fun hF => hk (hFG k hF)⟩
theorem New.of (hn : New F w) (h : w.heap.size ≤ w'.heap.size) : New F w' := fun k hk => hn k (Nat.le_trans h hk)
theorem New.turn (hn : New F w) (h : Turn G w w') : New F w' := hn.of h.size
theorem New.alloc (hn : New F w) (o : Obj) : New F (w.alloc o) := hn.of (by simp)
theorem Turn.alloc (h : Turn F w w') (hn : New F w) (o : Obj) : Turn F w (w'.alloc o) :=
  h.trans ⟨rfl, rfl, rfl, by simp, fun k hk => Below.heap_alloc _ _ _ (by
    rcases Nat.lt_or_ge k w'.heap.size with hl | hl
    · exact hl
    · exact absurd (hn k (Nat.le_trans h.size hl)) hk)⟩
theorem Turn.setCell (h : Turn F w w') {p : Addr} (hp : F p.block) (u : Value) : Turn F w (w'.setCell p u) :=
  h.trans ⟨rfl, rfl, rfl, by simp [World.setCell], fun k hk => Below.heap_setCell _ _ _ _ (fun e => hk (e ▸ hp))⟩
theorem Turn.drew (h : Turn F w w') : Turn F w w'.drew := ⟨h.os, h.tape, h.output, h.size, h.block⟩
theorem Turn.drewN (h : Turn F w w') (n : Nat) : Turn F w (w'.drewN n) := ⟨h.os, h.tape, h.output, h.size, h.block⟩
theorem Turn.below {B : Nat} (h : Turn F w w') (hB : ∀ k, F k → B ≤ k) : Below B w w' :=
  ⟨h.os, h.tape, h.output, h.size, fun k hk => h.block k fun hF => by have := hB k hF; omega⟩
theorem Turn.ofBelow {B : Nat} (h : Below B w w') : Turn (B ≤ ·) w w' := ⟨h.os, h.tape, h.output, h.size, fun k hk => h.block k (by omega)⟩
/-- what only makes memory turns nothing of F's complement -/
theorem Turn.fresh (h : Below w.heap.size w w') (hn : New F w) : Turn F w w' :=
  ⟨h.os, h.tape, h.output, h.size, fun k hk => h.block k (by
    rcases Nat.lt_or_ge k w.heap.size with hl | hl
    · exact hl
    · exact absurd (hn k hl) hk)⟩
theorem Turn.grown {row : Option Nat} (h : w.grownBy w' row) (hr : ∀ k, row = some k → F k) (hn : New F w) : Turn F w w' :=
  ⟨h.os, h.tape, h.output, h.size, fun k hk => h.block k (by
    rcases Nat.lt_or_ge k w.heap.size with hl | hl
    · exact hl
    · exact absurd (hn k hl) hk) (fun e => hk (hr k e.symm))⟩
theorem Blk.turn {g : Nat} {t : TypeId} {cs : Array Value} (h : Blk w g t cs) (ht : Turn F w w') (hg : ¬ F g) : Blk w' g t cs := (ht.block g hg).trans h
end

/-- v is a slice of bytes of the call's own, its row one of F: n bytes, the cells xs -/
def Owns (w : World) (F : Nat → Prop) (v : Value) (n : Nat) (xs : List Value) : Prop := w.ownsRow 0 5 1 v n xs ∧ ∀ k, v.ownBlock = some k → F k
theorem Owns.nil (w : World) (F : Nat → Prop) : Owns w F (.slice none 0 0) 0 [] := ⟨World.ownsRow_nil w 0 _ 1, fun k hk => by simp [Value.ownBlock] at hk⟩
theorem Owns.alloc {w : World} {F : Nat → Prop} {v : Value} {n : Nat} {xs : List Value} (h : Owns w F v n xs) (o : Obj) : Owns (w.alloc o) F v n xs := ⟨h.1.alloc o, h.2⟩
theorem Owns.turn {w w' : World} {F G : Nat → Prop} {v : Value} {n : Nat} {xs : List Value} (h : Owns w F v n xs) (ht : Turn G w w') (hg : ∀ k, v.ownBlock = some k → ¬ G k) : Owns w' F v n xs := by
  refine ⟨⟨h.1.1, ?_⟩, h.2⟩
  rcases h.1.2 with h0 | ⟨g, cap, cur, rfl, hb, hh, hr⟩
  · exact .inl h0
  · exact .inr ⟨g, cap, cur, rfl, hb, (ht.block g (hg g rfl)).trans hh, hr⟩
theorem Owns.mono {w : World} {F G : Nat → Prop} {v : Value} {n : Nat} {xs : List Value} (h : Owns w F v n xs) (hFG : ∀ k, F k → G k) : Owns w G v n xs := ⟨h.1, fun k hk => hFG k (h.2 k hk)⟩
/-- its row is no block of another element type -/
theorem Owns.ne_ {w : World} {F : Nat → Prop} {v : Value} {n : Nat} {xs : List Value} {g : Nat} {t : TypeId} {cs : Array Value} (h : Owns w F v n xs) (hg : Blk w g t cs) (hne : 5 ≠ t) : v.ownBlock ≠ some g := by
  rcases h.1.2 with ⟨rfl, _⟩ | ⟨g', cap, cur, rfl, _, hh, _⟩
  · simp [Value.ownBlock]
  · intro he
    have : g' = g := by simpa [Value.ownBlock] using he
    subst this
    unfold Blk at hg
    rw [hg] at hh
    injection hh with hh
    injection hh with _ ht
    exact hne ht.symm

theorem neq_nil_left {t e : TypeId} (a : Addr) (w : World) (h : Tryd.prog.underlying t = some (.pointer e)) : (binOp .neq t (.pointer none) (.pointer (some a))).run Tryd.prog w = .ok (.bool true) w := by
  have h1 : ∀ d : Nat, (Op.equalIn (d + 1) t (.pointer none) (.pointer (some a))).run Tryd.prog w = .ok false w := fun d => by
    simp [Op.equalIn, run_underlying h]
  simp only [binOp]
  simp [Op.equal, Op.maxDepth, h1 9999]

theorem Owns.lt {w : World} {F : Nat → Prop} {v : Value} {n : Nat} {xs : List Value} (h : Owns w F v n xs) {k : Nat} (hk : v.ownBlock = some k) : k < w.heap.size := by
  rcases h.1.2 with ⟨rfl, _⟩ | ⟨g', cap, cur, rfl, _, hh, _⟩
  · simp [Value.ownBlock] at hk
  · have : g' = k := by simpa [Value.ownBlock] using hk
    subst this
    exact Blk.lt hh
/-- the blocks that an append may turn: the row's own, and what is new -/
def Row (w : World) (v : Value) : Nat → Prop := fun k => v.ownBlock = some k ∨ w.heap.size ≤ k
theorem Row.new (w : World) (v : Value) : New (Row w v) w := fun _ hk => .inr hk
theorem Owns.row {w : World} {F : Nat → Prop} {v : Value} {n : Nat} {xs : List Value} (h : Owns w F v n xs) : Owns w (Row w v) v n xs := ⟨h.1, fun _ hk => .inl hk⟩
theorem Row.sub {w : World} {F : Nat → Prop} {v : Value} {n : Nat} {xs : List Value} (h : Owns w F v n xs) (hn : New F w) : ∀ k, Row w v k → F k := fun k hk => hk.elim (h.2 k) (hn k)
theorem Owns.form {w : World} {F : Nat → Prop} {v : Value} {n : Nat} {xs : List Value} (h : Owns w F v n xs) : ∃ ad k c, v = .slice ad k c := by
  rcases h.1.2 with ⟨rfl, _⟩ | ⟨g', cap, cur, rfl, _, hh, _⟩
  · exact ⟨_, _, _, rfl⟩
  · exact ⟨_, _, _, rfl⟩

theorem Turn.undrew {F : Nat → Prop} {w w' : World} (h : Turn F w.drew w') : Turn F w w' := ⟨h.os, h.tape, h.output, h.size, h.block⟩
theorem Turn.cell {F : Nat → Prop} {w w' : World} (h : Turn F w w') {b i : Nat} (hp : ¬ F b) : w'.cell? ⟨b, i, none⟩ = w.cell? ⟨b, i, none⟩ := World.cell?_of_block (w := w) (a := ⟨b, i, none⟩) (h.block b hp)

/-- the world under another name -/
theorem wp_at {P : Program} {c : Code} {Q : Exit → Act → World → Prop} {a : Act} {w w' : World} (h : w = w') (k : c.wp P Q a w') : c.wp P Q a w := h ▸ k
theorem quiet_left {P : Program} {f : FuncId} {args : Array Value} {w : World} {n : Nat} {v : Value}
    (h : Calls P f args (w.drewN n) fun e w' => e = .returned v ∧ w.drewN n = w') : Calls P f args (w.drewN n) fun e w'' => e = .returned v ∧ ∃ m, w'' = w.drewN m :=
  h.mono fun _ _ ⟨he, hm⟩ => ⟨he, n, hm.symm⟩
theorem below_drewN {B : Nat} {a w : World} (h : Below B a w) (n : Nat) : Below B a (w.drewN n) := ⟨h.os, h.tape, h.output, h.size, h.block⟩
end Go.Proofs.YtbhkegdohiekfaaDoor.mem
