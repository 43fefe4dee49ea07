/-
  Two files side by side, the program's and the plain one; the acts that BlockPlays is given.
-/
import Derived.Test.YtgehhadnjllkdaaBkis
namespace Go.Proofs.Ytgehhadnjllkdaa.bk
open Go.RowKit Go.Proofs.Ytgehhadnjllkdaa.mem Go.Proofs.Ytgehhadnjllkdaa.sha Go.Proofs.Ytgehhadnjllkdaa.strx

section
variable {T : World → Prop} {Bk : (Nat → Prop) → World → Value → List UInt8 → Nat → Prop}
/-- the program's file at p has s, k of it safe; the plain one in block X has u, m of it safe; all new since w0 -/
structure PB (T : World → Prop) (Bk : (Nat → Prop) → World → Value → List UInt8 → Nat → Prop) (w0 : World) (G : Nat → Prop) (X : Nat) (p : Value) (s : List UInt8) (k : Nat) (u : List UInt8) (m : Nat) (w : World) : Prop where
  t : T w
  n : New G w
  b : Bk G w p s k
  x : XBlk w X u m
  ge : w0.heap.size ≤ X
  g : ∀ j, G j → w0.heap.size ≤ j
  gx : ¬ G X
  below : Below w0.heap.size w0 w
theorem PB.ofB (hI : BkIs T Bk) {w0 w w' : World} {G : Nat → Prop} {X : Nat} {p : Value} {s u s' : List UInt8} {k m k' : Nat} (hT : T w0) (h : PB T Bk w0 G X p s k u m w) (hb : Bk G w' p s' k') (ht : Turn G w w') : PB T Bk w0 G X p s' k' u m w' := by
  have hB : Below w0.heap.size w0 w' := h.below.trans (ht.below h.g)
  exact ⟨hI.next hT hB, h.n.turn ht, hb, Blk.turn h.x ht h.gx, h.ge, h.g, h.gx, hB⟩
theorem PB.ofX (hI : BkIs T Bk) {w0 w w' : World} {G : Nat → Prop} {X : Nat} {p : Value} {s u u' : List UInt8} {k m m' : Nat} (hT : T w0) (h : PB T Bk w0 G X p s k u m w) (hx : XBlk w' X u' m') (ht : Turn (· = X) w w') : PB T Bk w0 G X p s k u' m' w' := by
  have hB : Below w0.heap.size w0 w' := h.below.trans (ht.below fun j hj => by rw [hj]; exact h.ge)
  exact ⟨hI.next hT hB, h.n.turn ht, hI.turn h.b ht fun j _ hg he => h.gx (he ▸ hg), hx, h.ge, h.g, h.gx, hB⟩
theorem PB.next (hI : BkIs T Bk) {w0 w w' : World} {G : Nat → Prop} {X : Nat} {p : Value} {s u : List UInt8} {k m : Nat} (h : PB T Bk w0 G X p s k u m w) (hb : Below w.heap.size w w') : PB T Bk w0 G X p s k u m w' := by
  have hXl : X < w.heap.size := Blk.lt h.x
  exact ⟨hI.next h.t hb, h.n.of hb.size, hI.turn h.b (Turn.ofBelow hb) fun j hj _ hh => by omega, Blk.turn h.x (Turn.ofBelow hb) (by omega), h.ge, h.g, h.gx, h.below.trans (hb.mono h.below.size)⟩
theorem PB.start (hI : BkIs T Bk) {w0 w1 : World} {p : Value} (hT : T w0) (hb : Bk (fun j => w0.heap.size ≤ j ∧ j < w1.heap.size) w1 p [] 0) (hB : Below w0.heap.size w0 w1) :
    PB T Bk w0 (fun j => w0.heap.size ≤ j ∧ j ≠ w1.heap.size) w1.heap.size p [] 0 [] 0 (w1.alloc (.cells #[.string ⟨#[]⟩, .int .i64 0] 27)) := by
  have h2 : Below w0.heap.size w0 (w1.alloc (.cells #[.string ⟨#[]⟩, .int .i64 0] 27)) := hB.alloc hB.size _
  have h3 : Below w1.heap.size w1 (w1.alloc (.cells #[.string ⟨#[]⟩, .int .i64 0] 27)) := (Below.refl _ _).alloc (Nat.le_refl _) _
  refine ⟨hI.next hT h2, fun j hj => ⟨Nat.le_trans h2.size hj, fun e => ?_⟩, ?_, Blk.new w1 _ _, hB.size, fun j hj => hj.1, fun h => h.2 rfl, h2⟩
  · rw [e] at hj; simp at hj; omega
  · exact hI.turn (hI.mono hb fun j hj => ⟨hj.1, Nat.ne_of_lt hj.2⟩) (Turn.ofBelow h3) fun j hj _ hh => by omega
/-- another file that is new: a block laid beside -/
theorem PB.cellX {w0 w : World} {G : Nat → Prop} {X : Nat} {p : Value} {s u : List UInt8} {k m : Nat} (h : PB T Bk w0 G X p s k u m w) : w.cell? ⟨X, 0, none⟩ = some (.string (bt u)) ∧ w.cell? ⟨X, 1, none⟩ = some (.int .i64 (m : Int)) ∧ w.frozen? ⟨X, 0, none⟩ = false ∧ w.frozen? ⟨X, 1, none⟩ = false :=
  ⟨Blk.cell h.x 0, Blk.cell h.x 1, Blk.frozen h.x 0, Blk.frozen h.x 1⟩
theorem PB.drew (hI : BkIs T Bk) {w0 w : World} {G : Nat → Prop} {X : Nat} {p : Value} {s u : List UInt8} {k m : Nat} (h : PB T Bk w0 G X p s k u m w) : PB T Bk w0 G X p s k u m w.drew := h.next hI ((Below.refl _ _).drew)
/-- .. while an act lies in block A -/
structure PA (T : World → Prop) (Bk : (Nat → Prop) → World → Value → List UInt8 → Nat → Prop) (w0 : World) (G : Nat → Prop) (X A : Nat) (kk nn : Int) (zz : ByteArray) (p : Value) (s : List UInt8) (k : Nat) (u : List UInt8) (m : Nat) (w : World) : Prop where
  pb : PB T Bk w0 G X p s k u m w
  a : Blk w A 29 #[.int .i64 kk, .int .i64 nn, .string zz]
  ga : ¬ G A
  ax : A ≠ X
section
variable {w0 w w' : World} {G : Nat → Prop} {X A : Nat} {kk nn : Int} {zz : ByteArray} {p : Value} {s u s' u' : List UInt8} {k m k' m' : Nat}
theorem PA.ofB (hI : BkIs T Bk) (hT : T w0) (h : PA T Bk w0 G X A kk nn zz p s k u m w) (hb : Bk G w' p s' k') (ht : Turn G w w') : PA T Bk w0 G X A kk nn zz p s' k' u m w' :=
  ⟨h.pb.ofB hI hT hb ht, Blk.turn h.a ht h.ga, h.ga, h.ax⟩
theorem PA.ofX (hI : BkIs T Bk) (hT : T w0) (h : PA T Bk w0 G X A kk nn zz p s k u m w) (hx : XBlk w' X u' m') (ht : Turn (· = X) w w') : PA T Bk w0 G X A kk nn zz p s k u' m' w' :=
  ⟨h.pb.ofX hI hT hx ht, Blk.turn h.a ht h.ax, h.ga, h.ax⟩
theorem PA.next (hI : BkIs T Bk) (h : PA T Bk w0 G X A kk nn zz p s k u m w) (hb : Below w.heap.size w w') : PA T Bk w0 G X A kk nn zz p s k u m w' := by
  have := Blk.lt h.a
  exact ⟨h.pb.next hI hb, Blk.turn h.a (Turn.ofBelow hb) (by omega), h.ga, h.ax⟩
theorem PA.drew (hI : BkIs T Bk) (h : PA T Bk w0 G X A kk nn zz p s k u m w) : PA T Bk w0 G X A kk nn zz p s k u m w.drew := h.next hI ((Below.refl _ _).drew)
theorem PA.cells (h : PA T Bk w0 G X A kk nn zz p s k u m w) : w.cell? ⟨A, 0, none⟩ = some (.int .i64 kk) ∧ w.cell? ⟨A, 1, none⟩ = some (.int .i64 nn) ∧ w.cell? ⟨A, 2, none⟩ = some (.string zz) := ⟨Blk.cell h.a 0, Blk.cell h.a 1, Blk.cell h.a 2⟩
/-- the act is laid -/
theorem PA.start (hI : BkIs T Bk) (h : PB T Bk w0 G X p s k u m w) (kk nn : Int) (zz : ByteArray) :
    PA T Bk w0 (fun j => G j ∧ j ≠ w.heap.size) X w.heap.size kk nn zz p s k u m (w.alloc (.cells #[.int .i64 kk, .int .i64 nn, .string zz] 29)) := by
  have h3 : Below w.heap.size w (w.alloc (.cells #[.int .i64 kk, .int .i64 nn, .string zz] 29)) := (Below.refl _ _).alloc (Nat.le_refl _) _
  have h2 := h.below.trans (h3.mono h.below.size)
  have hX := Blk.lt h.x
  refine ⟨⟨hI.next h.t h3, fun j hj => ⟨h.n j (Nat.le_trans h3.size hj), fun e => ?_⟩, ?_, Blk.turn h.x (Turn.ofBelow h3) (by omega), h.ge, fun j hj => h.g j hj.1, fun hh => h.gx hh.1, h2⟩, Blk.new w _ _, fun hh => hh.2 rfl, by omega⟩
  · rw [e] at hj; simp at hj; omega
  · exact hI.turn (hI.mono (hI.cap h.b) fun j hj => ⟨hj.1, Nat.ne_of_lt hj.2⟩) (Turn.ofBelow h3) fun j hj _ hh => by omega
/-- .. and let go -/
theorem PA.stop (hI : BkIs T Bk) {w1 : World} {s1 : List UInt8} {k1 : Nat} {u1 : List UInt8} {m1 : Nat} (h0 : PB T Bk w0 G X p s1 k1 u1 m1 w1) (h : PA T Bk w0 (fun j => G j ∧ j ≠ w1.heap.size) X A kk nn zz p s k u m w) : PB T Bk w0 G X p s k u m w :=
  ⟨h.pb.t, fun j hj => (h.pb.n j hj).1, hI.mono h.pb.b fun j hj => hj.1, h.pb.x, h0.ge, h0.g, h0.gx, h.pb.below⟩
end
end

/-- v is a slice of n acts -/
def Acts (w : World) (ad : Option Addr) (n : Nat) (K N : Nat → Int) (S : Nat → ByteArray) : Prop :=
  ∀ i, i < n → ∃ b off, ad = some ⟨b, off, none⟩ ∧ b < w.heap.size ∧ w.cell? ⟨b, off + i * 3, none⟩ = some (.int .i64 (K i)) ∧ w.cell? ⟨b, off + i * 3 + 1, none⟩ = some (.int .i64 (N i)) ∧ w.cell? ⟨b, off + i * 3 + 2, none⟩ = some (.string (S i))
theorem Acts.below {w w' : World} {ad : Option Addr} {n : Nat} {K N : Nat → Int} {S : Nat → ByteArray} (h : Acts w ad n K N S) (hb : Below w.heap.size w w') : Acts w' ad n K N S := by
  intro i hi
  obtain ⟨b, off, rfl, hlt, h0, h1, h2⟩ := h i hi
  exact ⟨b, off, rfl, Nat.lt_of_lt_of_le hlt hb.size, (hb.cell hlt).trans h0, (hb.cell hlt).trans h1, (hb.cell hlt).trans h2⟩
end Go.Proofs.Ytgehhadnjllkdaa.bk
