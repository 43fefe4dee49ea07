/-
  Two journals side by side, the program's and the plain one; the acts that JournalPlays is given.
  A list of bools that reads.
-/
import Derived.Test.YtlnpemnolldooaaDoorJnis
import Derived.Test.YtlnpemnolldooaaDoorJnb
import Derived.Test.YtlnpemnolldooaaDoorMem
namespace Go.Proofs.YtlnpemnolldooaaDoor.jn
open Go.RowKit Go.Proofs.YtlnpemnolldooaaDoor.mem Go.Proofs.YtlnpemnolldooaaDoor.sha Go.Proofs.YtlnpemnolldooaaDoor.opn Go.Proofs.YtlnpemnolldooaaDoor.rows Go.Proofs.YtlnpemnolldooaaDoor.ids Go.Proofs.YtlnpemnolldooaaDoor.rcd

section
variable {T : World → Prop} {Bk : (Nat → Prop) → World → Value → List UInt8 → Prop} {Jn : (Nat → Prop) → World → Value → Value → Jr → Prop}
/-- the program's journal at p (its file at b) has j; the plain one in block X has x, its list at v; all new since w0 -/
structure PJ (T : World → Prop) (Jn : (Nat → Prop) → World → Value → Value → Jr → Prop) (w0 : World) (G : Nat → Prop) (X : Nat) (p b : Value) (j x : Jr) (v : Value) (w : World) : Prop where
  js : Js T Jn w0 G p b j w
  jx : JX w X x v
  own : OwnR w (fun k => w0.heap.size ≤ k ∧ ¬ G k ∧ k ≠ X) v x.l
  gx : ¬ G X
  xge : w0.heap.size ≤ X
variable {w0 w w' : World} {G G' : Nat → Prop} {X : Nat} {p b v v' : Value} {j j' x x' : Jr}
theorem PJ.ofJ (hI : JnIs T Bk Jn) (hT : T w0) (h : PJ T Jn w0 G X p b j x v w) (hj : Jn G' w' p b j') (hn : New G' w') (hg : ∀ k, G' k → G k) (ht : Turn G w w') : PJ T Jn w0 G' X p b j' x v w' :=
  ⟨h.js.op' hI hT hj hn hg ht, Blk.turn h.jx ht h.gx, (OwnK.turn h.own ht fun k hk hh => (h.own.2.2 k hk).2.1 hh).place fun k hk => ⟨(h.own.2.2 k hk).1, fun hh => (h.own.2.2 k hk).2.1 (hg k hh), (h.own.2.2 k hk).2.2⟩, fun hh => h.gx (hg X hh), h.xge⟩
theorem PJ.next (hI : JnIs T Bk Jn) (h : PJ T Jn w0 G X p b j x v w) (hb : Below w.heap.size w w') : PJ T Jn w0 G X p b j x v w' := by
  have := Blk.lt h.jx
  exact ⟨h.js.next hI hb, Blk.turn h.jx (Turn.ofBelow hb) (by omega), OwnK.next h.own hb, h.gx, h.xge⟩
/-- the law's own memory, laid beside -/
theorem PJ.beside (hI : JnIs T Bk Jn) (hT : T w0) (h : PJ T Jn w0 G X p b j x v w) (hb : Below w.heap.size w w') :
    ∃ G', PJ T Jn w0 G' X p b j x v w' ∧ (∀ k, G' k → G k) ∧ (∀ k, G' k → k < w.heap.size ∨ w'.heap.size ≤ k) := by
  have hl := Blk.lt h.jx
  obtain ⟨G', hjs, h1, h2⟩ := h.js.aside hI hT (F := (w.heap.size ≤ ·)) (Turn.ofBelow hb) (fun k hk hf => by omega) (fun k hf => Nat.le_trans h.js.below.size hf)
  exact ⟨G', ⟨hjs, Blk.turn h.jx (Turn.ofBelow hb) (by omega), (OwnK.next h.own hb).place fun k hk => ⟨(h.own.2.2 k hk).1, fun hh => (h.own.2.2 k hk).2.1 (h1 k hh), (h.own.2.2 k hk).2.2⟩, fun hh => h.gx (h1 X hh), h.xge⟩, h1, h2⟩
/-- what the plain one does -/
theorem PJ.ofX (hI : JnIs T Bk Jn) (hT : T w0) (h : PJ T Jn w0 G X p b j x v w) (hx : JX w' X x' v') (hv : (v' = v ∧ x'.l = x.l) ∨ OwnR w' (w.heap.size ≤ ·) v' x'.l) (ht : Turn (fun k => k = X ∨ w.heap.size ≤ k) w w') :
    ∃ G', PJ T Jn w0 G' X p b j x' v' w' ∧ (∀ k, G' k → G k) ∧ (∀ k, G' k → k < w.heap.size ∨ w'.heap.size ≤ k) := by
  have hl := Blk.lt h.jx
  have hz := h.js.below.size
  obtain ⟨G', hjs, h1, h2⟩ := h.js.aside hI hT ht (fun k hk hf hg => hf.elim (fun e => h.gx (e ▸ hg)) (fun e => by omega)) (fun k hf => hf.elim (fun e => by rw [e]; exact h.xge) (fun e => Nat.le_trans hz e))
  refine ⟨G', ⟨hjs, hx, ?_, fun hh => h.gx (h1 X hh), h.xge⟩, h1, h2⟩
  rcases hv with ⟨rfl, e⟩ | hO
  · rw [e]
    exact (OwnK.turn h.own ht fun k hk hh => hh.elim (h.own.2.2 k hk).2.2 fun x => by have := OwnK.lt h.own hk; omega).place fun k hk => ⟨(h.own.2.2 k hk).1, fun hh => (h.own.2.2 k hk).2.1 (h1 k hh), (h.own.2.2 k hk).2.2⟩
  · exact hO.place fun k hk => ⟨Nat.le_trans hz (hO.2.2 k hk), fun hh => by have a := hO.2.2 k hk; have c := OwnK.lt hO hk; have d := h2 k hh; simp at a; omega, fun e => by have a := hO.2.2 k hk; simp at a; omega⟩
end
/-- v is a slice of n acts -/
def JActs (w : World) (ad : Option Addr) (n : Nat) (K N : Nat → Int) (R : Nat → Rc) : Prop :=
  ∀ i, i < n → ∃ b off, ad = some ⟨b, off, none⟩ ∧ b < w.heap.size ∧ w.cell? ⟨b, off + i * 4, none⟩ = some (.int .i64 (K i)) ∧ w.cell? ⟨b, off + i * 4 + 1, none⟩ = some (.int .i64 (R i).k) ∧ w.cell? ⟨b, off + i * 4 + 2, none⟩ = some (.string (oct.tx (R i).body)) ∧ w.cell? ⟨b, off + i * 4 + 3, none⟩ = some (.int .i64 (N i))
end Go.Proofs.YtlnpemnolldooaaDoor.jn

namespace Go.Proofs.YtlnpemnolldooaaDoor.bls
open Go.RowKit

/-- a list of bools that reads -/
def Bools (w : World) (ad : Option Addr) (n : Nat) (S : Nat → Bool) : Prop := ∀ i, i < n → ∃ b off, ad = some ⟨b, off, none⟩ ∧ b < w.heap.size ∧ w.cell? ⟨b, off + i, none⟩ = some (.bool (S i))
end Go.Proofs.YtlnpemnolldooaaDoor.bls
