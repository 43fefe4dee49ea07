/-
  What block's functions answer.
-/
import Derived.Test.YtlnpemnolldooaaDoorBlk
import Derived.Test.YtlnpemnolldooaaDoorStrx
import Derived.Test.YtlnpemnolldooaaDoorMem
namespace Go.Proofs.YtlnpemnolldooaaDoor.bk
open Go.RowKit Go.Proofs.YtlnpemnolldooaaDoor.mem Go.Proofs.YtlnpemnolldooaaDoor.sha Go.Proofs.YtlnpemnolldooaaDoor.strx

/-- Bk G w p s k: p is a Block of the bytes s, of which k are safe, in blocks of G -/
structure BkIs (T : World → Prop) (Bk : (Nat → Prop) → World → Value → List UInt8 → Nat → Prop) : Prop where
  next : ∀ {w w' : World}, T w → Below w.heap.size w w' → T w'
  le : ∀ {G : Nat → Prop} {w : World} {p : Value} {s : List UInt8} {k : Nat}, Bk G w p s k → k ≤ s.length
  cap : ∀ {G : Nat → Prop} {w : World} {p : Value} {s : List UInt8} {k : Nat}, Bk G w p s k → Bk (fun j => G j ∧ j < w.heap.size) w p s k
  mono : ∀ {G H : Nat → Prop} {w : World} {p : Value} {s : List UInt8} {k : Nat}, Bk G w p s k → (∀ j, G j → H j) → Bk H w p s k
  turn : ∀ {G H : Nat → Prop} {w w' : World} {p : Value} {s : List UInt8} {k : Nat}, Bk G w p s k → Turn H w w' → (∀ j, j < w.heap.size → G j → ¬ H j) → Bk G w' p s k
  new : ∀ (w : World), T w → Calls Tryd.prog 7 #[] w fun e w' => ∃ p, e = .returned p ∧ Bk (fun j => w.heap.size ≤ j ∧ j < w'.heap.size) w' p [] 0 ∧ Below w.heap.size w w'
  write : ∀ (G : Nat → Prop) (p : Value) (s : List UInt8) (k : Nat) (t : ByteArray) (w : World), T w → New G w → Bk G w p s k → s.length + t.size ≤ 50000000 → Calls Tryd.prog 8 #[p, .string t] w fun e w' => e = .returned (.int .i64 0) ∧ Bk G w' p (s ++ t.data.toList) k ∧ Turn G w w'
  sync : ∀ (G : Nat → Prop) (p : Value) (s : List UInt8) (k : Nat) (w : World), T w → New G w → Bk G w p s k → Calls Tryd.prog 29 #[p] w fun e w' => e = .returned (.int .i64 ((s.length : Int) - (k : Int))) ∧ Bk G w' p s s.length ∧ Turn G w w'
  cut : ∀ (G : Nat → Prop) (p : Value) (s : List UInt8) (k : Nat) (n : Int) (w : World), T w → New G w → Bk G w p s k → Calls Tryd.prog 35 #[p, .int .i64 n] w fun e w' => e = .returned (.int .i64 (cutB s k n).2.2) ∧ Bk G w' p (cutB s k n).1 (cutB s k n).2.1 ∧ Turn G w w'
  crash : ∀ (G : Nat → Prop) (p : Value) (s : List UInt8) (k : Nat) (n : Int) (w : World), T w → New G w → Bk G w p s k → Calls Tryd.prog 30 #[p, .int .i64 n] w fun e w' => e = .returned (.int .i64 (crashB s k n).2.2) ∧ Bk G w' p (crashB s k n).1 (crashB s k n).2.1 ∧ Turn G w w'
  data : ∀ (G : Nat → Prop) (p : Value) (s : List UInt8) (k : Nat) (w : World), T w → Bk G w p s k → Calls Tryd.prog 21 #[p] w fun e w' => e = .returned (.string (bt s)) ∧ Below w.heap.size w w'
  size : ∀ (G : Nat → Prop) (p : Value) (s : List UInt8) (k : Nat) (w : World), T w → Bk G w p s k → Calls Tryd.prog 32 #[p] w fun e w' => e = .returned (.int .i64 (s.length : Int)) ∧ Below w.heap.size w w'
  tail : ∀ (G : Nat → Prop) (p : Value) (s : List UInt8) (k : Nat) (w : World), T w → Bk G w p s k → Calls Tryd.prog 46 #[p] w fun e w' => e = .returned (.int .i64 ((s.length : Int) - (k : Int))) ∧ Below w.heap.size w w'
end Go.Proofs.YtlnpemnolldooaaDoor.bk
