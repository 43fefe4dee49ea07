/-
  What block's functions answer; awake.
-/
import Derived.Test.YtgehhadnjllkdaaBkp
namespace Go.Proofs.Ytgehhadnjllkdaa.bk
open Go.RowKit Go.Proofs.Ytgehhadnjllkdaa.mem Go.Proofs.Ytgehhadnjllkdaa.sha Go.Proofs.Ytgehhadnjllkdaa.strx

/-- Bk G w p s k: p is a Block of the bytes s, of which k are safe, in blocks of G -/
structure BkIs (T : World → Prop) (Bk : (Nat → Prop) → World → Value → List UInt8 → Nat → Prop) : Prop where
  next : ∀ {w w' : World}, T w → Below w.heap.size w w' → T w'
  le : ∀ {G : Nat → Prop} {w : World} {p : Value} {s : List UInt8} {k : Nat}, Bk G w p s k → k ≤ s.length
  cap : ∀ {G : Nat → Prop} {w : World} {p : Value} {s : List UInt8} {k : Nat}, Bk G w p s k → Bk (fun j => G j ∧ j < w.heap.size) w p s k
  mono : ∀ {G H : Nat → Prop} {w : World} {p : Value} {s : List UInt8} {k : Nat}, Bk G w p s k → (∀ j, G j → H j) → Bk H w p s k
  turn : ∀ {G H : Nat → Prop} {w w' : World} {p : Value} {s : List UInt8} {k : Nat}, Bk G w p s k → Turn H w w' → (∀ j, j < w.heap.size → G j → ¬ H j) → Bk G w' p s k
  new : ∀ (w : World), T w → Calls Try.prog 6 #[] w fun e w' => ∃ p, e = .returned p ∧ Bk (fun j => w.heap.size ≤ j ∧ j < w'.heap.size) w' p [] 0 ∧ Below w.heap.size w w'
  write : ∀ (G : Nat → Prop) (p : Value) (s : List UInt8) (k : Nat) (t : ByteArray) (w : World), T w → New G w → Bk G w p s k → s.length + t.size ≤ 50000000 → Calls Try.prog 7 #[p, .string t] w fun e w' => e = .returned (.int .i64 0) ∧ Bk G w' p (s ++ t.data.toList) k ∧ Turn G w w'
  sync : ∀ (G : Nat → Prop) (p : Value) (s : List UInt8) (k : Nat) (w : World), T w → New G w → Bk G w p s k → Calls Try.prog 8 #[p] w fun e w' => e = .returned (.int .i64 ((s.length : Int) - (k : Int))) ∧ Bk G w' p s s.length ∧ Turn G w w'
  cut : ∀ (G : Nat → Prop) (p : Value) (s : List UInt8) (k : Nat) (n : Int) (w : World), T w → New G w → Bk G w p s k → Calls Try.prog 9 #[p, .int .i64 n] w fun e w' => e = .returned (.int .i64 (cutB s k n).2.2) ∧ Bk G w' p (cutB s k n).1 (cutB s k n).2.1 ∧ Turn G w w'
  crash : ∀ (G : Nat → Prop) (p : Value) (s : List UInt8) (k : Nat) (n : Int) (w : World), T w → New G w → Bk G w p s k → Calls Try.prog 11 #[p, .int .i64 n] w fun e w' => e = .returned (.int .i64 (crashB s k n).2.2) ∧ Bk G w' p (crashB s k n).1 (crashB s k n).2.1 ∧ Turn G w w'
  data : ∀ (G : Nat → Prop) (p : Value) (s : List UInt8) (k : Nat) (w : World), T w → Bk G w p s k → Calls Try.prog 13 #[p] w fun e w' => e = .returned (.string (bt s)) ∧ Below w.heap.size w w'
  size : ∀ (G : Nat → Prop) (p : Value) (s : List UInt8) (k : Nat) (w : World), T w → Bk G w p s k → Calls Try.prog 14 #[p] w fun e w' => e = .returned (.int .i64 (s.length : Int)) ∧ Below w.heap.size w w'
  tail : ∀ (G : Nat → Prop) (p : Value) (s : List UInt8) (k : Nat) (w : World), T w → Bk G w p s k → Calls Try.prog 15 #[p] w fun e w' => e = .returned (.int .i64 ((s.length : Int) - (k : Int))) ∧ Below w.heap.size w w'
section
variable {T : World → Prop} {Bk : (Nat → Prop) → World → Value → List UInt8 → Nat → Prop}
/-- what stands while one Block lives: it, in blocks that are new since w0 -/
structure OneB (T : World → Prop) (Bk : (Nat → Prop) → World → Value → List UInt8 → Nat → Prop) (w0 : World) (G : Nat → Prop) (p : Value) (s : List UInt8) (k : Nat) (w : World) : Prop where
  t : T w
  n : New G w
  b : Bk G w p s k
  g : ∀ j, G j → w0.heap.size ≤ j
  below : Below w0.heap.size w0 w
theorem OneB.turn (hI : BkIs T Bk) {w0 w w' : World} {G : Nat → Prop} {p : Value} {s s' : List UInt8} {k k' : Nat} (h : OneB T Bk w0 G p s k w) (hT : T w0) (hb : Bk G w' p s' k') (ht : Turn G w w') : OneB T Bk w0 G p s' k' w' := by
  have hB : Below w0.heap.size w0 w' := h.below.trans (ht.below h.g)
  exact ⟨hI.next hT hB, h.n.turn ht, hb, h.g, hB⟩
theorem OneB.next (hI : BkIs T Bk) {w0 w w' : World} {G : Nat → Prop} {p : Value} {s : List UInt8} {k : Nat} (h : OneB T Bk w0 G p s k w) (hb : Below w.heap.size w w') : OneB T Bk w0 G p s k w' :=
  ⟨hI.next h.t hb, h.n.of hb.size, hI.turn h.b (Turn.ofBelow hb) fun j hj _ hh => by omega, h.g, h.below.trans (hb.mono h.below.size)⟩
theorem OneB.new (hI : BkIs T Bk) {w0 w' : World} (hT : T w0) {p : Value} (hb : Bk (fun j => w0.heap.size ≤ j ∧ j < w'.heap.size) w' p [] 0) (hB : Below w0.heap.size w0 w') : OneB T Bk w0 (w0.heap.size ≤ ·) p [] 0 w' :=
  ⟨hI.next hT hB, fun j hj => Nat.le_trans hB.size hj, hI.mono hb fun j hj => hj.1, fun j hj => hj, hB⟩
set_option maxHeartbeats 4000000 in
set_option maxRecDepth 100000 in
theorem awake_any (hI : BkIs T Bk) (w : World) (hT : T w) : Calls Try.prog 16 #[] w fun e w' => e = .returned (.bool true) ∧ Below w.heap.size w w' := by
  have HI := Lib.hid hI
  have HT := Lib.hid hT
  obtain ⟨G, hG⟩ : ∃ G : Nat → Prop, G = (w.heap.size ≤ ·) := ⟨_, rfl⟩
  have HNEW := Lib.hid fun p w' hb hB => OneB.new hI (w' := w') (p := p) hT hb hB
  rw [← hG] at HNEW
  have HW1 := Lib.hid fun p u (h : OneB T Bk w G p [] 0 u) => hI.write G p [] 0 ⟨#[97, 98, 99]⟩ u h.t h.n h.b (by decide)
  have HSY := Lib.hid fun p u (h : OneB T Bk w G p [97, 98, 99] 0 u) => hI.sync G p [97, 98, 99] 0 u h.t h.n h.b
  have HW2 := Lib.hid fun p u (h : OneB T Bk w G p [97, 98, 99] 3 u) => hI.write G p [97, 98, 99] 3 ⟨#[100, 101]⟩ u h.t h.n h.b (by decide)
  have HCR := Lib.hid fun p u (h : OneB T Bk w G p [97, 98, 99, 100, 101] 3 u) => hI.crash G p [97, 98, 99, 100, 101] 3 1 u h.t h.n h.b
  rw [show crashB [97, 98, 99, 100, 101] 3 1 = ([97, 98, 99, 100], 4, 1) by decide +kernel] at HCR
  have HDA := Lib.hid fun p u (h : OneB T Bk w G p [97, 98, 99, 100] 4 u) => hI.data G p [97, 98, 99, 100] 4 u h.t h.b
  obtain ⟨tx, htx⟩ : ∃ t, t = bt [97, 98, 99, 100] := ⟨_, rfl⟩
  have hs : (tx.toList == [97, 98, 99, 100]) = true := by rw [htx, ByteArray.toList_eq, bt_list]; rfl
  rw [← htx] at HDA
  have HTA := Lib.hid fun p u (h : OneB T Bk w G p [97, 98, 99, 100] 4 u) => hI.tail G p [97, 98, 99, 100] 4 u h.t h.b
  clear hI hT hG htx
  go_enter Try.func16, Try.ntmps16
  go_wp2_with (first
    | (go_at_call 6; refine (HI.out.new _ HT.out).mono ?_; rintro e w1 ⟨p, rfl, hk1, hb1⟩; have o1 := HNEW.out _ _ hk1 hb1; clear hk1)
    | (go_at_call 7; refine (HW1.out _ _ o1).mono ?_; rintro e w2 ⟨rfl, hk2, ht2⟩; have o2 := o1.turn HI.out HT.out (s' := [97, 98, 99]) hk2 ht2; clear hk2 ht2 o1)
    | (go_at_call 8; refine (HSY.out _ _ o2).mono ?_; rintro e w3 ⟨rfl, hk3, ht3⟩; have o3 := o2.turn HI.out HT.out (k' := 3) hk3 ht3; clear hk3 ht3 o2)
    | (go_at_call 7; refine (HW2.out _ _ o3).mono ?_; rintro e w4 ⟨rfl, hk4, ht4⟩; have o4 := o3.turn HI.out HT.out (s' := [97, 98, 99, 100, 101]) hk4 ht4; clear hk4 ht4 o3)
    | (go_at_call 11; refine (HCR.out _ _ o4).mono ?_; rintro e w5 ⟨rfl, hk5, ht5⟩; have o5 := o4.turn HI.out HT.out hk5 ht5; clear hk5 ht5 o4)
    | (go_at_call 13; refine (HDA.out _ _ o5).mono ?_; rintro e w6 ⟨rfl, hb6⟩; have o6 := o5.next HI.out hb6)
    | (go_at_call 15; refine (HTA.out _ _ o6).mono ?_; rintro e w7 ⟨rfl, hb7⟩; have o7 := o6.next HI.out hb7))
  go_ret
  exact ⟨rfl, o7.below⟩
end
end Go.Proofs.Ytgehhadnjllkdaa.bk
