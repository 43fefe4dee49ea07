/-
  The library's choice of a pivot over a row of ids.
-/
import Derived.Test.YtkfhlnpbklchmaaSrt
import Derived.Deep.LoopGhost
namespace Go.Proofs.Ytkfhlnpbklchmaa.srt
open Go.RowKit Go.Proofs.Ytkfhlnpbklchmaa.mem Go.Proofs.Ytkfhlnpbklchmaa.sha Go.Proofs.Ytkfhlnpbklchmaa.ids Go.Sort
/-- the count of swaps: a variable that only these calls write -/
structure Cnt (blk S : Nat) (w : World) : Prop where
  at_ : ∃ z : Int, Blk w S 3 #[.int .i64 z]
  ne : S ≠ blk
def Tq (blk S : Nat) (w w' : World) : Prop := Turn (fun k => k = S ∨ w.heap.size ≤ k) w w'
theorem Tq.trans {blk S : Nat} {w w' w'' : World} (h : Tq blk S w w') (k : Tq blk S w' w'') : Tq blk S w w'' := Turn.trans h (Turn.mono k fun i hi => hi.imp id fun hi => Nat.le_trans h.size hi)
theorem Tq.ofNew {blk S : Nat} {w w' : World} (hb : RowKit.Below w.heap.size w w') : Tq blk S w w' := Turn.mono (Turn.ofBelow hb) fun k hk => .inr hk
theorem Tq.st {blk S off n : Nat} {d : Array I32} {w w' : World} (h : Tq blk S w w') (hs : St blk off n d w) (hne : S ≠ blk) : St blk off n d w' :=
  have hk : ¬ (blk = S ∨ w.heap.size ≤ blk) := fun e => by have := hs.lt; rcases e with e | e; exact hne e.symm; omega
  ⟨hs.size, fun j hj => ⟨(World.cell?_of_block (h.block blk hk)).trans (hs.holds j hj).1, (World.frozen?_of_block (h.block blk hk)).trans (hs.holds j hj).2⟩, Nat.lt_of_lt_of_le hs.lt h.size⟩
theorem Tq.bx {V H : Value} {blk S B : Nat} {w w' : World} (h : Tq blk S w w') (hb : Bx V H blk B w) (hne : B ≠ S) : Bx V H blk B w' :=
  have hk : ¬ (B = S ∨ w.heap.size ≤ B) := fun e => by have := hb.lt; rcases e with e | e; exact hne e; omega
  ⟨(World.cell?_of_block (h.block B hk)).trans hb.less, (World.cell?_of_block (h.block B hk)).trans hb.swap, hb.ne, Nat.lt_of_lt_of_le hb.lt h.size⟩
theorem Cnt.below {blk S : Nat} {w w' : World} (h : Cnt blk S w) (hb : RowKit.Below w.heap.size w w') : Cnt blk S w' := by
  obtain ⟨⟨z, hz⟩, hne⟩ := h
  exact ⟨⟨z, hz.below hb hz.lt⟩, hne⟩
theorem Cnt.lt {blk S : Nat} {w : World} (h : Cnt blk S w) : S < w.heap.size := h.at_.elim fun _ hz => hz.lt
set_option maxHeartbeats 2000000 in
set_option maxRecDepth 100000 in
theorem order2_any {V H : Value} {blk off n : Nat} (E : Env V H blk off n) (d : Array I32) (w : World) (a b S : Nat) (hs : St blk off n d w) (ha : a < n) (hb : b < n) (hc : Cnt blk S w) :
    Calls Try.prog 69 #[dat V H, .int .i64 a, .int .i64 b, .pointer (some ⟨S, 0, none⟩)] w fun e w' => (e = .returned (.tuple #[.int .i64 a, .int .i64 b]) ∨ e = .returned (.tuple #[.int .i64 b, .int .i64 a])) ∧ Tq blk S w w' ∧ Cnt blk S w' := by
  have HC := Lib.hid (hc.below ((RowKit.Below.refl _ w).alloc (Nat.le_refl _) (datObj V H)))
  have HQ0 := Lib.hid (Tq.ofNew (blk := blk) (S := S) ((RowKit.Below.refl _ w).alloc (Nat.le_refl _) (datObj V H)))
  unfold datObj at HC HQ0
  have HBS := Lib.hid (show w.heap.size ≠ S from fun e => by have := hc.lt; omega)
  clear hc
  have HE := Lib.hid E
  have en := enters_less
  have HS0 := Lib.hid (hs.boxed (V := V) (H := H))
  have HB0 := Lib.hid (Bx.new (V := V) (H := H) hs)
  unfold datObj at HS0 HB0
  unfold dat
  clear E hs
  go_enter Try.func69, Try.ntmps69
  cases hl : lt d[b]! d[a]! with
  | true =>
    have HL := Lib.hid (HE.out.less d _ b a HS0.out hb ha)
    rw [hl] at HL
    clear hl
    go_wp2_with (go_at_fn 23; (with_reducible refine HL.out.mono ?_); rintro e w2 ⟨rfl, hBn⟩; obtain ⟨⟨z, hz⟩, hne⟩ := HC.out.below hBn; have c2 := hz.cell 0; have f2 := hz.frozen 0; have HZ := Lib.hid hz; have HN := Lib.hid hne; have HQ2 := Lib.hid (HQ0.out.trans (Tq.ofNew hBn)); clear hz hne hBn HL)
    go_ret2
    refine ⟨.inr rfl, ?_, ⟨⟨_, HZ.out.set_ 0 _⟩, HN.out⟩⟩
    exact Turn.setCell HQ2.out (.inl rfl) _
  | false =>
    have HL := Lib.hid (HE.out.less d _ b a HS0.out hb ha)
    rw [hl] at HL
    clear hl
    go_wp2_with (go_at_fn 23; (with_reducible refine HL.out.mono ?_); rintro e w2 ⟨rfl, hBn⟩; have HC2 := Lib.hid (HC.out.below hBn); have HQ2 := Lib.hid (HQ0.out.trans (Tq.ofNew hBn)); clear hBn HL)
    go_ret2
    exact ⟨.inl rfl, HQ2.out, HC2.out⟩
end Go.Proofs.Ytkfhlnpbklchmaa.srt
