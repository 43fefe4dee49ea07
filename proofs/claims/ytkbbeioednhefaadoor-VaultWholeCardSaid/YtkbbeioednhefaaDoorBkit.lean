/-
  What package block answers: contracts of its calls.
  What block's functions answer.
-/
import Derived.Test.YtkbbeioednhefaaDoorBlr
import Derived.Test.YtkbbeioednhefaaDoorBkpl
import Derived.Test.YtkbbeioednhefaaDoorStrx
import Derived.Test.YtkbbeioednhefaaDoorMemi
namespace Go.Proofs.YtkbbeioednhefaaDoor.bk
open Go.RowKit Go.Proofs.YtkbbeioednhefaaDoor.mem Go.Proofs.YtkbbeioednhefaaDoor.sha Go.Proofs.YtkbbeioednhefaaDoor.strx

/-- a Block's block: itself, its bytes, how many are safe -/
def BBlk (w : World) (g : Nat) (v : Value) (k : Nat) : Prop := Blk w g 55 #[.pointer (some ⟨g, 0, none⟩), v, .int .i64 (k : Int)]
theorem BBlk.c0 {w : World} {g : Nat} {v : Value} {k : Nat} (h : BBlk w g v k) : w.cell? ⟨g, 0, none⟩ = some (.pointer (some ⟨g, 0, none⟩)) := Blk.cell h 0
theorem BBlk.c1 {w : World} {g : Nat} {v : Value} {k : Nat} (h : BBlk w g v k) : w.cell? ⟨g, 1, none⟩ = some v := Blk.cell h 1
theorem BBlk.c2 {w : World} {g : Nat} {v : Value} {k : Nat} (h : BBlk w g v k) : w.cell? ⟨g, 2, none⟩ = some (.int .i64 (k : Int)) := Blk.cell h 2
/-- a Block that New made -/
def BlkIs (G : Nat → Prop) (w : World) (p : Value) (s : List UInt8) (k : Nat) : Prop := ∃ g v, p = .pointer (some ⟨g, 0, none⟩) ∧ BBlk w g v k ∧ DB w (fun j => G j ∧ j ≠ g) v s ∧ G g ∧ k ≤ s.length
theorem BlkIs.next {G : Nat → Prop} {w w' : World} {p : Value} {s : List UInt8} {k : Nat} (h : BlkIs G w p s k) (hb : Below w.heap.size w w') : BlkIs G w' p s k := by
  obtain ⟨g, v, hp, h1, h2, h3, h4⟩ := h
  exact ⟨g, v, hp, Blk.below h1 hb (Blk.lt h1), h2.next hb, h3, h4⟩
/-- nil, or one that nobody made -/
def BlkNo (w : World) (p : Value) : Prop := p = .pointer none ∨ ∃ g, p = .pointer (some ⟨g, 0, none⟩) ∧ Blk w g 55 #[.pointer none, .slice none 0 0, .int .i64 0]
theorem BlkNo.next {w w' : World} {p : Value} (h : BlkNo w p) (hb : Below w.heap.size w w') : BlkNo w' p := by
  rcases h with h | ⟨g, hp, h⟩
  · exact .inl h
  · exact .inr ⟨g, hp, h.below hb h.lt⟩

theorem hasB : (Tryd.prog.info? 55).isSome = true := by kernel_rfl
theorem bk_eql (a : Addr) (w : World) : (binOp .eql 24 (.pointer (some a)) (.pointer (some a))).run Tryd.prog w = .ok (.bool true) w := by
  obtain ⟨j, hj⟩ := Option.isSome_iff_exists.1 hasB
  exact run_eql_ptr_same w a Tryd.underlying24 hj

theorem eql_nil_left {t e : TypeId} (a : Addr) (w : World) (h : Tryd.prog.underlying t = some (.pointer e)) : (binOp .eql t (.pointer none) (.pointer (some a))).run Tryd.prog w = .ok (.bool false) w := by
  have h1 : ∀ d : Nat, (Op.equalIn (d + 1) t (.pointer none) (.pointer (some a))).run Tryd.prog w = .ok false w := fun d => by
    simp [Op.equalIn, run_underlying h]
  simp only [binOp]
  simp [Op.equal, Op.maxDepth, h1 9999]
theorem made_ok (g : Nat) (v : Value) (k : Nat) (w : World) (h : BBlk w g v k) : Calls Tryd.prog 37 #[.pointer (some ⟨g, 0, none⟩)] w fun e w' => e = .returned (.bool true) ∧ w = w' := by
  have h0 := h.c0
  have hne := bk_eql
  clear h
  go_enter Tryd.func37, Tryd.ntmps37
  go_wp2
  go_ret
  exact ⟨rfl, rfl⟩
theorem made_no (p : Value) (w : World) (h : BlkNo w p) : Calls Tryd.prog 37 #[p] w fun e w' => e = .returned (.bool false) ∧ w = w' := by
  rcases h with rfl | ⟨g, rfl, h⟩
  · go_enter Tryd.func37, Tryd.ntmps37
    go_wp2
    go_ret
    exact ⟨rfl, rfl⟩
  · have h0 : w.cell? ⟨g, 0, none⟩ = some (.pointer none) := h.cell 0
    have hne := fun a w => eql_nil_left (t := 24) a w Tryd.underlying24
    clear h
    go_enter Tryd.func37, Tryd.ntmps37
    go_wp2
    go_ret
    exact ⟨rfl, rfl⟩
theorem new_any (w : World) : Calls Tryd.prog 10 #[] w fun e w' => ∃ p, e = .returned p ∧ BlkIs (fun j => w.heap.size ≤ j ∧ j < w'.heap.size) w' p [] 0 ∧ Below w.heap.size w w' := by
  go_enter Tryd.func10, Tryd.ntmps10
  go_wp2
  go_ret
  refine ⟨_, rfl, ⟨w.heap.size, .slice none 0 0, rfl, Blk.new w _ _, .inl ⟨rfl, rfl⟩, ⟨Nat.le_refl _, by simp⟩, Nat.le_refl _⟩, (Below.refl _ w).alloc (Nat.le_refl _) _⟩

theorem size_any (G : Nat → Prop) (p : Value) (s : List UInt8) (k : Nat) (w : World) (h : BlkIs G w p s k) : Calls Tryd.prog 47 #[p] w fun e w' => e = .returned (.int .i64 (s.length : Int)) ∧ w = w' := by
  obtain ⟨g, v, rfl, hb, hd, _, _⟩ := h
  obtain ⟨a, c, rfl, _, _⟩ := hd.form
  have h1 := hb.c1
  have HM := Lib.hid (made_ok g _ k w hb)
  clear hb hd
  go_enter Tryd.func47, Tryd.ntmps47
  go_wp2_with (go_at_call 37; (with_reducible refine HM.out.mono ?_); rintro e w1 ⟨rfl, rfl⟩)
  go_ret
  exact ⟨rfl, rfl⟩
theorem size_no (p : Value) (w : World) (h : BlkNo w p) : Calls Tryd.prog 47 #[p] w fun e w' => e = .returned (.int .i64 0) ∧ w = w' := by
  have HM := Lib.hid (made_no p w h)
  clear h
  go_enter Tryd.func47, Tryd.ntmps47
  go_wp2_with (go_at_call 37; (with_reducible refine HM.out.mono ?_); rintro e w1 ⟨rfl, rfl⟩)
  go_ret
  exact ⟨rfl, rfl⟩
theorem tail_any (G : Nat → Prop) (p : Value) (s : List UInt8) (k : Nat) (w : World) (h : BlkIs G w p s k) : Calls Tryd.prog 68 #[p] w fun e w' => e = .returned (.int .i64 ((s.length : Int) - (k : Int))) ∧ Below w.heap.size w w' := by
  obtain ⟨g, v, rfl, hb, hd, _, hk⟩ := h
  have hl := hd.len
  unfold maxLen at hl
  obtain ⟨a, c, rfl, _, _⟩ := hd.form
  have h1 := hb.c1
  have h2 := hb.c2
  have HM := Lib.hid (made_ok g _ k w hb)
  have hw : IntKind.i64.wrap ((s.length : Int) - (k : Int)) = (s.length : Int) - (k : Int) := by rw [IntKind.wrap_i64]; omega
  clear hb hd
  go_enter Tryd.func68, Tryd.ntmps68
  go_wp2_with (go_at_call 37; (with_reducible refine HM.out.mono ?_); rintro e w1 ⟨rfl, rfl⟩)
  go_quiet (fail)
  go_wp2
  go_ret
  exact ⟨rfl, below_drewN (Below.refl _ _) _⟩
theorem tail_no (p : Value) (w : World) (h : BlkNo w p) : Calls Tryd.prog 68 #[p] w fun e w' => e = .returned (.int .i64 0) ∧ w = w' := by
  have HM := Lib.hid (made_no p w h)
  clear h
  go_enter Tryd.func68, Tryd.ntmps68
  go_wp2_with (go_at_call 37; (with_reducible refine HM.out.mono ?_); rintro e w1 ⟨rfl, rfl⟩)
  go_ret
  exact ⟨rfl, rfl⟩
theorem data_any (G : Nat → Prop) (p : Value) (s : List UInt8) (k : Nat) (w : World) (h : BlkIs G w p s k) : Calls Tryd.prog 24 #[p] w fun e w' => e = .returned (.string (bt s)) ∧ Below w.heap.size w w' := by
  obtain ⟨g, v, rfl, hb, hd, _, hk⟩ := h
  have hstr := hd.string
  have h1 := hb.c1
  have HM := Lib.hid (made_ok g _ k w hb)
  clear hb hd
  go_enter Tryd.func24, Tryd.ntmps24
  go_wp2_with (go_at_call 37; (with_reducible refine HM.out.mono ?_); rintro e w1 ⟨rfl, rfl⟩)
  go_ret
  exact ⟨rfl, Below.refl _ _⟩
theorem data_no (p : Value) (w : World) (h : BlkNo w p) : Calls Tryd.prog 24 #[p] w fun e w' => e = .returned (.string ⟨#[]⟩) ∧ w = w' := by
  have HM := Lib.hid (made_no p w h)
  clear h
  go_enter Tryd.func24, Tryd.ntmps24
  go_wp2_with (go_at_call 37; (with_reducible refine HM.out.mono ?_); rintro e w1 ⟨rfl, rfl⟩)
  go_ret
  exact ⟨rfl, rfl⟩
theorem cut_no (p : Value) (n : Int) (w : World) (h : BlkNo w p) : Calls Tryd.prog 57 #[p, .int .i64 n] w fun e w' => e = .returned (.int .i64 8) ∧ w = w' := by
  have HM := Lib.hid (made_no p w h)
  clear h
  go_enter Tryd.func57, Tryd.ntmps57
  go_wp2_with (go_at_call 37; (with_reducible refine HM.out.mono ?_); rintro e w1 ⟨rfl, rfl⟩)
  go_ret
  exact ⟨rfl, rfl⟩
theorem write_no (p : Value) (t : ByteArray) (w : World) (h : BlkNo w p) : Calls Tryd.prog 11 #[p, .string t] w fun e w' => e = .returned (.int .i64 8) ∧ w = w' := by
  have HM := Lib.hid (made_no p w h)
  clear h
  go_enter Tryd.func11, Tryd.ntmps11
  go_wp2_with (go_at_call 37; (with_reducible refine HM.out.mono ?_); rintro e w1 ⟨rfl, rfl⟩)
  go_ret
  exact ⟨rfl, rfl⟩
theorem sync_no (p : Value) (w : World) (h : BlkNo w p) : Calls Tryd.prog 44 #[p] w fun e w' => e = .returned (.int .i64 0) ∧ w = w' := by
  have HT := Lib.hid (tail_no p w h)
  have HS := Lib.hid (size_no p w h)
  have HC := Lib.hid (cut_no p 0 w h)
  clear h
  go_enter Tryd.func44, Tryd.ntmps44
  go_wp2_with (first
    | (go_at_call 68; (with_reducible refine HT.out.mono ?_); rintro e w1 ⟨rfl, rfl⟩)
    | (go_at_call 47; (with_reducible refine HS.out.mono ?_); rintro e w1 ⟨rfl, rfl⟩)
    | (go_at_call 57; (with_reducible refine HC.out.mono ?_); rintro e w1 ⟨rfl, rfl⟩))
  go_ret
  exact ⟨rfl, rfl⟩
end Go.Proofs.YtkbbeioednhefaaDoor.bk

namespace Go.Proofs.YtkbbeioednhefaaDoor.bk
open Go.RowKit Go.Proofs.YtkbbeioednhefaaDoor.mem Go.Proofs.YtkbbeioednhefaaDoor.sha Go.Proofs.YtkbbeioednhefaaDoor.strx

/-- Bk G w p s k: p is a Block of the bytes s, of which k are safe, in blocks of G -/
structure BkIs (T : World → Prop) (Bk : (Nat → Prop) → World → Value → List UInt8 → Nat → Prop) : Prop where
  next : ∀ {w w' : World}, T w → Below w.heap.size w w' → T w'
  le : ∀ {G : Nat → Prop} {w : World} {p : Value} {s : List UInt8} {k : Nat}, Bk G w p s k → k ≤ s.length
  cap : ∀ {G : Nat → Prop} {w : World} {p : Value} {s : List UInt8} {k : Nat}, Bk G w p s k → Bk (fun j => G j ∧ j < w.heap.size) w p s k
  mono : ∀ {G H : Nat → Prop} {w : World} {p : Value} {s : List UInt8} {k : Nat}, Bk G w p s k → (∀ j, G j → H j) → Bk H w p s k
  turn : ∀ {G H : Nat → Prop} {w w' : World} {p : Value} {s : List UInt8} {k : Nat}, Bk G w p s k → Turn H w w' → (∀ j, j < w.heap.size → G j → ¬ H j) → Bk G w' p s k
  new : ∀ (w : World), T w → Calls Tryd.prog 10 #[] w fun e w' => ∃ p, e = .returned p ∧ Bk (fun j => w.heap.size ≤ j ∧ j < w'.heap.size) w' p [] 0 ∧ Below w.heap.size w w'
  write : ∀ (G : Nat → Prop) (p : Value) (s : List UInt8) (k : Nat) (t : ByteArray) (w : World), T w → New G w → Bk G w p s k → s.length + t.size ≤ 50000000 → Calls Tryd.prog 11 #[p, .string t] w fun e w' => e = .returned (.int .i64 0) ∧ Bk G w' p (s ++ t.data.toList) k ∧ Turn G w w'
  sync : ∀ (G : Nat → Prop) (p : Value) (s : List UInt8) (k : Nat) (w : World), T w → New G w → Bk G w p s k → Calls Tryd.prog 44 #[p] w fun e w' => e = .returned (.int .i64 ((s.length : Int) - (k : Int))) ∧ Bk G w' p s s.length ∧ Turn G w w'
  cut : ∀ (G : Nat → Prop) (p : Value) (s : List UInt8) (k : Nat) (n : Int) (w : World), T w → New G w → Bk G w p s k → Calls Tryd.prog 57 #[p, .int .i64 n] w fun e w' => e = .returned (.int .i64 (cutB s k n).2.2) ∧ Bk G w' p (cutB s k n).1 (cutB s k n).2.1 ∧ Turn G w w'
  crash : ∀ (G : Nat → Prop) (p : Value) (s : List UInt8) (k : Nat) (n : Int) (w : World), T w → New G w → Bk G w p s k → Calls Tryd.prog 45 #[p, .int .i64 n] w fun e w' => e = .returned (.int .i64 (crashB s k n).2.2) ∧ Bk G w' p (crashB s k n).1 (crashB s k n).2.1 ∧ Turn G w w'
  data : ∀ (G : Nat → Prop) (p : Value) (s : List UInt8) (k : Nat) (w : World), T w → Bk G w p s k → Calls Tryd.prog 24 #[p] w fun e w' => e = .returned (.string (bt s)) ∧ Below w.heap.size w w'
  size : ∀ (G : Nat → Prop) (p : Value) (s : List UInt8) (k : Nat) (w : World), T w → Bk G w p s k → Calls Tryd.prog 47 #[p] w fun e w' => e = .returned (.int .i64 (s.length : Int)) ∧ Below w.heap.size w w'
  tail : ∀ (G : Nat → Prop) (p : Value) (s : List UInt8) (k : Nat) (w : World), T w → Bk G w p s k → Calls Tryd.prog 68 #[p] w fun e w' => e = .returned (.int .i64 ((s.length : Int) - (k : Int))) ∧ Below w.heap.size w w'
end Go.Proofs.YtkbbeioednhefaaDoor.bk
