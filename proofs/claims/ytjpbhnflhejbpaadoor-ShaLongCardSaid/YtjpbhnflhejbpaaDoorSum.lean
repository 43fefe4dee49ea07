/-
  New, Len, Write, Sum: what each call of package sha answers and leaves.
-/
import Derived.Test.YtjpbhnflhejbpaaDoorTake
namespace Go.Proofs.YtjpbhnflhejbpaaDoor.sha
open Go.RowKit Go.Proofs.YtjpbhnflhejbpaaDoor.mem

theorem neq_h (a : Addr) (w : World) : (binOp .eql 28 (.pointer (some a)) (.pointer none)).run Tryd.prog w = .ok (.bool false) w := by
  have h1 : ∀ d : Nat, (Op.equalIn (d + 1) 28 (.pointer (some a)) (.pointer none)).run Tryd.prog w = .ok false w := fun d => by
    simp [Op.equalIn, run_underlying Tryd.underlying28]
  simp only [binOp]
  simp [Op.equal, Op.maxDepth, h1 9999]

theorem HashIs.lt {w : World} {g : Nat} {l : List UInt8} (h : HashIs w g l) : g < w.heap.size := by obtain ⟨_, _, hB, _⟩ := h; exact Blk.lt hB
theorem HashIs.below {w w' : World} {g B : Nat} {l : List UInt8} (h : HashIs w g l) (hb : Below B w w') (hg : g < B) : HashIs w' g l := by
  obtain ⟨bl, h1, hB, h2⟩ := h
  exact ⟨bl, h1, Blk.below hB hb hg, h2⟩
theorem HashIs.next {w w' : World} {g : Nat} {l : List UInt8} (h : HashIs w g l) (hb : Below w.heap.size w w') : HashIs w' g l := h.below hb h.lt
theorem HashIs.c0 {w : World} {g : Nat} {l : List UInt8} (h : HashIs w g l) : w.cell? ⟨g, 0, none⟩ = some (.bool true) := by obtain ⟨_, _, hB, _⟩ := h; exact hB.c0
theorem HashIs.len {w : World} {g : Nat} {l : List UInt8} (h : HashIs w g l) : w.cell? ⟨g, 73, none⟩ = some (.int .i64 l.length) := by obtain ⟨_, h1, hB, _⟩ := h; exact HBlk.len hB h1

/-- a Hash that nobody made -/
def zcells : List Value := Value.bool false :: (uv (List.replicate 8 0) ++ (bv (List.replicate 64 0) ++ [.int .i64 0]))
def ZHash (w : World) (p : Option Addr) : Prop := p = none ∨ ∃ g, p = some ⟨g, 0, none⟩ ∧ Blk w g 41 zcells.toArray
theorem ZHash.next {w w' : World} {p : Option Addr} (h : ZHash w p) (hb : Below w.heap.size w w') : ZHash w' p := by
  rcases h with h | ⟨g, hg, h⟩
  · exact .inl h
  · exact .inr ⟨g, hg, h.below hb h.lt⟩

theorem len_any (g : Nat) (l : List UInt8) (w : World) (h : HashIs w g l) : Calls Tryd.prog 12 #[.pointer (some ⟨g, 0, none⟩)] w fun e w' => e = .returned (.int .i64 l.length) ∧ w = w' := by
  have c0 := h.c0
  have c73 := h.len
  have hne := neq_h
  clear h
  go_enter Tryd.func12, Tryd.ntmps12
  go_wp2
  go_ret
  exact ⟨rfl, rfl⟩
theorem len_zero (p : Option Addr) (w : World) (h : ZHash w p) : Calls Tryd.prog 12 #[.pointer p] w fun e w' => e = .returned (.int .i64 0) ∧ w = w' := by
  rcases h with rfl | ⟨g, rfl, h⟩
  · go_enter Tryd.func12, Tryd.ntmps12
    go_wp2
    go_ret
    exact ⟨rfl, rfl⟩
  · have c0 : w.cell? ⟨g, 0, none⟩ = some (.bool false) := h.cell 0
    have hne := neq_h
    clear h
    go_enter Tryd.func12, Tryd.ntmps12
    go_wp2
    go_ret
    exact ⟨rfl, rfl⟩
theorem write_zero (p : Option Addr) (s : ByteArray) (w : World) (h : ZHash w p) : Calls Tryd.prog 11 #[.pointer p, .string s] w fun e w' => e = .returned (.int .i64 0) ∧ w = w' := by
  rcases h with rfl | ⟨g, rfl, h⟩
  · go_enter Tryd.func11, Tryd.ntmps11
    go_wp2
    go_ret
    exact ⟨rfl, rfl⟩
  · have c0 : w.cell? ⟨g, 0, none⟩ = some (.bool false) := h.cell 0
    have hne := neq_h
    clear h
    go_enter Tryd.func11, Tryd.ntmps11
    go_wp2
    go_ret
    exact ⟨rfl, rfl⟩
theorem write_any (g : Nat) (l : List UInt8) (s : ByteArray) (w : World) (h : HashIs w g l) (hT : Tab w) (hg : 2 ≤ g) (hl : l.length + s.size ≤ 1099511627776) :
    Calls Tryd.prog 11 #[.pointer (some ⟨g, 0, none⟩), .string s] w fun e w' => e = .returned (.int .i64 s.size) ∧ HashIs w' g (l ++ s.data.toList) ∧ Turn (fun k => k = g ∨ w.heap.size ≤ k) w w' := by
  have c0 := h.c0
  have hne := neq_h
  go_enter Tryd.func11, Tryd.ntmps11
  go_wp2_with (go_at_call 14; refine (take_any g l s _ h hT hg hl).mono ?_; rintro e w1 ⟨rfl, h1, ht1⟩)
  go_ret
  exact ⟨rfl, h1, ht1⟩

theorem zero41 : ∀ w, (zeroValue 41).run Tryd.prog w = .ok (.agg #[.bool false, .int .u32 0, .int .u32 0, .int .u32 0, .int .u32 0, .int .u32 0, .int .u32 0, .int .u32 0, .int .u32 0, .int .u8 0, .int .u8 0, .int .u8 0, .int .u8 0, .int .u8 0, .int .u8 0, .int .u8 0, .int .u8 0, .int .u8 0, .int .u8 0, .int .u8 0, .int .u8 0, .int .u8 0, .int .u8 0, .int .u8 0, .int .u8 0, .int .u8 0, .int .u8 0, .int .u8 0, .int .u8 0, .int .u8 0, .int .u8 0, .int .u8 0, .int .u8 0, .int .u8 0, .int .u8 0, .int .u8 0, .int .u8 0, .int .u8 0, .int .u8 0, .int .u8 0, .int .u8 0, .int .u8 0, .int .u8 0, .int .u8 0, .int .u8 0, .int .u8 0, .int .u8 0, .int .u8 0, .int .u8 0, .int .u8 0, .int .u8 0, .int .u8 0, .int .u8 0, .int .u8 0, .int .u8 0, .int .u8 0, .int .u8 0, .int .u8 0, .int .u8 0, .int .u8 0, .int .u8 0, .int .u8 0, .int .u8 0, .int .u8 0, .int .u8 0, .int .u8 0, .int .u8 0, .int .u8 0, .int .u8 0, .int .u8 0, .int .u8 0, .int .u8 0, .int .u8 0, .int .i64 0]) w :=
  (zero_of_info (P := Tryd.prog) (n := 74) (by kernel_rfl)).1
set_option maxHeartbeats 4000000 in
set_option maxRecDepth 100000 in
theorem new_any (w : World) (hT : Tab w) : Calls Tryd.prog 10 #[] w fun e w' => e = .returned (.pointer (some ⟨w.heap.size, 0, none⟩)) ∧ HashIs w' w.heap.size [] ∧ Below w.heap.size w w' := by
  have c0 := hT.2.1 0 (by decide)
  have c1 := hT.2.1 1 (by decide)
  have c2 := hT.2.1 2 (by decide)
  have c3 := hT.2.1 3 (by decide)
  have c4 := hT.2.1 4 (by decide)
  have c5 := hT.2.1 5 (by decide)
  have c6 := hT.2.1 6 (by decide)
  have c7 := hT.2.1 7 (by decide)
  have hz := zero41
  clear hT
  go_enter Tryd.func10, Tryd.ntmps10
  go_wp2
  go_ret
  refine ⟨rfl, ⟨List.replicate 64 0, rfl, ?_, rfl⟩, (Below.refl _ w).alloc (Nat.le_refl _) _⟩
  exact Blk.new _ _ _
end Go.Proofs.YtjpbhnflhejbpaaDoor.sha
