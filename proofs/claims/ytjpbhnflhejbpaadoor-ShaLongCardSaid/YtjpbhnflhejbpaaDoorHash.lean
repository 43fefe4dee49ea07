/-
  What a Hash has taken: its words are those of the whole blocks, its block begins with the rest.
-/
import Derived.Test.YtjpbhnflhejbpaaDoorEnd
import Derived.Lib.BufferWrite
namespace Go.Proofs.YtjpbhnflhejbpaaDoor.sha
open Go.RowKit Go.Proofs.YtjpbhnflhejbpaaDoor.mem

theorem fb_append (a b : List UInt8) : ∀ n, 64 * n ≤ a.length → fb (a ++ b) n = fb a n
  | 0, _ => rfl
  | n + 1, h => by
    rw [fb, fb, fb_append a b n (by omega), List.drop_append_of_le_length (by omega), List.take_append_of_le_length (by rw [List.length_drop]; omega)]

/-- a Hash that has taken l -/
def HashIs (w : World) (g : Nat) (l : List UInt8) : Prop :=
  ∃ bl : List UInt8, bl.length = 64 ∧ HBlk w g (fb l (l.length / 64)) bl l.length ∧ bl.take (l.length % 64) = l.drop (64 * (l.length / 64))

/-- the block behind a copy of p to its place r -/
def put (bl : List UInt8) (r : Nat) (p : List UInt8) : List UInt8 := bl.take r ++ p ++ bl.drop (r + p.length)
theorem put_length (bl : List UInt8) (r : Nat) (p : List UInt8) (h : r + p.length ≤ bl.length) : (put bl r p).length = bl.length := by
  simp only [put, List.length_append, List.length_take, List.length_drop]; omega

theorem HashIs.part {w : World} {g : Nat} {l p bl : List UInt8} (hbl : bl.length = 64) (ht : bl.take (l.length % 64) = l.drop (64 * (l.length / 64))) (hp : l.length % 64 + p.length < 64)
    (h : HBlk w g (fb l (l.length / 64)) (put bl (l.length % 64) p) ((l.length + p.length : Nat) : Int)) : HashIs w g (l ++ p) := by
  have e1 : (l ++ p).length = l.length + p.length := List.length_append
  have e2 : (l.length + p.length) / 64 = l.length / 64 := by omega
  have e3 : (l.length + p.length) % 64 = l.length % 64 + p.length := by omega
  refine ⟨put bl (l.length % 64) p, by rw [put_length _ _ _ (by omega), hbl], ?_, ?_⟩
  · rw [e1, e2, fb_append _ _ _ (by omega)]
    exact h
  · rw [e1, e2, e3, List.drop_append_of_le_length (by omega), ← ht]
    unfold put
    have hl : (bl.take (l.length % 64) ++ p).length = l.length % 64 + p.length := by rw [List.length_append, List.length_take]; omega
    rw [← hl, List.take_left]

theorem put_whole {l p bl : List UInt8} (hbl : bl.length = 64) (ht : bl.take (l.length % 64) = l.drop (64 * (l.length / 64))) (hp : l.length % 64 + p.length = 64) :
    fb (l ++ p) ((l ++ p).length / 64) = blk (fb l (l.length / 64)) (put bl (l.length % 64) p) := by
  have e1 : (l ++ p).length = l.length + p.length := List.length_append
  have e2 : (l.length + p.length) / 64 = l.length / 64 + 1 := by omega
  rw [e1, e2, fb, fb_append _ _ _ (by omega), List.drop_append_of_le_length (by omega), ← ht]
  unfold put
  rw [hp, List.drop_of_length_le (by omega), List.append_nil, List.take_of_length_le (by rw [List.length_append, List.length_take]; omega)]

theorem HashIs.whole {w : World} {g : Nat} {l p bl : List UInt8} (hbl : bl.length = 64) (ht : bl.take (l.length % 64) = l.drop (64 * (l.length / 64))) (hp : l.length % 64 + p.length = 64)
    (h : HBlk w g (blk (fb l (l.length / 64)) (put bl (l.length % 64) p)) (put bl (l.length % 64) p) ((l.length + p.length : Nat) : Int)) : HashIs w g (l ++ p) := by
  have e1 : (l ++ p).length = l.length + p.length := List.length_append
  refine ⟨put bl (l.length % 64) p, by rw [put_length _ _ _ (by omega), hbl], ?_, ?_⟩
  · rw [put_whole hbl ht hp, e1]
    exact h
  · rw [e1, show (l.length + p.length) % 64 = 0 by omega, List.take_zero, List.drop_of_length_le (by omega)]

/-- 'copy(dst, s)', dst lying in row g from place o on: as many bytes as there is room for -/
theorem run_copy_min (w : World) (ty : TypeId) (g o d c : Nat) (s : ByteArray) (cur : Array Value) (t : TypeId)
    (hg : w.heap[g]? = some (.cells cur t (0, 0))) (hfit : o + min s.size d ≤ cur.size) :
    (Builtin.copy_ #[35, 9] ty #[.slice (some ⟨g, o, none⟩) d c, .string s]).run Tryd.prog w =
      .ok (goInt ((min s.size d : Nat) : Int)) (w.setRow g (cur.toList.take o ++ bv (s.data.toList.take (min s.size d)) ++ cur.toList.drop (o + min s.size d)).toArray) := by
  have hlen : (bv (s.data.toList.take (min s.size d))).length = min s.size d := by
    rw [bv_length, List.length_take, ← Lib.size_eq]; omega
  have hst := run_storeCells_at Tryd.prog g o t (bv (s.data.toList.take (min s.size d))) 0 cur w hg (by rw [hlen]; simpa using hfit) (by
    intro v hv
    simp only [bv, List.mem_map] at hv
    obtain ⟨b, _, rfl⟩ := hv
    rfl)
  have htk : List.take (min s.size d) (List.map (fun b : UInt8 => Value.int IntKind.u8 (b.toNat : Int)) s.data.toList) = bv (s.data.toList.take (min s.size d)) := by
    unfold bv; rw [List.map_take]; rfl
  rw [hlen] at hst
  simp only [Nat.add_zero] at hst
  obtain ⟨i, hi, _, hs, _⟩ := info_parts info5
  simp [Builtin.copy_, run_underlying Tryd.underlying35, Builtin.lenOf, Builtin.firstCells, sizeOf, typeInfo, hi]
  rw [htk, hst]
  simp only [Result.andThen_ok, List.append_assoc]
  try rfl

/-- 'block[r:]', block being the array behind a pointer -/
theorem run_slice_block (g r : Nat) (i : Int) (hi : i = (r : Int)) (hr : r < 64) (w : World) : (Instr.sliceAt 39 (.pointer (some ⟨g, 9, none⟩)) (some (.int .i64 i)) none none).run Tryd.prog w =
    .ok (.slice (some ⟨g, 9 + r, none⟩) (64 - r) (64 - r)) w := by
  subst hi
  obtain ⟨y, hy, _, hs, _⟩ := info_parts info5
  have h0 : (0 : Int) ≤ (r : Int) := Int.natCast_nonneg _
  have h1 : (r : Int) ≤ ((64 : Nat) : Int) := by omega
  have h2 : ¬ (64 : Nat) = r := by omega
  simp only [Instr.sliceAt, Instr.sureAddr, Instr.sliceBounds, Instr.sliceBound, asIntOf, sizeOf, typeInfo, Sem.run_bind, Sem.run_pure, Result.andThen_ok, run_underlying Tryd.underlying39]
  rw [if_pos ⟨h0, h1⟩]
  simp [hy, hs, h2, Addr.add]
theorem HBlk.copied {w : World} {g : Nat} {ws : W8} {bl : List UInt8} {n : Int} (h : HBlk w g ws bl n) (hbl : bl.length = 64) (r : Nat) (p : List UInt8) (hp : r + p.length ≤ 64) :
    HBlk (w.setRow g ((Value.bool true :: (uv (wList ws) ++ (bv bl ++ [.int .i64 n]))).take (9 + r) ++ bv p ++ (Value.bool true :: (uv (wList ws) ++ (bv bl ++ [.int .i64 n]))).drop (9 + r + p.length)).toArray) g ws (put bl r p) n := by
  have h2 := setRow_heap w g _ ((Value.bool true :: (uv (wList ws) ++ (bv bl ++ [.int .i64 n]))).take (9 + r) ++ bv p ++ (Value.bool true :: (uv (wList ws) ++ (bv bl ++ [.int .i64 n]))).drop (9 + r + p.length)).toArray _ _ h
  unfold HBlk Blk
  rw [h2]
  have e8 : (uv (wList ws)).length = 8 := rfl
  have e : (Value.bool true :: (uv (wList ws) ++ (bv bl ++ [.int .i64 n]))).take (9 + r) ++ bv p ++ (Value.bool true :: (uv (wList ws) ++ (bv bl ++ [.int .i64 n]))).drop (9 + r + p.length) =
      Value.bool true :: (uv (wList ws) ++ (bv (put bl r p) ++ [.int .i64 n])) := by
    rw [show 9 + r = (8 + r) + 1 by omega, List.take_succ_cons, show 8 + r + 1 + p.length = (8 + (r + p.length)) + 1 by omega, List.drop_succ_cons, ← e8, List.take_length_add_append, List.drop_length_add_append,
      List.take_append_of_le_length (by rw [bv_length]; omega), List.drop_append_of_le_length (by rw [bv_length]; omega)]
    unfold put
    rw [bv_append, bv_append]
    unfold bv
    rw [List.map_take, List.map_drop]
    simp only [List.cons_append, List.append_assoc]
  rw [e]
end Go.Proofs.YtjpbhnflhejbpaaDoor.sha
