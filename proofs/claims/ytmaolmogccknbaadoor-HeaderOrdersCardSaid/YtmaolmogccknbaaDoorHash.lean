/-
  sha.ending: what stands behind n bytes.
  What a Hash has taken: its words are those of the whole blocks, its block begins with the rest.
-/
import Derived.Test.YtmaolmogccknbaaDoorIdb
import Derived.Test.YtmaolmogccknbaaDoorOctp
import Derived.Lib.BufferWrite
namespace Go.Proofs.YtmaolmogccknbaaDoor.sha
open Go.RowKit Go.Proofs.YtmaolmogccknbaaDoor.mem

theorem B_ofNat (x : Nat) : B (UInt8.ofNat x) = (x : Int) % 256 := by
  unfold B; rw [UInt8.toNat_ofNat']; omega
def pad (n : Nat) : Nat := (119 - n % 64) % 64
theorem pad_int (n : Nat) : 1 + ((pad n : Nat) : Int) = ((pad n + 1 : Nat) : Int) := by omega
theorem pad_lt (n : Nat) : pad n < 64 := Nat.mod_lt _ (by decide)
/-- the ending's bytes till k of the length's stand -/
def endAcc (n k : Nat) : List UInt8 := 128 :: List.replicate (pad n) 0 ++ (be64 (8 * n)).take k
theorem endAcc_end (n : Nat) : endAcc n 8 = ending n := rfl
theorem endAcc_len (n k : Nat) (hk : k ≤ 8) : (endAcc n k).length = pad n + 1 + k := by
  have : (be64 (8 * n)).length = 8 := rfl
  simp only [endAcc, List.length_append, List.length_cons, List.length_replicate, List.length_take, this]
  omega
theorem run_make_end (n : Nat) (w : World) : (Instr.makeSlice 103 (.int .i64 (1 + ((pad n : Nat) : Int))) (.int .i64 128)).run Tryd.prog w =
    .ok (.slice (some ⟨w.heap.size, 0, none⟩) (pad n + 1) 128) (w.alloc (.cells (bv (List.replicate 128 0)).toArray 5)) := by
  obtain ⟨i0, hi, hz0, hz1, hz2⟩ := info_parts info5
  have h := run_make (P := Tryd.prog) (w := w) 103 5 i0 (.int .u8 0) Tryd.underlying103 hi hz0 .i64 .i64 ((pad n + 1 : Nat) : Int) 128 (by omega) (by have := pad_lt n; omega) (by rw [hz2]; decide) (by decide)
  have e1 : madeCells (Value.int .u8 0).cells (Int.toNat 128 * 1) = (bv (List.replicate 128 0)).toArray := by kernel_rfl
  rw [pad_int, h, hz1, e1, Int.toNat_natCast]
  rfl

theorem be64_len (x : Nat) : (be64 x).length = 8 := rfl
theorem endAcc_next (n k : Nat) (hk : k < 8) (e : Int) (he : e = B ((be64 (8 * n)).getD k 0)) : bv (endAcc n k) ++ [.int .u8 e] = bv (endAcc n (k + 1)) := by
  subst he
  have h : endAcc n (k + 1) = endAcc n k ++ [(be64 (8 * n)).getD k 0] := by
    unfold endAcc
    rw [List.take_succ_eq_append_getElem (by rw [be64_len]; exact hk), List.getD_eq_getElem?_getD, List.getElem?_eq_getElem (by rw [be64_len]; exact hk)]
    simp
  rw [h, bv_append]
  rfl
theorem set_take {α : Type} (l : List α) (x : α) (m : Nat) : (l.set 0 x).take (m + 1) = (l.take (m + 1)).set 0 x := by
  cases l <;> rfl

set_option maxHeartbeats 4000000 in
set_option maxRecDepth 100000 in
theorem ending_any (n : Nat) (hn : n ≤ 1099511627776) (w : World) : Calls Tryd.prog 104 #[.int .i64 n] w fun e w' => e = .returned (.string ⟨(ending n).toArray⟩) ∧ Below w.heap.size w w' := by
  have n0 : (0 : Int) ≤ (n : Int) := Int.natCast_nonneg _
  have n1 : (n : Int) ≤ 1099511627776 := by omega
  have hmk := run_make_end n
  obtain ⟨r, hr⟩ : ∃ r : Int, (n : Int) % 64 = r := ⟨_, rfl⟩
  have hr0 : 0 ≤ r := by omega
  have hr1 : r < 64 := by omega
  have hp : (119 - r) % 64 = ((pad n : Nat) : Int) := by unfold pad; omega
  have hp1 := pad_lt n
  obtain ⟨Z, hZ⟩ : ∃ Z, Z = (bv (List.replicate 128 0)).toArray := ⟨_, rfl⟩
  rw [← hZ] at hmk
  have hb0 : Blk (w.alloc (.cells Z 5)) w.heap.size 5 Z := Blk.new _ _ _
  have hc0 : (w.alloc (.cells Z 5)).cell? ⟨w.heap.size, 0, none⟩ = some (.int .u8 0) := by rw [hb0.cell, hZ]; rfl
  have hf0 := hb0.frozen 0
  have hO : Owns (w.alloc (.cells (Z.setIfInBounds 0 (.int .u8 128)) 5)) (w.heap.size ≤ ·) (.slice (some ⟨w.heap.size, 0, none⟩) (pad n + 1) 128) (pad n + 1) (bv (endAcc n 0)) := by
    refine ⟨⟨?_, .inr ⟨w.heap.size, 128, Z.setIfInBounds 0 (.int .u8 128), rfl, Nat.zero_le _, Blk.new _ _ _, by have := pad_lt n; omega, by unfold maxLen; omega, by rw [hZ]; rfl, ?_⟩⟩, fun k hk => ?_⟩
    · rw [bv_length, endAcc_len n 0 (by omega)]; omega
    · rw [hZ, List.setIfInBounds_toArray, Nat.mul_one]
      show List.take (pad n + 1) ((bv (List.replicate 128 0)).set 0 (.int .u8 128)) = _
      rw [set_take]
      unfold bv endAcc
      rw [← List.map_take, List.take_replicate, Nat.min_eq_left (by have := pad_lt n; omega), List.replicate_succ]
      simp [B]
    · have : w.heap.size = k := by simpa [Value.ownBlock] using hk
      omega
  have HO := Lib.hid hO
  have hB0 : Below w.heap.size w (w.alloc (.cells (Z.setIfInBounds 0 (.int .u8 128)) 5)) := (Below.refl _ w).alloc (Nat.le_refl _) _
  have HB := Lib.hid hB0
  clear hO hB0 hb0 hZ
  go_enter Tryd.func104, Tryd.ntmps104
  go_wp2_with fail
  go_loopw [4, 19] (fun v i wr => ∃ k : Nat, k ≤ 8 ∧ i = .int .i64 k ∧ Owns wr (w.heap.size ≤ ·) v (pad n + 1 + k) (bv (endAcc n k)) ∧ Below w.heap.size w wr) (fun _ i _ => 8 - (intOf i).toNat)
  case atStart => exact ⟨0, by omega, rfl, HO.out, HB.out⟩
  case round =>
    clear HO HB hmk hc0 hf0 hr hp
    obtain ⟨k, hk, rfl, hO, hB⟩ := hrel
    have HO := Lib.hid hO
    have HB := Lib.hid hB
    clear hO hB
    by_cases hlt : k < 8
    · rcases lt8 hlt with rfl | rfl | rfl | rfl | rfl | rfl | rfl | rfl
      all_goals
        go_wp2_with (at_builtin; go_must (refine wp_append_new rfl (.tmp 22) (.tmp 29) rfl (w.heap.size ≤ ·) _ _ _ _ rfl HO.out [_] 1 rfl rfl (one1 _) (by have := pad_lt n; omega) (fun k hk => Nat.le_trans HB.out.size hk) ?_); intro v1 w1 ho1 ht1)
        go_roundw
        case rel =>
          refine ⟨_, Nat.succ_le_of_lt hlt, by push_cast; rfl, ?_, HB.out.trans (ht1.below fun _ h => h)⟩
          rw [endAcc_next _ _ (by decide)] at ho1
          · exact ho1
          · simp only [be64, List.getD_cons_zero, List.getD_cons_succ]
            rw [B_ofNat]
            omega
        case measure => decide
    · obtain rfl : k = 8 := by omega
      have hs : (convert 103 9 u4).run Tryd.prog wr = .ok (.string ⟨(endAcc n 8).toArray⟩) wr := by
        have h := HO.out
        rw [← endAcc_len n 8 (by omega)] at h
        exact Owns.string (out := endAcc n 8) h
      go_wp2_with fail
      go_ret
      exact ⟨by rw [endAcc_end]; rfl, HB.out⟩
end Go.Proofs.YtmaolmogccknbaaDoor.sha

namespace Go.Proofs.YtmaolmogccknbaaDoor.sha
open Go.RowKit Go.Proofs.YtmaolmogccknbaaDoor.mem

theorem fb_append (a b : List UInt8) : ∀ n, 64 * n ≤ a.length → fb (a ++ b) n = fb a n
  | 0, _ => rfl
  | n + 1, h => by
    rw [fb, fb, fb_append a b n (by omega), List.drop_append_of_le_length (by omega), List.take_append_of_le_length (by rw [List.length_drop]; omega)]

/-- a Hash that has taken l -/
def HashIs (w : World) (g : Nat) (l : List UInt8) : Prop :=
  ∃ bl : List UInt8, bl.length = 64 ∧ HBlk w g (fb l (l.length / 64)) bl l.length ∧ bl.take (l.length % 64) = l.drop (64 * (l.length / 64))

/-- the block behind a copy of p to its place r -/
def put (bl : List UInt8) (r : Nat) (p : List UInt8) : List UInt8 := bl.take r ++ p ++ bl.drop (r + p.length)
theorem put_length (bl : List UInt8) (r : Nat) (p : List UInt8) (h : r + p.length ≤ bl.length) : (put bl r p).length = bl.length := by
  simp only [put, List.length_append, List.length_take, List.length_drop]; omega

theorem HashIs.part {w : World} {g : Nat} {l p bl : List UInt8} (hbl : bl.length = 64) (ht : bl.take (l.length % 64) = l.drop (64 * (l.length / 64))) (hp : l.length % 64 + p.length < 64)
    (h : HBlk w g (fb l (l.length / 64)) (put bl (l.length % 64) p) ((l.length + p.length : Nat) : Int)) : HashIs w g (l ++ p) := by
  have e1 : (l ++ p).length = l.length + p.length := List.length_append
  have e2 : (l.length + p.length) / 64 = l.length / 64 := by omega
  have e3 : (l.length + p.length) % 64 = l.length % 64 + p.length := by omega
  refine ⟨put bl (l.length % 64) p, by rw [put_length _ _ _ (by omega), hbl], ?_, ?_⟩
  · rw [e1, e2, fb_append _ _ _ (by omega)]
    exact h
  · rw [e1, e2, e3, List.drop_append_of_le_length (by omega), ← ht]
    unfold put
    have hl : (bl.take (l.length % 64) ++ p).length = l.length % 64 + p.length := by rw [List.length_append, List.length_take]; omega
    rw [← hl, List.take_left]

theorem put_whole {l p bl : List UInt8} (hbl : bl.length = 64) (ht : bl.take (l.length % 64) = l.drop (64 * (l.length / 64))) (hp : l.length % 64 + p.length = 64) :
    fb (l ++ p) ((l ++ p).length / 64) = blk (fb l (l.length / 64)) (put bl (l.length % 64) p) := by
  have e1 : (l ++ p).length = l.length + p.length := List.length_append
  have e2 : (l.length + p.length) / 64 = l.length / 64 + 1 := by omega
  rw [e1, e2, fb, fb_append _ _ _ (by omega), List.drop_append_of_le_length (by omega), ← ht]
  unfold put
  rw [hp, List.drop_of_length_le (by omega), List.append_nil, List.take_of_length_le (by rw [List.length_append, List.length_take]; omega)]

theorem HashIs.whole {w : World} {g : Nat} {l p bl : List UInt8} (hbl : bl.length = 64) (ht : bl.take (l.length % 64) = l.drop (64 * (l.length / 64))) (hp : l.length % 64 + p.length = 64)
    (h : HBlk w g (blk (fb l (l.length / 64)) (put bl (l.length % 64) p)) (put bl (l.length % 64) p) ((l.length + p.length : Nat) : Int)) : HashIs w g (l ++ p) := by
  have e1 : (l ++ p).length = l.length + p.length := List.length_append
  refine ⟨put bl (l.length % 64) p, by rw [put_length _ _ _ (by omega), hbl], ?_, ?_⟩
  · rw [put_whole hbl ht hp, e1]
    exact h
  · rw [e1, show (l.length + p.length) % 64 = 0 by omega, List.take_zero, List.drop_of_length_le (by omega)]

/-- 'copy(dst, s)', dst lying in row g from place o on: as many bytes as there is room for -/
theorem run_copy_min (w : World) (ty : TypeId) (g o d c : Nat) (s : ByteArray) (cur : Array Value) (t : TypeId)
    (hg : w.heap[g]? = some (.cells cur t (0, 0))) (hfit : o + min s.size d ≤ cur.size) :
    (Builtin.copy_ #[103, 9] ty #[.slice (some ⟨g, o, none⟩) d c, .string s]).run Tryd.prog w =
      .ok (goInt ((min s.size d : Nat) : Int)) (w.setRow g (cur.toList.take o ++ bv (s.data.toList.take (min s.size d)) ++ cur.toList.drop (o + min s.size d)).toArray) := by
  have hlen : (bv (s.data.toList.take (min s.size d))).length = min s.size d := by
    rw [bv_length, List.length_take, ← Lib.size_eq]; omega
  have hst := run_storeCells_at Tryd.prog g o t (bv (s.data.toList.take (min s.size d))) 0 cur w hg (by rw [hlen]; simpa using hfit) (by
    intro v hv
    simp only [bv, List.mem_map] at hv
    obtain ⟨b, _, rfl⟩ := hv
    rfl)
  have htk : List.take (min s.size d) (List.map (fun b : UInt8 => Value.int IntKind.u8 (b.toNat : Int)) s.data.toList) = bv (s.data.toList.take (min s.size d)) := by
    unfold bv; rw [List.map_take]; rfl
  rw [hlen] at hst
  simp only [Nat.add_zero] at hst
  obtain ⟨i, hi, _, hs, _⟩ := info_parts info5
  simp [Builtin.copy_, run_underlying Tryd.underlying103, Builtin.lenOf, Builtin.firstCells, sizeOf, typeInfo, hi]
  rw [htk, hst]
  simp only [Result.andThen_ok, List.append_assoc]
  try rfl

/-- 'block[r:]', block being the array behind a pointer -/
theorem run_slice_block (g r : Nat) (i : Int) (hi : i = (r : Int)) (hr : r < 64) (w : World) : (Instr.sliceAt 127 (.pointer (some ⟨g, 9, none⟩)) (some (.int .i64 i)) none none).run Tryd.prog w =
    .ok (.slice (some ⟨g, 9 + r, none⟩) (64 - r) (64 - r)) w := by
  subst hi
  obtain ⟨y, hy, _, hs, _⟩ := info_parts info5
  have h0 : (0 : Int) ≤ (r : Int) := Int.natCast_nonneg _
  have h1 : (r : Int) ≤ ((64 : Nat) : Int) := by omega
  have h2 : ¬ (64 : Nat) = r := by omega
  simp only [Instr.sliceAt, Instr.sureAddr, Instr.sliceBounds, Instr.sliceBound, asIntOf, sizeOf, typeInfo, Sem.run_bind, Sem.run_pure, Result.andThen_ok, run_underlying Tryd.underlying127]
  rw [if_pos ⟨h0, h1⟩]
  simp [hy, hs, h2, Addr.add]
theorem HBlk.copied {w : World} {g : Nat} {ws : W8} {bl : List UInt8} {n : Int} (h : HBlk w g ws bl n) (hbl : bl.length = 64) (r : Nat) (p : List UInt8) (hp : r + p.length ≤ 64) :
    HBlk (w.setRow g ((Value.bool true :: (uv (wList ws) ++ (bv bl ++ [.int .i64 n]))).take (9 + r) ++ bv p ++ (Value.bool true :: (uv (wList ws) ++ (bv bl ++ [.int .i64 n]))).drop (9 + r + p.length)).toArray) g ws (put bl r p) n := by
  have h2 := setRow_heap w g _ ((Value.bool true :: (uv (wList ws) ++ (bv bl ++ [.int .i64 n]))).take (9 + r) ++ bv p ++ (Value.bool true :: (uv (wList ws) ++ (bv bl ++ [.int .i64 n]))).drop (9 + r + p.length)).toArray _ _ h
  unfold HBlk Blk
  rw [h2]
  have e8 : (uv (wList ws)).length = 8 := rfl
  have e : (Value.bool true :: (uv (wList ws) ++ (bv bl ++ [.int .i64 n]))).take (9 + r) ++ bv p ++ (Value.bool true :: (uv (wList ws) ++ (bv bl ++ [.int .i64 n]))).drop (9 + r + p.length) =
      Value.bool true :: (uv (wList ws) ++ (bv (put bl r p) ++ [.int .i64 n])) := by
    rw [show 9 + r = (8 + r) + 1 by omega, List.take_succ_cons, show 8 + r + 1 + p.length = (8 + (r + p.length)) + 1 by omega, List.drop_succ_cons, ← e8, List.take_length_add_append, List.drop_length_add_append,
      List.take_append_of_le_length (by rw [bv_length]; omega), List.drop_append_of_le_length (by rw [bv_length]; omega)]
    unfold put
    rw [bv_append, bv_append]
    unfold bv
    rw [List.map_take, List.map_drop]
    simp only [List.cons_append, List.append_assoc]
  rw [e]
end Go.Proofs.YtmaolmogccknbaaDoor.sha
