/-
  sha.ending: what stands behind n bytes.
-/
import Derived.Test.YtjpbhnflhejbpaaDoorIdb
import Derived.Test.YtjpbhnflhejbpaaDoorMema
namespace Go.Proofs.YtjpbhnflhejbpaaDoor.sha
open Go.RowKit Go.Proofs.YtjpbhnflhejbpaaDoor.mem

theorem B_ofNat (x : Nat) : B (UInt8.ofNat x) = (x : Int) % 256 := by
  unfold B; rw [UInt8.toNat_ofNat']; omega
def pad (n : Nat) : Nat := (119 - n % 64) % 64
theorem pad_int (n : Nat) : 1 + ((pad n : Nat) : Int) = ((pad n + 1 : Nat) : Int) := by omega
theorem pad_lt (n : Nat) : pad n < 64 := Nat.mod_lt _ (by decide)
/-- the ending's bytes till k of the length's stand -/
def endAcc (n k : Nat) : List UInt8 := 128 :: List.replicate (pad n) 0 ++ (be64 (8 * n)).take k
theorem endAcc_end (n : Nat) : endAcc n 8 = ending n := rfl
theorem endAcc_len (n k : Nat) (hk : k ≤ 8) : (endAcc n k).length = pad n + 1 + k := by
  have : (be64 (8 * n)).length = 8 := rfl
  simp only [endAcc, List.length_append, List.length_cons, List.length_replicate, List.length_take, this]
  omega
theorem run_make_end (n : Nat) (w : World) : (Instr.makeSlice 35 (.int .i64 (1 + ((pad n : Nat) : Int))) (.int .i64 128)).run Tryd.prog w =
    .ok (.slice (some ⟨w.heap.size, 0, none⟩) (pad n + 1) 128) (w.alloc (.cells (bv (List.replicate 128 0)).toArray 5)) := by
  obtain ⟨i0, hi, hz0, hz1, hz2⟩ := info_parts info5
  have h := run_make (P := Tryd.prog) (w := w) 35 5 i0 (.int .u8 0) Tryd.underlying35 hi hz0 .i64 .i64 ((pad n + 1 : Nat) : Int) 128 (by omega) (by have := pad_lt n; omega) (by rw [hz2]; decide) (by decide)
  have e1 : madeCells (Value.int .u8 0).cells (Int.toNat 128 * 1) = (bv (List.replicate 128 0)).toArray := by kernel_rfl
  rw [pad_int, h, hz1, e1, Int.toNat_natCast]
  rfl

theorem be64_len (x : Nat) : (be64 x).length = 8 := rfl
theorem endAcc_next (n k : Nat) (hk : k < 8) (e : Int) (he : e = B ((be64 (8 * n)).getD k 0)) : bv (endAcc n k) ++ [.int .u8 e] = bv (endAcc n (k + 1)) := by
  subst he
  have h : endAcc n (k + 1) = endAcc n k ++ [(be64 (8 * n)).getD k 0] := by
    unfold endAcc
    rw [List.take_succ_eq_append_getElem (by rw [be64_len]; exact hk), List.getD_eq_getElem?_getD, List.getElem?_eq_getElem (by rw [be64_len]; exact hk)]
    simp
  rw [h, bv_append]
  rfl
theorem set_take {α : Type} (l : List α) (x : α) (m : Nat) : (l.set 0 x).take (m + 1) = (l.take (m + 1)).set 0 x := by
  cases l <;> rfl

set_option maxHeartbeats 4000000 in
set_option maxRecDepth 100000 in
theorem ending_any (n : Nat) (hn : n ≤ 1099511627776) (w : World) : Calls Tryd.prog 18 #[.int .i64 n] w fun e w' => e = .returned (.string ⟨(ending n).toArray⟩) ∧ Below w.heap.size w w' := by
  have n0 : (0 : Int) ≤ (n : Int) := Int.natCast_nonneg _
  have n1 : (n : Int) ≤ 1099511627776 := by omega
  have hmk := run_make_end n
  obtain ⟨r, hr⟩ : ∃ r : Int, (n : Int) % 64 = r := ⟨_, rfl⟩
  have hr0 : 0 ≤ r := by omega
  have hr1 : r < 64 := by omega
  have hp : (119 - r) % 64 = ((pad n : Nat) : Int) := by unfold pad; omega
  have hp1 := pad_lt n
  obtain ⟨Z, hZ⟩ : ∃ Z, Z = (bv (List.replicate 128 0)).toArray := ⟨_, rfl⟩
  rw [← hZ] at hmk
  have hb0 : Blk (w.alloc (.cells Z 5)) w.heap.size 5 Z := Blk.new _ _ _
  have hc0 : (w.alloc (.cells Z 5)).cell? ⟨w.heap.size, 0, none⟩ = some (.int .u8 0) := by rw [hb0.cell, hZ]; rfl
  have hf0 := hb0.frozen 0
  have hO : Owns (w.alloc (.cells (Z.setIfInBounds 0 (.int .u8 128)) 5)) (w.heap.size ≤ ·) (.slice (some ⟨w.heap.size, 0, none⟩) (pad n + 1) 128) (pad n + 1) (bv (endAcc n 0)) := by
    refine ⟨⟨?_, .inr ⟨w.heap.size, 128, Z.setIfInBounds 0 (.int .u8 128), rfl, Nat.zero_le _, Blk.new _ _ _, by have := pad_lt n; omega, by unfold maxLen; omega, by rw [hZ]; rfl, ?_⟩⟩, fun k hk => ?_⟩
    · rw [bv_length, endAcc_len n 0 (by omega)]; omega
    · rw [hZ, List.setIfInBounds_toArray, Nat.mul_one]
      show List.take (pad n + 1) ((bv (List.replicate 128 0)).set 0 (.int .u8 128)) = _
      rw [set_take]
      unfold bv endAcc
      rw [← List.map_take, List.take_replicate, Nat.min_eq_left (by have := pad_lt n; omega), List.replicate_succ]
      simp [B]
    · have : w.heap.size = k := by simpa [Value.ownBlock] using hk
      omega
  have HO := Lib.hid hO
  have hB0 : Below w.heap.size w (w.alloc (.cells (Z.setIfInBounds 0 (.int .u8 128)) 5)) := (Below.refl _ w).alloc (Nat.le_refl _) _
  have HB := Lib.hid hB0
  clear hO hB0 hb0 hZ
  go_enter Tryd.func18, Tryd.ntmps18
  go_wp2_with fail
  go_loopw [4, 19] (fun v i wr => ∃ k : Nat, k ≤ 8 ∧ i = .int .i64 k ∧ Owns wr (w.heap.size ≤ ·) v (pad n + 1 + k) (bv (endAcc n k)) ∧ Below w.heap.size w wr) (fun _ i _ => 8 - (intOf i).toNat)
  case atStart => exact ⟨0, by omega, rfl, HO.out, HB.out⟩
  case round =>
    clear HO HB hmk hc0 hf0 hr hp
    obtain ⟨k, hk, rfl, hO, hB⟩ := hrel
    have HO := Lib.hid hO
    have HB := Lib.hid hB
    clear hO hB
    by_cases hlt : k < 8
    · rcases lt8 hlt with rfl | rfl | rfl | rfl | rfl | rfl | rfl | rfl
      all_goals
        go_wp2_with (at_builtin; go_must (refine wp_append_new rfl (.tmp 22) (.tmp 29) rfl (w.heap.size ≤ ·) _ _ _ _ rfl HO.out [_] 1 rfl rfl (one1 _) (by have := pad_lt n; omega) (fun k hk => Nat.le_trans HB.out.size hk) ?_); intro v1 w1 ho1 ht1)
        go_roundw
        case rel =>
          refine ⟨_, Nat.succ_le_of_lt hlt, by push_cast; rfl, ?_, HB.out.trans (ht1.below fun _ h => h)⟩
          rw [endAcc_next _ _ (by decide)] at ho1
          · exact ho1
          · simp only [be64, List.getD_cons_zero, List.getD_cons_succ]
            rw [B_ofNat]
            omega
        case measure => decide
    · obtain rfl : k = 8 := by omega
      have hs : (convert 35 9 u4).run Tryd.prog wr = .ok (.string ⟨(endAcc n 8).toArray⟩) wr := by
        have h := HO.out
        rw [← endAcc_len n 8 (by omega)] at h
        exact Owns.string (out := endAcc n 8) h
      go_wp2_with fail
      go_ret
      exact ⟨by rw [endAcc_end]; rfl, HB.out⟩
end Go.Proofs.YtjpbhnflhejbpaaDoor.sha
