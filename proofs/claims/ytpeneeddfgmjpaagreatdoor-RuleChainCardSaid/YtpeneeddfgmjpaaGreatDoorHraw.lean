/-
 petrelref08: an id's bytes, a number's.
-/
import Derived.Test.YtpeneeddfgmjpaaGreatDoorHdm
import Derived.Deep.RegionWith
import Derived.Deep.CutRange
import Derived.Deep.CutBlock
namespace Go.Proofs.YtpeneeddfgmjpaaGreatDoor.hdr
open Go.RowKit Go.Proofs.YtpeneeddfgmjpaaGreatDoor.mem Go.Proofs.YtpeneeddfgmjpaaGreatDoor.sha Go.Proofs.YtpeneeddfgmjpaaGreatDoor.ids

theorem bv_step (x : List UInt8) (k : Nat) (h : k < x.length) : bv (x.take (k + 1)) = bv (x.take k) ++ [.int .u8 (B (x.getD k 0))] := by
 rw [List.take_succ_eq_append_getElem h]
 unfold bv
 rw [List.map_append, List.getD_eq_getElem?_getD, List.getElem?_eq_getElem h]
 rfl

set_option maxHeartbeats 2000000 in
set_option maxRecDepth 100000 in
theorem raw_any (x : List UInt8) (w : World) (hx : x.length = 32) : Calls Tryz.prog 74 #[idv x] w fun e w' => e = .returned (.string (oct.tx x)) ∧ Below w.heap.size w w' := by
 obtain ⟨w1, hw1⟩ : ∃ u, u = w.alloc (.cells (bv x).toArray 24) := ⟨_, rfl⟩
 obtain ⟨S, hS⟩ : ∃ S, S = w.heap.size := ⟨_, rfl⟩
 have hX : Blk w1 S 24 (bv x).toArray := by rw [hw1, hS]; exact Blk.new w _ _
 have hB : Below w.heap.size w w1 := by rw [hw1]; exact (Below.refl _ _).alloc (Nat.le_refl _) _
 have HX1 := Lib.hid hX
 have HB1 := Lib.hid hB
 have HSS := Lib.hid hS
 have HW := Lib.hid hw1
 clear hX hB hw1 hS
 unfold idv
 go_enter Tryz.func74, Tryz.ntmps74
 go_upto_region 3 with fail
 refine wp_at HW.out.symm ?_
 rw [← HSS.out]
 clear HW
 go_loopw [3, 4] (fun vo i wr => ∃ k : Nat, k ≤ 32 ∧ i = .int .i64 k ∧ Owns wr (S < ·) vo k (bv (x.take k)) ∧ Blk wr S 24 (bv x).toArray ∧ Below w.heap.size w wr) (fun _ i _ => 32 - (intOf i).toNat)
 case atStart => exact ⟨0, by decide, rfl, Owns.nil _ _, HX1.out, HB1.out⟩
 case round =>
  clear HX1 HB1
  obtain ⟨k, hk, rfl, hO, hX, hB⟩ := hrel
  obtain ⟨ad, m, cc, rfl⟩ := hO.form
  have HO := Lib.hid hO
  have HXX := Lib.hid hX
  have HB := Lib.hid hB
  have k0 : (0 : Int) ≤ (k : Int) := Int.natCast_nonneg _
  by_cases hlt : k < 32
  ·
   have k1 : (k : Int) < 32 := by omega
   have hc : wr.cell? ⟨S, k, none⟩ = some (.int .u8 (B (x.getD k 0))) := by
    rw [hX.cell, List.getElem?_toArray]
    exact bv_get _ _ (by rw [hx]; exact hlt)
   have HT := Lib.hid (bv_step x k (by rw [hx]; exact hlt))
   obtain ⟨y, hy⟩ : ∃ y, y = x.getD k 0 := ⟨_, rfl⟩
   rw [← hy] at hc HT
   have hn : New (S < ·) wr := fun j hj => Nat.lt_of_lt_of_le hX.lt hj
   have HN := Lib.hid hn
   clear hO hX hB hy hn
   go_wp2_with (at_builtin; go_must (refine wp_append_new rfl (.tmp 9) (.tmp 13) rfl (S < ·) _ _ k _ rfl HO.out [_] 1 rfl rfl (one1 _) (by omega) HN.out ?_); intro v1 w2 ho1 ht1; have HO1 := Lib.hid ho1; have HT1 := Lib.hid ht1; clear ho1 ht1)
   go_roundw
   case rel => exact ⟨k + 1, hlt, by push_cast; rfl, by rw [HT.out]; exact HO1.out, HXX.out.turn HT1.out (Nat.lt_irrefl S), HB.out.trans (HT1.out.below fun j hj => by have := HSS.out; have : S < j := hj; omega)⟩
   case measure => simp [intOf]; omega
  ·
   obtain rfl : k = 32 := by omega
   have ht : x.take 32 = x := List.take_of_length_le (by rw [hx]; exact Nat.le_refl _)
   have hst : (convert 42 9 (.slice ad m cc)).run Tryz.prog wr = .ok (.string (oct.tx x)) wr := by
    rw [ht] at hO
    exact Owns.string (by rw [hx]; exact hO)
   clear hO hX hB hlt ht
   go_wp2_with fail
   go_ret
   exact ⟨rfl, HB.out⟩

theorem num4_h (n : Int) (h0 : 0 ≤ n) (h1 : n < 4294967296) (w : World) : Calls Tryz.prog 73 #[.int .i64 n, .int .i64 4] w fun e w' => e = .returned (.string (oct.tx (opn.b4 n))) ∧ Below w.heap.size w w' := by
 have HN := Lib.hid (opn.num4_r n h0 h1)
 go_enter Tryz.func73, Tryz.ntmps73
 go_wp2_with (go_at_call 98; with_reducible refine (HN.out _).mono ?_; rintro e w1 ⟨rfl, hb1⟩)
 go_ret
 exact ⟨rfl, hb1⟩
theorem num2_h (n : Int) (h0 : 0 ≤ n) (h1 : n < 65536) (w : World) : Calls Tryz.prog 73 #[.int .i64 n, .int .i64 2] w fun e w' => e = .returned (.string (oct.tx (opn.b2 n))) ∧ Below w.heap.size w w' := by
 have HN := Lib.hid (opn.num2_r n h0 h1)
 go_enter Tryz.func73, Tryz.ntmps73
 go_wp2_with (go_at_call 98; with_reducible refine (HN.out _).mono ?_; rintro e w1 ⟨rfl, hb1⟩)
 go_ret
 exact ⟨rfl, hb1⟩
theorem num1_h (n : Int) (h0 : 0 ≤ n) (h1 : n < 256) (w : World) : Calls Tryz.prog 73 #[.int .i64 n, .int .i64 1] w fun e w' => e = .returned (.string (oct.tx (opn.b1 n))) ∧ Below w.heap.size w w' := by
 have HN := Lib.hid (opn.num1_r n h0 h1)
 go_enter Tryz.func73, Tryz.ntmps73
 go_wp2_with (go_at_call 98; with_reducible refine (HN.out _).mono ?_; rintro e w1 ⟨rfl, hb1⟩)
 go_ret
 exact ⟨rfl, hb1⟩
end Go.Proofs.YtpeneeddfgmjpaaGreatDoor.hdr
