/-
  petrelref08: an id's bytes, a number's.
  Texts: a byte of one, a piece of one.
  petrelref05.Kind: the kind of a topic's name.
  petrelref08.Check.
-/
import Derived.Test.YtpeneeddfgmjpaaGreatDoorHdm
import Derived.Deep.RegionWith
import Derived.Deep.CutRange
import Derived.Deep.CutBlock
import Derived.Test.YtpeneeddfgmjpaaGreatDoorIda
import Derived.Laws.IdiomStrings
import Derived.Test.YtpeneeddfgmjpaaGreatDoorHdp
import Derived.Laws.Concat
namespace Go.Proofs.YtpeneeddfgmjpaaGreatDoor.hdr
open Go.RowKit Go.Proofs.YtpeneeddfgmjpaaGreatDoor.mem Go.Proofs.YtpeneeddfgmjpaaGreatDoor.sha Go.Proofs.YtpeneeddfgmjpaaGreatDoor.ids

theorem bv_step (x : List UInt8) (k : Nat) (h : k < x.length) : bv (x.take (k + 1)) = bv (x.take k) ++ [.int .u8 (B (x.getD k 0))] := by
 rw [List.take_succ_eq_append_getElem h]
 unfold bv
 rw [List.map_append, List.getD_eq_getElem?_getD, List.getElem?_eq_getElem h]
 rfl

set_option maxHeartbeats 2000000 in
set_option maxRecDepth 100000 in
theorem raw_any (x : List UInt8) (w : World) (hx : x.length = 32) : Calls Tryz.prog 74 #[idv x] w fun e w' => e = .returned (.string (oct.tx x)) ∧ Below w.heap.size w w' := by
 obtain ⟨w1, hw1⟩ : ∃ u, u = w.alloc (.cells (bv x).toArray 24) := ⟨_, rfl⟩
 obtain ⟨S, hS⟩ : ∃ S, S = w.heap.size := ⟨_, rfl⟩
 have hX : Blk w1 S 24 (bv x).toArray := by rw [hw1, hS]; exact Blk.new w _ _
 have hB : Below w.heap.size w w1 := by rw [hw1]; exact (Below.refl _ _).alloc (Nat.le_refl _) _
 have HX1 := Lib.hid hX
 have HB1 := Lib.hid hB
 have HSS := Lib.hid hS
 have HW := Lib.hid hw1
 clear hX hB hw1 hS
 unfold idv
 go_enter Tryz.func74, Tryz.ntmps74
 go_upto_region 3 with fail
 refine wp_at HW.out.symm ?_
 rw [← HSS.out]
 clear HW
 go_loopw [3, 4] (fun vo i wr => ∃ k : Nat, k ≤ 32 ∧ i = .int .i64 k ∧ Owns wr (S < ·) vo k (bv (x.take k)) ∧ Blk wr S 24 (bv x).toArray ∧ Below w.heap.size w wr) (fun _ i _ => 32 - (intOf i).toNat)
 case atStart => exact ⟨0, by decide, rfl, Owns.nil _ _, HX1.out, HB1.out⟩
 case round =>
  clear HX1 HB1
  obtain ⟨k, hk, rfl, hO, hX, hB⟩ := hrel
  obtain ⟨ad, m, cc, rfl⟩ := hO.form
  have HO := Lib.hid hO
  have HXX := Lib.hid hX
  have HB := Lib.hid hB
  have k0 : (0 : Int) ≤ (k : Int) := Int.natCast_nonneg _
  by_cases hlt : k < 32
  ·
   have k1 : (k : Int) < 32 := by omega
   have hc : wr.cell? ⟨S, k, none⟩ = some (.int .u8 (B (x.getD k 0))) := by
    rw [hX.cell, List.getElem?_toArray]
    exact bv_get _ _ (by rw [hx]; exact hlt)
   have HT := Lib.hid (bv_step x k (by rw [hx]; exact hlt))
   obtain ⟨y, hy⟩ : ∃ y, y = x.getD k 0 := ⟨_, rfl⟩
   rw [← hy] at hc HT
   have hn : New (S < ·) wr := fun j hj => Nat.lt_of_lt_of_le hX.lt hj
   have HN := Lib.hid hn
   clear hO hX hB hy hn
   go_wp2_with (at_builtin; go_must (refine wp_append_new rfl (.tmp 9) (.tmp 13) rfl (S < ·) _ _ k _ rfl HO.out [_] 1 rfl rfl (one1 _) (by omega) HN.out ?_); intro v1 w2 ho1 ht1; have HO1 := Lib.hid ho1; have HT1 := Lib.hid ht1; clear ho1 ht1)
   go_roundw
   case rel => exact ⟨k + 1, hlt, by push_cast; rfl, by rw [HT.out]; exact HO1.out, HXX.out.turn HT1.out (Nat.lt_irrefl S), HB.out.trans (HT1.out.below fun j hj => by have := HSS.out; have : S < j := hj; omega)⟩
   case measure => simp [intOf]; omega
  ·
   obtain rfl : k = 32 := by omega
   have ht : x.take 32 = x := List.take_of_length_le (by rw [hx]; exact Nat.le_refl _)
   have hst : (convert 42 9 (.slice ad m cc)).run Tryz.prog wr = .ok (.string (oct.tx x)) wr := by
    rw [ht] at hO
    exact Owns.string (by rw [hx]; exact hO)
   clear hO hX hB hlt ht
   go_wp2_with fail
   go_ret
   exact ⟨rfl, HB.out⟩

theorem num4_h (n : Int) (h0 : 0 ≤ n) (h1 : n < 4294967296) (w : World) : Calls Tryz.prog 73 #[.int .i64 n, .int .i64 4] w fun e w' => e = .returned (.string (oct.tx (opn.b4 n))) ∧ Below w.heap.size w w' := by
 have HN := Lib.hid (opn.num4_r n h0 h1)
 go_enter Tryz.func73, Tryz.ntmps73
 go_wp2_with (go_at_call 98; with_reducible refine (HN.out _).mono ?_; rintro e w1 ⟨rfl, hb1⟩)
 go_ret
 exact ⟨rfl, hb1⟩
theorem num2_h (n : Int) (h0 : 0 ≤ n) (h1 : n < 65536) (w : World) : Calls Tryz.prog 73 #[.int .i64 n, .int .i64 2] w fun e w' => e = .returned (.string (oct.tx (opn.b2 n))) ∧ Below w.heap.size w w' := by
 have HN := Lib.hid (opn.num2_r n h0 h1)
 go_enter Tryz.func73, Tryz.ntmps73
 go_wp2_with (go_at_call 98; with_reducible refine (HN.out _).mono ?_; rintro e w1 ⟨rfl, hb1⟩)
 go_ret
 exact ⟨rfl, hb1⟩
theorem num1_h (n : Int) (h0 : 0 ≤ n) (h1 : n < 256) (w : World) : Calls Tryz.prog 73 #[.int .i64 n, .int .i64 1] w fun e w' => e = .returned (.string (oct.tx (opn.b1 n))) ∧ Below w.heap.size w w' := by
 have HN := Lib.hid (opn.num1_r n h0 h1)
 go_enter Tryz.func73, Tryz.ntmps73
 go_wp2_with (go_at_call 98; with_reducible refine (HN.out _).mono ?_; rintro e w1 ⟨rfl, hb1⟩)
 go_ret
 exact ⟨rfl, hb1⟩
end Go.Proofs.YtpeneeddfgmjpaaGreatDoor.hdr

namespace Go.Proofs.YtpeneeddfgmjpaaGreatDoor.strx
open Go.RowKit Go.Proofs.YtpeneeddfgmjpaaGreatDoor.mem Go.Proofs.YtpeneeddfgmjpaaGreatDoor.sha

theorem size_list (s : ByteArray) : s.size = s.data.toList.length := Array.length_toList.symm
theorem run_index_str (s : ByteArray) (k : Nat) (h : k < s.size) (w : World) : (Instr.index 9 (.string s) (.int .i64 (k : Int))).run Tryz.prog w = .ok (.int .u8 (B (s.data.toList.getD k 0))) w := by
 have hs : s[k]? = some (s.data.toList.getD k 0) := by
  rw [List.getD_eq_getElem?_getD, List.getElem?_eq_getElem (by rw [← size_list]; exact h)]
  simp [getElem?_pos s k h]
  rfl
 have h0 : (0 : Int) ≤ (k : Int) := Int.natCast_nonneg _
 simp [Instr.index, asIntOf, run_underlying Tryz.underlying9, hs]
 rfl
/-- where the place is another expression -/
theorem run_index_int (s : ByteArray) (i : Int) (k : Nat) (hi : i = (k : Int)) (h : k < s.size) (w : World) : (Instr.index 9 (.string s) (.int .i64 i)).run Tryz.prog w = .ok (.int .u8 (B (s.data.toList.getD k 0))) w := by
 subst hi; exact run_index_str s k h w
/-- a text of bytes -/
def bt (l : List UInt8) : ByteArray := ⟨l.toArray⟩
theorem bt_list (l : List UInt8) : (bt l).data.toList = l := rfl
theorem bt_of (s : ByteArray) : bt s.data.toList = s := rfl
theorem bt_size (l : List UInt8) : (bt l).size = l.length := by rw [size_list]; rfl
theorem bt_append (l m : List UInt8) : bt l ++ bt m = bt (l ++ m) := by
 apply ByteArray.ext
 rw [ByteArray.data_append]
 simp [bt]
theorem ext_list (s : ByteArray) (m : Nat) : (s.extract m s.size).data.toList = s.data.toList.drop m := by
 rw [ByteArray.data_extract, Array.toList_extract, List.extract_eq_take_drop, List.take_of_length_le]
 rw [List.length_drop, ← size_list]
 exact Nat.le_refl _
theorem ext_bt (s : ByteArray) (m : Nat) : s.extract m s.size = bt (s.data.toList.drop m) := by rw [← ext_list, bt_of]
/-- a piece of a text, from its byte m on -/
theorem run_slice_str (s : ByteArray) (m : Nat) (h : m ≤ s.size) (w : World) : (Instr.sliceAt 9 (.string s) (some (.int .i64 (m : Int))) none none).run Tryz.prog w = .ok (.string (bt (s.data.toList.drop m))) w := by
 rw [← ext_bt]
 have h0 : (0 : Int) ≤ (m : Int) := Int.natCast_nonneg _
 have h1 : (m : Int) ≤ (s.size : Int) := by omega
 simp only [Instr.sliceAt, Instr.slice, Instr.sliceBounds, Instr.sliceBound, asIntOf, sizeOf, Sem.run_bind, Result.andThen_ok, run_underlying Tryz.underlying9]
 simp [h]
theorem to_bt (s : ByteArray) (m : Nat) : s.extract 0 m = bt (s.data.toList.take m) := by
 apply ByteArray.ext
 rw [ByteArray.data_extract]
 apply Array.ext'
 rw [Array.toList_extract, List.extract_eq_take_drop, List.drop_zero, Nat.sub_zero]
 rfl
/-- a piece of a text, up to its byte m -/
theorem run_slice_to (s : ByteArray) (m : Nat) (h : m ≤ s.size) (w : World) : (Instr.sliceAt 9 (.string s) none (some (.int .i64 (m : Int))) none).run Tryz.prog w = .ok (.string (bt (s.data.toList.take m))) w := by
 rw [← to_bt]
 have h0 : (0 : Int) ≤ (m : Int) := Int.natCast_nonneg _
 have h1 : (m : Int) ≤ (s.size : Int) := by omega
 simp only [Instr.sliceAt, Instr.slice, Instr.sliceBounds, Instr.sliceBound, asIntOf, sizeOf, Sem.run_bind, Result.andThen_ok, run_underlying Tryz.underlying9]
 simp [h]
end Go.Proofs.YtpeneeddfgmjpaaGreatDoor.strx

namespace Go.Proofs.YtpeneeddfgmjpaaGreatDoor.topic
open Go.RowKit Go.Proofs.YtpeneeddfgmjpaaGreatDoor.mem Go.Proofs.YtpeneeddfgmjpaaGreatDoor.sha Go.Proofs.YtpeneeddfgmjpaaGreatDoor.strx

def lettersB : ByteArray := ⟨#[63, 99, 115, 108, 109, 114]⟩
theorem letters_any (w : World) : Calls Tryz.prog 57 #[] w fun e w' => e = .returned (.string lettersB) ∧ w = w' := by
 go_enter Tryz.func57, Tryz.ntmps57
 go_wp2
 go_ret
 exact ⟨rfl, rfl⟩
def lb (k : Nat) : UInt8 := [63, 99, 115, 108, 109, 114].getD k 0
theorem kindB_lb (c : UInt8) : ∀ k, 1 ≤ k → k ≤ 5 → (∀ j, 1 ≤ j → j < k → (B (lb j) == B c) = false) → (B (lb k) == B c) = true → kindB c = k := by
 intro k h1 h5 hj hk
 have hk' : B (lb k) = B c := by simpa using hk
 have hn : ∀ j, 1 ≤ j → j < k → B (lb j) ≠ B c := fun j a b => by simpa using hj j a b
 rcases (show k = 1 ∨ k = 2 ∨ k = 3 ∨ k = 4 ∨ k = 5 by omega) with rfl | rfl | rfl | rfl | rfl <;> (unfold kindB; rw [← hk']; rfl)
theorem kindB_none (c : UInt8) (hj : ∀ j, 1 ≤ j → j < 6 → (B (lb j) == B c) = false) : kindB c = 0 := by
 have hn : ∀ j, 1 ≤ j → j < 6 → B (lb j) ≠ B c := fun j a b => by simpa using hj j a b
 have h1 := hn 1 (by decide) (by decide)
 have h2 := hn 2 (by decide) (by decide)
 have h3 := hn 3 (by decide) (by decide)
 have h4 := hn 4 (by decide) (by decide)
 have h5 := hn 5 (by decide) (by decide)
 have e1 : B (lb 1) = 99 := rfl
 have e2 : B (lb 2) = 115 := rfl
 have e3 : B (lb 3) = 108 := rfl
 have e4 : B (lb 4) = 109 := rfl
 have e5 : B (lb 5) = 114 := rfl
 unfold kindB
 repeat' split
 all_goals omega

set_option maxHeartbeats 2000000 in
set_option maxRecDepth 100000 in
theorem rkind_any (s : ByteArray) (w : World) (hs : s.size ≤ 549755813888000) : Calls Tryz.prog 35 #[.string s] w fun e w' => e = .returned (.int .i64 (kindOf s.data.toList)) ∧ ∃ m, w' = w.drewN m := by
 have HL := Lib.hid (size_list s)
 by_cases c1 : s.size < 2
 ·
  have i1 : (s.size : Int) < 2 := by omega
  have hk := kindOf_short s.data.toList (by rw [← size_list]; exact c1)
  go_enter Tryz.func35, Tryz.ntmps35
  go_wp2_with fail
  go_ret
  exact ⟨by rw [hk]; rfl, 0, rfl⟩
 by_cases c2 : 12 < s.size
 ·
  have i1 : (2 : Int) ≤ (s.size : Int) := by omega
  have i2 : (12 : Int) < (s.size : Int) := by omega
  have hk := kindOf_long s.data.toList (by rw [← size_list]; exact c2)
  go_enter Tryz.func35, Tryz.ntmps35
  go_wp2_with fail
  go_ret
  exact ⟨by rw [hk]; rfl, 0, rfl⟩
 have i1 : (2 : Int) ≤ (s.size : Int) := by omega
 have i2 : (s.size : Int) ≤ 12 := by omega
 have hix := fun u : World => run_index_int s ((s.size : Int) - 1) (s.size - 1) (by omega) (by omega) u
 by_cases c3 : B (s.data.toList.getD (s.size - 1) 0) = 45
 ·
  have hk := kindOf_dash s.data.toList (by rw [← size_list]; exact c3)
  rw [c3] at hix
  go_enter Tryz.func35, Tryz.ntmps35
  go_wp2_with fail
  go_ret
  exact ⟨by rw [hk]; rfl, 0, rfl⟩
 have c3' : (B (s.data.toList.getD (s.size - 1) 0) == 45) = false := beq_eq_false_iff_ne.2 c3
 obtain ⟨z, hz⟩ : ∃ z, z = B (s.data.toList.getD (s.size - 1) 0) := ⟨_, rfl⟩
 rw [← hz] at hix c3'
 have HZ := Lib.hid hz
 have HC3 := Lib.hid c3
 clear hz c3
 go_enter Tryz.func35, Tryz.ntmps35
 go_wp2_with fail
 go_loopw [3] (fun i wr => ∃ k : Nat, 1 ≤ k ∧ k ≤ s.size ∧ i = .int .i64 k ∧ (∀ j, 1 ≤ j → j < k → okByte (s.data.toList.getD j 0) = true) ∧ wr = w) (fun i _ => s.size - (intOf i).toNat)
 case atStart => exact ⟨1, by decide, by omega, rfl, fun j _ _ => by omega, rfl⟩
 case round =>
  obtain ⟨k, k1, hk, rfl, hok, rfl⟩ := hrel
  have HOK := Lib.hid hok
  clear hok hix c3'
  have k0 : (0 : Int) ≤ (k : Int) := Int.natCast_nonneg _
  by_cases hlt : k < s.size
  ·
   have kI : (k : Int) < (s.size : Int) := by omega
   obtain ⟨x, hx1⟩ : ∃ x, x = s.data.toList.getD k 0 := ⟨_, rfl⟩
   have hidx := fun u : World => run_index_str s k hlt u
   rw [← hx1] at hidx
   have HX := Lib.hid hx1
   have HK : Hid (okByte x = false → kindOf s.data.toList = 0) := Lib.hid fun h => kindOf_bad _ k k1 (by rw [← size_list]; exact hlt) (by rw [← HX.out]; exact h)
   have HG : Hid (okByte x = true → ∀ j, 1 ≤ j → j < k + 1 → okByte (s.data.toList.getD j 0) = true) := Lib.hid fun h j a b => by
    rcases Nat.lt_or_ge j k with hj | hj
    ·
     exact HOK.out j a hj
    ·
     obtain rfl : j = k := by omega
     rw [← HX.out]; exact h
   clear hx1
   refine okByte_cases x _ (fun a b ho => ?_) (fun a b c ho => ?_) (fun a ho => ?_) (fun a b c ho => ?_) (fun a b c ho => ?_) (fun a b c ho => ?_)
   ·
    have HO := Lib.hid ho
    clear ho
    go_wp2_with fail
    exact ⟨⟨k + 1, by omega, hlt, by simp, HG.out HO.out, trivial⟩, by simp [intOf]; omega⟩
   ·
    have HO := Lib.hid ho
    clear ho
    go_wp2_with fail
    exact ⟨⟨k + 1, by omega, hlt, by simp, HG.out HO.out, trivial⟩, by simp [intOf]; omega⟩
   ·
    have HO := Lib.hid ho
    clear ho
    rw [a] at hidx
    go_wp2_with fail
    exact ⟨⟨k + 1, by omega, hlt, by simp, HG.out HO.out, trivial⟩, by simp [intOf]; omega⟩
   ·
    have HO := Lib.hid (HK.out ho)
    clear ho
    go_wp2_with fail
    go_ret
    exact ⟨by rw [HO.out]; rfl, 0, rfl⟩
   ·
    have HO := Lib.hid (HK.out ho)
    clear ho
    go_wp2_with fail
    go_ret
    exact ⟨by rw [HO.out]; rfl, 0, rfl⟩
   ·
    have HO := Lib.hid (HK.out ho)
    clear ho
    go_wp2_with fail
    go_ret
    exact ⟨by rw [HO.out]; rfl, 0, rfl⟩
  ·
   obtain rfl : k = s.size := by omega
   have HK : Hid (kindOf s.data.toList = kindB (s.data.toList.getD 0 0)) := Lib.hid (kindOf_good _ (by rw [← size_list]; omega) (by rw [← size_list]; omega) (by rw [← size_list]; exact HC3.out) (by rw [← size_list]; exact HOK.out))
   obtain ⟨x, hx1⟩ : ∃ x, x = s.data.toList.getD 0 0 := ⟨_, rfl⟩
   have hidx := fun u : World => run_index_int s 0 0 rfl (by omega) u
   rw [← hx1] at hidx HK
   clear hx1 hlt hk
   go_wp2_with fail
   go_loopw [5] (fun i wx => ∃ k : Nat, 1 ≤ k ∧ k ≤ 6 ∧ i = .int .i64 k ∧ (∀ j, 1 ≤ j → j < k → (B (lb j) == B x) = false) ∧ ∃ m, wx = wr.drewN m) (fun i _ => 6 - (intOf i).toNat)
   case atStart => exact ⟨1, by decide, by decide, rfl, fun j _ _ => by omega, 0, rfl⟩
   case round =>
    obtain ⟨k, k1, hk, rfl, hno, m, hwx⟩ := hrel
    have HN := Lib.hid hno
    have HW := Lib.hid hwx
    clear hno hwx
    by_cases hlt6 : k < 6
    ·
     have kI : (k : Int) ≤ 5 := by omega
     have k0 : (1 : Int) ≤ (k : Int) := by omega
     have hid2 := fun u : World => run_index_str lettersB k (by show k < 6; exact hlt6) u
     have hlb : lettersB.data.toList.getD k 0 = lb k := rfl
     rw [hlb] at hid2
     by_cases he : (B (lb k) == B x) = true
     ·
      have HE := Lib.hid (kindB_lb x k k1 (by omega) HN.out he)
      go_wp2_with fail
      go_quiet ((go_at_call 57; exact quiet_left (letters_any _)))
      go_wp2_with fail
      go_ret
      exact ⟨by rw [HK.out, HE.out]; rfl, m + nq, by rw [HW.out, World.drewN_drewN]⟩
     ·
      have he' : (B (lb k) == B x) = false := by simpa using he
      have HE : Hid (∀ j, 1 ≤ j → j < k + 1 → (B (lb j) == B x) = false) := Lib.hid fun j a b => by
       rcases Nat.lt_or_ge j k with hj | hj
       ·
        exact HN.out j a hj
       ·
        obtain rfl : j = k := by omega
        exact he'
      clear he
      go_wp2_with fail
      go_quiet ((go_at_call 57; exact quiet_left (letters_any _)))
      go_wp2_with fail
      exact ⟨⟨k + 1, by omega, hlt6, by simp, HE.out, m + nq, by rw [HW.out, World.drewN_drewN]⟩, by simp [intOf]; omega⟩
    ·
     obtain rfl : k = 6 := by omega
     have HE := Lib.hid (kindB_none x HN.out)
     go_wp2_with fail
     go_ret
     exact ⟨by rw [HK.out, HE.out]; rfl, m, HW.out⟩

theorem bt_beq (a b : List UInt8) : ((bt a).toList == (bt b).toList) = decide (a = b) := by
 have ha : (bt a).toList = a := ByteArray.toList_eq _
 have hb : (bt b).toList = b := ByteArray.toList_eq _
 rw [ha, hb, Bool.eq_iff_iff, beq_iff_eq, decide_eq_true_iff]
end Go.Proofs.YtpeneeddfgmjpaaGreatDoor.topic

namespace Go.Proofs.YtpeneeddfgmjpaaGreatDoor.hdr
open Go.RowKit Go.Proofs.YtpeneeddfgmjpaaGreatDoor.mem Go.Proofs.YtpeneeddfgmjpaaGreatDoor.sha Go.Proofs.YtpeneeddfgmjpaaGreatDoor.ids
open Go.Proofs.YtpeneeddfgmjpaaGreatDoor.opn (b1 b2 b4 num txt idl byte rd rdN rdT rdI rdS rdL St Reads Stays endE zid mkId)

theorem tx_bt (l : List UInt8) : oct.tx l = strx.bt l := rfl
theorem rkind_h (h : Hd) (ht : h.topic.length ≤ 140737488351232) (u : World) : Calls Tryz.prog 35 #[.string (oct.tx h.topic)] u fun e w' => e = .returned (.int .i64 (topic.kindOf h.topic)) ∧ ∃ m, w' = u.drewN m := by
 have := topic.rkind_any (oct.tx h.topic) u (by rw [oct.tx_size]; omega)
 rw [oct.tx_list] at this
 exact this
set_option maxHeartbeats 4000000 in
set_option maxRecDepth 100000 in
theorem check_any (h : Hd) (v : Value) (w : World) (hr : h.commit.length = 32) (hv : RdV w v h.parents) (hm : h.parents.length ≤ 1000) (ht : h.topic.length ≤ 140737488351232) :
  Calls Tryz.prog 23 #[hdv h v] w fun e w' => e = .returned (.int .i64 (checkH h)) ∧ Below w.heap.size w w' := by
 obtain ⟨w1, hw1⟩ : ∃ u, u = w.alloc (.cells (hdc h v).toArray 26) := ⟨_, rfl⟩
 obtain ⟨S, hS⟩ : ∃ S, S = w.heap.size := ⟨_, rfl⟩
 have hX : Blk w1 S 26 (hdc h v).toArray := by rw [hw1, hS]; exact Blk.new w _ _
 have hB : Below w.heap.size w w1 := by rw [hw1]; exact (Below.refl _ _).alloc (Nat.le_refl _) _
 have hv1 := hv.next hB
 have HX := Lib.hid hX
 have HB := Lib.hid hB
 have HS := Lib.hid hS
 have HW := Lib.hid hw1
 have HR := Lib.hid hr
 have HV := Lib.hid hv1
 have HL := Lib.hid hm
 obtain ⟨ad, cap, hvf⟩ := hv1.form
 have c0 := (HdBlk.of hX hr).parents
 rw [hvf] at c0
 have hIs := ris_any h.parents ad _ cap w1 (hvf ▸ hv1) (by omega)
 obtain ⟨ln, hln⟩ : ∃ n, n = h.parents.length := ⟨_, rfl⟩
 rw [← hln] at c0 hIs
 have HLN := Lib.hid hln
 have hk := rkind_h h ht
 have HT := Lib.hid hk
 have HCK : Hid (checkH h = if 4 < h.parents.length then 6 else if (h.parents == setL h.parents) = false then 4 else if badHeight h then 12 else if topic.kindOf h.topic = 0 then 9 else if badRange h then 5 else 0) := Lib.hid rfl
 obtain ⟨b, hb⟩ : ∃ b, (h.parents == setL h.parents) = b := ⟨_, rfl⟩
 rw [hb] at hIs HCK
 have HIS := Lib.hid hIs
 clear hX hB hv1 hS hw1 hr hv hm ht hvf hIs hln hk hb
 unfold hdv
 by_cases h4 : 4 < h.parents.length
 ·
  have i1 : (4 : Int) < (ln : Int) := by rw [HLN.out]; omega
  have HE : Hid (checkH h = 6) := Lib.hid (by rw [HCK.out, if_pos h4])
  clear h4
  go_enter Tryz.func23, Tryz.ntmps23
  go_upto_region 1 with fail
  refine wp_at HW.out.symm ?_
  rw [← HS.out]
  clear HW
  go_wp2_with fail
  go_ret
  exact ⟨by rw [HE.out]; rfl, HB.out⟩
 have i1 : (ln : Int) ≤ 4 := by rw [HLN.out]; omega
 have HCK : Hid (_ = _) := Lib.hid HCK.out
 rw [if_neg h4] at HCK
 clear h4
 cases b with
 | false =>
  have HE : Hid (checkH h = 4) := Lib.hid (by rw [HCK.out]; rfl)
  go_enter Tryz.func23, Tryz.ntmps23
  go_upto_region 1 with fail
  refine wp_at HW.out.symm ?_
  rw [← HS.out]
  clear HW
  go_wp2_with (go_at_call 34; (with_reducible refine HIS.out.mono ?_); rintro e w3 ⟨rfl, hb3⟩)
  go_ret
  exact ⟨by rw [HE.out]; rfl, HB.out.trans (hb3.mono HB.out.size)⟩
 | true =>
  have HCK : Hid (_ = _) := Lib.hid HCK.out
  rw [if_neg (show ¬ (true = false) by decide)] at HCK
  go_enter Tryz.func23, Tryz.ntmps23
  go_upto_region 1 with fail
  refine wp_at HW.out.symm ?_
  rw [← HS.out]
  clear HW
  go_upto_region 5 with (go_at_call 34; (with_reducible refine HIS.out.mono ?_); rintro e w3 ⟨rfl, hb3⟩; have hX3 := HX.out.below hb3 HX.out.lt; have C3 := HdBlk.of hX3 HR.out; have d0 := c0; rw [← World.cell?_of_block (w := w1) (w' := w3) (a := ⟨S, 0, none⟩) (hb3.block S HX.out.lt)] at d0; have d1 := C3.height; have d2 := C3.topic; have d3 := C3.author; have d4 := C3.seq; have d5 := C3.size; have HB3 := Lib.hid (HB.out.trans (hb3.mono HB.out.size)); clear C3 hX3 hb3)
  obtain ⟨ht, hht⟩ : ∃ x, x = h.height := ⟨_, rfl⟩
  obtain ⟨au, hau⟩ : ∃ x, x = h.author := ⟨_, rfl⟩
  obtain ⟨sq, hsq⟩ : ∃ x, x = h.seq := ⟨_, rfl⟩
  obtain ⟨sz, hsz⟩ : ∃ x, x = h.size := ⟨_, rfl⟩
  obtain ⟨ts, hts⟩ : ∃ x, x = oct.tx h.topic := ⟨_, rfl⟩
  rw [← hht] at d1
  rw [← hts] at d2 HT
  rw [← hau] at d3
  rw [← hsq] at d4
  rw [← hsz] at d5
  have HBH : Hid (badHeight h ↔ ht < 1 ∨ 1073741824 < ht ∨ ¬ (ln = 0 ↔ ht = 1)) := Lib.hid (by rw [hht, HLN.out]; rfl)
  have HBR : Hid (badRange h ↔ au < 0 ∨ 255 < au ∨ sq < 1 ∨ 1073741824 < sq ∨ sz < 1 ∨ 512 < sz) := Lib.hid (by rw [hau, hsq, hsz]; rfl)
  clear hht hau hsq hsz hts c0
  by_cases n1 : ht < 1
  ·
   have HE : Hid (checkH h = 12) := Lib.hid (by rw [HCK.out, if_pos (HBH.out.2 (.inl n1))])
   go_wp2_with fail
   go_ret
   exact ⟨by rw [HE.out]; rfl, HB3.out⟩
  have n1 : 1 ≤ ht := by omega
  by_cases n2 : 1073741824 < ht
  ·
   have HE : Hid (checkH h = 12) := Lib.hid (by rw [HCK.out, if_pos (HBH.out.2 (.inr (.inl n2)))])
   go_wp2_with fail
   go_ret
   exact ⟨by rw [HE.out]; rfl, HB3.out⟩
  have n2 : ht ≤ 1073741824 := by omega
  by_cases z0 : ln = 0
  ·
   by_cases z1 : ht = 1
   ·
    have e1 : ((ln : Int) == 0) = true := beq_iff_eq.2 (by omega)
    have e2 : (ht == 1) = true := beq_iff_eq.2 (by omega)
    have HCK : Hid (_ = _) := Lib.hid HCK.out
    rw [if_neg (fun hh => by have := HBH.out.1 hh; omega)] at HCK
    clear z0 z1
    by_cases k0 : topic.kindOf h.topic = 0
    ·
     have HE : Hid (checkH h = 9) := Lib.hid (by rw [HCK.out, if_pos k0])
     have HT := Lib.hid HT.out
     rw [k0] at HT
     clear k0
     go_wp2_with (go_at_call 35; (with_reducible refine (HT.out _).mono ?_); rintro e w4 ⟨rfl, m, rfl⟩)
     go_ret
     exact ⟨by rw [HE.out]; rfl, below_drewN HB3.out m⟩
    have HCK : Hid (_ = _) := Lib.hid HCK.out
    rw [if_neg k0] at HCK
    obtain ⟨kk, hkk⟩ : ∃ x, x = topic.kindOf h.topic := ⟨_, rfl⟩
    have HT := Lib.hid HT.out
    rw [← hkk] at HT k0
    have k1 : ((kk : Int) == 0) = false := beq_eq_false_iff_ne.2 (by omega)
    clear hkk k0
    go_upto_region 9 with (go_at_call 35; (with_reducible refine (HT.out _).mono ?_); rintro e w4 ⟨rfl, m, rfl⟩)
    by_cases r0 : au < 0
    ·
     have HE : Hid (checkH h = 5) := Lib.hid (by rw [HCK.out, if_pos (HBR.out.2 (by omega))])
     go_wp2_with fail
     go_ret
     exact ⟨by rw [HE.out]; rfl, below_drewN HB3.out m⟩
    have r0 : 0 ≤ au := by omega
    by_cases r1 : 255 < au
    ·
     have HE : Hid (checkH h = 5) := Lib.hid (by rw [HCK.out, if_pos (HBR.out.2 (by omega))])
     go_wp2_with fail
     go_ret
     exact ⟨by rw [HE.out]; rfl, below_drewN HB3.out m⟩
    have r1 : au ≤ 255 := by omega
    by_cases r2 : sq < 1
    ·
     have HE : Hid (checkH h = 5) := Lib.hid (by rw [HCK.out, if_pos (HBR.out.2 (by omega))])
     go_wp2_with fail
     go_ret
     exact ⟨by rw [HE.out]; rfl, below_drewN HB3.out m⟩
    have r2 : 1 ≤ sq := by omega
    by_cases r3 : 1073741824 < sq
    ·
     have HE : Hid (checkH h = 5) := Lib.hid (by rw [HCK.out, if_pos (HBR.out.2 (by omega))])
     go_wp2_with fail
     go_ret
     exact ⟨by rw [HE.out]; rfl, below_drewN HB3.out m⟩
    have r3 : sq ≤ 1073741824 := by omega
    by_cases r4 : sz < 1
    ·
     have HE : Hid (checkH h = 5) := Lib.hid (by rw [HCK.out, if_pos (HBR.out.2 (by omega))])
     go_wp2_with fail
     go_ret
     exact ⟨by rw [HE.out]; rfl, below_drewN HB3.out m⟩
    have r4 : 1 ≤ sz := by omega
    by_cases r5 : 512 < sz
    ·
     have HE : Hid (checkH h = 5) := Lib.hid (by rw [HCK.out, if_pos (HBR.out.2 (by omega))])
     go_wp2_with fail
     go_ret
     exact ⟨by rw [HE.out]; rfl, below_drewN HB3.out m⟩
    have r5 : sz ≤ 512 := by omega
    have HE : Hid (checkH h = 0) := Lib.hid (by rw [HCK.out, if_neg (fun hh => by have := HBR.out.1 hh; omega)])
    go_wp2_with fail
    go_ret
    exact ⟨by rw [HE.out]; rfl, below_drewN HB3.out m⟩
   ·
    have e1 : ((ln : Int) == 0) = true := beq_iff_eq.2 (by omega)
    have e2 : (ht == 1) = false := beq_eq_false_iff_ne.2 (by omega)
    have HE : Hid (checkH h = 12) := Lib.hid (by rw [HCK.out, if_pos (HBH.out.2 (.inr (.inr (by omega))))])
    clear z0 z1
    go_wp2_with fail
    go_ret
    exact ⟨by rw [HE.out]; rfl, HB3.out⟩
  ·
   by_cases z1 : ht = 1
   ·
    have e1 : ((ln : Int) == 0) = false := beq_eq_false_iff_ne.2 (by omega)
    have e2 : (ht == 1) = true := beq_iff_eq.2 (by omega)
    have HE : Hid (checkH h = 12) := Lib.hid (by rw [HCK.out, if_pos (HBH.out.2 (.inr (.inr (by omega))))])
    clear z0 z1
    go_wp2_with fail
    go_ret
    exact ⟨by rw [HE.out]; rfl, HB3.out⟩
   ·
    have e1 : ((ln : Int) == 0) = false := beq_eq_false_iff_ne.2 (by omega)
    have e2 : (ht == 1) = false := beq_eq_false_iff_ne.2 (by omega)
    have HCK : Hid (_ = _) := Lib.hid HCK.out
    rw [if_neg (fun hh => by have := HBH.out.1 hh; omega)] at HCK
    clear z0 z1
    by_cases k0 : topic.kindOf h.topic = 0
    ·
     have HE : Hid (checkH h = 9) := Lib.hid (by rw [HCK.out, if_pos k0])
     have HT := Lib.hid HT.out
     rw [k0] at HT
     clear k0
     go_wp2_with (go_at_call 35; (with_reducible refine (HT.out _).mono ?_); rintro e w4 ⟨rfl, m, rfl⟩)
     go_ret
     exact ⟨by rw [HE.out]; rfl, below_drewN HB3.out m⟩
    have HCK : Hid (_ = _) := Lib.hid HCK.out
    rw [if_neg k0] at HCK
    obtain ⟨kk, hkk⟩ : ∃ x, x = topic.kindOf h.topic := ⟨_, rfl⟩
    have HT := Lib.hid HT.out
    rw [← hkk] at HT k0
    have k1 : ((kk : Int) == 0) = false := beq_eq_false_iff_ne.2 (by omega)
    clear hkk k0
    go_upto_region 9 with (go_at_call 35; (with_reducible refine (HT.out _).mono ?_); rintro e w4 ⟨rfl, m, rfl⟩)
    by_cases r0 : au < 0
    ·
     have HE : Hid (checkH h = 5) := Lib.hid (by rw [HCK.out, if_pos (HBR.out.2 (by omega))])
     go_wp2_with fail
     go_ret
     exact ⟨by rw [HE.out]; rfl, below_drewN HB3.out m⟩
    have r0 : 0 ≤ au := by omega
    by_cases r1 : 255 < au
    ·
     have HE : Hid (checkH h = 5) := Lib.hid (by rw [HCK.out, if_pos (HBR.out.2 (by omega))])
     go_wp2_with fail
     go_ret
     exact ⟨by rw [HE.out]; rfl, below_drewN HB3.out m⟩
    have r1 : au ≤ 255 := by omega
    by_cases r2 : sq < 1
    ·
     have HE : Hid (checkH h = 5) := Lib.hid (by rw [HCK.out, if_pos (HBR.out.2 (by omega))])
     go_wp2_with fail
     go_ret
     exact ⟨by rw [HE.out]; rfl, below_drewN HB3.out m⟩
    have r2 : 1 ≤ sq := by omega
    by_cases r3 : 1073741824 < sq
    ·
     have HE : Hid (checkH h = 5) := Lib.hid (by rw [HCK.out, if_pos (HBR.out.2 (by omega))])
     go_wp2_with fail
     go_ret
     exact ⟨by rw [HE.out]; rfl, below_drewN HB3.out m⟩
    have r3 : sq ≤ 1073741824 := by omega
    by_cases r4 : sz < 1
    ·
     have HE : Hid (checkH h = 5) := Lib.hid (by rw [HCK.out, if_pos (HBR.out.2 (by omega))])
     go_wp2_with fail
     go_ret
     exact ⟨by rw [HE.out]; rfl, below_drewN HB3.out m⟩
    have r4 : 1 ≤ sz := by omega
    by_cases r5 : 512 < sz
    ·
     have HE : Hid (checkH h = 5) := Lib.hid (by rw [HCK.out, if_pos (HBR.out.2 (by omega))])
     go_wp2_with fail
     go_ret
     exact ⟨by rw [HE.out]; rfl, below_drewN HB3.out m⟩
    have r5 : sz ≤ 512 := by omega
    have HE : Hid (checkH h = 0) := Lib.hid (by rw [HCK.out, if_neg (fun hh => by have := HBR.out.1 hh; omega)])
    go_wp2_with fail
    go_ret
    exact ⟨by rw [HE.out]; rfl, below_drewN HB3.out m⟩
end Go.Proofs.YtpeneeddfgmjpaaGreatDoor.hdr
