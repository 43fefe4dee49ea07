/-
  petrelref02: start, consts, word.
  petrelref02.block: the words behind a block.
  A slice of bytes that a text was turned into ('[]byte(s)'), and what is appended to it byte by byte: its row may bear the mark of such a turn.
-/
import Derived.Test.YtpeneeddfgmjpaaGreatDoorSumc
import Derived.Deep.RegionHeld3
import Derived.Deep.RegionWith
import Derived.Test.YtpeneeddfgmjpaaGreatDoorOpd
import Derived.Laws.IdiomCopy
import Derived.Laws.AppendOwn
namespace Go.Proofs.YtpeneeddfgmjpaaGreatDoor.sha
open Go.RowKit Go.Proofs.YtpeneeddfgmjpaaGreatDoor.mem

set_option maxHeartbeats 4000000 in
set_option maxRecDepth 100000 in
theorem consts_any (w : World) : Calls Tryz.prog 76 #[] w fun e w' => e = .returned (.slice (some ⟨w.heap.size, 0, none⟩) 64 64) ∧ Blk w' w.heap.size 97 (uv kL).toArray ∧ Below w.heap.size w w' := by
 go_enter Tryz.func76, Tryz.ntmps76
 go_wp2
 go_ret
 exact ⟨rfl, Blk.new _ _ _, (Below.refl _ w).alloc (Nat.le_refl _) _⟩

set_option maxHeartbeats 4000000 in
set_option maxRecDepth 100000 in
theorem start_any (w : World) : Calls Tryz.prog 75 #[] w fun e w' => e = .returned (.agg (uv (wList iv)).toArray) ∧ Below w.heap.size w w' := by
 obtain ⟨w1, hw1⟩ : ∃ x, x = w.alloc (.cells (uv [0, 0, 0, 0, 0, 0, 0, 0]).toArray 106) := ⟨_, rfl⟩
 have HR1 : Hid (Blk w1 w.heap.size 106 (uv [0, 0, 0, 0, 0, 0, 0, 0]).toArray) := Lib.hid (by rw [hw1]; exact Blk.new _ _ _)
 have HB1 : Hid (Below w.heap.size w w1) := Lib.hid (by rw [hw1]; exact (Below.refl _ w).alloc (Nat.le_refl _) _)
 have HW1 := Lib.hid hw1
 clear hw1
 go_enter Tryz.func75, Tryz.ntmps75
 go_upto_region 1 with fail
 refine wp_at HW1.out.symm ?_
 clear HW1
 go_wp2_with ((with_reducible refine wpList_store_row ?sg1 106 (.tmp 0) (.tmp 1) ?so1 w.heap.size (uv (wList iv)).toArray ?sx1 ?sy1 106 (uv [0, 0, 0, 0, 0, 0, 0, 0]).toArray ?sb1 ?si1 ?sl1 ?sk1 ?sh1); (case sg1 => rfl); (case so1 => rfl); (case sx1 => rfl); (case sy1 => rfl); (case sb1 => exact HR1.out); (case si1 => rw [info38]; rfl); (case sl1 => rfl); (case sk1 => exact one_uv _))
 (try simp only [Exit.inBlock, Exit.then])
 have hrow := setRow_heap w1 w.heap.size _ (uv (wList iv)).toArray _ _ HR1.out
 refine bodyPost_ret (results_cell_row rfl _ _ w.heap.size 106 (uv (wList iv)).toArray (0, 0) _ rfl hrow Tryz.underlying106 rfl (by rw [info38]; rfl)) rfl ⟨rfl, below_setRow HB1.out (Nat.le_refl _) _⟩

set_option maxHeartbeats 4000000 in
set_option maxRecDepth 100000 in
theorem word_at (q o n c i : Nat) (x0 x1 x2 x3 : UInt8) (w : World) (hi : i + 4 ≤ n) (hn : n ≤ 1099511627776)
  (c0 : w.cell? ⟨q, o + i, none⟩ = some (.int .u8 (B x0))) (c1 : w.cell? ⟨q, o + (i + 1), none⟩ = some (.int .u8 (B x1))) (c2 : w.cell? ⟨q, o + (i + 2), none⟩ = some (.int .u8 (B x2))) (c3 : w.cell? ⟨q, o + (i + 3), none⟩ = some (.int .u8 (B x3))) :
  Calls Tryz.prog 99 #[.slice (some ⟨q, o, none⟩) n c, .int .i64 i] w fun e w' => e = .returned (.int .u32 (U (word x0 x1 x2 x3))) ∧ ∃ m, w' = w.drewN m := by
 have i0 : (0 : Int) ≤ (i : Int) := Int.natCast_nonneg _
 have i1 : (i : Int) + 4 ≤ (n : Int) := by omega
 have i2 : (n : Int) ≤ 1099511627776 := by omega
 have hx := U_or
 have hb0 := B_nonneg
 have hb1 := B_lt
 have hb2 := B_wrap
 have s1 : ∀ x, U x * (16777216 : Int) % (4294967296 : Int) = U (x <<< 24) := fun x => U_shl 24 x 24 rfl
 have s2 : ∀ x, U x * (65536 : Int) % (4294967296 : Int) = U (x <<< 16) := fun x => U_shl 16 x 16 rfl
 have s3 : ∀ x, U x * (256 : Int) % (4294967296 : Int) = U (x <<< 8) := fun x => U_shl 8 x 8 rfl
 go_enter Tryz.func99, Tryz.ntmps99
 go_wp2_with fail
 go_quiet (fail)
 go_wp2_with fail
 go_ret
 exact ⟨rfl, nq, rfl⟩
theorem word_any (q o n c i : Nat) (I : Int) (x0 x1 x2 x3 : UInt8) (w : World) (hI : I = (i : Int)) (hi : i + 4 ≤ n) (hn : n ≤ 1099511627776)
  (c0 : w.cell? ⟨q, o + i, none⟩ = some (.int .u8 (B x0))) (c1 : w.cell? ⟨q, o + (i + 1), none⟩ = some (.int .u8 (B x1))) (c2 : w.cell? ⟨q, o + (i + 2), none⟩ = some (.int .u8 (B x2))) (c3 : w.cell? ⟨q, o + (i + 3), none⟩ = some (.int .u8 (B x3))) :
  Calls Tryz.prog 99 #[.slice (some ⟨q, o, none⟩) n c, .int .i64 I] w fun e w' => e = .returned (.int .u32 (U (word x0 x1 x2 x3))) ∧ ∃ m, w' = w.drewN m := by
 subst hI
 exact word_at q o n c i x0 x1 x2 x3 w hi hn c0 c1 c2 c3
end Go.Proofs.YtpeneeddfgmjpaaGreatDoor.sha

namespace Go.Proofs.YtpeneeddfgmjpaaGreatDoor.sha
open Go.RowKit Go.Proofs.YtpeneeddfgmjpaaGreatDoor.mem

/-- the block's bytes and the table, as they lie -/
def Src (w : World) (q o kq : Nat) (b : List UInt8) : Prop := q < w.heap.size ∧ (∀ j, j < 64 → w.cell? ⟨q, o + j, none⟩ = some (.int .u8 (B (b.getD j 0)))) ∧ Blk w kq 97 (uv kL).toArray
theorem Src.below {B' : Nat} {w w' : World} {q o kq : Nat} {b : List UInt8} (h : Src w q o kq b) (hb : Below B' w w') (hq : q < B') (hk : kq < B') : Src w' q o kq b :=
 ⟨Nat.lt_of_lt_of_le h.1 hb.size, fun j hj => (hb.cell (p := ⟨q, o + j, none⟩) hq).trans (h.2.1 j hj), h.2.2.below hb hk⟩

/-- what the schedule's loop keeps -/
structure RefIs (w0 : World) (q o kq : Nat) (b : List UInt8) (h : W8) (row : List UInt32) (w : World) : Prop where
 hq : q < w0.heap.size
 hk : kq < w0.heap.size
 src : Src w q o kq b
 hw : Blk w w0.heap.size 106 (uv (wList h)).toArray
 res : Blk w (w0.heap.size + 1) 106 (uv [0, 0, 0, 0, 0, 0, 0, 0]).toArray
 row : Blk w (w0.heap.size + 1 + 1) 141 (uv row).toArray
 bel : Below w0.heap.size w0 w
section
variable {w0 w w' : World} {q o kq : Nat} {b : List UInt8} {h : W8} {row : List UInt32}
theorem RefIs.drewN (x : RefIs w0 q o kq b h row w) (n : Nat) : RefIs w0 q o kq b h row (w.drewN n) := ⟨x.hq, x.hk, x.src, x.hw, x.res, x.row, below_drewN x.bel n⟩
theorem RefIs.drew (x : RefIs w0 q o kq b h row w) : RefIs w0 q o kq b h row w.drew := ⟨x.hq, x.hk, x.src, x.hw, x.res, x.row, x.bel.drew⟩
theorem RefIs.get (x : RefIs w0 q o kq b h row w) (j : Nat) (hj : j < row.length) : w.cell? ⟨w0.heap.size + 1 + 1, j, none⟩ = some (.int .u32 (U (row.getD j 0))) := by
 rw [x.row.cell, List.getElem?_toArray, uv_get _ _ hj]
theorem RefIs.set_ (x : RefIs w0 q o kq b h row w) (i : Nat) (y : UInt32) (row' : List UInt32) (he : (uv row).set i (.int .u32 (U y)) = uv row') : RefIs w0 q o kq b h row' (w.setCell ⟨w0.heap.size + 1 + 1, i, none⟩ (.int .u32 (U y))) := by
 have hb : Below w0.heap.size w (w.setCell ⟨w0.heap.size + 1 + 1, i, none⟩ (.int .u32 (U y))) := (Below.refl _ w).setCell (p := ⟨w0.heap.size + 1 + 1, i, none⟩) (by show w0.heap.size ≤ w0.heap.size + 1 + 1; omega) _
 refine ⟨x.hq, x.hk, x.src.below hb x.hq x.hk, x.hw.far (p := ⟨w0.heap.size + 1 + 1, i, none⟩) (by show w0.heap.size ≠ w0.heap.size + 1 + 1; omega) _, x.res.far (p := ⟨w0.heap.size + 1 + 1, i, none⟩) (by show w0.heap.size + 1 ≠ w0.heap.size + 1 + 1; omega) _, ?_, x.bel.trans hb⟩
 have := x.row.set_ i (.int .u32 (U y))
 rw [List.setIfInBounds_toArray, he] at this
 exact this
end

theorem RefIs.below {w0 w w' : World} {q o kq : Nat} {b : List UInt8} {h : W8} {row : List UInt32} (x : RefIs w0 q o kq b h row w) {V : Nat} (hb : Below V w w') (hV : w0.heap.size + 1 + 1 < V) : RefIs w0 q o kq b h row w' := by
 have := x.hq
 have := x.hk
 exact ⟨x.hq, x.hk, x.src.below hb (by omega) (by omega), x.hw.below hb (by omega), x.res.below hb (by omega), x.row.below hb hV, x.bel.trans (hb.mono (by omega))⟩
theorem RefIs.far {w0 w : World} {q o kq : Nat} {b : List UInt8} {h : W8} {row : List UInt32} (x : RefIs w0 q o kq b h row w) (V : Nat) (hV : w0.heap.size + 1 + 1 < V) (i : Nat) (v : Value) : RefIs w0 q o kq b h row (w.setCell ⟨V, i, none⟩ v) :=
 x.below ((Below.refl V w).setCell (p := ⟨V, i, none⟩) (Nat.le_refl V) _) hV
theorem zero38 : ∀ w, (zeroValue 106).run Tryz.prog w = .ok (.agg (uv [0, 0, 0, 0, 0, 0, 0, 0]).toArray) w :=
 (zero_of_info (P := Tryz.prog) (n := 8) (by kernel_rfl)).1
/-- the words while they are moved up: those above j are moved -/
def shW (r : W8) (j : Nat) : List UInt32 := (wList r).take (j + 1) ++ ((wList r).drop j).take (7 - j)
theorem shW_get (r : W8) (j : Nat) (hj : j < 7) : (shW r (j + 1)).getD j 0 = (wList r).getD j 0 := by
 have h : j = 0 ∨ j = 1 ∨ j = 2 ∨ j = 3 ∨ j = 4 ∨ j = 5 ∨ j = 6 := by omega
 rcases h with rfl | rfl | rfl | rfl | rfl | rfl | rfl <;> rfl
theorem shW_len (r : W8) (j : Nat) (hj : j < 8) : (shW r j).length = 8 := by
 rcases lt8 hj with rfl | rfl | rfl | rfl | rfl | rfl | rfl | rfl <;> rfl
theorem shW_set (r : W8) (j : Nat) (hj : j < 7) : (shW r (j + 1)).set (j + 1) ((wList r).getD j 0) = shW r j := by
 have h : j = 0 ∨ j = 1 ∨ j = 2 ∨ j = 3 ∨ j = 4 ∨ j = 5 ∨ j = 6 := by omega
 rcases h with rfl | rfl | rfl | rfl | rfl | rfl | rfl <;> rfl
theorem addW_comm (x y : W8) : addW x y = addW y x := by
 unfold addW
 simp only [UInt32.add_comm]
theorem blk_uset {w : World} {g : Nat} {t : TypeId} {l : List UInt32} (h : Blk w g t (uv l).toArray) (i : Nat) (x : UInt32) : Blk (w.setCell ⟨g, i, none⟩ (.int .u32 (U x))) g t (uv (l.set i x)).toArray := by
 have := h.set_ i (.int .u32 (U x))
 rw [List.setIfInBounds_toArray] at this
 unfold uv at this ⊢
 rw [List.map_set]
 exact this

set_option maxHeartbeats 4000000 in
set_option maxRecDepth 100000 in
theorem block_any (h : W8) (q o c kq : Nat) (b : List UInt8) (w : World) (hS : Src w q o kq b) :
  Calls Tryz.prog 77 #[.agg (uv (wList h)).toArray, .slice (some ⟨q, o, none⟩) 64 c, .slice (some ⟨kq, 0, none⟩) 64 64] w fun e w' => e = .returned (.agg (uv (wList (blk h b))).toArray) ∧ Below w.heap.size w w' := by
 obtain ⟨w3, hw3⟩ : ∃ x, x = (((w.alloc (.cells (uv (wList h)).toArray 106)).alloc (.cells (uv [0, 0, 0, 0, 0, 0, 0, 0]).toArray 106)).alloc (.cells (uv (List.replicate 64 0)).toArray 141)) := ⟨_, rfl⟩
 have hB0 : Below w.heap.size w w3 := by
  rw [hw3]
  exact (((Below.refl _ _).alloc (Nat.le_refl _) _).alloc (by simp) _).alloc (by simp; omega) _
 have HR0 : Hid (RefIs w q o kq b h (wrow (ms b) 0) w3) := Lib.hid (by
  refine ⟨hS.1, hS.2.2.lt, hS.below hB0 hS.1 hS.2.2.lt, ?_, ?_, ?_, hB0⟩
  ·
   rw [hw3]; exact ((Blk.new w _ _).alloc _).alloc _
  ·
   rw [hw3]; exact (Blk.at_ (by simp) _ _).alloc _
  ·
   rw [hw3]; exact Blk.at_ (by simp) _ _)
 have HW := Lib.hid hw3
 clear hw3 hB0 hS
 go_enter Tryz.func77, Tryz.ntmps77
 go_upto_region 2 with fail
 refine wp_at HW.out.symm ?_
 clear HW
 go_wp2_with fail
 go_loopw [8] (fun v wr => ∃ i : Nat, i ≤ 64 ∧ v = .int .i64 i ∧ RefIs w q o kq b h (wrow (ms b) i) wr) (fun v _ => 64 - (intOf v).toNat)
 case atStart => exact ⟨0, by omega, rfl, HR0.out⟩
 case round =>
  clear HR0
  obtain ⟨i, hi, rfl, hR⟩ := hrel
  have HR := Lib.hid hR
  by_cases hlt : i < 64
  ·
   have hlt' : (i : Int) < 64 := by omega
   have i0 : (0 : Int) ≤ (i : Int) := by omega
   obtain ⟨cv, cw⟩ : ∃ v, wr.cell? ⟨w.heap.size + 1 + 1, i, none⟩ = some v := ⟨_, hR.get i (by rw [wrow_length _ _ hi]; exact hlt)⟩
   have fw : wr.frozen? ⟨w.heap.size + 1 + 1, i, none⟩ = false := hR.row.frozen i
   by_cases hl16 : i < 16
   ·
    have hl16' : (i : Int) < 16 := by omega
    have hc : ∀ j, j < 4 → wr.cell? ⟨q, o + (4 * i + j), none⟩ = some (.int .u8 (B (b.getD (4 * i + j) 0))) := fun j hj => hR.src.2.1 (4 * i + j) (by omega)
    have HC := Lib.hid hc
    have HX : Hid ((uv (wrow (ms b) i)).set i (.int .u32 (U (word (b.getD (4 * i) 0) (b.getD (4 * i + 1) 0) (b.getD (4 * i + 2) 0) (b.getD (4 * i + 3) 0)))) = uv (wrow (ms b) (i + 1))) := Lib.hid (by
     have e := wrow_set (ms b) i hlt
     rw [if_pos hl16] at e
     exact e)
    clear hR hc
    go_wp2_with fail
    refine (word_any q o 64 c (4 * i) _ _ _ _ _ _ (by push_cast; rfl) (by omega) (by decide) (HC.out 0 (by decide)) (HC.out 1 (by decide)) (HC.out 2 (by decide)) (HC.out 3 (by decide))).mono ?_
    rintro e w5 ⟨rfl, nd, hnd⟩
    have HR5 : Hid (RefIs w q o kq b h (wrow (ms b) i) w5) := Lib.hid (by rw [hnd]; exact HR.out.drewN nd)
    replace cw : w5.cell? _ = _ := (congrArg (fun x : World => x.cell? _) hnd).trans cw
    replace fw : w5.frozen? _ = _ := (congrArg (fun x : World => x.frozen? _) hnd).trans fw
    clear hnd HR HC
    go_wp2_with fail
    go_roundw
    case rel => exact ⟨i + 1, by omega, by push_cast; rfl, HR5.out.set_ _ _ _ HX.out⟩
    case measure => simp [intOf]; omega
   ·
    have i16 : (16 : Int) ≤ (i : Int) := by omega
    obtain ⟨y0, hy0⟩ : ∃ x, x = (wl (ms b) i).getD (i - 16) 0 := ⟨_, rfl⟩
    obtain ⟨y1, hy1⟩ : ∃ x, x = (wl (ms b) i).getD (i - 15) 0 := ⟨_, rfl⟩
    obtain ⟨y2, hy2⟩ : ∃ x, x = (wl (ms b) i).getD (i - 7) 0 := ⟨_, rfl⟩
    obtain ⟨y3, hy3⟩ : ∃ x, x = (wl (ms b) i).getD (i - 2) 0 := ⟨_, rfl⟩
    have hget : ∀ j, j < i → wr.cell? ⟨w.heap.size + 1 + 1, j, none⟩ = some (.int .u32 (U ((wl (ms b) i).getD j 0))) := fun j hj => by
     rw [hR.get j (by rw [wrow_length _ _ hi]; omega), wrow_get _ _ _ hj]
    have c0 := hget (i - 16) (by omega)
    have c1 := hget (i - 15) (by omega)
    have c2 := hget (i - 7) (by omega)
    have c3 := hget (i - 2) (by omega)
    rw [← hy0] at c0
    rw [← hy1] at c1
    rw [← hy2] at c2
    rw [← hy3] at c3
    have HX : Hid ((uv (wrow (ms b) i)).set i (.int .u32 (U (y0 + sig0 y1 + y2 + sig1 y3))) = uv (wrow (ms b) (i + 1))) := Lib.hid (by
     have e := wrow_set (ms b) i hlt
     rw [if_neg hl16, nw, wl_length, ← hy0, ← hy1, ← hy2, ← hy3] at e
     exact e)
    have hkeep : ∀ j, j ≠ i → ∀ v, (wr.setCell ⟨w.heap.size + 1 + 1, i, none⟩ v).cell? ⟨w.heap.size + 1 + 1, j, none⟩ = wr.cell? ⟨w.heap.size + 1 + 1, j, none⟩ := fun j hj v => by
     rw [(hR.row.set_ i v).cell j, hR.row.cell j, Array.getElem?_setIfInBounds_ne (Ne.symm hj)]
    have k0 := fun v => (hkeep (i - 16) (by omega) v).trans c0
    have k2 := fun v => (hkeep (i - 7) (by omega) v).trans c2
    have K0 := Lib.hid k0
    have K2 := Lib.hid k2
    clear hkeep k0 k2 hy0 hy1 hy2 hy3 hR hget
    have hx := U_xor
    have ha := U_add
    have ha' := U_add'
    have hn := U_nonneg
    have s1 : ∀ x, U x / (8 : Int) = U (x >>> 3) := fun x => U_shr 3 x 3 rfl
    have s2 : ∀ x, U x / (1024 : Int) = U (x >>> 10) := fun x => U_shr 10 x 10 rfl
    have b0 : (0 : Int) ≤ (i : Int) - 16 := by omega
    have b1 : (i : Int) - 16 < 64 := by omega
    have b2 : (0 : Int) ≤ (i : Int) - 7 := by omega
    have b3 : (i : Int) - 7 < 64 := by omega
    have i7 : (7 : Int) ≤ (i : Int) := by omega
    have i71 : (i : Int) < 71 := by omega
    have w16 : IntKind.i64.wrap ((i : Int) - 16) = (i : Int) - 16 := by rw [IntKind.wrap_i64]; omega
    have w7 : IntKind.i64.wrap ((i : Int) - 7) = (i : Int) - 7 := by rw [IntKind.wrap_i64]; omega
    have t16 : ((i : Int) - 16).toNat = i - 16 := by omega
    have t7 : ((i : Int) - 7).toNat = i - 7 := by omega
    have d0 : i - 16 ≠ i := by omega
    have d2 : i - 7 ≠ i := by omega
    go_upto_region 9 with fail
    go_region_held3 (fun w' => w'.cell? ⟨w.heap.size + 1 + 1, i - 16, none⟩ = some (.int .u32 (U y0)) ∧ w'.cell? ⟨w.heap.size + 1 + 1, i - 7, none⟩ = some (.int .u32 (U y2)))
     (first | exact ⟨c0, c2⟩ | exact ⟨K0.out _, K2.out _⟩)
     (first
      | (go_at_call 100; refine (rrotr_any _ _ _ (by decide)).mono ?_; rintro e w' ⟨rfl, rfl⟩))
    all_goals
     go_wp2_with fail
     go_roundw
     case rel => exact ⟨i + 1, by omega, by push_cast; rfl, (HR.out.set_ _ _ _ HX.out).drew⟩
     case measure => simp [intOf]; omega
  ·
   obtain rfl : i = 64 := by omega
   obtain ⟨V, hV⟩ : ∃ V, V = wr.heap.size := ⟨_, rfl⟩
   have hR' : RefIs w q o kq b h (sched b) wr := by
    have e : wrow (ms b) 64 = sched b := wrow_last _
    rw [← e]; exact hR
   obtain ⟨w5, hw5⟩ : ∃ x, x = ((wr.alloc (.cells (uv [0, 0, 0, 0, 0, 0, 0, 0]).toArray 106)).setRow V (uv (wList h)).toArray) := ⟨_, rfl⟩
   have hVlt : w.heap.size + 1 + 1 < V := hV ▸ hR'.row.lt
   have hb5 : Below V wr w5 := by
    rw [hw5]
    exact below_setRow ((Below.refl _ wr).alloc (by rw [hV]; exact Nat.le_refl _) _) (Nat.le_refl _) _
   have hv5 : Blk w5 V 106 (uv (wList h)).toArray := by
    rw [hw5]
    exact setRow_heap _ V (uv [0, 0, 0, 0, 0, 0, 0, 0]).toArray _ _ (0, 0) (Blk.at_ hV.symm _ _)
   have hr5 : RefIs w q o kq b h (sched b) w5 := hR'.below hb5 hVlt
   have HR5 := Lib.hid hr5
   have HV5 := Lib.hid hv5
   have HW5 := Lib.hid hw5
   have HVL := Lib.hid hVlt
   have HVV := Lib.hid hV
   clear hR hR' hw5 hb5 hv5 hr5 hlt hV hVlt
   go_upto_region 10 with fail
   refine wp_region_lit ?_
   refine wpList_load_row rfl 106 (.tmp 3) rfl w.heap.size rfl 106 _ (0, 0) _ HR.out.hw Tryz.underlying106 rfl (by rw [info38]; rfl) ?_
   refine step_alloc rfl rfl zero38 ?_
   refine wpList_store_row rfl 106 (.tmp 11) (.tmp 68) rfl wr.heap.size (uv (wList h)).toArray (by simp [Act.put, Act.eval]) (by simp [Act.put, Act.eval]) 106 _ (Blk.new wr _ _) (by rw [info38]; rfl) rfl (one_uv _) ?_
   refine wpl_at (w' := w5) (by rw [HW5.out, HVV.out]; rfl) ?_
   clear HW5 HR
   go_wp2_with fail
   rw [← HVV.out]
   go_loopw [12] (fun v wr => ∃ (i : Nat) (r : W8), i ≤ 64 ∧ r = rn (fun j => (sched b).getD j 0) h i ∧ v = .int .i64 i ∧ RefIs w q o kq b h (sched b) wr ∧ Blk wr V 106 (uv (wList r)).toArray) (fun v _ => 64 - (intOf v).toNat)
   case atStart => exact ⟨0, h, by omega, rfl, rfl, HR5.out, HV5.out⟩
   case round =>
    clear HR5 HV5 HVV
    obtain ⟨i, r, hi, hr, rfl, hR, hV⟩ := hrel
    have HR := Lib.hid hR
    have HV := Lib.hid hV
    have HRR := Lib.hid hr
    clear hr
    by_cases hlt : i < 64
    ·
     have hlt' : (i : Int) < 64 := by omega
     have i0 : (0 : Int) ≤ (i : Int) := by omega
     obtain ⟨y, hy⟩ : ∃ y, y = (sched b).getD i 0 := ⟨_, rfl⟩
     obtain ⟨z, hz⟩ : ∃ z, z = kk i := ⟨_, rfl⟩
     have cy : wr.cell? ⟨w.heap.size + 1 + 1, i, none⟩ = some (.int .u32 (U y)) := by rw [hy]; exact hR.get i (by show i < (wl (ms b) 64).length; rw [wl_length]; exact hlt)
     have cz : wr.cell? ⟨kq, i, none⟩ = some (.int .u32 (U z)) := by rw [hz, hR.src.2.2.cell, List.getElem?_toArray]; exact uv_get kL i hlt
     have c0 : wr.cell? ⟨V, 0, none⟩ = some (.int .u32 (U r.a)) := hV.cell 0
     have c1 : wr.cell? ⟨V, 1, none⟩ = some (.int .u32 (U r.b)) := hV.cell 1
     have c2 : wr.cell? ⟨V, 2, none⟩ = some (.int .u32 (U r.c)) := hV.cell 2
     have c4 : wr.cell? ⟨V, 4, none⟩ = some (.int .u32 (U r.e)) := hV.cell 4
     have c5 : wr.cell? ⟨V, 5, none⟩ = some (.int .u32 (U r.f)) := hV.cell 5
     have c6 : wr.cell? ⟨V, 6, none⟩ = some (.int .u32 (U r.g)) := hV.cell 6
     have c7 : wr.cell? ⟨V, 7, none⟩ = some (.int .u32 (U r.h)) := hV.cell 7
     have HY := Lib.hid hy
     have HZ := Lib.hid hz
     clear hR hV hy hz
     have hx := U_xor
     have hd := U_and
     have ha := U_add
     have ho : ∀ a : UInt32, bits BinOp.xor IntKind.u32 4294967295 (U a) = U (~~~a) := U_not
     have hn := U_nonneg
     go_wp2_with fail
     go_quiet ((go_at_call 100; exact quiet_left (rrotr_any _ _ _ (by decide))))
     obtain ⟨wq, hwq⟩ : ∃ x, x = wr.drewN nq := ⟨_, rfl⟩
     rw [← hwq]
     have HRQ : Hid (RefIs w q o kq b h (sched b) wq) := Lib.hid (by rw [hwq]; exact HR.out.drewN _)
     have HVQ : Hid (Blk wq V 106 (uv (wList r)).toArray) := Lib.hid (by rw [hwq]; exact HV.out)
     clear HR HV hwq c0 c1 c2 c4 c5 c6 c7 cy cz nq
     have c1 : wq.cell? ⟨V, 1, none⟩ = some (.int .u32 (U r.b)) := HVQ.out.cell 1
     have c2 : wq.cell? ⟨V, 2, none⟩ = some (.int .u32 (U r.c)) := HVQ.out.cell 2
     go_wp2_with fail
     go_quiet ((go_at_call 100; exact quiet_left (rrotr_any _ _ _ (by decide))))
     simp only [U_add]
     obtain ⟨t, ht⟩ : ∃ t, t = r.h + (rot 6 r.e ^^^ rot 11 r.e ^^^ rot 25 r.e) + (r.e &&& r.f ^^^ ~~~r.e &&& r.g) + z + y := ⟨_, rfl⟩
     obtain ⟨u, hu⟩ : ∃ u, u = (rot 2 r.a ^^^ rot 13 r.a ^^^ rot 22 r.a) + (r.a &&& r.b ^^^ r.a &&& r.c ^^^ r.b &&& r.c) := ⟨_, rfl⟩
     rw [← ht, ← hu]
     have HTU : Hid ([t + u, r.a, r.b, r.c, r.d + t, r.e, r.f, r.g] = wList (rnd r z y)) := Lib.hid (by rw [ht, hu]; rfl)
     clear ht hu
     obtain ⟨wz, hwz⟩ : ∃ x, x = wq.drewN nq := ⟨_, rfl⟩
     rw [← hwz]
     have HRZ : Hid (RefIs w q o kq b h (sched b) wz) := Lib.hid (by rw [hwz]; exact HRQ.out.drewN _)
     have HVZ : Hid (Blk wz V 106 (uv (wList r)).toArray) := Lib.hid (by rw [hwz]; exact HVQ.out)
     clear HRQ HVQ hwz c1 c2 nq
     go_wp2_with fail
     go_loopw [17] (fun v wr => ∃ j : Nat, j ≤ 7 ∧ v = .int .i64 j ∧ RefIs w q o kq b h (sched b) wr ∧ Blk wr V 106 (uv (shW r j)).toArray) (fun v _ => (intOf v).toNat)
     case atStart => exact ⟨7, by decide, rfl, HRZ.out, HVZ.out⟩
     case round =>
      clear HRZ HVZ
      obtain ⟨j, hj, rfl, hR, hV⟩ := hrel
      have HR := Lib.hid hR
      have HV := Lib.hid hV
      by_cases hj0 : 0 < j
      ·
       obtain ⟨k, rfl⟩ : ∃ k, j = k + 1 := ⟨j - 1, by omega⟩
       obtain ⟨x, hx1⟩ : ∃ x, x = (wList r).getD k 0 := ⟨_, rfl⟩
       have ck : wr.cell? ⟨V, k, none⟩ = some (.int .u32 (U x)) := by rw [hV.cell, List.getElem?_toArray, uv_get _ _ (by rw [shW_len _ _ (by omega)]; omega), shW_get _ _ (by omega), hx1]
       obtain ⟨cv, cw⟩ : ∃ v, wr.cell? ⟨V, k + 1, none⟩ = some v := ⟨_, by rw [hV.cell, List.getElem?_toArray]; exact uv_get _ _ (by rw [shW_len _ _ (by omega)]; omega)⟩
       have fw : wr.frozen? ⟨V, k + 1, none⟩ = false := hV.frozen _
       have HX : Hid ((shW r (k + 1)).set (k + 1) x = shW r k) := Lib.hid (by rw [hx1]; exact shW_set r k (by omega))
       clear hx1 hR hV
       have k0 : (0 : Int) ≤ (k : Int) := by omega
       have k1 : (k : Int) < 7 := by omega
       have kc : ((k + 1 : Nat) : Int) = (k : Int) + 1 := by push_cast; rfl
       go_wp2_with fail
       go_roundw
       case rel => exact ⟨k, by omega, by simp, HR.out.far V HVL.out _ _, HX.out ▸ blk_uset HV.out _ _⟩
       case measure => (simp [intOf]; try omega)
      ·
       obtain rfl : j = 0 := by omega
       have c4 : wr.cell? ⟨V, 4, none⟩ = some (.int .u32 (U r.d)) := hV.cell 4
       have f4 := hV.frozen 4
       have cz0 : wr.cell? ⟨V, 0, none⟩ = some (.int .u32 (U r.a)) := hV.cell 0
       have f0 := hV.frozen 0
       clear hR hV
       go_wp2_with fail
       go_roundw
       case rel =>
        refine ⟨i + 1, rnd r z y, by omega, by rw [HRR.out, HZ.out, HY.out]; rfl, by push_cast; rfl, (HR.out.far V HVL.out _ _).far V HVL.out _ _, ?_⟩
        have e : ((shW r 0).set 4 (r.d + t)).set 0 (t + u) = wList (rnd r z y) := HTU.out
        rw [← e]
        exact blk_uset (blk_uset HV.out _ _) _ _
       case measure => simp [intOf]; omega
    ·
     obtain rfl : i = 64 := by omega
     have HV0 : Hid (Blk wr V 106 (uv (accW r h 0)).toArray) := Lib.hid HV.out
     clear hR hV HV hlt
     have ha := U_add
     have hn := U_nonneg
     go_wp2_with fail
     go_loopw [18] (fun v wr => ∃ i : Nat, i ≤ 8 ∧ v = .int .i64 i ∧ RefIs w q o kq b h (sched b) wr ∧ Blk wr V 106 (uv (accW r h i)).toArray) (fun v _ => 8 - (intOf v).toNat)
     case atStart => exact ⟨0, by omega, rfl, HR.out, HV0.out⟩
     case round =>
      clear HR HV0
      obtain ⟨i, hi, rfl, hR, hV⟩ := hrel
      have HR := Lib.hid hR
      have HV := Lib.hid hV
      by_cases hlt : i < 8
      ·
       have hlt' : (i : Int) < 8 := by omega
       have i0 : (0 : Int) ≤ (i : Int) := by omega
       obtain ⟨x, hx1⟩ : ∃ x, x = (wList r).getD i 0 := ⟨_, rfl⟩
       obtain ⟨y, hy1⟩ : ∃ y, y = (wList h).getD i 0 := ⟨_, rfl⟩
       have ck : wr.cell? ⟨V, i, none⟩ = some (.int .u32 (U x)) := by rw [hV.cell, List.getElem?_toArray, uv_get _ _ (accW_len r h i hlt), accW_get r h i hlt, hx1]
       have cy : wr.cell? ⟨w.heap.size, i, none⟩ = some (.int .u32 (U y)) := by rw [hR.hw.cell, List.getElem?_toArray, hy1]; exact uv_get _ _ hlt
       have fw : wr.frozen? ⟨V, i, none⟩ = false := hV.frozen _
       have HX : Hid ((accW r h i).set i (x + y) = accW r h (i + 1)) := Lib.hid (by rw [hx1, hy1]; exact accW_set r h i hlt)
       clear hx1 hy1 hR hV
       go_wp2_with fail
       go_region
       go_wp2_with fail
       go_roundw
       case rel => exact ⟨i + 1, by omega, by push_cast; rfl, (HR.out.far V HVL.out _ _).drew, HX.out ▸ blk_uset HV.out _ _⟩
       case measure => simp [intOf]; omega
      ·
       obtain rfl : i = 8 := by omega
       clear hR hV hlt
       go_upto_region 28 with fail
       refine wp_region_lit ?_
       refine wpList_load_row rfl 106 (.tmp 11) rfl V rfl 106 _ (0, 0) _ HV.out Tryz.underlying106 rfl (by rw [info38]; rfl) ?_
       refine wpList_store_row rfl 106 (.tmp 6) (.tmp 164) rfl (w.heap.size + 1) (uv (accW r h 8)).toArray rfl (by simp [Act.put, Act.eval]) 106 _ HR.out.res (by rw [info38]; rfl) rfl (one_uv _) ?_
       go_wp2_with fail
       (try simp only [Exit.inBlock, Exit.then])
       have hrow := setRow_heap wr (w.heap.size + 1) _ (uv (accW r h 8)).toArray _ _ HR.out.res
       refine bodyPost_ret (results_cell_row rfl _ _ (w.heap.size + 1) 106 (uv (accW r h 8)).toArray (0, 0) _ rfl hrow Tryz.underlying106 rfl (by rw [info38]; rfl)) rfl ⟨?_, below_setRow HR.out.bel (Nat.le_succ _) _⟩
       rw [accW_end, addW_comm, HRR.out]
       rfl
end Go.Proofs.YtpeneeddfgmjpaaGreatDoor.sha

namespace Go.Proofs.YtpeneeddfgmjpaaGreatDoor.mem
open Go.RowKit

/-- v is a slice over a row of the call's own (one of F), marked or not: it holds the bytes l -/
def OwnB (w : World) (F : Nat → Prop) (v : Value) (l : List UInt8) : Prop :=
 ∃ g cap cur fr, v = .slice (some ⟨g, 0, none⟩) l.length cap ∧ w.heap[g]? = some (.cells cur 5 fr) ∧ (fr = (0, 0) ∨ fr = (cap, cap + 1)) ∧ cur.size = cap ∧ l.length ≤ cap ∧ cur.toList.take l.length = bCells l ∧ F g

theorem OwnB.lt {w : World} {F : Nat → Prop} {v : Value} {l : List UInt8} (h : OwnB w F v l) : ∃ g c, v = .slice (some ⟨g, 0, none⟩) l.length c ∧ g < w.heap.size ∧ F g := by
 obtain ⟨g, cap, cur, fr, hv, hg, _, _, _, _, hF⟩ := h
 exact ⟨g, cap, hv, (Array.getElem?_eq_some_iff.1 hg).1, hF⟩
theorem OwnB.turn {w w' : World} {F G : Nat → Prop} {v : Value} {l : List UInt8} (h : OwnB w F v l) (ht : Turn G w w') (hd : ∀ k, k < w.heap.size → F k → ¬ G k) : OwnB w' F v l := by
 obtain ⟨g, cap, cur, fr, hv, hg, h1, h2, h3, h4, hF⟩ := h
 exact ⟨g, cap, cur, fr, hv, (ht.block g (hd g (Array.getElem?_eq_some_iff.1 hg).1 hF)).trans hg, h1, h2, h3, h4, hF⟩
theorem OwnB.past {w w' : World} {F G : Nat → Prop} {g n c : Nat} {l : List UInt8} (h : OwnB w F (.slice (some ⟨g, 0, none⟩) n c) l) (ht : Turn G w w') (hd : ¬ G g) : OwnB w' F (.slice (some ⟨g, 0, none⟩) n c) l := by
 obtain ⟨g', cap, cur, fr, hv, hg, h1, h2, h3, h4, hF⟩ := h
 have e : g = g' := by
  injection hv with hv1
  injection hv1 with hv2
  injection hv2
 subst e
 exact ⟨g, cap, cur, fr, hv, (ht.block g hd).trans hg, h1, h2, h3, h4, hF⟩
theorem OwnB.fresh {w w' : World} {F : Nat → Prop} {v : Value} {l : List UInt8} (h : OwnB w F v l) (hb : Below w.heap.size w w') : OwnB w' F v l :=
 h.turn (G := (w.heap.size ≤ ·)) (Turn.ofBelow hb) fun _ hk _ => Nat.not_le.2 hk
theorem OwnB.cell {w : World} {F : Nat → Prop} {l : List UInt8} {g n c : Nat} (h : OwnB w F (.slice (some ⟨g, 0, none⟩) n c) l) (j : Nat) (hj : j < l.length) : w.cell? ⟨g, j, none⟩ = some (.int .u8 ((l.getD j 0).toNat : Int)) := by
 obtain ⟨g', cap, cur, fr, hv, hg, _, _, _, h4, _⟩ := h
 cases hv
 have e : (bCells l)[j]? = some (.int .u8 ((l.getD j 0).toNat : Int)) := by
  unfold bCells
  rw [List.getElem?_map, List.getElem?_eq_getElem hj, List.getD_eq_getElem?_getD, List.getElem?_eq_getElem hj]
  rfl
 rw [← h4, List.getElem?_take_of_lt hj] at e
 unfold World.cell?
 rw [hg]
 simpa using e

/-- '[]byte(s)' -/
theorem run_to_bytes (w : World) (F : Nat → Prop) (s : ByteArray) (hF : New F w) : ∃ v w', (convert 9 42 (.string s)).run Tryz.prog w = .ok v w' ∧ OwnB w' F v s.data.toList ∧ Below w.heap.size w w' := by
 have h := run_bytes_of_string (P := Tryz.prog) w 9 42 5 s Tryz.underlying9 Tryz.underlying42 Tryz.underlying5
 have hge := grownCap_ge w s.size 0 5
 have hsz : s.data.toList.length = s.size := by rw [Array.length_toList]; rfl
 have hbs : (bytesRow s (grownCap w s.size 0 5)).size = grownCap w s.size 0 5 := by
  have : s.data.size = s.size := rfl
  simp [bytesRow, this]
  omega
 refine ⟨_, _, h, ⟨w.heap.size, grownCap w s.size 0 5, bytesRow s (grownCap w s.size 0 5), ((bytesRow s (grownCap w s.size 0 5)).size, (bytesRow s (grownCap w s.size 0 5)).size + 1), by rw [hsz], heap_alloc_new w.drew _, .inr (by rw [hbs]), hbs, by rw [hsz]; exact hge, ?_, hF _ (Nat.le_refl _)⟩, ⟨rfl, rfl, rfl, by simp, fun k hk => heap_alloc_old w.drew _ hk⟩⟩
 rw [hsz]
 unfold bytesRow
 rw [Array.toList_append, List.take_append_of_le_length (by rw [Array.length_toList, Array.size_map]; exact Nat.le_refl _), List.take_of_length_le (by rw [Array.length_toList, Array.size_map]; exact Nat.le_refl _), Array.toList_map]
 rfl

/-- one byte more -/
theorem run_append1 (w : World) (ty : TypeId) (F : Nat → Prop) (v : Value) (l : List UInt8) (hown : OwnB w F v l) (a : Addr) (b : UInt8) (ha : w.cell? a = some (.int .u8 (b.toNat : Int))) (hl : l.length + 1 ≤ 1099511627776) (hn : New F w) :
  ∃ v' w', (Builtin.append_ #[42, 42] ty #[v, .slice (some a) 1 1]).run Tryz.prog w = .ok v' w' ∧ OwnB w' F v' (l ++ [b]) ∧ Turn F w w' := by
 obtain ⟨g, cap, cur, fr, rfl, hg, hfr, hsz, hle, htk, hF⟩ := hown
 obtain ⟨i, hi, hz, hs, hby⟩ := info_parts info5
 have hnews : ∀ j u, [Value.int .u8 (b.toNat : Int)][j]? = some u → w.cell? (a.add j) = some u := fun j u hu => by
  rcases j with _ | j
  ·
   have e : a.add 0 = a := by unfold Addr.add; split <;> simp_all
   rw [e, ha]
   simpa using hu
  ·
   simp at hu
 have hlen : (l ++ [b]).length = l.length + 1 := by simp
 by_cases hroom : l.length + 1 ≤ cap
 ·
  have hf := run_firstCells_some (P := Tryz.prog) w i.size 1 a 1 1 [.int .u8 (b.toNat : Int)] (by rw [hs]; rfl) hnews
  have hcell : w.cell? ⟨g, l.length, none⟩ = some cur[l.length] := by simp [World.cell?, hg, show l.length < cur.size by omega]
  have hfro : w.frozen? ⟨g, l.length, none⟩ = false := by
   rcases hfr with rfl | rfl
   ·
    simp [World.frozen?, hg]
   ·
    simp [World.frozen?, hg]; omega
  have hst := run_storeCells_cells (P := Tryz.prog) g l.length [.int .u8 (b.toNat : Int)] 0 w (fun j hj => by
   have : j = 0 := by simpa using hj
   subst this
   simp [hcell]) (fun j hj => by
   have : j = 0 := by simpa using hj
   subst this
   simpa using hfro) (by
   intro v hv
   simp only [List.mem_cons, List.not_mem_nil, or_false] at hv
   subst hv
   rfl)
  have hr : (Builtin.append_ #[42, 42] ty #[.slice (some ⟨g, 0, none⟩) l.length cap, .slice (some a) 1 1]).run Tryz.prog w = .ok (.slice (some ⟨g, 0, none⟩) (l.length + 1) cap) (w.setCell ⟨g, l.length, none⟩ (.int .u8 (b.toNat : Int))) := by
   rw [hs] at hf
   simp only [Nat.add_zero] at hst
   simp [Builtin.append_, run_underlying Tryz.underlying42, sizeOf, typeInfo, hi, hs, Builtin.lenOf, hroom, Addr.add_lit, hf, hst]
   rfl
  refine ⟨_, _, hr, ⟨g, cap, cur.setIfInBounds l.length (.int .u8 (b.toNat : Int)), fr, by rw [hlen], ?_, hfr, by simp [hsz], by rw [hlen]; exact hroom, ?_, hF⟩, (Turn.refl F w).setCell hF _⟩
  ·
   simp [World.setCell, Array.getElem?_modify, hg]
  ·
   have e : cur.toList.length = cap := by rw [← hsz]; exact Array.length_toList
   have e2 : l.length < (cur.toList.set l.length (Value.int .u8 (b.toNat : Int))).length := by rw [List.length_set]; omega
   rw [hlen, Array.toList_setIfInBounds, bCells_append, ← htk, List.take_succ_eq_append_getElem e2, List.getElem_set_self, List.take_set_of_le (Nat.le_refl _)]
   rfl
 ·
  have holds : ∀ j u, (bCells l)[j]? = some u → w.cell? ((⟨g, 0, none⟩ : Addr).add j) = some u := fun j u hu => by
   have hadd : (⟨g, 0, none⟩ : Addr).add j = ⟨g, j, none⟩ := by unfold Addr.add; split <;> simp_all
   rw [hadd]
   rw [← htk, List.getElem?_take] at hu
   split at hu
   ·
    unfold World.cell?
    rw [hg]
    simpa using hu
   ·
    cases hu
  have hbl : (bCells l).length = l.length := List.length_map ..
  have hr := run_append_grow (P := Tryz.prog) w 42 ty 5 i (.int .u8 0) Tryz.underlying42 hi hz ⟨g, 0, none⟩ l.length cap (bCells l) (by rw [hs, hbl, Nat.mul_one]) holds a 1 1 [.int .u8 (b.toNat : Int)] (by rw [hs]; rfl) hnews (by omega) (by omega)
   (growslice_fits (by omega) (by rw [hby]; omega))
  have hge := grownCap_ge w (l.length + 1) cap 5
  refine ⟨_, _, hr, ⟨w.heap.size, grownCap w (l.length + 1) cap 5, _, (0, 0), by rw [hlen], heap_alloc_new w.drew _, .inl rfl, ?_, by rw [hlen]; exact hge, ?_, hn _ (Nat.le_refl _)⟩, (Turn.refl F w).drew.alloc (fun k hk => hn k hk) _⟩
  ·
   simp only [Array.size_append, List.size_toArray, size_zeroCells, hbl, List.length_cons, List.length_nil]
   show l.length + (0 + 1) + (grownCap w (l.length + 1) cap 5 - (l.length + 1)) * 1 = _
   omega
  ·
   rw [hlen, bCells_append, Array.toList_append, Array.toList_append]
   have e : ((bCells l).toArray.toList ++ #[Value.int .u8 (b.toNat : Int)].toList).length = l.length + 1 := by rw [List.length_append]; simp [hbl]
   rw [← e, List.take_left]
   rfl
/-- 'append(v, x)', x one byte that the statement has just laid -/
theorem wp_append1 {ops : Array Oper} {rest : List Oper} {o : Oper} {a : Act} {Q : Exit → Act → World → Prop} (hgd : o.guard = none) (s x : Operand)
  (ho : o.op = .call { callee := .builtin .append, args := #[s, x], argTypes := #[42, 42] })
  (F : Nat → Prop) (w0 : World) (v : Value) (l : List UInt8) (hs : a.eval s = v) (hown : OwnB w0 F v l) (b : UInt8) (k : Int) (hk : k = (b.toNat : Int)) (hx : a.eval x = .slice (some ⟨w0.heap.size, 0, none⟩) 1 1)
  (hl : l.length + 1 ≤ 1099511627776) (hn : New F w0)
  (h : ∀ v' w', OwnB w' F v' (l ++ [b]) → Turn F w0 w' → wpList Tryz.prog ops Q rest (a.put o.dst v') w') : wpList Tryz.prog ops Q (o :: rest) a (w0.alloc (.cells #[.int .u8 k] 5)) := by
 subst hk
 have ha : (w0.alloc (.cells #[.int .u8 (b.toNat : Int)] 5)).cell? ⟨w0.heap.size, 0, none⟩ = some (.int .u8 (b.toNat : Int)) := (Blk.new w0 5 #[.int .u8 (b.toNat : Int)]).cell 0
 have hown' : OwnB (w0.alloc (.cells #[.int .u8 (b.toNat : Int)] 5)) F v l := hown.fresh ((Below.refl _ w0).alloc (Nat.le_refl _) _)
 obtain ⟨v', w', hr, ho', ht'⟩ := run_append1 (w0.alloc (.cells #[.int .u8 (b.toNat : Int)] 5)) o.type F v l hown' ⟨w0.heap.size, 0, none⟩ b ha hl (hn.alloc _)
 refine wpList_plain hgd fun K hK => ?_
 unfold Oper.wp execOp
 simp only [ho, resolve, invoke, builtin, Sem.run_bind, Sem.run_pure, Result.andThen_ok, List.map_toArray, List.map_cons, List.map_nil, hs, hx, hr]
 exact hK _ _ (h v' w' ho' (((Turn.refl F w0).alloc hn _).trans ht'))
end Go.Proofs.YtpeneeddfgmjpaaGreatDoor.mem
