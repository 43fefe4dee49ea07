/-
  The Hash as the model holds it; its words as an id.
  sha.ending: what stands behind n bytes.
  What a Hash has taken: its words are those of the whole blocks, its block begins with the rest.
-/
import Derived.Test.YtpeneeddfgmjpaaGreatDoorTurn
import Derived.Test.YtpeneeddfgmjpaaGreatDoorOpd
import Derived.Lib.BufferWrite
namespace Go.Proofs.YtpeneeddfgmjpaaGreatDoor.sha
open Go.RowKit Go.Proofs.YtpeneeddfgmjpaaGreatDoor.mem

/-- a Hash's block: made, its words, its block of bytes, how many bytes were written -/
def HBlk (w : World) (g : Nat) (ws : W8) (bl : List UInt8) (n : Int) : Prop :=
 Blk w g 155 (Value.bool true :: (uv (wList ws) ++ (bv bl ++ [.int .i64 n]))).toArray
section
variable {w : World} {g : Nat} {ws : W8} {bl : List UInt8} {n : Int}
theorem HBlk.c0 (h : HBlk w g ws bl n) : w.cell? ⟨g, 0, none⟩ = some (.bool true) := by rw [Blk.cell h]; rfl
theorem HBlk.word (h : HBlk w g ws bl n) (j : Nat) (hj : j < 8) : w.cell? ⟨g, 1 + j, none⟩ = some (.int .u32 (U ((wList ws).getD j 0))) := by
 rw [Blk.cell h, List.getElem?_toArray, Nat.add_comm 1 j, List.getElem?_cons_succ, List.getElem?_append_left (by rw [uv_length]; exact hj)]
 exact uv_get _ _ hj
theorem HBlk.byte (h : HBlk w g ws bl n) (j : Nat) (hj : j < bl.length) : w.cell? ⟨g, 9 + j, none⟩ = some (.int .u8 (B (bl.getD j 0))) := by
 rw [Blk.cell h, List.getElem?_toArray, show 9 + j = (8 + j) + 1 by omega, List.getElem?_cons_succ, List.getElem?_append_right (by rw [uv_length]; exact Nat.le_add_right 8 j), uv_length,
  show 8 + j - (wList ws).length = j from Nat.add_sub_cancel_left 8 j, List.getElem?_append_left (by rw [bv_length]; exact hj)]
 exact bv_get _ _ hj
theorem HBlk.len (h : HBlk w g ws bl n) (hl : bl.length = 64) : w.cell? ⟨g, 73, none⟩ = some (.int .i64 n) := by
 rw [Blk.cell h, List.getElem?_toArray, List.getElem?_cons_succ, List.getElem?_append_right (by rw [uv_length]; exact Nat.le_add_right 8 64), uv_length,
  show 72 - (wList ws).length = 64 from rfl, List.getElem?_append_right (by rw [bv_length, hl]; exact Nat.le_refl _), bv_length, hl]
 rfl
end

/-- the id behind i words -/
def idAcc (ws : W8) (i : Nat) : List UInt8 := (idb ws).take (4 * i) ++ List.replicate (32 - 4 * i) 0
theorem idAcc_end (ws : W8) : idAcc ws 8 = idb ws := rfl
theorem idAcc_len (ws : W8) (i : Nat) (hi : i < 8) : (idAcc ws i).length = 32 := by
 rcases lt8 hi with rfl | rfl | rfl | rfl | rfl | rfl | rfl | rfl <;> rfl
theorem idAcc_set (ws : W8) (i : Nat) (hi : i < 8) (x : UInt32) (hx : x = (wList ws).getD i 0) :
  ((((idAcc ws i).set (4 * i) (x >>> 24).toUInt8).set (4 * i + 1) (x >>> 16).toUInt8).set (4 * i + 2) (x >>> 8).toUInt8).set (4 * i + 3) x.toUInt8 = idAcc ws (i + 1) := by
 subst hx
 rcases lt8 hi with rfl | rfl | rfl | rfl | rfl | rfl | rfl | rfl <;> rfl
theorem U_byte (x : UInt32) : IntKind.u8.wrap (U x) = B x.toUInt8 := by
 rw [IntKind.wrap_u8']
 unfold U B
 rw [UInt32.toNat_toUInt8]
 omega
theorem info24 : (Tryz.prog.info? 24).map (·.size) = some 32 := by kernel_rfl
theorem blk_bset {w : World} {g : Nat} {t : TypeId} {l : List UInt8} (h : Blk w g t (bv l).toArray) (i : Nat) (x : UInt8) : Blk (w.setCell ⟨g, i, none⟩ (.int .u8 (B x))) g t (bv (l.set i x)).toArray := by
 have := h.set_ i (.int .u8 (B x))
 rw [List.setIfInBounds_toArray] at this
 unfold bv at this ⊢
 rw [List.map_set]
 exact this

set_option maxHeartbeats 4000000 in
set_option maxRecDepth 100000 in
theorem id_any (g : Nat) (ws : W8) (bl : List UInt8) (n : Int) (w : World) (h : HBlk w g ws bl n) : Calls Tryz.prog 111 #[.pointer (some ⟨g, 0, none⟩)] w fun e w' =>
  e = .returned (.agg (bv (idb ws)).toArray) ∧ Below w.heap.size w w' := by
 obtain ⟨S, hS⟩ : ∃ g, g = w.heap.size := ⟨_, rfl⟩
 obtain ⟨w3, hw3⟩ : ∃ x, x = ((w.alloc (.cells (bv (List.replicate 32 0)).toArray 24)).alloc (.cells (bv (List.replicate 32 0)).toArray 24)) := ⟨_, rfl⟩
 have hB0 : Below S w w3 := by
  subst hS; subst hw3
  exact ((Below.refl _ _).alloc (Nat.le_refl _) _).alloc (by simp) _
 have hR : Blk w3 w.heap.size 24 (bv (List.replicate 32 0)).toArray := by subst hw3; exact (Blk.new _ _ _).alloc _
 have hI : Blk w3 (w.heap.size + 1) 24 (bv (List.replicate 32 0)).toArray := by subst hw3; exact Blk.at_ (by simp) _ _
 have hH : HBlk w3 g ws bl n := Blk.below h hB0 (hS ▸ Blk.lt h)
 have hg : g < w.heap.size := Blk.lt h
 have c1 : w3.cell? ⟨g, 1, none⟩ = some (.int .u32 (U ws.a)) := hH.word 0 (by decide)
 have c2 : w3.cell? ⟨g, 2, none⟩ = some (.int .u32 (U ws.b)) := hH.word 1 (by decide)
 have c3 : w3.cell? ⟨g, 3, none⟩ = some (.int .u32 (U ws.c)) := hH.word 2 (by decide)
 have c4 : w3.cell? ⟨g, 4, none⟩ = some (.int .u32 (U ws.d)) := hH.word 3 (by decide)
 have c5 : w3.cell? ⟨g, 5, none⟩ = some (.int .u32 (U ws.e)) := hH.word 4 (by decide)
 have c6 : w3.cell? ⟨g, 6, none⟩ = some (.int .u32 (U ws.f)) := hH.word 5 (by decide)
 have c7 : w3.cell? ⟨g, 7, none⟩ = some (.int .u32 (U ws.g)) := hH.word 6 (by decide)
 have c8 : w3.cell? ⟨g, 8, none⟩ = some (.int .u32 (U ws.h)) := hH.word 7 (by decide)
 have HR := Lib.hid hR
 have HI := Lib.hid hI
 have HB := Lib.hid hB0
 have HW := Lib.hid hw3
 clear hR hI hB0 hw3 hH h
 go_enter Tryz.func111, Tryz.ntmps111
 go_upto_region 2 with fail
 refine wp_at HW.out.symm ?_
 clear HW
 go_wp2_with fail
 have HB0 : Hid (Below w.heap.size w w3) := Lib.hid (hS ▸ HB.out)
 clear HB c1 c2 c3 c4 c5 c6 c7 c8 hS
 go_loopw [10] (fun v wr => ∃ i : Nat, i ≤ 8 ∧ v = .int .i64 i ∧ Blk wr w.heap.size 24 (bv (List.replicate 32 0)).toArray ∧ Blk wr (w.heap.size + 1) 24 (bv (idAcc ws i)).toArray ∧ Below w.heap.size w wr) (fun v _ => 8 - (intOf v).toNat)
 case atStart => exact ⟨0, by omega, rfl, HR.out, HI.out, HB0.out⟩
 case round =>
  clear HR HI HB0
  obtain ⟨i, hi, rfl, hR, hI, hB⟩ := hrel
  have HR := Lib.hid hR
  have HI := Lib.hid hI
  have HB := Lib.hid hB
  by_cases hlt : i < 8
  ·
   have f0 := hI.frozen (4 * i)
   have f1 := hI.frozen (4 * i + 1)
   have f2 := hI.frozen (4 * i + 2)
   have f3 := hI.frozen (4 * i + 3)
   have hcc : ∀ j, j < 32 → ∃ v, wr.cell? ⟨w.heap.size + 1, j, none⟩ = some v := fun j hj => by
    rw [hI.cell, List.getElem?_toArray, bv_get _ _ (by rw [idAcc_len _ _ hlt]; exact hj)]
    exact ⟨_, rfl⟩
   obtain ⟨v0, c0⟩ := hcc (4 * i) (by omega)
   obtain ⟨v1, c1⟩ := hcc (4 * i + 1) (by omega)
   obtain ⟨v2, c2⟩ := hcc (4 * i + 2) (by omega)
   obtain ⟨v3, c3⟩ := hcc (4 * i + 3) (by omega)
   have hvi : (uv (wList ws)).toArray[i]? = some (Value.int .u32 (U ((wList ws).getD i 0))) := by rw [List.getElem?_toArray]; exact uv_get _ _ hlt
   have hix := fun u : World => run_index8 #[.int .u32 (U ws.a), .int .u32 (U ws.b), .int .u32 (U ws.c), .int .u32 (U ws.d), .int .u32 (U ws.e), .int .u32 (U ws.f), .int .u32 (U ws.g), .int .u32 (U ws.h)] i _ hvi hlt u
   obtain ⟨x, hx⟩ : ∃ x, x = (wList ws).getD i 0 := ⟨_, rfl⟩
   rw [← hx] at hix
   have HX := Lib.hid hx
   clear hR hI hB hvi hx hcc
   have hlt' : (i : Int) < 8 := by omega
   have i0 : (0 : Int) ≤ (i : Int) := by omega
   have s1 : ∀ x, U x / (16777216 : Int) = U (x >>> 24) := fun x => U_shr 24 x 24 rfl
   have s2 : ∀ x, U x / (65536 : Int) = U (x >>> 16) := fun x => U_shr 16 x 16 rfl
   have s3 : ∀ x, U x / (256 : Int) = U (x >>> 8) := fun x => U_shr 8 x 8 rfl
   have hb := U_byte
   have hn := U_nonneg
   go_wp2_with fail
   go_roundw
   case rel => exact ⟨i + 1, by omega, by push_cast; rfl, ((((HR.out.far (p := ⟨w.heap.size + 1, _, none⟩) (Nat.ne_of_lt (Nat.lt_succ_self _)) _).far (p := ⟨w.heap.size + 1, _, none⟩) (Nat.ne_of_lt (Nat.lt_succ_self _)) _).far (p := ⟨w.heap.size + 1, _, none⟩) (Nat.ne_of_lt (Nat.lt_succ_self _)) _).far (p := ⟨w.heap.size + 1, _, none⟩) (Nat.ne_of_lt (Nat.lt_succ_self _)) _),
    idAcc_set ws i hlt x HX.out ▸ blk_bset (blk_bset (blk_bset (blk_bset HI.out _ _) _ _) _ _) _ _,
    (((HB.out.setCell (Nat.le_succ _) _).setCell (Nat.le_succ _) _).setCell (Nat.le_succ _) _).setCell (Nat.le_succ _) _⟩
   case measure => simp [intOf]; omega
  ·
   obtain rfl : i = 8 := by omega
   clear hR hI hB hlt
   go_upto_region 7 with fail
   refine wp_region_lit ?_
   refine wpList_load_row rfl 24 (.tmp 3) rfl (w.heap.size + 1) rfl 24 _ (0, 0) _ HI.out Tryz.underlying24 rfl (by rw [info24]; rfl) ?_
   refine wpList_store_row rfl 24 (.tmp 2) (.tmp 41) rfl w.heap.size (bv (idAcc ws 8)).toArray rfl (by simp [Act.put, Act.eval]) 24 _ HR.out (by rw [info24]; rfl) rfl ?_ ?_
   ·
    exact one_bv _
   go_wp2_with fail
   (try simp only [Exit.inBlock, Exit.then])
   have hrow := setRow_heap wr w.heap.size _ (bv (idAcc ws 8)).toArray _ _ HR.out
   refine bodyPost_ret (results_cell_row rfl _ _ w.heap.size 24 (bv (idAcc ws 8)).toArray (0, 0) _ rfl hrow Tryz.underlying24 rfl (by rw [info24]; rfl)) rfl ⟨?_, ?_⟩
   ·
    rw [idAcc_end]
   ·
    exact below_setRow HB.out (Nat.le_refl _) _
end Go.Proofs.YtpeneeddfgmjpaaGreatDoor.sha

namespace Go.Proofs.YtpeneeddfgmjpaaGreatDoor.sha
open Go.RowKit Go.Proofs.YtpeneeddfgmjpaaGreatDoor.mem

theorem B_ofNat (x : Nat) : B (UInt8.ofNat x) = (x : Int) % 256 := by
 unfold B; rw [UInt8.toNat_ofNat']; omega
def pad (n : Nat) : Nat := (119 - n % 64) % 64
theorem pad_int (n : Nat) : 1 + ((pad n : Nat) : Int) = ((pad n + 1 : Nat) : Int) := by omega
theorem pad_lt (n : Nat) : pad n < 64 := Nat.mod_lt _ (by decide)
/-- the ending's bytes till k of the length's stand -/
def endAcc (n k : Nat) : List UInt8 := 128 :: List.replicate (pad n) 0 ++ (be64 (8 * n)).take k
theorem endAcc_end (n : Nat) : endAcc n 8 = ending n := rfl
theorem endAcc_len (n k : Nat) (hk : k ≤ 8) : (endAcc n k).length = pad n + 1 + k := by
 have : (be64 (8 * n)).length = 8 := rfl
 simp only [endAcc, List.length_append, List.length_cons, List.length_replicate, List.length_take, this]
 omega
theorem run_make_end (n : Nat) (w : World) : (Instr.makeSlice 42 (.int .i64 (1 + ((pad n : Nat) : Int))) (.int .i64 128)).run Tryz.prog w =
  .ok (.slice (some ⟨w.heap.size, 0, none⟩) (pad n + 1) 128) (w.alloc (.cells (bv (List.replicate 128 0)).toArray 5)) := by
 obtain ⟨i0, hi, hz0, hz1, hz2⟩ := info_parts info5
 have h := run_make (P := Tryz.prog) (w := w) 42 5 i0 (.int .u8 0) Tryz.underlying42 hi hz0 .i64 .i64 ((pad n + 1 : Nat) : Int) 128 (by omega) (by have := pad_lt n; omega) (by rw [hz2]; decide) (by decide)
 have e1 : madeCells (Value.int .u8 0).cells (Int.toNat 128 * 1) = (bv (List.replicate 128 0)).toArray := by kernel_rfl
 rw [pad_int, h, hz1, e1, Int.toNat_natCast]
 rfl

theorem be64_len (x : Nat) : (be64 x).length = 8 := rfl
theorem endAcc_next (n k : Nat) (hk : k < 8) (e : Int) (he : e = B ((be64 (8 * n)).getD k 0)) : bv (endAcc n k) ++ [.int .u8 e] = bv (endAcc n (k + 1)) := by
 subst he
 have h : endAcc n (k + 1) = endAcc n k ++ [(be64 (8 * n)).getD k 0] := by
  unfold endAcc
  rw [List.take_succ_eq_append_getElem (by rw [be64_len]; exact hk), List.getD_eq_getElem?_getD, List.getElem?_eq_getElem (by rw [be64_len]; exact hk)]
  simp
 rw [h, bv_append]
 rfl
theorem set_take {α : Type} (l : List α) (x : α) (m : Nat) : (l.set 0 x).take (m + 1) = (l.take (m + 1)).set 0 x := by
 cases l <;> rfl

set_option maxHeartbeats 4000000 in
set_option maxRecDepth 100000 in
theorem ending_any (n : Nat) (hn : n ≤ 1099511627776) (w : World) : Calls Tryz.prog 110 #[.int .i64 n] w fun e w' => e = .returned (.string ⟨(ending n).toArray⟩) ∧ Below w.heap.size w w' := by
 have n0 : (0 : Int) ≤ (n : Int) := Int.natCast_nonneg _
 have n1 : (n : Int) ≤ 1099511627776 := by omega
 have hmk := run_make_end n
 obtain ⟨r, hr⟩ : ∃ r : Int, (n : Int) % 64 = r := ⟨_, rfl⟩
 have hr0 : 0 ≤ r := by omega
 have hr1 : r < 64 := by omega
 have hp : (119 - r) % 64 = ((pad n : Nat) : Int) := by unfold pad; omega
 have hp1 := pad_lt n
 obtain ⟨Z, hZ⟩ : ∃ Z, Z = (bv (List.replicate 128 0)).toArray := ⟨_, rfl⟩
 rw [← hZ] at hmk
 have hb0 : Blk (w.alloc (.cells Z 5)) w.heap.size 5 Z := Blk.new _ _ _
 have hc0 : (w.alloc (.cells Z 5)).cell? ⟨w.heap.size, 0, none⟩ = some (.int .u8 0) := by rw [hb0.cell, hZ]; rfl
 have hf0 := hb0.frozen 0
 have hO : Owns (w.alloc (.cells (Z.setIfInBounds 0 (.int .u8 128)) 5)) (w.heap.size ≤ ·) (.slice (some ⟨w.heap.size, 0, none⟩) (pad n + 1) 128) (pad n + 1) (bv (endAcc n 0)) := by
  refine ⟨⟨?_, .inr ⟨w.heap.size, 128, Z.setIfInBounds 0 (.int .u8 128), rfl, Nat.zero_le _, Blk.new _ _ _, by have := pad_lt n; omega, by unfold maxLen; omega, by rw [hZ]; rfl, ?_⟩⟩, fun k hk => ?_⟩
  ·
   rw [bv_length, endAcc_len n 0 (by omega)]; omega
  ·
   rw [hZ, List.setIfInBounds_toArray, Nat.mul_one]
   show List.take (pad n + 1) ((bv (List.replicate 128 0)).set 0 (.int .u8 128)) = _
   rw [set_take]
   unfold bv endAcc
   rw [← List.map_take, List.take_replicate, Nat.min_eq_left (by have := pad_lt n; omega), List.replicate_succ]
   simp [B]
  ·
   have : w.heap.size = k := by simpa [Value.ownBlock] using hk
   omega
 have HO := Lib.hid hO
 have hB0 : Below w.heap.size w (w.alloc (.cells (Z.setIfInBounds 0 (.int .u8 128)) 5)) := (Below.refl _ w).alloc (Nat.le_refl _) _
 have HB := Lib.hid hB0
 clear hO hB0 hb0 hZ
 go_enter Tryz.func110, Tryz.ntmps110
 go_wp2_with fail
 go_loopw [4, 19] (fun v i wr => ∃ k : Nat, k ≤ 8 ∧ i = .int .i64 k ∧ Owns wr (w.heap.size ≤ ·) v (pad n + 1 + k) (bv (endAcc n k)) ∧ Below w.heap.size w wr) (fun _ i _ => 8 - (intOf i).toNat)
 case atStart => exact ⟨0, by omega, rfl, HO.out, HB.out⟩
 case round =>
  clear HO HB hmk hc0 hf0 hr hp
  obtain ⟨k, hk, rfl, hO, hB⟩ := hrel
  have HO := Lib.hid hO
  have HB := Lib.hid hB
  clear hO hB
  by_cases hlt : k < 8
  ·
   rcases lt8 hlt with rfl | rfl | rfl | rfl | rfl | rfl | rfl | rfl
   all_goals
    go_wp2_with (at_builtin; go_must (refine wp_append_new rfl (.tmp 22) (.tmp 29) rfl (w.heap.size ≤ ·) _ _ _ _ rfl HO.out [_] 1 rfl rfl (one1 _) (by have := pad_lt n; omega) (fun k hk => Nat.le_trans HB.out.size hk) ?_); intro v1 w1 ho1 ht1)
    go_roundw
    case rel =>
     refine ⟨_, Nat.succ_le_of_lt hlt, by push_cast; rfl, ?_, HB.out.trans (ht1.below fun _ h => h)⟩
     rw [endAcc_next _ _ (by decide)] at ho1
     ·
      exact ho1
     ·
      simp only [be64, List.getD_cons_zero, List.getD_cons_succ]
      rw [B_ofNat]
      omega
    case measure => decide
  ·
   obtain rfl : k = 8 := by omega
   have hs : (convert 42 9 u4).run Tryz.prog wr = .ok (.string ⟨(endAcc n 8).toArray⟩) wr := by
    have h := HO.out
    rw [← endAcc_len n 8 (by omega)] at h
    exact Owns.string (out := endAcc n 8) h
   go_wp2_with fail
   go_ret
   exact ⟨by rw [endAcc_end]; rfl, HB.out⟩
end Go.Proofs.YtpeneeddfgmjpaaGreatDoor.sha

namespace Go.Proofs.YtpeneeddfgmjpaaGreatDoor.sha
open Go.RowKit Go.Proofs.YtpeneeddfgmjpaaGreatDoor.mem

theorem fb_append (a b : List UInt8) : ∀ n, 64 * n ≤ a.length → fb (a ++ b) n = fb a n
 | 0, _ => rfl
 | n + 1, h => by
  rw [fb, fb, fb_append a b n (by omega), List.drop_append_of_le_length (by omega), List.take_append_of_le_length (by rw [List.length_drop]; omega)]

/-- a Hash that has taken l -/
def HashIs (w : World) (g : Nat) (l : List UInt8) : Prop :=
 ∃ bl : List UInt8, bl.length = 64 ∧ HBlk w g (fb l (l.length / 64)) bl l.length ∧ bl.take (l.length % 64) = l.drop (64 * (l.length / 64))

/-- the block behind a copy of p to its place r -/
def put (bl : List UInt8) (r : Nat) (p : List UInt8) : List UInt8 := bl.take r ++ p ++ bl.drop (r + p.length)
theorem put_length (bl : List UInt8) (r : Nat) (p : List UInt8) (h : r + p.length ≤ bl.length) : (put bl r p).length = bl.length := by
 simp only [put, List.length_append, List.length_take, List.length_drop]; omega

theorem HashIs.part {w : World} {g : Nat} {l p bl : List UInt8} (hbl : bl.length = 64) (ht : bl.take (l.length % 64) = l.drop (64 * (l.length / 64))) (hp : l.length % 64 + p.length < 64)
  (h : HBlk w g (fb l (l.length / 64)) (put bl (l.length % 64) p) ((l.length + p.length : Nat) : Int)) : HashIs w g (l ++ p) := by
 have e1 : (l ++ p).length = l.length + p.length := List.length_append
 have e2 : (l.length + p.length) / 64 = l.length / 64 := by omega
 have e3 : (l.length + p.length) % 64 = l.length % 64 + p.length := by omega
 refine ⟨put bl (l.length % 64) p, by rw [put_length _ _ _ (by omega), hbl], ?_, ?_⟩
 ·
  rw [e1, e2, fb_append _ _ _ (by omega)]
  exact h
 ·
  rw [e1, e2, e3, List.drop_append_of_le_length (by omega), ← ht]
  unfold put
  have hl : (bl.take (l.length % 64) ++ p).length = l.length % 64 + p.length := by rw [List.length_append, List.length_take]; omega
  rw [← hl, List.take_left]

theorem put_whole {l p bl : List UInt8} (hbl : bl.length = 64) (ht : bl.take (l.length % 64) = l.drop (64 * (l.length / 64))) (hp : l.length % 64 + p.length = 64) :
  fb (l ++ p) ((l ++ p).length / 64) = blk (fb l (l.length / 64)) (put bl (l.length % 64) p) := by
 have e1 : (l ++ p).length = l.length + p.length := List.length_append
 have e2 : (l.length + p.length) / 64 = l.length / 64 + 1 := by omega
 rw [e1, e2, fb, fb_append _ _ _ (by omega), List.drop_append_of_le_length (by omega), ← ht]
 unfold put
 rw [hp, List.drop_of_length_le (by omega), List.append_nil, List.take_of_length_le (by rw [List.length_append, List.length_take]; omega)]

theorem HashIs.whole {w : World} {g : Nat} {l p bl : List UInt8} (hbl : bl.length = 64) (ht : bl.take (l.length % 64) = l.drop (64 * (l.length / 64))) (hp : l.length % 64 + p.length = 64)
  (h : HBlk w g (blk (fb l (l.length / 64)) (put bl (l.length % 64) p)) (put bl (l.length % 64) p) ((l.length + p.length : Nat) : Int)) : HashIs w g (l ++ p) := by
 have e1 : (l ++ p).length = l.length + p.length := List.length_append
 refine ⟨put bl (l.length % 64) p, by rw [put_length _ _ _ (by omega), hbl], ?_, ?_⟩
 ·
  rw [put_whole hbl ht hp, e1]
  exact h
 ·
  rw [e1, show (l.length + p.length) % 64 = 0 by omega, List.take_zero, List.drop_of_length_le (by omega)]

/-- 'copy(dst, s)', dst lying in row g from place o on: as many bytes as there is room for -/
theorem run_copy_min (w : World) (ty : TypeId) (g o d c : Nat) (s : ByteArray) (cur : Array Value) (t : TypeId)
  (hg : w.heap[g]? = some (.cells cur t (0, 0))) (hfit : o + min s.size d ≤ cur.size) :
  (Builtin.copy_ #[42, 9] ty #[.slice (some ⟨g, o, none⟩) d c, .string s]).run Tryz.prog w =
   .ok (goInt ((min s.size d : Nat) : Int)) (w.setRow g (cur.toList.take o ++ bv (s.data.toList.take (min s.size d)) ++ cur.toList.drop (o + min s.size d)).toArray) := by
 have hlen : (bv (s.data.toList.take (min s.size d))).length = min s.size d := by
  rw [bv_length, List.length_take, ← Lib.size_eq]; omega
 have hst := run_storeCells_at Tryz.prog g o t (bv (s.data.toList.take (min s.size d))) 0 cur w hg (by rw [hlen]; simpa using hfit) (by
  intro v hv
  simp only [bv, List.mem_map] at hv
  obtain ⟨b, _, rfl⟩ := hv
  rfl)
 have htk : List.take (min s.size d) (List.map (fun b : UInt8 => Value.int IntKind.u8 (b.toNat : Int)) s.data.toList) = bv (s.data.toList.take (min s.size d)) := by
  unfold bv; rw [List.map_take]; rfl
 rw [hlen] at hst
 simp only [Nat.add_zero] at hst
 obtain ⟨i, hi, _, hs, _⟩ := info_parts info5
 simp [Builtin.copy_, run_underlying Tryz.underlying42, Builtin.lenOf, Builtin.firstCells, sizeOf, typeInfo, hi]
 rw [htk, hst]
 simp only [Result.andThen_ok, List.append_assoc]
 try rfl

/-- 'block[r:]', block being the array behind a pointer -/
theorem run_slice_block (g r : Nat) (i : Int) (hi : i = (r : Int)) (hr : r < 64) (w : World) : (Instr.sliceAt 153 (.pointer (some ⟨g, 9, none⟩)) (some (.int .i64 i)) none none).run Tryz.prog w =
  .ok (.slice (some ⟨g, 9 + r, none⟩) (64 - r) (64 - r)) w := by
 subst hi
 obtain ⟨y, hy, _, hs, _⟩ := info_parts info5
 have h0 : (0 : Int) ≤ (r : Int) := Int.natCast_nonneg _
 have h1 : (r : Int) ≤ ((64 : Nat) : Int) := by omega
 have h2 : ¬ (64 : Nat) = r := by omega
 simp only [Instr.sliceAt, Instr.sureAddr, Instr.sliceBounds, Instr.sliceBound, asIntOf, sizeOf, typeInfo, Sem.run_bind, Sem.run_pure, Result.andThen_ok, run_underlying Tryz.underlying153]
 rw [if_pos ⟨h0, h1⟩]
 simp [hy, hs, h2, Addr.add]
theorem HBlk.copied {w : World} {g : Nat} {ws : W8} {bl : List UInt8} {n : Int} (h : HBlk w g ws bl n) (hbl : bl.length = 64) (r : Nat) (p : List UInt8) (hp : r + p.length ≤ 64) :
  HBlk (w.setRow g ((Value.bool true :: (uv (wList ws) ++ (bv bl ++ [.int .i64 n]))).take (9 + r) ++ bv p ++ (Value.bool true :: (uv (wList ws) ++ (bv bl ++ [.int .i64 n]))).drop (9 + r + p.length)).toArray) g ws (put bl r p) n := by
 have h2 := setRow_heap w g _ ((Value.bool true :: (uv (wList ws) ++ (bv bl ++ [.int .i64 n]))).take (9 + r) ++ bv p ++ (Value.bool true :: (uv (wList ws) ++ (bv bl ++ [.int .i64 n]))).drop (9 + r + p.length)).toArray _ _ h
 unfold HBlk Blk
 rw [h2]
 have e8 : (uv (wList ws)).length = 8 := rfl
 have e : (Value.bool true :: (uv (wList ws) ++ (bv bl ++ [.int .i64 n]))).take (9 + r) ++ bv p ++ (Value.bool true :: (uv (wList ws) ++ (bv bl ++ [.int .i64 n]))).drop (9 + r + p.length) =
   Value.bool true :: (uv (wList ws) ++ (bv (put bl r p) ++ [.int .i64 n])) := by
  rw [show 9 + r = (8 + r) + 1 by omega, List.take_succ_cons, show 8 + r + 1 + p.length = (8 + (r + p.length)) + 1 by omega, List.drop_succ_cons, ← e8, List.take_length_add_append, List.drop_length_add_append,
   List.take_append_of_le_length (by rw [bv_length]; omega), List.drop_append_of_le_length (by rw [bv_length]; omega)]
  unfold put
  rw [bv_append, bv_append]
  unfold bv
  rw [List.map_take, List.map_drop]
  simp only [List.cons_append, List.append_assoc]
 rw [e]
end Go.Proofs.YtpeneeddfgmjpaaGreatDoor.sha
