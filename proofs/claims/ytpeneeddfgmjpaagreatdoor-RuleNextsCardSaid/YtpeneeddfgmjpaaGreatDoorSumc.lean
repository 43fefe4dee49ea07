/-
  New, Len, Write, Sum: what each call of package sha answers and leaves.
  (*Hash).Sum of a Hash that New made, and Sum.
  Sum of a text; (*Hash).Sum of one that nobody made.
-/
import Derived.Test.YtpeneeddfgmjpaaGreatDoorTake
import Derived.Test.YtpeneeddfgmjpaaGreatDoorStepl
namespace Go.Proofs.YtpeneeddfgmjpaaGreatDoor.sha
open Go.RowKit Go.Proofs.YtpeneeddfgmjpaaGreatDoor.mem

theorem neq_h (a : Addr) (w : World) : (binOp .eql 118 (.pointer (some a)) (.pointer none)).run Tryz.prog w = .ok (.bool false) w := by
 have h1 : ∀ d : Nat, (Op.equalIn (d + 1) 118 (.pointer (some a)) (.pointer none)).run Tryz.prog w = .ok false w := fun d => by
  simp [Op.equalIn, run_underlying Tryz.underlying118]
 simp only [binOp]
 simp [Op.equal, Op.maxDepth, h1 9999]

theorem HashIs.lt {w : World} {g : Nat} {l : List UInt8} (h : HashIs w g l) : g < w.heap.size := by obtain ⟨_, _, hB, _⟩ := h; exact Blk.lt hB
theorem HashIs.below {w w' : World} {g B : Nat} {l : List UInt8} (h : HashIs w g l) (hb : Below B w w') (hg : g < B) : HashIs w' g l := by
 obtain ⟨bl, h1, hB, h2⟩ := h
 exact ⟨bl, h1, Blk.below hB hb hg, h2⟩
theorem HashIs.next {w w' : World} {g : Nat} {l : List UInt8} (h : HashIs w g l) (hb : Below w.heap.size w w') : HashIs w' g l := h.below hb h.lt
theorem HashIs.c0 {w : World} {g : Nat} {l : List UInt8} (h : HashIs w g l) : w.cell? ⟨g, 0, none⟩ = some (.bool true) := by obtain ⟨_, _, hB, _⟩ := h; exact hB.c0
theorem HashIs.len {w : World} {g : Nat} {l : List UInt8} (h : HashIs w g l) : w.cell? ⟨g, 73, none⟩ = some (.int .i64 l.length) := by obtain ⟨_, h1, hB, _⟩ := h; exact HBlk.len hB h1

/-- a Hash that nobody made -/
def zcells : List Value := Value.bool false :: (uv (List.replicate 8 0) ++ (bv (List.replicate 64 0) ++ [.int .i64 0]))
def ZHash (w : World) (p : Option Addr) : Prop := p = none ∨ ∃ g, p = some ⟨g, 0, none⟩ ∧ Blk w g 155 zcells.toArray
theorem ZHash.next {w w' : World} {p : Option Addr} (h : ZHash w p) (hb : Below w.heap.size w w') : ZHash w' p := by
 rcases h with h | ⟨g, hg, h⟩
 ·
  exact .inl h
 ·
  exact .inr ⟨g, hg, h.below hb h.lt⟩

theorem zero41 : ∀ w, (zeroValue 155).run Tryz.prog w = .ok (.agg #[.bool false, .int .u32 0, .int .u32 0, .int .u32 0, .int .u32 0, .int .u32 0, .int .u32 0, .int .u32 0, .int .u32 0, .int .u8 0, .int .u8 0, .int .u8 0, .int .u8 0, .int .u8 0, .int .u8 0, .int .u8 0, .int .u8 0, .int .u8 0, .int .u8 0, .int .u8 0, .int .u8 0, .int .u8 0, .int .u8 0, .int .u8 0, .int .u8 0, .int .u8 0, .int .u8 0, .int .u8 0, .int .u8 0, .int .u8 0, .int .u8 0, .int .u8 0, .int .u8 0, .int .u8 0, .int .u8 0, .int .u8 0, .int .u8 0, .int .u8 0, .int .u8 0, .int .u8 0, .int .u8 0, .int .u8 0, .int .u8 0, .int .u8 0, .int .u8 0, .int .u8 0, .int .u8 0, .int .u8 0, .int .u8 0, .int .u8 0, .int .u8 0, .int .u8 0, .int .u8 0, .int .u8 0, .int .u8 0, .int .u8 0, .int .u8 0, .int .u8 0, .int .u8 0, .int .u8 0, .int .u8 0, .int .u8 0, .int .u8 0, .int .u8 0, .int .u8 0, .int .u8 0, .int .u8 0, .int .u8 0, .int .u8 0, .int .u8 0, .int .u8 0, .int .u8 0, .int .u8 0, .int .i64 0]) w :=
 (zero_of_info (P := Tryz.prog) (n := 74) (by kernel_rfl)).1
set_option maxHeartbeats 4000000 in
set_option maxRecDepth 100000 in
theorem new_any (w : World) (hT : Tab w) : Calls Tryz.prog 85 #[] w fun e w' => e = .returned (.pointer (some ⟨w.heap.size, 0, none⟩)) ∧ HashIs w' w.heap.size [] ∧ Below w.heap.size w w' := by
 have c0 := hT.2.1 0 (by decide)
 have c1 := hT.2.1 1 (by decide)
 have c2 := hT.2.1 2 (by decide)
 have c3 := hT.2.1 3 (by decide)
 have c4 := hT.2.1 4 (by decide)
 have c5 := hT.2.1 5 (by decide)
 have c6 := hT.2.1 6 (by decide)
 have c7 := hT.2.1 7 (by decide)
 have hz := zero41
 clear hT
 go_enter Tryz.func85, Tryz.ntmps85
 go_wp2
 go_ret
 refine ⟨rfl, ⟨List.replicate 64 0, rfl, ?_, rfl⟩, (Below.refl _ w).alloc (Nat.le_refl _) _⟩
 exact Blk.new _ _ _
end Go.Proofs.YtpeneeddfgmjpaaGreatDoor.sha

namespace Go.Proofs.YtpeneeddfgmjpaaGreatDoor.sha
open Go.RowKit Go.Proofs.YtpeneeddfgmjpaaGreatDoor.mem

theorem info41 : (Tryz.prog.info? 155).map (·.size) = some 74 := by kernel_rfl
theorem HBlk.one {ws : W8} {bl : List UInt8} {n : Int} : ((Value.bool true :: (uv (wList ws) ++ (bv bl ++ [.int .i64 n]))).toArray).all (·.oneCell') = true := by
 rw [List.all_toArray]
 simp only [List.all_cons, List.all_append, List.all_nil, Bool.and_true]
 have h1 := one_uv (wList ws)
 have h2 := one_bv bl
 rw [List.all_toArray] at h1 h2
 rw [h1, h2]
 rfl
theorem hsize {ws : W8} {bl : List UInt8} {n : Int} (hbl : bl.length = 64) : ((Value.bool true :: (uv (wList ws) ++ (bv bl ++ [.int .i64 n]))).toArray).size = 74 := by
 have e8 : (uv (wList ws)).length = 8 := rfl
 simp only [List.size_toArray, List.length_cons, List.length_append, e8, bv_length, hbl, List.length_nil]

theorem ending_size (l : List UInt8) (hl : l.length ≤ 549755813888) : l.length + (⟨(ending l.length).toArray⟩ : ByteArray).size ≤ 1099511627776 := by
 have h : (⟨(ending l.length).toArray⟩ : ByteArray).size = (ending l.length).length := rfl
 rw [h, ← endAcc_end, endAcc_len _ _ (by omega)]
 have := pad_lt l.length
 omega
set_option maxHeartbeats 4000000 in
set_option maxRecDepth 100000 in
theorem hsum_any (g : Nat) (l : List UInt8) (w : World) (h : HashIs w g l) (hT : Tab w) (hl : l.length ≤ 549755813888) :
  Calls Tryz.prog 87 #[.pointer (some ⟨g, 0, none⟩)] w fun e w' => e = .returned (.agg (bv (digest l)).toArray) ∧ Below w.heap.size w w' := by
 have hne := neq_h
 have HZ := Lib.hid zero41
 obtain ⟨bl, hbl, hB, htk⟩ := h
 have hg : g < w.heap.size := Blk.lt hB
 obtain ⟨cs, hcs⟩ : ∃ cs, cs = (Value.bool true :: (uv (wList (fb l (l.length / 64))) ++ (bv bl ++ [.int .i64 (l.length : Int)]))).toArray := ⟨_, rfl⟩
 have hB1 : Blk w g 155 cs := by rw [hcs]; exact hB
 have c0 : w.cell? ⟨g, 0, none⟩ = some (.bool true) := hB.c0
 have hsz : cs.size = 74 := by rw [hcs]; exact hsize hbl
 have hone : cs.all (·.oneCell') = true := by rw [hcs]; exact HBlk.one
 obtain ⟨z1, hz1⟩ : ∃ z : Array Value, z = #[.int .u8 0, .int .u8 0, .int .u8 0, .int .u8 0, .int .u8 0, .int .u8 0, .int .u8 0, .int .u8 0, .int .u8 0, .int .u8 0, .int .u8 0, .int .u8 0, .int .u8 0, .int .u8 0, .int .u8 0, .int .u8 0, .int .u8 0, .int .u8 0, .int .u8 0, .int .u8 0, .int .u8 0, .int .u8 0, .int .u8 0, .int .u8 0, .int .u8 0, .int .u8 0, .int .u8 0, .int .u8 0, .int .u8 0, .int .u8 0, .int .u8 0, .int .u8 0] := ⟨_, rfl⟩
 obtain ⟨z2, hz2⟩ : ∃ z : Array Value, z = zcells.toArray := ⟨_, rfl⟩
 obtain ⟨w3, hw3⟩ : ∃ x, x = (((w.alloc (.cells z1 24)).alloc (.cells z2 155)).setRow (w.heap.size + 1) cs) := ⟨_, rfl⟩
 have hb3 : Below w.heap.size w w3 := by
  rw [hw3]
  exact below_setRow (((Below.refl _ _).alloc (Nat.le_refl _) _).alloc (by simp) _) (Nat.le_succ _) _
 have hr3 : Blk w3 w.heap.size 24 z1 := by
  rw [hw3]
  exact (setRow_other _ _ _ _ (Nat.ne_of_lt (Nat.lt_succ_self _))).trans ((Blk.new w _ z1).alloc _)
 have hh3 : HashIs w3 (w.heap.size + 1) l := by
  refine ⟨bl, hbl, ?_, htk⟩
  have := setRow_heap ((w.alloc (.cells z1 24)).alloc (.cells z2 155)) (w.heap.size + 1) z2 cs 155 (0, 0) (Blk.at_ (by simp) _ _)
  rw [← hw3, hcs] at this
  exact this
 have c73 : w3.cell? ⟨g, 73, none⟩ = some (.int .i64 l.length) := HBlk.len (Blk.below hB hb3 hg) hbl
 have HW3 := Lib.hid hw3
 have HB3 := Lib.hid hb3
 have HR3 := Lib.hid hr3
 have HH3 := Lib.hid hh3
 have HZ1 := Lib.hid hz1
 have HZ2 := Lib.hid hz2
 have n0 : (0 : Int) ≤ (l.length : Int) := Int.natCast_nonneg _
 clear hw3 hb3 hr3 hh3 hz1 hz2
 have HB1 := Lib.hid hB1
 have HSZ := Lib.hid hsz
 have HONE := Lib.hid hone
 have HBL := Lib.hid hbl
 have HTK := Lib.hid htk
 have HCS := Lib.hid hcs
 have HT := Lib.hid hT
 clear hbl hB htk hcs hB1 hsz hone hT
 go_enter Tryz.func87, Tryz.ntmps87
 go_upto_region 3 with fail
 refine wp_region_lit ?_
 refine step_move rfl rfl ?_
 refine step_nil (p := ⟨g, 0, none⟩) rfl rfl rfl ?_
 refine wpList_load_row rfl 155 (.tmp 15) rfl g rfl 155 cs (0, 0) _ (HB1.out.alloc _) Tryz.underlying155 rfl (by rw [info41, HSZ.out]) ?_
 refine step_alloc rfl rfl HZ.out ?_
 refine wpList_store_row rfl 155 (.tmp 3) (.tmp 16) rfl (w.heap.size + 1) cs (by simp [Act.put, Act.eval]) (by simp [Act.put, Act.eval]) 155 z2 ?hg (by rw [info41, HSZ.out]) (by rw [HZ2.out, HSZ.out]; rfl) HONE.out ?_
 case hg => rw [HZ2.out]; exact Blk.at_ (by simp) _ _
 refine wpl_at (w' := w3) (by rw [HW3.out, HZ1.out, HZ2.out]; rfl) ?_
 clear HZ HW3 HB1 HSZ HONE HZ2 HBL HTK HCS
 go_wp2_with (first
  | (go_at_call 110; refine (ending_any l.length (by omega) _).mono ?_; rintro e w4 ⟨rfl, hb4⟩)
  | (go_at_call 86; refine (take_any (w.heap.size + 1) l ⟨(ending l.length).toArray⟩ _ (HH3.out.next (by exact hb4)) (by exact ((HT.out.next HB3.out).next hb4)) (by have := HT.out.1; omega) (by exact ending_size l hl)).mono ?_; rintro e w5 ⟨rfl, hh5, ht5⟩))
 obtain ⟨bl6, hbl6, hB6, _⟩ := hh5
 have hr5 : Blk w5 w.heap.size 24 z1 := by
  refine (HR3.out.below hb4 HR3.out.lt).turn ht5 ?_
  rintro (h | h)
  ·
   exact absurd h (Nat.ne_of_lt (Nat.lt_succ_self _))
  ·
   exact absurd (Nat.le_trans hb4.size h) (Nat.not_le.2 HR3.out.lt)
 have hb5 : Below w.heap.size w w5 := by
  refine (HB3.out.trans (hb4.mono HB3.out.size)).trans (ht5.below ?_)
  rintro k (h | h)
  ·
   omega
  ·
   exact Nat.le_trans (Nat.le_trans HB3.out.size hb4.size) h
 clear ht5 hb4 c73 c0 hne
 have hid := id_any _ _ bl6 _ w5 hB6
 change Calls _ _ _ _ (fun e w' => e = .returned (.agg (bv (digest l)).toArray) ∧ Below w5.heap.size w5 w') at hid
 refine hid.mono ?_; rintro e w6 ⟨rfl, hb6⟩
 have HR6 := Lib.hid (hr5.below hb6 hr5.lt)
 have HB6 := Lib.hid (hb5.trans (hb6.mono hb5.size))
 clear hr5 hb5 hb6 hB6 hid
 go_wp2_with ((with_reducible refine wpList_store_row ?sg1 24 (.tmp 2) (.tmp 23) ?so1 w.heap.size (bv (digest l)).toArray ?sx1 ?sy1 24 z1 ?sb1 ?si1 ?sl1 ?sk1 ?sh1); (case sg1 => rfl); (case so1 => rfl); (case sx1 => rfl); (case sy1 => rfl); (case sb1 => exact HR6.out); (case si1 => rw [info24]; rfl); (case sl1 => rw [HZ1.out]; rfl); (case sk1 => exact one_bv _))
 (try simp only [Exit.inBlock, Exit.then])
 have hrow := setRow_heap w6 w.heap.size _ (bv (digest l)).toArray _ _ HR6.out
 refine bodyPost_ret (results_cell_row rfl _ _ w.heap.size 24 (bv (digest l)).toArray (0, 0) _ rfl hrow Tryz.underlying24 rfl (by rw [info24]; rfl)) rfl ⟨rfl, below_setRow HB6.out (Nat.le_refl _) _⟩
end Go.Proofs.YtpeneeddfgmjpaaGreatDoor.sha

namespace Go.Proofs.YtpeneeddfgmjpaaGreatDoor.sha
open Go.RowKit Go.Proofs.YtpeneeddfgmjpaaGreatDoor.mem

def z32 : List UInt8 := List.replicate 32 0

set_option maxHeartbeats 4000000 in
set_option maxRecDepth 100000 in
theorem sum_any (s : ByteArray) (w : World) (hT : Tab w) (hl : s.size ≤ 549755813888) :
  Calls Tryz.prog 55 #[.string s] w fun e w' => e = .returned (.agg (bv (digest s.data.toList)).toArray) ∧ Below w.heap.size w w' := by
 obtain ⟨w1, hw1⟩ : ∃ x, x = w.alloc (.cells (bv z32).toArray 24) := ⟨_, rfl⟩
 have hb1 : Below w.heap.size w w1 := by rw [hw1]; exact (Below.refl _ _).alloc (Nat.le_refl _) _
 have hr1 : Blk w1 w.heap.size 24 (bv z32).toArray := by rw [hw1]; exact Blk.new _ _ _
 have hT1 : Tab w1 := hT.next hb1
 have hs1 : w1.heap.size = w.heap.size + 1 := by rw [hw1]; simp
 have HW1 := Lib.hid hw1
 have HR1 := Lib.hid hr1
 have HB1 := Lib.hid hb1
 have HT1 := Lib.hid hT1
 have HT := Lib.hid hT
 have HS1 := Lib.hid hs1
 clear hw1 hr1 hb1 hT1 hT hs1
 go_enter Tryz.func55, Tryz.ntmps55
 go_upto_region 1 with fail
 refine wp_at HW1.out.symm ?_
 clear HW1
 go_wp2_with fail
 refine (new_any _ HT1.out).mono ?_; rintro e w2 ⟨rfl, hh2, hb2⟩
 have hb2' : Below w.heap.size w w2 := HB1.out.trans (hb2.mono HB1.out.size)
 have HT2 := Lib.hid (HT1.out.next hb2)
 have HR2 := Lib.hid (HR1.out.below hb2 HR1.out.lt)
 have HH2 := Lib.hid hh2
 have HB2 := Lib.hid hb2'
 clear hh2 hb2 hb2' HB1 HT1 HR1
 go_wp2_with fail
 refine (take_any _ [] s _ HH2.out HT2.out (by have := HT.out.1; have := HS1.out; omega) (by simp only [List.length_nil]; omega)).mono ?_; rintro e w3 ⟨rfl, hh3, ht3⟩
 have hk3 : ∀ k, (k = w1.heap.size ∨ w2.heap.size ≤ k) → w1.heap.size ≤ k := fun k hk => hk.elim (fun e => e ▸ Nat.le_refl _) (fun h => by have := hh3.lt; have := HH2.out.lt; omega)
 have hb3 : Below w.heap.size w w3 := HB2.out.trans (ht3.below fun k hk => by have := hk3 k hk; have := HS1.out; omega)
 have hT3 : Tab w3 := HT.out.next hb3
 have hr3 : Blk w3 w.heap.size 24 (bv z32).toArray := HR2.out.turn ht3 (fun hk => by have := hk3 _ hk; have := HS1.out; omega)
 have HB3 := Lib.hid hb3
 have HT3 := Lib.hid hT3
 have HR3 := Lib.hid hr3
 have HH3 : Hid (HashIs w3 w1.heap.size s.data.toList) := Lib.hid hh3
 clear hk3 hb3 hT3 hr3 hh3 ht3 HB2 HT2 HR2 HH2
 go_wp2_with fail
 refine (hsum_any _ s.data.toList _ HH3.out HT3.out (by rw [← Lib.size_eq]; exact hl)).mono ?_; rintro e w4 ⟨rfl, hb4⟩
 have HB4 := Lib.hid (HB3.out.trans (hb4.mono HB3.out.size))
 have HR4 := Lib.hid (HR3.out.below hb4 HR3.out.lt)
 clear hb4 HB3 HR3 HH3 HT3
 go_wp2_with ((with_reducible refine wpList_store_row ?sg1 24 (.tmp 2) (.tmp 9) ?so1 w.heap.size (bv (digest s.data.toList)).toArray ?sx1 ?sy1 24 (bv z32).toArray ?sb1 ?si1 ?sl1 ?sk1 ?sh1); (case sg1 => rfl); (case so1 => rfl); (case sx1 => rfl); (case sy1 => rfl); (case sb1 => exact HR4.out); (case si1 => rw [info24]; rfl); (case sl1 => rfl); (case sk1 => exact one_bv _))
 (try simp only [Exit.inBlock, Exit.then])
 have hrow := setRow_heap w4 w.heap.size _ (bv (digest s.data.toList)).toArray _ _ HR4.out
 refine bodyPost_ret (results_cell_row rfl _ _ w.heap.size 24 (bv (digest s.data.toList)).toArray (0, 0) _ rfl hrow Tryz.underlying24 rfl (by rw [info24]; rfl)) rfl ⟨rfl, below_setRow HB4.out (Nat.le_refl _) _⟩

set_option maxHeartbeats 4000000 in
set_option maxRecDepth 100000 in
theorem hsum_zero (p : Option Addr) (w : World) (h : ZHash w p) (hT : Tab w) :
  Calls Tryz.prog 87 #[.pointer p] w fun e w' => e = .returned (.agg (bv (digest [])).toArray) ∧ Below w.heap.size w w' := by
 obtain ⟨w1, hw1⟩ : ∃ x, x = w.alloc (.cells (bv z32).toArray 24) := ⟨_, rfl⟩
 have hb1 : Below w.heap.size w w1 := by rw [hw1]; exact (Below.refl _ _).alloc (Nat.le_refl _) _
 have HR1 : Hid (Blk w1 w.heap.size 24 (bv z32).toArray) := Lib.hid (by rw [hw1]; exact Blk.new _ _ _)
 have HT1 : Hid (Tab w1) := Lib.hid (hT.next hb1)
 have HZ1 : Hid (ZHash w1 p) := Lib.hid (h.next hb1)
 have HW1 := Lib.hid hw1
 have HB1 := Lib.hid hb1
 clear hw1 hb1 hT h
 have tail : ∀ w2, Below w1.heap.size w1 w2 → Below w.heap.size w (w2.setRow w.heap.size (bv (digest [])).toArray) := fun w2 h2 => below_setRow (HB1.out.trans (h2.mono HB1.out.size)) (Nat.le_refl _) _
 have HTL := Lib.hid tail
 clear tail
 rcases HZ1.out with rfl | ⟨g, rfl, hz⟩
 ·
  go_enter Tryz.func87, Tryz.ntmps87
  go_upto_region 1 with fail
  refine wp_at HW1.out.symm ?_
  clear HW1
  go_wp2_with fail
  refine (sum_any ⟨#[]⟩ _ HT1.out (by decide)).mono ?_; rintro e w2 ⟨rfl, hb2⟩
  have HR2 := Lib.hid (HR1.out.below hb2 HR1.out.lt)
  have HB2 := Lib.hid hb2
  clear hb2
  go_wp2_with ((with_reducible refine wpList_store_row ?sg1 24 (.tmp 2) (.tmp 13) ?so1 w.heap.size (bv (digest [])).toArray ?sx1 ?sy1 24 (bv z32).toArray ?sb1 ?si1 ?sl1 ?sk1 ?sh1); (case sg1 => rfl); (case so1 => rfl); (case sx1 => rfl); (case sy1 => rfl); (case sb1 => exact HR2.out); (case si1 => rw [info24]; rfl); (case sl1 => rfl); (case sk1 => exact one_bv _))
  (try simp only [Exit.inBlock, Exit.then])
  have hrow := setRow_heap w2 w.heap.size _ (bv (digest [])).toArray _ _ HR2.out
  refine bodyPost_ret (results_cell_row rfl _ _ w.heap.size 24 (bv (digest [])).toArray (0, 0) _ rfl hrow Tryz.underlying24 rfl (by rw [info24]; rfl)) rfl ⟨rfl, HTL.out _ HB2.out⟩
 ·
  have c0 : w1.cell? ⟨g, 0, none⟩ = some (.bool false) := hz.cell 0
  have hne := neq_h
  clear hz
  go_enter Tryz.func87, Tryz.ntmps87
  go_upto_region 1 with fail
  refine wp_at HW1.out.symm ?_
  clear HW1
  go_wp2_with fail
  refine (sum_any ⟨#[]⟩ _ HT1.out (by decide)).mono ?_; rintro e w2 ⟨rfl, hb2⟩
  have HR2 := Lib.hid (HR1.out.below hb2 HR1.out.lt)
  have HB2 := Lib.hid hb2
  clear hb2
  go_wp2_with ((with_reducible refine wpList_store_row ?sg2 24 (.tmp 2) (.tmp 13) ?so2 w.heap.size (bv (digest [])).toArray ?sx2 ?sy2 24 (bv z32).toArray ?sb2 ?si2 ?sl2 ?sk2 ?sh2); (case sg2 => rfl); (case so2 => rfl); (case sx2 => rfl); (case sy2 => rfl); (case sb2 => exact HR2.out); (case si2 => rw [info24]; rfl); (case sl2 => rfl); (case sk2 => exact one_bv _))
  (try simp only [Exit.inBlock, Exit.then])
  have hrow := setRow_heap w2 w.heap.size _ (bv (digest [])).toArray _ _ HR2.out
  refine bodyPost_ret (results_cell_row rfl _ _ w.heap.size 24 (bv (digest [])).toArray (0, 0) _ rfl hrow Tryz.underlying24 rfl (by rw [info24]; rfl)) rfl ⟨rfl, HTL.out _ HB2.out⟩
end Go.Proofs.YtpeneeddfgmjpaaGreatDoor.sha
