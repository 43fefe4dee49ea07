/-
  Sum of a text; (*Hash).Sum of one that nobody made.
-/
import Derived.Test.YtjpbhnflhejbpaaDoorSumb
namespace Go.Proofs.YtjpbhnflhejbpaaDoor.sha
open Go.RowKit Go.Proofs.YtjpbhnflhejbpaaDoor.mem

def z32 : List UInt8 := List.replicate 32 0

set_option maxHeartbeats 4000000 in
set_option maxRecDepth 100000 in
theorem sum_any (s : ByteArray) (w : World) (hT : Tab w) (hl : s.size ≤ 549755813888) :
    Calls Tryd.prog 8 #[.string s] w fun e w' => e = .returned (.agg (bv (digest s.data.toList)).toArray) ∧ Below w.heap.size w w' := by
  obtain ⟨w1, hw1⟩ : ∃ x, x = w.alloc (.cells (bv z32).toArray 24) := ⟨_, rfl⟩
  have hb1 : Below w.heap.size w w1 := by rw [hw1]; exact (Below.refl _ _).alloc (Nat.le_refl _) _
  have hr1 : Blk w1 w.heap.size 24 (bv z32).toArray := by rw [hw1]; exact Blk.new _ _ _
  have hT1 : Tab w1 := hT.next hb1
  have hs1 : w1.heap.size = w.heap.size + 1 := by rw [hw1]; simp
  have HW1 := Lib.hid hw1
  have HR1 := Lib.hid hr1
  have HB1 := Lib.hid hb1
  have HT1 := Lib.hid hT1
  have HT := Lib.hid hT
  have HS1 := Lib.hid hs1
  clear hw1 hr1 hb1 hT1 hT hs1
  go_enter Tryd.func8, Tryd.ntmps8
  go_upto_region 1 with fail
  refine wp_at HW1.out.symm ?_
  clear HW1
  go_wp2_with fail
  refine (new_any _ HT1.out).mono ?_; rintro e w2 ⟨rfl, hh2, hb2⟩
  have hb2' : Below w.heap.size w w2 := HB1.out.trans (hb2.mono HB1.out.size)
  have HT2 := Lib.hid (HT1.out.next hb2)
  have HR2 := Lib.hid (HR1.out.below hb2 HR1.out.lt)
  have HH2 := Lib.hid hh2
  have HB2 := Lib.hid hb2'
  clear hh2 hb2 hb2' HB1 HT1 HR1
  go_wp2_with fail
  refine (take_any _ [] s _ HH2.out HT2.out (by have := HT.out.1; have := HS1.out; omega) (by simp only [List.length_nil]; omega)).mono ?_; rintro e w3 ⟨rfl, hh3, ht3⟩
  have hk3 : ∀ k, (k = w1.heap.size ∨ w2.heap.size ≤ k) → w1.heap.size ≤ k := fun k hk => hk.elim (fun e => e ▸ Nat.le_refl _) (fun h => by have := hh3.lt; have := HH2.out.lt; omega)
  have hb3 : Below w.heap.size w w3 := HB2.out.trans (ht3.below fun k hk => by have := hk3 k hk; have := HS1.out; omega)
  have hT3 : Tab w3 := HT.out.next hb3
  have hr3 : Blk w3 w.heap.size 24 (bv z32).toArray := HR2.out.turn ht3 (fun hk => by have := hk3 _ hk; have := HS1.out; omega)
  have HB3 := Lib.hid hb3
  have HT3 := Lib.hid hT3
  have HR3 := Lib.hid hr3
  have HH3 : Hid (HashIs w3 w1.heap.size s.data.toList) := Lib.hid hh3
  clear hk3 hb3 hT3 hr3 hh3 ht3 HB2 HT2 HR2 HH2
  go_wp2_with fail
  refine (hsum_any _ s.data.toList _ HH3.out HT3.out (by rw [← Lib.size_eq]; exact hl)).mono ?_; rintro e w4 ⟨rfl, hb4⟩
  have HB4 := Lib.hid (HB3.out.trans (hb4.mono HB3.out.size))
  have HR4 := Lib.hid (HR3.out.below hb4 HR3.out.lt)
  clear hb4 HB3 HR3 HH3 HT3
  go_wp2_with ((with_reducible refine wpList_store_row ?sg1 24 (.tmp 2) (.tmp 9) ?so1 w.heap.size (bv (digest s.data.toList)).toArray ?sx1 ?sy1 24 (bv z32).toArray ?sb1 ?si1 ?sl1 ?sk1 ?sh1); (case sg1 => rfl); (case so1 => rfl); (case sx1 => rfl); (case sy1 => rfl); (case sb1 => exact HR4.out); (case si1 => rw [info24]; rfl); (case sl1 => rfl); (case sk1 => exact one_bv _))
  (try simp only [Exit.inBlock, Exit.then])
  have hrow := setRow_heap w4 w.heap.size _ (bv (digest s.data.toList)).toArray _ _ HR4.out
  refine bodyPost_ret (results_cell_row rfl _ _ w.heap.size 24 (bv (digest s.data.toList)).toArray (0, 0) _ rfl hrow Tryd.underlying24 rfl (by rw [info24]; rfl)) rfl ⟨rfl, below_setRow HB4.out (Nat.le_refl _) _⟩

set_option maxHeartbeats 4000000 in
set_option maxRecDepth 100000 in
theorem hsum_zero (p : Option Addr) (w : World) (h : ZHash w p) (hT : Tab w) :
    Calls Tryd.prog 13 #[.pointer p] w fun e w' => e = .returned (.agg (bv (digest [])).toArray) ∧ Below w.heap.size w w' := by
  obtain ⟨w1, hw1⟩ : ∃ x, x = w.alloc (.cells (bv z32).toArray 24) := ⟨_, rfl⟩
  have hb1 : Below w.heap.size w w1 := by rw [hw1]; exact (Below.refl _ _).alloc (Nat.le_refl _) _
  have HR1 : Hid (Blk w1 w.heap.size 24 (bv z32).toArray) := Lib.hid (by rw [hw1]; exact Blk.new _ _ _)
  have HT1 : Hid (Tab w1) := Lib.hid (hT.next hb1)
  have HZ1 : Hid (ZHash w1 p) := Lib.hid (h.next hb1)
  have HW1 := Lib.hid hw1
  have HB1 := Lib.hid hb1
  clear hw1 hb1 hT h
  have tail : ∀ w2, Below w1.heap.size w1 w2 → Below w.heap.size w (w2.setRow w.heap.size (bv (digest [])).toArray) := fun w2 h2 => below_setRow (HB1.out.trans (h2.mono HB1.out.size)) (Nat.le_refl _) _
  have HTL := Lib.hid tail
  clear tail
  rcases HZ1.out with rfl | ⟨g, rfl, hz⟩
  · go_enter Tryd.func13, Tryd.ntmps13
    go_upto_region 1 with fail
    refine wp_at HW1.out.symm ?_
    clear HW1
    go_wp2_with fail
    refine (sum_any ⟨#[]⟩ _ HT1.out (by decide)).mono ?_; rintro e w2 ⟨rfl, hb2⟩
    have HR2 := Lib.hid (HR1.out.below hb2 HR1.out.lt)
    have HB2 := Lib.hid hb2
    clear hb2
    go_wp2_with ((with_reducible refine wpList_store_row ?sg1 24 (.tmp 2) (.tmp 13) ?so1 w.heap.size (bv (digest [])).toArray ?sx1 ?sy1 24 (bv z32).toArray ?sb1 ?si1 ?sl1 ?sk1 ?sh1); (case sg1 => rfl); (case so1 => rfl); (case sx1 => rfl); (case sy1 => rfl); (case sb1 => exact HR2.out); (case si1 => rw [info24]; rfl); (case sl1 => rfl); (case sk1 => exact one_bv _))
    (try simp only [Exit.inBlock, Exit.then])
    have hrow := setRow_heap w2 w.heap.size _ (bv (digest [])).toArray _ _ HR2.out
    refine bodyPost_ret (results_cell_row rfl _ _ w.heap.size 24 (bv (digest [])).toArray (0, 0) _ rfl hrow Tryd.underlying24 rfl (by rw [info24]; rfl)) rfl ⟨rfl, HTL.out _ HB2.out⟩
  · have c0 : w1.cell? ⟨g, 0, none⟩ = some (.bool false) := hz.cell 0
    have hne := neq_h
    clear hz
    go_enter Tryd.func13, Tryd.ntmps13
    go_upto_region 1 with fail
    refine wp_at HW1.out.symm ?_
    clear HW1
    go_wp2_with fail
    refine (sum_any ⟨#[]⟩ _ HT1.out (by decide)).mono ?_; rintro e w2 ⟨rfl, hb2⟩
    have HR2 := Lib.hid (HR1.out.below hb2 HR1.out.lt)
    have HB2 := Lib.hid hb2
    clear hb2
    go_wp2_with ((with_reducible refine wpList_store_row ?sg2 24 (.tmp 2) (.tmp 13) ?so2 w.heap.size (bv (digest [])).toArray ?sx2 ?sy2 24 (bv z32).toArray ?sb2 ?si2 ?sl2 ?sk2 ?sh2); (case sg2 => rfl); (case so2 => rfl); (case sx2 => rfl); (case sy2 => rfl); (case sb2 => exact HR2.out); (case si2 => rw [info24]; rfl); (case sl2 => rfl); (case sk2 => exact one_bv _))
    (try simp only [Exit.inBlock, Exit.then])
    have hrow := setRow_heap w2 w.heap.size _ (bv (digest [])).toArray _ _ HR2.out
    refine bodyPost_ret (results_cell_row rfl _ _ w.heap.size 24 (bv (digest [])).toArray (0, 0) _ rfl hrow Tryd.underlying24 rfl (by rw [info24]; rfl)) rfl ⟨rfl, HTL.out _ HB2.out⟩
end Go.Proofs.YtjpbhnflhejbpaaDoor.sha
