/-
  (*Hash).Sum of a Hash that New made, and Sum.
-/
import Derived.Test.YtjpbhnflhejbpaaDoorSum
import Derived.Test.YtjpbhnflhejbpaaDoorStep
namespace Go.Proofs.YtjpbhnflhejbpaaDoor.sha
open Go.RowKit Go.Proofs.YtjpbhnflhejbpaaDoor.mem

theorem info41 : (Tryd.prog.info? 41).map (·.size) = some 74 := by kernel_rfl
theorem HBlk.one {ws : W8} {bl : List UInt8} {n : Int} : ((Value.bool true :: (uv (wList ws) ++ (bv bl ++ [.int .i64 n]))).toArray).all (·.oneCell') = true := by
  rw [List.all_toArray]
  simp only [List.all_cons, List.all_append, List.all_nil, Bool.and_true]
  have h1 := one_uv (wList ws)
  have h2 := one_bv bl
  rw [List.all_toArray] at h1 h2
  rw [h1, h2]
  rfl
theorem hsize {ws : W8} {bl : List UInt8} {n : Int} (hbl : bl.length = 64) : ((Value.bool true :: (uv (wList ws) ++ (bv bl ++ [.int .i64 n]))).toArray).size = 74 := by
  have e8 : (uv (wList ws)).length = 8 := rfl
  simp only [List.size_toArray, List.length_cons, List.length_append, e8, bv_length, hbl, List.length_nil]

theorem ending_size (l : List UInt8) (hl : l.length ≤ 549755813888) : l.length + (⟨(ending l.length).toArray⟩ : ByteArray).size ≤ 1099511627776 := by
  have h : (⟨(ending l.length).toArray⟩ : ByteArray).size = (ending l.length).length := rfl
  rw [h, ← endAcc_end, endAcc_len _ _ (by omega)]
  have := pad_lt l.length
  omega
set_option maxHeartbeats 4000000 in
set_option maxRecDepth 100000 in
theorem hsum_any (g : Nat) (l : List UInt8) (w : World) (h : HashIs w g l) (hT : Tab w) (hl : l.length ≤ 549755813888) :
    Calls Tryd.prog 13 #[.pointer (some ⟨g, 0, none⟩)] w fun e w' => e = .returned (.agg (bv (digest l)).toArray) ∧ Below w.heap.size w w' := by
  have hne := neq_h
  have HZ := Lib.hid zero41
  obtain ⟨bl, hbl, hB, htk⟩ := h
  have hg : g < w.heap.size := Blk.lt hB
  obtain ⟨cs, hcs⟩ : ∃ cs, cs = (Value.bool true :: (uv (wList (fb l (l.length / 64))) ++ (bv bl ++ [.int .i64 (l.length : Int)]))).toArray := ⟨_, rfl⟩
  have hB1 : Blk w g 41 cs := by rw [hcs]; exact hB
  have c0 : w.cell? ⟨g, 0, none⟩ = some (.bool true) := hB.c0
  have hsz : cs.size = 74 := by rw [hcs]; exact hsize hbl
  have hone : cs.all (·.oneCell') = true := by rw [hcs]; exact HBlk.one
  obtain ⟨z1, hz1⟩ : ∃ z : Array Value, z = #[.int .u8 0, .int .u8 0, .int .u8 0, .int .u8 0, .int .u8 0, .int .u8 0, .int .u8 0, .int .u8 0, .int .u8 0, .int .u8 0, .int .u8 0, .int .u8 0, .int .u8 0, .int .u8 0, .int .u8 0, .int .u8 0, .int .u8 0, .int .u8 0, .int .u8 0, .int .u8 0, .int .u8 0, .int .u8 0, .int .u8 0, .int .u8 0, .int .u8 0, .int .u8 0, .int .u8 0, .int .u8 0, .int .u8 0, .int .u8 0, .int .u8 0, .int .u8 0] := ⟨_, rfl⟩
  obtain ⟨z2, hz2⟩ : ∃ z : Array Value, z = zcells.toArray := ⟨_, rfl⟩
  obtain ⟨w3, hw3⟩ : ∃ x, x = (((w.alloc (.cells z1 24)).alloc (.cells z2 41)).setRow (w.heap.size + 1) cs) := ⟨_, rfl⟩
  have hb3 : Below w.heap.size w w3 := by
    rw [hw3]
    exact below_setRow (((Below.refl _ _).alloc (Nat.le_refl _) _).alloc (by simp) _) (Nat.le_succ _) _
  have hr3 : Blk w3 w.heap.size 24 z1 := by
    rw [hw3]
    exact (setRow_other _ _ _ _ (Nat.ne_of_lt (Nat.lt_succ_self _))).trans ((Blk.new w _ z1).alloc _)
  have hh3 : HashIs w3 (w.heap.size + 1) l := by
    refine ⟨bl, hbl, ?_, htk⟩
    have := setRow_heap ((w.alloc (.cells z1 24)).alloc (.cells z2 41)) (w.heap.size + 1) z2 cs 41 (0, 0) (Blk.at_ (by simp) _ _)
    rw [← hw3, hcs] at this
    exact this
  have c73 : w3.cell? ⟨g, 73, none⟩ = some (.int .i64 l.length) := HBlk.len (Blk.below hB hb3 hg) hbl
  have HW3 := Lib.hid hw3
  have HB3 := Lib.hid hb3
  have HR3 := Lib.hid hr3
  have HH3 := Lib.hid hh3
  have HZ1 := Lib.hid hz1
  have HZ2 := Lib.hid hz2
  have n0 : (0 : Int) ≤ (l.length : Int) := Int.natCast_nonneg _
  clear hw3 hb3 hr3 hh3 hz1 hz2
  have HB1 := Lib.hid hB1
  have HSZ := Lib.hid hsz
  have HONE := Lib.hid hone
  have HBL := Lib.hid hbl
  have HTK := Lib.hid htk
  have HCS := Lib.hid hcs
  have HT := Lib.hid hT
  clear hbl hB htk hcs hB1 hsz hone hT
  go_enter Tryd.func13, Tryd.ntmps13
  go_upto_region 3 with fail
  refine wp_region_lit ?_
  refine step_move rfl rfl ?_
  refine step_nil (p := ⟨g, 0, none⟩) rfl rfl rfl ?_
  refine wpList_load_row rfl 41 (.tmp 15) rfl g rfl 41 cs (0, 0) _ (HB1.out.alloc _) Tryd.underlying41 rfl (by rw [info41, HSZ.out]) ?_
  refine step_alloc rfl rfl HZ.out ?_
  refine wpList_store_row rfl 41 (.tmp 3) (.tmp 16) rfl (w.heap.size + 1) cs (by simp [Act.put, Act.eval]) (by simp [Act.put, Act.eval]) 41 z2 ?hg (by rw [info41, HSZ.out]) (by rw [HZ2.out, HSZ.out]; rfl) HONE.out ?_
  case hg => rw [HZ2.out]; exact Blk.at_ (by simp) _ _
  refine wpl_at (w' := w3) (by rw [HW3.out, HZ1.out, HZ2.out]; rfl) ?_
  clear HZ HW3 HB1 HSZ HONE HZ2 HBL HTK HCS
  go_wp2_with (first
    | (go_at_call 18; refine (ending_any l.length (by omega) _).mono ?_; rintro e w4 ⟨rfl, hb4⟩)
    | (go_at_call 14; refine (take_any (w.heap.size + 1) l ⟨(ending l.length).toArray⟩ _ (HH3.out.next (by exact hb4)) (by exact ((HT.out.next HB3.out).next hb4)) (by have := HT.out.1; omega) (by exact ending_size l hl)).mono ?_; rintro e w5 ⟨rfl, hh5, ht5⟩))
  obtain ⟨bl6, hbl6, hB6, _⟩ := hh5
  have hr5 : Blk w5 w.heap.size 24 z1 := by
    refine (HR3.out.below hb4 HR3.out.lt).turn ht5 ?_
    rintro (h | h)
    · exact absurd h (Nat.ne_of_lt (Nat.lt_succ_self _))
    · exact absurd (Nat.le_trans hb4.size h) (Nat.not_le.2 HR3.out.lt)
  have hb5 : Below w.heap.size w w5 := by
    refine (HB3.out.trans (hb4.mono HB3.out.size)).trans (ht5.below ?_)
    rintro k (h | h)
    · omega
    · exact Nat.le_trans (Nat.le_trans HB3.out.size hb4.size) h
  clear ht5 hb4 c73 c0 hne
  have hid := id_any _ _ bl6 _ w5 hB6
  change Calls _ _ _ _ (fun e w' => e = .returned (.agg (bv (digest l)).toArray) ∧ Below w5.heap.size w5 w') at hid
  refine hid.mono ?_; rintro e w6 ⟨rfl, hb6⟩
  have HR6 := Lib.hid (hr5.below hb6 hr5.lt)
  have HB6 := Lib.hid (hb5.trans (hb6.mono hb5.size))
  clear hr5 hb5 hb6 hB6 hid
  go_wp2_with ((with_reducible refine wpList_store_row ?sg1 24 (.tmp 2) (.tmp 23) ?so1 w.heap.size (bv (digest l)).toArray ?sx1 ?sy1 24 z1 ?sb1 ?si1 ?sl1 ?sk1 ?sh1); (case sg1 => rfl); (case so1 => rfl); (case sx1 => rfl); (case sy1 => rfl); (case sb1 => exact HR6.out); (case si1 => rw [info24]; rfl); (case sl1 => rw [HZ1.out]; rfl); (case sk1 => exact one_bv _))
  (try simp only [Exit.inBlock, Exit.then])
  have hrow := setRow_heap w6 w.heap.size _ (bv (digest l)).toArray _ _ HR6.out
  refine bodyPost_ret (results_cell_row rfl _ _ w.heap.size 24 (bv (digest l)).toArray (0, 0) _ rfl hrow Tryd.underlying24 rfl (by rw [info24]; rfl)) rfl ⟨rfl, below_setRow HB6.out (Nat.le_refl _) _⟩
end Go.Proofs.YtjpbhnflhejbpaaDoor.sha
