/-
  sha.turn: 64 rounds, and the words added.
  What the listed variables give the walks; and that the program's own start lays them.
-/
import Derived.Test.YtmaolmogccknbaaDoorSpr
import Derived.Test.YtmaolmogccknbaaDoorRot
namespace Go.Proofs.YtmaolmogccknbaaDoor.sha
open Go.RowKit Go.Proofs.YtmaolmogccknbaaDoor.mem

/-- the tables of the package, as the program's text lays them -/
def Tab (w : World) : Prop := 2 + 1 ≤ w.heap.size ∧ (∀ j, j < 8 → w.cell? ⟨1, j, none⟩ = some (.int .u32 (U (firstL.getD j 0)))) ∧ (∀ j, j < 64 → w.cell? ⟨2, j, none⟩ = some (.int .u32 (U (kk j))))
theorem Tab.below {B : Nat} {w w' : World} (h : Tab w) (hb : Below B w w') (hB : 2 + 1 ≤ B) : Tab w' :=
  ⟨Nat.le_trans h.1 hb.size, fun j hj => (hb.cell (p := ⟨1, j, none⟩) (Nat.lt_of_lt_of_le (show 1 < 2 + 1 by decide) hB)).trans (h.2.1 j hj), fun j hj => (hb.cell (p := ⟨2, j, none⟩) (Nat.lt_of_lt_of_le (show 2 < 2 + 1 by decide) hB)).trans (h.2.2 j hj)⟩
theorem Tab.next {w w' : World} (h : Tab w) (hb : Below w.heap.size w w') : Tab w' := h.below hb h.1
theorem Tab.drewN {w : World} (h : Tab w) (n : Nat) : Tab (w.drewN n) := h

/-- the words behind i additions -/
def accW (h x : W8) (i : Nat) : List UInt32 := (wList (addW h x)).take i ++ (wList h).drop i

/-- what the loops keep: words (as far as they are added), the block's words, the result's cell -/
def TurnIs (w : World) (S : Nat) (hs : List UInt32) (ws : List UInt32) : Prop :=
  Blk w S 120 (uv hs).toArray ∧ Blk w (S + 1) 131 (uv ws).toArray ∧ Blk w (S + 2) 120 (uv [0, 0, 0, 0, 0, 0, 0, 0]).toArray ∧ Tab w

theorem TurnIs.drewN {w : World} {S : Nat} {hs ws : List UInt32} (h : TurnIs w S hs ws) (n : Nat) : TurnIs (w.drewN n) S hs ws := h
theorem TurnIs.set_ {w : World} {S : Nat} {hs ws : List UInt32} (h : TurnIs w S hs ws) (hS : 2 + 1 ≤ S) (i : Nat) (x : UInt32) : TurnIs (w.setCell ⟨S, i, none⟩ (.int .u32 (U x))) S (hs.set i x) ws := by
  obtain ⟨hA, hB, hC, hT⟩ := h
  refine ⟨?_, hB.far (p := ⟨S, i, none⟩) (show S + 1 ≠ S by omega) _, hC.far (p := ⟨S, i, none⟩) (show S + 2 ≠ S by omega) _, hT.below ((Below.refl (2 + 1) w).setCell (p := ⟨S, i, none⟩) hS _) (Nat.le_refl _)⟩
  have := hA.set_ i (.int .u32 (U x))
  rw [List.setIfInBounds_toArray] at this
  unfold uv at this ⊢
  rw [List.map_set]
  exact this
theorem accW_end (h x : W8) : accW h x 8 = wList (addW h x) := rfl
theorem lt8 {i : Nat} (h : i < 8) : i = 0 ∨ i = 1 ∨ i = 2 ∨ i = 3 ∨ i = 4 ∨ i = 5 ∨ i = 6 ∨ i = 7 := by omega
theorem accW_len (h x : W8) (i : Nat) (hi : i < 8) : i < (accW h x i).length := by
  rcases lt8 hi with rfl | rfl | rfl | rfl | rfl | rfl | rfl | rfl <;> exact (Nat.lt_of_lt_of_le hi (Nat.le_refl 8) : _ < 8)
theorem accW_get (h x : W8) (i : Nat) (hi : i < 8) : (accW h x i).getD i 0 = (wList h).getD i 0 := by
  rcases lt8 hi with rfl | rfl | rfl | rfl | rfl | rfl | rfl | rfl <;> rfl
theorem accW_set (h x : W8) (i : Nat) (hi : i < 8) : (accW h x i).set i ((wList h).getD i 0 + (wList x).getD i 0) = accW h x (i + 1) := by
  rcases lt8 hi with rfl | rfl | rfl | rfl | rfl | rfl | rfl | rfl <;> rfl
/-- an element of an array of eight words that is a value -/
theorem run_index8 (cs : Array Value) (i : Nat) (v : Value) (hv : cs[i]? = some v) (hl : i < 8) (w : World) : (Instr.index 120 (.agg cs) (.int .i64 (i : Int))).run Tryd.prog w = .ok v w := by
  have hs : (Tryd.prog.info? 119).map (·.size) = some 1 := by kernel_rfl
  obtain ⟨y, hy⟩ : ∃ y, Tryd.prog.info? 119 = some y := by
    cases h : Tryd.prog.info? 119 with
    | none => rw [h] at hs; simp at hs
    | some y => exact ⟨y, rfl⟩
  have hy1 : y.size = 1 := by rw [hy] at hs; simpa using hs
  simp [Instr.index, asIntOf, run_underlying Tryd.underlying120, sizeOf, typeInfo, hy, hy1, part, hv]
  intro h8
  omega
theorem info38 : (Tryd.prog.info? 120).map (·.size) = some 8 := by kernel_rfl

set_option maxHeartbeats 4000000 in
set_option maxRecDepth 100000 in
theorem turn_any (h : W8) (ws : List UInt32) (hl : ws.length = 64) (w : World) (hT : Tab w) : Calls Tryd.prog 102 #[.agg (uv (wList h)).toArray, .agg (uv ws).toArray] w fun e w' =>
    e = .returned (.agg (uv (wList (turn h ws))).toArray) ∧ Below w.heap.size w w' := by
  obtain ⟨S, hS⟩ : ∃ g, g = w.heap.size := ⟨_, rfl⟩
  obtain ⟨w3, hw3⟩ : ∃ x, x = (((w.alloc (.cells (uv (wList h)).toArray 120)).alloc (.cells (uv ws).toArray 131)).alloc (.cells #[.int .u32 0, .int .u32 0, .int .u32 0, .int .u32 0, .int .u32 0, .int .u32 0, .int .u32 0, .int .u32 0] 120)) := ⟨_, rfl⟩
  have hB0 : Below S w w3 := by
    subst hS; subst hw3
    exact (((Below.refl _ _).alloc (Nat.le_refl _) _).alloc (by simp) _).alloc (by simp; omega) _
  have hS0 : TurnIs w3 S (wList h) ws := by
    refine ⟨?_, ?_, ?_, hT.below hB0 (hS ▸ hT.1)⟩
    · subst hS; subst hw3; exact ((Blk.new w _ _).alloc _).alloc _
    · subst hS; subst hw3; exact (Blk.at_ (by simp) _ _).alloc _
    · subst hS; subst hw3; exact Blk.at_ (by simp) _ _
  have c0 : w3.cell? ⟨w.heap.size, 0, none⟩ = some (.int .u32 (U h.a)) := hS ▸ hS0.1.cell 0
  have c1 : w3.cell? ⟨w.heap.size, 1, none⟩ = some (.int .u32 (U h.b)) := hS ▸ hS0.1.cell 1
  have c2 : w3.cell? ⟨w.heap.size, 2, none⟩ = some (.int .u32 (U h.c)) := hS ▸ hS0.1.cell 2
  have c3 : w3.cell? ⟨w.heap.size, 3, none⟩ = some (.int .u32 (U h.d)) := hS ▸ hS0.1.cell 3
  have c4 : w3.cell? ⟨w.heap.size, 4, none⟩ = some (.int .u32 (U h.e)) := hS ▸ hS0.1.cell 4
  have c5 : w3.cell? ⟨w.heap.size, 5, none⟩ = some (.int .u32 (U h.f)) := hS ▸ hS0.1.cell 5
  have c6 : w3.cell? ⟨w.heap.size, 6, none⟩ = some (.int .u32 (U h.g)) := hS ▸ hS0.1.cell 6
  have c7 : w3.cell? ⟨w.heap.size, 7, none⟩ = some (.int .u32 (U h.h)) := hS ▸ hS0.1.cell 7
  have HS := Lib.hid hS0
  have HB := Lib.hid hB0
  have HW := Lib.hid hw3
  have HT := Lib.hid hT
  clear hS0 hB0 hw3 hT
  go_enter Tryd.func102, Tryd.ntmps102
  go_wp2_with fail
  rw [show _ = w3 from HW.out.symm]
  clear HW
  go_quiet (fail)
  obtain ⟨w4, hw4⟩ : ∃ x, x = w3.drewN nq := ⟨_, rfl⟩
  rw [← hw4]
  have HS4 : Hid (TurnIs w4 w.heap.size (wList h) ws) := Lib.hid (by rw [hw4]; exact hS ▸ HS.out)
  have HB4 : Hid (Below w.heap.size w w4) := Lib.hid (by rw [hw4]; exact below_drewN (hS ▸ HB.out) _)
  clear c0 c1 c2 c3 c4 c5 c6 c7 HS HB hw4 hS
  go_wp2_with fail
  go_loopw [5, 6, 7, 8, 9, 10, 11, 12, 34] (fun a b c d e f g k v wr => ∃ (i : Nat) (r : W8), i ≤ 64 ∧ r = rn (fun i => ws.getD i 0) h i ∧ a = .int .u32 (U r.a) ∧ b = .int .u32 (U r.b) ∧ c = .int .u32 (U r.c) ∧ d = .int .u32 (U r.d) ∧ e = .int .u32 (U r.e) ∧ f = .int .u32 (U r.f) ∧ g = .int .u32 (U r.g) ∧ k = .int .u32 (U r.h) ∧ v = .int .i64 i ∧ TurnIs wr w.heap.size (wList h) ws ∧ Below w.heap.size w wr) (fun _ _ _ _ _ _ _ _ v _ => 64 - (intOf v).toNat)
  case atStart => exact ⟨0, h, by omega, rfl, rfl, rfl, rfl, rfl, rfl, rfl, rfl, rfl, rfl, HS4.out, HB4.out⟩
  case round =>
    clear HS4 HB4
    obtain ⟨i, r, hi, hr, rfl, rfl, rfl, rfl, rfl, rfl, rfl, rfl, rfl, hS, hB⟩ := hrel
    have HR := Lib.hid hr
    have HS := Lib.hid hS
    have HB := Lib.hid hB
    clear hr hB
    by_cases hlt : i < 64
    · have hlt' : (i : Int) < 64 := by omega
      have i0 : (0 : Int) ≤ (i : Int) := by omega
      obtain ⟨y, hy⟩ : ∃ y, y = ws.getD i 0 := ⟨_, rfl⟩
      obtain ⟨z, hz⟩ : ∃ z, z = kk i := ⟨_, rfl⟩
      have c0 : wr.cell? ⟨w.heap.size + 1, i, none⟩ = some (.int .u32 (U y)) := by rw [hS.2.1.cell, List.getElem?_toArray, hy]; exact uv_get _ _ (by omega)
      have c1 : wr.cell? ⟨2, i, none⟩ = some (.int .u32 (U z)) := by rw [hz]; exact hS.2.2.2.2.2 i hlt
      have HY := Lib.hid hy
      have HZ := Lib.hid hz
      clear hy hz hS
      have hx := U_xor
      have hd := U_and
      have ha := U_add
      have ho : ∀ a : UInt32, bits BinOp.xor IntKind.u32 (if IntKind.u32.signed = true then -1 else IntKind.u32.max) (U a) = U (~~~a) := U_not
      have hn := U_nonneg
      go_wp2_with fail
      go_quiet ((go_at_call 112; exact quiet_left (rotr_any _ _ _ (by decide))))
      obtain ⟨wq, hwq⟩ : ∃ x, x = wr.drewN nq := ⟨_, rfl⟩
      rw [← hwq]
      have SQ : Hid (TurnIs wq w.heap.size (wList h) ws) := Lib.hid (by rw [hwq]; exact HS.out)
      have BQ : Hid (Below w.heap.size w wq) := Lib.hid (by rw [hwq]; exact below_drewN HB.out _)
      clear HS HB hwq c0 c1
      go_wp2_with (go_at_call 112; refine (rotr_any _ _ _ (by decide)).mono ?_; rintro e w' ⟨rfl, rfl⟩)
      go_roundw
      case rel =>
        refine ⟨i + 1, rnd r z y, by omega, ?_, rfl, rfl, rfl, rfl, rfl, rfl, rfl, rfl, by push_cast; rfl, SQ.out, BQ.out⟩
        rw [HR.out, HZ.out, HY.out]; rfl
      case measure => simp [intOf]; omega
    · obtain rfl : i = 64 := by omega
      have h2 : 2 + 1 ≤ w.heap.size := HT.out.1
      have H2 := Lib.hid h2
      clear hS h2
      have ha := U_add
      have hn := U_nonneg
      go_wp2_with fail
      go_loopw [106] (fun v wr => ∃ i : Nat, i ≤ 8 ∧ v = .int .i64 i ∧ TurnIs wr w.heap.size (accW h r i) ws ∧ Below w.heap.size w wr) (fun v _ => 8 - (intOf v).toNat)
      case atStart => exact ⟨0, by omega, rfl, HS.out, HB.out⟩
      case round =>
        clear HS HB
        obtain ⟨i, hi, rfl, hS, hB⟩ := hrel
        have HS := Lib.hid hS
        have HB := Lib.hid hB
        by_cases hlt : i < 8
        · have fr := hS.1.frozen i
          have hci := hS.1.cell i
          rw [List.getElem?_toArray, uv_get _ _ (accW_len h r i hlt), accW_get h r i hlt] at hci
          have hvi : (uv (wList r)).toArray[i]? = some (Value.int .u32 (U ((wList r).getD i 0))) := by rw [List.getElem?_toArray]; exact uv_get _ _ hlt
          have hix := fun u : World => run_index8 #[.int .u32 (U r.a), .int .u32 (U r.b), .int .u32 (U r.c), .int .u32 (U r.d), .int .u32 (U r.e), .int .u32 (U r.f), .int .u32 (U r.g), .int .u32 (U r.h)] i _ hvi hlt u
          obtain ⟨y, hy⟩ : ∃ y, y = (wList h).getD i 0 := ⟨_, rfl⟩
          obtain ⟨z, hz⟩ : ∃ z, z = (wList r).getD i 0 := ⟨_, rfl⟩
          rw [← hy] at hci
          rw [← hz] at hix
          have HX : Hid ((accW h r i).set i (y + z) = accW h r (i + 1)) := Lib.hid (by rw [hy, hz]; exact accW_set h r i hlt)
          clear hS hB hvi hy hz
          have hlt' : (i : Int) < 8 := by omega
          have i0 : (0 : Int) ≤ (i : Int) := by omega
          go_wp2_with fail
          go_roundw
          case rel => exact ⟨i + 1, by omega, by push_cast; rfl, HX.out ▸ HS.out.set_ H2.out _ _, HB.out.setCell (Nat.le_refl _) _⟩
          case measure => simp [intOf]; omega
        · obtain rfl : i = 8 := by omega
          clear hS hB hlt
          obtain ⟨HA, _, HC, _⟩ := HS.out
          have HA' := Lib.hid HA
          have HC' := Lib.hid HC
          clear HA HC
          go_upto_region 14 with fail
          refine wp_region_lit ?_
          refine wpList_load_row rfl 120 (.tmp 2) rfl w.heap.size rfl 120 _ (0, 0) _ HA'.out Tryd.underlying120 rfl (by rw [info38]; rfl) ?_
          refine wpList_store_row rfl 120 (.tmp 4) (.tmp 117) rfl (w.heap.size + 1 + 1) (uv (accW h r 8)).toArray rfl (by simp [Act.put, Act.eval]) 120 _ HC'.out (by rw [info38]; rfl) rfl ?_ ?_
          · exact one_uv _
          go_wp2_with fail
          (try simp only [Exit.inBlock, Exit.then])
          have hrow := setRow_heap wr (w.heap.size + 1 + 1) _ (uv (accW h r 8)).toArray _ _ HC'.out
          refine bodyPost_ret (results_cell_row rfl _ _ (w.heap.size + 1 + 1) 120 (uv (accW h r 8)).toArray (0, 0) _ rfl hrow Tryd.underlying120 rfl (by rw [info38]; rfl)) rfl ⟨?_, ?_⟩
          · rw [accW_end, HR.out]; rfl
          · exact below_setRow HB.out (Nat.le_add_right _ 2) _
end Go.Proofs.YtmaolmogccknbaaDoor.sha

namespace Go.Proofs.YtmaolmogccknbaaDoor.kit
open Go.ChangeShapes Go.WideShapes Go.ChangeAt Go.RowKit Go.Proofs.YtmaolmogccknbaaDoor.sha

def listed : List (String × DataW Unit) := [("petrel/sha.first", Rows.laid_petrel_sha_first), ("petrel/sha.k", Rows.laid_petrel_sha_k)]
theorem gFirst : Tryd.prog.globalNamed "petrel/sha.first" = some 1 := by kernel_rfl
theorem gK : Tryd.prog.globalNamed "petrel/sha.k" = some 2 := by kernel_rfl
theorem tFirst : (Tryd.prog.globals[1]?).map (·.type) = some 120 := by kernel_rfl
theorem tK : (Tryd.prog.globals[2]?).map (·.type) = some 131 := by kernel_rfl

theorem door_met (os : Os) (args : Array Value) : laidMetH Tryd.prog listed ((World.doorLaid Tryd.prog 400 os).forCall (fun _ _ => 0) ⟨#[], args, []⟩).memory :=
  laidMetH_of_parts3 (fuel := 8) (laidMet_of_run' 8 (by kernel_rfl) (by kernel_rfl)) (by kernel_rfl) (by kernel_rfl)

theorem tab_of_laid {W : World} (h : laidMetH Tryd.prog listed W) : Tab W := by
  rw [MakeChecks.laidMetH_plain _ _ _ (by kernel_rfl)] at h
  obtain ⟨ps, ⟨g0, t0, cs0, f0, p0, q0, hg0, ht0, hv0, hd0, ⟨g1, t1, cs1, f1, p1, q1, hg1, ht1, hv1, hd1, _, _⟩, _⟩, _, _⟩ := h
  obtain rfl := Option.some.inj (gFirst.symm.trans hg0)
  obtain rfl := Option.some.inj (gK.symm.trans hg1)
  obtain rfl := Option.some.inj (tFirst.symm.trans ht0)
  obtain rfl := Option.some.inj (tK.symm.trans ht1)
  have k0 := words_of_trod firstL Tryd.underlying120 _ hd0
  have k1 := words_of_trod kL Tryd.underlying131 _ hd1
  have c0 : ∀ j, j < 8 → W.cell? ⟨1, j, none⟩ = some (.int .u32 (U (firstL.getD j 0))) := fun j hj => by
    rw [World.var?_cell hg0 hv0 j, ← k0 j hj rfl]
    simp
  have c1 : ∀ j, j < 64 → W.cell? ⟨2, j, none⟩ = some (.int .u32 (U (kk j))) := fun j hj => by
    rw [World.var?_cell hg1 hv1 j]
    have := k1 j hj rfl
    unfold kk
    rw [← this]
    simp
  exact ⟨block_lt_of_cell (c1 0 (by decide)), c0, c1⟩
end Go.Proofs.YtmaolmogccknbaaDoor.kit
