/-
  The landed msg: has, checkBody.
-/
import Derived.Test.YtbfjljbllfjicaaOpenms
import Derived.Deep.CutRange
import Derived.Deep.CutBlock
namespace Go.Proofs.Ytbfjljbllfjicaa.msg
open Go.RowKit Go.Proofs.Ytbfjljbllfjicaa.mem Go.Proofs.Ytbfjljbllfjicaa.sha Go.Proofs.Ytbfjljbllfjicaa.ids
open Go.Proofs.Ytbfjljbllfjicaa.opn (b1 b2 b4 num txt idl byte rd rdN rdT rdI rdS rdL St Reads Stays endE zid mkId)

theorem has_any (k : Int) (w : World) : Calls Try.prog 20 #[.int .i64 k] w fun e w' => e = .returned (.int .i64 (kindM k)) ∧ w = w' := by
  by_cases h0 : 1 ≤ k ∧ k ≤ 8
  · rcases (show k = 1 ∨ k = 2 ∨ k = 3 ∨ k = 4 ∨ k = 5 ∨ k = 6 ∨ k = 7 ∨ k = 8 by omega) with rfl | rfl | rfl | rfl | rfl | rfl | rfl | rfl
    all_goals
      go_enter Try.func20, Try.ntmps20
      go_wp2
      go_ret
      exact ⟨rfl, rfl⟩
  have b1 : (k == 1) = false := by simp; omega
  have b2 : (k == 2) = false := by simp; omega
  have b3 : (k == 3) = false := by simp; omega
  have b4 : (k == 4) = false := by simp; omega
  have b5 : (k == 5) = false := by simp; omega
  have b6 : (k == 6) = false := by simp; omega
  have b7 : (k == 7) = false := by simp; omega
  have b8 : (k == 8) = false := by simp; omega
  have HE : Hid (kindM k = 0) := Lib.hid (by rcases kindM_cases k with ⟨a, b⟩ | ⟨a, b⟩ | ⟨a, b⟩; omega; omega; exact a)
  clear h0
  go_enter Try.func20, Try.ntmps20
  go_wp2
  go_ret
  exact ⟨by rw [HE.out]; rfl, rfl⟩
def bodyE (n : Nat) (s : ByteArray) : Int := if n < s.size then 3 else if s.toList.isEmpty = true then 4 else 0
theorem zero_of {ty : TypeId} {v : Value} {n : Nat} (h : (Try.prog.info? ty).map (fun i => (i.zero, i.size)) = some (some v, n)) : ∀ w, (zeroValue ty).run Try.prog w = .ok v w := fun w => by
  cases hy : Try.prog.info? ty with
  | none => rw [hy] at h; cases h
  | some i =>
    rw [hy] at h
    have hz : i.zero = some v := (Prod.mk.inj (Option.some.inj h)).1
    simp [zeroValue, typeInfo, hy, hz]
theorem size_of {ty : TypeId} {z : Option Value} {n : Nat} (h : (Try.prog.info? ty).map (fun i => (i.zero, i.size)) = some (z, n)) : (Try.prog.info? ty).map (·.size) = some n := by
  cases hy : Try.prog.info? ty with
  | none => rw [hy] at h; cases h
  | some i =>
    rw [hy] at h
    exact congrArg some (Prod.mk.inj (Option.some.inj h)).2
theorem info256 : (Try.prog.info? 54).map (fun i => (i.zero, i.size)) = some (some (.agg (Array.replicate 256 (.int .u8 0))), 256) := by kernel_rfl
theorem zero256 : ∀ w, (zeroValue 54).run Try.prog w = .ok (.agg (Array.replicate 256 (.int .u8 0))) w := zero_of info256
theorem load256 {w : World} {g : Nat} {C : Array Value} (hC : C = Array.replicate 256 (.int .u8 0)) (hb : Blk w g 54 C) : (Instr.loadAt 54 (.pointer (some ⟨g, 0, none⟩))).run Try.prog w = .ok (.agg C) w := by
  have hl : C.toList.length = 256 := by rw [Array.length_toList, hC, Array.size_replicate]
  have h := run_load_mid w g 0 256 54 5 C.toList (fun j v hv => by rw [Nat.zero_add, hb.cell]; rw [Array.getElem?_toList] at hv; exact hv) (by kernel_rfl) (by rw [hl]; exact size_of info256)
  rwa [Array.toArray_toList] at h
set_option maxHeartbeats 4000000 in
set_option maxRecDepth 100000 in
theorem body256_any (s : ByteArray) (w : World) (hs : (s.size : Int) ≤ 140737488351232) : Calls Try.prog 28 #[.string s] w fun e w' => e = .returned (.int .i64 (bodyE 256 s)) ∧ Below w.heap.size w w' := by
  have hz := zero256
  obtain ⟨C, hC⟩ : ∃ C : Array Value, C = Array.replicate 256 (.int .u8 0) := ⟨_, rfl⟩
  rw [← hC] at hz
  obtain ⟨w1, hw1⟩ : ∃ u, u = w.alloc (.cells C 54) := ⟨_, rfl⟩
  have hX : Blk w1 w.heap.size 54 C := by rw [hw1]; exact Blk.new w _ _
  have hB : Below w.heap.size w w1 := by rw [hw1]; exact (Below.refl _ _).alloc (Nat.le_refl _) _
  have hld := load256 hC hX
  have HB := Lib.hid hB
  have HW := Lib.hid hw1
  clear hC hX hB hw1
  by_cases h0 : 256 < s.size
  · have hi : (256 : Int) < (s.size : Int) := by omega
    have HE : Hid (bodyE 256 s = 3) := Lib.hid (by unfold bodyE; rw [if_pos h0])
    clear h0
    go_enter Try.func28, Try.ntmps28
    go_upto_region 2 with fail
    refine wp_at HW.out.symm ?_
    clear HW hz
    go_wp2_with ((with_reducible refine step_load (t := 54) (x := .tmp 3) (p := ?lp1) (v := ?lv1) ?lg1 ?lo1 ?lx1 ?lr1 ?lh1); (case lg1 => rfl); (case lo1 => rfl); (case lx1 => rfl); (case lr1 => exact hld))
    go_ret
    exact ⟨by rw [HE.out]; rfl, HB.out⟩
  have hi : (s.size : Int) ≤ 256 := by omega
  by_cases h1 : s.toList.isEmpty = true
  · have HE : Hid (bodyE 256 s = 4) := Lib.hid (by unfold bodyE; rw [if_neg h0, if_pos h1])
    clear h0
    go_enter Try.func28, Try.ntmps28
    go_upto_region 2 with fail
    refine wp_at HW.out.symm ?_
    clear HW hz
    go_wp2_with ((with_reducible refine step_load (t := 54) (x := .tmp 3) (p := ?lp2) (v := ?lv2) ?lg2 ?lo2 ?lx2 ?lr2 ?lh2); (case lg2 => rfl); (case lo2 => rfl); (case lx2 => rfl); (case lr2 => exact hld))
    go_ret
    exact ⟨by rw [HE.out]; rfl, HB.out⟩
  · have h2 : s.toList.isEmpty = false := by simpa using h1
    have HE : Hid (bodyE 256 s = 0) := Lib.hid (by unfold bodyE; rw [if_neg h0, if_neg h1])
    clear h0 h1
    go_enter Try.func28, Try.ntmps28
    go_upto_region 2 with fail
    refine wp_at HW.out.symm ?_
    clear HW hz
    go_wp2_with ((with_reducible refine step_load (t := 54) (x := .tmp 3) (p := ?lp3) (v := ?lv3) ?lg3 ?lo3 ?lx3 ?lr3 ?lh3); (case lg3 => rfl); (case lo3 => rfl); (case lx3 => rfl); (case lr3 => exact hld))
    go_ret
    exact ⟨by rw [HE.out]; rfl, HB.out⟩
theorem info512 : (Try.prog.info? 55).map (fun i => (i.zero, i.size)) = some (some (.agg (Array.replicate 512 (.int .u8 0))), 512) := by kernel_rfl
theorem zero512 : ∀ w, (zeroValue 55).run Try.prog w = .ok (.agg (Array.replicate 512 (.int .u8 0))) w := zero_of info512
theorem load512 {w : World} {g : Nat} {C : Array Value} (hC : C = Array.replicate 512 (.int .u8 0)) (hb : Blk w g 55 C) : (Instr.loadAt 55 (.pointer (some ⟨g, 0, none⟩))).run Try.prog w = .ok (.agg C) w := by
  have hl : C.toList.length = 512 := by rw [Array.length_toList, hC, Array.size_replicate]
  have h := run_load_mid w g 0 512 55 5 C.toList (fun j v hv => by rw [Nat.zero_add, hb.cell]; rw [Array.getElem?_toList] at hv; exact hv) (by kernel_rfl) (by rw [hl]; exact size_of info512)
  rwa [Array.toArray_toList] at h
set_option maxHeartbeats 4000000 in
set_option maxRecDepth 100000 in
theorem body512_any (s : ByteArray) (w : World) (hs : (s.size : Int) ≤ 140737488351232) : Calls Try.prog 29 #[.string s] w fun e w' => e = .returned (.int .i64 (bodyE 512 s)) ∧ Below w.heap.size w w' := by
  have hz := zero512
  obtain ⟨C, hC⟩ : ∃ C : Array Value, C = Array.replicate 512 (.int .u8 0) := ⟨_, rfl⟩
  rw [← hC] at hz
  obtain ⟨w1, hw1⟩ : ∃ u, u = w.alloc (.cells C 55) := ⟨_, rfl⟩
  have hX : Blk w1 w.heap.size 55 C := by rw [hw1]; exact Blk.new w _ _
  have hB : Below w.heap.size w w1 := by rw [hw1]; exact (Below.refl _ _).alloc (Nat.le_refl _) _
  have hld := load512 hC hX
  have HB := Lib.hid hB
  have HW := Lib.hid hw1
  clear hC hX hB hw1
  by_cases h0 : 512 < s.size
  · have hi : (512 : Int) < (s.size : Int) := by omega
    have HE : Hid (bodyE 512 s = 3) := Lib.hid (by unfold bodyE; rw [if_pos h0])
    clear h0
    go_enter Try.func29, Try.ntmps29
    go_upto_region 2 with fail
    refine wp_at HW.out.symm ?_
    clear HW hz
    go_wp2_with ((with_reducible refine step_load (t := 55) (x := .tmp 3) (p := ?lp1) (v := ?lv1) ?lg1 ?lo1 ?lx1 ?lr1 ?lh1); (case lg1 => rfl); (case lo1 => rfl); (case lx1 => rfl); (case lr1 => exact hld))
    go_ret
    exact ⟨by rw [HE.out]; rfl, HB.out⟩
  have hi : (s.size : Int) ≤ 512 := by omega
  by_cases h1 : s.toList.isEmpty = true
  · have HE : Hid (bodyE 512 s = 4) := Lib.hid (by unfold bodyE; rw [if_neg h0, if_pos h1])
    clear h0
    go_enter Try.func29, Try.ntmps29
    go_upto_region 2 with fail
    refine wp_at HW.out.symm ?_
    clear HW hz
    go_wp2_with ((with_reducible refine step_load (t := 55) (x := .tmp 3) (p := ?lp2) (v := ?lv2) ?lg2 ?lo2 ?lx2 ?lr2 ?lh2); (case lg2 => rfl); (case lo2 => rfl); (case lx2 => rfl); (case lr2 => exact hld))
    go_ret
    exact ⟨by rw [HE.out]; rfl, HB.out⟩
  · have h2 : s.toList.isEmpty = false := by simpa using h1
    have HE : Hid (bodyE 512 s = 0) := Lib.hid (by unfold bodyE; rw [if_neg h0, if_neg h1])
    clear h0 h1
    go_enter Try.func29, Try.ntmps29
    go_upto_region 2 with fail
    refine wp_at HW.out.symm ?_
    clear HW hz
    go_wp2_with ((with_reducible refine step_load (t := 55) (x := .tmp 3) (p := ?lp3) (v := ?lv3) ?lg3 ?lo3 ?lx3 ?lr3 ?lh3); (case lg3 => rfl); (case lo3 => rfl); (case lx3 => rfl); (case lr3 => exact hld))
    go_ret
    exact ⟨by rw [HE.out]; rfl, HB.out⟩
end Go.Proofs.Ytbfjljbllfjicaa.msg
