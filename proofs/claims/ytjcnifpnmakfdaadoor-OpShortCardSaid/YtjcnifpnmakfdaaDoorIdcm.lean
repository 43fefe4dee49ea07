/-
  petrelref07: the document's answer for operations: what a kind has.
  petrelref06.Compare.
-/
import Derived.Test.YtjcnifpnmakfdaaDoorOpp
import Derived.Test.YtjcnifpnmakfdaaDoorRef1
import Derived.Test.YtjcnifpnmakfdaaDoorRef2
import Derived.Test.YtjcnifpnmakfdaaDoorSha
import Derived.Deep.RegionWith
import Derived.Deep.CutRange
import Derived.Deep.CutBlock
import Derived.Test.YtjcnifpnmakfdaaDoorOpi
import Derived.Deep.RegionHeld3
namespace Go.Proofs.YtjcnifpnmakfdaaDoor.opn
open Go.RowKit Go.Proofs.YtjcnifpnmakfdaaDoor.mem Go.Proofs.YtjcnifpnmakfdaaDoor.sha

def chr : Part → UInt8
  | .N => 78
  | .K => 75
  | .V => 86
  | .R => 82
  | .S => 83
/-- the letters of what a kind has -/
def hasB (k : Int) : ByteArray := ⟨((has k).map chr).toArray⟩

theorem has_any (k : Int) (w : World) : Calls Tryd.prog 23 #[.int .i64 k] w fun e w' => e = .returned (.string (hasB k)) ∧ w = w' := by
  by_cases h1 : k = 1
  · subst h1
    go_enter Tryd.func23, Tryd.ntmps23
    go_wp2
    go_ret
    exact ⟨rfl, rfl⟩
  by_cases h2 : k = 2
  · subst h2
    go_enter Tryd.func23, Tryd.ntmps23
    go_wp2
    go_ret
    exact ⟨rfl, rfl⟩
  by_cases h3 : k = 3
  · subst h3
    go_enter Tryd.func23, Tryd.ntmps23
    go_wp2
    go_ret
    exact ⟨rfl, rfl⟩
  by_cases h4 : k = 4
  · subst h4
    go_enter Tryd.func23, Tryd.ntmps23
    go_wp2
    go_ret
    exact ⟨rfl, rfl⟩
  by_cases h5 : k = 5
  · subst h5
    go_enter Tryd.func23, Tryd.ntmps23
    go_wp2
    go_ret
    exact ⟨rfl, rfl⟩
  by_cases h6 : k = 6
  · subst h6
    go_enter Tryd.func23, Tryd.ntmps23
    go_wp2
    go_ret
    exact ⟨rfl, rfl⟩
  by_cases h7 : k = 7
  · subst h7
    go_enter Tryd.func23, Tryd.ntmps23
    go_wp2
    go_ret
    exact ⟨rfl, rfl⟩
  have e : hasB k = ⟨#[]⟩ := by unfold hasB has; simp [h1, h2, h3, h4, h5, h6, h7]
  have b1 : (k == 1) = false := by simpa using h1
  have b2 : (k == 2) = false := by simpa using h2
  have b3 : (k == 3) = false := by simpa using h3
  have b4 : (k == 4) = false := by simpa using h4
  have b5 : (k == 5) = false := by simpa using h5
  have b6 : (k == 6) = false := by simpa using h6
  have b7 : (k == 7) = false := by simpa using h7
  have HE := Lib.hid e
  clear e h1 h2 h3 h4 h5 h6 h7
  go_enter Tryd.func23, Tryd.ntmps23
  go_wp2
  go_ret
  rw [HE.out]
  exact ⟨rfl, rfl⟩

/-- to which topics a kind belongs -/
def belongs (k : Int) : Int := if k = 1 then 1 else if k = 2 then 2 else if k = 3 then 2 else if k = 4 then 3 else if k = 5 then 4 else if k = 6 then 5 else if k = 7 then 5 else 0
theorem belongs_any (k : Int) (w : World) : Calls Tryd.prog 15 #[.int .i64 k] w fun e w' => e = .returned (.int .i64 (belongs k)) ∧ w = w' := by
  by_cases h0 : 1 ≤ k ∧ k ≤ 7
  · rcases (show k = 1 ∨ k = 2 ∨ k = 3 ∨ k = 4 ∨ k = 5 ∨ k = 6 ∨ k = 7 by omega) with rfl | rfl | rfl | rfl | rfl | rfl | rfl
    all_goals
      go_enter Tryd.func15, Tryd.ntmps15
      go_wp2
      go_ret
      exact ⟨rfl, rfl⟩
  have b1 : (k == 1) = false := by simp; omega
  have b2 : (k == 2) = false := by simp; omega
  have b3 : (k == 3) = false := by simp; omega
  have b4 : (k == 4) = false := by simp; omega
  have b5 : (k == 5) = false := by simp; omega
  have b6 : (k == 6) = false := by simp; omega
  have b7 : (k == 7) = false := by simp; omega
  have e : belongs k = 0 := by
    unfold belongs
    rw [if_neg (by omega), if_neg (by omega), if_neg (by omega), if_neg (by omega), if_neg (by omega), if_neg (by omega), if_neg (by omega)]
  have HE := Lib.hid e
  clear e h0
  go_enter Tryd.func15, Tryd.ntmps15
  go_wp2
  go_ret
  rw [HE.out]
  exact ⟨rfl, rfl⟩

theorem contains_step (s : ByteArray) (c : UInt8) (k : Nat) (h : k < s.size) : (s.data.toList.take (k + 1)).contains c = ((s.data.toList.take k).contains c || c == s[k]) := by
  rw [oct.take_snoc s k h, List.contains_eq_mem, List.contains_eq_mem]
  simp [Bool.beq_eq_decide_eq]
theorem B_eq (a b : UInt8) : (B a == B b) = (b == a) := by
  by_cases h : a = b
  · subst h; simp
  · have h2 : ¬ B a = B b := fun e => h (UInt8.toNat_inj.1 (by unfold B at e; omega))
    have h3 : ¬ b = a := fun e => h e.symm
    rw [beq_eq_false_iff_ne.2 h2, beq_eq_false_iff_ne.2 h3]

theorem in_any (s : ByteArray) (c : UInt8) (w : World) (hs : s.size ≤ 549755813888000) : Calls Tryd.prog 31 #[.string s, .int .u8 (B c)] w fun e w' => e = .returned (.bool (s.data.toList.contains c)) ∧ w = w' := by
  go_enter Tryd.func31, Tryd.ntmps31
  go_wp2_with fail
  go_loopw [5] (fun i wr => ∃ k : Nat, k ≤ s.size ∧ i = .int .i64 k ∧ (s.data.toList.take k).contains c = false ∧ wr = w) (fun i _ => s.size - (intOf i).toNat)
  case atStart => exact ⟨0, Nat.zero_le _, rfl, rfl, rfl⟩
  case round =>
    obtain ⟨k, hk, rfl, hc, hwr⟩ := hrel
    have HW := Lib.hid hwr
    have k0 : (0 : Int) ≤ (k : Int) := Int.natCast_nonneg _
    by_cases hlt : k < s.size
    · have kI : (k : Int) < (s.size : Int) := by omega
      have hst := contains_step s c k hlt
      rw [hc, Bool.false_or] at hst
      have hx : (((s[k].toNat : Nat) : Int) == B c) = (c == s[k]) := B_eq _ _
      by_cases h1 : (c == s[k]) = true
      · rw [h1] at hst hx
        have HC : Hid (s.data.toList.contains c = true) := Lib.hid (by
          have hm := List.contains_iff_mem.1 hst
          exact List.contains_iff_mem.2 (List.mem_of_mem_take hm))
        clear hst hc hwr h1
        go_wp2_with fail
        go_ret
        rw [HC.out]
        exact ⟨rfl, HW.out.symm⟩
      · have h1' : (c == s[k]) = false := by simpa using h1
        rw [h1'] at hst hx
        have HC := Lib.hid hst
        clear hst hc hwr h1 h1'
        go_wp2_with fail
        go_roundw
        case rel => exact ⟨k + 1, by omega, by go_num, HC.out, HW.out⟩
        case measure => simp [intOf]; omega
    · have e : s.data.toList.take k = s.data.toList := List.take_of_length_le (by rw [Array.length_toList]; show s.size ≤ k; omega)
      rw [e] at hc
      have HC := Lib.hid hc
      clear hc hwr e
      go_wp2_with fail
      go_ret
      rw [HC.out]
      exact ⟨rfl, HW.out.symm⟩

theorem short_any (s : ByteArray) (w : World) (hs : s.size ≤ 16) : Calls Tryd.prog 24 #[.string s] w fun e w' => e = .returned (.string (oct.tx (txt s.data.toList))) ∧ Below w.heap.size w w' := by
  have e1 : oct.refNum s.size 1 = (oct.tx (b1 s.size), 0) := by
    unfold oct.refNum
    rw [if_neg (by unfold oct.numErr; rw [if_neg (by decide), if_neg (by simp; omega)]; decide)]
    rfl
  have e2 : oct.tx (txt s.data.toList) = oct.tx (b1 s.size) ++ s := by
    apply oct.bytes_ext
    have hl : s.data.toList.length = s.size := by simp
    rw [oct.tx_list, ByteArray.data_append, Array.toList_append, oct.tx_list, txt, hl]
  rw [e2]
  have hz : (oct.tx (b1 s.size)).size = 1 := oct.tx_size _
  have E1 := Lib.hid e1
  clear e1 e2
  go_enter Tryd.func24, Tryd.ntmps24
  go_wp2_with (go_at_call 22; refine (oct.refnum_any s.size 1 _).mono ?_; rw [E1.out]; rintro e w1 ⟨rfl, hb1⟩)
  go_ret
  exact ⟨rfl, hb1⟩
end Go.Proofs.YtjcnifpnmakfdaaDoor.opn

namespace Go.Proofs.YtjcnifpnmakfdaaDoor.ids
open Go.RowKit Go.Proofs.YtjcnifpnmakfdaaDoor.mem Go.Proofs.YtjcnifpnmakfdaaDoor.sha

theorem B_lt_iff (a b : UInt8) : B a < B b ↔ a.toNat < b.toNat := by unfold B; omega
theorem box_cell {w : World} {S : Nat} {x : Id} (h : Blk w S 23 (bv x).toArray) (k : Nat) (hk : k < x.length) : w.cell? ⟨S, k, none⟩ = some (.int .u8 (B (x.getD k 0))) := by
  rw [h.cell, List.getElem?_toArray]
  exact bv_get _ _ hk

set_option maxHeartbeats 1000000 in
set_option maxRecDepth 100000 in
theorem rcompare_any (x y : Id) (w : World) (hx : x.length = 32) (hy : y.length = 32) : Calls Tryd.prog 65 #[idv x, idv y] w fun e w' => e = .returned (.int .i64 (cmpL x y)) ∧ Below w.heap.size w w' := by
  obtain ⟨w1, hw1⟩ : ∃ u, u = (w.alloc (.cells (bv x).toArray 23)).alloc (.cells (bv y).toArray 23) := ⟨_, rfl⟩
  have hX : Blk w1 w.heap.size 23 (bv x).toArray := by rw [hw1]; exact (Blk.new w _ _).alloc _
  have hY : Blk w1 (w.heap.size + 1) 23 (bv y).toArray := by rw [hw1]; exact Blk.at_ (by simp) _ _
  have hB : Below w.heap.size w w1 := by rw [hw1]; exact ((Below.refl _ _).alloc (Nat.le_refl _) _).alloc (by simp) _
  have HW := Lib.hid hw1
  have HX := Lib.hid hX
  have HY := Lib.hid hY
  have HB := Lib.hid hB
  clear hX hY hB hw1
  unfold idv
  go_enter Tryd.func65, Tryd.ntmps65
  go_wp2_with fail
  refine wp_at HW.out.symm ?_
  clear HW
  have HXL := Lib.hid hx
  have HYL := Lib.hid hy
  clear hx hy
  go_loopw [5] (fun i wr => ∃ k m : Nat, k ≤ 32 ∧ i = .int .i64 k ∧ cmpL (x.drop k) (y.drop k) = cmpL x y ∧ wr = w1.drewN m) (fun i _ => 32 - (intOf i).toNat)
  case atStart => exact ⟨0, 0, by decide, rfl, rfl, rfl⟩
  case round =>
    obtain ⟨k, m, hk, rfl, hcmp, hwr⟩ := hrel
    have HC := Lib.hid hcmp
    have HW := Lib.hid hwr
    have k0 : (0 : Int) ≤ (k : Int) := Int.natCast_nonneg _
    by_cases hlt : k < 32
    · have kI : (k : Int) < 32 := by omega
      have cx : wr.cell? ⟨w.heap.size, k, none⟩ = some (.int .u8 (B (x.getD k 0))) := by rw [hwr]; exact box_cell HX.out k (by rw [HXL.out]; exact hlt)
      have cy : wr.cell? ⟨w.heap.size + 1, k, none⟩ = some (.int .u8 (B (y.getD k 0))) := by rw [hwr]; exact box_cell HY.out k (by rw [HYL.out]; exact hlt)
      have hst := cmpL_step x y k (by rw [HXL.out]; exact hlt) (by rw [HYL.out]; exact hlt)
      rw [hcmp] at hst
      have HI1 := B_lt_iff (x.getD k 0) (y.getD k 0)
      have HI2 := B_lt_iff (y.getD k 0) (x.getD k 0)
      generalize x.getD k 0 = a at cx hst HI1 HI2
      generalize y.getD k 0 = b at cy hst HI1 HI2
      clear hwr hcmp
      by_cases h1 : B a < B b
      · rw [if_pos (HI1.1 h1)] at hst
        have HS := Lib.hid hst
        clear hst HI1 HI2
        go_wp2_with fail
        go_quiet (fail)
        go_wp2_with fail
        go_ret
        exact ⟨by rw [HS.out]; rfl, by rw [HW.out]; exact below_drewN (below_drewN HB.out m) nq⟩
      · by_cases h2 : B b < B a
        · rw [if_neg (fun h => h1 (HI1.2 h)), if_pos (HI2.1 h2)] at hst
          have HS := Lib.hid hst
          have h1' : B b ≤ B a := by omega
          clear hst HI1 HI2 h1
          go_wp2_with fail
          go_quiet (fail)
          obtain ⟨wq, hwq⟩ : ∃ u, u = wr.drewN nq := ⟨_, rfl⟩
          rw [← hwq]
          replace cx : wq.cell? _ = _ := (congrArg (fun u : World => u.cell? _) hwq).trans cx
          replace cy : wq.cell? _ = _ := (congrArg (fun u : World => u.cell? _) hwq).trans cy
          have HWQ := Lib.hid hwq
          clear hwq
          go_wp2_with fail
          go_quiet (fail)
          go_wp2_with fail
          go_ret
          exact ⟨by rw [HS.out]; rfl, by rw [HWQ.out, HW.out]; exact below_drewN (below_drewN (below_drewN HB.out _) _) _⟩
        · rw [if_neg (fun h => h1 (HI1.2 h)), if_neg (fun h => h2 (HI2.2 h))] at hst
          have HS := Lib.hid hst
          have h1' : B b = B a := by omega
          clear hst HI1 HI2 h1 h2
          rw [h1'] at cy
          clear h1'
          go_wp2_with fail
          go_quiet (fail)
          obtain ⟨wq, hwq⟩ : ∃ u, u = wr.drewN nq := ⟨_, rfl⟩
          rw [← hwq]
          replace cx : wq.cell? _ = _ := (congrArg (fun u : World => u.cell? _) hwq).trans cx
          replace cy : wq.cell? _ = _ := (congrArg (fun u : World => u.cell? _) hwq).trans cy
          have HWQ := Lib.hid hwq
          clear hwq
          go_wp2_with fail
          go_quiet (fail)
          go_wp2_with fail
          go_roundw
          case rel => exact ⟨k + 1, _, hlt, by push_cast; rfl, HS.out.symm, by rw [HWQ.out, HW.out, World.drewN_drewN, World.drewN_drewN]⟩
          case measure => simp [intOf]; omega
    · obtain rfl : k = 32 := by omega
      have h0 : cmpL x y = 0 := by
        rw [← HC.out, List.drop_of_length_le (by rw [HXL.out]; exact Nat.le_refl _), List.drop_of_length_le (by rw [HYL.out]; exact Nat.le_refl _)]
        rfl
      have HS := Lib.hid h0
      clear h0 hlt hcmp hwr
      go_wp2_with fail
      go_ret
      exact ⟨by rw [HS.out]; rfl, by rw [HW.out]; exact below_drewN HB.out _⟩

end Go.Proofs.YtjcnifpnmakfdaaDoor.ids
