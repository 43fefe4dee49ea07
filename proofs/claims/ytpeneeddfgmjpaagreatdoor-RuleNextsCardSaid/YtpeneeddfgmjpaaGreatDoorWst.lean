/-
  petrelref06.Compare.
  petrelref06.Same.
  petrelref06: the document's answer for sets of ids.
  What a loop keeps that goes through a list of ids beside a box of one id.
-/
import Derived.Test.YtpeneeddfgmjpaaGreatDoorHdp
import Derived.Deep.RegionHeld3
import Derived.Deep.CutRange
import Derived.Deep.CutBlock
import Derived.Test.YtpeneeddfgmjpaaGreatDoorIds
namespace Go.Proofs.YtpeneeddfgmjpaaGreatDoor.ids
open Go.RowKit Go.Proofs.YtpeneeddfgmjpaaGreatDoor.mem Go.Proofs.YtpeneeddfgmjpaaGreatDoor.sha

theorem B_lt_iff (a b : UInt8) : B a < B b ↔ a.toNat < b.toNat := by unfold B; omega
theorem box_cell {w : World} {S : Nat} {x : Id} (h : Blk w S 24 (bv x).toArray) (k : Nat) (hk : k < x.length) : w.cell? ⟨S, k, none⟩ = some (.int .u8 (B (x.getD k 0))) := by
 rw [h.cell, List.getElem?_toArray]
 exact bv_get _ _ hk

set_option maxHeartbeats 1000000 in
set_option maxRecDepth 100000 in
theorem rcompare_any (x y : Id) (w : World) (hx : x.length = 32) (hy : y.length = 32) : Calls Tryz.prog 42 #[idv x, idv y] w fun e w' => e = .returned (.int .i64 (cmpL x y)) ∧ Below w.heap.size w w' := by
 obtain ⟨w1, hw1⟩ : ∃ u, u = (w.alloc (.cells (bv x).toArray 24)).alloc (.cells (bv y).toArray 24) := ⟨_, rfl⟩
 have hX : Blk w1 w.heap.size 24 (bv x).toArray := by rw [hw1]; exact (Blk.new w _ _).alloc _
 have hY : Blk w1 (w.heap.size + 1) 24 (bv y).toArray := by rw [hw1]; exact Blk.at_ (by simp) _ _
 have hB : Below w.heap.size w w1 := by rw [hw1]; exact ((Below.refl _ _).alloc (Nat.le_refl _) _).alloc (by simp) _
 have HW := Lib.hid hw1
 have HX := Lib.hid hX
 have HY := Lib.hid hY
 have HB := Lib.hid hB
 clear hX hY hB hw1
 unfold idv
 go_enter Tryz.func42, Tryz.ntmps42
 go_wp2_with fail
 refine wp_at HW.out.symm ?_
 clear HW
 have HXL := Lib.hid hx
 have HYL := Lib.hid hy
 clear hx hy
 go_loopw [5] (fun i wr => ∃ k m : Nat, k ≤ 32 ∧ i = .int .i64 k ∧ cmpL (x.drop k) (y.drop k) = cmpL x y ∧ wr = w1.drewN m) (fun i _ => 32 - (intOf i).toNat)
 case atStart => exact ⟨0, 0, by decide, rfl, rfl, rfl⟩
 case round =>
  obtain ⟨k, m, hk, rfl, hcmp, hwr⟩ := hrel
  have HC := Lib.hid hcmp
  have HW := Lib.hid hwr
  have k0 : (0 : Int) ≤ (k : Int) := Int.natCast_nonneg _
  by_cases hlt : k < 32
  ·
   have kI : (k : Int) < 32 := by omega
   have cx : wr.cell? ⟨w.heap.size, k, none⟩ = some (.int .u8 (B (x.getD k 0))) := by rw [hwr]; exact box_cell HX.out k (by rw [HXL.out]; exact hlt)
   have cy : wr.cell? ⟨w.heap.size + 1, k, none⟩ = some (.int .u8 (B (y.getD k 0))) := by rw [hwr]; exact box_cell HY.out k (by rw [HYL.out]; exact hlt)
   have hst := cmpL_step x y k (by rw [HXL.out]; exact hlt) (by rw [HYL.out]; exact hlt)
   rw [hcmp] at hst
   have HI1 := B_lt_iff (x.getD k 0) (y.getD k 0)
   have HI2 := B_lt_iff (y.getD k 0) (x.getD k 0)
   generalize x.getD k 0 = a at cx hst HI1 HI2
   generalize y.getD k 0 = b at cy hst HI1 HI2
   clear hwr hcmp
   by_cases h1 : B a < B b
   ·
    rw [if_pos (HI1.1 h1)] at hst
    have HS := Lib.hid hst
    clear hst HI1 HI2
    go_wp2_with fail
    go_quiet (fail)
    go_wp2_with fail
    go_ret
    exact ⟨by rw [HS.out]; rfl, by rw [HW.out]; exact below_drewN (below_drewN HB.out m) nq⟩
   ·
    by_cases h2 : B b < B a
    ·
     rw [if_neg (fun h => h1 (HI1.2 h)), if_pos (HI2.1 h2)] at hst
     have HS := Lib.hid hst
     have h1' : B b ≤ B a := by omega
     clear hst HI1 HI2 h1
     go_wp2_with fail
     go_quiet (fail)
     obtain ⟨wq, hwq⟩ : ∃ u, u = wr.drewN nq := ⟨_, rfl⟩
     rw [← hwq]
     replace cx : wq.cell? _ = _ := (congrArg (fun u : World => u.cell? _) hwq).trans cx
     replace cy : wq.cell? _ = _ := (congrArg (fun u : World => u.cell? _) hwq).trans cy
     have HWQ := Lib.hid hwq
     clear hwq
     go_wp2_with fail
     go_quiet (fail)
     go_wp2_with fail
     go_ret
     exact ⟨by rw [HS.out]; rfl, by rw [HWQ.out, HW.out]; exact below_drewN (below_drewN (below_drewN HB.out _) _) _⟩
    ·
     rw [if_neg (fun h => h1 (HI1.2 h)), if_neg (fun h => h2 (HI2.2 h))] at hst
     have HS := Lib.hid hst
     have h1' : B b = B a := by omega
     clear hst HI1 HI2 h1 h2
     rw [h1'] at cy
     clear h1'
     go_wp2_with fail
     go_quiet (fail)
     obtain ⟨wq, hwq⟩ : ∃ u, u = wr.drewN nq := ⟨_, rfl⟩
     rw [← hwq]
     replace cx : wq.cell? _ = _ := (congrArg (fun u : World => u.cell? _) hwq).trans cx
     replace cy : wq.cell? _ = _ := (congrArg (fun u : World => u.cell? _) hwq).trans cy
     have HWQ := Lib.hid hwq
     clear hwq
     go_wp2_with fail
     go_quiet (fail)
     go_wp2_with fail
     go_roundw
     case rel => exact ⟨k + 1, _, hlt, by push_cast; rfl, HS.out.symm, by rw [HWQ.out, HW.out, World.drewN_drewN, World.drewN_drewN]⟩
     case measure => simp [intOf]; omega
  ·
   obtain rfl : k = 32 := by omega
   have h0 : cmpL x y = 0 := by
    rw [← HC.out, List.drop_of_length_le (by rw [HXL.out]; exact Nat.le_refl _), List.drop_of_length_le (by rw [HYL.out]; exact Nat.le_refl _)]
    rfl
   have HS := Lib.hid h0
   clear h0 hlt hcmp hwr
   go_wp2_with fail
   go_ret
   exact ⟨by rw [HS.out]; rfl, by rw [HW.out]; exact below_drewN HB.out _⟩

end Go.Proofs.YtpeneeddfgmjpaaGreatDoor.ids

namespace Go.Proofs.YtpeneeddfgmjpaaGreatDoor.ids
open Go.RowKit Go.Proofs.YtpeneeddfgmjpaaGreatDoor.mem Go.Proofs.YtpeneeddfgmjpaaGreatDoor.sha

theorem list_eq_of (L M : List Id) (hl : L.length = M.length) (h : ∀ j, j < L.length → L.getD j [] = M.getD j []) : L = M := by
 apply List.ext_getElem hl
 intro i h1 h2
 have := h i h1
 rw [List.getD_eq_getElem?_getD, List.getD_eq_getElem?_getD, List.getElem?_eq_getElem h1, List.getElem?_eq_getElem h2] at this
 exact this

set_option maxHeartbeats 1000000 in
set_option maxRecDepth 100000 in
theorem rsame_any (L M : List Id) (ad ad2 : Option Addr) (n cap n2 cap2 : Nat) (w : World) (hL : RdV w (.slice ad n cap) L) (hM : RdV w (.slice ad2 n2 cap2) M) :
  Calls Tryz.prog 10 #[.slice ad n cap, .slice ad2 n2 cap2] w fun e w' => e = .returned (.bool (L == M)) ∧ ∃ m, w' = w.drewN m := by
 obtain ⟨hL1, hmax, _, _, hvv, _⟩ := id hL
 have hn : n = L.length := by cases hvv; rfl
 obtain ⟨hM1, hmax2, _, _, hvv2, _⟩ := id hM
 have hn2 : n2 = M.length := by cases hvv2; rfl
 subst hn; subst hn2
 clear hvv hvv2
 have HL := Lib.hid hL
 have HM := Lib.hid hM
 clear hL hM
 by_cases hne : L.length = M.length
 case neg =>
  have hb : (L == M) = false := beq_eq_false_iff_ne.2 (fun e => hne (by rw [e]))
  have hi : ((L.length : Int) != (M.length : Int)) = true := bne_iff_ne.2 (by omega)
  rw [hb]
  clear hne hb
  go_enter Tryz.func10, Tryz.ntmps10
  go_wp2_with fail
  go_ret
  exact ⟨rfl, 0, rfl⟩
 have HE := Lib.hid hne
 have hi : (M.length : Int) = (L.length : Int) := by omega
 clear hne
 go_enter Tryz.func10, Tryz.ntmps10
 go_wp2_with fail
 go_loopw [5] (fun i wr => ∃ k m : Nat, k ≤ L.length ∧ i = .int .i64 k ∧ (∀ j, j < k → L.getD j [] = M.getD j []) ∧ wr = w.drewN m) (fun i _ => L.length - (intOf i).toNat)
 case atStart => exact ⟨0, 0, Nat.zero_le _, rfl, fun j hj => by omega, rfl⟩
 case round =>
  obtain ⟨k, m, hk, rfl, hno, hwr⟩ := hrel
  have HN := Lib.hid hno
  have HW := Lib.hid hwr
  have k0 : (0 : Int) ≤ (k : Int) := Int.natCast_nonneg _
  clear hno
  by_cases hlt : k < L.length
  ·
   have kI : (k : Int) < (L.length : Int) := by omega
   obtain ⟨b, off, rfl, -, hb, hld⟩ := (show RdV wr _ L by rw [hwr]; exact HL.out.drewN m).load hlt
   obtain ⟨b2, off2, rfl, -, hb2, hld2⟩ := (show RdV wr _ M by rw [hwr]; exact HM.out.drewN m).load (show k < M.length by have := HE.out; omega)
   have hy := hL1.get hlt
   have hz := hM1.get (show k < M.length by have := HE.out; omega)
   have heq := fun u : World => neq_ids u (L.getD k []) (M.getD k []) hy hz
   unfold idv at heq
   obtain ⟨y, hyy⟩ : ∃ y, y = L.getD k [] := ⟨_, rfl⟩
   obtain ⟨z, hzz⟩ : ∃ y, y = M.getD k [] := ⟨_, rfl⟩
   rw [← hyy] at hld heq hy
   rw [← hzz] at hld2 heq hz
   have HY := Lib.hid hyy.symm
   have HZ := Lib.hid hzz.symm
   clear hwr hyy hzz
   by_cases he : y = z
   ·
    have heq2 : (y != z) = false := by rw [he, bne, beq_self_eq_true]; rfl
    have HQ := Lib.hid he
    rw [heq2] at heq
    clear he heq2
    go_wp2_with fail
    refine wp_region_quiet_lit (by kernel_rfl) (by kernel_rfl) ?_
    quiet_step (fail)
    quiet_step (fail)
    quiet_step (fail)
    refine quiet_load rfl rfl rfl hld ?_
    (try simp only [Act.put, List.setIfInBounds_toArray, List.set_cons_zero, List.set_cons_succ])
    quiet_step (fail)
    quiet_step (fail)
    quiet_step (fail)
    refine quiet_load rfl rfl rfl hld2 ?_
    (try simp only [Act.put, List.setIfInBounds_toArray, List.set_cons_zero, List.set_cons_succ])
    quiet_step (fail)
    refine wpQuiet_nil ?_
    rintro _ ⟨nq, rfl⟩
    go_wp2_with fail
    go_roundw
    case rel =>
     refine ⟨k + 1, _, hlt, by push_cast; rfl, fun j hj => ?_, by rw [HW.out, World.drewN_drewN]⟩
     rcases Nat.lt_or_ge j k with h | h
     ·
      exact HN.out j h
     ·
      obtain rfl : j = k := by omega
      rw [HY.out, HZ.out]; exact HQ.out
    case measure => simp [intOf]; omega
   ·
    have heq2 : (y != z) = true := bne_iff_ne.2 he
    have hr : (L == M) = false := beq_eq_false_iff_ne.2 (fun e => he (by rw [← HY.out, ← HZ.out, e]))
    have HRR := Lib.hid hr
    rw [heq2] at heq
    clear he heq2 hr
    go_wp2_with fail
    refine wp_region_quiet_lit (by kernel_rfl) (by kernel_rfl) ?_
    quiet_step (fail)
    quiet_step (fail)
    quiet_step (fail)
    refine quiet_load rfl rfl rfl hld ?_
    (try simp only [Act.put, List.setIfInBounds_toArray, List.set_cons_zero, List.set_cons_succ])
    quiet_step (fail)
    quiet_step (fail)
    quiet_step (fail)
    refine quiet_load rfl rfl rfl hld2 ?_
    (try simp only [Act.put, List.setIfInBounds_toArray, List.set_cons_zero, List.set_cons_succ])
    quiet_step (fail)
    refine wpQuiet_nil ?_
    rintro _ ⟨nq, rfl⟩
    go_wp2_with fail
    go_ret
    exact ⟨by rw [HRR.out]; rfl, _, by rw [HW.out, World.drewN_drewN]⟩
  ·
   obtain rfl : k = L.length := by omega
   have hr : (L == M) = true := by rw [list_eq_of L M HE.out HN.out]; exact beq_self_eq_true M
   have HRR := Lib.hid hr
   clear hr hwr
   go_wp2_with fail
   go_ret
   exact ⟨by rw [HRR.out]; rfl, _, HW.out⟩

theorem rsame_eq {w : World} {v u : Value} {L : List Id} (h : RdV w v L) (k : RdV w u L) : Calls Tryz.prog 10 #[v, u] w fun e w' => e = .returned (.bool true) ∧ Below w.heap.size w w' := by
 obtain ⟨ad, cap, rfl⟩ := h.form
 obtain ⟨ad2, cap2, rfl⟩ := k.form
 refine (rsame_any L L ad ad2 L.length cap L.length cap2 w h k).mono ?_
 rintro e w' ⟨rfl, m, rfl⟩
 rw [beq_self_eq_true]
 exact ⟨rfl, below_drewN (Below.refl _ _) m⟩
theorem RdV.to {w : World} {v : Value} {L M : List Id} (h : RdV w v L) (e : L = M) : RdV w v M := e ▸ h
end Go.Proofs.YtpeneeddfgmjpaaGreatDoor.ids

namespace Go.Proofs.YtpeneeddfgmjpaaGreatDoor.ids
open Go.RowKit Go.Proofs.YtpeneeddfgmjpaaGreatDoor.mem Go.Proofs.YtpeneeddfgmjpaaGreatDoor.sha

set_option maxHeartbeats 1000000 in
set_option maxRecDepth 100000 in
theorem rhas_any (L : List Id) (x : Id) (ad : Option Addr) (n cap : Nat) (w : World) (hL : RdV w (.slice ad n cap) L) (hx : x.length = 32) :
  Calls Tryz.prog 43 #[.slice ad n cap, .agg (bv x).toArray] w fun e w' => e = .returned (.bool (L.contains x)) ∧ Below w.heap.size w w' := by
 obtain ⟨w1, hw1⟩ : ∃ u, u = w.alloc (.cells (bv x).toArray 24) := ⟨_, rfl⟩
 have hX : Blk w1 w.heap.size 24 (bv x).toArray := by rw [hw1]; exact Blk.new w _ _
 have hB : Below w.heap.size w w1 := by rw [hw1]; exact (Below.refl _ _).alloc (Nat.le_refl _) _
 obtain ⟨_, hmax, _, _, hvv, _⟩ := id hL
 have hn : n = L.length := by cases hvv; rfl
 clear hvv
 have HR := Lib.hid (hL.below hB (Nat.le_refl _))
 have HOK := Lib.hid hL.1
 have HW := Lib.hid hw1
 have HX := Lib.hid hX
 have HB := Lib.hid hB
 clear hX hB hw1 hL
 subst hn
 go_enter Tryz.func43, Tryz.ntmps43
 go_wp2_with fail
 refine wp_at HW.out.symm ?_
 clear HW
 go_loopw [5] (fun i wr => ∃ k m : Nat, k ≤ L.length ∧ i = .int .i64 k ∧ (∀ j, j < k → ¬ L.getD j [] = x) ∧ wr = w1.drewN m) (fun i _ => L.length - (intOf i).toNat)
 case atStart => exact ⟨0, 0, Nat.zero_le _, rfl, fun j hj => by omega, rfl⟩
 case round =>
  obtain ⟨k, m, hk, rfl, hno, hwr⟩ := hrel
  have HN := Lib.hid hno
  have HW := Lib.hid hwr
  have k0 : (0 : Int) ≤ (k : Int) := Int.natCast_nonneg _
  clear hno
  by_cases hlt : k < L.length
  ·
   have kI : (k : Int) < (L.length : Int) := by omega
   obtain ⟨b, off, rfl, -, hb, hld⟩ := (show RdV wr _ L by rw [hwr]; exact HR.out.drewN m).load hlt
   have hlx := box_load (show Blk wr w.heap.size 24 (bv x).toArray by rw [hwr]; exact HX.out) hx
   have hy := HOK.out.get hlt
   have heq := fun u : World => eql_ids u (L.getD k []) x hy hx
   unfold idv at heq
   have HG : Hid (L.getD k [] = x → L.contains x = true) := Lib.hid fun h => by
    rw [List.contains_iff_mem, ← h, List.getD_eq_getElem?_getD, List.getElem?_eq_getElem hlt]
    exact List.getElem_mem _
   obtain ⟨y, hyy⟩ : ∃ y, y = L.getD k [] := ⟨_, rfl⟩
   rw [← hyy] at hld heq hy HG
   have HY := Lib.hid hyy.symm
   clear hyy
   clear hwr
   by_cases he : y = x
   ·
    have HE := Lib.hid (HG.out he)
    have heq2 : (y == x) = true := by rw [he]; exact beq_self_eq_true x
    rw [heq2] at heq
    clear he HG heq2
    go_wp2_with fail
    refine wp_region_quiet_lit (by kernel_rfl) (by kernel_rfl) ?_
    quiet_step (fail)
    quiet_step (fail)
    quiet_step (fail)
    refine quiet_load rfl rfl rfl hld ?_
    (try simp only [Act.put, List.setIfInBounds_toArray, List.set_cons_zero, List.set_cons_succ])
    refine quiet_load rfl rfl rfl hlx ?_
    (try simp only [Act.put, List.setIfInBounds_toArray, List.set_cons_zero, List.set_cons_succ])
    quiet_step (fail)
    refine wpQuiet_nil ?_
    rintro _ ⟨nq, rfl⟩
    go_wp2_with fail
    go_ret
    exact ⟨by rw [HE.out]; rfl, by rw [HW.out]; exact below_drewN (below_drewN HB.out _) _⟩
   ·
    have heq2 : (y == x) = false := beq_eq_false_iff_ne.2 he
    have HE := Lib.hid he
    rw [heq2] at heq
    clear he HG heq2
    go_wp2_with fail
    refine wp_region_quiet_lit (by kernel_rfl) (by kernel_rfl) ?_
    quiet_step (fail)
    quiet_step (fail)
    quiet_step (fail)
    refine quiet_load rfl rfl rfl hld ?_
    (try simp only [Act.put, List.setIfInBounds_toArray, List.set_cons_zero, List.set_cons_succ])
    refine quiet_load rfl rfl rfl hlx ?_
    (try simp only [Act.put, List.setIfInBounds_toArray, List.set_cons_zero, List.set_cons_succ])
    quiet_step (fail)
    refine wpQuiet_nil ?_
    rintro _ ⟨nq, rfl⟩
    go_wp2_with fail
    go_roundw
    case rel =>
     refine ⟨k + 1, _, hlt, by push_cast; rfl, fun j hj => ?_, by rw [HW.out, World.drewN_drewN]⟩
     rcases Nat.lt_or_ge j k with h | h
     ·
      exact HN.out j h
     ·
      obtain rfl : j = k := by omega
      rw [HY.out]; exact HE.out
    case measure => simp [intOf]; omega
  ·
   obtain rfl : k = L.length := by omega
   have hc : L.contains x = false := by
    rw [Bool.eq_false_iff, ne_eq, List.contains_iff_mem]
    intro hm
    obtain ⟨j, hj, he⟩ := List.getElem_of_mem hm
    refine HN.out j hj ?_
    rw [List.getD_eq_getElem?_getD, List.getElem?_eq_getElem hj]
    exact he
   have HE := Lib.hid hc
   clear hc hwr
   go_wp2_with fail
   go_ret
   exact ⟨by rw [HE.out]; rfl, by rw [HW.out]; exact below_drewN HB.out _⟩

end Go.Proofs.YtpeneeddfgmjpaaGreatDoor.ids

namespace Go.Proofs.YtpeneeddfgmjpaaGreatDoor.ids
open Go.RowKit Go.Proofs.YtpeneeddfgmjpaaGreatDoor.mem Go.Proofs.YtpeneeddfgmjpaaGreatDoor.sha

/-- what the loop of With keeps -/
structure WSt (w0 : World) (S : Nat) (v : Value) (L : List Id) (x : Id) (w : World) : Prop where
 rd0 : RdV w0 v L
 at_ : S = w0.heap.size
 box : Blk w S 24 (bv x).toArray
 below : Below w0.heap.size w0 w
theorem WSt.rd {w0 w : World} {S : Nat} {v : Value} {L : List Id} {x : Id} (h : WSt w0 S v L x w) : RdV w v L := h.rd0.next h.below
theorem WSt.turn {w0 w w' : World} {S : Nat} {v : Value} {L : List Id} {x : Id} (h : WSt w0 S v L x w) (ht : Turn (fun j => S < j) w w') : WSt w0 S v L x w' :=
 ⟨h.rd0, h.at_, h.box.turn ht (Nat.lt_irrefl S), h.below.trans (ht.below fun j hj => by have := h.at_; omega)⟩
theorem WSt.new {w0 w : World} {S : Nat} {v : Value} {L : List Id} {x : Id} (h : WSt w0 S v L x w) : New (fun j => S < j) w := fun _ hj => Nat.lt_of_lt_of_le h.box.lt hj
theorem WSt.next {w0 w w' : World} {S : Nat} {v : Value} {L : List Id} {x : Id} (h : WSt w0 S v L x w) (hb : Below w.heap.size w w') : WSt w0 S v L x w' := h.turn (Turn.fresh hb h.new)
theorem WSt.drew {w0 w : World} {S : Nat} {v : Value} {L : List Id} {x : Id} (h : WSt w0 S v L x w) : WSt w0 S v L x w.drew := h.turn (Turn.refl _ _).drew
/-- behind an append to a list of the call's own -/
theorem WSt.app {w0 w w' : World} {S : Nat} {v u : Value} {L M : List Id} {x : Id} (h : WSt w0 S v L x w) (ho : OwnI w (fun j => S < j) u M) (ht : Turn (fun k => u.ownBlock = some k ∨ w.heap.size ≤ k) w w') : WSt w0 S v L x w' :=
 h.turn (ht.mono fun j hj => hj.elim (ho.2.2 j) (h.new j))
theorem take_filter (L : List Id) (k : Nat) (h : k < L.length) (p : Id → Bool) : (L.take (k + 1)).filter p = if p (L.getD k []) = true then (L.take k).filter p ++ [L.getD k []] else (L.take k).filter p := by
 rw [List.take_succ_eq_append_getElem h, List.filter_append, List.getD_eq_getElem?_getD, List.getElem?_eq_getElem h]
 rw [Option.getD_some]
 by_cases hp : p L[k] = true
 ·
  rw [List.filter_cons_of_pos hp, if_pos hp]; rfl
 ·
  rw [List.filter_cons_of_neg hp, if_neg hp]; simp

end Go.Proofs.YtpeneeddfgmjpaaGreatDoor.ids
