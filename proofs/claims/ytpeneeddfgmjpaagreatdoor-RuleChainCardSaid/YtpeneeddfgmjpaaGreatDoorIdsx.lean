/-
  petrelref06.Compare.
  petrelref06.Same.
  petrelref06: the document's answer for sets of ids.
  What a loop keeps that goes through a list of ids beside a box of one id.
  petrelref06.With, Set, Without, Less, Both, Is.
  petrelref06.Set, Is.
-/
import Derived.Test.YtpeneeddfgmjpaaGreatDoorIdsp
import Derived.Deep.RegionHeld3
import Derived.Deep.CutRange
import Derived.Deep.CutBlock
import Derived.Test.YtpeneeddfgmjpaaGreatDoorIds
namespace Go.Proofs.YtpeneeddfgmjpaaGreatDoor.ids
open Go.RowKit Go.Proofs.YtpeneeddfgmjpaaGreatDoor.mem Go.Proofs.YtpeneeddfgmjpaaGreatDoor.sha

theorem B_lt_iff (a b : UInt8) : B a < B b ↔ a.toNat < b.toNat := by unfold B; omega
theorem box_cell {w : World} {S : Nat} {x : Id} (h : Blk w S 24 (bv x).toArray) (k : Nat) (hk : k < x.length) : w.cell? ⟨S, k, none⟩ = some (.int .u8 (B (x.getD k 0))) := by
 rw [h.cell, List.getElem?_toArray]
 exact bv_get _ _ hk

set_option maxHeartbeats 1000000 in
set_option maxRecDepth 100000 in
theorem rcompare_any (x y : Id) (w : World) (hx : x.length = 32) (hy : y.length = 32) : Calls Tryz.prog 42 #[idv x, idv y] w fun e w' => e = .returned (.int .i64 (cmpL x y)) ∧ Below w.heap.size w w' := by
 obtain ⟨w1, hw1⟩ : ∃ u, u = (w.alloc (.cells (bv x).toArray 24)).alloc (.cells (bv y).toArray 24) := ⟨_, rfl⟩
 have hX : Blk w1 w.heap.size 24 (bv x).toArray := by rw [hw1]; exact (Blk.new w _ _).alloc _
 have hY : Blk w1 (w.heap.size + 1) 24 (bv y).toArray := by rw [hw1]; exact Blk.at_ (by simp) _ _
 have hB : Below w.heap.size w w1 := by rw [hw1]; exact ((Below.refl _ _).alloc (Nat.le_refl _) _).alloc (by simp) _
 have HW := Lib.hid hw1
 have HX := Lib.hid hX
 have HY := Lib.hid hY
 have HB := Lib.hid hB
 clear hX hY hB hw1
 unfold idv
 go_enter Tryz.func42, Tryz.ntmps42
 go_wp2_with fail
 refine wp_at HW.out.symm ?_
 clear HW
 have HXL := Lib.hid hx
 have HYL := Lib.hid hy
 clear hx hy
 go_loopw [5] (fun i wr => ∃ k m : Nat, k ≤ 32 ∧ i = .int .i64 k ∧ cmpL (x.drop k) (y.drop k) = cmpL x y ∧ wr = w1.drewN m) (fun i _ => 32 - (intOf i).toNat)
 case atStart => exact ⟨0, 0, by decide, rfl, rfl, rfl⟩
 case round =>
  obtain ⟨k, m, hk, rfl, hcmp, hwr⟩ := hrel
  have HC := Lib.hid hcmp
  have HW := Lib.hid hwr
  have k0 : (0 : Int) ≤ (k : Int) := Int.natCast_nonneg _
  by_cases hlt : k < 32
  ·
   have kI : (k : Int) < 32 := by omega
   have cx : wr.cell? ⟨w.heap.size, k, none⟩ = some (.int .u8 (B (x.getD k 0))) := by rw [hwr]; exact box_cell HX.out k (by rw [HXL.out]; exact hlt)
   have cy : wr.cell? ⟨w.heap.size + 1, k, none⟩ = some (.int .u8 (B (y.getD k 0))) := by rw [hwr]; exact box_cell HY.out k (by rw [HYL.out]; exact hlt)
   have hst := cmpL_step x y k (by rw [HXL.out]; exact hlt) (by rw [HYL.out]; exact hlt)
   rw [hcmp] at hst
   have HI1 := B_lt_iff (x.getD k 0) (y.getD k 0)
   have HI2 := B_lt_iff (y.getD k 0) (x.getD k 0)
   generalize x.getD k 0 = a at cx hst HI1 HI2
   generalize y.getD k 0 = b at cy hst HI1 HI2
   clear hwr hcmp
   by_cases h1 : B a < B b
   ·
    rw [if_pos (HI1.1 h1)] at hst
    have HS := Lib.hid hst
    clear hst HI1 HI2
    go_wp2_with fail
    go_quiet (fail)
    go_wp2_with fail
    go_ret
    exact ⟨by rw [HS.out]; rfl, by rw [HW.out]; exact below_drewN (below_drewN HB.out m) nq⟩
   ·
    by_cases h2 : B b < B a
    ·
     rw [if_neg (fun h => h1 (HI1.2 h)), if_pos (HI2.1 h2)] at hst
     have HS := Lib.hid hst
     have h1' : B b ≤ B a := by omega
     clear hst HI1 HI2 h1
     go_wp2_with fail
     go_quiet (fail)
     obtain ⟨wq, hwq⟩ : ∃ u, u = wr.drewN nq := ⟨_, rfl⟩
     rw [← hwq]
     replace cx : wq.cell? _ = _ := (congrArg (fun u : World => u.cell? _) hwq).trans cx
     replace cy : wq.cell? _ = _ := (congrArg (fun u : World => u.cell? _) hwq).trans cy
     have HWQ := Lib.hid hwq
     clear hwq
     go_wp2_with fail
     go_quiet (fail)
     go_wp2_with fail
     go_ret
     exact ⟨by rw [HS.out]; rfl, by rw [HWQ.out, HW.out]; exact below_drewN (below_drewN (below_drewN HB.out _) _) _⟩
    ·
     rw [if_neg (fun h => h1 (HI1.2 h)), if_neg (fun h => h2 (HI2.2 h))] at hst
     have HS := Lib.hid hst
     have h1' : B b = B a := by omega
     clear hst HI1 HI2 h1 h2
     rw [h1'] at cy
     clear h1'
     go_wp2_with fail
     go_quiet (fail)
     obtain ⟨wq, hwq⟩ : ∃ u, u = wr.drewN nq := ⟨_, rfl⟩
     rw [← hwq]
     replace cx : wq.cell? _ = _ := (congrArg (fun u : World => u.cell? _) hwq).trans cx
     replace cy : wq.cell? _ = _ := (congrArg (fun u : World => u.cell? _) hwq).trans cy
     have HWQ := Lib.hid hwq
     clear hwq
     go_wp2_with fail
     go_quiet (fail)
     go_wp2_with fail
     go_roundw
     case rel => exact ⟨k + 1, _, hlt, by push_cast; rfl, HS.out.symm, by rw [HWQ.out, HW.out, World.drewN_drewN, World.drewN_drewN]⟩
     case measure => simp [intOf]; omega
  ·
   obtain rfl : k = 32 := by omega
   have h0 : cmpL x y = 0 := by
    rw [← HC.out, List.drop_of_length_le (by rw [HXL.out]; exact Nat.le_refl _), List.drop_of_length_le (by rw [HYL.out]; exact Nat.le_refl _)]
    rfl
   have HS := Lib.hid h0
   clear h0 hlt hcmp hwr
   go_wp2_with fail
   go_ret
   exact ⟨by rw [HS.out]; rfl, by rw [HW.out]; exact below_drewN HB.out _⟩

end Go.Proofs.YtpeneeddfgmjpaaGreatDoor.ids

namespace Go.Proofs.YtpeneeddfgmjpaaGreatDoor.ids
open Go.RowKit Go.Proofs.YtpeneeddfgmjpaaGreatDoor.mem Go.Proofs.YtpeneeddfgmjpaaGreatDoor.sha

theorem list_eq_of (L M : List Id) (hl : L.length = M.length) (h : ∀ j, j < L.length → L.getD j [] = M.getD j []) : L = M := by
 apply List.ext_getElem hl
 intro i h1 h2
 have := h i h1
 rw [List.getD_eq_getElem?_getD, List.getD_eq_getElem?_getD, List.getElem?_eq_getElem h1, List.getElem?_eq_getElem h2] at this
 exact this

set_option maxHeartbeats 1000000 in
set_option maxRecDepth 100000 in
theorem rsame_any (L M : List Id) (ad ad2 : Option Addr) (n cap n2 cap2 : Nat) (w : World) (hL : RdV w (.slice ad n cap) L) (hM : RdV w (.slice ad2 n2 cap2) M) :
  Calls Tryz.prog 10 #[.slice ad n cap, .slice ad2 n2 cap2] w fun e w' => e = .returned (.bool (L == M)) ∧ ∃ m, w' = w.drewN m := by
 obtain ⟨hL1, hmax, _, _, hvv, _⟩ := id hL
 have hn : n = L.length := by cases hvv; rfl
 obtain ⟨hM1, hmax2, _, _, hvv2, _⟩ := id hM
 have hn2 : n2 = M.length := by cases hvv2; rfl
 subst hn; subst hn2
 clear hvv hvv2
 have HL := Lib.hid hL
 have HM := Lib.hid hM
 clear hL hM
 by_cases hne : L.length = M.length
 case neg =>
  have hb : (L == M) = false := beq_eq_false_iff_ne.2 (fun e => hne (by rw [e]))
  have hi : ((L.length : Int) != (M.length : Int)) = true := bne_iff_ne.2 (by omega)
  rw [hb]
  clear hne hb
  go_enter Tryz.func10, Tryz.ntmps10
  go_wp2_with fail
  go_ret
  exact ⟨rfl, 0, rfl⟩
 have HE := Lib.hid hne
 have hi : (M.length : Int) = (L.length : Int) := by omega
 clear hne
 go_enter Tryz.func10, Tryz.ntmps10
 go_wp2_with fail
 go_loopw [5] (fun i wr => ∃ k m : Nat, k ≤ L.length ∧ i = .int .i64 k ∧ (∀ j, j < k → L.getD j [] = M.getD j []) ∧ wr = w.drewN m) (fun i _ => L.length - (intOf i).toNat)
 case atStart => exact ⟨0, 0, Nat.zero_le _, rfl, fun j hj => by omega, rfl⟩
 case round =>
  obtain ⟨k, m, hk, rfl, hno, hwr⟩ := hrel
  have HN := Lib.hid hno
  have HW := Lib.hid hwr
  have k0 : (0 : Int) ≤ (k : Int) := Int.natCast_nonneg _
  clear hno
  by_cases hlt : k < L.length
  ·
   have kI : (k : Int) < (L.length : Int) := by omega
   obtain ⟨b, off, rfl, -, hb, hld⟩ := (show RdV wr _ L by rw [hwr]; exact HL.out.drewN m).load hlt
   obtain ⟨b2, off2, rfl, -, hb2, hld2⟩ := (show RdV wr _ M by rw [hwr]; exact HM.out.drewN m).load (show k < M.length by have := HE.out; omega)
   have hy := hL1.get hlt
   have hz := hM1.get (show k < M.length by have := HE.out; omega)
   have heq := fun u : World => neq_ids u (L.getD k []) (M.getD k []) hy hz
   unfold idv at heq
   obtain ⟨y, hyy⟩ : ∃ y, y = L.getD k [] := ⟨_, rfl⟩
   obtain ⟨z, hzz⟩ : ∃ y, y = M.getD k [] := ⟨_, rfl⟩
   rw [← hyy] at hld heq hy
   rw [← hzz] at hld2 heq hz
   have HY := Lib.hid hyy.symm
   have HZ := Lib.hid hzz.symm
   clear hwr hyy hzz
   by_cases he : y = z
   ·
    have heq2 : (y != z) = false := by rw [he, bne, beq_self_eq_true]; rfl
    have HQ := Lib.hid he
    rw [heq2] at heq
    clear he heq2
    go_wp2_with fail
    refine wp_region_quiet_lit (by kernel_rfl) (by kernel_rfl) ?_
    quiet_step (fail)
    quiet_step (fail)
    quiet_step (fail)
    refine quiet_load rfl rfl rfl hld ?_
    (try simp only [Act.put, List.setIfInBounds_toArray, List.set_cons_zero, List.set_cons_succ])
    quiet_step (fail)
    quiet_step (fail)
    quiet_step (fail)
    refine quiet_load rfl rfl rfl hld2 ?_
    (try simp only [Act.put, List.setIfInBounds_toArray, List.set_cons_zero, List.set_cons_succ])
    quiet_step (fail)
    refine wpQuiet_nil ?_
    rintro _ ⟨nq, rfl⟩
    go_wp2_with fail
    go_roundw
    case rel =>
     refine ⟨k + 1, _, hlt, by push_cast; rfl, fun j hj => ?_, by rw [HW.out, World.drewN_drewN]⟩
     rcases Nat.lt_or_ge j k with h | h
     ·
      exact HN.out j h
     ·
      obtain rfl : j = k := by omega
      rw [HY.out, HZ.out]; exact HQ.out
    case measure => simp [intOf]; omega
   ·
    have heq2 : (y != z) = true := bne_iff_ne.2 he
    have hr : (L == M) = false := beq_eq_false_iff_ne.2 (fun e => he (by rw [← HY.out, ← HZ.out, e]))
    have HRR := Lib.hid hr
    rw [heq2] at heq
    clear he heq2 hr
    go_wp2_with fail
    refine wp_region_quiet_lit (by kernel_rfl) (by kernel_rfl) ?_
    quiet_step (fail)
    quiet_step (fail)
    quiet_step (fail)
    refine quiet_load rfl rfl rfl hld ?_
    (try simp only [Act.put, List.setIfInBounds_toArray, List.set_cons_zero, List.set_cons_succ])
    quiet_step (fail)
    quiet_step (fail)
    quiet_step (fail)
    refine quiet_load rfl rfl rfl hld2 ?_
    (try simp only [Act.put, List.setIfInBounds_toArray, List.set_cons_zero, List.set_cons_succ])
    quiet_step (fail)
    refine wpQuiet_nil ?_
    rintro _ ⟨nq, rfl⟩
    go_wp2_with fail
    go_ret
    exact ⟨by rw [HRR.out]; rfl, _, by rw [HW.out, World.drewN_drewN]⟩
  ·
   obtain rfl : k = L.length := by omega
   have hr : (L == M) = true := by rw [list_eq_of L M HE.out HN.out]; exact beq_self_eq_true M
   have HRR := Lib.hid hr
   clear hr hwr
   go_wp2_with fail
   go_ret
   exact ⟨by rw [HRR.out]; rfl, _, HW.out⟩

theorem rsame_eq {w : World} {v u : Value} {L : List Id} (h : RdV w v L) (k : RdV w u L) : Calls Tryz.prog 10 #[v, u] w fun e w' => e = .returned (.bool true) ∧ Below w.heap.size w w' := by
 obtain ⟨ad, cap, rfl⟩ := h.form
 obtain ⟨ad2, cap2, rfl⟩ := k.form
 refine (rsame_any L L ad ad2 L.length cap L.length cap2 w h k).mono ?_
 rintro e w' ⟨rfl, m, rfl⟩
 rw [beq_self_eq_true]
 exact ⟨rfl, below_drewN (Below.refl _ _) m⟩
theorem RdV.to {w : World} {v : Value} {L M : List Id} (h : RdV w v L) (e : L = M) : RdV w v M := e ▸ h
end Go.Proofs.YtpeneeddfgmjpaaGreatDoor.ids

namespace Go.Proofs.YtpeneeddfgmjpaaGreatDoor.ids
open Go.RowKit Go.Proofs.YtpeneeddfgmjpaaGreatDoor.mem Go.Proofs.YtpeneeddfgmjpaaGreatDoor.sha

set_option maxHeartbeats 1000000 in
set_option maxRecDepth 100000 in
theorem rhas_any (L : List Id) (x : Id) (ad : Option Addr) (n cap : Nat) (w : World) (hL : RdV w (.slice ad n cap) L) (hx : x.length = 32) :
  Calls Tryz.prog 43 #[.slice ad n cap, .agg (bv x).toArray] w fun e w' => e = .returned (.bool (L.contains x)) ∧ Below w.heap.size w w' := by
 obtain ⟨w1, hw1⟩ : ∃ u, u = w.alloc (.cells (bv x).toArray 24) := ⟨_, rfl⟩
 have hX : Blk w1 w.heap.size 24 (bv x).toArray := by rw [hw1]; exact Blk.new w _ _
 have hB : Below w.heap.size w w1 := by rw [hw1]; exact (Below.refl _ _).alloc (Nat.le_refl _) _
 obtain ⟨_, hmax, _, _, hvv, _⟩ := id hL
 have hn : n = L.length := by cases hvv; rfl
 clear hvv
 have HR := Lib.hid (hL.below hB (Nat.le_refl _))
 have HOK := Lib.hid hL.1
 have HW := Lib.hid hw1
 have HX := Lib.hid hX
 have HB := Lib.hid hB
 clear hX hB hw1 hL
 subst hn
 go_enter Tryz.func43, Tryz.ntmps43
 go_wp2_with fail
 refine wp_at HW.out.symm ?_
 clear HW
 go_loopw [5] (fun i wr => ∃ k m : Nat, k ≤ L.length ∧ i = .int .i64 k ∧ (∀ j, j < k → ¬ L.getD j [] = x) ∧ wr = w1.drewN m) (fun i _ => L.length - (intOf i).toNat)
 case atStart => exact ⟨0, 0, Nat.zero_le _, rfl, fun j hj => by omega, rfl⟩
 case round =>
  obtain ⟨k, m, hk, rfl, hno, hwr⟩ := hrel
  have HN := Lib.hid hno
  have HW := Lib.hid hwr
  have k0 : (0 : Int) ≤ (k : Int) := Int.natCast_nonneg _
  clear hno
  by_cases hlt : k < L.length
  ·
   have kI : (k : Int) < (L.length : Int) := by omega
   obtain ⟨b, off, rfl, -, hb, hld⟩ := (show RdV wr _ L by rw [hwr]; exact HR.out.drewN m).load hlt
   have hlx := box_load (show Blk wr w.heap.size 24 (bv x).toArray by rw [hwr]; exact HX.out) hx
   have hy := HOK.out.get hlt
   have heq := fun u : World => eql_ids u (L.getD k []) x hy hx
   unfold idv at heq
   have HG : Hid (L.getD k [] = x → L.contains x = true) := Lib.hid fun h => by
    rw [List.contains_iff_mem, ← h, List.getD_eq_getElem?_getD, List.getElem?_eq_getElem hlt]
    exact List.getElem_mem _
   obtain ⟨y, hyy⟩ : ∃ y, y = L.getD k [] := ⟨_, rfl⟩
   rw [← hyy] at hld heq hy HG
   have HY := Lib.hid hyy.symm
   clear hyy
   clear hwr
   by_cases he : y = x
   ·
    have HE := Lib.hid (HG.out he)
    have heq2 : (y == x) = true := by rw [he]; exact beq_self_eq_true x
    rw [heq2] at heq
    clear he HG heq2
    go_wp2_with fail
    refine wp_region_quiet_lit (by kernel_rfl) (by kernel_rfl) ?_
    quiet_step (fail)
    quiet_step (fail)
    quiet_step (fail)
    refine quiet_load rfl rfl rfl hld ?_
    (try simp only [Act.put, List.setIfInBounds_toArray, List.set_cons_zero, List.set_cons_succ])
    refine quiet_load rfl rfl rfl hlx ?_
    (try simp only [Act.put, List.setIfInBounds_toArray, List.set_cons_zero, List.set_cons_succ])
    quiet_step (fail)
    refine wpQuiet_nil ?_
    rintro _ ⟨nq, rfl⟩
    go_wp2_with fail
    go_ret
    exact ⟨by rw [HE.out]; rfl, by rw [HW.out]; exact below_drewN (below_drewN HB.out _) _⟩
   ·
    have heq2 : (y == x) = false := beq_eq_false_iff_ne.2 he
    have HE := Lib.hid he
    rw [heq2] at heq
    clear he HG heq2
    go_wp2_with fail
    refine wp_region_quiet_lit (by kernel_rfl) (by kernel_rfl) ?_
    quiet_step (fail)
    quiet_step (fail)
    quiet_step (fail)
    refine quiet_load rfl rfl rfl hld ?_
    (try simp only [Act.put, List.setIfInBounds_toArray, List.set_cons_zero, List.set_cons_succ])
    refine quiet_load rfl rfl rfl hlx ?_
    (try simp only [Act.put, List.setIfInBounds_toArray, List.set_cons_zero, List.set_cons_succ])
    quiet_step (fail)
    refine wpQuiet_nil ?_
    rintro _ ⟨nq, rfl⟩
    go_wp2_with fail
    go_roundw
    case rel =>
     refine ⟨k + 1, _, hlt, by push_cast; rfl, fun j hj => ?_, by rw [HW.out, World.drewN_drewN]⟩
     rcases Nat.lt_or_ge j k with h | h
     ·
      exact HN.out j h
     ·
      obtain rfl : j = k := by omega
      rw [HY.out]; exact HE.out
    case measure => simp [intOf]; omega
  ·
   obtain rfl : k = L.length := by omega
   have hc : L.contains x = false := by
    rw [Bool.eq_false_iff, ne_eq, List.contains_iff_mem]
    intro hm
    obtain ⟨j, hj, he⟩ := List.getElem_of_mem hm
    refine HN.out j hj ?_
    rw [List.getD_eq_getElem?_getD, List.getElem?_eq_getElem hj]
    exact he
   have HE := Lib.hid hc
   clear hc hwr
   go_wp2_with fail
   go_ret
   exact ⟨by rw [HE.out]; rfl, by rw [HW.out]; exact below_drewN HB.out _⟩

end Go.Proofs.YtpeneeddfgmjpaaGreatDoor.ids

namespace Go.Proofs.YtpeneeddfgmjpaaGreatDoor.ids
open Go.RowKit Go.Proofs.YtpeneeddfgmjpaaGreatDoor.mem Go.Proofs.YtpeneeddfgmjpaaGreatDoor.sha

/-- what the loop of With keeps -/
structure WSt (w0 : World) (S : Nat) (v : Value) (L : List Id) (x : Id) (w : World) : Prop where
 rd0 : RdV w0 v L
 at_ : S = w0.heap.size
 box : Blk w S 24 (bv x).toArray
 below : Below w0.heap.size w0 w
theorem WSt.rd {w0 w : World} {S : Nat} {v : Value} {L : List Id} {x : Id} (h : WSt w0 S v L x w) : RdV w v L := h.rd0.next h.below
theorem WSt.turn {w0 w w' : World} {S : Nat} {v : Value} {L : List Id} {x : Id} (h : WSt w0 S v L x w) (ht : Turn (fun j => S < j) w w') : WSt w0 S v L x w' :=
 ⟨h.rd0, h.at_, h.box.turn ht (Nat.lt_irrefl S), h.below.trans (ht.below fun j hj => by have := h.at_; omega)⟩
theorem WSt.new {w0 w : World} {S : Nat} {v : Value} {L : List Id} {x : Id} (h : WSt w0 S v L x w) : New (fun j => S < j) w := fun _ hj => Nat.lt_of_lt_of_le h.box.lt hj
theorem WSt.next {w0 w w' : World} {S : Nat} {v : Value} {L : List Id} {x : Id} (h : WSt w0 S v L x w) (hb : Below w.heap.size w w') : WSt w0 S v L x w' := h.turn (Turn.fresh hb h.new)
theorem WSt.drew {w0 w : World} {S : Nat} {v : Value} {L : List Id} {x : Id} (h : WSt w0 S v L x w) : WSt w0 S v L x w.drew := h.turn (Turn.refl _ _).drew
/-- behind an append to a list of the call's own -/
theorem WSt.app {w0 w w' : World} {S : Nat} {v u : Value} {L M : List Id} {x : Id} (h : WSt w0 S v L x w) (ho : OwnI w (fun j => S < j) u M) (ht : Turn (fun k => u.ownBlock = some k ∨ w.heap.size ≤ k) w w') : WSt w0 S v L x w' :=
 h.turn (ht.mono fun j hj => hj.elim (ho.2.2 j) (h.new j))
theorem take_filter (L : List Id) (k : Nat) (h : k < L.length) (p : Id → Bool) : (L.take (k + 1)).filter p = if p (L.getD k []) = true then (L.take k).filter p ++ [L.getD k []] else (L.take k).filter p := by
 rw [List.take_succ_eq_append_getElem h, List.filter_append, List.getD_eq_getElem?_getD, List.getElem?_eq_getElem h]
 rw [Option.getD_some]
 by_cases hp : p L[k] = true
 ·
  rw [List.filter_cons_of_pos hp, if_pos hp]; rfl
 ·
  rw [List.filter_cons_of_neg hp, if_neg hp]; simp

end Go.Proofs.YtpeneeddfgmjpaaGreatDoor.ids

namespace Go.Proofs.YtpeneeddfgmjpaaGreatDoor.ids
open Go.RowKit Go.Proofs.YtpeneeddfgmjpaaGreatDoor.mem Go.Proofs.YtpeneeddfgmjpaaGreatDoor.sha

theorem while_stop (p : Id → Bool) (L : List Id) (k : Nat) (hk : k ≤ L.length) (h1 : ∀ j, j < k → p (L.getD j []) = true) (h2 : k < L.length → p (L.getD k []) = false) : L.takeWhile p = L.take k ∧ L.dropWhile p = L.drop k := by
  induction L generalizing k with
  | nil =>
    obtain rfl : k = 0 := by simpa using hk
    exact ⟨rfl, rfl⟩
  | cons a L ih =>
    cases k with
    | zero =>
      have h := h2 (by simp)
      rw [List.getD_cons_zero] at h
      rw [List.takeWhile_cons, List.dropWhile_cons, h]
      exact ⟨rfl, rfl⟩
    | succ k =>
      have h := h1 0 (by omega)
      rw [List.getD_cons_zero] at h
      rw [List.takeWhile_cons, List.dropWhile_cons, h]
      obtain ⟨i1, i2⟩ := ih k (by simpa using hk) (fun j hj => by have := h1 (j + 1) (by omega); rwa [List.getD_cons_succ] at this) (fun hk => by have := h2 (by simpa using hk); rwa [List.getD_cons_succ] at this)
      rw [if_pos rfl, if_pos rfl, i1, i2]
      exact ⟨rfl, rfl⟩

/-- a list that a call answers: it reads, and its row is one of F, or there is none -/
def Got (w : World) (F : Nat → Prop) (v : Value) (L : List Id) : Prop := RdV w v L ∧ ∀ b off n c, v = .slice (some ⟨b, off, none⟩) n c → F b

set_option maxHeartbeats 1000000 in
set_option maxRecDepth 100000 in
theorem rwith_any (L : List Id) (x : Id) (ad : Option Addr) (n cap : Nat) (w : World) (hL : RdV w (.slice ad n cap) L) (hx : x.length = 32) (hmax : L.length < 1000000) :
    Calls Tryz.prog 31 #[.slice ad n cap, .agg (bv x).toArray] w fun e w' => ∃ v, e = .returned v ∧ Got w' (fun k => w.heap.size ≤ k ∨ ∃ off, ad = some ⟨k, off, none⟩) v (withL L x) ∧ Below w.heap.size w w' := by
  obtain ⟨w1, hw1⟩ : ∃ u, u = w.alloc (.cells (bv x).toArray 24) := ⟨_, rfl⟩
  obtain ⟨S, hS⟩ : ∃ S, S = w.heap.size := ⟨_, rfl⟩
  have hX : Blk w1 S 24 (bv x).toArray := by rw [hw1, hS]; exact Blk.new w _ _
  have hB : Below w.heap.size w w1 := by rw [hw1]; exact (Below.refl _ _).alloc (Nat.le_refl _) _
  have hn := hL.len
  subst hn
  have HR := Lib.hid hL
  have HOK := Lib.hid hL.ok
  have HS1 := Lib.hid (show WSt w S (.slice ad L.length cap) L x w1 from ⟨hL, hS, hX, hB⟩)
  have HSS := Lib.hid hS
  have HW := Lib.hid hw1
  have hbx : (Instr.loadAt 24 (.pointer (some ⟨S, 0, none⟩))).run Tryz.prog w1 = .ok (.agg (bv x).toArray) w1 := box_load hX hx 0
  clear hX hB hw1 hL hS
  go_enter Tryz.func31, Tryz.ntmps31
  go_upto_region 1 with fail
  refine wp_at HW.out.symm ?_
  rw [← HSS.out]
  clear HW
  have HH := rhas_any L x ad L.length cap w1 HS1.out.rd hx
  by_cases hc : L.contains x = true
  · rw [hc] at HH
    have HH' := Lib.hid HH
    clear HH
    go_wp2_with (first
      | ((with_reducible refine step_load (t := 24) (x := .tmp 3) (p := ?lph1) (v := ?lvh1) ?lgh1 ?loh1 ?lxh1 ?lrh1 ?lhh1); (case lgh1 => rfl); (case loh1 => rfl); (case lxh1 => rfl); (case lrh1 => exact hbx))
      | (go_at_call 43; refine HH'.out.mono ?_; rintro e w2 ⟨rfl, hb2⟩))
    go_ret
    have hw : withL L x = L := by unfold withL; rw [if_pos hc]
    rw [hw]
    have hB2 := HS1.out.below.trans (hb2.mono HS1.out.below.size)
    exact ⟨_, rfl, ⟨HR.out.next hB2, fun b off n c e => .inr ⟨off, by cases e; rfl⟩⟩, hB2⟩
  have hc' : L.contains x = false := by simpa using hc
  rw [hc'] at HH
  have HH' := Lib.hid HH
  have HC := Lib.hid hc'
  clear HH hc hc'
  go_wp2_with (first
    | ((with_reducible refine step_load (t := 24) (x := .tmp 3) (p := ?lph2) (v := ?lvh2) ?lgh2 ?loh2 ?lxh2 ?lrh2 ?lhh2); (case lgh2 => rfl); (case loh2 => rfl); (case lxh2 => rfl); (case lrh2 => exact hbx))
    | (go_at_call 43; refine HH'.out.mono ?_; rintro e w2 ⟨rfl, hb2⟩))
  have HS2 := Lib.hid (HS1.out.next hb2)
  clear HS1 HH' hb2 hbx
  go_loopw [5] (fun i wr => ∃ k : Nat, k ≤ L.length ∧ i = .int .i64 k ∧ (∀ j, j < k → decide (cmpL (L.getD j []) x < 0) = true) ∧ WSt w S (.slice ad L.length cap) L x wr) (fun i _ => L.length - (intOf i).toNat)
  case atStart => exact ⟨0, Nat.zero_le _, rfl, fun j hj => by omega, HS2.out⟩
  case round =>
    obtain ⟨k, hk, rfl, hno, hst⟩ := hrel
    have HN := Lib.hid hno
    have HS := Lib.hid hst
    have k0 : (0 : Int) ≤ (k : Int) := Int.natCast_nonneg _
    clear hno hst HS2
    by_cases hlt : k < L.length
    · have kI : (k : Int) < (L.length : Int) := by omega
      obtain ⟨b, off, rfl, -, -, -⟩ := HS.out.rd.load hlt
      obtain ⟨y, hyy⟩ : ∃ y, y = L.getD k [] := ⟨_, rfl⟩
      have hy : y.length = 32 := by rw [hyy]; exact HOK.out.get hlt
      have HY := Lib.hid hyy.symm
      clear hyy
      by_cases hcmp : cmpL y x < 0
      · go_wp2_with fail
        refine wp_region_held_drew (S := WSt w S (.slice (some ⟨b, off, none⟩) L.length cap) L x) (by kernel_rfl) ?_ (fun hHeld => ?_)
        · exact HS.out.drew
        refine' wpAnyH_take (i := 0) ?hira0 (by kernel_rfl) (by kernel_rfl) (by kernel_rfl) ?hqra0 (Or.inl ⟨?hwra0, ?hyra0⟩) (by assumption) ?hrra0
        case hira0 => (simp only [List.getElem?_toArray, List.getElem?_cons_zero]; rfl)
        case hqra0 => exact fun _ _ _ h => h
        case hwra0 => rfl
        case hyra0 => (intro w0 hSw; (try dsimp only at hSw); go_simp; try with_reducible rfl)
        (try simp only [Act.put, List.setIfInBounds_toArray, List.set_cons_zero, List.set_cons_succ])
        refine' wpAnyH_take (i := 1) ?hira1 (by kernel_rfl) (by kernel_rfl) (by kernel_rfl) ?hqra1 (Or.inl ⟨?hwra1, ?hyra1⟩) (by assumption) ?hrra1
        case hira1 => (simp only [List.getElem?_toArray, List.getElem?_cons_succ, List.getElem?_cons_zero]; rfl)
        case hqra1 => exact fun _ _ _ h => h
        case hwra1 => rfl
        case hyra1 => (intro w0 hSw; (try dsimp only at hSw); go_simp; try with_reducible rfl)
        (try simp only [Act.put, List.setIfInBounds_toArray, List.set_cons_zero, List.set_cons_succ])
        refine' wpAnyH_take (i := 2) ?hira2 (by kernel_rfl) (by kernel_rfl) (by kernel_rfl) ?hqra2 (Or.inl ⟨?hwra2, ?hyra2⟩) (by assumption) ?hrra2
        case hira2 => (simp only [List.getElem?_toArray, List.getElem?_cons_succ, List.getElem?_cons_zero]; rfl)
        case hqra2 => exact fun _ _ _ h => h
        case hwra2 => rfl
        case hyra2 => (intro w0 hSw; (try dsimp only at hSw); go_simp; try with_reducible rfl)
        (try simp only [Act.put, List.setIfInBounds_toArray, List.set_cons_zero, List.set_cons_succ])
        refine' wpAnyH_take (i := 3) ?hira3 (by kernel_rfl) (by kernel_rfl) (by kernel_rfl) ?hqra3 (Or.inl ⟨?hwra3, ?hyra3⟩) (by assumption) ?hrra3
        case hira3 => (simp only [List.getElem?_toArray, List.getElem?_cons_succ, List.getElem?_cons_zero]; rfl)
        case hqra3 => exact fun _ _ _ h => h
        case hwra3 => rfl
        case hyra3 => (intro w0 hSw; (try dsimp only at hSw); go_simp; try with_reducible rfl)
        (try simp only [Act.put, List.setIfInBounds_toArray, List.set_cons_zero, List.set_cons_succ])
        refine' wpAnyH_take (i := 4) ?hira4 (by kernel_rfl) (by kernel_rfl) (by kernel_rfl) ?hqra4 (Or.inl ⟨?hwra4, ?hyra4⟩) (by assumption) ?hrra4
        case hira4 => (simp only [List.getElem?_toArray, List.getElem?_cons_succ, List.getElem?_cons_zero]; rfl)
        case hqra4 => exact fun _ _ _ h => h
        case hwra4 => rfl
        case hyra4 => (intro w0 hSw; (try dsimp only at hSw); go_simp; try with_reducible rfl)
        (try simp only [Act.put, List.setIfInBounds_toArray, List.set_cons_zero, List.set_cons_succ])
        refine' wpAnyH_take (i := 5) ?hira5 (by kernel_rfl) (by kernel_rfl) (by kernel_rfl) ?hqra5 (Or.inl ⟨?hwra5, ?hyra5⟩) (by assumption) ?hrra5
        case hira5 => (simp only [List.getElem?_toArray, List.getElem?_cons_succ, List.getElem?_cons_zero]; rfl)
        case hqra5 => exact fun _ _ _ h => h
        case hwra5 => rfl
        case hyra5 => (intro w0 hSw; (try dsimp only at hSw); go_simp; try with_reducible rfl)
        (try simp only [Act.put, List.setIfInBounds_toArray, List.set_cons_zero, List.set_cons_succ])
        refine' wpAnyH_take (i := 6) ?hira6 (by kernel_rfl) (by kernel_rfl) (by kernel_rfl) ?hqra6 (Or.inl ⟨?hwra6, ?hyra6⟩) (by assumption) ?hrra6
        case hira6 => (simp only [List.getElem?_toArray, List.getElem?_cons_succ, List.getElem?_cons_zero]; rfl)
        case hqra6 => exact fun _ _ _ h => h
        case hwra6 => rfl
        case hyra6 => (intro w0 hSw; (try dsimp only at hSw); go_simp; try with_reducible rfl)
        (try simp only [Act.put, List.setIfInBounds_toArray, List.set_cons_zero, List.set_cons_succ])
        refine' wpAnyH_take (i := 7) ?hira7 (by kernel_rfl) (by kernel_rfl) (by kernel_rfl) ?hqra7 (Or.inl ⟨?hwra7, ?hyra7⟩) (by assumption) ?hrra7
        case hira7 => (simp only [List.getElem?_toArray, List.getElem?_cons_succ, List.getElem?_cons_zero]; rfl)
        case hqra7 => exact fun _ _ _ h => h
        case hwra7 => rfl
        case hyra7 => (intro w0 hSw; (try dsimp only at hSw); go_simp; try with_reducible rfl)
        (try simp only [Act.put, List.setIfInBounds_toArray, List.set_cons_zero, List.set_cons_succ])
        refine' wpAnyH_take (i := 8) ?hira8 (by kernel_rfl) (by kernel_rfl) (by kernel_rfl) ?hqra8 (Or.inl ⟨?hwra8, ?hyra8⟩) (by assumption) ?hrra8
        case hira8 => (simp only [List.getElem?_toArray, List.getElem?_cons_succ, List.getElem?_cons_zero]; rfl)
        case hqra8 => exact fun _ _ _ h => h
        case hwra8 => rfl
        case hyra8 => exact fun w0 hSw => run_exec_load rfl rfl (hSw.rd.load_y hlt HY.out)
        (try simp only [Act.put, List.setIfInBounds_toArray, List.set_cons_zero, List.set_cons_succ])
        refine' wpAnyH_take (i := 9) ?hira9 (by kernel_rfl) (by kernel_rfl) (by kernel_rfl) ?hqra9 (Or.inl ⟨?hwra9, ?hyra9⟩) (by assumption) ?hrra9
        case hira9 => (simp only [List.getElem?_toArray, List.getElem?_cons_succ, List.getElem?_cons_zero]; rfl)
        case hqra9 => exact fun _ _ _ h => h
        case hwra9 => rfl
        case hyra9 => exact fun w0 hSw => run_exec_load rfl rfl (box_load hSw.box hx 0)
        (try simp only [Act.put, List.setIfInBounds_toArray, List.set_cons_zero, List.set_cons_succ])
        refine wpAnyH_ready (rs := [10]) (by kernel_rfl) (by simp) ?_
        refine' AllReadyH.cons ?hira10 (fun K hK => ?hrra10) AllReadyH.nil
        case hira10 => (simp only [List.getElem?_toArray, List.getElem?_cons_succ, List.getElem?_cons_zero]; rfl)
        go_simp
        refine (rcompare_any y x _ hy hx).mono ?_; rintro e wA ⟨rfl, hbA⟩
        refine hK.out _ _ ?_ (fun hHeld => ?_)
        · exact hHeld.next hbA
        clear hK K
        (try simp only [Act.put, List.setIfInBounds_toArray, List.set_cons_zero, List.set_cons_succ])
        refine' wpAnyH_take (i := 11) ?hira11 (by kernel_rfl) (by kernel_rfl) (by kernel_rfl) ?hqra11 (Or.inl ⟨?hwra11, ?hyra11⟩) (by assumption) ?hrra11
        case hira11 => (simp only [List.getElem?_toArray, List.getElem?_cons_succ, List.getElem?_cons_zero]; rfl)
        case hqra11 => exact fun _ _ _ h => h
        case hwra11 => rfl
        case hyra11 => (intro w0 hSw; (try dsimp only at hSw); go_simp; try with_reducible rfl)
        (try simp only [Act.put, List.setIfInBounds_toArray, List.set_cons_zero, List.set_cons_succ])
        refine' wpAnyH_take (i := 12) ?hira12 (by kernel_rfl) (by kernel_rfl) (by kernel_rfl) ?hqra12 (Or.inl ⟨?hwra12, ?hyra12⟩) (by assumption) ?hrra12
        case hira12 => (simp only [List.getElem?_toArray, List.getElem?_cons_succ, List.getElem?_cons_zero]; rfl)
        case hqra12 => exact fun _ _ _ h => h
        case hwra12 => rfl
        case hyra12 => (intro w0 hSw; (try dsimp only at hSw); go_simp; try with_reducible rfl)
        (try simp only [Act.put, List.setIfInBounds_toArray, List.set_cons_zero, List.set_cons_succ])
        refine wpAnyH_done (by kernel_rfl) ?_ _
        go_wp2_with fail
        go_roundw
        case rel =>
          refine ⟨k + 1, hlt, by push_cast; rfl, fun j hj => ?_, hHeld⟩
          rcases Nat.lt_or_ge j k with h | h
          · exact HN.out j h
          · obtain rfl : j = k := by omega
            rw [HY.out]; exact decide_eq_true hcmp
        case measure => simp [intOf]; omega
      · have hge : (0 : Int) ≤ cmpL y x := by omega
        have hw := while_stop (fun z => decide (cmpL z x < 0)) L k hk HN.out (fun _ => by show decide (cmpL (L.getD k []) x < 0) = false; rw [HY.out]; exact decide_eq_false hcmp)
        clear hcmp
        go_wp2_with fail
        refine wp_region_held_drew (S := WSt w S (.slice (some ⟨b, off, none⟩) L.length cap) L x) (by kernel_rfl) ?_ (fun hHeld => ?_)
        · exact HS.out.drew
        refine' wpAnyH_take (i := 0) ?hirb0 (by kernel_rfl) (by kernel_rfl) (by kernel_rfl) ?hqrb0 (Or.inl ⟨?hwrb0, ?hyrb0⟩) (by assumption) ?hrrb0
        case hirb0 => (simp only [List.getElem?_toArray, List.getElem?_cons_zero]; rfl)
        case hqrb0 => exact fun _ _ _ h => h
        case hwrb0 => rfl
        case hyrb0 => (intro w0 hSw; (try dsimp only at hSw); go_simp; try with_reducible rfl)
        (try simp only [Act.put, List.setIfInBounds_toArray, List.set_cons_zero, List.set_cons_succ])
        refine' wpAnyH_take (i := 1) ?hirb1 (by kernel_rfl) (by kernel_rfl) (by kernel_rfl) ?hqrb1 (Or.inl ⟨?hwrb1, ?hyrb1⟩) (by assumption) ?hrrb1
        case hirb1 => (simp only [List.getElem?_toArray, List.getElem?_cons_succ, List.getElem?_cons_zero]; rfl)
        case hqrb1 => exact fun _ _ _ h => h
        case hwrb1 => rfl
        case hyrb1 => (intro w0 hSw; (try dsimp only at hSw); go_simp; try with_reducible rfl)
        (try simp only [Act.put, List.setIfInBounds_toArray, List.set_cons_zero, List.set_cons_succ])
        refine' wpAnyH_take (i := 2) ?hirb2 (by kernel_rfl) (by kernel_rfl) (by kernel_rfl) ?hqrb2 (Or.inl ⟨?hwrb2, ?hyrb2⟩) (by assumption) ?hrrb2
        case hirb2 => (simp only [List.getElem?_toArray, List.getElem?_cons_succ, List.getElem?_cons_zero]; rfl)
        case hqrb2 => exact fun _ _ _ h => h
        case hwrb2 => rfl
        case hyrb2 => (intro w0 hSw; (try dsimp only at hSw); go_simp; try with_reducible rfl)
        (try simp only [Act.put, List.setIfInBounds_toArray, List.set_cons_zero, List.set_cons_succ])
        refine' wpAnyH_take (i := 3) ?hirb3 (by kernel_rfl) (by kernel_rfl) (by kernel_rfl) ?hqrb3 (Or.inl ⟨?hwrb3, ?hyrb3⟩) (by assumption) ?hrrb3
        case hirb3 => (simp only [List.getElem?_toArray, List.getElem?_cons_succ, List.getElem?_cons_zero]; rfl)
        case hqrb3 => exact fun _ _ _ h => h
        case hwrb3 => rfl
        case hyrb3 => (intro w0 hSw; (try dsimp only at hSw); go_simp; try with_reducible rfl)
        (try simp only [Act.put, List.setIfInBounds_toArray, List.set_cons_zero, List.set_cons_succ])
        refine' wpAnyH_take (i := 4) ?hirb4 (by kernel_rfl) (by kernel_rfl) (by kernel_rfl) ?hqrb4 (Or.inl ⟨?hwrb4, ?hyrb4⟩) (by assumption) ?hrrb4
        case hirb4 => (simp only [List.getElem?_toArray, List.getElem?_cons_succ, List.getElem?_cons_zero]; rfl)
        case hqrb4 => exact fun _ _ _ h => h
        case hwrb4 => rfl
        case hyrb4 => (intro w0 hSw; (try dsimp only at hSw); go_simp; try with_reducible rfl)
        (try simp only [Act.put, List.setIfInBounds_toArray, List.set_cons_zero, List.set_cons_succ])
        refine' wpAnyH_take (i := 5) ?hirb5 (by kernel_rfl) (by kernel_rfl) (by kernel_rfl) ?hqrb5 (Or.inl ⟨?hwrb5, ?hyrb5⟩) (by assumption) ?hrrb5
        case hirb5 => (simp only [List.getElem?_toArray, List.getElem?_cons_succ, List.getElem?_cons_zero]; rfl)
        case hqrb5 => exact fun _ _ _ h => h
        case hwrb5 => rfl
        case hyrb5 => (intro w0 hSw; (try dsimp only at hSw); go_simp; try with_reducible rfl)
        (try simp only [Act.put, List.setIfInBounds_toArray, List.set_cons_zero, List.set_cons_succ])
        refine' wpAnyH_take (i := 6) ?hirb6 (by kernel_rfl) (by kernel_rfl) (by kernel_rfl) ?hqrb6 (Or.inl ⟨?hwrb6, ?hyrb6⟩) (by assumption) ?hrrb6
        case hirb6 => (simp only [List.getElem?_toArray, List.getElem?_cons_succ, List.getElem?_cons_zero]; rfl)
        case hqrb6 => exact fun _ _ _ h => h
        case hwrb6 => rfl
        case hyrb6 => (intro w0 hSw; (try dsimp only at hSw); go_simp; try with_reducible rfl)
        (try simp only [Act.put, List.setIfInBounds_toArray, List.set_cons_zero, List.set_cons_succ])
        refine' wpAnyH_take (i := 7) ?hirb7 (by kernel_rfl) (by kernel_rfl) (by kernel_rfl) ?hqrb7 (Or.inl ⟨?hwrb7, ?hyrb7⟩) (by assumption) ?hrrb7
        case hirb7 => (simp only [List.getElem?_toArray, List.getElem?_cons_succ, List.getElem?_cons_zero]; rfl)
        case hqrb7 => exact fun _ _ _ h => h
        case hwrb7 => rfl
        case hyrb7 => (intro w0 hSw; (try dsimp only at hSw); go_simp; try with_reducible rfl)
        (try simp only [Act.put, List.setIfInBounds_toArray, List.set_cons_zero, List.set_cons_succ])
        refine' wpAnyH_take (i := 8) ?hirb8 (by kernel_rfl) (by kernel_rfl) (by kernel_rfl) ?hqrb8 (Or.inl ⟨?hwrb8, ?hyrb8⟩) (by assumption) ?hrrb8
        case hirb8 => (simp only [List.getElem?_toArray, List.getElem?_cons_succ, List.getElem?_cons_zero]; rfl)
        case hqrb8 => exact fun _ _ _ h => h
        case hwrb8 => rfl
        case hyrb8 => exact fun w0 hSw => run_exec_load rfl rfl (hSw.rd.load_y hlt HY.out)
        (try simp only [Act.put, List.setIfInBounds_toArray, List.set_cons_zero, List.set_cons_succ])
        refine' wpAnyH_take (i := 9) ?hirb9 (by kernel_rfl) (by kernel_rfl) (by kernel_rfl) ?hqrb9 (Or.inl ⟨?hwrb9, ?hyrb9⟩) (by assumption) ?hrrb9
        case hirb9 => (simp only [List.getElem?_toArray, List.getElem?_cons_succ, List.getElem?_cons_zero]; rfl)
        case hqrb9 => exact fun _ _ _ h => h
        case hwrb9 => rfl
        case hyrb9 => exact fun w0 hSw => run_exec_load rfl rfl (box_load hSw.box hx 0)
        (try simp only [Act.put, List.setIfInBounds_toArray, List.set_cons_zero, List.set_cons_succ])
        refine wpAnyH_ready (rs := [10]) (by kernel_rfl) (by simp) ?_
        refine' AllReadyH.cons ?hirb10 (fun K hK => ?hrrb10) AllReadyH.nil
        case hirb10 => (simp only [List.getElem?_toArray, List.getElem?_cons_succ, List.getElem?_cons_zero]; rfl)
        go_simp
        refine (rcompare_any y x _ hy hx).mono ?_; rintro e wA ⟨rfl, hbA⟩
        refine hK.out _ _ ?_ (fun hHeld => ?_)
        · exact hHeld.next hbA
        clear hK K
        (try simp only [Act.put, List.setIfInBounds_toArray, List.set_cons_zero, List.set_cons_succ])
        refine' wpAnyH_take (i := 11) ?hirb11 (by kernel_rfl) (by kernel_rfl) (by kernel_rfl) ?hqrb11 (Or.inl ⟨?hwrb11, ?hyrb11⟩) (by assumption) ?hrrb11
        case hirb11 => (simp only [List.getElem?_toArray, List.getElem?_cons_succ, List.getElem?_cons_zero]; rfl)
        case hqrb11 => exact fun _ _ _ h => h
        case hwrb11 => rfl
        case hyrb11 => (intro w0 hSw; (try dsimp only at hSw); go_simp; try with_reducible rfl)
        (try simp only [Act.put, List.setIfInBounds_toArray, List.set_cons_zero, List.set_cons_succ])
        refine' wpAnyH_take (i := 12) ?hirb12 (by kernel_rfl) (by kernel_rfl) (by kernel_rfl) ?hqrb12 (Or.inl ⟨?hwrb12, ?hyrb12⟩) (by assumption) ?hrrb12
        case hirb12 => (simp only [List.getElem?_toArray, List.getElem?_cons_succ, List.getElem?_cons_zero]; rfl)
        case hqrb12 => exact fun _ _ _ h => h
        case hwrb12 => rfl
        case hyrb12 => (intro w0 hSw; (try dsimp only at hSw); go_simp; try with_reducible rfl)
        (try simp only [Act.put, List.setIfInBounds_toArray, List.set_cons_zero, List.set_cons_succ])
        refine wpAnyH_done (by kernel_rfl) ?_ _
        go_upto_region 6 with fail
        have hWl := by have h1 : withL L x = L.take k ++ x :: L.drop k := by unfold withL; rw [if_neg (by rw [HC.out]; decide), hw.1, hw.2]
                       exact h1
        have hs1 := fun u => (slice_hi hHeld.rd k hk u).1
        have hA := hHeld.next ((Below.refl wA.heap.size wA).alloc (Nat.le_refl _) (.cells #[] 24))
        obtain ⟨v1, w3, hrun1, hO1, ht1⟩ := run_append_rd (OwnI.laid0 wA (fun j => S < j) hHeld.new) (slice_hi hA.rd k hk wA).2 (by rw [List.length_nil, List.length_take]; omega) hA.new 22
        have h3 := hA.app (OwnI.laid0 wA (fun j => S < j) hHeld.new) ht1
        have hB3 := (Below.refl w3.heap.size w3).alloc (Nat.le_refl _) (.cells (bv x).toArray 24)
        have h3' := h3.next hB3
        have hbx : (Instr.loadAt 24 (.pointer (some ⟨S, 0, none⟩))).run Tryz.prog w3 = .ok (.agg (bv x).toArray) w3 := box_load h3.box hx 0
        obtain ⟨v2, w4, hrun2, hO2, ht2⟩ := run_append_rd (hO1.below hB3) (by have := RdV.laid w3 [x] (okIds.one hx) (by simp); rw [fl_one] at this; exact this) (by simp only [List.nil_append, List.length_take, List.length_cons, List.length_nil]; omega) h3'.new 22
        have h4 := h3'.app (hO1.below hB3) ht2
        have hs3 := fun u => (slice_lo h4.rd k hk u).1
        obtain ⟨v3, w5, hrun3, hO3, ht3⟩ := run_append_rd hO2 (slice_lo h4.rd k hk w4).2 (by simp only [List.nil_append, List.length_append, List.length_take, List.length_drop, List.length_cons, List.length_nil]; omega) h4.new 22
        have h5 := h4.app hO2 ht3
        have HO3 := Lib.hid hO3
        have H5 := Lib.hid h5
        have HWL := Lib.hid hWl
        clear hO1 hO2 hO3 ht1 ht2 ht3 h3 h3' hA h4 h5 hB3 hWl
        go_wp2_with (first
          | ((with_reducible refine step_slice (t := 22) (x := .tmp 27) (lo := none) (hi := (some (.tmp 28))) (vx := ?pxa1) (v := ?pva1) (vlo := ?paa1) (vhi := ?pba1) ?pga1 ?poa1 ?ppa1 ?pqa1 ?psa1 ?pra1 ?pha1); (case pga1 => rfl); (case poa1 => rfl); (case ppa1 => rfl); (case pqa1 => rfl); (case psa1 => rfl); (case pra1 => exact hs1 _))
          | ((with_reducible refine step_append (s := .tmp 26) (x := .tmp 29) (t := 22) (vs := ?asa2) (vx := ?axa2) (v' := ?ava2) (w' := ?awa2) ?aga2 ?aoa2 ?apa2 ?aqa2 ?ara2 ?aha2); (case aga2 => rfl); (case aoa2 => rfl); (case apa2 => rfl); (case aqa2 => rfl); (case ara2 => exact hrun1))
          | ((with_reducible refine step_load (t := 24) (x := .tmp 3) (p := ?lpa3) (v := ?lva3) ?lga3 ?loa3 ?lxa3 ?lra3 ?lha3); (case lga3 => rfl); (case loa3 => rfl); (case lxa3 => rfl); (case lra3 => exact hbx))
          | ((with_reducible refine step_build1 (x := .tmp 32) (y := ?bya4) ?bga4 ?boa4 ?bxa4 ?bla4 ?bha4); (case bga4 => rfl); (case boa4 => rfl); (case bxa4 => rfl); (case bla4 => exact hx))
          | ((with_reducible refine step_append (s := .tmp 31) (x := .tmp 33) (t := 22) (vs := ?asa5) (vx := ?axa5) (v' := ?ava5) (w' := ?awa5) ?aga5 ?aoa5 ?apa5 ?aqa5 ?ara5 ?aha5); (case aga5 => rfl); (case aoa5 => rfl); (case apa5 => rfl); (case aqa5 => rfl); (case ara5 => exact hrun2))
          | ((with_reducible refine step_slice (t := 22) (x := .tmp 36) (lo := (some (.tmp 37))) (hi := none) (vx := ?pxa6) (v := ?pva6) (vlo := ?paa6) (vhi := ?pba6) ?pga6 ?poa6 ?ppa6 ?pqa6 ?psa6 ?pra6 ?pha6); (case pga6 => rfl); (case poa6 => rfl); (case ppa6 => rfl); (case pqa6 => rfl); (case psa6 => rfl); (case pra6 => exact hs3 _))
          | ((with_reducible refine step_append (s := .tmp 35) (x := .tmp 38) (t := 22) (vs := ?asa7) (vx := ?axa7) (v' := ?ava7) (w' := ?awa7) ?aga7 ?aoa7 ?apa7 ?aqa7 ?ara7 ?aha7); (case aga7 => rfl); (case aoa7 => rfl); (case apa7 => rfl); (case aqa7 => rfl); (case ara7 => exact hrun3)))
        go_ret
        have hb5 := HO3.out.rdv (by simp only [List.nil_append, List.length_append, List.length_take, List.length_drop, List.length_cons, List.length_nil]; omega)
        rw [List.nil_append, List.append_assoc, List.singleton_append, ← HWL.out] at hb5
        exact ⟨v3, rfl, ⟨hb5.1, fun b off n c e => .inl (by have h1 := hb5.2 b off n c e; have h2 := HSS.out; omega)⟩, H5.out.below⟩
    · obtain rfl : k = L.length := by omega
      have hw := while_stop (fun z => decide (cmpL z x < 0)) L L.length (Nat.le_refl _) HN.out (fun h => absurd h hlt)
      clear hlt
      go_wp2_with fail
      refine wp_region_held_drew (S := WSt w S (.slice ad L.length cap) L x) (by kernel_rfl) ?_ (fun hHeld => ?_)
      · exact HS.out.drew
      refine' wpAnyH_take (i := 0) ?hirc0 (by kernel_rfl) (by kernel_rfl) (by kernel_rfl) ?hqrc0 (Or.inl ⟨?hwrc0, ?hyrc0⟩) (by assumption) ?hrrc0
      case hirc0 => (simp only [List.getElem?_toArray, List.getElem?_cons_zero]; rfl)
      case hqrc0 => exact fun _ _ _ h => h
      case hwrc0 => rfl
      case hyrc0 => (intro w0 hSw; (try dsimp only at hSw); go_simp; try with_reducible rfl)
      (try simp only [Act.put, List.setIfInBounds_toArray, List.set_cons_zero, List.set_cons_succ])
      refine' wpAnyH_take (i := 1) ?hirc1 (by kernel_rfl) (by kernel_rfl) (by kernel_rfl) ?hqrc1 (Or.inl ⟨?hwrc1, ?hyrc1⟩) (by assumption) ?hrrc1
      case hirc1 => (simp only [List.getElem?_toArray, List.getElem?_cons_succ, List.getElem?_cons_zero]; rfl)
      case hqrc1 => exact fun _ _ _ h => h
      case hwrc1 => rfl
      case hyrc1 => (intro w0 hSw; (try dsimp only at hSw); go_simp; try with_reducible rfl)
      (try simp only [Act.put, List.setIfInBounds_toArray, List.set_cons_zero, List.set_cons_succ])
      refine' wpAnyH_take (i := 2) ?hirc2 (by kernel_rfl) (by kernel_rfl) (by kernel_rfl) ?hqrc2 (Or.inl ⟨?hwrc2, ?hyrc2⟩) (by assumption) ?hrrc2
      case hirc2 => (simp only [List.getElem?_toArray, List.getElem?_cons_succ, List.getElem?_cons_zero]; rfl)
      case hqrc2 => exact fun _ _ _ h => h
      case hwrc2 => rfl
      case hyrc2 => (intro w0 hSw; (try dsimp only at hSw); go_simp; try with_reducible rfl)
      (try simp only [Act.put, List.setIfInBounds_toArray, List.set_cons_zero, List.set_cons_succ])
      refine' wpAnyH_take (i := 3) ?hirc3 (by kernel_rfl) (by kernel_rfl) (by kernel_rfl) ?hqrc3 (Or.inl ⟨?hwrc3, ?hyrc3⟩) (by assumption) ?hrrc3
      case hirc3 => (simp only [List.getElem?_toArray, List.getElem?_cons_succ, List.getElem?_cons_zero]; rfl)
      case hqrc3 => exact fun _ _ _ h => h
      case hwrc3 => rfl
      case hyrc3 => (intro w0 hSw; (try dsimp only at hSw); go_simp; try with_reducible rfl)
      (try simp only [Act.put, List.setIfInBounds_toArray, List.set_cons_zero, List.set_cons_succ])
      refine' wpAnyH_take (i := 4) ?hirc4 (by kernel_rfl) (by kernel_rfl) (by kernel_rfl) ?hqrc4 (Or.inl ⟨?hwrc4, ?hyrc4⟩) (by assumption) ?hrrc4
      case hirc4 => (simp only [List.getElem?_toArray, List.getElem?_cons_succ, List.getElem?_cons_zero]; rfl)
      case hqrc4 => exact fun _ _ _ h => h
      case hwrc4 => rfl
      case hyrc4 => (intro w0 hSw; (try dsimp only at hSw); go_simp; try with_reducible rfl)
      (try simp only [Act.put, List.setIfInBounds_toArray, List.set_cons_zero, List.set_cons_succ])
      refine' wpAnyH_take (i := 5) (v := undef) ?hirc5 (by kernel_rfl) (by kernel_rfl) (by kernel_rfl) ?hqrc5 (Or.inr ⟨?hwrc5, rfl⟩) (by assumption) ?hrrc5
      case hirc5 => (simp only [List.getElem?_toArray, List.getElem?_cons_succ, List.getElem?_cons_zero]; rfl)
      case hqrc5 => exact fun _ _ _ h => h
      case hwrc5 => rfl
      (try simp only [Act.put, List.setIfInBounds_toArray, List.set_cons_zero, List.set_cons_succ])
      refine' wpAnyH_take (i := 6) (v := undef) ?hirc6 (by kernel_rfl) (by kernel_rfl) (by kernel_rfl) ?hqrc6 (Or.inr ⟨?hwrc6, rfl⟩) (by assumption) ?hrrc6
      case hirc6 => (simp only [List.getElem?_toArray, List.getElem?_cons_succ, List.getElem?_cons_zero]; rfl)
      case hqrc6 => exact fun _ _ _ h => h
      case hwrc6 => rfl
      (try simp only [Act.put, List.setIfInBounds_toArray, List.set_cons_zero, List.set_cons_succ])
      refine' wpAnyH_take (i := 7) (v := undef) ?hirc7 (by kernel_rfl) (by kernel_rfl) (by kernel_rfl) ?hqrc7 (Or.inr ⟨?hwrc7, rfl⟩) (by assumption) ?hrrc7
      case hirc7 => (simp only [List.getElem?_toArray, List.getElem?_cons_succ, List.getElem?_cons_zero]; rfl)
      case hqrc7 => exact fun _ _ _ h => h
      case hwrc7 => rfl
      (try simp only [Act.put, List.setIfInBounds_toArray, List.set_cons_zero, List.set_cons_succ])
      refine' wpAnyH_take (i := 8) (v := undef) ?hirc8 (by kernel_rfl) (by kernel_rfl) (by kernel_rfl) ?hqrc8 (Or.inr ⟨?hwrc8, rfl⟩) (by assumption) ?hrrc8
      case hirc8 => (simp only [List.getElem?_toArray, List.getElem?_cons_succ, List.getElem?_cons_zero]; rfl)
      case hqrc8 => exact fun _ _ _ h => h
      case hwrc8 => rfl
      (try simp only [Act.put, List.setIfInBounds_toArray, List.set_cons_zero, List.set_cons_succ])
      refine' wpAnyH_take (i := 9) (v := undef) ?hirc9 (by kernel_rfl) (by kernel_rfl) (by kernel_rfl) ?hqrc9 (Or.inr ⟨?hwrc9, rfl⟩) (by assumption) ?hrrc9
      case hirc9 => (simp only [List.getElem?_toArray, List.getElem?_cons_succ, List.getElem?_cons_zero]; rfl)
      case hqrc9 => exact fun _ _ _ h => h
      case hwrc9 => rfl
      (try simp only [Act.put, List.setIfInBounds_toArray, List.set_cons_zero, List.set_cons_succ])
      refine' wpAnyH_take (i := 10) (v := undef) ?hirc10 (by kernel_rfl) (by kernel_rfl) (by kernel_rfl) ?hqrc10 (Or.inr ⟨?hwrc10, rfl⟩) (by assumption) ?hrrc10
      case hirc10 => (simp only [List.getElem?_toArray, List.getElem?_cons_succ, List.getElem?_cons_zero]; rfl)
      case hqrc10 => exact fun _ _ _ h => h
      case hwrc10 => rfl
      (try simp only [Act.put, List.setIfInBounds_toArray, List.set_cons_zero, List.set_cons_succ])
      refine' wpAnyH_take (i := 11) (v := undef) ?hirc11 (by kernel_rfl) (by kernel_rfl) (by kernel_rfl) ?hqrc11 (Or.inr ⟨?hwrc11, rfl⟩) (by assumption) ?hrrc11
      case hirc11 => (simp only [List.getElem?_toArray, List.getElem?_cons_succ, List.getElem?_cons_zero]; rfl)
      case hqrc11 => exact fun _ _ _ h => h
      case hwrc11 => rfl
      (try simp only [Act.put, List.setIfInBounds_toArray, List.set_cons_zero, List.set_cons_succ])
      refine' wpAnyH_take (i := 12) ?hirc12 (by kernel_rfl) (by kernel_rfl) (by kernel_rfl) ?hqrc12 (Or.inl ⟨?hwrc12, ?hyrc12⟩) (by assumption) ?hrrc12
      case hirc12 => (simp only [List.getElem?_toArray, List.getElem?_cons_succ, List.getElem?_cons_zero]; rfl)
      case hqrc12 => exact fun _ _ _ h => h
      case hwrc12 => rfl
      case hyrc12 => (intro w0 hSw; (try dsimp only at hSw); go_simp; try with_reducible rfl)
      (try simp only [Act.put, List.setIfInBounds_toArray, List.set_cons_zero, List.set_cons_succ])
      refine wpAnyH_done (by kernel_rfl) ?_ _
      obtain ⟨wA, hwA⟩ : ∃ u, u = wr.drew := ⟨_, rfl⟩
      rw [← hwA] at hHeld ⊢
      clear hwA
      go_upto_region 6 with fail
      have hWl := by have h1 : withL L x = L.take L.length ++ x :: L.drop L.length := by unfold withL; rw [if_neg (by rw [HC.out]; decide), hw.1, hw.2]
                     exact h1
      have hs1 := fun u => (slice_hi hHeld.rd L.length hk u).1
      have hA := hHeld.next ((Below.refl wA.heap.size wA).alloc (Nat.le_refl _) (.cells #[] 24))
      obtain ⟨v1, w3, hrun1, hO1, ht1⟩ := run_append_rd (OwnI.laid0 wA (fun j => S < j) hHeld.new) (slice_hi hA.rd L.length hk wA).2 (by rw [List.length_nil, List.length_take]; omega) hA.new 22
      have h3 := hA.app (OwnI.laid0 wA (fun j => S < j) hHeld.new) ht1
      have hB3 := (Below.refl w3.heap.size w3).alloc (Nat.le_refl _) (.cells (bv x).toArray 24)
      have h3' := h3.next hB3
      have hbx : (Instr.loadAt 24 (.pointer (some ⟨S, 0, none⟩))).run Tryz.prog w3 = .ok (.agg (bv x).toArray) w3 := box_load h3.box hx 0
      obtain ⟨v2, w4, hrun2, hO2, ht2⟩ := run_append_rd (hO1.below hB3) (by have := RdV.laid w3 [x] (okIds.one hx) (by simp); rw [fl_one] at this; exact this) (by simp only [List.nil_append, List.length_take, List.length_cons, List.length_nil]; omega) h3'.new 22
      have h4 := h3'.app (hO1.below hB3) ht2
      have hs3 := fun u => (slice_lo h4.rd L.length hk u).1
      obtain ⟨v3, w5, hrun3, hO3, ht3⟩ := run_append_rd hO2 (slice_lo h4.rd L.length hk w4).2 (by simp only [List.nil_append, List.length_append, List.length_take, List.length_drop, List.length_cons, List.length_nil]; omega) h4.new 22
      have h5 := h4.app hO2 ht3
      have HO3 := Lib.hid hO3
      have H5 := Lib.hid h5
      have HWL := Lib.hid hWl
      clear hO1 hO2 hO3 ht1 ht2 ht3 h3 h3' hA h4 h5 hB3 hWl
      go_wp2_with (first
        | ((with_reducible refine step_slice (t := 22) (x := .tmp 27) (lo := none) (hi := (some (.tmp 28))) (vx := ?pxb1) (v := ?pvb1) (vlo := ?pab1) (vhi := ?pbb1) ?pgb1 ?pob1 ?ppb1 ?pqb1 ?psb1 ?prb1 ?phb1); (case pgb1 => rfl); (case pob1 => rfl); (case ppb1 => rfl); (case pqb1 => rfl); (case psb1 => rfl); (case prb1 => exact hs1 _))
        | ((with_reducible refine step_append (s := .tmp 26) (x := .tmp 29) (t := 22) (vs := ?asb2) (vx := ?axb2) (v' := ?avb2) (w' := ?awb2) ?agb2 ?aob2 ?apb2 ?aqb2 ?arb2 ?ahb2); (case agb2 => rfl); (case aob2 => rfl); (case apb2 => rfl); (case aqb2 => rfl); (case arb2 => exact hrun1))
        | ((with_reducible refine step_load (t := 24) (x := .tmp 3) (p := ?lpb3) (v := ?lvb3) ?lgb3 ?lob3 ?lxb3 ?lrb3 ?lhb3); (case lgb3 => rfl); (case lob3 => rfl); (case lxb3 => rfl); (case lrb3 => exact hbx))
        | ((with_reducible refine step_build1 (x := .tmp 32) (y := ?byb4) ?bgb4 ?bob4 ?bxb4 ?blb4 ?bhb4); (case bgb4 => rfl); (case bob4 => rfl); (case bxb4 => rfl); (case blb4 => exact hx))
        | ((with_reducible refine step_append (s := .tmp 31) (x := .tmp 33) (t := 22) (vs := ?asb5) (vx := ?axb5) (v' := ?avb5) (w' := ?awb5) ?agb5 ?aob5 ?apb5 ?aqb5 ?arb5 ?ahb5); (case agb5 => rfl); (case aob5 => rfl); (case apb5 => rfl); (case aqb5 => rfl); (case arb5 => exact hrun2))
        | ((with_reducible refine step_slice (t := 22) (x := .tmp 36) (lo := (some (.tmp 37))) (hi := none) (vx := ?pxb6) (v := ?pvb6) (vlo := ?pab6) (vhi := ?pbb6) ?pgb6 ?pob6 ?ppb6 ?pqb6 ?psb6 ?prb6 ?phb6); (case pgb6 => rfl); (case pob6 => rfl); (case ppb6 => rfl); (case pqb6 => rfl); (case psb6 => rfl); (case prb6 => exact hs3 _))
        | ((with_reducible refine step_append (s := .tmp 35) (x := .tmp 38) (t := 22) (vs := ?asb7) (vx := ?axb7) (v' := ?avb7) (w' := ?awb7) ?agb7 ?aob7 ?apb7 ?aqb7 ?arb7 ?ahb7); (case agb7 => rfl); (case aob7 => rfl); (case apb7 => rfl); (case aqb7 => rfl); (case arb7 => exact hrun3)))
      go_ret
      have hb5 := HO3.out.rdv (by simp only [List.nil_append, List.length_append, List.length_take, List.length_drop, List.length_cons, List.length_nil]; omega)
      rw [List.nil_append, List.append_assoc, List.singleton_append, ← HWL.out] at hb5
      exact ⟨v3, rfl, ⟨hb5.1, fun b off n c e => .inl (by have h1 := hb5.2 b off n c e; have h2 := HSS.out; omega)⟩, H5.out.below⟩
end Go.Proofs.YtpeneeddfgmjpaaGreatDoor.ids

namespace Go.Proofs.YtpeneeddfgmjpaaGreatDoor.ids
open Go.RowKit Go.Proofs.YtpeneeddfgmjpaaGreatDoor.mem Go.Proofs.YtpeneeddfgmjpaaGreatDoor.sha

theorem Got.nil (w : World) (F : Nat → Prop) : Got w F (.slice none 0 0) [] :=
 ⟨⟨okIds.nil, Nat.zero_le _, none, 0, rfl, Nat.le_refl _, Nat.zero_le _, fun _ => rfl, (fun a h => by cases h), .inl rfl⟩, fun b off n c e => by cases e⟩
theorem Got.mono {w : World} {F G : Nat → Prop} {v : Value} {L : List Id} (h : Got w F v L) (hFG : ∀ k, F k → G k) : Got w G v L := ⟨h.1, fun b off n c e => hFG b (h.2 b off n c e)⟩
theorem Got.next {w w' : World} {F : Nat → Prop} {v : Value} {L : List Id} (h : Got w F v L) (hb : Below w.heap.size w w') : Got w' F v L := ⟨h.1.next hb, h.2⟩
theorem take_fold (L : List Id) (k : Nat) (h : k < L.length) (A : List Id) : (L.take (k + 1)).foldl withL A = withL ((L.take k).foldl withL A) (L.getD k []) := by
 rw [List.take_succ_eq_append_getElem h, List.foldl_append, List.getD_eq_getElem?_getD, List.getElem?_eq_getElem h]
 rfl

set_option maxHeartbeats 1000000 in
set_option maxRecDepth 100000 in
theorem rset_any (L : List Id) (ad : Option Addr) (n cap : Nat) (w : World) (hL : RdV w (.slice ad n cap) L) (hmax : L.length < 500000) :
  Calls Tryz.prog 56 #[.slice ad n cap] w fun e w' => ∃ v, e = .returned v ∧ Got w' (w.heap.size ≤ ·) v (setL L) ∧ Below w.heap.size w w' := by
 have hn := hL.len
 subst hn
 have HR := Lib.hid hL
 have HOK := Lib.hid hL.ok
 clear hL
 go_enter Tryz.func56, Tryz.ntmps56
 go_wp2_with fail
 go_loopw [3, 4] (fun vo i wr => ∃ k : Nat, k ≤ L.length ∧ i = .int .i64 k ∧ Got wr (w.heap.size ≤ ·) vo ((L.take k).foldl withL []) ∧ Below w.heap.size w wr) (fun _ i _ => L.length - (intOf i).toNat)
 case atStart => exact ⟨0, Nat.zero_le _, rfl, Got.nil _ _, Below.refl _ _⟩
 case round =>
  obtain ⟨k, hk, rfl, hG, hB⟩ := hrel
  have k0 : (0 : Int) ≤ (k : Int) := Int.natCast_nonneg _
  have HG := Lib.hid hG
  have HB := Lib.hid hB
  by_cases hlt : k < L.length
  ·
   have kI : (k : Int) < (L.length : Int) := by omega
   obtain ⟨b, off, rfl, -, -, -⟩ := HR.out.load hlt
   have hld := (HR.out.next hB).load_y hlt rfl
   have hx := HOK.out.get hlt
   have HT := Lib.hid (take_fold L k hlt [])
   obtain ⟨y, hy⟩ : ∃ y, y = L.getD k [] := ⟨_, rfl⟩
   rw [← hy] at hld hx HT
   obtain ⟨ad2, cap2, rfl⟩ := hG.1.form
   have hlen := foldl_with_len (L.take k) []
   obtain ⟨A, hA⟩ : ∃ A, A = (L.take k).foldl withL [] := ⟨_, rfl⟩
   rw [← hA] at HG HT hlen ⊢
   have hAm : A.length < 1000000 := by rw [List.length_nil, List.length_take] at hlen; omega
   have HC := Lib.hid (rwith_any A y ad2 A.length cap2 _ HG.out.1 hx hAm)
   clear hy hA hlen hG hB
   go_wp2_with (first
    | ((with_reducible refine step_load (t := 24) (x := .tmp 14) (p := ?lps1) (v := ?lvs1) ?lgs1 ?los1 ?lxs1 ?lrs1 ?lhs1); (case lgs1 => rfl); (case los1 => rfl); (case lxs1 => rfl); (case lrs1 => exact hld))
    | (go_at_call 31; with_reducible refine HC.out.mono ?_; rintro e w2 ⟨v2, rfl, hG2, hB2⟩))
   go_roundw
   case rel =>
    refine ⟨k + 1, hlt, by push_cast; rfl, ?_, HB.out.trans (hB2.mono HB.out.size)⟩
    rw [HT.out]
    exact hG2.mono fun j hj => by
     rcases hj with hj | ⟨off, e⟩
     ·
      exact Nat.le_trans HB.out.size hj
     ·
      exact HG.out.2 j off A.length cap2 (by rw [e])
   case measure => simp [intOf]; omega
  ·
   obtain rfl : k = L.length := by omega
   clear hG hB
   go_wp2_with fail
   go_ret
   have := HG.out
   rw [List.take_length] at this
   exact ⟨_, rfl, this, HB.out⟩

set_option maxHeartbeats 1000000 in
theorem ris_any (L : List Id) (ad : Option Addr) (n cap : Nat) (w : World) (hL : RdV w (.slice ad n cap) L) (hmax : L.length < 500000) :
  Calls Tryz.prog 34 #[.slice ad n cap] w fun e w' => e = .returned (.bool (L == setL L)) ∧ Below w.heap.size w w' := by
 have HR := Lib.hid hL
 have HS := Lib.hid (rset_any L ad n cap w hL hmax)
 clear hL
 go_enter Tryz.func34, Tryz.ntmps34
 go_wp2_with (go_at_call 56; with_reducible refine HS.out.mono ?_; rintro e w2 ⟨v2, rfl, hG2, hB2⟩)
 obtain ⟨ad2, cap2, rfl⟩ := hG2.1.form
 refine (rsame_any L (setL L) ad ad2 n cap _ cap2 w2 (HR.out.next hB2) hG2.1).mono ?_
 rintro e w3 ⟨rfl, m, rfl⟩
 go_wp2_with fail
 go_ret
 exact ⟨rfl, below_drewN hB2 m⟩
end Go.Proofs.YtpeneeddfgmjpaaGreatDoor.ids
