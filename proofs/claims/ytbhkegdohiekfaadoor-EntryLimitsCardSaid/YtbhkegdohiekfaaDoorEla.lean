/-
  The landed entry: has, room, given.
-/
import Derived.Test.YtbhkegdohiekfaaDoorEnm
import Derived.Deep.CutRange
import Derived.Deep.CutBlock
namespace Go.Proofs.YtbhkegdohiekfaaDoor.ent
open Go.RowKit Go.Proofs.YtbhkegdohiekfaaDoor.mem Go.Proofs.YtbhkegdohiekfaaDoor.sha Go.Proofs.YtbhkegdohiekfaaDoor.ids
open Go.Proofs.YtbhkegdohiekfaaDoor.opn (b1 b2 b4 num txt idl byte rd rdN rdT rdI rdS rdL St Reads Stays endE zid mkId)
open Go.Proofs.YtbhkegdohiekfaaDoor.topic (kindOf)

/-- what a kind has, bit by bit -/
def hasK (k : Int) : Int := if kindE k = 1 then 4 else if kindE k = 2 then 2 else if kindE k = 3 then 1 else if kindE k = 4 then 5 else 0
def roomL (k : Int) : Int := if k = 1 ∨ k = 2 ∨ k = 3 then 1 else 0
def roomM (k : Int) : Int := if k = 1 ∨ k = 2 then 256 else if k = 3 then 512 else if k = 7 then 1048512 else 0
theorem lhas_any (k : Int) (w : World) : Calls Tryd.prog 19 #[.int .i64 k] w fun e w' => e = .returned (.int .i64 (hasK k)) ∧ w = w' := by
  by_cases h0 : 1 ≤ k ∧ k ≤ 7
  · rcases (show k = 1 ∨ k = 2 ∨ k = 3 ∨ k = 4 ∨ k = 5 ∨ k = 6 ∨ k = 7 by omega) with rfl | rfl | rfl | rfl | rfl | rfl | rfl
    all_goals
      go_enter Tryd.func19, Tryd.ntmps19
      go_wp2
      go_ret
      exact ⟨rfl, rfl⟩
  have b1 : (k == 1) = false := by simp; omega
  have b2 : (k == 2) = false := by simp; omega
  have b3 : (k == 3) = false := by simp; omega
  have b4 : (k == 4) = false := by simp; omega
  have b5 : (k == 5) = false := by simp; omega
  have b6 : (k == 6) = false := by simp; omega
  have b7 : (k == 7) = false := by simp; omega
  have HE : Hid (hasK k = 0) := Lib.hid (by have hk : kindE k = 0 := (by rcases kindE_cases k with ⟨_, h⟩ | ⟨_, h⟩ | ⟨_, h⟩ | ⟨_, h⟩ | ⟨h, _⟩ <;> omega); unfold hasK; rw [hk]; rfl)
  clear h0
  go_enter Tryd.func19, Tryd.ntmps19
  go_wp2
  go_ret
  exact ⟨by rw [HE.out]; rfl, rfl⟩
theorem lroom_any (k : Int) (w : World) : Calls Tryd.prog 27 #[.int .i64 k] w fun e w' => e = .returned (.tuple #[.int .i64 (roomL k), .int .i64 (roomM k)]) ∧ w = w' := by
  by_cases h0 : 1 ≤ k ∧ k ≤ 7
  · rcases (show k = 1 ∨ k = 2 ∨ k = 3 ∨ k = 4 ∨ k = 5 ∨ k = 6 ∨ k = 7 by omega) with rfl | rfl | rfl | rfl | rfl | rfl | rfl
    all_goals
      go_enter Tryd.func27, Tryd.ntmps27
      go_wp2
      go_ret2
      exact ⟨rfl, rfl⟩
  have b1 : (k == 1) = false := by simp; omega
  have b2 : (k == 2) = false := by simp; omega
  have b3 : (k == 3) = false := by simp; omega
  have b4 : (k == 4) = false := by simp; omega
  have b5 : (k == 5) = false := by simp; omega
  have b6 : (k == 6) = false := by simp; omega
  have b7 : (k == 7) = false := by simp; omega
  have HE : Hid (roomL k = 0 ∧ roomM k = 0) := Lib.hid (by exact ⟨by unfold roomL; rw [if_neg (by omega)], by unfold roomM; rw [if_neg (by omega), if_neg (by omega), if_neg (by omega)]⟩)
  clear h0
  go_enter Tryd.func27, Tryd.ntmps27
  go_wp2
  go_ret2
  exact ⟨by rw [HE.out.1, HE.out.2]; rfl, rfl⟩
def bitsE (a b c : Bool) : Int := (if a then 1 else 0) + (if b then 2 else 0) + (if c then 4 else 0)
/-- what of an entry is not zero, bit by bit -/
def givenE (e : En) : Int := bitsE (!e.topic.isEmpty) (e.commit != zid) (!e.body.isEmpty)
theorem tx_empE (l : List UInt8) : (oct.tx l).toList.isEmpty = l.isEmpty := by rw [ByteArray.toList_eq, oct.tx_list]
set_option maxHeartbeats 8000000 in
set_option maxRecDepth 100000 in
theorem lgiven_any (e : En) (w : World) (hr : e.commit.length = 32) :
    Calls Tryd.prog 28 #[env e] w fun x w' => x = .returned (.int .i64 (givenE e)) ∧ Below w.heap.size w w' := by
  obtain ⟨w1, hw1⟩ : ∃ u, u = w.alloc (.cells (enc e).toArray 25) := ⟨_, rfl⟩
  obtain ⟨S, hS⟩ : ∃ S, S = w.heap.size := ⟨_, rfl⟩
  have hX : Blk w1 S 25 (enc e).toArray := by rw [hw1, hS]; exact Blk.new w _ _
  have hB : Below w.heap.size w w1 := by rw [hw1]; exact (Below.refl _ _).alloc (Nat.le_refl _) _
  have HC := EnBlk.of hX hr
  have HB := Lib.hid hB
  have HS := Lib.hid hS
  have HW := Lib.hid hw1
  have c1 := HC.topic
  have c2 := HC.body
  have hl := HC.commit 0
  obtain ⟨ts, hts⟩ : ∃ s, s = oct.tx e.topic := ⟨_, rfl⟩
  rw [← hts] at c1
  obtain ⟨bs, hbs⟩ : ∃ s, s = oct.tx e.body := ⟨_, rfl⟩
  rw [← hbs] at c2
  obtain ⟨p1, h1⟩ : ∃ b, ts.toList.isEmpty = !b := ⟨!ts.toList.isEmpty, by simp⟩
  obtain ⟨p2, h2⟩ : ∃ b, (e.commit != zid) = b := ⟨_, rfl⟩
  obtain ⟨p3, h3⟩ : ∃ b, bs.toList.isEmpty = !b := ⟨!bs.toList.isEmpty, by simp⟩
  have hnf : Hid (∀ u, (binOp .neq 23 (idv e.commit) (idv zid)).run Tryd.prog u = .ok (.bool p2) u) := Lib.hid fun u => by rw [← h2]; exact neq_ids u _ _ hr zlen
  have HGD : Hid (∀ u, (eqGuard .neq 23 (.tmp 10) (.tmp 11) (idv e.commit) (idv zid)).run Tryd.prog u = .ok () u) := Lib.hid fun u => run_eqGuard_agg u .neq 23 (.tmp 10) (.tmp 11) _ _ Tryd.eqGuardType23
  have HG : Hid (givenE e = bitsE p1 p2 p3) := Lib.hid (by
    unfold givenE
    rw [h2]
    rw [hts, tx_empE] at h1
    rw [hbs, tx_empE] at h3
    rw [h1, h3, Bool.not_not, Bool.not_not])
  rw [HG.out]
  clear hX hB hw1 hS HC hts hbs hr h2 HG
  unfold env
  cases p1
  case false =>
   cases p2
   case false =>
    cases p3
    case false =>
     simp only [Bool.not_true, Bool.not_false] at h1 h3
     go_enter Tryd.func28, Tryd.ntmps28
     go_upto_region 1 with fail
     refine wp_at HW.out.symm ?_
     rw [← HS.out]
     clear HW
     go_wp2_with (first
       | ((with_reducible refine step_load (t := 23) (x := .tmp 9) (p := ?lpg1) (v := ?lvg1) ?lgg1 ?log1 ?lxg1 ?lrg1 ?lhg1); (case lgg1 => rfl); (case log1 => rfl); (case lxg1 => rfl); (case lrg1 => exact hl))
       | ((with_reducible refine step_neq_w (t := 23) (x := .tmp 10) (y := .tmp 11) (t2 := ?nbg1) (u := ?nug1) (v := ?nvg1) (r := ?nrg1) ?nwg1 ?nog1 ?nxg1 ?nyg1 ?ngg1 ?nqg1 ?nhg1); (case nog1 => rfl); (case nwg1 => rfl); (case nxg1 => rfl); (case nyg1 => rfl); (case ngg1 => exact HGD.out _); (case nqg1 => exact hnf.out _)))
     go_ret
     exact ⟨rfl, HB.out⟩
    case true =>
     simp only [Bool.not_true, Bool.not_false] at h1 h3
     go_enter Tryd.func28, Tryd.ntmps28
     go_upto_region 1 with fail
     refine wp_at HW.out.symm ?_
     rw [← HS.out]
     clear HW
     go_wp2_with (first
       | ((with_reducible refine step_load (t := 23) (x := .tmp 9) (p := ?lpg2) (v := ?lvg2) ?lgg2 ?log2 ?lxg2 ?lrg2 ?lhg2); (case lgg2 => rfl); (case log2 => rfl); (case lxg2 => rfl); (case lrg2 => exact hl))
       | ((with_reducible refine step_neq_w (t := 23) (x := .tmp 10) (y := .tmp 11) (t2 := ?nbg2) (u := ?nug2) (v := ?nvg2) (r := ?nrg2) ?nwg2 ?nog2 ?nxg2 ?nyg2 ?ngg2 ?nqg2 ?nhg2); (case nog2 => rfl); (case nwg2 => rfl); (case nxg2 => rfl); (case nyg2 => rfl); (case ngg2 => exact HGD.out _); (case nqg2 => exact hnf.out _)))
     go_ret
     exact ⟨rfl, HB.out⟩
   case true =>
    cases p3
    case false =>
     simp only [Bool.not_true, Bool.not_false] at h1 h3
     go_enter Tryd.func28, Tryd.ntmps28
     go_upto_region 1 with fail
     refine wp_at HW.out.symm ?_
     rw [← HS.out]
     clear HW
     go_wp2_with (first
       | ((with_reducible refine step_load (t := 23) (x := .tmp 9) (p := ?lpg3) (v := ?lvg3) ?lgg3 ?log3 ?lxg3 ?lrg3 ?lhg3); (case lgg3 => rfl); (case log3 => rfl); (case lxg3 => rfl); (case lrg3 => exact hl))
       | ((with_reducible refine step_neq_w (t := 23) (x := .tmp 10) (y := .tmp 11) (t2 := ?nbg3) (u := ?nug3) (v := ?nvg3) (r := ?nrg3) ?nwg3 ?nog3 ?nxg3 ?nyg3 ?ngg3 ?nqg3 ?nhg3); (case nog3 => rfl); (case nwg3 => rfl); (case nxg3 => rfl); (case nyg3 => rfl); (case ngg3 => exact HGD.out _); (case nqg3 => exact hnf.out _)))
     go_ret
     exact ⟨rfl, HB.out⟩
    case true =>
     simp only [Bool.not_true, Bool.not_false] at h1 h3
     go_enter Tryd.func28, Tryd.ntmps28
     go_upto_region 1 with fail
     refine wp_at HW.out.symm ?_
     rw [← HS.out]
     clear HW
     go_wp2_with (first
       | ((with_reducible refine step_load (t := 23) (x := .tmp 9) (p := ?lpg4) (v := ?lvg4) ?lgg4 ?log4 ?lxg4 ?lrg4 ?lhg4); (case lgg4 => rfl); (case log4 => rfl); (case lxg4 => rfl); (case lrg4 => exact hl))
       | ((with_reducible refine step_neq_w (t := 23) (x := .tmp 10) (y := .tmp 11) (t2 := ?nbg4) (u := ?nug4) (v := ?nvg4) (r := ?nrg4) ?nwg4 ?nog4 ?nxg4 ?nyg4 ?ngg4 ?nqg4 ?nhg4); (case nog4 => rfl); (case nwg4 => rfl); (case nxg4 => rfl); (case nyg4 => rfl); (case ngg4 => exact HGD.out _); (case nqg4 => exact hnf.out _)))
     go_ret
     exact ⟨rfl, HB.out⟩
  case true =>
   cases p2
   case false =>
    cases p3
    case false =>
     simp only [Bool.not_true, Bool.not_false] at h1 h3
     go_enter Tryd.func28, Tryd.ntmps28
     go_upto_region 1 with fail
     refine wp_at HW.out.symm ?_
     rw [← HS.out]
     clear HW
     go_wp2_with (first
       | ((with_reducible refine step_load (t := 23) (x := .tmp 9) (p := ?lpg5) (v := ?lvg5) ?lgg5 ?log5 ?lxg5 ?lrg5 ?lhg5); (case lgg5 => rfl); (case log5 => rfl); (case lxg5 => rfl); (case lrg5 => exact hl))
       | ((with_reducible refine step_neq_w (t := 23) (x := .tmp 10) (y := .tmp 11) (t2 := ?nbg5) (u := ?nug5) (v := ?nvg5) (r := ?nrg5) ?nwg5 ?nog5 ?nxg5 ?nyg5 ?ngg5 ?nqg5 ?nhg5); (case nog5 => rfl); (case nwg5 => rfl); (case nxg5 => rfl); (case nyg5 => rfl); (case ngg5 => exact HGD.out _); (case nqg5 => exact hnf.out _)))
     go_ret
     exact ⟨rfl, HB.out⟩
    case true =>
     simp only [Bool.not_true, Bool.not_false] at h1 h3
     go_enter Tryd.func28, Tryd.ntmps28
     go_upto_region 1 with fail
     refine wp_at HW.out.symm ?_
     rw [← HS.out]
     clear HW
     go_wp2_with (first
       | ((with_reducible refine step_load (t := 23) (x := .tmp 9) (p := ?lpg6) (v := ?lvg6) ?lgg6 ?log6 ?lxg6 ?lrg6 ?lhg6); (case lgg6 => rfl); (case log6 => rfl); (case lxg6 => rfl); (case lrg6 => exact hl))
       | ((with_reducible refine step_neq_w (t := 23) (x := .tmp 10) (y := .tmp 11) (t2 := ?nbg6) (u := ?nug6) (v := ?nvg6) (r := ?nrg6) ?nwg6 ?nog6 ?nxg6 ?nyg6 ?ngg6 ?nqg6 ?nhg6); (case nog6 => rfl); (case nwg6 => rfl); (case nxg6 => rfl); (case nyg6 => rfl); (case ngg6 => exact HGD.out _); (case nqg6 => exact hnf.out _)))
     go_ret
     exact ⟨rfl, HB.out⟩
   case true =>
    cases p3
    case false =>
     simp only [Bool.not_true, Bool.not_false] at h1 h3
     go_enter Tryd.func28, Tryd.ntmps28
     go_upto_region 1 with fail
     refine wp_at HW.out.symm ?_
     rw [← HS.out]
     clear HW
     go_wp2_with (first
       | ((with_reducible refine step_load (t := 23) (x := .tmp 9) (p := ?lpg7) (v := ?lvg7) ?lgg7 ?log7 ?lxg7 ?lrg7 ?lhg7); (case lgg7 => rfl); (case log7 => rfl); (case lxg7 => rfl); (case lrg7 => exact hl))
       | ((with_reducible refine step_neq_w (t := 23) (x := .tmp 10) (y := .tmp 11) (t2 := ?nbg7) (u := ?nug7) (v := ?nvg7) (r := ?nrg7) ?nwg7 ?nog7 ?nxg7 ?nyg7 ?ngg7 ?nqg7 ?nhg7); (case nog7 => rfl); (case nwg7 => rfl); (case nxg7 => rfl); (case nyg7 => rfl); (case ngg7 => exact HGD.out _); (case nqg7 => exact hnf.out _)))
     go_ret
     exact ⟨rfl, HB.out⟩
    case true =>
     simp only [Bool.not_true, Bool.not_false] at h1 h3
     go_enter Tryd.func28, Tryd.ntmps28
     go_upto_region 1 with fail
     refine wp_at HW.out.symm ?_
     rw [← HS.out]
     clear HW
     go_wp2_with (first
       | ((with_reducible refine step_load (t := 23) (x := .tmp 9) (p := ?lpg8) (v := ?lvg8) ?lgg8 ?log8 ?lxg8 ?lrg8 ?lhg8); (case lgg8 => rfl); (case log8 => rfl); (case lxg8 => rfl); (case lrg8 => exact hl))
       | ((with_reducible refine step_neq_w (t := 23) (x := .tmp 10) (y := .tmp 11) (t2 := ?nbg8) (u := ?nug8) (v := ?nvg8) (r := ?nrg8) ?nwg8 ?nog8 ?nxg8 ?nyg8 ?ngg8 ?nqg8 ?nhg8); (case nog8 => rfl); (case nwg8 => rfl); (case nxg8 => rfl); (case nyg8 => rfl); (case ngg8 => exact HGD.out _); (case nqg8 => exact hnf.out _)))
     go_ret
     exact ⟨rfl, HB.out⟩
end Go.Proofs.YtbhkegdohiekfaaDoor.ent
