/-
  The landed op: given.
-/
import Derived.Test.YtmaolmogccknbaaDoorIdlc
namespace Go.Proofs.YtmaolmogccknbaaDoor.opn
open Go.RowKit Go.Proofs.YtmaolmogccknbaaDoor.mem Go.Proofs.YtmaolmogccknbaaDoor.sha Go.Proofs.YtmaolmogccknbaaDoor.ids

/-- what is not zero, bit by bit -/
def bitsG (a b c d e : Bool) : Int := (if a then 1 else 0) + (if b then 2 else 0) + (if c then 4 else 0) + (if d then 8 else 0) + (if e then 16 else 0)
def given (o : Opn) : Int := bitsG (o.n != 0) (!o.key.isEmpty) (!o.val.isEmpty) (o.ref != zid) (!o.refs.isEmpty)
theorem tx_emp (l : List UInt8) : (oct.tx l).toList.isEmpty = l.isEmpty := by rw [ByteArray.toList_eq, oct.tx_list]
set_option maxHeartbeats 8000000 in
set_option maxRecDepth 100000 in
theorem given_any (o : Opn) (v : Value) (w : World) (hr : o.ref.length = 32) (hv : RdV w v o.refs) :
    Calls Tryd.prog 46 #[opv o v] w fun e w' => e = .returned (.int .i64 (given o)) ∧ Below w.heap.size w w' := by
  obtain ⟨w1, hw1⟩ : ∃ u, u = w.alloc (.cells (opc o v).toArray 26) := ⟨_, rfl⟩
  obtain ⟨S, hS⟩ : ∃ S, S = w.heap.size := ⟨_, rfl⟩
  have hX : Blk w1 S 26 (opc o v).toArray := by rw [hw1, hS]; exact Blk.new w _ _
  have hB : Below w.heap.size w w1 := by rw [hw1]; exact (Below.refl _ _).alloc (Nat.le_refl _) _
  have HC := OpBlk.of hX hr
  obtain ⟨ad, cap, rfl⟩ := hv.form
  have HB := Lib.hid hB
  have HS := Lib.hid hS
  have HW := Lib.hid hw1
  have c1 := HC.n
  have c2 := HC.key
  have c3 := HC.val
  have c36 := HC.refs
  have hl := HC.ref 0
  obtain ⟨V, hV⟩ : ∃ V, V = Value.slice ad o.refs.length cap := ⟨_, rfl⟩
  rw [← hV] at HW
  rw [← hV]
  obtain ⟨ks, hks⟩ : ∃ s, s = oct.tx o.key := ⟨_, rfl⟩
  rw [← hks] at c2
  obtain ⟨vs, hvs⟩ : ∃ s, s = oct.tx o.val := ⟨_, rfl⟩
  rw [← hvs] at c3
  obtain ⟨n, hn⟩ : ∃ n, n = o.n := ⟨_, rfl⟩
  rw [← hn] at c1
  obtain ⟨ln, hln⟩ : ∃ n, n = o.refs.length := ⟨_, rfl⟩
  rw [← hln] at c36
  obtain ⟨p1, h1⟩ : ∃ b, (n != 0) = b := ⟨_, rfl⟩
  obtain ⟨p2, h2⟩ : ∃ b, ks.toList.isEmpty = !b := ⟨!ks.toList.isEmpty, by simp⟩
  obtain ⟨p3, h3⟩ : ∃ b, vs.toList.isEmpty = !b := ⟨!vs.toList.isEmpty, by simp⟩
  obtain ⟨p4, h4⟩ : ∃ b, (o.ref != zid) = b := ⟨_, rfl⟩
  obtain ⟨p5, h5⟩ : ∃ b, decide ((0 : Int) < ln) = b := ⟨_, rfl⟩
  have hne : ∀ u, (binOp .neq 23 (idv o.ref) (idv zid)).run Tryd.prog u = .ok (.bool p4) u := fun u => by rw [← h4]; exact neq_ids u _ _ hr zid_len
  have hnf := Lib.hid hne
  clear hne
  have HGD : Hid (∀ u, (eqGuard .neq 23 (.tmp 20) (.tmp 21) (idv o.ref) (idv zid)).run Tryd.prog u = .ok () u) := Lib.hid fun u => run_eqGuard_agg u .neq 23 (.tmp 20) (.tmp 21) _ _ Tryd.eqGuardType23
  have HG : Hid (given o = bitsG p1 p2 p3 p4 p5) := Lib.hid (by
    unfold given
    rw [← hn, h1, h4]
    rw [hks, tx_emp] at h2
    rw [hvs, tx_emp] at h3
    rw [h2, h3, Bool.not_not, Bool.not_not]
    congr 1
    rw [← h5, hln]
    cases o.refs with
    | nil => rfl
    | cons a L => simp)
  rw [HG.out]
  clear hX hB hw1 hS HC hv hV hks hvs hn hln hr h4 HG
  unfold opv
  cases p1
  case false =>
   cases p2
   case false =>
    cases p3
    case false =>
     cases p4
     case false =>
      cases p5
      case false =>
       obtain rfl : ln = 0 := by have := of_decide_eq_false h5; omega
       clear h5
       simp only [Bool.not_true, Bool.not_false] at h2 h3
       go_enter Tryd.func46, Tryd.ntmps46
       go_upto_region 1 with fail
       refine wp_at HW.out.symm ?_
       rw [← HS.out]
       clear HW
       go_wp2_with (first
         | ((with_reducible refine step_load (t := 23) (x := .tmp 19) (p := ?lpg1) (v := ?lvg1) ?lgg1 ?log1 ?lxg1 ?lrg1 ?lhg1); (case lgg1 => rfl); (case log1 => rfl); (case lxg1 => rfl); (case lrg1 => exact hl))
         | ((with_reducible refine step_neq_w (t := 23) (x := .tmp 20) (y := .tmp 21) (t2 := ?nbg1) (u := ?nug1) (v := ?nvg1) (r := ?nrg1) ?nwg1 ?nog1 ?nxg1 ?nyg1 ?ngg1 ?nqg1 ?nhg1); (case nog1 => rfl); (case nwg1 => rfl); (case nxg1 => rfl); (case nyg1 => rfl); (case ngg1 => exact HGD.out _); (case nqg1 => exact hnf.out _)))
       go_ret
       exact ⟨rfl, HB.out⟩
      case true =>
       have h5 : (0 : Int) < ln := of_decide_eq_true h5
       simp only [Bool.not_true, Bool.not_false] at h2 h3
       go_enter Tryd.func46, Tryd.ntmps46
       go_upto_region 1 with fail
       refine wp_at HW.out.symm ?_
       rw [← HS.out]
       clear HW
       go_wp2_with (first
         | ((with_reducible refine step_load (t := 23) (x := .tmp 19) (p := ?lpg2) (v := ?lvg2) ?lgg2 ?log2 ?lxg2 ?lrg2 ?lhg2); (case lgg2 => rfl); (case log2 => rfl); (case lxg2 => rfl); (case lrg2 => exact hl))
         | ((with_reducible refine step_neq_w (t := 23) (x := .tmp 20) (y := .tmp 21) (t2 := ?nbg2) (u := ?nug2) (v := ?nvg2) (r := ?nrg2) ?nwg2 ?nog2 ?nxg2 ?nyg2 ?ngg2 ?nqg2 ?nhg2); (case nog2 => rfl); (case nwg2 => rfl); (case nxg2 => rfl); (case nyg2 => rfl); (case ngg2 => exact HGD.out _); (case nqg2 => exact hnf.out _)))
       go_ret
       exact ⟨rfl, HB.out⟩
     case true =>
      cases p5
      case false =>
       obtain rfl : ln = 0 := by have := of_decide_eq_false h5; omega
       clear h5
       simp only [Bool.not_true, Bool.not_false] at h2 h3
       go_enter Tryd.func46, Tryd.ntmps46
       go_upto_region 1 with fail
       refine wp_at HW.out.symm ?_
       rw [← HS.out]
       clear HW
       go_wp2_with (first
         | ((with_reducible refine step_load (t := 23) (x := .tmp 19) (p := ?lpg3) (v := ?lvg3) ?lgg3 ?log3 ?lxg3 ?lrg3 ?lhg3); (case lgg3 => rfl); (case log3 => rfl); (case lxg3 => rfl); (case lrg3 => exact hl))
         | ((with_reducible refine step_neq_w (t := 23) (x := .tmp 20) (y := .tmp 21) (t2 := ?nbg3) (u := ?nug3) (v := ?nvg3) (r := ?nrg3) ?nwg3 ?nog3 ?nxg3 ?nyg3 ?ngg3 ?nqg3 ?nhg3); (case nog3 => rfl); (case nwg3 => rfl); (case nxg3 => rfl); (case nyg3 => rfl); (case ngg3 => exact HGD.out _); (case nqg3 => exact hnf.out _)))
       go_ret
       exact ⟨rfl, HB.out⟩
      case true =>
       have h5 : (0 : Int) < ln := of_decide_eq_true h5
       simp only [Bool.not_true, Bool.not_false] at h2 h3
       go_enter Tryd.func46, Tryd.ntmps46
       go_upto_region 1 with fail
       refine wp_at HW.out.symm ?_
       rw [← HS.out]
       clear HW
       go_wp2_with (first
         | ((with_reducible refine step_load (t := 23) (x := .tmp 19) (p := ?lpg4) (v := ?lvg4) ?lgg4 ?log4 ?lxg4 ?lrg4 ?lhg4); (case lgg4 => rfl); (case log4 => rfl); (case lxg4 => rfl); (case lrg4 => exact hl))
         | ((with_reducible refine step_neq_w (t := 23) (x := .tmp 20) (y := .tmp 21) (t2 := ?nbg4) (u := ?nug4) (v := ?nvg4) (r := ?nrg4) ?nwg4 ?nog4 ?nxg4 ?nyg4 ?ngg4 ?nqg4 ?nhg4); (case nog4 => rfl); (case nwg4 => rfl); (case nxg4 => rfl); (case nyg4 => rfl); (case ngg4 => exact HGD.out _); (case nqg4 => exact hnf.out _)))
       go_ret
       exact ⟨rfl, HB.out⟩
    case true =>
     cases p4
     case false =>
      cases p5
      case false =>
       obtain rfl : ln = 0 := by have := of_decide_eq_false h5; omega
       clear h5
       simp only [Bool.not_true, Bool.not_false] at h2 h3
       go_enter Tryd.func46, Tryd.ntmps46
       go_upto_region 1 with fail
       refine wp_at HW.out.symm ?_
       rw [← HS.out]
       clear HW
       go_wp2_with (first
         | ((with_reducible refine step_load (t := 23) (x := .tmp 19) (p := ?lpg5) (v := ?lvg5) ?lgg5 ?log5 ?lxg5 ?lrg5 ?lhg5); (case lgg5 => rfl); (case log5 => rfl); (case lxg5 => rfl); (case lrg5 => exact hl))
         | ((with_reducible refine step_neq_w (t := 23) (x := .tmp 20) (y := .tmp 21) (t2 := ?nbg5) (u := ?nug5) (v := ?nvg5) (r := ?nrg5) ?nwg5 ?nog5 ?nxg5 ?nyg5 ?ngg5 ?nqg5 ?nhg5); (case nog5 => rfl); (case nwg5 => rfl); (case nxg5 => rfl); (case nyg5 => rfl); (case ngg5 => exact HGD.out _); (case nqg5 => exact hnf.out _)))
       go_ret
       exact ⟨rfl, HB.out⟩
      case true =>
       have h5 : (0 : Int) < ln := of_decide_eq_true h5
       simp only [Bool.not_true, Bool.not_false] at h2 h3
       go_enter Tryd.func46, Tryd.ntmps46
       go_upto_region 1 with fail
       refine wp_at HW.out.symm ?_
       rw [← HS.out]
       clear HW
       go_wp2_with (first
         | ((with_reducible refine step_load (t := 23) (x := .tmp 19) (p := ?lpg6) (v := ?lvg6) ?lgg6 ?log6 ?lxg6 ?lrg6 ?lhg6); (case lgg6 => rfl); (case log6 => rfl); (case lxg6 => rfl); (case lrg6 => exact hl))
         | ((with_reducible refine step_neq_w (t := 23) (x := .tmp 20) (y := .tmp 21) (t2 := ?nbg6) (u := ?nug6) (v := ?nvg6) (r := ?nrg6) ?nwg6 ?nog6 ?nxg6 ?nyg6 ?ngg6 ?nqg6 ?nhg6); (case nog6 => rfl); (case nwg6 => rfl); (case nxg6 => rfl); (case nyg6 => rfl); (case ngg6 => exact HGD.out _); (case nqg6 => exact hnf.out _)))
       go_ret
       exact ⟨rfl, HB.out⟩
     case true =>
      cases p5
      case false =>
       obtain rfl : ln = 0 := by have := of_decide_eq_false h5; omega
       clear h5
       simp only [Bool.not_true, Bool.not_false] at h2 h3
       go_enter Tryd.func46, Tryd.ntmps46
       go_upto_region 1 with fail
       refine wp_at HW.out.symm ?_
       rw [← HS.out]
       clear HW
       go_wp2_with (first
         | ((with_reducible refine step_load (t := 23) (x := .tmp 19) (p := ?lpg7) (v := ?lvg7) ?lgg7 ?log7 ?lxg7 ?lrg7 ?lhg7); (case lgg7 => rfl); (case log7 => rfl); (case lxg7 => rfl); (case lrg7 => exact hl))
         | ((with_reducible refine step_neq_w (t := 23) (x := .tmp 20) (y := .tmp 21) (t2 := ?nbg7) (u := ?nug7) (v := ?nvg7) (r := ?nrg7) ?nwg7 ?nog7 ?nxg7 ?nyg7 ?ngg7 ?nqg7 ?nhg7); (case nog7 => rfl); (case nwg7 => rfl); (case nxg7 => rfl); (case nyg7 => rfl); (case ngg7 => exact HGD.out _); (case nqg7 => exact hnf.out _)))
       go_ret
       exact ⟨rfl, HB.out⟩
      case true =>
       have h5 : (0 : Int) < ln := of_decide_eq_true h5
       simp only [Bool.not_true, Bool.not_false] at h2 h3
       go_enter Tryd.func46, Tryd.ntmps46
       go_upto_region 1 with fail
       refine wp_at HW.out.symm ?_
       rw [← HS.out]
       clear HW
       go_wp2_with (first
         | ((with_reducible refine step_load (t := 23) (x := .tmp 19) (p := ?lpg8) (v := ?lvg8) ?lgg8 ?log8 ?lxg8 ?lrg8 ?lhg8); (case lgg8 => rfl); (case log8 => rfl); (case lxg8 => rfl); (case lrg8 => exact hl))
         | ((with_reducible refine step_neq_w (t := 23) (x := .tmp 20) (y := .tmp 21) (t2 := ?nbg8) (u := ?nug8) (v := ?nvg8) (r := ?nrg8) ?nwg8 ?nog8 ?nxg8 ?nyg8 ?ngg8 ?nqg8 ?nhg8); (case nog8 => rfl); (case nwg8 => rfl); (case nxg8 => rfl); (case nyg8 => rfl); (case ngg8 => exact HGD.out _); (case nqg8 => exact hnf.out _)))
       go_ret
       exact ⟨rfl, HB.out⟩
   case true =>
    cases p3
    case false =>
     cases p4
     case false =>
      cases p5
      case false =>
       obtain rfl : ln = 0 := by have := of_decide_eq_false h5; omega
       clear h5
       simp only [Bool.not_true, Bool.not_false] at h2 h3
       go_enter Tryd.func46, Tryd.ntmps46
       go_upto_region 1 with fail
       refine wp_at HW.out.symm ?_
       rw [← HS.out]
       clear HW
       go_wp2_with (first
         | ((with_reducible refine step_load (t := 23) (x := .tmp 19) (p := ?lpg9) (v := ?lvg9) ?lgg9 ?log9 ?lxg9 ?lrg9 ?lhg9); (case lgg9 => rfl); (case log9 => rfl); (case lxg9 => rfl); (case lrg9 => exact hl))
         | ((with_reducible refine step_neq_w (t := 23) (x := .tmp 20) (y := .tmp 21) (t2 := ?nbg9) (u := ?nug9) (v := ?nvg9) (r := ?nrg9) ?nwg9 ?nog9 ?nxg9 ?nyg9 ?ngg9 ?nqg9 ?nhg9); (case nog9 => rfl); (case nwg9 => rfl); (case nxg9 => rfl); (case nyg9 => rfl); (case ngg9 => exact HGD.out _); (case nqg9 => exact hnf.out _)))
       go_ret
       exact ⟨rfl, HB.out⟩
      case true =>
       have h5 : (0 : Int) < ln := of_decide_eq_true h5
       simp only [Bool.not_true, Bool.not_false] at h2 h3
       go_enter Tryd.func46, Tryd.ntmps46
       go_upto_region 1 with fail
       refine wp_at HW.out.symm ?_
       rw [← HS.out]
       clear HW
       go_wp2_with (first
         | ((with_reducible refine step_load (t := 23) (x := .tmp 19) (p := ?lpg10) (v := ?lvg10) ?lgg10 ?log10 ?lxg10 ?lrg10 ?lhg10); (case lgg10 => rfl); (case log10 => rfl); (case lxg10 => rfl); (case lrg10 => exact hl))
         | ((with_reducible refine step_neq_w (t := 23) (x := .tmp 20) (y := .tmp 21) (t2 := ?nbg10) (u := ?nug10) (v := ?nvg10) (r := ?nrg10) ?nwg10 ?nog10 ?nxg10 ?nyg10 ?ngg10 ?nqg10 ?nhg10); (case nog10 => rfl); (case nwg10 => rfl); (case nxg10 => rfl); (case nyg10 => rfl); (case ngg10 => exact HGD.out _); (case nqg10 => exact hnf.out _)))
       go_ret
       exact ⟨rfl, HB.out⟩
     case true =>
      cases p5
      case false =>
       obtain rfl : ln = 0 := by have := of_decide_eq_false h5; omega
       clear h5
       simp only [Bool.not_true, Bool.not_false] at h2 h3
       go_enter Tryd.func46, Tryd.ntmps46
       go_upto_region 1 with fail
       refine wp_at HW.out.symm ?_
       rw [← HS.out]
       clear HW
       go_wp2_with (first
         | ((with_reducible refine step_load (t := 23) (x := .tmp 19) (p := ?lpg11) (v := ?lvg11) ?lgg11 ?log11 ?lxg11 ?lrg11 ?lhg11); (case lgg11 => rfl); (case log11 => rfl); (case lxg11 => rfl); (case lrg11 => exact hl))
         | ((with_reducible refine step_neq_w (t := 23) (x := .tmp 20) (y := .tmp 21) (t2 := ?nbg11) (u := ?nug11) (v := ?nvg11) (r := ?nrg11) ?nwg11 ?nog11 ?nxg11 ?nyg11 ?ngg11 ?nqg11 ?nhg11); (case nog11 => rfl); (case nwg11 => rfl); (case nxg11 => rfl); (case nyg11 => rfl); (case ngg11 => exact HGD.out _); (case nqg11 => exact hnf.out _)))
       go_ret
       exact ⟨rfl, HB.out⟩
      case true =>
       have h5 : (0 : Int) < ln := of_decide_eq_true h5
       simp only [Bool.not_true, Bool.not_false] at h2 h3
       go_enter Tryd.func46, Tryd.ntmps46
       go_upto_region 1 with fail
       refine wp_at HW.out.symm ?_
       rw [← HS.out]
       clear HW
       go_wp2_with (first
         | ((with_reducible refine step_load (t := 23) (x := .tmp 19) (p := ?lpg12) (v := ?lvg12) ?lgg12 ?log12 ?lxg12 ?lrg12 ?lhg12); (case lgg12 => rfl); (case log12 => rfl); (case lxg12 => rfl); (case lrg12 => exact hl))
         | ((with_reducible refine step_neq_w (t := 23) (x := .tmp 20) (y := .tmp 21) (t2 := ?nbg12) (u := ?nug12) (v := ?nvg12) (r := ?nrg12) ?nwg12 ?nog12 ?nxg12 ?nyg12 ?ngg12 ?nqg12 ?nhg12); (case nog12 => rfl); (case nwg12 => rfl); (case nxg12 => rfl); (case nyg12 => rfl); (case ngg12 => exact HGD.out _); (case nqg12 => exact hnf.out _)))
       go_ret
       exact ⟨rfl, HB.out⟩
    case true =>
     cases p4
     case false =>
      cases p5
      case false =>
       obtain rfl : ln = 0 := by have := of_decide_eq_false h5; omega
       clear h5
       simp only [Bool.not_true, Bool.not_false] at h2 h3
       go_enter Tryd.func46, Tryd.ntmps46
       go_upto_region 1 with fail
       refine wp_at HW.out.symm ?_
       rw [← HS.out]
       clear HW
       go_wp2_with (first
         | ((with_reducible refine step_load (t := 23) (x := .tmp 19) (p := ?lpg13) (v := ?lvg13) ?lgg13 ?log13 ?lxg13 ?lrg13 ?lhg13); (case lgg13 => rfl); (case log13 => rfl); (case lxg13 => rfl); (case lrg13 => exact hl))
         | ((with_reducible refine step_neq_w (t := 23) (x := .tmp 20) (y := .tmp 21) (t2 := ?nbg13) (u := ?nug13) (v := ?nvg13) (r := ?nrg13) ?nwg13 ?nog13 ?nxg13 ?nyg13 ?ngg13 ?nqg13 ?nhg13); (case nog13 => rfl); (case nwg13 => rfl); (case nxg13 => rfl); (case nyg13 => rfl); (case ngg13 => exact HGD.out _); (case nqg13 => exact hnf.out _)))
       go_ret
       exact ⟨rfl, HB.out⟩
      case true =>
       have h5 : (0 : Int) < ln := of_decide_eq_true h5
       simp only [Bool.not_true, Bool.not_false] at h2 h3
       go_enter Tryd.func46, Tryd.ntmps46
       go_upto_region 1 with fail
       refine wp_at HW.out.symm ?_
       rw [← HS.out]
       clear HW
       go_wp2_with (first
         | ((with_reducible refine step_load (t := 23) (x := .tmp 19) (p := ?lpg14) (v := ?lvg14) ?lgg14 ?log14 ?lxg14 ?lrg14 ?lhg14); (case lgg14 => rfl); (case log14 => rfl); (case lxg14 => rfl); (case lrg14 => exact hl))
         | ((with_reducible refine step_neq_w (t := 23) (x := .tmp 20) (y := .tmp 21) (t2 := ?nbg14) (u := ?nug14) (v := ?nvg14) (r := ?nrg14) ?nwg14 ?nog14 ?nxg14 ?nyg14 ?ngg14 ?nqg14 ?nhg14); (case nog14 => rfl); (case nwg14 => rfl); (case nxg14 => rfl); (case nyg14 => rfl); (case ngg14 => exact HGD.out _); (case nqg14 => exact hnf.out _)))
       go_ret
       exact ⟨rfl, HB.out⟩
     case true =>
      cases p5
      case false =>
       obtain rfl : ln = 0 := by have := of_decide_eq_false h5; omega
       clear h5
       simp only [Bool.not_true, Bool.not_false] at h2 h3
       go_enter Tryd.func46, Tryd.ntmps46
       go_upto_region 1 with fail
       refine wp_at HW.out.symm ?_
       rw [← HS.out]
       clear HW
       go_wp2_with (first
         | ((with_reducible refine step_load (t := 23) (x := .tmp 19) (p := ?lpg15) (v := ?lvg15) ?lgg15 ?log15 ?lxg15 ?lrg15 ?lhg15); (case lgg15 => rfl); (case log15 => rfl); (case lxg15 => rfl); (case lrg15 => exact hl))
         | ((with_reducible refine step_neq_w (t := 23) (x := .tmp 20) (y := .tmp 21) (t2 := ?nbg15) (u := ?nug15) (v := ?nvg15) (r := ?nrg15) ?nwg15 ?nog15 ?nxg15 ?nyg15 ?ngg15 ?nqg15 ?nhg15); (case nog15 => rfl); (case nwg15 => rfl); (case nxg15 => rfl); (case nyg15 => rfl); (case ngg15 => exact HGD.out _); (case nqg15 => exact hnf.out _)))
       go_ret
       exact ⟨rfl, HB.out⟩
      case true =>
       have h5 : (0 : Int) < ln := of_decide_eq_true h5
       simp only [Bool.not_true, Bool.not_false] at h2 h3
       go_enter Tryd.func46, Tryd.ntmps46
       go_upto_region 1 with fail
       refine wp_at HW.out.symm ?_
       rw [← HS.out]
       clear HW
       go_wp2_with (first
         | ((with_reducible refine step_load (t := 23) (x := .tmp 19) (p := ?lpg16) (v := ?lvg16) ?lgg16 ?log16 ?lxg16 ?lrg16 ?lhg16); (case lgg16 => rfl); (case log16 => rfl); (case lxg16 => rfl); (case lrg16 => exact hl))
         | ((with_reducible refine step_neq_w (t := 23) (x := .tmp 20) (y := .tmp 21) (t2 := ?nbg16) (u := ?nug16) (v := ?nvg16) (r := ?nrg16) ?nwg16 ?nog16 ?nxg16 ?nyg16 ?ngg16 ?nqg16 ?nhg16); (case nog16 => rfl); (case nwg16 => rfl); (case nxg16 => rfl); (case nyg16 => rfl); (case ngg16 => exact HGD.out _); (case nqg16 => exact hnf.out _)))
       go_ret
       exact ⟨rfl, HB.out⟩
  case true =>
   cases p2
   case false =>
    cases p3
    case false =>
     cases p4
     case false =>
      cases p5
      case false =>
       obtain rfl : ln = 0 := by have := of_decide_eq_false h5; omega
       clear h5
       simp only [Bool.not_true, Bool.not_false] at h2 h3
       go_enter Tryd.func46, Tryd.ntmps46
       go_upto_region 1 with fail
       refine wp_at HW.out.symm ?_
       rw [← HS.out]
       clear HW
       go_wp2_with (first
         | ((with_reducible refine step_load (t := 23) (x := .tmp 19) (p := ?lpg17) (v := ?lvg17) ?lgg17 ?log17 ?lxg17 ?lrg17 ?lhg17); (case lgg17 => rfl); (case log17 => rfl); (case lxg17 => rfl); (case lrg17 => exact hl))
         | ((with_reducible refine step_neq_w (t := 23) (x := .tmp 20) (y := .tmp 21) (t2 := ?nbg17) (u := ?nug17) (v := ?nvg17) (r := ?nrg17) ?nwg17 ?nog17 ?nxg17 ?nyg17 ?ngg17 ?nqg17 ?nhg17); (case nog17 => rfl); (case nwg17 => rfl); (case nxg17 => rfl); (case nyg17 => rfl); (case ngg17 => exact HGD.out _); (case nqg17 => exact hnf.out _)))
       go_ret
       exact ⟨rfl, HB.out⟩
      case true =>
       have h5 : (0 : Int) < ln := of_decide_eq_true h5
       simp only [Bool.not_true, Bool.not_false] at h2 h3
       go_enter Tryd.func46, Tryd.ntmps46
       go_upto_region 1 with fail
       refine wp_at HW.out.symm ?_
       rw [← HS.out]
       clear HW
       go_wp2_with (first
         | ((with_reducible refine step_load (t := 23) (x := .tmp 19) (p := ?lpg18) (v := ?lvg18) ?lgg18 ?log18 ?lxg18 ?lrg18 ?lhg18); (case lgg18 => rfl); (case log18 => rfl); (case lxg18 => rfl); (case lrg18 => exact hl))
         | ((with_reducible refine step_neq_w (t := 23) (x := .tmp 20) (y := .tmp 21) (t2 := ?nbg18) (u := ?nug18) (v := ?nvg18) (r := ?nrg18) ?nwg18 ?nog18 ?nxg18 ?nyg18 ?ngg18 ?nqg18 ?nhg18); (case nog18 => rfl); (case nwg18 => rfl); (case nxg18 => rfl); (case nyg18 => rfl); (case ngg18 => exact HGD.out _); (case nqg18 => exact hnf.out _)))
       go_ret
       exact ⟨rfl, HB.out⟩
     case true =>
      cases p5
      case false =>
       obtain rfl : ln = 0 := by have := of_decide_eq_false h5; omega
       clear h5
       simp only [Bool.not_true, Bool.not_false] at h2 h3
       go_enter Tryd.func46, Tryd.ntmps46
       go_upto_region 1 with fail
       refine wp_at HW.out.symm ?_
       rw [← HS.out]
       clear HW
       go_wp2_with (first
         | ((with_reducible refine step_load (t := 23) (x := .tmp 19) (p := ?lpg19) (v := ?lvg19) ?lgg19 ?log19 ?lxg19 ?lrg19 ?lhg19); (case lgg19 => rfl); (case log19 => rfl); (case lxg19 => rfl); (case lrg19 => exact hl))
         | ((with_reducible refine step_neq_w (t := 23) (x := .tmp 20) (y := .tmp 21) (t2 := ?nbg19) (u := ?nug19) (v := ?nvg19) (r := ?nrg19) ?nwg19 ?nog19 ?nxg19 ?nyg19 ?ngg19 ?nqg19 ?nhg19); (case nog19 => rfl); (case nwg19 => rfl); (case nxg19 => rfl); (case nyg19 => rfl); (case ngg19 => exact HGD.out _); (case nqg19 => exact hnf.out _)))
       go_ret
       exact ⟨rfl, HB.out⟩
      case true =>
       have h5 : (0 : Int) < ln := of_decide_eq_true h5
       simp only [Bool.not_true, Bool.not_false] at h2 h3
       go_enter Tryd.func46, Tryd.ntmps46
       go_upto_region 1 with fail
       refine wp_at HW.out.symm ?_
       rw [← HS.out]
       clear HW
       go_wp2_with (first
         | ((with_reducible refine step_load (t := 23) (x := .tmp 19) (p := ?lpg20) (v := ?lvg20) ?lgg20 ?log20 ?lxg20 ?lrg20 ?lhg20); (case lgg20 => rfl); (case log20 => rfl); (case lxg20 => rfl); (case lrg20 => exact hl))
         | ((with_reducible refine step_neq_w (t := 23) (x := .tmp 20) (y := .tmp 21) (t2 := ?nbg20) (u := ?nug20) (v := ?nvg20) (r := ?nrg20) ?nwg20 ?nog20 ?nxg20 ?nyg20 ?ngg20 ?nqg20 ?nhg20); (case nog20 => rfl); (case nwg20 => rfl); (case nxg20 => rfl); (case nyg20 => rfl); (case ngg20 => exact HGD.out _); (case nqg20 => exact hnf.out _)))
       go_ret
       exact ⟨rfl, HB.out⟩
    case true =>
     cases p4
     case false =>
      cases p5
      case false =>
       obtain rfl : ln = 0 := by have := of_decide_eq_false h5; omega
       clear h5
       simp only [Bool.not_true, Bool.not_false] at h2 h3
       go_enter Tryd.func46, Tryd.ntmps46
       go_upto_region 1 with fail
       refine wp_at HW.out.symm ?_
       rw [← HS.out]
       clear HW
       go_wp2_with (first
         | ((with_reducible refine step_load (t := 23) (x := .tmp 19) (p := ?lpg21) (v := ?lvg21) ?lgg21 ?log21 ?lxg21 ?lrg21 ?lhg21); (case lgg21 => rfl); (case log21 => rfl); (case lxg21 => rfl); (case lrg21 => exact hl))
         | ((with_reducible refine step_neq_w (t := 23) (x := .tmp 20) (y := .tmp 21) (t2 := ?nbg21) (u := ?nug21) (v := ?nvg21) (r := ?nrg21) ?nwg21 ?nog21 ?nxg21 ?nyg21 ?ngg21 ?nqg21 ?nhg21); (case nog21 => rfl); (case nwg21 => rfl); (case nxg21 => rfl); (case nyg21 => rfl); (case ngg21 => exact HGD.out _); (case nqg21 => exact hnf.out _)))
       go_ret
       exact ⟨rfl, HB.out⟩
      case true =>
       have h5 : (0 : Int) < ln := of_decide_eq_true h5
       simp only [Bool.not_true, Bool.not_false] at h2 h3
       go_enter Tryd.func46, Tryd.ntmps46
       go_upto_region 1 with fail
       refine wp_at HW.out.symm ?_
       rw [← HS.out]
       clear HW
       go_wp2_with (first
         | ((with_reducible refine step_load (t := 23) (x := .tmp 19) (p := ?lpg22) (v := ?lvg22) ?lgg22 ?log22 ?lxg22 ?lrg22 ?lhg22); (case lgg22 => rfl); (case log22 => rfl); (case lxg22 => rfl); (case lrg22 => exact hl))
         | ((with_reducible refine step_neq_w (t := 23) (x := .tmp 20) (y := .tmp 21) (t2 := ?nbg22) (u := ?nug22) (v := ?nvg22) (r := ?nrg22) ?nwg22 ?nog22 ?nxg22 ?nyg22 ?ngg22 ?nqg22 ?nhg22); (case nog22 => rfl); (case nwg22 => rfl); (case nxg22 => rfl); (case nyg22 => rfl); (case ngg22 => exact HGD.out _); (case nqg22 => exact hnf.out _)))
       go_ret
       exact ⟨rfl, HB.out⟩
     case true =>
      cases p5
      case false =>
       obtain rfl : ln = 0 := by have := of_decide_eq_false h5; omega
       clear h5
       simp only [Bool.not_true, Bool.not_false] at h2 h3
       go_enter Tryd.func46, Tryd.ntmps46
       go_upto_region 1 with fail
       refine wp_at HW.out.symm ?_
       rw [← HS.out]
       clear HW
       go_wp2_with (first
         | ((with_reducible refine step_load (t := 23) (x := .tmp 19) (p := ?lpg23) (v := ?lvg23) ?lgg23 ?log23 ?lxg23 ?lrg23 ?lhg23); (case lgg23 => rfl); (case log23 => rfl); (case lxg23 => rfl); (case lrg23 => exact hl))
         | ((with_reducible refine step_neq_w (t := 23) (x := .tmp 20) (y := .tmp 21) (t2 := ?nbg23) (u := ?nug23) (v := ?nvg23) (r := ?nrg23) ?nwg23 ?nog23 ?nxg23 ?nyg23 ?ngg23 ?nqg23 ?nhg23); (case nog23 => rfl); (case nwg23 => rfl); (case nxg23 => rfl); (case nyg23 => rfl); (case ngg23 => exact HGD.out _); (case nqg23 => exact hnf.out _)))
       go_ret
       exact ⟨rfl, HB.out⟩
      case true =>
       have h5 : (0 : Int) < ln := of_decide_eq_true h5
       simp only [Bool.not_true, Bool.not_false] at h2 h3
       go_enter Tryd.func46, Tryd.ntmps46
       go_upto_region 1 with fail
       refine wp_at HW.out.symm ?_
       rw [← HS.out]
       clear HW
       go_wp2_with (first
         | ((with_reducible refine step_load (t := 23) (x := .tmp 19) (p := ?lpg24) (v := ?lvg24) ?lgg24 ?log24 ?lxg24 ?lrg24 ?lhg24); (case lgg24 => rfl); (case log24 => rfl); (case lxg24 => rfl); (case lrg24 => exact hl))
         | ((with_reducible refine step_neq_w (t := 23) (x := .tmp 20) (y := .tmp 21) (t2 := ?nbg24) (u := ?nug24) (v := ?nvg24) (r := ?nrg24) ?nwg24 ?nog24 ?nxg24 ?nyg24 ?ngg24 ?nqg24 ?nhg24); (case nog24 => rfl); (case nwg24 => rfl); (case nxg24 => rfl); (case nyg24 => rfl); (case ngg24 => exact HGD.out _); (case nqg24 => exact hnf.out _)))
       go_ret
       exact ⟨rfl, HB.out⟩
   case true =>
    cases p3
    case false =>
     cases p4
     case false =>
      cases p5
      case false =>
       obtain rfl : ln = 0 := by have := of_decide_eq_false h5; omega
       clear h5
       simp only [Bool.not_true, Bool.not_false] at h2 h3
       go_enter Tryd.func46, Tryd.ntmps46
       go_upto_region 1 with fail
       refine wp_at HW.out.symm ?_
       rw [← HS.out]
       clear HW
       go_wp2_with (first
         | ((with_reducible refine step_load (t := 23) (x := .tmp 19) (p := ?lpg25) (v := ?lvg25) ?lgg25 ?log25 ?lxg25 ?lrg25 ?lhg25); (case lgg25 => rfl); (case log25 => rfl); (case lxg25 => rfl); (case lrg25 => exact hl))
         | ((with_reducible refine step_neq_w (t := 23) (x := .tmp 20) (y := .tmp 21) (t2 := ?nbg25) (u := ?nug25) (v := ?nvg25) (r := ?nrg25) ?nwg25 ?nog25 ?nxg25 ?nyg25 ?ngg25 ?nqg25 ?nhg25); (case nog25 => rfl); (case nwg25 => rfl); (case nxg25 => rfl); (case nyg25 => rfl); (case ngg25 => exact HGD.out _); (case nqg25 => exact hnf.out _)))
       go_ret
       exact ⟨rfl, HB.out⟩
      case true =>
       have h5 : (0 : Int) < ln := of_decide_eq_true h5
       simp only [Bool.not_true, Bool.not_false] at h2 h3
       go_enter Tryd.func46, Tryd.ntmps46
       go_upto_region 1 with fail
       refine wp_at HW.out.symm ?_
       rw [← HS.out]
       clear HW
       go_wp2_with (first
         | ((with_reducible refine step_load (t := 23) (x := .tmp 19) (p := ?lpg26) (v := ?lvg26) ?lgg26 ?log26 ?lxg26 ?lrg26 ?lhg26); (case lgg26 => rfl); (case log26 => rfl); (case lxg26 => rfl); (case lrg26 => exact hl))
         | ((with_reducible refine step_neq_w (t := 23) (x := .tmp 20) (y := .tmp 21) (t2 := ?nbg26) (u := ?nug26) (v := ?nvg26) (r := ?nrg26) ?nwg26 ?nog26 ?nxg26 ?nyg26 ?ngg26 ?nqg26 ?nhg26); (case nog26 => rfl); (case nwg26 => rfl); (case nxg26 => rfl); (case nyg26 => rfl); (case ngg26 => exact HGD.out _); (case nqg26 => exact hnf.out _)))
       go_ret
       exact ⟨rfl, HB.out⟩
     case true =>
      cases p5
      case false =>
       obtain rfl : ln = 0 := by have := of_decide_eq_false h5; omega
       clear h5
       simp only [Bool.not_true, Bool.not_false] at h2 h3
       go_enter Tryd.func46, Tryd.ntmps46
       go_upto_region 1 with fail
       refine wp_at HW.out.symm ?_
       rw [← HS.out]
       clear HW
       go_wp2_with (first
         | ((with_reducible refine step_load (t := 23) (x := .tmp 19) (p := ?lpg27) (v := ?lvg27) ?lgg27 ?log27 ?lxg27 ?lrg27 ?lhg27); (case lgg27 => rfl); (case log27 => rfl); (case lxg27 => rfl); (case lrg27 => exact hl))
         | ((with_reducible refine step_neq_w (t := 23) (x := .tmp 20) (y := .tmp 21) (t2 := ?nbg27) (u := ?nug27) (v := ?nvg27) (r := ?nrg27) ?nwg27 ?nog27 ?nxg27 ?nyg27 ?ngg27 ?nqg27 ?nhg27); (case nog27 => rfl); (case nwg27 => rfl); (case nxg27 => rfl); (case nyg27 => rfl); (case ngg27 => exact HGD.out _); (case nqg27 => exact hnf.out _)))
       go_ret
       exact ⟨rfl, HB.out⟩
      case true =>
       have h5 : (0 : Int) < ln := of_decide_eq_true h5
       simp only [Bool.not_true, Bool.not_false] at h2 h3
       go_enter Tryd.func46, Tryd.ntmps46
       go_upto_region 1 with fail
       refine wp_at HW.out.symm ?_
       rw [← HS.out]
       clear HW
       go_wp2_with (first
         | ((with_reducible refine step_load (t := 23) (x := .tmp 19) (p := ?lpg28) (v := ?lvg28) ?lgg28 ?log28 ?lxg28 ?lrg28 ?lhg28); (case lgg28 => rfl); (case log28 => rfl); (case lxg28 => rfl); (case lrg28 => exact hl))
         | ((with_reducible refine step_neq_w (t := 23) (x := .tmp 20) (y := .tmp 21) (t2 := ?nbg28) (u := ?nug28) (v := ?nvg28) (r := ?nrg28) ?nwg28 ?nog28 ?nxg28 ?nyg28 ?ngg28 ?nqg28 ?nhg28); (case nog28 => rfl); (case nwg28 => rfl); (case nxg28 => rfl); (case nyg28 => rfl); (case ngg28 => exact HGD.out _); (case nqg28 => exact hnf.out _)))
       go_ret
       exact ⟨rfl, HB.out⟩
    case true =>
     cases p4
     case false =>
      cases p5
      case false =>
       obtain rfl : ln = 0 := by have := of_decide_eq_false h5; omega
       clear h5
       simp only [Bool.not_true, Bool.not_false] at h2 h3
       go_enter Tryd.func46, Tryd.ntmps46
       go_upto_region 1 with fail
       refine wp_at HW.out.symm ?_
       rw [← HS.out]
       clear HW
       go_wp2_with (first
         | ((with_reducible refine step_load (t := 23) (x := .tmp 19) (p := ?lpg29) (v := ?lvg29) ?lgg29 ?log29 ?lxg29 ?lrg29 ?lhg29); (case lgg29 => rfl); (case log29 => rfl); (case lxg29 => rfl); (case lrg29 => exact hl))
         | ((with_reducible refine step_neq_w (t := 23) (x := .tmp 20) (y := .tmp 21) (t2 := ?nbg29) (u := ?nug29) (v := ?nvg29) (r := ?nrg29) ?nwg29 ?nog29 ?nxg29 ?nyg29 ?ngg29 ?nqg29 ?nhg29); (case nog29 => rfl); (case nwg29 => rfl); (case nxg29 => rfl); (case nyg29 => rfl); (case ngg29 => exact HGD.out _); (case nqg29 => exact hnf.out _)))
       go_ret
       exact ⟨rfl, HB.out⟩
      case true =>
       have h5 : (0 : Int) < ln := of_decide_eq_true h5
       simp only [Bool.not_true, Bool.not_false] at h2 h3
       go_enter Tryd.func46, Tryd.ntmps46
       go_upto_region 1 with fail
       refine wp_at HW.out.symm ?_
       rw [← HS.out]
       clear HW
       go_wp2_with (first
         | ((with_reducible refine step_load (t := 23) (x := .tmp 19) (p := ?lpg30) (v := ?lvg30) ?lgg30 ?log30 ?lxg30 ?lrg30 ?lhg30); (case lgg30 => rfl); (case log30 => rfl); (case lxg30 => rfl); (case lrg30 => exact hl))
         | ((with_reducible refine step_neq_w (t := 23) (x := .tmp 20) (y := .tmp 21) (t2 := ?nbg30) (u := ?nug30) (v := ?nvg30) (r := ?nrg30) ?nwg30 ?nog30 ?nxg30 ?nyg30 ?ngg30 ?nqg30 ?nhg30); (case nog30 => rfl); (case nwg30 => rfl); (case nxg30 => rfl); (case nyg30 => rfl); (case ngg30 => exact HGD.out _); (case nqg30 => exact hnf.out _)))
       go_ret
       exact ⟨rfl, HB.out⟩
     case true =>
      cases p5
      case false =>
       obtain rfl : ln = 0 := by have := of_decide_eq_false h5; omega
       clear h5
       simp only [Bool.not_true, Bool.not_false] at h2 h3
       go_enter Tryd.func46, Tryd.ntmps46
       go_upto_region 1 with fail
       refine wp_at HW.out.symm ?_
       rw [← HS.out]
       clear HW
       go_wp2_with (first
         | ((with_reducible refine step_load (t := 23) (x := .tmp 19) (p := ?lpg31) (v := ?lvg31) ?lgg31 ?log31 ?lxg31 ?lrg31 ?lhg31); (case lgg31 => rfl); (case log31 => rfl); (case lxg31 => rfl); (case lrg31 => exact hl))
         | ((with_reducible refine step_neq_w (t := 23) (x := .tmp 20) (y := .tmp 21) (t2 := ?nbg31) (u := ?nug31) (v := ?nvg31) (r := ?nrg31) ?nwg31 ?nog31 ?nxg31 ?nyg31 ?ngg31 ?nqg31 ?nhg31); (case nog31 => rfl); (case nwg31 => rfl); (case nxg31 => rfl); (case nyg31 => rfl); (case ngg31 => exact HGD.out _); (case nqg31 => exact hnf.out _)))
       go_ret
       exact ⟨rfl, HB.out⟩
      case true =>
       have h5 : (0 : Int) < ln := of_decide_eq_true h5
       simp only [Bool.not_true, Bool.not_false] at h2 h3
       go_enter Tryd.func46, Tryd.ntmps46
       go_upto_region 1 with fail
       refine wp_at HW.out.symm ?_
       rw [← HS.out]
       clear HW
       go_wp2_with (first
         | ((with_reducible refine step_load (t := 23) (x := .tmp 19) (p := ?lpg32) (v := ?lvg32) ?lgg32 ?log32 ?lxg32 ?lrg32 ?lhg32); (case lgg32 => rfl); (case log32 => rfl); (case lxg32 => rfl); (case lrg32 => exact hl))
         | ((with_reducible refine step_neq_w (t := 23) (x := .tmp 20) (y := .tmp 21) (t2 := ?nbg32) (u := ?nug32) (v := ?nvg32) (r := ?nrg32) ?nwg32 ?nog32 ?nxg32 ?nyg32 ?ngg32 ?nqg32 ?nhg32); (case nog32 => rfl); (case nwg32 => rfl); (case nxg32 => rfl); (case nyg32 => rfl); (case ngg32 => exact HGD.out _); (case nqg32 => exact hnf.out _)))
       go_ret
       exact ⟨rfl, HB.out⟩
end Go.Proofs.YtmaolmogccknbaaDoor.opn
