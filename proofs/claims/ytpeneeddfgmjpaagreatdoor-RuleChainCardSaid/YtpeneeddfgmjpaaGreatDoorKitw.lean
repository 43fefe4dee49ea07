/-
  petrelref08.Same.
  An array of words that is listed as laid: what its places hold.
-/
import Derived.Test.YtpeneeddfgmjpaaGreatDoorHdia
import Derived.Test.YtpeneeddfgmjpaaGreatDoorKit
import Derived.Test.YtpeneeddfgmjpaaGreatDoorIda
import Derived.LaidMore
import Derived.Stop.Joined
namespace Go.Proofs.YtpeneeddfgmjpaaGreatDoor.hdr
open Go.RowKit Go.Proofs.YtpeneeddfgmjpaaGreatDoor.mem Go.Proofs.YtpeneeddfgmjpaaGreatDoor.sha Go.Proofs.YtpeneeddfgmjpaaGreatDoor.ids
open Go.Proofs.YtpeneeddfgmjpaaGreatDoor.opn (b1 b2 b4 num txt idl byte rd rdN rdT rdI rdS rdL St Reads Stays endE zid mkId)

def sameH (a b : Hd) : Bool := decide (a.parents = b.parents) && (decide (a.height = b.height) && (decide (a.topic = b.topic) && (decide (a.author = b.author) && (decide (a.seq = b.seq) && (decide (a.size = b.size) && decide (a.commit = b.commit))))))
theorem sameH_iff (a b : Hd) : sameH a b = true ↔ a = b := by
 obtain ⟨p, h, t, u, q, z, c⟩ := a
 obtain ⟨p', h', t', u', q', z', c'⟩ := b
 simp [sameH]
theorem sameH_refl (a : Hd) : sameH a a = true := (sameH_iff a a).2 rfl
theorem tx_beq (a b : List UInt8) : ((oct.tx a).toList == (oct.tx b).toList) = decide (a = b) := by
 rw [ByteArray.toList_eq, ByteArray.toList_eq, oct.tx_list, oct.tx_list, Bool.eq_iff_iff, beq_iff_eq, decide_eq_true_iff]
set_option maxHeartbeats 4000000 in
set_option maxRecDepth 100000 in
theorem same_any (x y : Hd) (vx vy : Value) (w : World) (hrx : x.commit.length = 32) (hry : y.commit.length = 32) (hvx : RdV w vx x.parents) (hvy : RdV w vy y.parents) :
  Calls Tryz.prog 17 #[hdv x vx, hdv y vy] w fun e w' => e = .returned (.bool (sameH x y)) ∧ Below w.heap.size w w' := by
 obtain ⟨w1, hw1⟩ : ∃ u, u = (w.alloc (.cells (hdc x vx).toArray 26)).alloc (.cells (hdc y vy).toArray 26) := ⟨_, rfl⟩
 obtain ⟨S, hS⟩ : ∃ S, S = w.heap.size := ⟨_, rfl⟩
 have hX : Blk w1 S 26 (hdc x vx).toArray := by rw [hw1, hS]; exact (Blk.new w _ _).alloc _
 have hY : Blk w1 (S + 1) 26 (hdc y vy).toArray := by rw [hw1, hS]; exact Blk.at_ (by simp) _ _
 have hB : Below w.heap.size w w1 := by rw [hw1]; exact ((Below.refl _ _).alloc (Nat.le_refl _) _).alloc (by simp) _
 have HX := HdBlk.of hX hrx
 have HY := HdBlk.of hY hry
 have hx1 := hvx.next hB
 have hy1 := hvy.next hB
 have HB := Lib.hid hB
 have HS := Lib.hid hS
 have HW := Lib.hid hw1
 obtain ⟨adx, capx, rfl⟩ := hx1.form
 obtain ⟨ady, capy, rfl⟩ := hy1.form
 have hsm := rsame_any x.parents y.parents adx ady _ capx _ capy w1 hx1 hy1
 have c0 := HX.parents
 have d0 := HY.parents
 obtain ⟨VX, hVX⟩ : ∃ V, V = Value.slice adx x.parents.length capx := ⟨_, rfl⟩
 obtain ⟨VY, hVY⟩ : ∃ V, V = Value.slice ady y.parents.length capy := ⟨_, rfl⟩
 rw [← hVX] at hsm HW c0
 rw [← hVY] at hsm HW d0
 rw [← hVX, ← hVY]
 have c1 := HX.height
 have d1 := HY.height
 have c2 := HX.topic
 have d2 := HY.topic
 have c3 := HX.author
 have d3 := HY.author
 have c4 := HX.seq
 have d4 := HY.seq
 have c5 := HX.size
 have d5 := HY.size
 have HC6 := Lib.hid HX.commit
 have HD6 := Lib.hid HY.commit
 have HID := Lib.hid fun u => eql_ids u x.commit y.commit hrx hry
 have HGD : Hid (∀ u, (eqGuard .eql 24 (.tmp 47) (.tmp 49) (idv x.commit) (idv y.commit)).run Tryz.prog u = .ok () u) := Lib.hid fun u => run_eqGuard_agg u .eql 24 (.tmp 47) (.tmp 49) _ _ Tryz.eqGuardType24
 obtain ⟨tx, htx⟩ : ∃ s, s = oct.tx x.topic := ⟨_, rfl⟩
 obtain ⟨ty, hty⟩ : ∃ s, s = oct.tx y.topic := ⟨_, rfl⟩
 have HTE : Hid ((tx.toList == ty.toList) = decide (x.topic = y.topic)) := Lib.hid (by rw [htx, hty]; exact tx_beq _ _)
 rw [← htx] at c2
 rw [← hty] at d2
 have HR : Hid (sameH x y = (decide (x.parents = y.parents) && (decide (x.height = y.height) && (decide (x.topic = y.topic) && (decide (x.author = y.author) && (decide (x.seq = y.seq) && (decide (x.size = y.size) && decide (x.commit = y.commit)))))))) := Lib.hid rfl
 have HPE : Hid ((x.parents == y.parents) = decide (x.parents = y.parents)) := Lib.hid (by rw [Bool.eq_iff_iff, beq_iff_eq, decide_eq_true_iff])
 rw [HPE.out] at hsm
 have HSM := Lib.hid hsm
 clear hX hY hB HX HY hvx hvy hx1 hy1 hS hw1 hsm hVX hVY htx hty hrx hry HPE
 unfold hdv
 by_cases h0 : x.parents = y.parents
 ·
  have HR : Hid (_ = _) := Lib.hid HR.out
  rw [decide_eq_true h0, Bool.true_and] at HR
  have HSM := Lib.hid HSM.out
  rw [decide_eq_true h0] at HSM
  clear h0
  by_cases h1 : x.height = y.height
  ·
   have HR : Hid (_ = _) := Lib.hid HR.out
   rw [decide_eq_true h1, Bool.true_and] at HR
   have e1 : (x.height == y.height) = true := beq_iff_eq.2 h1
   clear h1
   by_cases h2 : x.topic = y.topic
   ·
    have HR : Hid (_ = _) := Lib.hid HR.out
    rw [decide_eq_true h2, Bool.true_and] at HR
    have e2 := HTE.out
    rw [decide_eq_true h2] at e2
    clear h2
    by_cases h3 : x.author = y.author
    ·
     have HR : Hid (_ = _) := Lib.hid HR.out
     rw [decide_eq_true h3, Bool.true_and] at HR
     have e3 : (x.author == y.author) = true := beq_iff_eq.2 h3
     clear h3
     by_cases h4 : x.seq = y.seq
     ·
      have HR : Hid (_ = _) := Lib.hid HR.out
      rw [decide_eq_true h4, Bool.true_and] at HR
      have e4 : (x.seq == y.seq) = true := beq_iff_eq.2 h4
      clear h4
      by_cases h5 : x.size = y.size
      ·
       have HR : Hid (_ = _) := Lib.hid HR.out
       rw [decide_eq_true h5, Bool.true_and] at HR
       have e5 : (x.size == y.size) = true := beq_iff_eq.2 h5
       clear h5
       by_cases h6 : x.commit = y.commit
       ·
        have HR : Hid (_ = _) := Lib.hid HR.out
        rw [decide_eq_true h6] at HR
        have e6 := HID.out
        rw [show (x.commit == y.commit) = true from beq_iff_eq.2 h6] at e6
        have HE6 := Lib.hid e6
        clear e6
        clear h6
        go_enter Tryz.func17, Tryz.ntmps17
        go_upto_region 1 with fail
        refine wp_at HW.out.symm ?_
        rw [← HS.out]
        clear HW
        go_wp2_with (first
    | (go_at_call 10; (with_reducible refine HSM.out.mono ?_); rintro e w3 ⟨rfl, m, rfl⟩; have c6 := HC6.out m; have d6 := HD6.out m)
    | ((with_reducible refine step_load_w (t := 24) (x := .tmp 46) (p := ?lpa1) (v := ?lva1) ?lga1 ?loa1 ?lxa1 ?lra1 ?lha1); (case loa1 => rfl); (case lga1 => rfl); (case lxa1 => rfl); (case lra1 => exact c6))
    | ((with_reducible refine step_load_w (t := 24) (x := .tmp 48) (p := ?lpb1) (v := ?lvb1) ?lgb1 ?lob1 ?lxb1 ?lrb1 ?lhb1); (case lob1 => rfl); (case lgb1 => rfl); (case lxb1 => rfl); (case lrb1 => exact d6))
    | ((with_reducible refine step_bin_w (op := .eql) (t := 24) (x := .tmp 47) (y := .tmp 49) (t2 := ?nbc1) (u := ?nuc1) (v := ?nvc1) (r := ?nrc1) ?nwc1 ?noc1 ?nxc1 ?nyc1 ?ngc1 ?nqc1 ?nhc1); (case noc1 => rfl); (case nwc1 => rfl); (case nxc1 => rfl); (case nyc1 => rfl); (case ngc1 => exact HGD.out _); (case nqc1 => exact HE6.out _)))
        go_ret
        exact ⟨by rw [HR.out]; rfl, below_drewN HB.out m⟩
       ·
        have HR : Hid (_ = _) := Lib.hid HR.out
        rw [decide_eq_false h6] at HR
        have e6 := HID.out
        rw [show (x.commit == y.commit) = false from beq_eq_false_iff_ne.2 h6] at e6
        have HE6 := Lib.hid e6
        clear e6
        clear h6
        go_enter Tryz.func17, Tryz.ntmps17
        go_upto_region 1 with fail
        refine wp_at HW.out.symm ?_
        rw [← HS.out]
        clear HW
        go_wp2_with (first
    | (go_at_call 10; (with_reducible refine HSM.out.mono ?_); rintro e w3 ⟨rfl, m, rfl⟩; have c6 := HC6.out m; have d6 := HD6.out m)
    | ((with_reducible refine step_load_w (t := 24) (x := .tmp 46) (p := ?lpa2) (v := ?lva2) ?lga2 ?loa2 ?lxa2 ?lra2 ?lha2); (case loa2 => rfl); (case lga2 => rfl); (case lxa2 => rfl); (case lra2 => exact c6))
    | ((with_reducible refine step_load_w (t := 24) (x := .tmp 48) (p := ?lpb2) (v := ?lvb2) ?lgb2 ?lob2 ?lxb2 ?lrb2 ?lhb2); (case lob2 => rfl); (case lgb2 => rfl); (case lxb2 => rfl); (case lrb2 => exact d6))
    | ((with_reducible refine step_bin_w (op := .eql) (t := 24) (x := .tmp 47) (y := .tmp 49) (t2 := ?nbc2) (u := ?nuc2) (v := ?nvc2) (r := ?nrc2) ?nwc2 ?noc2 ?nxc2 ?nyc2 ?ngc2 ?nqc2 ?nhc2); (case noc2 => rfl); (case nwc2 => rfl); (case nxc2 => rfl); (case nyc2 => rfl); (case ngc2 => exact HGD.out _); (case nqc2 => exact HE6.out _)))
        go_ret
        exact ⟨by rw [HR.out]; rfl, below_drewN HB.out m⟩
      ·
       have HR : Hid (_ = _) := Lib.hid HR.out
       rw [decide_eq_false h5, Bool.false_and] at HR
       have e5 : (x.size == y.size) = false := beq_eq_false_iff_ne.2 h5
       clear h5
       go_enter Tryz.func17, Tryz.ntmps17
       go_upto_region 1 with fail
       refine wp_at HW.out.symm ?_
       rw [← HS.out]
       clear HW
       go_wp2_with (first
    | (go_at_call 10; (with_reducible refine HSM.out.mono ?_); rintro e w3 ⟨rfl, m, rfl⟩; have c6 := HC6.out m; have d6 := HD6.out m)
    | ((with_reducible refine step_load_w (t := 24) (x := .tmp 46) (p := ?lpa3) (v := ?lva3) ?lga3 ?loa3 ?lxa3 ?lra3 ?lha3); (case loa3 => rfl); (case lga3 => rfl); (case lxa3 => rfl); (case lra3 => exact c6))
    | ((with_reducible refine step_load_w (t := 24) (x := .tmp 48) (p := ?lpb3) (v := ?lvb3) ?lgb3 ?lob3 ?lxb3 ?lrb3 ?lhb3); (case lob3 => rfl); (case lgb3 => rfl); (case lxb3 => rfl); (case lrb3 => exact d6))
    | ((with_reducible refine step_bin_w (op := .eql) (t := 24) (x := .tmp 47) (y := .tmp 49) (t2 := ?nbc3) (u := ?nuc3) (v := ?nvc3) (r := ?nrc3) ?nwc3 ?noc3 ?nxc3 ?nyc3 ?ngc3 ?nqc3 ?nhc3); (case noc3 => rfl); (case nwc3 => rfl); (case nxc3 => rfl); (case nyc3 => rfl); (case ngc3 => exact HGD.out _); (case nqc3 => exact HE6.out _)))
       go_ret
       exact ⟨by rw [HR.out]; rfl, below_drewN HB.out m⟩
     ·
      have HR : Hid (_ = _) := Lib.hid HR.out
      rw [decide_eq_false h4, Bool.false_and] at HR
      have e4 : (x.seq == y.seq) = false := beq_eq_false_iff_ne.2 h4
      clear h4
      go_enter Tryz.func17, Tryz.ntmps17
      go_upto_region 1 with fail
      refine wp_at HW.out.symm ?_
      rw [← HS.out]
      clear HW
      go_wp2_with (first
    | (go_at_call 10; (with_reducible refine HSM.out.mono ?_); rintro e w3 ⟨rfl, m, rfl⟩; have c6 := HC6.out m; have d6 := HD6.out m)
    | ((with_reducible refine step_load_w (t := 24) (x := .tmp 46) (p := ?lpa4) (v := ?lva4) ?lga4 ?loa4 ?lxa4 ?lra4 ?lha4); (case loa4 => rfl); (case lga4 => rfl); (case lxa4 => rfl); (case lra4 => exact c6))
    | ((with_reducible refine step_load_w (t := 24) (x := .tmp 48) (p := ?lpb4) (v := ?lvb4) ?lgb4 ?lob4 ?lxb4 ?lrb4 ?lhb4); (case lob4 => rfl); (case lgb4 => rfl); (case lxb4 => rfl); (case lrb4 => exact d6))
    | ((with_reducible refine step_bin_w (op := .eql) (t := 24) (x := .tmp 47) (y := .tmp 49) (t2 := ?nbc4) (u := ?nuc4) (v := ?nvc4) (r := ?nrc4) ?nwc4 ?noc4 ?nxc4 ?nyc4 ?ngc4 ?nqc4 ?nhc4); (case noc4 => rfl); (case nwc4 => rfl); (case nxc4 => rfl); (case nyc4 => rfl); (case ngc4 => exact HGD.out _); (case nqc4 => exact HE6.out _)))
      go_ret
      exact ⟨by rw [HR.out]; rfl, below_drewN HB.out m⟩
    ·
     have HR : Hid (_ = _) := Lib.hid HR.out
     rw [decide_eq_false h3, Bool.false_and] at HR
     have e3 : (x.author == y.author) = false := beq_eq_false_iff_ne.2 h3
     clear h3
     go_enter Tryz.func17, Tryz.ntmps17
     go_upto_region 1 with fail
     refine wp_at HW.out.symm ?_
     rw [← HS.out]
     clear HW
     go_wp2_with (first
    | (go_at_call 10; (with_reducible refine HSM.out.mono ?_); rintro e w3 ⟨rfl, m, rfl⟩; have c6 := HC6.out m; have d6 := HD6.out m)
    | ((with_reducible refine step_load_w (t := 24) (x := .tmp 46) (p := ?lpa5) (v := ?lva5) ?lga5 ?loa5 ?lxa5 ?lra5 ?lha5); (case loa5 => rfl); (case lga5 => rfl); (case lxa5 => rfl); (case lra5 => exact c6))
    | ((with_reducible refine step_load_w (t := 24) (x := .tmp 48) (p := ?lpb5) (v := ?lvb5) ?lgb5 ?lob5 ?lxb5 ?lrb5 ?lhb5); (case lob5 => rfl); (case lgb5 => rfl); (case lxb5 => rfl); (case lrb5 => exact d6))
    | ((with_reducible refine step_bin_w (op := .eql) (t := 24) (x := .tmp 47) (y := .tmp 49) (t2 := ?nbc5) (u := ?nuc5) (v := ?nvc5) (r := ?nrc5) ?nwc5 ?noc5 ?nxc5 ?nyc5 ?ngc5 ?nqc5 ?nhc5); (case noc5 => rfl); (case nwc5 => rfl); (case nxc5 => rfl); (case nyc5 => rfl); (case ngc5 => exact HGD.out _); (case nqc5 => exact HE6.out _)))
     go_ret
     exact ⟨by rw [HR.out]; rfl, below_drewN HB.out m⟩
   ·
    have HR : Hid (_ = _) := Lib.hid HR.out
    rw [decide_eq_false h2, Bool.false_and] at HR
    have e2 := HTE.out
    rw [decide_eq_false h2] at e2
    clear h2
    go_enter Tryz.func17, Tryz.ntmps17
    go_upto_region 1 with fail
    refine wp_at HW.out.symm ?_
    rw [← HS.out]
    clear HW
    go_wp2_with (first
    | (go_at_call 10; (with_reducible refine HSM.out.mono ?_); rintro e w3 ⟨rfl, m, rfl⟩; have c6 := HC6.out m; have d6 := HD6.out m)
    | ((with_reducible refine step_load_w (t := 24) (x := .tmp 46) (p := ?lpa6) (v := ?lva6) ?lga6 ?loa6 ?lxa6 ?lra6 ?lha6); (case loa6 => rfl); (case lga6 => rfl); (case lxa6 => rfl); (case lra6 => exact c6))
    | ((with_reducible refine step_load_w (t := 24) (x := .tmp 48) (p := ?lpb6) (v := ?lvb6) ?lgb6 ?lob6 ?lxb6 ?lrb6 ?lhb6); (case lob6 => rfl); (case lgb6 => rfl); (case lxb6 => rfl); (case lrb6 => exact d6))
    | ((with_reducible refine step_bin_w (op := .eql) (t := 24) (x := .tmp 47) (y := .tmp 49) (t2 := ?nbc6) (u := ?nuc6) (v := ?nvc6) (r := ?nrc6) ?nwc6 ?noc6 ?nxc6 ?nyc6 ?ngc6 ?nqc6 ?nhc6); (case noc6 => rfl); (case nwc6 => rfl); (case nxc6 => rfl); (case nyc6 => rfl); (case ngc6 => exact HGD.out _); (case nqc6 => exact HE6.out _)))
    go_ret
    exact ⟨by rw [HR.out]; rfl, below_drewN HB.out m⟩
  ·
   have HR : Hid (_ = _) := Lib.hid HR.out
   rw [decide_eq_false h1, Bool.false_and] at HR
   have e1 : (x.height == y.height) = false := beq_eq_false_iff_ne.2 h1
   clear h1
   go_enter Tryz.func17, Tryz.ntmps17
   go_upto_region 1 with fail
   refine wp_at HW.out.symm ?_
   rw [← HS.out]
   clear HW
   go_wp2_with (first
    | (go_at_call 10; (with_reducible refine HSM.out.mono ?_); rintro e w3 ⟨rfl, m, rfl⟩; have c6 := HC6.out m; have d6 := HD6.out m)
    | ((with_reducible refine step_load_w (t := 24) (x := .tmp 46) (p := ?lpa7) (v := ?lva7) ?lga7 ?loa7 ?lxa7 ?lra7 ?lha7); (case loa7 => rfl); (case lga7 => rfl); (case lxa7 => rfl); (case lra7 => exact c6))
    | ((with_reducible refine step_load_w (t := 24) (x := .tmp 48) (p := ?lpb7) (v := ?lvb7) ?lgb7 ?lob7 ?lxb7 ?lrb7 ?lhb7); (case lob7 => rfl); (case lgb7 => rfl); (case lxb7 => rfl); (case lrb7 => exact d6))
    | ((with_reducible refine step_bin_w (op := .eql) (t := 24) (x := .tmp 47) (y := .tmp 49) (t2 := ?nbc7) (u := ?nuc7) (v := ?nvc7) (r := ?nrc7) ?nwc7 ?noc7 ?nxc7 ?nyc7 ?ngc7 ?nqc7 ?nhc7); (case noc7 => rfl); (case nwc7 => rfl); (case nxc7 => rfl); (case nyc7 => rfl); (case ngc7 => exact HGD.out _); (case nqc7 => exact HE6.out _)))
   go_ret
   exact ⟨by rw [HR.out]; rfl, below_drewN HB.out m⟩
 ·
  have HR : Hid (_ = _) := Lib.hid HR.out
  rw [decide_eq_false h0, Bool.false_and] at HR
  have HSM := Lib.hid HSM.out
  rw [decide_eq_false h0] at HSM
  clear h0
  go_enter Tryz.func17, Tryz.ntmps17
  go_upto_region 1 with fail
  refine wp_at HW.out.symm ?_
  rw [← HS.out]
  clear HW
  go_wp2_with (first
    | (go_at_call 10; (with_reducible refine HSM.out.mono ?_); rintro e w3 ⟨rfl, m, rfl⟩; have c6 := HC6.out m; have d6 := HD6.out m)
    | ((with_reducible refine step_load_w (t := 24) (x := .tmp 46) (p := ?lpa8) (v := ?lva8) ?lga8 ?loa8 ?lxa8 ?lra8 ?lha8); (case loa8 => rfl); (case lga8 => rfl); (case lxa8 => rfl); (case lra8 => exact c6))
    | ((with_reducible refine step_load_w (t := 24) (x := .tmp 48) (p := ?lpb8) (v := ?lvb8) ?lgb8 ?lob8 ?lxb8 ?lrb8 ?lhb8); (case lob8 => rfl); (case lgb8 => rfl); (case lxb8 => rfl); (case lrb8 => exact d6))
    | ((with_reducible refine step_bin_w (op := .eql) (t := 24) (x := .tmp 47) (y := .tmp 49) (t2 := ?nbc8) (u := ?nuc8) (v := ?nvc8) (r := ?nrc8) ?nwc8 ?noc8 ?nxc8 ?nyc8 ?ngc8 ?nqc8 ?nhc8); (case noc8 => rfl); (case nwc8 => rfl); (case nxc8 => rfl); (case nyc8 => rfl); (case ngc8 => exact HGD.out _); (case nqc8 => exact HE6.out _)))
  go_ret
  exact ⟨by rw [HR.out]; rfl, below_drewN HB.out m⟩
end Go.Proofs.YtpeneeddfgmjpaaGreatDoor.hdr

namespace Go.Proofs.YtpeneeddfgmjpaaGreatDoor.kit
open Go.ChangeShapes Go.WideShapes Go.ChangeAt Go.RowKit Go.Proofs.YtpeneeddfgmjpaaGreatDoor.sha

/-- what a number of 32 bits and one of 16 are -/
theorem word_of {a : Int} (h : Lit.wf (.int .u32 a)) : ∃ c : UInt32, a = U c := by
 have hb : 0 ≤ a ∧ a ≤ 4294967295 := by simpa [Lit.wf, IntKind.min, IntKind.max, IntKind.signed, IntKind.bits] using h
 refine ⟨UInt32.ofNat a.toNat, ?_⟩
 unfold U
 rw [UInt32.toNat_ofNat_of_lt' (by show a.toNat < 4294967296; omega)]
 omega
theorem words_of_trod {H : Type} {enc : TypeId × Value → H} {w : World} {base : Nat} {sp : Nat → Bool} {held : Bool} {fuel n : Nat} {t : TypeId} {p : List MemPlace} (L : List UInt32) (ht : Tryz.prog.underlying t = some (.array n 97)) (cs : List Value)
  (h : DataW.trod enc Tryz.prog w base sp held fuel t cs = some (.agg (L.map fun x => DataW.lit (.int .u32 (U x))), p)) (j : Nat) (hj : j < n) (hL : L.length = n) : cs[j]? = some (.int .u32 (U (L.getD j 0))) := by
 obtain ⟨xs, m1, rfl, hx1, hlen, hn, hel⟩ := DataW.trod_array ht h
 have c1 : Tryz.prog.cellsOf 97 = 1 := by kernel_rfl
 simp only [Prod.mk.injEq, DataW.agg.injEq] at hx1
 have hj2 := hel j hj
 rw [c1, Nat.mul_one] at hj2
 have hxj : xs[j]? = some (xs[j]'(by omega)) := List.getElem?_eq_getElem (by omega)
 rw [hxj] at hj2
 obtain ⟨k, e1, e2, _⟩ := DataW.trod_int Tryz.underlying97 hj2
 have hk : (xs.map (·.1))[j]? = some (.lit (.int .u32 k)) := by rw [List.getElem?_map, hxj]; simp [e2]
 have hLj : L[j]? = some (L[j]'(by rw [hL]; exact hj)) := List.getElem?_eq_getElem (by rw [hL]; exact hj)
 rw [← hx1.1, List.getElem?_map, hLj] at hk
 have hkU : U (L[j]'(by rw [hL]; exact hj)) = k := by simpa using hk
 rw [List.getD_eq_getElem?_getD, hLj, Option.getD_some, hkU]
 have := congrArg (fun l : List Value => l[0]?) e1
 simpa [List.getElem?_take, List.getElem?_drop] using this
end Go.Proofs.YtpeneeddfgmjpaaGreatDoor.kit
