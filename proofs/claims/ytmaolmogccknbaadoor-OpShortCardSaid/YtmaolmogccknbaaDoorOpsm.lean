/-
  petrelref07.Same.
-/
import Derived.Test.YtmaolmogccknbaaDoorRdn
namespace Go.Proofs.YtmaolmogccknbaaDoor.opn
open Go.RowKit Go.Proofs.YtmaolmogccknbaaDoor.mem Go.Proofs.YtmaolmogccknbaaDoor.sha Go.Proofs.YtmaolmogccknbaaDoor.ids

set_option maxHeartbeats 4000000 in
set_option maxRecDepth 100000 in
theorem same_any (x y : Opn) (vx vy : Value) (w : World) (hrx : x.ref.length = 32) (hry : y.ref.length = 32) (hvx : RdV w vx x.refs) (hvy : RdV w vy y.refs) :
    Calls Tryd.prog 17 #[opv x vx, opv y vy] w fun e w' => e = .returned (.bool (sameO x y)) ∧ Below w.heap.size w w' := by
  obtain ⟨w1, hw1⟩ : ∃ u, u = (w.alloc (.cells (opc x vx).toArray 26)).alloc (.cells (opc y vy).toArray 26) := ⟨_, rfl⟩
  obtain ⟨S, hS⟩ : ∃ S, S = w.heap.size := ⟨_, rfl⟩
  have hX : Blk w1 S 26 (opc x vx).toArray := by rw [hw1, hS]; exact (Blk.new w _ _).alloc _
  have hY : Blk w1 (S + 1) 26 (opc y vy).toArray := by rw [hw1, hS]; exact Blk.at_ (by simp) _ _
  have hB : Below w.heap.size w w1 := by rw [hw1]; exact ((Below.refl _ _).alloc (Nat.le_refl _) _).alloc (by simp) _
  have HX := OpBlk.of hX hrx
  have HY := OpBlk.of hY hry
  have hx1 := hvx.next hB
  have hy1 := hvy.next hB
  have HVX := Lib.hid hx1
  have HVY := Lib.hid hy1
  have HB := Lib.hid hB
  have HS := Lib.hid hS
  have HW := Lib.hid hw1
  obtain ⟨adx, capx, rfl⟩ := hx1.form
  obtain ⟨ady, capy, rfl⟩ := hy1.form
  have hsm := rsame_any x.refs y.refs adx ady _ capx _ capy w1 hx1 hy1
  obtain ⟨lx, hlx⟩ : ∃ n, n = x.refs.length := ⟨_, rfl⟩
  obtain ⟨ly, hly⟩ : ∃ n, n = y.refs.length := ⟨_, rfl⟩
  have c5 := HX.refs
  have d5 := HY.refs
  obtain ⟨VX, hVX⟩ : ∃ V, V = Value.slice adx x.refs.length capx := ⟨_, rfl⟩
  obtain ⟨VY, hVY⟩ : ∃ V, V = Value.slice ady y.refs.length capy := ⟨_, rfl⟩
  rw [← hVX] at hsm HW c5
  rw [← hVY] at hsm HW d5
  rw [← hVX, ← hVY]
  have c0 := HX.k
  have d0 := HY.k
  have c1 := HX.n
  have d1 := HY.n
  have c2 := HX.key
  have d2 := HY.key
  have c3 := HX.val
  have d3 := HY.val
  have c4 := HX.ref 0
  have d4 := HY.ref 0
  have hid := fun u => eql_ids u x.ref y.ref hrx hry
  have HGD : Hid (∀ u, (eqGuard .eql 23 (.tmp 33) (.tmp 35) (idv x.ref) (idv y.ref)).run Tryd.prog u = .ok () u) := Lib.hid fun u => run_eqGuard_agg u .eql 23 (.tmp 33) (.tmp 35) _ _ Tryd.eqGuardType23
  have HSM := Lib.hid hsm
  obtain ⟨kx, hkx⟩ : ∃ s, s = oct.tx x.key := ⟨_, rfl⟩
  obtain ⟨ky, hky⟩ : ∃ s, s = oct.tx y.key := ⟨_, rfl⟩
  obtain ⟨ux, hux⟩ : ∃ s, s = oct.tx x.val := ⟨_, rfl⟩
  obtain ⟨uy, huy⟩ : ∃ s, s = oct.tx y.val := ⟨_, rfl⟩
  have HKE : Hid ((kx.toList == ky.toList) = decide (x.key = y.key)) := Lib.hid (by rw [hkx, hky]; exact tx_beq _ _)
  have HUE : Hid ((ux.toList == uy.toList) = decide (x.val = y.val)) := Lib.hid (by rw [hux, huy]; exact tx_beq _ _)
  rw [← hkx] at c2
  rw [← hky] at d2
  rw [← hux] at c3
  rw [← huy] at d3
  have HID := Lib.hid hid
  have HR : Hid (sameO x y = (decide (x.k = y.k) && (decide (x.n = y.n) && (decide (x.key = y.key) && (decide (x.val = y.val) && (decide (x.ref = y.ref) && decide (x.refs = y.refs))))))) := Lib.hid rfl
  clear hX hY hB HX HY hvx hvy hx1 hy1 hS hw1 hsm hlx hly hVX hVY hkx hky hux huy hid hrx hry
  unfold opv
  by_cases h0 : x.k = y.k
  · have HR : Hid (_ = _) := Lib.hid HR.out
    rw [decide_eq_true h0, Bool.true_and] at HR
    have e0 : (x.k == y.k) = true := beq_iff_eq.2 h0
    have H0 := Lib.hid h0
    clear h0
    by_cases h1 : x.n = y.n
    · have HR : Hid (_ = _) := Lib.hid HR.out
      rw [decide_eq_true h1, Bool.true_and] at HR
      have e1 : (x.n == y.n) = true := beq_iff_eq.2 h1
      have H1 := Lib.hid h1
      clear h1
      by_cases h2 : x.key = y.key
      · have HR : Hid (_ = _) := Lib.hid HR.out
        rw [decide_eq_true h2, Bool.true_and] at HR
        have e2 := HKE.out
        rw [decide_eq_true h2] at e2
        have H2 := Lib.hid h2
        clear h2
        by_cases h3 : x.val = y.val
        · have HR : Hid (_ = _) := Lib.hid HR.out
          rw [decide_eq_true h3, Bool.true_and] at HR
          have e3 := HUE.out
          rw [decide_eq_true h3] at e3
          have H3 := Lib.hid h3
          clear h3
          by_cases h4 : x.ref = y.ref
          · have HR : Hid (_ = _) := Lib.hid HR.out
            rw [decide_eq_true h4, Bool.true_and] at HR
            have e4 := HID.out
            rw [show (x.ref == y.ref) = true from beq_iff_eq.2 h4] at e4
            have hE4 := Lib.hid e4
            have HE4 := Lib.hid e4
            clear e4
            have H4 := Lib.hid h4
            clear h4
            have HEQ : Hid ((x.refs == y.refs) = decide (x.refs = y.refs)) := Lib.hid (by rw [Bool.eq_iff_iff, beq_iff_eq, decide_eq_true_iff])
            have HE4 := hE4
            obtain ⟨b, hb⟩ : ∃ b, (x.refs == y.refs) = b := ⟨_, rfl⟩
            rw [hb] at HSM
            have HR : Hid (sameO x y = b) := Lib.hid (by rw [HR.out, ← hb, HEQ.out])
            clear hb HEQ
            go_enter Tryd.func17, Tryd.ntmps17
            go_upto_region 1 with fail
            refine wp_at HW.out.symm ?_
            rw [← HS.out]
            clear HW
            go_wp2_with (first
        | ((with_reducible refine step_load_w (t := 23) (x := .tmp 32) (p := ?lpa1) (v := ?lva1) ?lga1 ?loa1 ?lxa1 ?lra1 ?lha1); (case loa1 => rfl); (case lga1 => rfl); (case lxa1 => rfl); (case lra1 => exact c4))
        | ((with_reducible refine step_load_w (t := 23) (x := .tmp 34) (p := ?lpb1) (v := ?lvb1) ?lgb1 ?lob1 ?lxb1 ?lrb1 ?lhb1); (case lob1 => rfl); (case lgb1 => rfl); (case lxb1 => rfl); (case lrb1 => exact d4))
        | ((with_reducible refine step_bin_w (op := .eql) (t := 23) (x := .tmp 33) (y := .tmp 35) (t2 := ?nbc1) (u := ?nuc1) (v := ?nvc1) (r := ?nrc1) ?nwc1 ?noc1 ?nxc1 ?nyc1 ?ngc1 ?nqc1 ?nhc1); (case noc1 => rfl); (case nwc1 => rfl); (case nxc1 => rfl); (case nyc1 => rfl); (case ngc1 => exact HGD.out _); (case nqc1 => exact HE4.out _))
        | (go_at_call 52; refine HSM.out.mono ?_; rintro e w3 ⟨rfl, m, rfl⟩))
            go_ret
            exact ⟨by rw [HR.out]; rfl, below_drewN HB.out m⟩
          · have HR : Hid (_ = _) := Lib.hid HR.out
            rw [decide_eq_false h4, Bool.false_and] at HR
            have e4 := HID.out
            rw [show (x.ref == y.ref) = false from beq_eq_false_iff_ne.2 h4] at e4
            have hE4 := Lib.hid e4
            have HE4 := Lib.hid e4
            clear e4
            have H4 := Lib.hid h4
            clear h4
            go_enter Tryd.func17, Tryd.ntmps17
            go_upto_region 1 with fail
            refine wp_at HW.out.symm ?_
            rw [← HS.out]
            clear HW
            go_wp2_with (first
        | ((with_reducible refine step_load_w (t := 23) (x := .tmp 32) (p := ?lpa2) (v := ?lva2) ?lga2 ?loa2 ?lxa2 ?lra2 ?lha2); (case loa2 => rfl); (case lga2 => rfl); (case lxa2 => rfl); (case lra2 => exact c4))
        | ((with_reducible refine step_load_w (t := 23) (x := .tmp 34) (p := ?lpb2) (v := ?lvb2) ?lgb2 ?lob2 ?lxb2 ?lrb2 ?lhb2); (case lob2 => rfl); (case lgb2 => rfl); (case lxb2 => rfl); (case lrb2 => exact d4))
        | ((with_reducible refine step_bin_w (op := .eql) (t := 23) (x := .tmp 33) (y := .tmp 35) (t2 := ?nbc2) (u := ?nuc2) (v := ?nvc2) (r := ?nrc2) ?nwc2 ?noc2 ?nxc2 ?nyc2 ?ngc2 ?nqc2 ?nhc2); (case noc2 => rfl); (case nwc2 => rfl); (case nxc2 => rfl); (case nyc2 => rfl); (case ngc2 => exact HGD.out _); (case nqc2 => exact HE4.out _))
        | (go_at_call 52; refine HSM.out.mono ?_; rintro e w3 ⟨rfl, m, rfl⟩))
            go_ret
            exact ⟨by rw [HR.out]; rfl, HB.out⟩
        · have HR : Hid (_ = _) := Lib.hid HR.out
          rw [decide_eq_false h3, Bool.false_and] at HR
          have e3 := HUE.out
          rw [decide_eq_false h3] at e3
          have H3 := Lib.hid h3
          clear h3
          go_enter Tryd.func17, Tryd.ntmps17
          go_upto_region 1 with fail
          refine wp_at HW.out.symm ?_
          rw [← HS.out]
          clear HW
          go_wp2_with (first
        | ((with_reducible refine step_load_w (t := 23) (x := .tmp 32) (p := ?lpa3) (v := ?lva3) ?lga3 ?loa3 ?lxa3 ?lra3 ?lha3); (case loa3 => rfl); (case lga3 => rfl); (case lxa3 => rfl); (case lra3 => exact c4))
        | ((with_reducible refine step_load_w (t := 23) (x := .tmp 34) (p := ?lpb3) (v := ?lvb3) ?lgb3 ?lob3 ?lxb3 ?lrb3 ?lhb3); (case lob3 => rfl); (case lgb3 => rfl); (case lxb3 => rfl); (case lrb3 => exact d4))
        | ((with_reducible refine step_bin_w (op := .eql) (t := 23) (x := .tmp 33) (y := .tmp 35) (t2 := ?nbc3) (u := ?nuc3) (v := ?nvc3) (r := ?nrc3) ?nwc3 ?noc3 ?nxc3 ?nyc3 ?ngc3 ?nqc3 ?nhc3); (case noc3 => rfl); (case nwc3 => rfl); (case nxc3 => rfl); (case nyc3 => rfl); (case ngc3 => exact HGD.out _); (case nqc3 => exact HE4.out _))
        | (go_at_call 52; refine HSM.out.mono ?_; rintro e w3 ⟨rfl, m, rfl⟩))
          go_ret
          exact ⟨by rw [HR.out]; rfl, HB.out⟩
      · have HR : Hid (_ = _) := Lib.hid HR.out
        rw [decide_eq_false h2, Bool.false_and] at HR
        have e2 := HKE.out
        rw [decide_eq_false h2] at e2
        have H2 := Lib.hid h2
        clear h2
        go_enter Tryd.func17, Tryd.ntmps17
        go_upto_region 1 with fail
        refine wp_at HW.out.symm ?_
        rw [← HS.out]
        clear HW
        go_wp2_with (first
        | ((with_reducible refine step_load_w (t := 23) (x := .tmp 32) (p := ?lpa4) (v := ?lva4) ?lga4 ?loa4 ?lxa4 ?lra4 ?lha4); (case loa4 => rfl); (case lga4 => rfl); (case lxa4 => rfl); (case lra4 => exact c4))
        | ((with_reducible refine step_load_w (t := 23) (x := .tmp 34) (p := ?lpb4) (v := ?lvb4) ?lgb4 ?lob4 ?lxb4 ?lrb4 ?lhb4); (case lob4 => rfl); (case lgb4 => rfl); (case lxb4 => rfl); (case lrb4 => exact d4))
        | ((with_reducible refine step_bin_w (op := .eql) (t := 23) (x := .tmp 33) (y := .tmp 35) (t2 := ?nbc4) (u := ?nuc4) (v := ?nvc4) (r := ?nrc4) ?nwc4 ?noc4 ?nxc4 ?nyc4 ?ngc4 ?nqc4 ?nhc4); (case noc4 => rfl); (case nwc4 => rfl); (case nxc4 => rfl); (case nyc4 => rfl); (case ngc4 => exact HGD.out _); (case nqc4 => exact HE4.out _))
        | (go_at_call 52; refine HSM.out.mono ?_; rintro e w3 ⟨rfl, m, rfl⟩))
        go_ret
        exact ⟨by rw [HR.out]; rfl, HB.out⟩
    · have HR : Hid (_ = _) := Lib.hid HR.out
      rw [decide_eq_false h1, Bool.false_and] at HR
      have e1 : (x.n == y.n) = false := beq_eq_false_iff_ne.2 h1
      have H1 := Lib.hid h1
      clear h1
      go_enter Tryd.func17, Tryd.ntmps17
      go_upto_region 1 with fail
      refine wp_at HW.out.symm ?_
      rw [← HS.out]
      clear HW
      go_wp2_with (first
        | ((with_reducible refine step_load_w (t := 23) (x := .tmp 32) (p := ?lpa5) (v := ?lva5) ?lga5 ?loa5 ?lxa5 ?lra5 ?lha5); (case loa5 => rfl); (case lga5 => rfl); (case lxa5 => rfl); (case lra5 => exact c4))
        | ((with_reducible refine step_load_w (t := 23) (x := .tmp 34) (p := ?lpb5) (v := ?lvb5) ?lgb5 ?lob5 ?lxb5 ?lrb5 ?lhb5); (case lob5 => rfl); (case lgb5 => rfl); (case lxb5 => rfl); (case lrb5 => exact d4))
        | ((with_reducible refine step_bin_w (op := .eql) (t := 23) (x := .tmp 33) (y := .tmp 35) (t2 := ?nbc5) (u := ?nuc5) (v := ?nvc5) (r := ?nrc5) ?nwc5 ?noc5 ?nxc5 ?nyc5 ?ngc5 ?nqc5 ?nhc5); (case noc5 => rfl); (case nwc5 => rfl); (case nxc5 => rfl); (case nyc5 => rfl); (case ngc5 => exact HGD.out _); (case nqc5 => exact HE4.out _))
        | (go_at_call 52; refine HSM.out.mono ?_; rintro e w3 ⟨rfl, m, rfl⟩))
      go_ret
      exact ⟨by rw [HR.out]; rfl, HB.out⟩
  · have HR : Hid (_ = _) := Lib.hid HR.out
    rw [decide_eq_false h0, Bool.false_and] at HR
    have e0 : (x.k == y.k) = false := beq_eq_false_iff_ne.2 h0
    have H0 := Lib.hid h0
    clear h0
    go_enter Tryd.func17, Tryd.ntmps17
    go_upto_region 1 with fail
    refine wp_at HW.out.symm ?_
    rw [← HS.out]
    clear HW
    go_wp2_with (first
        | ((with_reducible refine step_load_w (t := 23) (x := .tmp 32) (p := ?lpa6) (v := ?lva6) ?lga6 ?loa6 ?lxa6 ?lra6 ?lha6); (case loa6 => rfl); (case lga6 => rfl); (case lxa6 => rfl); (case lra6 => exact c4))
        | ((with_reducible refine step_load_w (t := 23) (x := .tmp 34) (p := ?lpb6) (v := ?lvb6) ?lgb6 ?lob6 ?lxb6 ?lrb6 ?lhb6); (case lob6 => rfl); (case lgb6 => rfl); (case lxb6 => rfl); (case lrb6 => exact d4))
        | ((with_reducible refine step_bin_w (op := .eql) (t := 23) (x := .tmp 33) (y := .tmp 35) (t2 := ?nbc6) (u := ?nuc6) (v := ?nvc6) (r := ?nrc6) ?nwc6 ?noc6 ?nxc6 ?nyc6 ?ngc6 ?nqc6 ?nhc6); (case noc6 => rfl); (case nwc6 => rfl); (case nxc6 => rfl); (case nyc6 => rfl); (case ngc6 => exact HGD.out _); (case nqc6 => exact HE4.out _))
        | (go_at_call 52; refine HSM.out.mono ?_; rintro e w3 ⟨rfl, m, rfl⟩))
    go_ret
    exact ⟨by rw [HR.out]; rfl, HB.out⟩

end Go.Proofs.YtmaolmogccknbaaDoor.opn
