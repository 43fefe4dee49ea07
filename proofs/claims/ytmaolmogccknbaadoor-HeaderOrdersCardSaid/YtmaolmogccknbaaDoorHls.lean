/-
  slices.Equal over two lists of ids.
  The landed header: Same.
-/
import Derived.Test.YtmaolmogccknbaaDoorIdsr
import Derived.Test.YtmaolmogccknbaaDoorHdsm
namespace Go.Proofs.YtmaolmogccknbaaDoor.ids
open Go.RowKit Go.Proofs.YtmaolmogccknbaaDoor.mem Go.Proofs.YtmaolmogccknbaaDoor.sha

set_option maxHeartbeats 1000000 in
set_option maxRecDepth 100000 in
theorem lequal_any (L M : List Id) (ad ad2 : Option Addr) (n cap n2 cap2 : Nat) (w : World) (hL : RdV w (.slice ad n cap) L) (hM : RdV w (.slice ad2 n2 cap2) M) :
    Calls Tryd.prog 51 #[.slice ad n cap, .slice ad2 n2 cap2] w fun e w' => e = .returned (.bool (L == M)) ∧ ∃ m, w' = w.drewN m := by
  obtain ⟨hL1, hmax, _, _, hvv, _⟩ := id hL
  have hn : n = L.length := by cases hvv; rfl
  obtain ⟨hM1, hmax2, _, _, hvv2, _⟩ := id hM
  have hn2 : n2 = M.length := by cases hvv2; rfl
  subst hn; subst hn2
  clear hvv hvv2
  have HL := Lib.hid hL
  have HM := Lib.hid hM
  clear hL hM
  by_cases hne : L.length = M.length
  case neg =>
    have hb : (L == M) = false := beq_eq_false_iff_ne.2 (fun e => hne (by rw [e]))
    have hi : ((L.length : Int) != (M.length : Int)) = true := bne_iff_ne.2 (by omega)
    rw [hb]
    clear hne hb
    go_enter Tryd.func51, Tryd.ntmps51
    go_wp2_with fail
    go_ret
    exact ⟨rfl, 0, rfl⟩
  have HE := Lib.hid hne
  have hi : (M.length : Int) = (L.length : Int) := by omega
  clear hne
  go_enter Tryd.func51, Tryd.ntmps51
  go_wp2_with fail
  go_loopw [13] (fun i wr => ∃ k m : Nat, k ≤ L.length ∧ i = .int .i64 k ∧ (∀ j, j < k → L.getD j [] = M.getD j []) ∧ wr = w.drewN m) (fun i _ => L.length - (intOf i).toNat)
  case atStart => exact ⟨0, 0, Nat.zero_le _, rfl, fun j hj => by omega, rfl⟩
  case round =>
    obtain ⟨k, m, hk, rfl, hno, hwr⟩ := hrel
    have HN := Lib.hid hno
    have HW := Lib.hid hwr
    have k0 : (0 : Int) ≤ (k : Int) := Int.natCast_nonneg _
    clear hno
    by_cases hlt : k < L.length
    · have kI : (k : Int) < (L.length : Int) := by omega
      obtain ⟨b, off, rfl, -, hb, hld⟩ := (show RdV wr _ L by rw [hwr]; exact HL.out.drewN m).load hlt
      obtain ⟨b2, off2, rfl, -, hb2, hld2⟩ := (show RdV wr _ M by rw [hwr]; exact HM.out.drewN m).load (show k < M.length by have := HE.out; omega)
      have hy := hL1.get hlt
      have hz := hM1.get (show k < M.length by have := HE.out; omega)
      have heq := fun u : World => neq_ids u (L.getD k []) (M.getD k []) hy hz
      unfold idv at heq
      obtain ⟨y, hyy⟩ : ∃ y, y = L.getD k [] := ⟨_, rfl⟩
      obtain ⟨z, hzz⟩ : ∃ y, y = M.getD k [] := ⟨_, rfl⟩
      rw [← hyy] at hld heq hy
      rw [← hzz] at hld2 heq hz
      have HY := Lib.hid hyy.symm
      have HZ := Lib.hid hzz.symm
      clear hwr hyy hzz
      by_cases he : y = z
      · have heq2 : (y != z) = false := by rw [he, bne, beq_self_eq_true]; rfl
        have HQ := Lib.hid he
        rw [heq2] at heq
        clear he heq2
        go_wp2_with fail
        refine wp_region_quiet_lit (by kernel_rfl) (by kernel_rfl) ?_
        quiet_step (fail)
        quiet_step (fail)
        quiet_step (fail)
        refine quiet_load rfl rfl rfl hld ?_
        (try simp only [Act.put, List.setIfInBounds_toArray, List.set_cons_zero, List.set_cons_succ])
        quiet_step (fail)
        quiet_step (fail)
        quiet_step (fail)
        refine quiet_load rfl rfl rfl hld2 ?_
        (try simp only [Act.put, List.setIfInBounds_toArray, List.set_cons_zero, List.set_cons_succ])
        quiet_step (fail)
        refine wpQuiet_nil ?_
        rintro _ ⟨nq, rfl⟩
        go_wp2_with fail
        go_roundw
        case rel =>
          refine ⟨k + 1, _, hlt, by push_cast; rfl, fun j hj => ?_, by rw [HW.out, World.drewN_drewN]⟩
          rcases Nat.lt_or_ge j k with h | h
          · exact HN.out j h
          · obtain rfl : j = k := by omega
            rw [HY.out, HZ.out]; exact HQ.out
        case measure => simp [intOf]; omega
      · have heq2 : (y != z) = true := bne_iff_ne.2 he
        have hr : (L == M) = false := beq_eq_false_iff_ne.2 (fun e => he (by rw [← HY.out, ← HZ.out, e]))
        have HRR := Lib.hid hr
        rw [heq2] at heq
        clear he heq2 hr
        go_wp2_with fail
        refine wp_region_quiet_lit (by kernel_rfl) (by kernel_rfl) ?_
        quiet_step (fail)
        quiet_step (fail)
        quiet_step (fail)
        refine quiet_load rfl rfl rfl hld ?_
        (try simp only [Act.put, List.setIfInBounds_toArray, List.set_cons_zero, List.set_cons_succ])
        quiet_step (fail)
        quiet_step (fail)
        quiet_step (fail)
        refine quiet_load rfl rfl rfl hld2 ?_
        (try simp only [Act.put, List.setIfInBounds_toArray, List.set_cons_zero, List.set_cons_succ])
        quiet_step (fail)
        refine wpQuiet_nil ?_
        rintro _ ⟨nq, rfl⟩
        go_wp2_with fail
        go_ret
        exact ⟨by rw [HRR.out]; rfl, _, by rw [HW.out, World.drewN_drewN]⟩
    · obtain rfl : k = L.length := by omega
      have hr : (L == M) = true := by rw [list_eq_of L M HE.out HN.out]; exact beq_self_eq_true M
      have HRR := Lib.hid hr
      clear hr hwr
      go_wp2_with fail
      go_ret
      exact ⟨by rw [HRR.out]; rfl, _, HW.out⟩
end Go.Proofs.YtmaolmogccknbaaDoor.ids

namespace Go.Proofs.YtmaolmogccknbaaDoor.hdr
open Go.RowKit Go.Proofs.YtmaolmogccknbaaDoor.mem Go.Proofs.YtmaolmogccknbaaDoor.sha Go.Proofs.YtmaolmogccknbaaDoor.ids
open Go.Proofs.YtmaolmogccknbaaDoor.opn (b1 b2 b4 num txt idl byte rd rdN rdT rdI rdS rdL St Reads Stays endE zid mkId)

theorem sameH_l (x y : Hd) : sameH x y = (decide (x.height = y.height) && (decide (x.topic = y.topic) && (decide (x.author = y.author) && (decide (x.seq = y.seq) && (decide (x.size = y.size) && (decide (x.commit = y.commit) && decide (x.parents = y.parents))))))) := by
  unfold sameH
  rw [Bool.eq_iff_iff]
  simp only [Bool.and_eq_true]
  exact ⟨fun ⟨a, b, c, d, e, f, g⟩ => ⟨b, c, d, e, f, g, a⟩, fun ⟨b, c, d, e, f, g, a⟩ => ⟨a, b, c, d, e, f, g⟩⟩
set_option maxHeartbeats 4000000 in
set_option maxRecDepth 100000 in
theorem lsame_any (x y : Hd) (vx vy : Value) (w : World) (hrx : x.commit.length = 32) (hry : y.commit.length = 32) (hvx : RdV w vx x.parents) (hvy : RdV w vy y.parents) :
    Calls Tryd.prog 29 #[hdv x vx, hdv y vy] w fun e w' => e = .returned (.bool (sameH x y)) ∧ Below w.heap.size w w' := by
  obtain ⟨w1, hw1⟩ : ∃ u, u = (w.alloc (.cells (hdc x vx).toArray 46)).alloc (.cells (hdc y vy).toArray 46) := ⟨_, rfl⟩
  obtain ⟨S, hS⟩ : ∃ S, S = w.heap.size := ⟨_, rfl⟩
  have hX : Blk w1 S 46 (hdc x vx).toArray := by rw [hw1, hS]; exact (Blk.new w _ _).alloc _
  have hY : Blk w1 (S + 1) 46 (hdc y vy).toArray := by rw [hw1, hS]; exact Blk.at_ (by simp) _ _
  have hB : Below w.heap.size w w1 := by rw [hw1]; exact ((Below.refl _ _).alloc (Nat.le_refl _) _).alloc (by simp) _
  have HX := HdBlk.of hX hrx
  have HY := HdBlk.of hY hry
  have hx1 := hvx.next hB
  have hy1 := hvy.next hB
  have HB := Lib.hid hB
  have HS := Lib.hid hS
  have HW := Lib.hid hw1
  obtain ⟨adx, capx, rfl⟩ := hx1.form
  obtain ⟨ady, capy, rfl⟩ := hy1.form
  have hsm := lequal_any x.parents y.parents adx ady _ capx _ capy w1 hx1 hy1
  have c0 := HX.parents
  have d0 := HY.parents
  obtain ⟨VX, hVX⟩ : ∃ V, V = Value.slice adx x.parents.length capx := ⟨_, rfl⟩
  obtain ⟨VY, hVY⟩ : ∃ V, V = Value.slice ady y.parents.length capy := ⟨_, rfl⟩
  rw [← hVX] at hsm HW c0
  rw [← hVY] at hsm HW d0
  rw [← hVX, ← hVY]
  have c1 := HX.height
  have d1 := HY.height
  have c2 := HX.topic
  have d2 := HY.topic
  have c3 := HX.author
  have d3 := HY.author
  have c4 := HX.seq
  have d4 := HY.seq
  have c5 := HX.size
  have d5 := HY.size
  have HC6 := Lib.hid (HX.commit 0)
  have HD6 := Lib.hid (HY.commit 0)
  have HID := Lib.hid fun u => eql_ids u x.commit y.commit hrx hry
  have HGD : Hid (∀ u, (eqGuard .eql 23 (.tmp 40) (.tmp 42) (idv x.commit) (idv y.commit)).run Tryd.prog u = .ok () u) := Lib.hid fun u => run_eqGuard_agg u .eql 23 (.tmp 40) (.tmp 42) _ _ Tryd.eqGuardType23
  obtain ⟨tx, htx⟩ : ∃ s, s = oct.tx x.topic := ⟨_, rfl⟩
  obtain ⟨ty, hty⟩ : ∃ s, s = oct.tx y.topic := ⟨_, rfl⟩
  have HTE : Hid ((tx.toList == ty.toList) = decide (x.topic = y.topic)) := Lib.hid (by rw [htx, hty]; exact tx_beq _ _)
  rw [← htx] at c2
  rw [← hty] at d2
  have HSM := Lib.hid hsm
  have HR := Lib.hid (sameH_l x y)
  clear hX hY hB HX HY hvx hvy hx1 hy1 hS hw1 hsm hVX hVY htx hty hrx hry
  unfold hdv
  by_cases h0 : x.height = y.height
  · have HR : Hid (_ = _) := Lib.hid HR.out
    rw [decide_eq_true h0, Bool.true_and] at HR
    have e0 : (x.height == y.height) = true := beq_iff_eq.2 h0
    clear h0
    by_cases h1 : x.topic = y.topic
    · have HR : Hid (_ = _) := Lib.hid HR.out
      rw [decide_eq_true h1, Bool.true_and] at HR
      have e1 := HTE.out
      rw [decide_eq_true h1] at e1
      clear h1
      by_cases h2 : x.author = y.author
      · have HR : Hid (_ = _) := Lib.hid HR.out
        rw [decide_eq_true h2, Bool.true_and] at HR
        have e2 : (x.author == y.author) = true := beq_iff_eq.2 h2
        clear h2
        by_cases h3 : x.seq = y.seq
        · have HR : Hid (_ = _) := Lib.hid HR.out
          rw [decide_eq_true h3, Bool.true_and] at HR
          have e3 : (x.seq == y.seq) = true := beq_iff_eq.2 h3
          clear h3
          by_cases h4 : x.size = y.size
          · have HR : Hid (_ = _) := Lib.hid HR.out
            rw [decide_eq_true h4, Bool.true_and] at HR
            have e4 : (x.size == y.size) = true := beq_iff_eq.2 h4
            clear h4
            by_cases h5 : x.commit = y.commit
            · have HR : Hid (_ = _) := Lib.hid HR.out
              rw [decide_eq_true h5, Bool.true_and] at HR
              have e6 := HID.out
              rw [show (x.commit == y.commit) = true from beq_iff_eq.2 h5] at e6
              have HE6 := Lib.hid e6
              clear e6
              clear h5
              have HEQ : Hid ((x.parents == y.parents) = decide (x.parents = y.parents)) := Lib.hid (by rw [Bool.eq_iff_iff, beq_iff_eq, decide_eq_true_iff])
              obtain ⟨b, hb⟩ : ∃ b, (x.parents == y.parents) = b := ⟨_, rfl⟩
              rw [hb] at HSM
              have HR : Hid (sameH x y = b) := Lib.hid (by rw [HR.out, ← hb, HEQ.out])
              clear hb HEQ
              go_enter Tryd.func29, Tryd.ntmps29
              go_upto_region 1 with fail
              refine wp_at HW.out.symm ?_
              rw [← HS.out]
              clear HW
              go_wp2_with (first
                | ((with_reducible refine step_load_w (t := 23) (x := .tmp 39) (p := ?lpa1) (v := ?lva1) ?lga1 ?loa1 ?lxa1 ?lra1 ?lha1); (case loa1 => rfl); (case lga1 => rfl); (case lxa1 => rfl); (case lra1 => exact HC6.out))
                | ((with_reducible refine step_load_w (t := 23) (x := .tmp 41) (p := ?lpb1) (v := ?lvb1) ?lgb1 ?lob1 ?lxb1 ?lrb1 ?lhb1); (case lob1 => rfl); (case lgb1 => rfl); (case lxb1 => rfl); (case lrb1 => exact HD6.out))
                | ((with_reducible refine step_bin_w (op := .eql) (t := 23) (x := .tmp 40) (y := .tmp 42) (t2 := ?nbc1) (u := ?nuc1) (v := ?nvc1) (r := ?nrc1) ?nwc1 ?noc1 ?nxc1 ?nyc1 ?ngc1 ?nqc1 ?nhc1); (case noc1 => rfl); (case nwc1 => rfl); (case nxc1 => rfl); (case nyc1 => rfl); (case ngc1 => exact HGD.out _); (case nqc1 => exact HE6.out _))
                | (go_at_call 51; refine HSM.out.mono ?_; rintro e w3 ⟨rfl, m, rfl⟩))
              go_ret
              exact ⟨by rw [HR.out]; rfl, below_drewN HB.out m⟩
            · have HR : Hid (_ = _) := Lib.hid HR.out
              rw [decide_eq_false h5, Bool.false_and] at HR
              have e6 := HID.out
              rw [show (x.commit == y.commit) = false from beq_eq_false_iff_ne.2 h5] at e6
              have HE6 := Lib.hid e6
              clear e6
              clear h5
              go_enter Tryd.func29, Tryd.ntmps29
              go_upto_region 1 with fail
              refine wp_at HW.out.symm ?_
              rw [← HS.out]
              clear HW
              go_wp2_with (first
                | ((with_reducible refine step_load_w (t := 23) (x := .tmp 39) (p := ?lpa2) (v := ?lva2) ?lga2 ?loa2 ?lxa2 ?lra2 ?lha2); (case loa2 => rfl); (case lga2 => rfl); (case lxa2 => rfl); (case lra2 => exact HC6.out))
                | ((with_reducible refine step_load_w (t := 23) (x := .tmp 41) (p := ?lpb2) (v := ?lvb2) ?lgb2 ?lob2 ?lxb2 ?lrb2 ?lhb2); (case lob2 => rfl); (case lgb2 => rfl); (case lxb2 => rfl); (case lrb2 => exact HD6.out))
                | ((with_reducible refine step_bin_w (op := .eql) (t := 23) (x := .tmp 40) (y := .tmp 42) (t2 := ?nbc2) (u := ?nuc2) (v := ?nvc2) (r := ?nrc2) ?nwc2 ?noc2 ?nxc2 ?nyc2 ?ngc2 ?nqc2 ?nhc2); (case noc2 => rfl); (case nwc2 => rfl); (case nxc2 => rfl); (case nyc2 => rfl); (case ngc2 => exact HGD.out _); (case nqc2 => exact HE6.out _)))
              go_ret
              exact ⟨by rw [HR.out]; rfl, HB.out⟩
          · have HR : Hid (_ = _) := Lib.hid HR.out
            rw [decide_eq_false h4, Bool.false_and] at HR
            have e4 : (x.size == y.size) = false := beq_eq_false_iff_ne.2 h4
            clear h4
            go_enter Tryd.func29, Tryd.ntmps29
            go_upto_region 1 with fail
            refine wp_at HW.out.symm ?_
            rw [← HS.out]
            clear HW
            go_wp2_with fail
            go_ret
            exact ⟨by rw [HR.out]; rfl, HB.out⟩
        · have HR : Hid (_ = _) := Lib.hid HR.out
          rw [decide_eq_false h3, Bool.false_and] at HR
          have e3 : (x.seq == y.seq) = false := beq_eq_false_iff_ne.2 h3
          clear h3
          go_enter Tryd.func29, Tryd.ntmps29
          go_upto_region 1 with fail
          refine wp_at HW.out.symm ?_
          rw [← HS.out]
          clear HW
          go_wp2_with fail
          go_ret
          exact ⟨by rw [HR.out]; rfl, HB.out⟩
      · have HR : Hid (_ = _) := Lib.hid HR.out
        rw [decide_eq_false h2, Bool.false_and] at HR
        have e2 : (x.author == y.author) = false := beq_eq_false_iff_ne.2 h2
        clear h2
        go_enter Tryd.func29, Tryd.ntmps29
        go_upto_region 1 with fail
        refine wp_at HW.out.symm ?_
        rw [← HS.out]
        clear HW
        go_wp2_with fail
        go_ret
        exact ⟨by rw [HR.out]; rfl, HB.out⟩
    · have HR : Hid (_ = _) := Lib.hid HR.out
      rw [decide_eq_false h1, Bool.false_and] at HR
      have e1 := HTE.out
      rw [decide_eq_false h1] at e1
      clear h1
      go_enter Tryd.func29, Tryd.ntmps29
      go_upto_region 1 with fail
      refine wp_at HW.out.symm ?_
      rw [← HS.out]
      clear HW
      go_wp2_with fail
      go_ret
      exact ⟨by rw [HR.out]; rfl, HB.out⟩
  · have HR : Hid (_ = _) := Lib.hid HR.out
    rw [decide_eq_false h0, Bool.false_and] at HR
    have e0 : (x.height == y.height) = false := beq_eq_false_iff_ne.2 h0
    clear h0
    go_enter Tryd.func29, Tryd.ntmps29
    go_upto_region 1 with fail
    refine wp_at HW.out.symm ?_
    rw [← HS.out]
    clear HW
    go_wp2_with fail
    go_ret
    exact ⟨by rw [HR.out]; rfl, HB.out⟩
end Go.Proofs.YtmaolmogccknbaaDoor.hdr
