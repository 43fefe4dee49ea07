/-
  petrellaw04.made: errors made in any way, as the program has them and as the document does.
-/
import Derived.Test.YtlbieneklijpeaaDoorFst
import Derived.Test.YtlbieneklijpeaaDoorFaw
import Derived.Deep.CutRange
import Derived.Deep.CutBlock
namespace Go.Proofs.YtlbieneklijpeaaDoor.fault
open Go.RowKit Go.Proofs.YtlbieneklijpeaaDoor.mem Go.Proofs.YtlbieneklijpeaaDoor.sha Go.Proofs.YtlbieneklijpeaaDoor.ids Go.Proofs.YtlbieneklijpeaaDoor.rows Go.Extern.Stop Go.Stop Go.Extern

structure Stp where
  (k e : Int) (op : ByteArray) (ids : List Id)
/-- a slice of n steps, in memory that was there -/
def Steps (w : World) (ad : Option Addr) (n : Nat) (A : Nat → Stp) : Prop := ∀ i, i < n → ∃ b off v, ad = some ⟨b, off, none⟩ ∧ b < w.heap.size ∧ w.cell? ⟨b, off + i * 4, none⟩ = some (.int .i64 (A i).k) ∧
  w.cell? ⟨b, off + i * 4 + 1, none⟩ = some (.int .i64 (A i).e) ∧ w.cell? ⟨b, off + i * 4 + 2, none⟩ = some (.string (A i).op) ∧ w.cell? ⟨b, off + i * 4 + 3, none⟩ = some v ∧ RdV w v (A i).ids ∧ (A i).op.size ≤ 140737488351232
theorem Steps.next {w w' : World} {ad : Option Addr} {n : Nat} {A : Nat → Stp} (h : Steps w ad n A) {B : Nat} (hb : Below B w w') (hB : w.heap.size ≤ B) : Steps w' ad n A := by
  intro i hi
  obtain ⟨b, off, v, e, hlt, c0, c1, c2, c3, hr, ho⟩ := h i hi
  have hbB := Nat.lt_of_lt_of_le hlt hB
  exact ⟨b, off, v, e, Nat.lt_of_lt_of_le hlt hb.size, (hb.cell (p := ⟨b, off + i * 4, none⟩) hbB).trans c0, (hb.cell (p := ⟨b, off + i * 4 + 1, none⟩) hbB).trans c1, (hb.cell (p := ⟨b, off + i * 4 + 2, none⟩) hbB).trans c2, (hb.cell (p := ⟨b, off + i * 4 + 3, none⟩) hbB).trans c3, hr.below hb hB, ho⟩
theorem want_storeat {ops : Array Oper} {o : Oper} {a : Act} {w w' : World} {K : Act → World → Prop} {Q : Exit → Act → World → Prop} {E : Prop} {t : TypeId} {x y : Operand} {p v : Value} (hg : o.guard = none)
    (ho : o.op = .store t x y) (hx : a.eval x = p) (hy : a.eval y = v) (h : (Instr.storeAt t p v).run Tryd.prog w = .ok () w') (hK : K (a.put o.dst undef) w') :
    if Region.wanted o (yielded ops a.tmps) = true then Oper.wp Tryd.prog o a w K Q else E := by
  have hw : Region.wanted o (yielded ops a.tmps) = true := by simp [Region.wanted, hg]
  rw [if_pos hw]
  unfold Oper.wp execOp
  simp only [ho, hx, hy, Sem.run_bind, h, Result.andThen_ok, Sem.run_pure]
  exact hK
/-- '[]error{x}' -/
theorem run_build_i (w : World) (t : TypeId) (x : Value) : (Instr.buildSlice 53 1 #[(0, .iface t x)]).run Tryd.prog w = .ok (.slice (some ⟨w.heap.size, 0, none⟩) 1 1) (w.alloc (.cells #[.iface t x] 24)) := by kernel_rfl
theorem run_build_n (w : World) : (Instr.buildSlice 53 1 #[(0, .nilIface)]).run Tryd.prog w = .ok (.slice (some ⟨w.heap.size, 0, none⟩) 1 1) (w.alloc (.cells #[.nilIface] 24)) := by kernel_rfl
theorem run_build_e (w : World) {u : World} {F : Nat → Prop} {x : Value} {o : Option Tr} (h : LieO u F x o) : (Instr.buildSlice 53 1 #[(0, x)]).run Tryd.prog w = .ok (.slice (some ⟨w.heap.size, 0, none⟩) 1 1) (w.alloc (.cells #[x] 24)) := by
  cases o with
  | none => cases h; exact run_build_n w
  | some t =>
    obtain ⟨ty, y, rfl⟩ := Lie.form h
    exact run_build_i w ty y
theorem step_build_e {ops : Array Oper} {rest : List Oper} {o : Oper} {a : Act} {w : World} {Q : Exit → Act → World → Prop} {x : Operand} {v : Value} (hg : o.guard = none)
    (ho : o.op = .buildSlice 53 1 #[(0, x)]) (hx : a.eval x = v) {u : World} {F : Nat → Prop} {ot : Option Tr} (hv : LieO u F v ot)
    (h : wpList Tryd.prog ops Q rest (a.put o.dst (.slice (some ⟨w.heap.size, 0, none⟩) 1 1)) (w.alloc (.cells #[v] 24))) : wpList Tryd.prog ops Q (o :: rest) a w := by
  refine wpList_plain hg fun K hK => ?_
  unfold Oper.wp execOp
  have hr := run_build_e w hv
  simp only [ho, List.map_toArray, List.map_cons, List.map_nil, hx, Sem.run_bind, hr, Result.andThen_ok, Sem.run_pure]
  exact hK _ _ h

theorem run_cut {t e : TypeId} (hu : Tryd.prog.underlying t = some (.slice e)) {c : Nat} (hi : (Tryd.prog.info? e).map (·.size) = some c) {g n cap k : Nat} (hk : k ≤ cap) (u : World) :
    (Instr.sliceAt t (.slice (some ⟨g, 0, none⟩) n cap) none (some (.int .i64 (k : Int))) none).run Tryd.prog u = .ok (.slice (some ⟨g, 0, none⟩) k cap) u := by
  cases hq : Tryd.prog.info? e with
  | none => simp [hq] at hi
  | some i =>
    have h0 : (0 : Int) ≤ (k : Int) := Int.natCast_nonneg _
    have hc : (k : Int) ≤ (cap : Int) := by omega
    simp only [Instr.sliceAt, Instr.slice, Instr.sliceBounds, Instr.sliceBound, asIntOf, sizeOf, typeInfo, Sem.run_bind, Sem.run_pure, Result.andThen_ok, run_underlying hu]
    simp [hq, hc, Addr.add]
theorem results_made {fn : Func} {q p : Tmp} (h : fn.results = #[.tmp q, .cell p 29]) (tmps : Array Value) (w : World) (g : Nat) (a b c : Value)
    (hp : tmps.getD p undef = .pointer (some ⟨g, 0, none⟩)) (hg : Blk w g 29 #[a, b, c]) :
    (results fn tmps).run Tryd.prog w = .ok (.tuple #[tmps.getD q undef, .agg #[a, b, c]]) w := by
  have hp' : tmps[p]?.getD undef = .pointer (some ⟨g, 0, none⟩) := by simpa using hp
  simp [results, h, hp', asAddr, run_loadVar_row w g 29 29 #[a, b, c] (0, 0) _ hg Tryd.underlying29 rfl (by rw [info_flt]; rfl)]
theorem MSt.capE {S : Nat} {P : Nat → Prop} {g n cap : Nat} {vw : Value} {s1 s2 : List (Option Tr)} {w0 w : World} (h : MSt S P (.slice (some ⟨g, 0, none⟩) n cap) vw s1 s2 w0 w) : s1.length ≤ cap := by
  obtain ⟨xs, hx1, hx2, _⟩ := h.errs
  rcases hx2.2.1.2 with ⟨hv, hn⟩ | ⟨g', cap', cur, hv, hb, hh, h1, h2, h3, h4⟩
  · cases hv
  · cases hv
    rw [List.length_map, hx1] at h1
    exact h1
theorem MSt.capW {S : Nat} {P : Nat → Prop} {g n cap : Nat} {ve : Value} {s1 s2 : List (Option Tr)} {w0 w : World} (h : MSt S P ve (.slice (some ⟨g, 0, none⟩) n cap) s1 s2 w0 w) : s2.length ≤ cap := by
  obtain ⟨xs, hx1, hx2, _⟩ := h.want
  rcases hx2.2.1.2 with ⟨hv, hn⟩ | ⟨g', cap', cur, hv, hb, hh, h1, h2, h3, h4⟩
  · cases hv
  · cases hv
    rw [List.length_map, hx1] at h1
    exact h1
theorem tot_cut {st : List (Option Tr)} {m : Nat} (h : st.length = m + 1) : tot (st.take m) + wt (st.getD m none) = tot st := by
  have e : st = st.take m ++ [st.getD m none] := by
    rw [List.getD_eq_getElem?_getD, List.getElem?_eq_getElem (by omega), Option.getD_some]
    conv => lhs; rw [← List.take_append_drop m st]
    congr 1
    rw [List.drop_eq_getElem_cons (by omega), List.drop_of_length_le (by omega)]
  conv => rhs; rw [e]
  rw [tot_push]
/-- what made answers -/
def MadeAns (w w' : World) (x : Ending) : Prop := ∃ (v a b c : Value) (o : Option Tr) (P : Nat → Prop), x = .returned (.tuple #[v, .agg #[a, b, c]]) ∧ LieO w' P v o ∧ FRd w' P a b c (fltO o) ∧ wt o ≤ 60 ∧ (∀ k, P k → w.heap.size ≤ k ∧ k < w'.heap.size) ∧ Below w.heap.size w w'

set_option maxHeartbeats 8000000 in
set_option maxRecDepth 100000 in
theorem made_any (A : Nat → Stp) (ad : Option Addr) (n cap : Nat) (w : World) (hT : Steps w ad n A) (hn : n ≤ 9223372036854775807) : Calls Tryd.prog 7 #[.slice ad n cap] w fun x w' => MadeAns w w' x := by
  obtain ⟨w1, hw1⟩ : ∃ u, u = w.alloc (.cells #[.slice none 0 0, .slice none 0 0, .slice none 0 0] 29) := ⟨_, rfl⟩
  obtain ⟨R, hR⟩ : ∃ R, R = w.heap.size := ⟨_, rfl⟩
  have hRB : Blk w1 R 29 #[.slice none 0 0, .slice none 0 0, .slice none 0 0] := by rw [hw1, hR]; exact Blk.new w _ _
  have hB1 : Below w.heap.size w w1 := by rw [hw1]; exact (Below.refl _ _).alloc (Nat.le_refl _) _
  obtain ⟨S, hS⟩ : ∃ S, S = w1.heap.size := ⟨_, rfl⟩
  have hSR : S = R + 1 := by rw [hS, hw1, hR]; simp
  have hst := MSt.start w1
  rw [← hS] at hst
  have hT1 := hT.next hB1 (Nat.le_refl _)
  have HST := Lib.hid hst
  have HT := Lib.hid hT1
  have HB := Lib.hid hRB
  have HB1 := Lib.hid hB1
  have HW := Lib.hid hw1
  have HR := Lib.hid hR
  have HS := Lib.hid hS
  have HSR := Lib.hid hSR
  clear hst hT1 hRB hB1 hw1 hR hS hSR hT
  go_enter Tryd.func7, Tryd.ntmps7
  go_upto_region 1 with fail
  refine wp_at HW.out.symm ?_
  rw [← HR.out]
  clear HW
  go_wp2_with fail
  go_loopw [4, 5, 6] (fun ve vw i wr => ∃ (k : Nat) (st : List (Option Tr)) (P : Nat → Prop), k ≤ n ∧ k ≤ 30 ∧ i = .int .i64 k ∧ MSt S P ve vw st st w1 wr ∧ tot st ≤ 2 * k ∧ st.length ≤ k) (fun _ _ i _ => n - (intOf i).toNat)
  case atStart => exact ⟨0, [], _, Nat.zero_le _, Nat.zero_le _, rfl, HST.out, Nat.zero_le _, Nat.zero_le _⟩
  case round =>
    obtain ⟨k, st, P, hk, hk30, rfl, hM, htot, hlen⟩ := hrel
    have k0 : (0 : Int) ≤ (k : Int) := Int.natCast_nonneg _
    obtain ⟨adE, cpE, rfl⟩ := hM.formE
    obtain ⟨adW, cpW, rfl⟩ := hM.formW
    have hSw : S ≤ wr.heap.size := by rw [HS.out]; exact (by have := hM.below.size; exact this)
    by_cases hlt : k < n ∧ k < 30
    · obtain ⟨hkn, hk2⟩ := hlt
      have kI : (k : Int) < (n : Int) := by omega
      have k3 : (k : Int) < 30 := by omega
      obtain ⟨b, off, v, rfl, hb, c0, c1, c2, c3, hRd, hop⟩ := HT.out k hkn
      have hbS : b < S := by rw [HS.out]; exact hb
      have o1 := c1
      have o2 := c2
      replace c0 := (hM.below.cell (p := ⟨b, off + k * 4, none⟩) hbS).trans c0
      replace c1 := (hM.below.cell (p := ⟨b, off + k * 4 + 1, none⟩) hbS).trans c1
      replace c2 := (hM.below.cell (p := ⟨b, off + k * 4 + 2, none⟩) hbS).trans c2
      replace c3 := (hM.below.cell (p := ⟨b, off + k * 4 + 3, none⟩) hbS).trans c3
      generalize A k = Ak at c0 c1 c2 o1 o2 hRd hop
      obtain ⟨kk, ee, op, L⟩ := Ak
      simp only at c0 c1 c2 o1 o2 hRd hop
      obtain ⟨adI, cpI, rfl⟩ := hRd.form
      go_upto_if 28 with fail
      go_cut [8] from 9 to 141 (fun x wx => wx = wr ∧ ∃ ad' cp' L', x = .slice ad' (List.length L') cp' ∧ RdV w1 x L' ∧ L'.length ≤ 20)
      case first =>
        by_cases h20 : L.length ≤ 20
        · have hI20 : (L.length : Int) ≤ 20 := by omega
          go_wp2_with fail
          go_meet
          exact ⟨rfl, adI, cpI, L, rfl, hRd, h20⟩
        · have hI20 : (20 : Int) < (L.length : Int) := by omega
          have hpr := fun u => (slice_hi hRd 20 (by omega) u).1
          have hp2 := (slice_hi hRd 20 (by omega) w1).2
          go_wp2_with ((with_reducible refine step_slice (t := 37) (x := .tmp 29) (lo := none) (hi := some (.const (.int .i64 20))) (vx := ?pxa) (v := ?pva) (vlo := ?paa) (vhi := ?pba) ?pga ?poa ?ppa ?pqa ?psa ?pra ?pha); (case pga => rfl); (case poa => rfl); (case ppa => rfl); (case pqa => rfl); (case psa => rfl); (case pra => exact hpr _))
          go_meet
          exact ⟨rfl, adI, cpI, L.take 20, by rw [List.length_take, Nat.min_eq_left (by omega)], hp2, by rw [List.length_take]; omega⟩
      case rest =>
        obtain ⟨rfl, adL, cpL, L', rfl, hRL, hL20⟩ := hcut
        have HRL := Lib.hid hRL
        have hSr : Hid (w1.heap.size ≤ S) := Lib.hid (by rw [HS.out]; exact Nat.le_refl _)
        clear hRd hRL
        by_cases e0 : kk = 0
        · subst e0
          go_upto_region 18 with (first
            | (go_at_call 19; refine (fnew_any ee _ P).mono ?_; rintro x w' ⟨xv, rfl, hx, rfl⟩; (obtain ⟨ve2, w3, hrun3, hM3, hsz3⟩ := hM.pushE hSw hx (by omega) 53); have c1' := (hM3.below.cell (p := ⟨b, off + k * 4 + 1, none⟩) hbS).trans o1; (obtain ⟨ad3, cp3, rfl⟩ := hM3.formE))
            | ((with_reducible refine step_build_e (x := .tmp 84) (v := ?bva) (ot := ?boa) (u := ?bua) (F := ?bfa) ?bga ?bha ?bxa ?bla ?bka); (case bga => rfl); (case bha => rfl); (case bxa => rfl); (case bla => exact hx))
            | ((with_reducible refine step_append (s := .tmp 78) (x := .tmp 85) (t := 53) (vs := ?asp1) (vx := ?axp1) (v' := ?avp1) (w' := ?awp1) ?agp1 ?aop1 ?app1 ?aqp1 ?arp1 ?ahp1); (case agp1 => rfl); (case aop1 => rfl); (case app1 => rfl); (case aqp1 => rfl); (case arp1 => exact hrun3)))
          have hS3 := Nat.le_trans hSw hsz3
          go_wp2_with (first
            | (go_at_call 20; refine (rnew_any ee _).mono ?_; rintro x w4 ⟨a4, b4, d4, rfl, hF4, hb4⟩; have hM4 := hM3.grow hS3 hb4; (obtain ⟨vw5, w5, hrun5, hM5, hsz5⟩ := hM4.pushW (o := newT ee) (Nat.le_trans hS3 hb4.size) (by rw [flt_new]; exact hF4.cap.mono fun _ h => .inr h) (by omega) 54); (obtain ⟨ad5, cp5, rfl⟩ := hM5.formW))
            | ((with_reducible refine step_append (s := .tmp 87) (x := .tmp 94) (t := 54) (vs := ?asp2) (vx := ?axp2) (v' := ?avp2) (w' := ?awp2) ?agp2 ?aop2 ?app2 ?aqp2 ?arp2 ?ahp2); (case agp2 => rfl); (case aop2 => rfl); (case app2 => rfl); (case aqp2 => rfl); (case arp2 => exact hrun5)))
          skip
          rw [show (st ++ [newT ee]).length = st.length + 1 by simp] at hM5
          go_roundw
          case rel => exact ⟨k + 1, st ++ [newT ee], _, hkn, by omega, by push_cast; rfl, hM5, by rw [tot_push]; have := wt_new ee; omega, by simp; omega⟩
          case measure => simp [intOf]; omega
        by_cases e1 : kk = 1
        · subst e1
          clear e0
          go_upto_region 21 with (first
            | (go_at_call 17; refine (fmissing_any L' _ _ (HRL.out.below hM.below hSr.out) (by omega)).mono ?_; rintro x w2 ⟨xv, rfl, hx, hb2⟩; have hM2 := hM.grow hSw hb2; (obtain ⟨ve2, w3, hrun3, hM3, hsz3⟩ := hM2.pushE (Nat.le_trans hSw hb2.size) (hx.cap.mono fun _ h => .inr h) (by omega) 53); (obtain ⟨ad3, cp3, rfl⟩ := hM3.formE))
            | ((with_reducible refine step_build_e (x := .tmp 100) (v := ?bvb) (ot := ?bob) (u := ?bub) (F := ?bfb) ?bgb ?bhb ?bxb ?blb ?bkb); (case bgb => rfl); (case bhb => rfl); (case bxb => rfl); (case blb => exact hx))
            | ((with_reducible refine step_append (s := .tmp 98) (x := .tmp 101) (t := 53) (vs := ?asp3) (vx := ?axp3) (v' := ?avp3) (w' := ?awp3) ?agp3 ?aop3 ?app3 ?aqp3 ?arp3 ?ahp3); (case agp3 => rfl); (case aop3 => rfl); (case app3 => rfl); (case aqp3 => rfl); (case arp3 => exact hrun3)))
          have hS3 := Nat.le_trans (Nat.le_trans hSw hb2.size) hsz3
          go_wp2_with (first
            | (go_at_call 21; refine (rmissing_any L' _ _ (HRL.out.below hM3.below hSr.out) (by omega)).mono ?_; rintro x w4 ⟨a4, b4, d4, rfl, hF4, hb4⟩; have hM4 := hM3.grow hS3 hb4; (obtain ⟨vw5, w5, hrun5, hM5, hsz5⟩ := hM4.pushW (o := missT L') (Nat.le_trans hS3 hb4.size) (by rw [flt_miss]; exact hF4.cap.mono fun _ h => .inr h) (by omega) 54); (obtain ⟨ad5, cp5, rfl⟩ := hM5.formW))
            | ((with_reducible refine step_append (s := .tmp 103) (x := .tmp 106) (t := 54) (vs := ?asp4) (vx := ?axp4) (v' := ?avp4) (w' := ?awp4) ?agp4 ?aop4 ?app4 ?aqp4 ?arp4 ?ahp4); (case agp4 => rfl); (case aop4 => rfl); (case app4 => rfl); (case aqp4 => rfl); (case arp4 => exact hrun5)))
          rw [show (st ++ [missT L']).length = st.length + 1 by simp] at hM5
          go_roundw
          case rel => exact ⟨k + 1, st ++ [missT L'], _, hkn, by omega, by push_cast; rfl, hM5, by rw [tot_push]; have := wt_miss L'; omega, by simp; omega⟩
          case measure => simp [intOf]; omega
        have e0' : (kk == 0) = false := beq_eq_false_iff_ne.2 e0
        have e1' : (kk == 1) = false := beq_eq_false_iff_ne.2 e1
        by_cases e2 : kk = 2
        · subst e2
          clear e0 e1 e0' e1'
          by_cases hz : st.length = 0
          · have hI0 : (st.length : Int) = 0 := by omega
            go_wp2_with fail
            go_roundw
            case rel => exact ⟨k + 1, st, P, hkn, by omega, by push_cast; rfl, hM, by omega, by omega⟩
            case measure => simp [intOf]; omega
          · obtain ⟨m, hm⟩ : ∃ m, st.length = m + 1 := ⟨st.length - 1, by omega⟩
            obtain ⟨g, cp, xv, hv, hgS, hc, hx⟩ := hM.getE (i := m) (by omega)
            obtain ⟨rfl, rfl⟩ : adE = some ⟨g, 0, none⟩ ∧ cpE = cp := by injection hv with a b c; exact ⟨a, c⟩
            obtain ⟨g2, cp2, a2, b2, d2, hv2, hg2S, f0, f1, f2, hF⟩ := hM.getW (i := m) (by omega)
            obtain ⟨rfl, rfl⟩ : adW = some ⟨g2, 0, none⟩ ∧ cpW = cp2 := by injection hv2 with a b c; exact ⟨a, c⟩
            clear hz hv hv2
            have HM := Lib.hid hM
            have HX := Lib.hid hx
            have HF := Lib.hid hF
            have HMM := Lib.hid hm
            have m0 : (0 : Int) ≤ (m : Int) := Int.natCast_nonneg _
            clear hM hx hF
            have hwj : IntKind.i64.wrap (m : Int) = (m : Int) := by rw [IntKind.wrap_i64]; omega
            have hi1 : (m : Int) < (m : Int) + 1 := by omega
            rw [hm]
            clear hm
            go_upto_region 24 with fail
            go_cut [] from 9 to 141 (fun wx => ∃ P', MSt S P' (.slice (some ⟨g, 0, none⟩) (List.length st) cpE) (.slice (some ⟨g2, 0, none⟩) (List.length st) cpW) (st.set m (wrapT op (st.getD m none))) st w1 wx)
            case first =>
              have kW := fwrap_any op (st.getD m none) P xv _ (HX.out.next ((Below.refl _ _).drew)) (by omega)
              refine wp_region_any (by kernel_rfl) ?_
              refine' wpAny_take (i := 0) ?hizz1 (by kernel_rfl) (by kernel_rfl) (by kernel_rfl) ?hqzz1 (Or.inl ⟨?hwzz1, ?hyzz1⟩) ?hrzz1
              case hizz1 => (simp only [List.getElem?_toArray, List.getElem?_cons_succ, List.getElem?_cons_zero]; rfl)
              case hqzz1 => exact fun _ _ _ h => h
              case hwzz1 => rfl
              case hyzz1 => (intro w0; go_simp; try with_reducible rfl)
              (try simp only [Act.put, List.setIfInBounds_toArray, List.set_cons_zero, List.set_cons_succ])
              refine' wpAny_take (i := 1) ?hizz2 (by kernel_rfl) (by kernel_rfl) (by kernel_rfl) ?hqzz2 (Or.inl ⟨?hwzz2, ?hyzz2⟩) ?hrzz2
              case hizz2 => (simp only [List.getElem?_toArray, List.getElem?_cons_succ, List.getElem?_cons_zero]; rfl)
              case hqzz2 => exact fun _ _ _ h => h
              case hwzz2 => rfl
              case hyzz2 => (intro w0; go_simp; try with_reducible rfl)
              (try simp only [Act.put, List.setIfInBounds_toArray, List.set_cons_zero, List.set_cons_succ])
              refine' wpAny_take (i := 2) ?hizz3 (by kernel_rfl) (by kernel_rfl) (by kernel_rfl) ?hqzz3 (Or.inl ⟨?hwzz3, ?hyzz3⟩) ?hrzz3
              case hizz3 => (simp only [List.getElem?_toArray, List.getElem?_cons_succ, List.getElem?_cons_zero]; rfl)
              case hqzz3 => exact fun _ _ _ h => h
              case hwzz3 => rfl
              case hyzz3 => (intro w0; go_simp; try with_reducible rfl)
              (try simp only [Act.put, List.setIfInBounds_toArray, List.set_cons_zero, List.set_cons_succ])
              refine' wpAny_take (i := 3) ?hizz4 (by kernel_rfl) (by kernel_rfl) (by kernel_rfl) ?hqzz4 (Or.inl ⟨?hwzz4, ?hyzz4⟩) ?hrzz4
              case hizz4 => (simp only [List.getElem?_toArray, List.getElem?_cons_succ, List.getElem?_cons_zero]; rfl)
              case hqzz4 => exact fun _ _ _ h => h
              case hwzz4 => rfl
              case hyzz4 => (intro w0; go_simp; try with_reducible rfl)
              (try simp only [Act.put, List.setIfInBounds_toArray, List.set_cons_zero, List.set_cons_succ])
              refine' wpAny_take (i := 4) ?hizz5 (by kernel_rfl) (by kernel_rfl) (by kernel_rfl) ?hqzz5 (Or.inl ⟨?hwzz5, ?hyzz5⟩) ?hrzz5
              case hizz5 => (simp only [List.getElem?_toArray, List.getElem?_cons_succ, List.getElem?_cons_zero]; rfl)
              case hqzz5 => exact fun _ _ _ h => h
              case hwzz5 => rfl
              case hyzz5 => (intro w0; go_simp; try with_reducible rfl)
              (try simp only [Act.put, List.setIfInBounds_toArray, List.set_cons_zero, List.set_cons_succ])
              refine' wpAny_take (i := 5) ?hizz6 (by kernel_rfl) (by kernel_rfl) (by kernel_rfl) ?hqzz6 (Or.inl ⟨?hwzz6, ?hyzz6⟩) ?hrzz6
              case hizz6 => (simp only [List.getElem?_toArray, List.getElem?_cons_succ, List.getElem?_cons_zero]; rfl)
              case hqzz6 => exact fun _ _ _ h => h
              case hwzz6 => rfl
              case hyzz6 => (intro w0; go_simp; try with_reducible rfl)
              (try simp only [Act.put, List.setIfInBounds_toArray, List.set_cons_zero, List.set_cons_succ])
              refine' wpAny_take (i := 6) ?hizz7 (by kernel_rfl) (by kernel_rfl) (by kernel_rfl) ?hqzz7 (Or.inl ⟨?hwzz7, ?hyzz7⟩) ?hrzz7
              case hizz7 => (simp only [List.getElem?_toArray, List.getElem?_cons_succ, List.getElem?_cons_zero]; rfl)
              case hqzz7 => exact fun _ _ _ h => h
              case hwzz7 => rfl
              case hyzz7 => (intro w0; go_simp; try with_reducible rfl)
              (try simp only [Act.put, List.setIfInBounds_toArray, List.set_cons_zero, List.set_cons_succ])
              refine' wpAny_take (i := 8) ?hizz8 (by kernel_rfl) (by kernel_rfl) (by kernel_rfl) ?hqzz8 (Or.inl ⟨?hwzz8, ?hyzz8⟩) ?hrzz8
              case hizz8 => (simp only [List.getElem?_toArray, List.getElem?_cons_succ, List.getElem?_cons_zero]; rfl)
              case hqzz8 => exact fun _ _ _ h => h
              case hwzz8 => rfl
              case hyzz8 => (intro w0; go_simp; try with_reducible rfl)
              (try simp only [Act.put, List.setIfInBounds_toArray, List.set_cons_zero, List.set_cons_succ])
              refine' wpAny_take (i := 9) ?hizz9 (by kernel_rfl) (by kernel_rfl) (by kernel_rfl) ?hqzz9 (Or.inl ⟨?hwzz9, ?hyzz9⟩) ?hrzz9
              case hizz9 => (simp only [List.getElem?_toArray, List.getElem?_cons_succ, List.getElem?_cons_zero]; rfl)
              case hqzz9 => exact fun _ _ _ h => h
              case hwzz9 => rfl
              case hyzz9 => (intro w0; go_simp; try with_reducible rfl)
              (try simp only [Act.put, List.setIfInBounds_toArray, List.set_cons_zero, List.set_cons_succ])
              refine' wpAny_take (i := 10) ?hizz10 (by kernel_rfl) (by kernel_rfl) (by kernel_rfl) ?hqzz10 (Or.inl ⟨?hwzz10, ?hyzz10⟩) ?hrzz10
              case hizz10 => (simp only [List.getElem?_toArray, List.getElem?_cons_succ, List.getElem?_cons_zero]; rfl)
              case hqzz10 => exact fun _ _ _ h => h
              case hwzz10 => rfl
              case hyzz10 => (intro w0; go_simp; try with_reducible rfl)
              (try simp only [Act.put, List.setIfInBounds_toArray, List.set_cons_zero, List.set_cons_succ])
              refine' wpAny_take (i := 11) ?hizz11 (by kernel_rfl) (by kernel_rfl) (by kernel_rfl) ?hqzz11 (Or.inl ⟨?hwzz11, ?hyzz11⟩) ?hrzz11
              case hizz11 => (simp only [List.getElem?_toArray, List.getElem?_cons_succ, List.getElem?_cons_zero]; rfl)
              case hqzz11 => exact fun _ _ _ h => h
              case hwzz11 => rfl
              case hyzz11 => (intro w0; go_simp; try with_reducible rfl)
              (try simp only [Act.put, List.setIfInBounds_toArray, List.set_cons_zero, List.set_cons_succ])
              refine wpAny_ready (rs := [7, 12]) (by kernel_rfl) (by simp) ?_
              refine' AllReady.cons ?hazz20 (fun K hK => ?hczz20) (AllReady.cons ?hbzz20 (fun K hK => ?hdzz20) AllReady.nil)
              case hazz20 => (simp only [List.getElem?_toArray, List.getElem?_cons_succ, List.getElem?_cons_zero]; rfl)
              case hbzz20 => (simp only [List.getElem?_toArray, List.getElem?_cons_succ, List.getElem?_cons_zero]; rfl)
              case hczz20 =>
                go_simp
                refine hK _ _ ?_
                clear hK K
                (try simp only [Act.put, List.setIfInBounds_toArray, List.set_cons_zero, List.set_cons_succ])
                refine wpAny_ready (rs := [12]) (by kernel_rfl) (by simp) ?_
                refine' AllReady.cons ?hizz12 (fun K hK => ?hrzz12) AllReady.nil
                case hizz12 => (simp only [List.getElem?_toArray, List.getElem?_cons_succ, List.getElem?_cons_zero]; rfl)
                go_simp
                refine hK _ _ ?_
                clear hK K
                (try simp only [Act.put, List.setIfInBounds_toArray, List.set_cons_zero, List.set_cons_succ])
                refine wpAny_ready (rs := [13]) (by kernel_rfl) (by simp) ?_
                refine' AllReady.cons ?hizz13 (fun K hK => ?hrzz13) AllReady.nil
                case hizz13 => (simp only [List.getElem?_toArray, List.getElem?_cons_succ, List.getElem?_cons_zero]; rfl)
                go_simp
                (refine kW.mono ?_; rintro x w2 ⟨v2, rfl, hl2, hb2⟩)
                have hM2 := (HM.out.drew hSw).grow hSw hb2
                obtain ⟨w3, hrun, hM3, hsz3⟩ := hM2.setE (i := m) (by have := HMM.out; omega) (hl2.cap.mono fun q hq => hq.1.elim .inl fun h => .inr ⟨h, hq.2⟩) rfl
                refine hK _ _ ?_
                clear hK K
                (try simp only [Act.put, List.setIfInBounds_toArray, List.set_cons_zero, List.set_cons_succ])
                refine' wpAny_take (i := 14) ?hizz14 (by kernel_rfl) (by kernel_rfl) (by kernel_rfl) ?hqzz14 (Or.inl ⟨?hwzz14, ?hyzz14⟩) ?hrzz14
                case hizz14 => (simp only [List.getElem?_toArray, List.getElem?_cons_succ, List.getElem?_cons_zero]; rfl)
                case hqzz14 => exact fun _ _ _ h => h
                case hwzz14 => rfl
                case hyzz14 => (intro w0; go_simp; try with_reducible rfl)
                (try simp only [Act.put, List.setIfInBounds_toArray, List.set_cons_zero, List.set_cons_succ])
                refine wpAny_ready (rs := [15]) (by kernel_rfl) (by simp) ?_
                refine' AllReady.cons ?hizz15 (fun K hK => ?hrzz15) AllReady.nil
                case hizz15 => (simp only [List.getElem?_toArray, List.getElem?_cons_succ, List.getElem?_cons_zero]; rfl)
                refine want_storeat rfl rfl rfl rfl hrun (hK _ _ ?_)
                clear hK K
                (try simp only [Act.put, List.setIfInBounds_toArray, List.set_cons_zero, List.set_cons_succ])
                refine wpAny_done (by kernel_rfl) ?_ _
                go_wp2_with fail
                go_meet
                exact ⟨_, hM3⟩
              case hdzz20 =>
                go_simp
                refine hK _ _ ?_
                clear hK K
                (try simp only [Act.put, List.setIfInBounds_toArray, List.set_cons_zero, List.set_cons_succ])
                refine wpAny_ready (rs := [7]) (by kernel_rfl) (by simp) ?_
                refine' AllReady.cons ?hizz16 (fun K hK => ?hrzz16) AllReady.nil
                case hizz16 => (simp only [List.getElem?_toArray, List.getElem?_cons_succ, List.getElem?_cons_zero]; rfl)
                go_simp
                refine hK _ _ ?_
                clear hK K
                (try simp only [Act.put, List.setIfInBounds_toArray, List.set_cons_zero, List.set_cons_succ])
                refine wpAny_ready (rs := [13]) (by kernel_rfl) (by simp) ?_
                refine' AllReady.cons ?hizz17 (fun K hK => ?hrzz17) AllReady.nil
                case hizz17 => (simp only [List.getElem?_toArray, List.getElem?_cons_succ, List.getElem?_cons_zero]; rfl)
                go_simp
                (refine kW.mono ?_; rintro x w2 ⟨v2, rfl, hl2, hb2⟩)
                have hM2 := (HM.out.drew hSw).grow hSw hb2
                obtain ⟨w3, hrun, hM3, hsz3⟩ := hM2.setE (i := m) (by have := HMM.out; omega) (hl2.cap.mono fun q hq => hq.1.elim .inl fun h => .inr ⟨h, hq.2⟩) rfl
                refine hK _ _ ?_
                clear hK K
                (try simp only [Act.put, List.setIfInBounds_toArray, List.set_cons_zero, List.set_cons_succ])
                refine' wpAny_take (i := 14) ?hizz18 (by kernel_rfl) (by kernel_rfl) (by kernel_rfl) ?hqzz18 (Or.inl ⟨?hwzz18, ?hyzz18⟩) ?hrzz18
                case hizz18 => (simp only [List.getElem?_toArray, List.getElem?_cons_succ, List.getElem?_cons_zero]; rfl)
                case hqzz18 => exact fun _ _ _ h => h
                case hwzz18 => rfl
                case hyzz18 => (intro w0; go_simp; try with_reducible rfl)
                (try simp only [Act.put, List.setIfInBounds_toArray, List.set_cons_zero, List.set_cons_succ])
                refine wpAny_ready (rs := [15]) (by kernel_rfl) (by simp) ?_
                refine' AllReady.cons ?hizz19 (fun K hK => ?hrzz19) AllReady.nil
                case hizz19 => (simp only [List.getElem?_toArray, List.getElem?_cons_succ, List.getElem?_cons_zero]; rfl)
                refine want_storeat rfl rfl rfl rfl hrun (hK _ _ ?_)
                clear hK K
                (try simp only [Act.put, List.setIfInBounds_toArray, List.set_cons_zero, List.set_cons_succ])
                refine wpAny_done (by kernel_rfl) ?_ _
                go_wp2_with fail
                go_meet
                exact ⟨_, hM3⟩
            case rest =>
              obtain ⟨P', hM'⟩ := hcut
              have hSw' : S ≤ wc.heap.size := by rw [HS.out]; exact (by have := hM'.below.size; exact this)
              obtain ⟨g3, cp3, a3, b3, d3, hv3, hg3S, q0, q1, q2, hF3⟩ := hM'.getW (i := m) (by have := HMM.out; omega)
              obtain ⟨rfl, rfl⟩ : g2 = g3 ∧ cpW = cp3 := by injection hv3 with a b c; injection a with a; injection a with a; exact ⟨a, c⟩
              have o2' := (hM'.below.cell (p := ⟨b, off + k * 4 + 2, none⟩) hbS).trans o2
              have HM' := Lib.hid hM'
              have HF3 := Lib.hid hF3
              have hwm := wt_le (st := st) (i := m) (by have := HMM.out; omega)
              have hkW := rwrap_any op (fltO (st.getD m none)) a3 b3 d3 _ (hF3.next ((Below.refl _ _).drew)) (by unfold wt at hwm; omega)
              clear hM' hF3 hv3 f0 f1 f2 hc o1 o2 c0 c1 c2 c3
              go_upto_region 25 with fail
              have HTS := Lib.hid (tot_set (st := st) (i := m) (wrapT op (st.getD m none)) (by have := HMM.out; omega))
              have HWW := Lib.hid (wt_wrap op (st.getD m none))
              refine wp_region_any (by kernel_rfl) ?_
              refine' wpAny_take (i := 0) ?hizz21 (by kernel_rfl) (by kernel_rfl) (by kernel_rfl) ?hqzz21 (Or.inl ⟨?hwzz21, ?hyzz21⟩) ?hrzz21
              case hizz21 => (simp only [List.getElem?_toArray, List.getElem?_cons_succ, List.getElem?_cons_zero]; rfl)
              case hqzz21 => exact fun _ _ _ h => h
              case hwzz21 => rfl
              case hyzz21 => (intro w0; go_simp; try with_reducible rfl)
              (try simp only [Act.put, List.setIfInBounds_toArray, List.set_cons_zero, List.set_cons_succ])
              refine' wpAny_take (i := 1) ?hizz22 (by kernel_rfl) (by kernel_rfl) (by kernel_rfl) ?hqzz22 (Or.inl ⟨?hwzz22, ?hyzz22⟩) ?hrzz22
              case hizz22 => (simp only [List.getElem?_toArray, List.getElem?_cons_succ, List.getElem?_cons_zero]; rfl)
              case hqzz22 => exact fun _ _ _ h => h
              case hwzz22 => rfl
              case hyzz22 => (intro w0; go_simp; try with_reducible rfl)
              (try simp only [Act.put, List.setIfInBounds_toArray, List.set_cons_zero, List.set_cons_succ])
              refine' wpAny_take (i := 2) ?hizz23 (by kernel_rfl) (by kernel_rfl) (by kernel_rfl) ?hqzz23 (Or.inl ⟨?hwzz23, ?hyzz23⟩) ?hrzz23
              case hizz23 => (simp only [List.getElem?_toArray, List.getElem?_cons_succ, List.getElem?_cons_zero]; rfl)
              case hqzz23 => exact fun _ _ _ h => h
              case hwzz23 => rfl
              case hyzz23 => (intro w0; go_simp; try with_reducible rfl)
              (try simp only [Act.put, List.setIfInBounds_toArray, List.set_cons_zero, List.set_cons_succ])
              refine' wpAny_take (i := 3) ?hizz24 (by kernel_rfl) (by kernel_rfl) (by kernel_rfl) ?hqzz24 (Or.inl ⟨?hwzz24, ?hyzz24⟩) ?hrzz24
              case hizz24 => (simp only [List.getElem?_toArray, List.getElem?_cons_succ, List.getElem?_cons_zero]; rfl)
              case hqzz24 => exact fun _ _ _ h => h
              case hwzz24 => rfl
              case hyzz24 => (intro w0; go_simp; try with_reducible rfl)
              (try simp only [Act.put, List.setIfInBounds_toArray, List.set_cons_zero, List.set_cons_succ])
              refine' wpAny_take (i := 4) ?hizz25 (by kernel_rfl) (by kernel_rfl) (by kernel_rfl) ?hqzz25 (Or.inl ⟨?hwzz25, ?hyzz25⟩) ?hrzz25
              case hizz25 => (simp only [List.getElem?_toArray, List.getElem?_cons_succ, List.getElem?_cons_zero]; rfl)
              case hqzz25 => exact fun _ _ _ h => h
              case hwzz25 => rfl
              case hyzz25 => (intro w0; go_simp; try with_reducible rfl)
              (try simp only [Act.put, List.setIfInBounds_toArray, List.set_cons_zero, List.set_cons_succ])
              refine' wpAny_take (i := 5) ?hizz26 (by kernel_rfl) (by kernel_rfl) (by kernel_rfl) ?hqzz26 (Or.inl ⟨?hwzz26, ?hyzz26⟩) ?hrzz26
              case hizz26 => (simp only [List.getElem?_toArray, List.getElem?_cons_succ, List.getElem?_cons_zero]; rfl)
              case hqzz26 => exact fun _ _ _ h => h
              case hwzz26 => rfl
              case hyzz26 => (intro w0; go_simp; try with_reducible rfl)
              (try simp only [Act.put, List.setIfInBounds_toArray, List.set_cons_zero, List.set_cons_succ])
              refine' wpAny_take (i := 6) ?hizz27 (by kernel_rfl) (by kernel_rfl) (by kernel_rfl) ?hqzz27 (Or.inl ⟨?hwzz27, ?hyzz27⟩) ?hrzz27
              case hizz27 => (simp only [List.getElem?_toArray, List.getElem?_cons_succ, List.getElem?_cons_zero]; rfl)
              case hqzz27 => exact fun _ _ _ h => h
              case hwzz27 => rfl
              case hyzz27 => (intro w0; go_simp; try with_reducible rfl)
              (try simp only [Act.put, List.setIfInBounds_toArray, List.set_cons_zero, List.set_cons_succ])
              refine' wpAny_take (i := 8) ?hizz28 (by kernel_rfl) (by kernel_rfl) (by kernel_rfl) ?hqzz28 (Or.inl ⟨?hwzz28, ?hyzz28⟩) ?hrzz28
              case hizz28 => (simp only [List.getElem?_toArray, List.getElem?_cons_succ, List.getElem?_cons_zero]; rfl)
              case hqzz28 => exact fun _ _ _ h => h
              case hwzz28 => rfl
              case hyzz28 => (intro w0; go_simp; try with_reducible rfl)
              (try simp only [Act.put, List.setIfInBounds_toArray, List.set_cons_zero, List.set_cons_succ])
              refine' wpAny_take (i := 9) ?hizz29 (by kernel_rfl) (by kernel_rfl) (by kernel_rfl) ?hqzz29 (Or.inl ⟨?hwzz29, ?hyzz29⟩) ?hrzz29
              case hizz29 => (simp only [List.getElem?_toArray, List.getElem?_cons_succ, List.getElem?_cons_zero]; rfl)
              case hqzz29 => exact fun _ _ _ h => h
              case hwzz29 => rfl
              case hyzz29 => (intro w0; go_simp; try with_reducible rfl)
              (try simp only [Act.put, List.setIfInBounds_toArray, List.set_cons_zero, List.set_cons_succ])
              refine' wpAny_take (i := 10) ?hizz30 (by kernel_rfl) (by kernel_rfl) (by kernel_rfl) ?hqzz30 (Or.inl ⟨?hwzz30, ?hyzz30⟩) ?hrzz30
              case hizz30 => (simp only [List.getElem?_toArray, List.getElem?_cons_succ, List.getElem?_cons_zero]; rfl)
              case hqzz30 => exact fun _ _ _ h => h
              case hwzz30 => rfl
              case hyzz30 => (intro w0; go_simp; try with_reducible rfl)
              (try simp only [Act.put, List.setIfInBounds_toArray, List.set_cons_zero, List.set_cons_succ])
              refine' wpAny_take (i := 11) ?hizz31 (by kernel_rfl) (by kernel_rfl) (by kernel_rfl) ?hqzz31 (Or.inl ⟨?hwzz31, ?hyzz31⟩) ?hrzz31
              case hizz31 => (simp only [List.getElem?_toArray, List.getElem?_cons_succ, List.getElem?_cons_zero]; rfl)
              case hqzz31 => exact fun _ _ _ h => h
              case hwzz31 => rfl
              case hyzz31 => (intro w0; go_simp; try with_reducible rfl)
              (try simp only [Act.put, List.setIfInBounds_toArray, List.set_cons_zero, List.set_cons_succ])
              refine wpAny_ready (rs := [7, 12]) (by kernel_rfl) (by simp) ?_
              refine' AllReady.cons ?hazz40 (fun K hK => ?hczz40) (AllReady.cons ?hbzz40 (fun K hK => ?hdzz40) AllReady.nil)
              case hazz40 => (simp only [List.getElem?_toArray, List.getElem?_cons_succ, List.getElem?_cons_zero]; rfl)
              case hbzz40 => (simp only [List.getElem?_toArray, List.getElem?_cons_succ, List.getElem?_cons_zero]; rfl)
              case hczz40 =>
                go_simp
                refine hK _ _ ?_
                clear hK K
                (try simp only [Act.put, List.setIfInBounds_toArray, List.set_cons_zero, List.set_cons_succ])
                refine wpAny_ready (rs := [12]) (by kernel_rfl) (by simp) ?_
                refine' AllReady.cons ?hizz32 (fun K hK => ?hrzz32) AllReady.nil
                case hizz32 => (simp only [List.getElem?_toArray, List.getElem?_cons_succ, List.getElem?_cons_zero]; rfl)
                go_simp
                refine hK _ _ ?_
                clear hK K
                (try simp only [Act.put, List.setIfInBounds_toArray, List.set_cons_zero, List.set_cons_succ])
                refine wpAny_ready (rs := [13]) (by kernel_rfl) (by simp) ?_
                refine' AllReady.cons ?hizz33 (fun K hK => ?hrzz33) AllReady.nil
                case hizz33 => (simp only [List.getElem?_toArray, List.getElem?_cons_succ, List.getElem?_cons_zero]; rfl)
                go_simp
                (refine hkW.mono ?_; rintro x w2 ⟨a9, b9, d9, rfl, hF9, hb2⟩)
                have hM2 := (HM'.out.drew hSw').grow hSw' hb2
                rw [← flt_wrap] at hF9
                obtain ⟨w3, hrun, hM3, hsz3⟩ := hM2.setW (i := m) (by have := HMM.out; omega) (hF9.cap.mono fun q hq => hq.1.elim .inl fun h => .inr ⟨h, hq.2⟩) rfl
                refine hK _ _ ?_
                clear hK K
                (try simp only [Act.put, List.setIfInBounds_toArray, List.set_cons_zero, List.set_cons_succ])
                refine' wpAny_take (i := 14) ?hizz34 (by kernel_rfl) (by kernel_rfl) (by kernel_rfl) ?hqzz34 (Or.inl ⟨?hwzz34, ?hyzz34⟩) ?hrzz34
                case hizz34 => (simp only [List.getElem?_toArray, List.getElem?_cons_succ, List.getElem?_cons_zero]; rfl)
                case hqzz34 => exact fun _ _ _ h => h
                case hwzz34 => rfl
                case hyzz34 => (intro w0; go_simp; try with_reducible rfl)
                (try simp only [Act.put, List.setIfInBounds_toArray, List.set_cons_zero, List.set_cons_succ])
                refine wpAny_ready (rs := [15]) (by kernel_rfl) (by simp) ?_
                refine' AllReady.cons ?hizz35 (fun K hK => ?hrzz35) AllReady.nil
                case hizz35 => (simp only [List.getElem?_toArray, List.getElem?_cons_succ, List.getElem?_cons_zero]; rfl)
                refine want_storeat rfl rfl rfl rfl hrun (hK _ _ ?_)
                clear hK K
                (try simp only [Act.put, List.setIfInBounds_toArray, List.set_cons_zero, List.set_cons_succ])
                refine wpAny_done (by kernel_rfl) ?_ _
                rw [HMM.out] at hM3
                go_wp2_with fail
                go_roundw
                case rel => exact ⟨k + 1, st.set m (wrapT op (st.getD m none)), _, hkn, by omega, by push_cast; rfl, hM3, by have := HTS.out; have := HWW.out; omega, by rw [List.length_set]; omega⟩
                case measure => simp [intOf]; omega
              case hdzz40 =>
                go_simp
                refine hK _ _ ?_
                clear hK K
                (try simp only [Act.put, List.setIfInBounds_toArray, List.set_cons_zero, List.set_cons_succ])
                refine wpAny_ready (rs := [7]) (by kernel_rfl) (by simp) ?_
                refine' AllReady.cons ?hizz36 (fun K hK => ?hrzz36) AllReady.nil
                case hizz36 => (simp only [List.getElem?_toArray, List.getElem?_cons_succ, List.getElem?_cons_zero]; rfl)
                go_simp
                refine hK _ _ ?_
                clear hK K
                (try simp only [Act.put, List.setIfInBounds_toArray, List.set_cons_zero, List.set_cons_succ])
                refine wpAny_ready (rs := [13]) (by kernel_rfl) (by simp) ?_
                refine' AllReady.cons ?hizz37 (fun K hK => ?hrzz37) AllReady.nil
                case hizz37 => (simp only [List.getElem?_toArray, List.getElem?_cons_succ, List.getElem?_cons_zero]; rfl)
                go_simp
                (refine hkW.mono ?_; rintro x w2 ⟨a9, b9, d9, rfl, hF9, hb2⟩)
                have hM2 := (HM'.out.drew hSw').grow hSw' hb2
                rw [← flt_wrap] at hF9
                obtain ⟨w3, hrun, hM3, hsz3⟩ := hM2.setW (i := m) (by have := HMM.out; omega) (hF9.cap.mono fun q hq => hq.1.elim .inl fun h => .inr ⟨h, hq.2⟩) rfl
                refine hK _ _ ?_
                clear hK K
                (try simp only [Act.put, List.setIfInBounds_toArray, List.set_cons_zero, List.set_cons_succ])
                refine' wpAny_take (i := 14) ?hizz38 (by kernel_rfl) (by kernel_rfl) (by kernel_rfl) ?hqzz38 (Or.inl ⟨?hwzz38, ?hyzz38⟩) ?hrzz38
                case hizz38 => (simp only [List.getElem?_toArray, List.getElem?_cons_succ, List.getElem?_cons_zero]; rfl)
                case hqzz38 => exact fun _ _ _ h => h
                case hwzz38 => rfl
                case hyzz38 => (intro w0; go_simp; try with_reducible rfl)
                (try simp only [Act.put, List.setIfInBounds_toArray, List.set_cons_zero, List.set_cons_succ])
                refine wpAny_ready (rs := [15]) (by kernel_rfl) (by simp) ?_
                refine' AllReady.cons ?hizz39 (fun K hK => ?hrzz39) AllReady.nil
                case hizz39 => (simp only [List.getElem?_toArray, List.getElem?_cons_succ, List.getElem?_cons_zero]; rfl)
                refine want_storeat rfl rfl rfl rfl hrun (hK _ _ ?_)
                clear hK K
                (try simp only [Act.put, List.setIfInBounds_toArray, List.set_cons_zero, List.set_cons_succ])
                refine wpAny_done (by kernel_rfl) ?_ _
                rw [HMM.out] at hM3
                go_wp2_with fail
                go_roundw
                case rel => exact ⟨k + 1, st.set m (wrapT op (st.getD m none)), _, hkn, by omega, by push_cast; rfl, hM3, by have := HTS.out; have := HWW.out; omega, by rw [List.length_set]; omega⟩
                case measure => simp [intOf]; omega
        have e2' : (kk == 2) = false := beq_eq_false_iff_ne.2 e2
        clear e0 e1 e2
        by_cases hz : st.length ≤ 1
        · have hI0 : (st.length : Int) ≤ 1 := by omega
          go_wp2_with fail
          go_roundw
          case rel => exact ⟨k + 1, st, P, hkn, by omega, by push_cast; rfl, hM, by omega, by omega⟩
          case measure => simp [intOf]; omega
        · obtain ⟨m, hm⟩ : ∃ m, st.length = m + 2 := ⟨st.length - 2, by omega⟩
          obtain ⟨g, cp, xv, hv, hgS, hc, hx⟩ := hM.getE (i := m) (by omega)
          obtain ⟨rfl, rfl⟩ : adE = some ⟨g, 0, none⟩ ∧ cpE = cp := by injection hv with a b c; exact ⟨a, c⟩
          obtain ⟨g', cp', xv2, hv', hgS', hc', hx'⟩ := hM.getE (i := m + 1) (by omega)
          obtain ⟨rfl, rfl⟩ : g = g' ∧ cpE = cp' := by injection hv' with a b c; injection a with a; injection a with a; exact ⟨a, c⟩
          obtain ⟨g2, cp2, a2, b2, d2, hv2, hg2S, f0, f1, f2, hF⟩ := hM.getW (i := m) (by omega)
          obtain ⟨rfl, rfl⟩ : adW = some ⟨g2, 0, none⟩ ∧ cpW = cp2 := by injection hv2 with a b c; exact ⟨a, c⟩
          clear hz hv hv2 hv' f0 f1 f2 hF c1 c2 c3 o1 o2
          have HM := Lib.hid hM
          have HX := Lib.hid hx
          have HX' := Lib.hid hx'
          have HMM := Lib.hid hm
          have m0 : (0 : Int) ≤ (m : Int) := Int.natCast_nonneg _
          clear hM hx hx'
          have hwj : IntKind.i64.wrap (m : Int) = (m : Int) := by rw [IntKind.wrap_i64]; omega
          have hi1 : (m : Int) < (m : Int) + 2 := by omega
          have hi4 : (1 : Int) < (m : Int) + 2 := by omega
          have hsb : (m : Int) + 2 - 1 = (m : Int) + 1 := by omega
          have hnt : ((m : Int) + 1).toNat = m + 1 := by omega
          have hi2 : (m : Int) + 1 < (m : Int) + 2 := by omega
          have hi3 : (0 : Int) ≤ (m : Int) + 1 := by omega
          have hwj1 : IntKind.i64.wrap ((m : Int) + 1) = (m : Int) + 1 := by rw [IntKind.wrap_i64]; omega
          rw [hm]
          clear hm
          go_upto_region 12 with fail
          go_cut [] from 9 to 141 (fun wx => ∃ P', MSt S P' (.slice (some ⟨g, 0, none⟩) (List.length st) cpE) (.slice (some ⟨g2, 0, none⟩) (List.length st) cpW) (st.set m (joinT (st.getD m none) (st.getD (m + 1) none))) st w1 wx)
          case first =>
            have kW := fjoin_any (st.getD m none) (st.getD (m + 1) none) P xv xv2 _ (HX.out.next ((Below.refl _ _).drew)) (HX'.out.next ((Below.refl _ _).drew))
            refine wp_region_any (by kernel_rfl) ?_
            refine' wpAny_take (i := 0) ?hizz41 (by kernel_rfl) (by kernel_rfl) (by kernel_rfl) ?hqzz41 (Or.inl ⟨?hwzz41, ?hyzz41⟩) ?hrzz41
            case hizz41 => (simp only [List.getElem?_toArray, List.getElem?_cons_succ, List.getElem?_cons_zero]; rfl)
            case hqzz41 => exact fun _ _ _ h => h
            case hwzz41 => rfl
            case hyzz41 => (intro w0; go_simp; try with_reducible rfl)
            (try simp only [Act.put, List.setIfInBounds_toArray, List.set_cons_zero, List.set_cons_succ])
            refine' wpAny_take (i := 1) ?hizz42 (by kernel_rfl) (by kernel_rfl) (by kernel_rfl) ?hqzz42 (Or.inl ⟨?hwzz42, ?hyzz42⟩) ?hrzz42
            case hizz42 => (simp only [List.getElem?_toArray, List.getElem?_cons_succ, List.getElem?_cons_zero]; rfl)
            case hqzz42 => exact fun _ _ _ h => h
            case hwzz42 => rfl
            case hyzz42 => (intro w0; go_simp; try with_reducible rfl)
            (try simp only [Act.put, List.setIfInBounds_toArray, List.set_cons_zero, List.set_cons_succ])
            refine' wpAny_take (i := 2) ?hizz43 (by kernel_rfl) (by kernel_rfl) (by kernel_rfl) ?hqzz43 (Or.inl ⟨?hwzz43, ?hyzz43⟩) ?hrzz43
            case hizz43 => (simp only [List.getElem?_toArray, List.getElem?_cons_succ, List.getElem?_cons_zero]; rfl)
            case hqzz43 => exact fun _ _ _ h => h
            case hwzz43 => rfl
            case hyzz43 => (intro w0; go_simp; try with_reducible rfl)
            (try simp only [Act.put, List.setIfInBounds_toArray, List.set_cons_zero, List.set_cons_succ])
            refine' wpAny_take (i := 3) ?hizz44 (by kernel_rfl) (by kernel_rfl) (by kernel_rfl) ?hqzz44 (Or.inl ⟨?hwzz44, ?hyzz44⟩) ?hrzz44
            case hizz44 => (simp only [List.getElem?_toArray, List.getElem?_cons_succ, List.getElem?_cons_zero]; rfl)
            case hqzz44 => exact fun _ _ _ h => h
            case hwzz44 => rfl
            case hyzz44 => (intro w0; go_simp; try with_reducible rfl)
            (try simp only [Act.put, List.setIfInBounds_toArray, List.set_cons_zero, List.set_cons_succ])
            refine' wpAny_take (i := 4) ?hizz45 (by kernel_rfl) (by kernel_rfl) (by kernel_rfl) ?hqzz45 (Or.inl ⟨?hwzz45, ?hyzz45⟩) ?hrzz45
            case hizz45 => (simp only [List.getElem?_toArray, List.getElem?_cons_succ, List.getElem?_cons_zero]; rfl)
            case hqzz45 => exact fun _ _ _ h => h
            case hwzz45 => rfl
            case hyzz45 => (intro w0; go_simp; try with_reducible rfl)
            (try simp only [Act.put, List.setIfInBounds_toArray, List.set_cons_zero, List.set_cons_succ])
            refine' wpAny_take (i := 5) ?hizz46 (by kernel_rfl) (by kernel_rfl) (by kernel_rfl) ?hqzz46 (Or.inl ⟨?hwzz46, ?hyzz46⟩) ?hrzz46
            case hizz46 => (simp only [List.getElem?_toArray, List.getElem?_cons_succ, List.getElem?_cons_zero]; rfl)
            case hqzz46 => exact fun _ _ _ h => h
            case hwzz46 => rfl
            case hyzz46 => (intro w0; go_simp; try with_reducible rfl)
            (try simp only [Act.put, List.setIfInBounds_toArray, List.set_cons_zero, List.set_cons_succ])
            refine' wpAny_take (i := 6) ?hizz47 (by kernel_rfl) (by kernel_rfl) (by kernel_rfl) ?hqzz47 (Or.inl ⟨?hwzz47, ?hyzz47⟩) ?hrzz47
            case hizz47 => (simp only [List.getElem?_toArray, List.getElem?_cons_succ, List.getElem?_cons_zero]; rfl)
            case hqzz47 => exact fun _ _ _ h => h
            case hwzz47 => rfl
            case hyzz47 => (intro w0; go_simp; try with_reducible rfl)
            (try simp only [Act.put, List.setIfInBounds_toArray, List.set_cons_zero, List.set_cons_succ])
            refine' wpAny_take (i := 8) ?hizz48 (by kernel_rfl) (by kernel_rfl) (by kernel_rfl) ?hqzz48 (Or.inl ⟨?hwzz48, ?hyzz48⟩) ?hrzz48
            case hizz48 => (simp only [List.getElem?_toArray, List.getElem?_cons_succ, List.getElem?_cons_zero]; rfl)
            case hqzz48 => exact fun _ _ _ h => h
            case hwzz48 => rfl
            case hyzz48 => (intro w0; go_simp; try with_reducible rfl)
            (try simp only [Act.put, List.setIfInBounds_toArray, List.set_cons_zero, List.set_cons_succ])
            refine' wpAny_take (i := 9) ?hizz49 (by kernel_rfl) (by kernel_rfl) (by kernel_rfl) ?hqzz49 (Or.inl ⟨?hwzz49, ?hyzz49⟩) ?hrzz49
            case hizz49 => (simp only [List.getElem?_toArray, List.getElem?_cons_succ, List.getElem?_cons_zero]; rfl)
            case hqzz49 => exact fun _ _ _ h => h
            case hwzz49 => rfl
            case hyzz49 => (intro w0; go_simp; try with_reducible rfl)
            (try simp only [Act.put, List.setIfInBounds_toArray, List.set_cons_zero, List.set_cons_succ])
            refine' wpAny_take (i := 10) ?hizz50 (by kernel_rfl) (by kernel_rfl) (by kernel_rfl) ?hqzz50 (Or.inl ⟨?hwzz50, ?hyzz50⟩) ?hrzz50
            case hizz50 => (simp only [List.getElem?_toArray, List.getElem?_cons_succ, List.getElem?_cons_zero]; rfl)
            case hqzz50 => exact fun _ _ _ h => h
            case hwzz50 => rfl
            case hyzz50 => (intro w0; go_simp; try with_reducible rfl)
            (try simp only [Act.put, List.setIfInBounds_toArray, List.set_cons_zero, List.set_cons_succ])
            refine' wpAny_take (i := 11) ?hizz51 (by kernel_rfl) (by kernel_rfl) (by kernel_rfl) ?hqzz51 (Or.inl ⟨?hwzz51, ?hyzz51⟩) ?hrzz51
            case hizz51 => (simp only [List.getElem?_toArray, List.getElem?_cons_succ, List.getElem?_cons_zero]; rfl)
            case hqzz51 => exact fun _ _ _ h => h
            case hwzz51 => rfl
            case hyzz51 => (intro w0; go_simp; try with_reducible rfl)
            (try simp only [Act.put, List.setIfInBounds_toArray, List.set_cons_zero, List.set_cons_succ])
            refine wpAny_ready (rs := [7, 12]) (by kernel_rfl) (by simp) ?_
            refine' AllReady.cons ?hazz60 (fun K hK => ?hczz60) (AllReady.cons ?hbzz60 (fun K hK => ?hdzz60) AllReady.nil)
            case hazz60 => (simp only [List.getElem?_toArray, List.getElem?_cons_succ, List.getElem?_cons_zero]; rfl)
            case hbzz60 => (simp only [List.getElem?_toArray, List.getElem?_cons_succ, List.getElem?_cons_zero]; rfl)
            case hczz60 =>
              go_simp
              refine hK _ _ ?_
              clear hK K
              (try simp only [Act.put, List.setIfInBounds_toArray, List.set_cons_zero, List.set_cons_succ])
              refine wpAny_ready (rs := [12]) (by kernel_rfl) (by simp) ?_
              refine' AllReady.cons ?hizz52 (fun K hK => ?hrzz52) AllReady.nil
              case hizz52 => (simp only [List.getElem?_toArray, List.getElem?_cons_succ, List.getElem?_cons_zero]; rfl)
              go_simp
              refine hK _ _ ?_
              clear hK K
              (try simp only [Act.put, List.setIfInBounds_toArray, List.set_cons_zero, List.set_cons_succ])
              refine wpAny_ready (rs := [13]) (by kernel_rfl) (by simp) ?_
              refine' AllReady.cons ?hizz53 (fun K hK => ?hrzz53) AllReady.nil
              case hizz53 => (simp only [List.getElem?_toArray, List.getElem?_cons_succ, List.getElem?_cons_zero]; rfl)
              go_simp
              (refine kW.mono ?_; rintro x w2 ⟨v2, rfl, hl2, hb2⟩)
              have hM2 := (HM.out.drew hSw).grow hSw hb2
              obtain ⟨w3, hrun, hM3, hsz3⟩ := hM2.setE (i := m) (by have := HMM.out; omega) (hl2.cap.mono fun q hq => hq.1.elim .inl fun h => .inr ⟨h, hq.2⟩) rfl
              refine hK _ _ ?_
              clear hK K
              (try simp only [Act.put, List.setIfInBounds_toArray, List.set_cons_zero, List.set_cons_succ])
              refine' wpAny_take (i := 14) ?hizz54 (by kernel_rfl) (by kernel_rfl) (by kernel_rfl) ?hqzz54 (Or.inl ⟨?hwzz54, ?hyzz54⟩) ?hrzz54
              case hizz54 => (simp only [List.getElem?_toArray, List.getElem?_cons_succ, List.getElem?_cons_zero]; rfl)
              case hqzz54 => exact fun _ _ _ h => h
              case hwzz54 => rfl
              case hyzz54 => (intro w0; go_simp; try with_reducible rfl)
              (try simp only [Act.put, List.setIfInBounds_toArray, List.set_cons_zero, List.set_cons_succ])
              refine wpAny_ready (rs := [15]) (by kernel_rfl) (by simp) ?_
              refine' AllReady.cons ?hizz55 (fun K hK => ?hrzz55) AllReady.nil
              case hizz55 => (simp only [List.getElem?_toArray, List.getElem?_cons_succ, List.getElem?_cons_zero]; rfl)
              refine want_storeat rfl rfl rfl rfl hrun (hK _ _ ?_)
              clear hK K
              (try simp only [Act.put, List.setIfInBounds_toArray, List.set_cons_zero, List.set_cons_succ])
              refine wpAny_done (by kernel_rfl) ?_ _
              go_wp2_with fail
              go_meet
              exact ⟨_, hM3⟩
            case hdzz60 =>
              go_simp
              refine hK _ _ ?_
              clear hK K
              (try simp only [Act.put, List.setIfInBounds_toArray, List.set_cons_zero, List.set_cons_succ])
              refine wpAny_ready (rs := [7]) (by kernel_rfl) (by simp) ?_
              refine' AllReady.cons ?hizz56 (fun K hK => ?hrzz56) AllReady.nil
              case hizz56 => (simp only [List.getElem?_toArray, List.getElem?_cons_succ, List.getElem?_cons_zero]; rfl)
              go_simp
              refine hK _ _ ?_
              clear hK K
              (try simp only [Act.put, List.setIfInBounds_toArray, List.set_cons_zero, List.set_cons_succ])
              refine wpAny_ready (rs := [13]) (by kernel_rfl) (by simp) ?_
              refine' AllReady.cons ?hizz57 (fun K hK => ?hrzz57) AllReady.nil
              case hizz57 => (simp only [List.getElem?_toArray, List.getElem?_cons_succ, List.getElem?_cons_zero]; rfl)
              go_simp
              (refine kW.mono ?_; rintro x w2 ⟨v2, rfl, hl2, hb2⟩)
              have hM2 := (HM.out.drew hSw).grow hSw hb2
              obtain ⟨w3, hrun, hM3, hsz3⟩ := hM2.setE (i := m) (by have := HMM.out; omega) (hl2.cap.mono fun q hq => hq.1.elim .inl fun h => .inr ⟨h, hq.2⟩) rfl
              refine hK _ _ ?_
              clear hK K
              (try simp only [Act.put, List.setIfInBounds_toArray, List.set_cons_zero, List.set_cons_succ])
              refine' wpAny_take (i := 14) ?hizz58 (by kernel_rfl) (by kernel_rfl) (by kernel_rfl) ?hqzz58 (Or.inl ⟨?hwzz58, ?hyzz58⟩) ?hrzz58
              case hizz58 => (simp only [List.getElem?_toArray, List.getElem?_cons_succ, List.getElem?_cons_zero]; rfl)
              case hqzz58 => exact fun _ _ _ h => h
              case hwzz58 => rfl
              case hyzz58 => (intro w0; go_simp; try with_reducible rfl)
              (try simp only [Act.put, List.setIfInBounds_toArray, List.set_cons_zero, List.set_cons_succ])
              refine wpAny_ready (rs := [15]) (by kernel_rfl) (by simp) ?_
              refine' AllReady.cons ?hizz59 (fun K hK => ?hrzz59) AllReady.nil
              case hizz59 => (simp only [List.getElem?_toArray, List.getElem?_cons_succ, List.getElem?_cons_zero]; rfl)
              refine want_storeat rfl rfl rfl rfl hrun (hK _ _ ?_)
              clear hK K
              (try simp only [Act.put, List.setIfInBounds_toArray, List.set_cons_zero, List.set_cons_succ])
              refine wpAny_done (by kernel_rfl) ?_ _
              go_wp2_with fail
              go_meet
              exact ⟨_, hM3⟩
          case rest =>
            obtain ⟨P', hM'⟩ := hcut
            have hSw' : S ≤ wc.heap.size := by rw [HS.out]; exact (by have := hM'.below.size; exact this)
            obtain ⟨g3, cp3, a3, b3, d3, hv3, hg3S, q0, q1, q2, hF3⟩ := hM'.getW (i := m) (by have := HMM.out; omega)
            obtain ⟨rfl, rfl⟩ : g2 = g3 ∧ cpW = cp3 := by injection hv3 with a b c; injection a with a; injection a with a; exact ⟨a, c⟩
            obtain ⟨g4, cp4, a4, b4, d4, hv4, hg4S, r0, r1, r2, hF4⟩ := hM'.getW (i := m + 1) (by have := HMM.out; omega)
            obtain ⟨rfl, rfl⟩ : g2 = g4 ∧ cpW = cp4 := by injection hv4 with a b c; injection a with a; injection a with a; exact ⟨a, c⟩
            have HM' := Lib.hid hM'
            have hwm := wt_le (st := st) (i := m) (by have := HMM.out; omega)
            have hwm2 := wt_le (st := st) (i := m + 1) (by have := HMM.out; omega)
            have hkW := rjoin_any (fltO (st.getD m none)) (fltO (st.getD (m + 1) none)) a3 b3 d3 a4 b4 d4 _ (hF3.next ((Below.refl _ _).drew)) (hF4.next ((Below.refl _ _).drew)) (by unfold wt at hwm hwm2; omega) (by unfold wt at hwm hwm2; omega) (by unfold wt at hwm hwm2; omega)
            clear hM' hF3 hF4 hv3 hv4 hc hc'
            go_upto_region 13 with fail
            go_cut [] from 9 to 141 (fun wx => ∃ P'', MSt S P'' (.slice (some ⟨g, 0, none⟩) (List.length st) cpE) (.slice (some ⟨g2, 0, none⟩) (List.length st) cpW) (st.set m (joinT (st.getD m none) (st.getD (m + 1) none))) (st.set m (joinT (st.getD m none) (st.getD (m + 1) none))) w1 wx)
            case first =>
              refine wp_region_any (by kernel_rfl) ?_
              refine' wpAny_take (i := 0) ?hizz61 (by kernel_rfl) (by kernel_rfl) (by kernel_rfl) ?hqzz61 (Or.inl ⟨?hwzz61, ?hyzz61⟩) ?hrzz61
              case hizz61 => (simp only [List.getElem?_toArray, List.getElem?_cons_succ, List.getElem?_cons_zero]; rfl)
              case hqzz61 => exact fun _ _ _ h => h
              case hwzz61 => rfl
              case hyzz61 => (intro w0; go_simp; try with_reducible rfl)
              (try simp only [Act.put, List.setIfInBounds_toArray, List.set_cons_zero, List.set_cons_succ])
              refine' wpAny_take (i := 1) ?hizz62 (by kernel_rfl) (by kernel_rfl) (by kernel_rfl) ?hqzz62 (Or.inl ⟨?hwzz62, ?hyzz62⟩) ?hrzz62
              case hizz62 => (simp only [List.getElem?_toArray, List.getElem?_cons_succ, List.getElem?_cons_zero]; rfl)
              case hqzz62 => exact fun _ _ _ h => h
              case hwzz62 => rfl
              case hyzz62 => (intro w0; go_simp; try with_reducible rfl)
              (try simp only [Act.put, List.setIfInBounds_toArray, List.set_cons_zero, List.set_cons_succ])
              refine' wpAny_take (i := 2) ?hizz63 (by kernel_rfl) (by kernel_rfl) (by kernel_rfl) ?hqzz63 (Or.inl ⟨?hwzz63, ?hyzz63⟩) ?hrzz63
              case hizz63 => (simp only [List.getElem?_toArray, List.getElem?_cons_succ, List.getElem?_cons_zero]; rfl)
              case hqzz63 => exact fun _ _ _ h => h
              case hwzz63 => rfl
              case hyzz63 => (intro w0; go_simp; try with_reducible rfl)
              (try simp only [Act.put, List.setIfInBounds_toArray, List.set_cons_zero, List.set_cons_succ])
              refine' wpAny_take (i := 3) ?hizz64 (by kernel_rfl) (by kernel_rfl) (by kernel_rfl) ?hqzz64 (Or.inl ⟨?hwzz64, ?hyzz64⟩) ?hrzz64
              case hizz64 => (simp only [List.getElem?_toArray, List.getElem?_cons_succ, List.getElem?_cons_zero]; rfl)
              case hqzz64 => exact fun _ _ _ h => h
              case hwzz64 => rfl
              case hyzz64 => (intro w0; go_simp; try with_reducible rfl)
              (try simp only [Act.put, List.setIfInBounds_toArray, List.set_cons_zero, List.set_cons_succ])
              refine' wpAny_take (i := 4) ?hizz65 (by kernel_rfl) (by kernel_rfl) (by kernel_rfl) ?hqzz65 (Or.inl ⟨?hwzz65, ?hyzz65⟩) ?hrzz65
              case hizz65 => (simp only [List.getElem?_toArray, List.getElem?_cons_succ, List.getElem?_cons_zero]; rfl)
              case hqzz65 => exact fun _ _ _ h => h
              case hwzz65 => rfl
              case hyzz65 => (intro w0; go_simp; try with_reducible rfl)
              (try simp only [Act.put, List.setIfInBounds_toArray, List.set_cons_zero, List.set_cons_succ])
              refine' wpAny_take (i := 5) ?hizz66 (by kernel_rfl) (by kernel_rfl) (by kernel_rfl) ?hqzz66 (Or.inl ⟨?hwzz66, ?hyzz66⟩) ?hrzz66
              case hizz66 => (simp only [List.getElem?_toArray, List.getElem?_cons_succ, List.getElem?_cons_zero]; rfl)
              case hqzz66 => exact fun _ _ _ h => h
              case hwzz66 => rfl
              case hyzz66 => (intro w0; go_simp; try with_reducible rfl)
              (try simp only [Act.put, List.setIfInBounds_toArray, List.set_cons_zero, List.set_cons_succ])
              refine' wpAny_take (i := 6) ?hizz67 (by kernel_rfl) (by kernel_rfl) (by kernel_rfl) ?hqzz67 (Or.inl ⟨?hwzz67, ?hyzz67⟩) ?hrzz67
              case hizz67 => (simp only [List.getElem?_toArray, List.getElem?_cons_succ, List.getElem?_cons_zero]; rfl)
              case hqzz67 => exact fun _ _ _ h => h
              case hwzz67 => rfl
              case hyzz67 => (intro w0; go_simp; try with_reducible rfl)
              (try simp only [Act.put, List.setIfInBounds_toArray, List.set_cons_zero, List.set_cons_succ])
              refine' wpAny_take (i := 8) ?hizz68 (by kernel_rfl) (by kernel_rfl) (by kernel_rfl) ?hqzz68 (Or.inl ⟨?hwzz68, ?hyzz68⟩) ?hrzz68
              case hizz68 => (simp only [List.getElem?_toArray, List.getElem?_cons_succ, List.getElem?_cons_zero]; rfl)
              case hqzz68 => exact fun _ _ _ h => h
              case hwzz68 => rfl
              case hyzz68 => (intro w0; go_simp; try with_reducible rfl)
              (try simp only [Act.put, List.setIfInBounds_toArray, List.set_cons_zero, List.set_cons_succ])
              refine' wpAny_take (i := 9) ?hizz69 (by kernel_rfl) (by kernel_rfl) (by kernel_rfl) ?hqzz69 (Or.inl ⟨?hwzz69, ?hyzz69⟩) ?hrzz69
              case hizz69 => (simp only [List.getElem?_toArray, List.getElem?_cons_succ, List.getElem?_cons_zero]; rfl)
              case hqzz69 => exact fun _ _ _ h => h
              case hwzz69 => rfl
              case hyzz69 => (intro w0; go_simp; try with_reducible rfl)
              (try simp only [Act.put, List.setIfInBounds_toArray, List.set_cons_zero, List.set_cons_succ])
              refine' wpAny_take (i := 10) ?hizz70 (by kernel_rfl) (by kernel_rfl) (by kernel_rfl) ?hqzz70 (Or.inl ⟨?hwzz70, ?hyzz70⟩) ?hrzz70
              case hizz70 => (simp only [List.getElem?_toArray, List.getElem?_cons_succ, List.getElem?_cons_zero]; rfl)
              case hqzz70 => exact fun _ _ _ h => h
              case hwzz70 => rfl
              case hyzz70 => (intro w0; go_simp; try with_reducible rfl)
              (try simp only [Act.put, List.setIfInBounds_toArray, List.set_cons_zero, List.set_cons_succ])
              refine' wpAny_take (i := 11) ?hizz71 (by kernel_rfl) (by kernel_rfl) (by kernel_rfl) ?hqzz71 (Or.inl ⟨?hwzz71, ?hyzz71⟩) ?hrzz71
              case hizz71 => (simp only [List.getElem?_toArray, List.getElem?_cons_succ, List.getElem?_cons_zero]; rfl)
              case hqzz71 => exact fun _ _ _ h => h
              case hwzz71 => rfl
              case hyzz71 => (intro w0; go_simp; try with_reducible rfl)
              (try simp only [Act.put, List.setIfInBounds_toArray, List.set_cons_zero, List.set_cons_succ])
              refine wpAny_ready (rs := [7, 12]) (by kernel_rfl) (by simp) ?_
              refine' AllReady.cons ?hazz80 (fun K hK => ?hczz80) (AllReady.cons ?hbzz80 (fun K hK => ?hdzz80) AllReady.nil)
              case hazz80 => (simp only [List.getElem?_toArray, List.getElem?_cons_succ, List.getElem?_cons_zero]; rfl)
              case hbzz80 => (simp only [List.getElem?_toArray, List.getElem?_cons_succ, List.getElem?_cons_zero]; rfl)
              case hczz80 =>
                go_simp
                refine hK _ _ ?_
                clear hK K
                (try simp only [Act.put, List.setIfInBounds_toArray, List.set_cons_zero, List.set_cons_succ])
                refine wpAny_ready (rs := [12]) (by kernel_rfl) (by simp) ?_
                refine' AllReady.cons ?hizz72 (fun K hK => ?hrzz72) AllReady.nil
                case hizz72 => (simp only [List.getElem?_toArray, List.getElem?_cons_succ, List.getElem?_cons_zero]; rfl)
                go_simp
                refine hK _ _ ?_
                clear hK K
                (try simp only [Act.put, List.setIfInBounds_toArray, List.set_cons_zero, List.set_cons_succ])
                refine wpAny_ready (rs := [13]) (by kernel_rfl) (by simp) ?_
                refine' AllReady.cons ?hizz73 (fun K hK => ?hrzz73) AllReady.nil
                case hizz73 => (simp only [List.getElem?_toArray, List.getElem?_cons_succ, List.getElem?_cons_zero]; rfl)
                go_simp
                (refine hkW.mono ?_; rintro x w2 ⟨a9, b9, d9, rfl, hF9, hb2⟩)
                have hM2 := (HM'.out.drew hSw').grow hSw' hb2
                rw [← flt_join] at hF9
                obtain ⟨w3, hrun, hM3, hsz3⟩ := hM2.setW (i := m) (by have := HMM.out; omega) (hF9.cap.mono fun q hq => hq.1.elim .inl fun h => .inr ⟨h, hq.2⟩) rfl
                refine hK _ _ ?_
                clear hK K
                (try simp only [Act.put, List.setIfInBounds_toArray, List.set_cons_zero, List.set_cons_succ])
                refine' wpAny_take (i := 14) ?hizz74 (by kernel_rfl) (by kernel_rfl) (by kernel_rfl) ?hqzz74 (Or.inl ⟨?hwzz74, ?hyzz74⟩) ?hrzz74
                case hizz74 => (simp only [List.getElem?_toArray, List.getElem?_cons_succ, List.getElem?_cons_zero]; rfl)
                case hqzz74 => exact fun _ _ _ h => h
                case hwzz74 => rfl
                case hyzz74 => (intro w0; go_simp; try with_reducible rfl)
                (try simp only [Act.put, List.setIfInBounds_toArray, List.set_cons_zero, List.set_cons_succ])
                refine wpAny_ready (rs := [15]) (by kernel_rfl) (by simp) ?_
                refine' AllReady.cons ?hizz75 (fun K hK => ?hrzz75) AllReady.nil
                case hizz75 => (simp only [List.getElem?_toArray, List.getElem?_cons_succ, List.getElem?_cons_zero]; rfl)
                refine want_storeat rfl rfl rfl rfl hrun (hK _ _ ?_)
                clear hK K
                (try simp only [Act.put, List.setIfInBounds_toArray, List.set_cons_zero, List.set_cons_succ])
                refine wpAny_done (by kernel_rfl) ?_ _
                go_wp2_with fail
                go_meet
                exact ⟨_, hM3⟩
              case hdzz80 =>
                go_simp
                refine hK _ _ ?_
                clear hK K
                (try simp only [Act.put, List.setIfInBounds_toArray, List.set_cons_zero, List.set_cons_succ])
                refine wpAny_ready (rs := [7]) (by kernel_rfl) (by simp) ?_
                refine' AllReady.cons ?hizz76 (fun K hK => ?hrzz76) AllReady.nil
                case hizz76 => (simp only [List.getElem?_toArray, List.getElem?_cons_succ, List.getElem?_cons_zero]; rfl)
                go_simp
                refine hK _ _ ?_
                clear hK K
                (try simp only [Act.put, List.setIfInBounds_toArray, List.set_cons_zero, List.set_cons_succ])
                refine wpAny_ready (rs := [13]) (by kernel_rfl) (by simp) ?_
                refine' AllReady.cons ?hizz77 (fun K hK => ?hrzz77) AllReady.nil
                case hizz77 => (simp only [List.getElem?_toArray, List.getElem?_cons_succ, List.getElem?_cons_zero]; rfl)
                go_simp
                (refine hkW.mono ?_; rintro x w2 ⟨a9, b9, d9, rfl, hF9, hb2⟩)
                have hM2 := (HM'.out.drew hSw').grow hSw' hb2
                rw [← flt_join] at hF9
                obtain ⟨w3, hrun, hM3, hsz3⟩ := hM2.setW (i := m) (by have := HMM.out; omega) (hF9.cap.mono fun q hq => hq.1.elim .inl fun h => .inr ⟨h, hq.2⟩) rfl
                refine hK _ _ ?_
                clear hK K
                (try simp only [Act.put, List.setIfInBounds_toArray, List.set_cons_zero, List.set_cons_succ])
                refine' wpAny_take (i := 14) ?hizz78 (by kernel_rfl) (by kernel_rfl) (by kernel_rfl) ?hqzz78 (Or.inl ⟨?hwzz78, ?hyzz78⟩) ?hrzz78
                case hizz78 => (simp only [List.getElem?_toArray, List.getElem?_cons_succ, List.getElem?_cons_zero]; rfl)
                case hqzz78 => exact fun _ _ _ h => h
                case hwzz78 => rfl
                case hyzz78 => (intro w0; go_simp; try with_reducible rfl)
                (try simp only [Act.put, List.setIfInBounds_toArray, List.set_cons_zero, List.set_cons_succ])
                refine wpAny_ready (rs := [15]) (by kernel_rfl) (by simp) ?_
                refine' AllReady.cons ?hizz79 (fun K hK => ?hrzz79) AllReady.nil
                case hizz79 => (simp only [List.getElem?_toArray, List.getElem?_cons_succ, List.getElem?_cons_zero]; rfl)
                refine want_storeat rfl rfl rfl rfl hrun (hK _ _ ?_)
                clear hK K
                (try simp only [Act.put, List.setIfInBounds_toArray, List.set_cons_zero, List.set_cons_succ])
                refine wpAny_done (by kernel_rfl) ?_ _
                go_wp2_with fail
                go_meet
                exact ⟨_, hM3⟩
            case rest =>
              obtain ⟨P'', hM''⟩ := hcut
              obtain ⟨st', hst'⟩ : ∃ l, l = st.set m (joinT (st.getD m none) (st.getD (m + 1) none)) := ⟨_, rfl⟩
              have hts := tot_set (st := st) (i := m) (joinT (st.getD m none) (st.getD (m + 1) none)) (by have := HMM.out; omega)
              have hww := wt_join (st.getD m none) (st.getD (m + 1) none)
              have hl' : st'.length = m + 1 + 1 := by rw [hst', List.length_set]; exact HMM.out
              have hlast : st'.getD (m + 1) none = st.getD (m + 1) none := by
                rw [hst', getD_set _ _ _ _ _ (by have := HMM.out; omega), if_neg (by omega)]
              have htc := tot_cut hl'
              rw [← hst'] at hM'' hts
              rw [hlast] at htc
              have hcE : m + 1 ≤ cpE := by have := hM''.capE; omega
              have hcW : m + 1 ≤ cpW := by have := hM''.capW; omega
              have hs1 : ∀ u : World, (Instr.sliceAt 53 (.slice (some ⟨g, 0, none⟩) (m + 2) cpE) none (some (.int .i64 ((m : Int) + 1))) none).run Tryd.prog u = .ok (.slice (some ⟨g, 0, none⟩) (m + 1) cpE) u := fun u => by
                have := run_cut Tryd.underlying53 info_err' (g := g) (n := m + 2) hcE u
                push_cast at this
                exact this
              have hs2 : ∀ u : World, (Instr.sliceAt 54 (.slice (some ⟨g2, 0, none⟩) (m + 2) cpW) none (some (.int .i64 ((m : Int) + 1))) none).run Tryd.prog u = .ok (.slice (some ⟨g2, 0, none⟩) (m + 1) cpW) u := fun u => by
                have := run_cut Tryd.underlying54 (c := 3) (by rw [info_flt]) (g := g2) (n := m + 2) hcW u
                push_cast at this
                exact this
              have hM3 := (hM''.cutE (m + 1) (by omega)).cutW (m + 1) (by omega)
              have hl3 : (st'.take (m + 1)).length = m + 1 := by rw [List.length_take]; omega
              have HM3 := Lib.hid hM3
              have HTC := Lib.hid htc
              have HTS := Lib.hid hts
              have HWW := Lib.hid hww
              have HL3 := Lib.hid hl3
              clear hM'' hM3 hst' hlast hts htc hww hl' hl3 hcE hcW
              go_wp2_with (first
                | ((with_reducible refine step_slice (t := 53) (x := .tmp 68) (lo := none) (hi := (some (.tmp 70))) (vx := ?pxc1) (v := ?pvc1) (vlo := ?pac1) (vhi := ?pbc1) ?pgc1 ?poc1 ?ppc1 ?pqc1 ?psc1 ?prc1 ?phc1); (case pgc1 => rfl); (case poc1 => rfl); (case ppc1 => rfl); (case pqc1 => rfl); (case psc1 => rfl); (case prc1 => exact hs1 _))
                | ((with_reducible refine step_slice (t := 54) (x := .tmp 72) (lo := none) (hi := (some (.tmp 74))) (vx := ?pxc2) (v := ?pvc2) (vlo := ?pac2) (vhi := ?pbc2) ?pgc2 ?poc2 ?ppc2 ?pqc2 ?psc2 ?prc2 ?phc2); (case pgc2 => rfl); (case poc2 => rfl); (case ppc2 => rfl); (case pqc2 => rfl); (case psc2 => rfl); (case prc2 => exact hs2 _)))
              go_roundw
              case rel => exact ⟨k + 1, st'.take (m + 1), P'', hkn, by omega, by push_cast; rfl, HM3.out, by have := HTC.out; have := HTS.out; have := HWW.out; omega, by rw [HL3.out]; have := HMM.out; omega⟩
              case measure => simp [intOf]; omega
    · clear hSw
      by_cases hkn : k < n
      · have kI : (k : Int) < (n : Int) := by omega
        have k3 : (30 : Int) ≤ (k : Int) := by omega
        clear hlt
        by_cases hz : st.length = 0
        · have hI0 : (st.length : Int) = 0 := by omega
          have hRw : Blk wr R 29 #[.slice none 0 0, .slice none 0 0, .slice none 0 0] := HB.out.below hM.below (by have := HSR.out; omega)
          have HM := Lib.hid hM
          clear hM hz
          go_wp2_with ((with_reducible refine step_store_flt (x := .tmp 3) (y := .tmp 145) (g := ?qrf1) (a1 := ?qaf1) (b1 := ?qbf1) (c1 := ?qcf1) (o1 := ?qdf1) (o2 := ?qef1) (o3 := ?qff1) ?qgf1 ?qof1 ?qxf1 ?qyf1 ?qzf1 ?qwf1 ?qhf1); (case qgf1 => rfl); (case qof1 => rfl); (case qxf1 => rfl); (case qyf1 => rfl); (case qzf1 => exact hRw); (case qwf1 => (simp [Value.oneCell'])))
          have hst2 := setRow_heap _ R _ #[.slice none 0 0, .slice none 0 0, .slice none 0 0] _ _ hRw
          refine bodyPost_ret (results_made rfl _ _ R _ _ _ rfl hst2) rfl ⟨.nilIface, _, _, _, none, fun _ => False, rfl, rfl, FRd.nil _ _, Nat.zero_le _, fun _ h => h.elim, ?_⟩
          exact below_row (HB1.out.trans (HM.out.below.mono (by have := HB1.out.size; rw [HS.out]; exact this))) (by rw [HR.out]; exact Nat.le_refl _) _
        · obtain ⟨m, hm⟩ : ∃ m, st.length = m + 1 := ⟨st.length - 1, by omega⟩
          obtain ⟨g, cp, xv, hv, hgS, hc, hx⟩ := hM.getE (i := m) (by omega)
          obtain ⟨rfl, rfl⟩ : adE = some ⟨g, 0, none⟩ ∧ cpE = cp := by injection hv with a b c; exact ⟨a, c⟩
          obtain ⟨g2, cp2, a2, b2, d2, hv2, hg2S, f0, f1, f2, hF⟩ := hM.getW (i := m) (by omega)
          obtain ⟨rfl, rfl⟩ : adW = some ⟨g2, 0, none⟩ ∧ cpW = cp2 := by injection hv2 with a b c; exact ⟨a, c⟩
          have hRw : Blk wr.drew R 29 #[.slice none 0 0, .slice none 0 0, .slice none 0 0] := (HB.out.below hM.below (by have := HSR.out; omega)).below ((Below.refl _ _).drew) (HB.out.below hM.below (by have := HSR.out; omega)).lt
          have hws := wt_le (st := st) (i := m) (by omega)
          have hwt : wt (st.getD m none) ≤ 60 := by omega
          have hone : ∀ u ∈ [a2, b2, d2], u.oneCell' = true := by
            obtain ⟨y1, z1, rfl⟩ := hF.nums.form
            obtain ⟨y2, z2, rfl⟩ := hF.ops.form
            obtain ⟨rv, r1, -⟩ := hF.reps
            obtain ⟨y3, z3, rfl⟩ := r1.form
            simp [Value.oneCell']
          have hrun := run_store_k (ty := 29) (v := .agg #[a2, b2, d2]) (y := [a2, b2, d2]) (off := 0) hRw rfl (by rw [info_flt]; rfl) hone (by simp)
          have hst2 := setRow_heap _ R _ #[a2, b2, d2] _ _ hRw
          have ht2 := turn_row wr.drew R #[a2, b2, d2]
          have hend : MadeAns w (wr.drew.setRow R #[a2, b2, d2]) (.returned (.tuple #[xv, .agg #[a2, b2, d2]])) := by
            have hSR := HSR.out
            have hRR := HR.out
            refine ⟨xv, _, _, _, st.getD m none, P, rfl, ?_, ?_, hwt, ?_, ?_⟩
            · exact (hx.next ((Below.refl _ _).drew)).turn ht2 fun q hq _ => by have := (hM.pS q hq).1; omega
            · exact (hF.next ((Below.refl _ _).drew)).turn ht2 fun q hq => by have := (hM.pS q hq).1; omega
            · exact fun q hq => ⟨by have := (hM.pS q hq).1; omega, Nat.lt_of_lt_of_le (hM.pS q hq).2 ht2.size⟩
            · exact below_row (HB1.out.trans ((hM.below.mono (by have := HB1.out.size; rw [HS.out]; exact this)).drew)) (by omega) _
          have m0 : (0 : Int) ≤ (m : Int) := Int.natCast_nonneg _
          have hwj : IntKind.i64.wrap (m : Int) = (m : Int) := by rw [IntKind.wrap_i64]; omega
          have hi1 : (m : Int) < (m : Int) + 1 := by omega
          clear hz hv hv2 hM hx hF hone hws hwt ht2
          have HMM := Lib.hid hm
          rw [hm]
          clear hm
          go_upto_region 28 with fail
          refine wp_region_any (by kernel_rfl) ?_
          refine' wpAny_take (i := 0) ?hizz81 (by kernel_rfl) (by kernel_rfl) (by kernel_rfl) ?hqzz81 (Or.inl ⟨?hwzz81, ?hyzz81⟩) ?hrzz81
          case hizz81 => (simp only [List.getElem?_toArray, List.getElem?_cons_succ, List.getElem?_cons_zero]; rfl)
          case hqzz81 => exact fun _ _ _ h => h
          case hwzz81 => rfl
          case hyzz81 => (intro w0; go_simp; try with_reducible rfl)
          (try simp only [Act.put, List.setIfInBounds_toArray, List.set_cons_zero, List.set_cons_succ])
          refine' wpAny_take (i := 1) ?hizz82 (by kernel_rfl) (by kernel_rfl) (by kernel_rfl) ?hqzz82 (Or.inl ⟨?hwzz82, ?hyzz82⟩) ?hrzz82
          case hizz82 => (simp only [List.getElem?_toArray, List.getElem?_cons_succ, List.getElem?_cons_zero]; rfl)
          case hqzz82 => exact fun _ _ _ h => h
          case hwzz82 => rfl
          case hyzz82 => (intro w0; go_simp; try with_reducible rfl)
          (try simp only [Act.put, List.setIfInBounds_toArray, List.set_cons_zero, List.set_cons_succ])
          refine' wpAny_take (i := 2) ?hizz83 (by kernel_rfl) (by kernel_rfl) (by kernel_rfl) ?hqzz83 (Or.inl ⟨?hwzz83, ?hyzz83⟩) ?hrzz83
          case hizz83 => (simp only [List.getElem?_toArray, List.getElem?_cons_succ, List.getElem?_cons_zero]; rfl)
          case hqzz83 => exact fun _ _ _ h => h
          case hwzz83 => rfl
          case hyzz83 => (intro w0; go_simp; try with_reducible rfl)
          (try simp only [Act.put, List.setIfInBounds_toArray, List.set_cons_zero, List.set_cons_succ])
          refine' wpAny_take (i := 3) ?hizz84 (by kernel_rfl) (by kernel_rfl) (by kernel_rfl) ?hqzz84 (Or.inl ⟨?hwzz84, ?hyzz84⟩) ?hrzz84
          case hizz84 => (simp only [List.getElem?_toArray, List.getElem?_cons_succ, List.getElem?_cons_zero]; rfl)
          case hqzz84 => exact fun _ _ _ h => h
          case hwzz84 => rfl
          case hyzz84 => (intro w0; go_simp; try with_reducible rfl)
          (try simp only [Act.put, List.setIfInBounds_toArray, List.set_cons_zero, List.set_cons_succ])
          refine' wpAny_take (i := 4) ?hizz85 (by kernel_rfl) (by kernel_rfl) (by kernel_rfl) ?hqzz85 (Or.inl ⟨?hwzz85, ?hyzz85⟩) ?hrzz85
          case hizz85 => (simp only [List.getElem?_toArray, List.getElem?_cons_succ, List.getElem?_cons_zero]; rfl)
          case hqzz85 => exact fun _ _ _ h => h
          case hwzz85 => rfl
          case hyzz85 => (intro w0; go_simp; try with_reducible rfl)
          (try simp only [Act.put, List.setIfInBounds_toArray, List.set_cons_zero, List.set_cons_succ])
          refine' wpAny_take (i := 6) ?hizz86 (by kernel_rfl) (by kernel_rfl) (by kernel_rfl) ?hqzz86 (Or.inl ⟨?hwzz86, ?hyzz86⟩) ?hrzz86
          case hizz86 => (simp only [List.getElem?_toArray, List.getElem?_cons_succ, List.getElem?_cons_zero]; rfl)
          case hqzz86 => exact fun _ _ _ h => h
          case hwzz86 => rfl
          case hyzz86 => (intro w0; go_simp; try with_reducible rfl)
          (try simp only [Act.put, List.setIfInBounds_toArray, List.set_cons_zero, List.set_cons_succ])
          refine' wpAny_take (i := 7) ?hizz87 (by kernel_rfl) (by kernel_rfl) (by kernel_rfl) ?hqzz87 (Or.inl ⟨?hwzz87, ?hyzz87⟩) ?hrzz87
          case hizz87 => (simp only [List.getElem?_toArray, List.getElem?_cons_succ, List.getElem?_cons_zero]; rfl)
          case hqzz87 => exact fun _ _ _ h => h
          case hwzz87 => rfl
          case hyzz87 => (intro w0; go_simp; try with_reducible rfl)
          (try simp only [Act.put, List.setIfInBounds_toArray, List.set_cons_zero, List.set_cons_succ])
          refine' wpAny_take (i := 8) ?hizz88 (by kernel_rfl) (by kernel_rfl) (by kernel_rfl) ?hqzz88 (Or.inl ⟨?hwzz88, ?hyzz88⟩) ?hrzz88
          case hizz88 => (simp only [List.getElem?_toArray, List.getElem?_cons_succ, List.getElem?_cons_zero]; rfl)
          case hqzz88 => exact fun _ _ _ h => h
          case hwzz88 => rfl
          case hyzz88 => (intro w0; go_simp; try with_reducible rfl)
          (try simp only [Act.put, List.setIfInBounds_toArray, List.set_cons_zero, List.set_cons_succ])
          refine' wpAny_take (i := 9) ?hizz89 (by kernel_rfl) (by kernel_rfl) (by kernel_rfl) ?hqzz89 (Or.inl ⟨?hwzz89, ?hyzz89⟩) ?hrzz89
          case hizz89 => (simp only [List.getElem?_toArray, List.getElem?_cons_succ, List.getElem?_cons_zero]; rfl)
          case hqzz89 => exact fun _ _ _ h => h
          case hwzz89 => rfl
          case hyzz89 => (intro w0; go_simp; try with_reducible rfl)
          (try simp only [Act.put, List.setIfInBounds_toArray, List.set_cons_zero, List.set_cons_succ])
          refine' wpAny_take (i := 10) ?hizz90 (by kernel_rfl) (by kernel_rfl) (by kernel_rfl) ?hqzz90 (Or.inl ⟨?hwzz90, ?hyzz90⟩) ?hrzz90
          case hizz90 => (simp only [List.getElem?_toArray, List.getElem?_cons_succ, List.getElem?_cons_zero]; rfl)
          case hqzz90 => exact fun _ _ _ h => h
          case hwzz90 => rfl
          case hyzz90 => (intro w0; go_simp; try with_reducible rfl)
          (try simp only [Act.put, List.setIfInBounds_toArray, List.set_cons_zero, List.set_cons_succ])
          refine wpAny_ready (rs := [5, 11]) (by kernel_rfl) (by simp) ?_
          refine' AllReady.cons ?hazz97 (fun K hK => ?hczz97) (AllReady.cons ?hbzz97 (fun K hK => ?hdzz97) AllReady.nil)
          case hazz97 => (simp only [List.getElem?_toArray, List.getElem?_cons_succ, List.getElem?_cons_zero]; rfl)
          case hbzz97 => (simp only [List.getElem?_toArray, List.getElem?_cons_succ, List.getElem?_cons_zero]; rfl)
          case hczz97 =>
            go_simp
            refine hK _ _ ?_
            clear hK K
            (try simp only [Act.put, List.setIfInBounds_toArray, List.set_cons_zero, List.set_cons_succ])
            refine' wpAny_take (i := 12) ?hizz91 (by kernel_rfl) (by kernel_rfl) (by kernel_rfl) ?hqzz91 (Or.inl ⟨?hwzz91, ?hyzz91⟩) ?hrzz91
            case hizz91 => (simp only [List.getElem?_toArray, List.getElem?_cons_succ, List.getElem?_cons_zero]; rfl)
            case hqzz91 => exact fun _ _ _ h => h
            case hwzz91 => rfl
            case hyzz91 => (intro w0; go_simp; try with_reducible rfl)
            (try simp only [Act.put, List.setIfInBounds_toArray, List.set_cons_zero, List.set_cons_succ])
            refine wpAny_ready (rs := [11]) (by kernel_rfl) (by simp) ?_
            refine' AllReady.cons ?hizz92 (fun K hK => ?hrzz92) AllReady.nil
            case hizz92 => (simp only [List.getElem?_toArray, List.getElem?_cons_succ, List.getElem?_cons_zero]; rfl)
            go_simp
            refine hK _ _ ?_
            clear hK K
            (try simp only [Act.put, List.setIfInBounds_toArray, List.set_cons_zero, List.set_cons_succ])
            refine wpAny_ready (rs := [13]) (by kernel_rfl) (by simp) ?_
            refine' AllReady.cons ?hizz93 (fun K hK => ?hrzz93) AllReady.nil
            case hizz93 => (simp only [List.getElem?_toArray, List.getElem?_cons_succ, List.getElem?_cons_zero]; rfl)
            refine want_storeat rfl rfl rfl rfl hrun (hK _ _ ?_)
            clear hK K
            (try simp only [Act.put, List.setIfInBounds_toArray, List.set_cons_zero, List.set_cons_succ])
            refine wpAny_done (by kernel_rfl) ?_ _
            go_wp2_with fail
            refine bodyPost_ret (results_made (q := 2) (p := 3) rfl _ _ R _ _ _ rfl hst2) rfl ?_
            exact hend
          case hdzz97 =>
            go_simp
            refine hK _ _ ?_
            clear hK K
            (try simp only [Act.put, List.setIfInBounds_toArray, List.set_cons_zero, List.set_cons_succ])
            refine wpAny_ready (rs := [5]) (by kernel_rfl) (by simp) ?_
            refine' AllReady.cons ?hizz94 (fun K hK => ?hrzz94) AllReady.nil
            case hizz94 => (simp only [List.getElem?_toArray, List.getElem?_cons_succ, List.getElem?_cons_zero]; rfl)
            go_simp
            refine hK _ _ ?_
            clear hK K
            (try simp only [Act.put, List.setIfInBounds_toArray, List.set_cons_zero, List.set_cons_succ])
            refine' wpAny_take (i := 12) ?hizz95 (by kernel_rfl) (by kernel_rfl) (by kernel_rfl) ?hqzz95 (Or.inl ⟨?hwzz95, ?hyzz95⟩) ?hrzz95
            case hizz95 => (simp only [List.getElem?_toArray, List.getElem?_cons_succ, List.getElem?_cons_zero]; rfl)
            case hqzz95 => exact fun _ _ _ h => h
            case hwzz95 => rfl
            case hyzz95 => (intro w0; go_simp; try with_reducible rfl)
            (try simp only [Act.put, List.setIfInBounds_toArray, List.set_cons_zero, List.set_cons_succ])
            refine wpAny_ready (rs := [13]) (by kernel_rfl) (by simp) ?_
            refine' AllReady.cons ?hizz96 (fun K hK => ?hrzz96) AllReady.nil
            case hizz96 => (simp only [List.getElem?_toArray, List.getElem?_cons_succ, List.getElem?_cons_zero]; rfl)
            refine want_storeat rfl rfl rfl rfl hrun (hK _ _ ?_)
            clear hK K
            (try simp only [Act.put, List.setIfInBounds_toArray, List.set_cons_zero, List.set_cons_succ])
            refine wpAny_done (by kernel_rfl) ?_ _
            go_wp2_with fail
            refine bodyPost_ret (results_made (q := 2) (p := 3) rfl _ _ R _ _ _ rfl hst2) rfl ?_
            exact hend
      · have kI : (n : Int) ≤ (k : Int) := by omega
        clear hlt
        by_cases hz : st.length = 0
        · have hI0 : (st.length : Int) = 0 := by omega
          have hRw : Blk wr R 29 #[.slice none 0 0, .slice none 0 0, .slice none 0 0] := HB.out.below hM.below (by have := HSR.out; omega)
          have HM := Lib.hid hM
          clear hM hz
          go_wp2_with ((with_reducible refine step_store_flt (x := .tmp 3) (y := .tmp 145) (g := ?qrf2) (a1 := ?qaf2) (b1 := ?qbf2) (c1 := ?qcf2) (o1 := ?qdf2) (o2 := ?qef2) (o3 := ?qff2) ?qgf2 ?qof2 ?qxf2 ?qyf2 ?qzf2 ?qwf2 ?qhf2); (case qgf2 => rfl); (case qof2 => rfl); (case qxf2 => rfl); (case qyf2 => rfl); (case qzf2 => exact hRw); (case qwf2 => (simp [Value.oneCell'])))
          have hst2 := setRow_heap _ R _ #[.slice none 0 0, .slice none 0 0, .slice none 0 0] _ _ hRw
          refine bodyPost_ret (results_made rfl _ _ R _ _ _ rfl hst2) rfl ⟨.nilIface, _, _, _, none, fun _ => False, rfl, rfl, FRd.nil _ _, Nat.zero_le _, fun _ h => h.elim, ?_⟩
          exact below_row (HB1.out.trans (HM.out.below.mono (by have := HB1.out.size; rw [HS.out]; exact this))) (by rw [HR.out]; exact Nat.le_refl _) _
        · obtain ⟨m, hm⟩ : ∃ m, st.length = m + 1 := ⟨st.length - 1, by omega⟩
          obtain ⟨g, cp, xv, hv, hgS, hc, hx⟩ := hM.getE (i := m) (by omega)
          obtain ⟨rfl, rfl⟩ : adE = some ⟨g, 0, none⟩ ∧ cpE = cp := by injection hv with a b c; exact ⟨a, c⟩
          obtain ⟨g2, cp2, a2, b2, d2, hv2, hg2S, f0, f1, f2, hF⟩ := hM.getW (i := m) (by omega)
          obtain ⟨rfl, rfl⟩ : adW = some ⟨g2, 0, none⟩ ∧ cpW = cp2 := by injection hv2 with a b c; exact ⟨a, c⟩
          have hRw : Blk wr.drew R 29 #[.slice none 0 0, .slice none 0 0, .slice none 0 0] := (HB.out.below hM.below (by have := HSR.out; omega)).below ((Below.refl _ _).drew) (HB.out.below hM.below (by have := HSR.out; omega)).lt
          have hws := wt_le (st := st) (i := m) (by omega)
          have hwt : wt (st.getD m none) ≤ 60 := by omega
          have hone : ∀ u ∈ [a2, b2, d2], u.oneCell' = true := by
            obtain ⟨y1, z1, rfl⟩ := hF.nums.form
            obtain ⟨y2, z2, rfl⟩ := hF.ops.form
            obtain ⟨rv, r1, -⟩ := hF.reps
            obtain ⟨y3, z3, rfl⟩ := r1.form
            simp [Value.oneCell']
          have hrun := run_store_k (ty := 29) (v := .agg #[a2, b2, d2]) (y := [a2, b2, d2]) (off := 0) hRw rfl (by rw [info_flt]; rfl) hone (by simp)
          have hst2 := setRow_heap _ R _ #[a2, b2, d2] _ _ hRw
          have ht2 := turn_row wr.drew R #[a2, b2, d2]
          have hend : MadeAns w (wr.drew.setRow R #[a2, b2, d2]) (.returned (.tuple #[xv, .agg #[a2, b2, d2]])) := by
            have hSR := HSR.out
            have hRR := HR.out
            refine ⟨xv, _, _, _, st.getD m none, P, rfl, ?_, ?_, hwt, ?_, ?_⟩
            · exact (hx.next ((Below.refl _ _).drew)).turn ht2 fun q hq _ => by have := (hM.pS q hq).1; omega
            · exact (hF.next ((Below.refl _ _).drew)).turn ht2 fun q hq => by have := (hM.pS q hq).1; omega
            · exact fun q hq => ⟨by have := (hM.pS q hq).1; omega, Nat.lt_of_lt_of_le (hM.pS q hq).2 ht2.size⟩
            · exact below_row (HB1.out.trans ((hM.below.mono (by have := HB1.out.size; rw [HS.out]; exact this)).drew)) (by omega) _
          have m0 : (0 : Int) ≤ (m : Int) := Int.natCast_nonneg _
          have hwj : IntKind.i64.wrap (m : Int) = (m : Int) := by rw [IntKind.wrap_i64]; omega
          have hi1 : (m : Int) < (m : Int) + 1 := by omega
          clear hz hv hv2 hM hx hF hone hws hwt ht2
          have HMM := Lib.hid hm
          rw [hm]
          clear hm
          go_upto_region 28 with fail
          refine wp_region_any (by kernel_rfl) ?_
          refine' wpAny_take (i := 0) ?hizz98 (by kernel_rfl) (by kernel_rfl) (by kernel_rfl) ?hqzz98 (Or.inl ⟨?hwzz98, ?hyzz98⟩) ?hrzz98
          case hizz98 => (simp only [List.getElem?_toArray, List.getElem?_cons_succ, List.getElem?_cons_zero]; rfl)
          case hqzz98 => exact fun _ _ _ h => h
          case hwzz98 => rfl
          case hyzz98 => (intro w0; go_simp; try with_reducible rfl)
          (try simp only [Act.put, List.setIfInBounds_toArray, List.set_cons_zero, List.set_cons_succ])
          refine' wpAny_take (i := 1) ?hizz99 (by kernel_rfl) (by kernel_rfl) (by kernel_rfl) ?hqzz99 (Or.inl ⟨?hwzz99, ?hyzz99⟩) ?hrzz99
          case hizz99 => (simp only [List.getElem?_toArray, List.getElem?_cons_succ, List.getElem?_cons_zero]; rfl)
          case hqzz99 => exact fun _ _ _ h => h
          case hwzz99 => rfl
          case hyzz99 => (intro w0; go_simp; try with_reducible rfl)
          (try simp only [Act.put, List.setIfInBounds_toArray, List.set_cons_zero, List.set_cons_succ])
          refine' wpAny_take (i := 2) ?hizz100 (by kernel_rfl) (by kernel_rfl) (by kernel_rfl) ?hqzz100 (Or.inl ⟨?hwzz100, ?hyzz100⟩) ?hrzz100
          case hizz100 => (simp only [List.getElem?_toArray, List.getElem?_cons_succ, List.getElem?_cons_zero]; rfl)
          case hqzz100 => exact fun _ _ _ h => h
          case hwzz100 => rfl
          case hyzz100 => (intro w0; go_simp; try with_reducible rfl)
          (try simp only [Act.put, List.setIfInBounds_toArray, List.set_cons_zero, List.set_cons_succ])
          refine' wpAny_take (i := 3) ?hizz101 (by kernel_rfl) (by kernel_rfl) (by kernel_rfl) ?hqzz101 (Or.inl ⟨?hwzz101, ?hyzz101⟩) ?hrzz101
          case hizz101 => (simp only [List.getElem?_toArray, List.getElem?_cons_succ, List.getElem?_cons_zero]; rfl)
          case hqzz101 => exact fun _ _ _ h => h
          case hwzz101 => rfl
          case hyzz101 => (intro w0; go_simp; try with_reducible rfl)
          (try simp only [Act.put, List.setIfInBounds_toArray, List.set_cons_zero, List.set_cons_succ])
          refine' wpAny_take (i := 4) ?hizz102 (by kernel_rfl) (by kernel_rfl) (by kernel_rfl) ?hqzz102 (Or.inl ⟨?hwzz102, ?hyzz102⟩) ?hrzz102
          case hizz102 => (simp only [List.getElem?_toArray, List.getElem?_cons_succ, List.getElem?_cons_zero]; rfl)
          case hqzz102 => exact fun _ _ _ h => h
          case hwzz102 => rfl
          case hyzz102 => (intro w0; go_simp; try with_reducible rfl)
          (try simp only [Act.put, List.setIfInBounds_toArray, List.set_cons_zero, List.set_cons_succ])
          refine' wpAny_take (i := 6) ?hizz103 (by kernel_rfl) (by kernel_rfl) (by kernel_rfl) ?hqzz103 (Or.inl ⟨?hwzz103, ?hyzz103⟩) ?hrzz103
          case hizz103 => (simp only [List.getElem?_toArray, List.getElem?_cons_succ, List.getElem?_cons_zero]; rfl)
          case hqzz103 => exact fun _ _ _ h => h
          case hwzz103 => rfl
          case hyzz103 => (intro w0; go_simp; try with_reducible rfl)
          (try simp only [Act.put, List.setIfInBounds_toArray, List.set_cons_zero, List.set_cons_succ])
          refine' wpAny_take (i := 7) ?hizz104 (by kernel_rfl) (by kernel_rfl) (by kernel_rfl) ?hqzz104 (Or.inl ⟨?hwzz104, ?hyzz104⟩) ?hrzz104
          case hizz104 => (simp only [List.getElem?_toArray, List.getElem?_cons_succ, List.getElem?_cons_zero]; rfl)
          case hqzz104 => exact fun _ _ _ h => h
          case hwzz104 => rfl
          case hyzz104 => (intro w0; go_simp; try with_reducible rfl)
          (try simp only [Act.put, List.setIfInBounds_toArray, List.set_cons_zero, List.set_cons_succ])
          refine' wpAny_take (i := 8) ?hizz105 (by kernel_rfl) (by kernel_rfl) (by kernel_rfl) ?hqzz105 (Or.inl ⟨?hwzz105, ?hyzz105⟩) ?hrzz105
          case hizz105 => (simp only [List.getElem?_toArray, List.getElem?_cons_succ, List.getElem?_cons_zero]; rfl)
          case hqzz105 => exact fun _ _ _ h => h
          case hwzz105 => rfl
          case hyzz105 => (intro w0; go_simp; try with_reducible rfl)
          (try simp only [Act.put, List.setIfInBounds_toArray, List.set_cons_zero, List.set_cons_succ])
          refine' wpAny_take (i := 9) ?hizz106 (by kernel_rfl) (by kernel_rfl) (by kernel_rfl) ?hqzz106 (Or.inl ⟨?hwzz106, ?hyzz106⟩) ?hrzz106
          case hizz106 => (simp only [List.getElem?_toArray, List.getElem?_cons_succ, List.getElem?_cons_zero]; rfl)
          case hqzz106 => exact fun _ _ _ h => h
          case hwzz106 => rfl
          case hyzz106 => (intro w0; go_simp; try with_reducible rfl)
          (try simp only [Act.put, List.setIfInBounds_toArray, List.set_cons_zero, List.set_cons_succ])
          refine' wpAny_take (i := 10) ?hizz107 (by kernel_rfl) (by kernel_rfl) (by kernel_rfl) ?hqzz107 (Or.inl ⟨?hwzz107, ?hyzz107⟩) ?hrzz107
          case hizz107 => (simp only [List.getElem?_toArray, List.getElem?_cons_succ, List.getElem?_cons_zero]; rfl)
          case hqzz107 => exact fun _ _ _ h => h
          case hwzz107 => rfl
          case hyzz107 => (intro w0; go_simp; try with_reducible rfl)
          (try simp only [Act.put, List.setIfInBounds_toArray, List.set_cons_zero, List.set_cons_succ])
          refine wpAny_ready (rs := [5, 11]) (by kernel_rfl) (by simp) ?_
          refine' AllReady.cons ?hazz114 (fun K hK => ?hczz114) (AllReady.cons ?hbzz114 (fun K hK => ?hdzz114) AllReady.nil)
          case hazz114 => (simp only [List.getElem?_toArray, List.getElem?_cons_succ, List.getElem?_cons_zero]; rfl)
          case hbzz114 => (simp only [List.getElem?_toArray, List.getElem?_cons_succ, List.getElem?_cons_zero]; rfl)
          case hczz114 =>
            go_simp
            refine hK _ _ ?_
            clear hK K
            (try simp only [Act.put, List.setIfInBounds_toArray, List.set_cons_zero, List.set_cons_succ])
            refine' wpAny_take (i := 12) ?hizz108 (by kernel_rfl) (by kernel_rfl) (by kernel_rfl) ?hqzz108 (Or.inl ⟨?hwzz108, ?hyzz108⟩) ?hrzz108
            case hizz108 => (simp only [List.getElem?_toArray, List.getElem?_cons_succ, List.getElem?_cons_zero]; rfl)
            case hqzz108 => exact fun _ _ _ h => h
            case hwzz108 => rfl
            case hyzz108 => (intro w0; go_simp; try with_reducible rfl)
            (try simp only [Act.put, List.setIfInBounds_toArray, List.set_cons_zero, List.set_cons_succ])
            refine wpAny_ready (rs := [11]) (by kernel_rfl) (by simp) ?_
            refine' AllReady.cons ?hizz109 (fun K hK => ?hrzz109) AllReady.nil
            case hizz109 => (simp only [List.getElem?_toArray, List.getElem?_cons_succ, List.getElem?_cons_zero]; rfl)
            go_simp
            refine hK _ _ ?_
            clear hK K
            (try simp only [Act.put, List.setIfInBounds_toArray, List.set_cons_zero, List.set_cons_succ])
            refine wpAny_ready (rs := [13]) (by kernel_rfl) (by simp) ?_
            refine' AllReady.cons ?hizz110 (fun K hK => ?hrzz110) AllReady.nil
            case hizz110 => (simp only [List.getElem?_toArray, List.getElem?_cons_succ, List.getElem?_cons_zero]; rfl)
            refine want_storeat rfl rfl rfl rfl hrun (hK _ _ ?_)
            clear hK K
            (try simp only [Act.put, List.setIfInBounds_toArray, List.set_cons_zero, List.set_cons_succ])
            refine wpAny_done (by kernel_rfl) ?_ _
            go_wp2_with fail
            refine bodyPost_ret (results_made (q := 2) (p := 3) rfl _ _ R _ _ _ rfl hst2) rfl ?_
            exact hend
          case hdzz114 =>
            go_simp
            refine hK _ _ ?_
            clear hK K
            (try simp only [Act.put, List.setIfInBounds_toArray, List.set_cons_zero, List.set_cons_succ])
            refine wpAny_ready (rs := [5]) (by kernel_rfl) (by simp) ?_
            refine' AllReady.cons ?hizz111 (fun K hK => ?hrzz111) AllReady.nil
            case hizz111 => (simp only [List.getElem?_toArray, List.getElem?_cons_succ, List.getElem?_cons_zero]; rfl)
            go_simp
            refine hK _ _ ?_
            clear hK K
            (try simp only [Act.put, List.setIfInBounds_toArray, List.set_cons_zero, List.set_cons_succ])
            refine' wpAny_take (i := 12) ?hizz112 (by kernel_rfl) (by kernel_rfl) (by kernel_rfl) ?hqzz112 (Or.inl ⟨?hwzz112, ?hyzz112⟩) ?hrzz112
            case hizz112 => (simp only [List.getElem?_toArray, List.getElem?_cons_succ, List.getElem?_cons_zero]; rfl)
            case hqzz112 => exact fun _ _ _ h => h
            case hwzz112 => rfl
            case hyzz112 => (intro w0; go_simp; try with_reducible rfl)
            (try simp only [Act.put, List.setIfInBounds_toArray, List.set_cons_zero, List.set_cons_succ])
            refine wpAny_ready (rs := [13]) (by kernel_rfl) (by simp) ?_
            refine' AllReady.cons ?hizz113 (fun K hK => ?hrzz113) AllReady.nil
            case hizz113 => (simp only [List.getElem?_toArray, List.getElem?_cons_succ, List.getElem?_cons_zero]; rfl)
            refine want_storeat rfl rfl rfl rfl hrun (hK _ _ ?_)
            clear hK K
            (try simp only [Act.put, List.setIfInBounds_toArray, List.set_cons_zero, List.set_cons_succ])
            refine wpAny_done (by kernel_rfl) ?_ _
            go_wp2_with fail
            refine bodyPost_ret (results_made (q := 2) (p := 3) rfl _ _ R _ _ _ rfl hst2) rfl ?_
            exact hend
end Go.Proofs.YtlbieneklijpeaaDoor.fault
