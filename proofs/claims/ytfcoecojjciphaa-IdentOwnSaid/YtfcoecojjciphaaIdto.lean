/-
  The walk of IdentOwn, by what ident's functions answer.
-/
import Derived.Test.YtfcoecojjciphaaIdts
import Derived.Test.YtfcoecojjciphaaIdti
namespace Go.Proofs.Ytfcoecojjciphaa.ids
open Go.RowKit Go.Proofs.Ytfcoecojjciphaa.mem Go.Proofs.Ytfcoecojjciphaa.sha Go.Proofs.Ytfcoecojjciphaa.strx

theorem RdV.block {w : World} {b off n c : Nat} {L : List Id} (h : RdV w (.slice (some ⟨b, off, none⟩) n c) L) (hne : L ≠ []) : b < w.heap.size := by
  have h0 : 0 < L.length := List.length_pos_iff.2 hne
  obtain ⟨b', off', e, _, hb, _⟩ := h.load h0
  cases e
  exact hb
theorem Mine.turn {w w' : World} {F G : Nat → Prop} {v : Value} {L : List Id} (h : Mine w F v L) (ht : Turn G w w') (hG : L ≠ [] → ∀ b off n c, v = .slice (some ⟨b, off, none⟩) n c → ¬ G b) : Mine w' F v L := by
  obtain ⟨ad, cap, rfl⟩ := h.rd.form
  by_cases hne : L = []
  · subst hne
    obtain ⟨hok, hmax, ad', cap', hv, h3, h4, h5, h6, h7⟩ := h.rd
    cases hv
    exact ⟨⟨hok, hmax, ad, cap, rfl, h3, h4, h5, h6, .inl rfl⟩, h.own, fun e => absurd rfl e⟩
  · refine ⟨h.rd.turn ht fun b off e _ => hG hne b off _ cap (by rw [e]), h.own, fun _ => ?_⟩
    obtain ⟨b, off, c, cur, hv, hg⟩ := h.blk hne
    exact ⟨b, off, c, cur, hv, (ht.block b (hG hne b off _ c hv)).trans hg⟩
theorem Mine.next {w w' : World} {F : Nat → Prop} {v : Value} {L : List Id} (h : Mine w F v L) (hb : Below w.heap.size w w') : Mine w' F v L :=
  h.turn (Turn.ofBelow hb) fun hne b off n c e => by
    have := h.rd
    rw [e] at this
    have := this.block hne
    omega
/-- four lists of the caller's, each in memory of its own -/
structure OSt (w1 : World) (V : Nat → Value) (N E : Nat → Nat) (w : World) : Prop where
  below : Below w1.heap.size w1 w
  mine : ∀ q, q < 4 → ∃ L, L.length = N q ∧ Mine w (w1.heap.size ≤ ·) (V q) L
  place : ∀ q, q < 4 → N q ≠ 0 → ∀ b off n c, V q = .slice (some ⟨b, off, none⟩) n c → E q ≤ b ∧ b < E (q + 1)
  mono : ∀ q r, q < r → E (q + 1) ≤ E r
theorem OSt.put {w1 w : World} {V : Nat → Value} {N E : Nat → Nat} (h : OSt w1 V N E w) (q : Nat) (hq : q < 4) {i : Nat} (hi : i < N q) {y : Id} (hy : y.length = 32) :
    ∃ b off c w', V q = .slice (some ⟨b, off, none⟩) (N q) c ∧ (Instr.storeAt 23 (.pointer (some ⟨b, off + i * 32, none⟩)) (.agg (bv y).toArray)).run Try.prog w = .ok () w' ∧ OSt w1 V N E w' := by
  obtain ⟨L, hL, hM⟩ := h.mine q hq
  obtain ⟨b, off, c, w', hv, hF, hb, hr, hM', ht⟩ := hM.store (by rw [hL]; exact hi) hy
  have hpl := h.place q hq (by omega) b off _ c hv
  refine ⟨b, off, c, w', by rw [← hL]; exact hv, hr, ⟨h.below.trans (ht.below fun j hj => by rw [hj]; exact hF), fun r hr' => ?_, h.place, h.mono⟩⟩
  by_cases e : r = q
  · subst e
    exact ⟨_, by rw [List.length_set]; exact hL, hM'⟩
  · obtain ⟨L2, hL2, hM2⟩ := h.mine r hr'
    refine ⟨L2, hL2, hM2.turn ht fun hne b2 off2 n2 c2 hv2 heq => ?_⟩
    have hp2 := h.place r hr' (by have := List.length_pos_iff.2 hne; omega) b2 off2 n2 c2 hv2
    rcases Nat.lt_or_gt_of_ne e with hlt | hgt
    · have := h.mono r q hlt; omega
    · have := h.mono q r hgt; omega
def four (a b c d : Value) : Nat → Value
  | 0 => a
  | 1 => b
  | 2 => c
  | _ => d
def fourN (a b c d : Nat) : Nat → Nat
  | 0 => a
  | 1 => b
  | 2 => c
  | _ => d
def fives (a b c d e : Nat) : Nat → Nat
  | 0 => a
  | 1 => b
  | 2 => c
  | 3 => d
  | _ => e
theorem fives_mono (a b c d e : Nat) (h1 : a ≤ b) (h2 : b ≤ c) (h3 : c ≤ d) (h4 : d ≤ e) : ∀ q r, q < r → fives a b c d e (q + 1) ≤ fives a b c d e r := by
  intro q r h
  obtain ⟨s, rfl⟩ : ∃ s, r = q + 1 + s := ⟨r - q - 1, by omega⟩
  clear h
  have step : ∀ q, fives a b c d e q ≤ fives a b c d e (q + 1) := by
    intro q
    match q with
    | 0 => exact h1
    | 1 => exact h2
    | 2 => exact h3
    | 3 => exact h4
    | q + 4 => exact Nat.le_refl _
  induction s with
  | zero => exact Nat.le_refl _
  | succ s ih => exact Nat.le_trans ih (step _)

set_option maxHeartbeats 8000000 in
set_option maxRecDepth 100000 in
theorem own_walk {T : World → Prop} (hI : IdentIs T) (L : List Id) (x : Id) (v1 : Value) (w : World) (hT : T w) (h1 : RdV w v1 L) (hx : x.length = 32) :
    Calls Try.prog 7 #[v1, .agg (bv x).toArray] w fun e w' => e = .returned (.bool true) ∧ Below w.heap.size w w' := by
  obtain ⟨wb, hwb⟩ : ∃ u, u = w.alloc (.cells (bv x).toArray 23) := ⟨_, rfl⟩
  obtain ⟨C, hC⟩ : ∃ S, S = w.heap.size := ⟨_, rfl⟩
  have hX : Blk wb C 23 (bv x).toArray := by rw [hwb, hC]; exact Blk.new w _ _
  have hB : Below w.heap.size w wb := by rw [hwb]; exact (Below.refl _ _).alloc (Nat.le_refl _) _
  obtain ⟨ad1, cap1, rfl⟩ := h1.form
  have HI := Lib.hid hI
  have HX := Lib.hid hX
  have HB := Lib.hid hB
  have HT := Lib.hid (hI.next hT hB)
  have H1 := Lib.hid (h1.next hB)
  have HW := Lib.hid hwb
  have HCC := Lib.hid hC
  clear hI hX hB hwb hC hT h1
  by_cases hl : 60 < L.length
  · have hI : (60 : Int) < (L.length : Int) := by omega
    go_enter Try.func7, Try.ntmps7
    go_upto_region 1 with fail
    refine wp_at HW.out.symm ?_
    clear HW hl
    go_wp2_with (go_at_call 14; refine (awake_any HI.out.toIdentA _ HT.out).mono ?_; rintro e w3 ⟨rfl, hb3⟩)
    go_ret
    exact ⟨rfl, HB.out.trans (hb3.mono HB.out.size)⟩
  have hI : (L.length : Int) ≤ 60 := by omega
  have hL60 : L.length ≤ 60 := by omega
  have hnw : New (wb.heap.size ≤ ·) wb := fun _ h => h
  have hA0 := OwnI.laid0 wb (wb.heap.size ≤ ·) hnw
  have hBa := (Below.refl wb.heap.size wb).alloc (Nat.le_refl _) (.cells #[] 23)
  obtain ⟨vm, w1, hrun0, hO0, ht0⟩ := run_append_rd hA0 (H1.out.next hBa) (by rw [List.length_nil]; omega) (hnw.alloc _) 33
  have hB0 : Below wb.heap.size wb w1 := hBa.trans (ht0.below fun j hj => by
    rcases hj with hj | hj
    · have hj' : wb.heap.size = j := by simpa [Value.ownBlock] using hj
      omega
    · exact Nat.le_trans hBa.size hj)
  rw [List.nil_append] at hO0
  have HVM := Lib.hid (hO0.rdv (by omega)).1
  have H1m := Lib.hid (H1.out.next hB0)
  have HT1 := Lib.hid (HI.out.next HT.out hB0)
  have HX1 := Lib.hid (HX.out.below hB0 HX.out.lt)
  have HB1 := Lib.hid (HB.out.trans (hB0.mono HB.out.size))
  clear hA0 hBa hO0 ht0 hB0 hnw HX HB HT H1
  go_enter Try.func7, Try.ntmps7
  go_upto_region 1 with fail
  refine wp_at HW.out.symm ?_
  rw [← HCC.out]
  clear HW
  go_upto_region 4 with ((with_reducible refine step_append (s := .tmp 15) (x := .tmp 16) (t := 33) (vs := ?asoa) (vx := ?axoa) (v' := ?avoa) (w' := ?awoa) ?agoa ?aooa ?apoa ?aqoa ?aroa ?ahoa); (case agoa => rfl); (case aooa => rfl); (case apoa => rfl); (case aqoa => rfl); (case aroa => exact hrun0))
  go_upto_region 5 with (go_at_call 18; with_reducible refine (HI.out.set L vm _ HT1.out HVM.out (by omega)).mono ?_; rintro e wA ⟨va, rfl, hma, hbA⟩)
  have hlA := box_load (HX1.out.below hbA HX1.out.lt) hx 0
  go_upto_region 6 with (first
    | ((with_reducible refine step_load (t := 23) (x := .tmp 3) (p := ?lpob) (v := ?lvob) ?lgob ?loob ?lxob ?lrob ?lhob); (case lgob => rfl); (case loob => rfl); (case lxob => rfl); (case lrob => exact hlA))
    | (go_at_call 23; with_reducible refine (HI.out.with_ L x vm _ (HI.out.next HT1.out hbA) (HVM.out.next hbA) (by omega) hx).mono ?_; rintro e wB ⟨vb, rfl, hmb, hbB⟩))
  have hbAB := hbA.trans (hbB.mono hbA.size)
  have hlB := box_load (HX1.out.below hbAB HX1.out.lt) hx 0
  go_upto_region 7 with (first
    | ((with_reducible refine step_load (t := 23) (x := .tmp 3) (p := ?lpoc) (v := ?lvoc) ?lgoc ?looc ?lxoc ?lroc ?lhoc); (case lgoc => rfl); (case looc => rfl); (case lxoc => rfl); (case lroc => exact hlB))
    | (go_at_call 25; with_reducible refine (HI.out.without L x vm _ (HI.out.next HT1.out hbAB) (HVM.out.next hbAB) (by omega) hx).mono ?_; rintro e wC ⟨vc, rfl, hmc, hbC⟩))
  have hbAC := hbAB.trans (hbC.mono hbAB.size)
  go_upto_region 8 with (go_at_call 29; with_reducible refine (HI.out.both L L vm vm _ (HI.out.next HT1.out hbAC) (HVM.out.next hbAC) (HVM.out.next hbAC) (by omega) (by omega)).mono ?_; rintro e wD ⟨vd, rfl, hmd, hbD⟩)
  have hbAD := hbAC.trans (hbD.mono hbAC.size)
  obtain ⟨ada, cpa, rfl⟩ := hma.rd.form
  obtain ⟨adb, cpb, rfl⟩ := hmb.rd.form
  obtain ⟨adc, cpc, rfl⟩ := hmc.rd.form
  obtain ⟨add, cpd, rfl⟩ := hmd.rd.form
  obtain ⟨na, hna⟩ : ∃ n, n = (setL L).length := ⟨_, rfl⟩
  obtain ⟨nb, hnb⟩ : ∃ n, n = (withL (setL L) x).length := ⟨_, rfl⟩
  obtain ⟨nc, hnc⟩ : ∃ n, n = (woutL (setL L) x).length := ⟨_, rfl⟩
  obtain ⟨nd, hnd⟩ : ∃ n, n = (bothL L L).length := ⟨_, rfl⟩
  rw [← hna] at hma
  rw [← hnb] at hmb
  rw [← hnc] at hmc
  rw [← hnd] at hmd
  have hOS : OSt w1 (four (.slice ada na cpa) (.slice adb nb cpb) (.slice adc nc cpc) (.slice add nd cpd)) (fourN na nb nc nd) (fives w1.heap.size wA.heap.size wB.heap.size wC.heap.size wD.heap.size) wD := by
    refine ⟨hbAD, fun q hq => ?_, fun q hq hne b off n c hv => ?_, fives_mono _ _ _ _ _ hbA.size hbB.size hbC.size hbD.size⟩
    · match q, hq with
      | 0, _ => exact ⟨_, hna.symm, (((hma.next hbB).next hbC).next hbD)⟩
      | 1, _ => exact ⟨_, hnb.symm, ⟨((hmb.next hbC).next hbD).rd, fun b off n c e => Nat.le_trans hbA.size (hmb.own b off n c e), ((hmb.next hbC).next hbD).blk⟩⟩
      | 2, _ => exact ⟨_, hnc.symm, ⟨(hmc.next hbD).rd, fun b off n c e => Nat.le_trans hbAB.size (hmc.own b off n c e), (hmc.next hbD).blk⟩⟩
      | 3, _ => exact ⟨_, hnd.symm, ⟨hmd.rd, fun b off n c e => Nat.le_trans hbAC.size (hmd.own b off n c e), hmd.blk⟩⟩
    · match q, hq with
      | 0, _ => exact ⟨hma.own b off n c hv, by have h := hma.rd; rw [show Value.slice ada na cpa = _ from hv] at h; exact h.block (fun e => hne (by rw [show fourN na nb nc nd 0 = na from rfl, hna, e]; rfl))⟩
      | 1, _ => exact ⟨hmb.own b off n c hv, by have h := hmb.rd; rw [show Value.slice adb nb cpb = _ from hv] at h; exact h.block (fun e => hne (by rw [show fourN na nb nc nd 1 = nb from rfl, hnb, e]; rfl))⟩
      | 2, _ => exact ⟨hmc.own b off n c hv, by have h := hmc.rd; rw [show Value.slice adc nc cpc = _ from hv] at h; exact h.block (fun e => hne (by rw [show fourN na nb nc nd 2 = nc from rfl, hnc, e]; rfl))⟩
      | 3, _ => exact ⟨hmd.own b off n c hv, by have h := hmd.rd; rw [show Value.slice add nd cpd = _ from hv] at h; exact h.block (fun e => hne (by rw [show fourN na nb nc nd 3 = nd from rfl, hnd, e]; rfl))⟩
  have hbn : nb ≤ 1000 := by
    have h2 := withL_len (setL L) x
    have h3 := setL_len L
    omega
  have han : na ≤ 1000 := by have h3 := setL_len L; omega
  have hcn : nc ≤ 1000 := by have h3 := setL_len L; have h4 := woutL_len (setL L) x; omega
  have hdn : nd ≤ 1000 := by have h3 := foldl_with_len L (setL L); have h4 := setL_len L; unfold bothL at hnd; omega
  have HOS := Lib.hid hOS
  rw [← hna, ← hnb, ← hnc, ← hnd]
  clear hOS hma hmb hmc hmd hbA hbB hbC hbD hbAB hbAC hbAD hlA hlB hna hnb hnc hnd hrun0 HX1
  go_wp2_with fail
  go_loopw [10] (fun i wr => ∃ k : Nat, k ≤ nb ∧ i = .int .i64 k ∧ OSt w1 (four (.slice ada na cpa) (.slice adb nb cpb) (.slice adc nc cpc) (.slice add nd cpd)) (fourN na nb nc nd) (fives w1.heap.size wA.heap.size wB.heap.size wC.heap.size wD.heap.size) wr) (fun i _ => nb - (intOf i).toNat)
  case atStart => exact ⟨0, Nat.zero_le _, rfl, HOS.out⟩
  case round =>
    obtain ⟨k, hk, rfl, hS⟩ := hrel
    clear HOS
    have k0 : (0 : Int) ≤ (k : Int) := Int.natCast_nonneg _
    by_cases hltb : k < nb
    · have hIb : (k : Int) < (nb : Int) := by omega
      by_cases hlta : k < na
      · have hIa : (k : Int) < (na : Int) := by omega
        by_cases hltc : k < nc
        · have hIc : (k : Int) < (nc : Int) := by omega
          by_cases hltd : k < nd
          · have hId : (k : Int) < (nd : Int) := by omega
            obtain ⟨b0, off0, c0, u0, hv0, hst0, hS0⟩ := OSt.put hS 1 (by decide) (i := k) (by exact hltb) (y := oneId 9) rfl
            obtain ⟨rfl, rfl⟩ : adb = some ⟨b0, off0, none⟩ ∧ cpb = c0 := by injection hv0 with e1 e2 e3; exact ⟨e1, e3⟩
            clear hv0
            obtain ⟨b1, off1, c1, u1, hv1, hst1, hS1⟩ := OSt.put hS0 0 (by decide) (i := k) (by exact hlta) (y := oneId 8) rfl
            obtain ⟨rfl, rfl⟩ : ada = some ⟨b1, off1, none⟩ ∧ cpa = c1 := by injection hv1 with e1 e2 e3; exact ⟨e1, e3⟩
            clear hv1
            obtain ⟨b2, off2, c2, u2, hv2, hst2, hS2⟩ := OSt.put hS1 2 (by decide) (i := k) (by exact hltc) (y := oneId 7) rfl
            obtain ⟨rfl, rfl⟩ : adc = some ⟨b2, off2, none⟩ ∧ cpc = c2 := by injection hv2 with e1 e2 e3; exact ⟨e1, e3⟩
            clear hv2
            obtain ⟨b3, off3, c3, u3, hv3, hst3, hS3⟩ := OSt.put hS2 3 (by decide) (i := k) (by exact hltd) (y := oneId 6) rfl
            obtain ⟨rfl, rfl⟩ : add = some ⟨b3, off3, none⟩ ∧ cpd = c3 := by injection hv3 with e1 e2 e3; exact ⟨e1, e3⟩
            clear hv3
            have HSN := Lib.hid hS3
            clear hS hS0 hS1 hS2 hS3
            go_wp2_with (first
              | ((with_reducible refine step_store_at (x := .tmp 38) (y := .tmp 37) (p := ?wpw1110) (v := ?wvw1110) (w' := ?www1110) ?wgw1110 ?wow1110 ?wxw1110 ?wyw1110 ?wrw1110 ?whw1110); (case wgw1110 => rfl); (case wow1110 => rfl); (case wxw1110 => rfl); (case wyw1110 => rfl); (case wrw1110 => exact hst0))
              | ((with_reducible refine step_store_at (x := .tmp 46) (y := .tmp 45) (p := ?wpw1111) (v := ?wvw1111) (w' := ?www1111) ?wgw1111 ?wow1111 ?wxw1111 ?wyw1111 ?wrw1111 ?whw1111); (case wgw1111 => rfl); (case wow1111 => rfl); (case wxw1111 => rfl); (case wyw1111 => rfl); (case wrw1111 => exact hst1))
              | ((with_reducible refine step_store_at (x := .tmp 54) (y := .tmp 53) (p := ?wpw1112) (v := ?wvw1112) (w' := ?www1112) ?wgw1112 ?wow1112 ?wxw1112 ?wyw1112 ?wrw1112 ?whw1112); (case wgw1112 => rfl); (case wow1112 => rfl); (case wxw1112 => rfl); (case wyw1112 => rfl); (case wrw1112 => exact hst2))
              | ((with_reducible refine step_store_at (x := .tmp 62) (y := .tmp 61) (p := ?wpw1113) (v := ?wvw1113) (w' := ?www1113) ?wgw1113 ?wow1113 ?wxw1113 ?wyw1113 ?wrw1113 ?whw1113); (case wgw1113 => rfl); (case wow1113 => rfl); (case wxw1113 => rfl); (case wyw1113 => rfl); (case wrw1113 => exact hst3)))
            go_roundw
            case rel => exact ⟨k + 1, hltb, by push_cast; rfl, HSN.out⟩
            case measure => simp [intOf]; omega
          · have hId : (nd : Int) ≤ (k : Int) := by omega
            clear hltd
            obtain ⟨b0, off0, c0, u0, hv0, hst0, hS0⟩ := OSt.put hS 1 (by decide) (i := k) (by exact hltb) (y := oneId 9) rfl
            obtain ⟨rfl, rfl⟩ : adb = some ⟨b0, off0, none⟩ ∧ cpb = c0 := by injection hv0 with e1 e2 e3; exact ⟨e1, e3⟩
            clear hv0
            obtain ⟨b1, off1, c1, u1, hv1, hst1, hS1⟩ := OSt.put hS0 0 (by decide) (i := k) (by exact hlta) (y := oneId 8) rfl
            obtain ⟨rfl, rfl⟩ : ada = some ⟨b1, off1, none⟩ ∧ cpa = c1 := by injection hv1 with e1 e2 e3; exact ⟨e1, e3⟩
            clear hv1
            obtain ⟨b2, off2, c2, u2, hv2, hst2, hS2⟩ := OSt.put hS1 2 (by decide) (i := k) (by exact hltc) (y := oneId 7) rfl
            obtain ⟨rfl, rfl⟩ : adc = some ⟨b2, off2, none⟩ ∧ cpc = c2 := by injection hv2 with e1 e2 e3; exact ⟨e1, e3⟩
            clear hv2
            have HSN := Lib.hid hS2
            clear hS hS0 hS1 hS2
            go_wp2_with (first
              | ((with_reducible refine step_store_at (x := .tmp 38) (y := .tmp 37) (p := ?wpw1100) (v := ?wvw1100) (w' := ?www1100) ?wgw1100 ?wow1100 ?wxw1100 ?wyw1100 ?wrw1100 ?whw1100); (case wgw1100 => rfl); (case wow1100 => rfl); (case wxw1100 => rfl); (case wyw1100 => rfl); (case wrw1100 => exact hst0))
              | ((with_reducible refine step_store_at (x := .tmp 46) (y := .tmp 45) (p := ?wpw1101) (v := ?wvw1101) (w' := ?www1101) ?wgw1101 ?wow1101 ?wxw1101 ?wyw1101 ?wrw1101 ?whw1101); (case wgw1101 => rfl); (case wow1101 => rfl); (case wxw1101 => rfl); (case wyw1101 => rfl); (case wrw1101 => exact hst1))
              | ((with_reducible refine step_store_at (x := .tmp 54) (y := .tmp 53) (p := ?wpw1102) (v := ?wvw1102) (w' := ?www1102) ?wgw1102 ?wow1102 ?wxw1102 ?wyw1102 ?wrw1102 ?whw1102); (case wgw1102 => rfl); (case wow1102 => rfl); (case wxw1102 => rfl); (case wyw1102 => rfl); (case wrw1102 => exact hst2)))
            go_roundw
            case rel => exact ⟨k + 1, hltb, by push_cast; rfl, HSN.out⟩
            case measure => simp [intOf]; omega
        · have hIc : (nc : Int) ≤ (k : Int) := by omega
          clear hltc
          by_cases hltd : k < nd
          · have hId : (k : Int) < (nd : Int) := by omega
            obtain ⟨b0, off0, c0, u0, hv0, hst0, hS0⟩ := OSt.put hS 1 (by decide) (i := k) (by exact hltb) (y := oneId 9) rfl
            obtain ⟨rfl, rfl⟩ : adb = some ⟨b0, off0, none⟩ ∧ cpb = c0 := by injection hv0 with e1 e2 e3; exact ⟨e1, e3⟩
            clear hv0
            obtain ⟨b1, off1, c1, u1, hv1, hst1, hS1⟩ := OSt.put hS0 0 (by decide) (i := k) (by exact hlta) (y := oneId 8) rfl
            obtain ⟨rfl, rfl⟩ : ada = some ⟨b1, off1, none⟩ ∧ cpa = c1 := by injection hv1 with e1 e2 e3; exact ⟨e1, e3⟩
            clear hv1
            obtain ⟨b2, off2, c2, u2, hv2, hst2, hS2⟩ := OSt.put hS1 3 (by decide) (i := k) (by exact hltd) (y := oneId 6) rfl
            obtain ⟨rfl, rfl⟩ : add = some ⟨b2, off2, none⟩ ∧ cpd = c2 := by injection hv2 with e1 e2 e3; exact ⟨e1, e3⟩
            clear hv2
            have HSN := Lib.hid hS2
            clear hS hS0 hS1 hS2
            go_wp2_with (first
              | ((with_reducible refine step_store_at (x := .tmp 38) (y := .tmp 37) (p := ?wpw1010) (v := ?wvw1010) (w' := ?www1010) ?wgw1010 ?wow1010 ?wxw1010 ?wyw1010 ?wrw1010 ?whw1010); (case wgw1010 => rfl); (case wow1010 => rfl); (case wxw1010 => rfl); (case wyw1010 => rfl); (case wrw1010 => exact hst0))
              | ((with_reducible refine step_store_at (x := .tmp 46) (y := .tmp 45) (p := ?wpw1011) (v := ?wvw1011) (w' := ?www1011) ?wgw1011 ?wow1011 ?wxw1011 ?wyw1011 ?wrw1011 ?whw1011); (case wgw1011 => rfl); (case wow1011 => rfl); (case wxw1011 => rfl); (case wyw1011 => rfl); (case wrw1011 => exact hst1))
              | ((with_reducible refine step_store_at (x := .tmp 62) (y := .tmp 61) (p := ?wpw1012) (v := ?wvw1012) (w' := ?www1012) ?wgw1012 ?wow1012 ?wxw1012 ?wyw1012 ?wrw1012 ?whw1012); (case wgw1012 => rfl); (case wow1012 => rfl); (case wxw1012 => rfl); (case wyw1012 => rfl); (case wrw1012 => exact hst2)))
            go_roundw
            case rel => exact ⟨k + 1, hltb, by push_cast; rfl, HSN.out⟩
            case measure => simp [intOf]; omega
          · have hId : (nd : Int) ≤ (k : Int) := by omega
            clear hltd
            obtain ⟨b0, off0, c0, u0, hv0, hst0, hS0⟩ := OSt.put hS 1 (by decide) (i := k) (by exact hltb) (y := oneId 9) rfl
            obtain ⟨rfl, rfl⟩ : adb = some ⟨b0, off0, none⟩ ∧ cpb = c0 := by injection hv0 with e1 e2 e3; exact ⟨e1, e3⟩
            clear hv0
            obtain ⟨b1, off1, c1, u1, hv1, hst1, hS1⟩ := OSt.put hS0 0 (by decide) (i := k) (by exact hlta) (y := oneId 8) rfl
            obtain ⟨rfl, rfl⟩ : ada = some ⟨b1, off1, none⟩ ∧ cpa = c1 := by injection hv1 with e1 e2 e3; exact ⟨e1, e3⟩
            clear hv1
            have HSN := Lib.hid hS1
            clear hS hS0 hS1
            go_wp2_with (first
              | ((with_reducible refine step_store_at (x := .tmp 38) (y := .tmp 37) (p := ?wpw1000) (v := ?wvw1000) (w' := ?www1000) ?wgw1000 ?wow1000 ?wxw1000 ?wyw1000 ?wrw1000 ?whw1000); (case wgw1000 => rfl); (case wow1000 => rfl); (case wxw1000 => rfl); (case wyw1000 => rfl); (case wrw1000 => exact hst0))
              | ((with_reducible refine step_store_at (x := .tmp 46) (y := .tmp 45) (p := ?wpw1001) (v := ?wvw1001) (w' := ?www1001) ?wgw1001 ?wow1001 ?wxw1001 ?wyw1001 ?wrw1001 ?whw1001); (case wgw1001 => rfl); (case wow1001 => rfl); (case wxw1001 => rfl); (case wyw1001 => rfl); (case wrw1001 => exact hst1)))
            go_roundw
            case rel => exact ⟨k + 1, hltb, by push_cast; rfl, HSN.out⟩
            case measure => simp [intOf]; omega
      · have hIa : (na : Int) ≤ (k : Int) := by omega
        clear hlta
        by_cases hltc : k < nc
        · have hIc : (k : Int) < (nc : Int) := by omega
          by_cases hltd : k < nd
          · have hId : (k : Int) < (nd : Int) := by omega
            obtain ⟨b0, off0, c0, u0, hv0, hst0, hS0⟩ := OSt.put hS 1 (by decide) (i := k) (by exact hltb) (y := oneId 9) rfl
            obtain ⟨rfl, rfl⟩ : adb = some ⟨b0, off0, none⟩ ∧ cpb = c0 := by injection hv0 with e1 e2 e3; exact ⟨e1, e3⟩
            clear hv0
            obtain ⟨b1, off1, c1, u1, hv1, hst1, hS1⟩ := OSt.put hS0 2 (by decide) (i := k) (by exact hltc) (y := oneId 7) rfl
            obtain ⟨rfl, rfl⟩ : adc = some ⟨b1, off1, none⟩ ∧ cpc = c1 := by injection hv1 with e1 e2 e3; exact ⟨e1, e3⟩
            clear hv1
            obtain ⟨b2, off2, c2, u2, hv2, hst2, hS2⟩ := OSt.put hS1 3 (by decide) (i := k) (by exact hltd) (y := oneId 6) rfl
            obtain ⟨rfl, rfl⟩ : add = some ⟨b2, off2, none⟩ ∧ cpd = c2 := by injection hv2 with e1 e2 e3; exact ⟨e1, e3⟩
            clear hv2
            have HSN := Lib.hid hS2
            clear hS hS0 hS1 hS2
            go_wp2_with (first
              | ((with_reducible refine step_store_at (x := .tmp 38) (y := .tmp 37) (p := ?wpw0110) (v := ?wvw0110) (w' := ?www0110) ?wgw0110 ?wow0110 ?wxw0110 ?wyw0110 ?wrw0110 ?whw0110); (case wgw0110 => rfl); (case wow0110 => rfl); (case wxw0110 => rfl); (case wyw0110 => rfl); (case wrw0110 => exact hst0))
              | ((with_reducible refine step_store_at (x := .tmp 54) (y := .tmp 53) (p := ?wpw0111) (v := ?wvw0111) (w' := ?www0111) ?wgw0111 ?wow0111 ?wxw0111 ?wyw0111 ?wrw0111 ?whw0111); (case wgw0111 => rfl); (case wow0111 => rfl); (case wxw0111 => rfl); (case wyw0111 => rfl); (case wrw0111 => exact hst1))
              | ((with_reducible refine step_store_at (x := .tmp 62) (y := .tmp 61) (p := ?wpw0112) (v := ?wvw0112) (w' := ?www0112) ?wgw0112 ?wow0112 ?wxw0112 ?wyw0112 ?wrw0112 ?whw0112); (case wgw0112 => rfl); (case wow0112 => rfl); (case wxw0112 => rfl); (case wyw0112 => rfl); (case wrw0112 => exact hst2)))
            go_roundw
            case rel => exact ⟨k + 1, hltb, by push_cast; rfl, HSN.out⟩
            case measure => simp [intOf]; omega
          · have hId : (nd : Int) ≤ (k : Int) := by omega
            clear hltd
            obtain ⟨b0, off0, c0, u0, hv0, hst0, hS0⟩ := OSt.put hS 1 (by decide) (i := k) (by exact hltb) (y := oneId 9) rfl
            obtain ⟨rfl, rfl⟩ : adb = some ⟨b0, off0, none⟩ ∧ cpb = c0 := by injection hv0 with e1 e2 e3; exact ⟨e1, e3⟩
            clear hv0
            obtain ⟨b1, off1, c1, u1, hv1, hst1, hS1⟩ := OSt.put hS0 2 (by decide) (i := k) (by exact hltc) (y := oneId 7) rfl
            obtain ⟨rfl, rfl⟩ : adc = some ⟨b1, off1, none⟩ ∧ cpc = c1 := by injection hv1 with e1 e2 e3; exact ⟨e1, e3⟩
            clear hv1
            have HSN := Lib.hid hS1
            clear hS hS0 hS1
            go_wp2_with (first
              | ((with_reducible refine step_store_at (x := .tmp 38) (y := .tmp 37) (p := ?wpw0100) (v := ?wvw0100) (w' := ?www0100) ?wgw0100 ?wow0100 ?wxw0100 ?wyw0100 ?wrw0100 ?whw0100); (case wgw0100 => rfl); (case wow0100 => rfl); (case wxw0100 => rfl); (case wyw0100 => rfl); (case wrw0100 => exact hst0))
              | ((with_reducible refine step_store_at (x := .tmp 54) (y := .tmp 53) (p := ?wpw0101) (v := ?wvw0101) (w' := ?www0101) ?wgw0101 ?wow0101 ?wxw0101 ?wyw0101 ?wrw0101 ?whw0101); (case wgw0101 => rfl); (case wow0101 => rfl); (case wxw0101 => rfl); (case wyw0101 => rfl); (case wrw0101 => exact hst1)))
            go_roundw
            case rel => exact ⟨k + 1, hltb, by push_cast; rfl, HSN.out⟩
            case measure => simp [intOf]; omega
        · have hIc : (nc : Int) ≤ (k : Int) := by omega
          clear hltc
          by_cases hltd : k < nd
          · have hId : (k : Int) < (nd : Int) := by omega
            obtain ⟨b0, off0, c0, u0, hv0, hst0, hS0⟩ := OSt.put hS 1 (by decide) (i := k) (by exact hltb) (y := oneId 9) rfl
            obtain ⟨rfl, rfl⟩ : adb = some ⟨b0, off0, none⟩ ∧ cpb = c0 := by injection hv0 with e1 e2 e3; exact ⟨e1, e3⟩
            clear hv0
            obtain ⟨b1, off1, c1, u1, hv1, hst1, hS1⟩ := OSt.put hS0 3 (by decide) (i := k) (by exact hltd) (y := oneId 6) rfl
            obtain ⟨rfl, rfl⟩ : add = some ⟨b1, off1, none⟩ ∧ cpd = c1 := by injection hv1 with e1 e2 e3; exact ⟨e1, e3⟩
            clear hv1
            have HSN := Lib.hid hS1
            clear hS hS0 hS1
            go_wp2_with (first
              | ((with_reducible refine step_store_at (x := .tmp 38) (y := .tmp 37) (p := ?wpw0010) (v := ?wvw0010) (w' := ?www0010) ?wgw0010 ?wow0010 ?wxw0010 ?wyw0010 ?wrw0010 ?whw0010); (case wgw0010 => rfl); (case wow0010 => rfl); (case wxw0010 => rfl); (case wyw0010 => rfl); (case wrw0010 => exact hst0))
              | ((with_reducible refine step_store_at (x := .tmp 62) (y := .tmp 61) (p := ?wpw0011) (v := ?wvw0011) (w' := ?www0011) ?wgw0011 ?wow0011 ?wxw0011 ?wyw0011 ?wrw0011 ?whw0011); (case wgw0011 => rfl); (case wow0011 => rfl); (case wxw0011 => rfl); (case wyw0011 => rfl); (case wrw0011 => exact hst1)))
            go_roundw
            case rel => exact ⟨k + 1, hltb, by push_cast; rfl, HSN.out⟩
            case measure => simp [intOf]; omega
          · have hId : (nd : Int) ≤ (k : Int) := by omega
            clear hltd
            obtain ⟨b0, off0, c0, u0, hv0, hst0, hS0⟩ := OSt.put hS 1 (by decide) (i := k) (by exact hltb) (y := oneId 9) rfl
            obtain ⟨rfl, rfl⟩ : adb = some ⟨b0, off0, none⟩ ∧ cpb = c0 := by injection hv0 with e1 e2 e3; exact ⟨e1, e3⟩
            clear hv0
            have HSN := Lib.hid hS0
            clear hS hS0
            go_wp2_with (first
              | ((with_reducible refine step_store_at (x := .tmp 38) (y := .tmp 37) (p := ?wpw0000) (v := ?wvw0000) (w' := ?www0000) ?wgw0000 ?wow0000 ?wxw0000 ?wyw0000 ?wrw0000 ?whw0000); (case wgw0000 => rfl); (case wow0000 => rfl); (case wxw0000 => rfl); (case wyw0000 => rfl); (case wrw0000 => exact hst0)))
            go_roundw
            case rel => exact ⟨k + 1, hltb, by push_cast; rfl, HSN.out⟩
            case measure => simp [intOf]; omega
    · obtain rfl : k = nb := by omega
      have hB2 := hS.below
      have HSB := Lib.hid hB2
      clear hS hltb hk
      go_wp2_with (first
        | (go_at_call 17; with_reducible refine (rsame_eq (HVM.out.below HSB.out (Nat.le_refl _)) (H1m.out.below HSB.out (Nat.le_refl _))).mono ?_; rintro e x7 ⟨rfl, hb7⟩; have hT7 := HI.out.next (HI.out.next HT1.out HSB.out) hb7)
        | (go_at_call 14; refine (awake_any HI.out.toIdentA _ hT7).mono ?_; rintro e x9 ⟨rfl, hb9⟩))
      go_ret
      have q1 := HB1.out.trans (HSB.out.mono HB1.out.size)
      have q2 := q1.trans (hb7.mono q1.size)
      exact ⟨rfl, q2.trans (hb9.mono q2.size)⟩
end Go.Proofs.Ytfcoecojjciphaa.ids
