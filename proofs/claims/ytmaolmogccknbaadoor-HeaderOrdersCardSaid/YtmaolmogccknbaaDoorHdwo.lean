/-
  The walk of HeaderOrders, by what header's functions answer.
-/
import Derived.Test.YtmaolmogccknbaaDoorHdis
namespace Go.Proofs.YtmaolmogccknbaaDoor.hdr
open Go.RowKit Go.Proofs.YtmaolmogccknbaaDoor.mem Go.Proofs.YtmaolmogccknbaaDoor.sha Go.Proofs.YtmaolmogccknbaaDoor.ids
open Go.Proofs.YtmaolmogccknbaaDoor.opn (b1 b2 b4 num txt idl byte rd rdN rdT rdI rdS rdL St Reads Stays endE zid mkId)

set_option maxHeartbeats 4000000 in
set_option maxRecDepth 100000 in
theorem orders_walk {T : World → Prop} (hI : HdIs T) (x y z : Int) (a b c : List UInt8) (w : World) (hT : T w) (ha : a.length = 32) (hb : b.length = 32) (hc : c.length = 32) :
    Calls Tryd.prog 10 #[.int .i64 x, .int .i64 y, .int .i64 z, .agg (bv a).toArray, .agg (bv b).toArray, .agg (bv c).toArray] w fun e w' => e = .returned (.bool true) ∧ Below w.heap.size w w' := by
  obtain ⟨w1, hw1⟩ : ∃ u, u = ((w.alloc (.cells (bv a).toArray 23)).alloc (.cells (bv b).toArray 23)).alloc (.cells (bv c).toArray 23) := ⟨_, rfl⟩
  obtain ⟨S, hS⟩ : ∃ S, S = w.heap.size := ⟨_, rfl⟩
  have hA : Blk w1 S 23 (bv a).toArray := by rw [hw1, hS]; exact ((Blk.new w _ _).alloc _).alloc _
  have hB : Blk w1 (S + 1) 23 (bv b).toArray := by rw [hw1, hS]; exact (Blk.at_ (by simp) _ _).alloc _
  have hC : Blk w1 (S + 1 + 1) 23 (bv c).toArray := by rw [hw1, hS]; exact Blk.at_ (by simp) _ _
  have hBB : Below w.heap.size w w1 := by rw [hw1]; exact (((Below.refl _ _).alloc (Nat.le_refl _) _).alloc (by simp) _).alloc (by simp; omega) _
  have hid : ∀ u, (binOp .eql 23 (.agg (bv a).toArray) (.agg (bv b).toArray)).run Tryd.prog u = .ok (.bool (a == b)) u := fun u => eql_ids u a b ha hb
  have HGD : Hid (∀ u, (eqGuard .eql 23 (.tmp 70) (.tmp 71) (.agg (bv a).toArray) (.agg (bv b).toArray)).run Tryd.prog u = .ok () u) := Lib.hid fun u => run_eqGuard_agg u .eql 23 (.tmp 70) (.tmp 71) _ _ Tryd.eqGuardType23
  have HT := Lib.hid (hI.next hT hBB)
  have HI := Lib.hid hI
  have HS := Lib.hid hS
  have HW := Lib.hid hw1
  have HB := Lib.hid hBB
  have HA1 := Lib.hid hA
  have HB1 := Lib.hid hB
  have HC1 := Lib.hid hC
  have HLA := Lib.hid ha
  have HLB := Lib.hid hb
  have HLC := Lib.hid hc
  have HPQ : Hid (∀ u, T u → Calls Tryd.prog 34 #[.int .i64 x, .agg (bv a).toArray, .int .i64 y, .agg (bv b).toArray] u fun e w' => e = .returned (.bool (aheadB x a y b)) ∧ Below u.heap.size u w') := Lib.hid fun u h => hI.ahead x a y b u h ha hb
  have HQZ : Hid (∀ u, T u → Calls Tryd.prog 34 #[.int .i64 y, .agg (bv b).toArray, .int .i64 z, .agg (bv c).toArray] u fun e w' => e = .returned (.bool (aheadB y b z c)) ∧ Below u.heap.size u w') := Lib.hid fun u h => hI.ahead y b z c u h hb hc
  have HPZ : Hid (∀ u, T u → Calls Tryd.prog 34 #[.int .i64 x, .agg (bv a).toArray, .int .i64 z, .agg (bv c).toArray] u fun e w' => e = .returned (.bool (aheadB x a z c)) ∧ Below u.heap.size u w') := Lib.hid fun u h => hI.ahead x a z c u h ha hc
  have HQP : Hid (∀ u, T u → Calls Tryd.prog 34 #[.int .i64 y, .agg (bv b).toArray, .int .i64 x, .agg (bv a).toArray] u fun e w' => e = .returned (.bool (aheadB y b x a)) ∧ Below u.heap.size u w') := Lib.hid fun u h => hI.ahead y b x a u h hb ha
  have HRP : Hid (∀ u, Calls Tryd.prog 35 #[.int .i64 x, .agg (bv a).toArray, .int .i64 y, .agg (bv b).toArray] u fun e w' => e = .returned (.bool (aheadB x a y b)) ∧ Below u.heap.size u w') := Lib.hid fun u => ahead_any x a y b u ha hb
  have hanti : aheadB x a y b = true → aheadB y b x a = false := ahead_anti
  have htr : aheadB x a y b = true → aheadB y b z c = true → aheadB x a z c = true := ahead_trans
  have htot := ahead_total x y a b
  obtain ⟨p, hp⟩ : ∃ p, p = aheadB x a y b := ⟨_, rfl⟩
  obtain ⟨q, hq⟩ : ∃ p, p = aheadB y b z c := ⟨_, rfl⟩
  obtain ⟨r, hr⟩ : ∃ p, p = aheadB x a z c := ⟨_, rfl⟩
  obtain ⟨t, ht⟩ : ∃ p, p = aheadB y b x a := ⟨_, rfl⟩
  rw [← hp] at HPQ HRP hanti htr htot
  rw [← hq] at HQZ htr
  rw [← hr] at HPZ htr
  rw [← ht] at HQP hanti htot
  have HEQ : Hid (∀ g, (a == b) = g → decide (a = b) = g) := Lib.hid (by intro g hg; rw [← hg, Bool.eq_iff_iff, beq_iff_eq, decide_eq_true_iff])
  obtain ⟨e2, he2⟩ : ∃ g, (a == b) = g := ⟨_, rfl⟩
  rw [he2] at hid
  rw [HEQ.out e2 he2] at htot
  have HID := Lib.hid hid
  obtain ⟨e1, he1⟩ : ∃ g, (x == y) = g := ⟨_, rfl⟩
  have he1' : decide (x = y) = e1 := by rw [← he1, Bool.eq_iff_iff, beq_iff_eq, decide_eq_true_iff]
  rw [he1'] at htot
  clear hA hB hC hBB hid hT hI hS hw1 ha hb hc hp hq hr ht he2 HEQ he1'
  cases p with
  | true =>
    obtain rfl : t = false := hanti rfl
    cases q with
    | true =>
      obtain rfl : r = true := htr rfl rfl
      clear hanti htr
      cases e1 with
      | true =>
        obtain rfl : e2 = false := by cases e2 <;> simp at htot ⊢
        clear htot
        have la0 := box_load HA1.out HLA.out 0
        have lb0 := box_load HB1.out HLB.out 0
        go_enter Tryd.func10, Tryd.ntmps10
        go_upto_region 1 with fail
        refine wp_at HW.out.symm ?_
        rw [← HS.out]
        clear HW
        go_wp2_with (first
        | ((with_reducible refine step_load (t := 23) (x := .tmp 9) (p := ?lpk1a0) (v := ?lvk1a0) ?lgk1a0 ?lok1a0 ?lxk1a0 ?lrk1a0 ?lhk1a0); (case lgk1a0 => rfl); (case lok1a0 => rfl); (case lxk1a0 => rfl); (case lrk1a0 => exact la0))
        | ((with_reducible refine step_load (t := 23) (x := .tmp 10) (p := ?lpk1b0) (v := ?lvk1b0) ?lgk1b0 ?lok1b0 ?lxk1b0 ?lrk1b0 ?lhk1b0); (case lgk1b0 => rfl); (case lok1b0 => rfl); (case lxk1b0 => rfl); (case lrk1b0 => exact lb0))
        | (go_at_call 34; (with_reducible refine (HPQ.out _ HT.out).mono ?_); rintro e w2 ⟨rfl, hb2⟩; have T2 := HI.out.next HT.out hb2; have la2 := box_load (HA1.out.below hb2 HA1.out.lt) HLA.out 0; have lb2 := box_load (HB1.out.below hb2 HB1.out.lt) HLB.out 0; have lc2 := box_load (HC1.out.below hb2 HC1.out.lt) HLC.out 0)
        | ((with_reducible refine step_load (t := 23) (x := .tmp 10) (p := ?lpk1b2) (v := ?lvk1b2) ?lgk1b2 ?lok1b2 ?lxk1b2 ?lrk1b2 ?lhk1b2); (case lgk1b2 => rfl); (case lok1b2 => rfl); (case lxk1b2 => rfl); (case lrk1b2 => exact lb2))
        | ((with_reducible refine step_load (t := 23) (x := .tmp 11) (p := ?lpk1c2) (v := ?lvk1c2) ?lgk1c2 ?lok1c2 ?lxk1c2 ?lrk1c2 ?lhk1c2); (case lgk1c2 => rfl); (case lok1c2 => rfl); (case lxk1c2 => rfl); (case lrk1c2 => exact lc2))
        | (go_at_call 34; (with_reducible refine (HQZ.out _ T2).mono ?_); rintro e w3 ⟨rfl, hb3⟩; have b3 := hb2.trans (hb3.mono hb2.size); have T3 := HI.out.next HT.out b3; have la3 := box_load (HA1.out.below b3 HA1.out.lt) HLA.out 0; have lb3 := box_load (HB1.out.below b3 HB1.out.lt) HLB.out 0; have lc3 := box_load (HC1.out.below b3 HC1.out.lt) HLC.out 0)
        | ((with_reducible refine step_load (t := 23) (x := .tmp 9) (p := ?lpk1a3) (v := ?lvk1a3) ?lgk1a3 ?lok1a3 ?lxk1a3 ?lrk1a3 ?lhk1a3); (case lgk1a3 => rfl); (case lok1a3 => rfl); (case lxk1a3 => rfl); (case lrk1a3 => exact la3))
        | ((with_reducible refine step_load (t := 23) (x := .tmp 11) (p := ?lpk1c3) (v := ?lvk1c3) ?lgk1c3 ?lok1c3 ?lxk1c3 ?lrk1c3 ?lhk1c3); (case lgk1c3 => rfl); (case lok1c3 => rfl); (case lxk1c3 => rfl); (case lrk1c3 => exact lc3))
        | (go_at_call 34; (with_reducible refine (HPZ.out _ T3).mono ?_); rintro e w4 ⟨rfl, hb4⟩; have b4 := b3.trans (hb4.mono b3.size); have T4 := HI.out.next HT.out b4; have la4 := box_load (HA1.out.below b4 HA1.out.lt) HLA.out 0; have lb4 := box_load (HB1.out.below b4 HB1.out.lt) HLB.out 0; have lc4 := box_load (HC1.out.below b4 HC1.out.lt) HLC.out 0)
        | ((with_reducible refine step_load (t := 23) (x := .tmp 9) (p := ?lpk1a4) (v := ?lvk1a4) ?lgk1a4 ?lok1a4 ?lxk1a4 ?lrk1a4 ?lhk1a4); (case lgk1a4 => rfl); (case lok1a4 => rfl); (case lxk1a4 => rfl); (case lrk1a4 => exact la4))
        | ((with_reducible refine step_load (t := 23) (x := .tmp 10) (p := ?lpk1b4) (v := ?lvk1b4) ?lgk1b4 ?lok1b4 ?lxk1b4 ?lrk1b4 ?lhk1b4); (case lgk1b4 => rfl); (case lok1b4 => rfl); (case lxk1b4 => rfl); (case lrk1b4 => exact lb4))
        | (go_at_call 35; (with_reducible refine (HRP.out _).mono ?_); rintro e w5 ⟨rfl, hb5⟩; have b5 := b4.trans (hb5.mono b4.size); have T5 := HI.out.next HT.out b5; have la5 := box_load (HA1.out.below b5 HA1.out.lt) HLA.out 0; have lb5 := box_load (HB1.out.below b5 HB1.out.lt) HLB.out 0; have lc5 := box_load (HC1.out.below b5 HC1.out.lt) HLC.out 0)
        | ((with_reducible refine step_load_w (t := 23) (x := .tmp 10) (p := ?lpk1b5) (v := ?lvk1b5) ?lgk1b5 ?lok1b5 ?lxk1b5 ?lrk1b5 ?lhk1b5); (case lok1b5 => rfl); (case lgk1b5 => rfl); (case lxk1b5 => rfl); (case lrk1b5 => exact lb5))
        | ((with_reducible refine step_load_w (t := 23) (x := .tmp 9) (p := ?lpk1a5) (v := ?lvk1a5) ?lgk1a5 ?lok1a5 ?lxk1a5 ?lrk1a5 ?lhk1a5); (case lok1a5 => rfl); (case lgk1a5 => rfl); (case lxk1a5 => rfl); (case lrk1a5 => exact la5))
        | (go_at_call 34; (with_reducible refine (HQP.out _ T5).mono ?_); rintro e w6 ⟨rfl, hb6⟩; have b6 := b5.trans (hb6.mono b5.size); have T6 := HI.out.next HT.out b6; have la6 := box_load (HA1.out.below b6 HA1.out.lt) HLA.out 0; have lb6 := box_load (HB1.out.below b6 HB1.out.lt) HLB.out 0; have lc6 := box_load (HC1.out.below b6 HC1.out.lt) HLC.out 0)
        | ((with_reducible refine step_load_w (t := 23) (x := .tmp 9) (p := ?lpk1a6) (v := ?lvk1a6) ?lgk1a6 ?lok1a6 ?lxk1a6 ?lrk1a6 ?lhk1a6); (case lok1a6 => rfl); (case lgk1a6 => rfl); (case lxk1a6 => rfl); (case lrk1a6 => exact la6))
        | ((with_reducible refine step_load_w (t := 23) (x := .tmp 10) (p := ?lpk1b6) (v := ?lvk1b6) ?lgk1b6 ?lok1b6 ?lxk1b6 ?lrk1b6 ?lhk1b6); (case lok1b6 => rfl); (case lgk1b6 => rfl); (case lxk1b6 => rfl); (case lrk1b6 => exact lb6))
        | ((with_reducible refine step_bin_w (op := .eql) (t := 23) (x := .tmp 70) (y := .tmp 71) (t2 := ?nbk1e) (u := ?nuk1e) (v := ?nvk1e) (r := ?nrk1e) ?nwk1e ?nok1e ?nxk1e ?nyk1e ?ngk1e ?nqk1e ?nhk1e); (case nok1e => rfl); (case nwk1e => rfl); (case nxk1e => rfl); (case nyk1e => rfl); (case ngk1e => exact HGD.out _); (case nqk1e => exact HID.out _))
        | (go_at_call 22; refine (awake_any HI.out _ T6).mono ?_; rintro e w7 ⟨rfl, hb7⟩; have b7 := b6.trans (hb7.mono b6.size)))
        go_ret
        exact ⟨rfl, HB.out.trans (b7.mono HB.out.size)⟩
      | false =>
        clear htot
        have la0 := box_load HA1.out HLA.out 0
        have lb0 := box_load HB1.out HLB.out 0
        go_enter Tryd.func10, Tryd.ntmps10
        go_upto_region 1 with fail
        refine wp_at HW.out.symm ?_
        rw [← HS.out]
        clear HW
        go_wp2_with (first
        | ((with_reducible refine step_load (t := 23) (x := .tmp 9) (p := ?lpk2a0) (v := ?lvk2a0) ?lgk2a0 ?lok2a0 ?lxk2a0 ?lrk2a0 ?lhk2a0); (case lgk2a0 => rfl); (case lok2a0 => rfl); (case lxk2a0 => rfl); (case lrk2a0 => exact la0))
        | ((with_reducible refine step_load (t := 23) (x := .tmp 10) (p := ?lpk2b0) (v := ?lvk2b0) ?lgk2b0 ?lok2b0 ?lxk2b0 ?lrk2b0 ?lhk2b0); (case lgk2b0 => rfl); (case lok2b0 => rfl); (case lxk2b0 => rfl); (case lrk2b0 => exact lb0))
        | (go_at_call 34; (with_reducible refine (HPQ.out _ HT.out).mono ?_); rintro e w2 ⟨rfl, hb2⟩; have T2 := HI.out.next HT.out hb2; have la2 := box_load (HA1.out.below hb2 HA1.out.lt) HLA.out 0; have lb2 := box_load (HB1.out.below hb2 HB1.out.lt) HLB.out 0; have lc2 := box_load (HC1.out.below hb2 HC1.out.lt) HLC.out 0)
        | ((with_reducible refine step_load (t := 23) (x := .tmp 10) (p := ?lpk2b2) (v := ?lvk2b2) ?lgk2b2 ?lok2b2 ?lxk2b2 ?lrk2b2 ?lhk2b2); (case lgk2b2 => rfl); (case lok2b2 => rfl); (case lxk2b2 => rfl); (case lrk2b2 => exact lb2))
        | ((with_reducible refine step_load (t := 23) (x := .tmp 11) (p := ?lpk2c2) (v := ?lvk2c2) ?lgk2c2 ?lok2c2 ?lxk2c2 ?lrk2c2 ?lhk2c2); (case lgk2c2 => rfl); (case lok2c2 => rfl); (case lxk2c2 => rfl); (case lrk2c2 => exact lc2))
        | (go_at_call 34; (with_reducible refine (HQZ.out _ T2).mono ?_); rintro e w3 ⟨rfl, hb3⟩; have b3 := hb2.trans (hb3.mono hb2.size); have T3 := HI.out.next HT.out b3; have la3 := box_load (HA1.out.below b3 HA1.out.lt) HLA.out 0; have lb3 := box_load (HB1.out.below b3 HB1.out.lt) HLB.out 0; have lc3 := box_load (HC1.out.below b3 HC1.out.lt) HLC.out 0)
        | ((with_reducible refine step_load (t := 23) (x := .tmp 9) (p := ?lpk2a3) (v := ?lvk2a3) ?lgk2a3 ?lok2a3 ?lxk2a3 ?lrk2a3 ?lhk2a3); (case lgk2a3 => rfl); (case lok2a3 => rfl); (case lxk2a3 => rfl); (case lrk2a3 => exact la3))
        | ((with_reducible refine step_load (t := 23) (x := .tmp 11) (p := ?lpk2c3) (v := ?lvk2c3) ?lgk2c3 ?lok2c3 ?lxk2c3 ?lrk2c3 ?lhk2c3); (case lgk2c3 => rfl); (case lok2c3 => rfl); (case lxk2c3 => rfl); (case lrk2c3 => exact lc3))
        | (go_at_call 34; (with_reducible refine (HPZ.out _ T3).mono ?_); rintro e w4 ⟨rfl, hb4⟩; have b4 := b3.trans (hb4.mono b3.size); have T4 := HI.out.next HT.out b4; have la4 := box_load (HA1.out.below b4 HA1.out.lt) HLA.out 0; have lb4 := box_load (HB1.out.below b4 HB1.out.lt) HLB.out 0; have lc4 := box_load (HC1.out.below b4 HC1.out.lt) HLC.out 0)
        | ((with_reducible refine step_load (t := 23) (x := .tmp 9) (p := ?lpk2a4) (v := ?lvk2a4) ?lgk2a4 ?lok2a4 ?lxk2a4 ?lrk2a4 ?lhk2a4); (case lgk2a4 => rfl); (case lok2a4 => rfl); (case lxk2a4 => rfl); (case lrk2a4 => exact la4))
        | ((with_reducible refine step_load (t := 23) (x := .tmp 10) (p := ?lpk2b4) (v := ?lvk2b4) ?lgk2b4 ?lok2b4 ?lxk2b4 ?lrk2b4 ?lhk2b4); (case lgk2b4 => rfl); (case lok2b4 => rfl); (case lxk2b4 => rfl); (case lrk2b4 => exact lb4))
        | (go_at_call 35; (with_reducible refine (HRP.out _).mono ?_); rintro e w5 ⟨rfl, hb5⟩; have b5 := b4.trans (hb5.mono b4.size); have T5 := HI.out.next HT.out b5; have la5 := box_load (HA1.out.below b5 HA1.out.lt) HLA.out 0; have lb5 := box_load (HB1.out.below b5 HB1.out.lt) HLB.out 0; have lc5 := box_load (HC1.out.below b5 HC1.out.lt) HLC.out 0)
        | ((with_reducible refine step_load_w (t := 23) (x := .tmp 10) (p := ?lpk2b5) (v := ?lvk2b5) ?lgk2b5 ?lok2b5 ?lxk2b5 ?lrk2b5 ?lhk2b5); (case lok2b5 => rfl); (case lgk2b5 => rfl); (case lxk2b5 => rfl); (case lrk2b5 => exact lb5))
        | ((with_reducible refine step_load_w (t := 23) (x := .tmp 9) (p := ?lpk2a5) (v := ?lvk2a5) ?lgk2a5 ?lok2a5 ?lxk2a5 ?lrk2a5 ?lhk2a5); (case lok2a5 => rfl); (case lgk2a5 => rfl); (case lxk2a5 => rfl); (case lrk2a5 => exact la5))
        | (go_at_call 34; (with_reducible refine (HQP.out _ T5).mono ?_); rintro e w6 ⟨rfl, hb6⟩; have b6 := b5.trans (hb6.mono b5.size); have T6 := HI.out.next HT.out b6; have la6 := box_load (HA1.out.below b6 HA1.out.lt) HLA.out 0; have lb6 := box_load (HB1.out.below b6 HB1.out.lt) HLB.out 0; have lc6 := box_load (HC1.out.below b6 HC1.out.lt) HLC.out 0)
        | ((with_reducible refine step_load_w (t := 23) (x := .tmp 9) (p := ?lpk2a6) (v := ?lvk2a6) ?lgk2a6 ?lok2a6 ?lxk2a6 ?lrk2a6 ?lhk2a6); (case lok2a6 => rfl); (case lgk2a6 => rfl); (case lxk2a6 => rfl); (case lrk2a6 => exact la6))
        | ((with_reducible refine step_load_w (t := 23) (x := .tmp 10) (p := ?lpk2b6) (v := ?lvk2b6) ?lgk2b6 ?lok2b6 ?lxk2b6 ?lrk2b6 ?lhk2b6); (case lok2b6 => rfl); (case lgk2b6 => rfl); (case lxk2b6 => rfl); (case lrk2b6 => exact lb6))
        | ((with_reducible refine step_bin_w (op := .eql) (t := 23) (x := .tmp 70) (y := .tmp 71) (t2 := ?nbk2e) (u := ?nuk2e) (v := ?nvk2e) (r := ?nrk2e) ?nwk2e ?nok2e ?nxk2e ?nyk2e ?ngk2e ?nqk2e ?nhk2e); (case nok2e => rfl); (case nwk2e => rfl); (case nxk2e => rfl); (case nyk2e => rfl); (case ngk2e => exact HGD.out _); (case nqk2e => exact HID.out _))
        | (go_at_call 22; refine (awake_any HI.out _ T6).mono ?_; rintro e w7 ⟨rfl, hb7⟩; have b7 := b6.trans (hb7.mono b6.size)))
        go_ret
        exact ⟨rfl, HB.out.trans (b7.mono HB.out.size)⟩
    | false =>
      clear hanti htr
      cases e1 with
      | true =>
        obtain rfl : e2 = false := by cases e2 <;> simp at htot ⊢
        clear htot
        have la0 := box_load HA1.out HLA.out 0
        have lb0 := box_load HB1.out HLB.out 0
        go_enter Tryd.func10, Tryd.ntmps10
        go_upto_region 1 with fail
        refine wp_at HW.out.symm ?_
        rw [← HS.out]
        clear HW
        go_wp2_with (first
        | ((with_reducible refine step_load (t := 23) (x := .tmp 9) (p := ?lpk3a0) (v := ?lvk3a0) ?lgk3a0 ?lok3a0 ?lxk3a0 ?lrk3a0 ?lhk3a0); (case lgk3a0 => rfl); (case lok3a0 => rfl); (case lxk3a0 => rfl); (case lrk3a0 => exact la0))
        | ((with_reducible refine step_load (t := 23) (x := .tmp 10) (p := ?lpk3b0) (v := ?lvk3b0) ?lgk3b0 ?lok3b0 ?lxk3b0 ?lrk3b0 ?lhk3b0); (case lgk3b0 => rfl); (case lok3b0 => rfl); (case lxk3b0 => rfl); (case lrk3b0 => exact lb0))
        | (go_at_call 34; (with_reducible refine (HPQ.out _ HT.out).mono ?_); rintro e w2 ⟨rfl, hb2⟩; have T2 := HI.out.next HT.out hb2; have la2 := box_load (HA1.out.below hb2 HA1.out.lt) HLA.out 0; have lb2 := box_load (HB1.out.below hb2 HB1.out.lt) HLB.out 0; have lc2 := box_load (HC1.out.below hb2 HC1.out.lt) HLC.out 0)
        | ((with_reducible refine step_load (t := 23) (x := .tmp 10) (p := ?lpk3b2) (v := ?lvk3b2) ?lgk3b2 ?lok3b2 ?lxk3b2 ?lrk3b2 ?lhk3b2); (case lgk3b2 => rfl); (case lok3b2 => rfl); (case lxk3b2 => rfl); (case lrk3b2 => exact lb2))
        | ((with_reducible refine step_load (t := 23) (x := .tmp 11) (p := ?lpk3c2) (v := ?lvk3c2) ?lgk3c2 ?lok3c2 ?lxk3c2 ?lrk3c2 ?lhk3c2); (case lgk3c2 => rfl); (case lok3c2 => rfl); (case lxk3c2 => rfl); (case lrk3c2 => exact lc2))
        | (go_at_call 34; (with_reducible refine (HQZ.out _ T2).mono ?_); rintro e w3 ⟨rfl, hb3⟩; have b3 := hb2.trans (hb3.mono hb2.size); have T3 := HI.out.next HT.out b3; have la3 := box_load (HA1.out.below b3 HA1.out.lt) HLA.out 0; have lb3 := box_load (HB1.out.below b3 HB1.out.lt) HLB.out 0; have lc3 := box_load (HC1.out.below b3 HC1.out.lt) HLC.out 0)
        | ((with_reducible refine step_load (t := 23) (x := .tmp 9) (p := ?lpk3a3) (v := ?lvk3a3) ?lgk3a3 ?lok3a3 ?lxk3a3 ?lrk3a3 ?lhk3a3); (case lgk3a3 => rfl); (case lok3a3 => rfl); (case lxk3a3 => rfl); (case lrk3a3 => exact la3))
        | ((with_reducible refine step_load (t := 23) (x := .tmp 11) (p := ?lpk3c3) (v := ?lvk3c3) ?lgk3c3 ?lok3c3 ?lxk3c3 ?lrk3c3 ?lhk3c3); (case lgk3c3 => rfl); (case lok3c3 => rfl); (case lxk3c3 => rfl); (case lrk3c3 => exact lc3))
        | (go_at_call 34; (with_reducible refine (HPZ.out _ T3).mono ?_); rintro e w4 ⟨rfl, hb4⟩; have b4 := b3.trans (hb4.mono b3.size); have T4 := HI.out.next HT.out b4; have la4 := box_load (HA1.out.below b4 HA1.out.lt) HLA.out 0; have lb4 := box_load (HB1.out.below b4 HB1.out.lt) HLB.out 0; have lc4 := box_load (HC1.out.below b4 HC1.out.lt) HLC.out 0)
        | ((with_reducible refine step_load (t := 23) (x := .tmp 9) (p := ?lpk3a4) (v := ?lvk3a4) ?lgk3a4 ?lok3a4 ?lxk3a4 ?lrk3a4 ?lhk3a4); (case lgk3a4 => rfl); (case lok3a4 => rfl); (case lxk3a4 => rfl); (case lrk3a4 => exact la4))
        | ((with_reducible refine step_load (t := 23) (x := .tmp 10) (p := ?lpk3b4) (v := ?lvk3b4) ?lgk3b4 ?lok3b4 ?lxk3b4 ?lrk3b4 ?lhk3b4); (case lgk3b4 => rfl); (case lok3b4 => rfl); (case lxk3b4 => rfl); (case lrk3b4 => exact lb4))
        | (go_at_call 35; (with_reducible refine (HRP.out _).mono ?_); rintro e w5 ⟨rfl, hb5⟩; have b5 := b4.trans (hb5.mono b4.size); have T5 := HI.out.next HT.out b5; have la5 := box_load (HA1.out.below b5 HA1.out.lt) HLA.out 0; have lb5 := box_load (HB1.out.below b5 HB1.out.lt) HLB.out 0; have lc5 := box_load (HC1.out.below b5 HC1.out.lt) HLC.out 0)
        | ((with_reducible refine step_load_w (t := 23) (x := .tmp 10) (p := ?lpk3b5) (v := ?lvk3b5) ?lgk3b5 ?lok3b5 ?lxk3b5 ?lrk3b5 ?lhk3b5); (case lok3b5 => rfl); (case lgk3b5 => rfl); (case lxk3b5 => rfl); (case lrk3b5 => exact lb5))
        | ((with_reducible refine step_load_w (t := 23) (x := .tmp 9) (p := ?lpk3a5) (v := ?lvk3a5) ?lgk3a5 ?lok3a5 ?lxk3a5 ?lrk3a5 ?lhk3a5); (case lok3a5 => rfl); (case lgk3a5 => rfl); (case lxk3a5 => rfl); (case lrk3a5 => exact la5))
        | (go_at_call 34; (with_reducible refine (HQP.out _ T5).mono ?_); rintro e w6 ⟨rfl, hb6⟩; have b6 := b5.trans (hb6.mono b5.size); have T6 := HI.out.next HT.out b6; have la6 := box_load (HA1.out.below b6 HA1.out.lt) HLA.out 0; have lb6 := box_load (HB1.out.below b6 HB1.out.lt) HLB.out 0; have lc6 := box_load (HC1.out.below b6 HC1.out.lt) HLC.out 0)
        | ((with_reducible refine step_load_w (t := 23) (x := .tmp 9) (p := ?lpk3a6) (v := ?lvk3a6) ?lgk3a6 ?lok3a6 ?lxk3a6 ?lrk3a6 ?lhk3a6); (case lok3a6 => rfl); (case lgk3a6 => rfl); (case lxk3a6 => rfl); (case lrk3a6 => exact la6))
        | ((with_reducible refine step_load_w (t := 23) (x := .tmp 10) (p := ?lpk3b6) (v := ?lvk3b6) ?lgk3b6 ?lok3b6 ?lxk3b6 ?lrk3b6 ?lhk3b6); (case lok3b6 => rfl); (case lgk3b6 => rfl); (case lxk3b6 => rfl); (case lrk3b6 => exact lb6))
        | ((with_reducible refine step_bin_w (op := .eql) (t := 23) (x := .tmp 70) (y := .tmp 71) (t2 := ?nbk3e) (u := ?nuk3e) (v := ?nvk3e) (r := ?nrk3e) ?nwk3e ?nok3e ?nxk3e ?nyk3e ?ngk3e ?nqk3e ?nhk3e); (case nok3e => rfl); (case nwk3e => rfl); (case nxk3e => rfl); (case nyk3e => rfl); (case ngk3e => exact HGD.out _); (case nqk3e => exact HID.out _))
        | (go_at_call 22; refine (awake_any HI.out _ T6).mono ?_; rintro e w7 ⟨rfl, hb7⟩; have b7 := b6.trans (hb7.mono b6.size)))
        go_ret
        exact ⟨rfl, HB.out.trans (b7.mono HB.out.size)⟩
      | false =>
        clear htot
        have la0 := box_load HA1.out HLA.out 0
        have lb0 := box_load HB1.out HLB.out 0
        go_enter Tryd.func10, Tryd.ntmps10
        go_upto_region 1 with fail
        refine wp_at HW.out.symm ?_
        rw [← HS.out]
        clear HW
        go_wp2_with (first
        | ((with_reducible refine step_load (t := 23) (x := .tmp 9) (p := ?lpk4a0) (v := ?lvk4a0) ?lgk4a0 ?lok4a0 ?lxk4a0 ?lrk4a0 ?lhk4a0); (case lgk4a0 => rfl); (case lok4a0 => rfl); (case lxk4a0 => rfl); (case lrk4a0 => exact la0))
        | ((with_reducible refine step_load (t := 23) (x := .tmp 10) (p := ?lpk4b0) (v := ?lvk4b0) ?lgk4b0 ?lok4b0 ?lxk4b0 ?lrk4b0 ?lhk4b0); (case lgk4b0 => rfl); (case lok4b0 => rfl); (case lxk4b0 => rfl); (case lrk4b0 => exact lb0))
        | (go_at_call 34; (with_reducible refine (HPQ.out _ HT.out).mono ?_); rintro e w2 ⟨rfl, hb2⟩; have T2 := HI.out.next HT.out hb2; have la2 := box_load (HA1.out.below hb2 HA1.out.lt) HLA.out 0; have lb2 := box_load (HB1.out.below hb2 HB1.out.lt) HLB.out 0; have lc2 := box_load (HC1.out.below hb2 HC1.out.lt) HLC.out 0)
        | ((with_reducible refine step_load (t := 23) (x := .tmp 10) (p := ?lpk4b2) (v := ?lvk4b2) ?lgk4b2 ?lok4b2 ?lxk4b2 ?lrk4b2 ?lhk4b2); (case lgk4b2 => rfl); (case lok4b2 => rfl); (case lxk4b2 => rfl); (case lrk4b2 => exact lb2))
        | ((with_reducible refine step_load (t := 23) (x := .tmp 11) (p := ?lpk4c2) (v := ?lvk4c2) ?lgk4c2 ?lok4c2 ?lxk4c2 ?lrk4c2 ?lhk4c2); (case lgk4c2 => rfl); (case lok4c2 => rfl); (case lxk4c2 => rfl); (case lrk4c2 => exact lc2))
        | (go_at_call 34; (with_reducible refine (HQZ.out _ T2).mono ?_); rintro e w3 ⟨rfl, hb3⟩; have b3 := hb2.trans (hb3.mono hb2.size); have T3 := HI.out.next HT.out b3; have la3 := box_load (HA1.out.below b3 HA1.out.lt) HLA.out 0; have lb3 := box_load (HB1.out.below b3 HB1.out.lt) HLB.out 0; have lc3 := box_load (HC1.out.below b3 HC1.out.lt) HLC.out 0)
        | ((with_reducible refine step_load (t := 23) (x := .tmp 9) (p := ?lpk4a3) (v := ?lvk4a3) ?lgk4a3 ?lok4a3 ?lxk4a3 ?lrk4a3 ?lhk4a3); (case lgk4a3 => rfl); (case lok4a3 => rfl); (case lxk4a3 => rfl); (case lrk4a3 => exact la3))
        | ((with_reducible refine step_load (t := 23) (x := .tmp 11) (p := ?lpk4c3) (v := ?lvk4c3) ?lgk4c3 ?lok4c3 ?lxk4c3 ?lrk4c3 ?lhk4c3); (case lgk4c3 => rfl); (case lok4c3 => rfl); (case lxk4c3 => rfl); (case lrk4c3 => exact lc3))
        | (go_at_call 34; (with_reducible refine (HPZ.out _ T3).mono ?_); rintro e w4 ⟨rfl, hb4⟩; have b4 := b3.trans (hb4.mono b3.size); have T4 := HI.out.next HT.out b4; have la4 := box_load (HA1.out.below b4 HA1.out.lt) HLA.out 0; have lb4 := box_load (HB1.out.below b4 HB1.out.lt) HLB.out 0; have lc4 := box_load (HC1.out.below b4 HC1.out.lt) HLC.out 0)
        | ((with_reducible refine step_load (t := 23) (x := .tmp 9) (p := ?lpk4a4) (v := ?lvk4a4) ?lgk4a4 ?lok4a4 ?lxk4a4 ?lrk4a4 ?lhk4a4); (case lgk4a4 => rfl); (case lok4a4 => rfl); (case lxk4a4 => rfl); (case lrk4a4 => exact la4))
        | ((with_reducible refine step_load (t := 23) (x := .tmp 10) (p := ?lpk4b4) (v := ?lvk4b4) ?lgk4b4 ?lok4b4 ?lxk4b4 ?lrk4b4 ?lhk4b4); (case lgk4b4 => rfl); (case lok4b4 => rfl); (case lxk4b4 => rfl); (case lrk4b4 => exact lb4))
        | (go_at_call 35; (with_reducible refine (HRP.out _).mono ?_); rintro e w5 ⟨rfl, hb5⟩; have b5 := b4.trans (hb5.mono b4.size); have T5 := HI.out.next HT.out b5; have la5 := box_load (HA1.out.below b5 HA1.out.lt) HLA.out 0; have lb5 := box_load (HB1.out.below b5 HB1.out.lt) HLB.out 0; have lc5 := box_load (HC1.out.below b5 HC1.out.lt) HLC.out 0)
        | ((with_reducible refine step_load_w (t := 23) (x := .tmp 10) (p := ?lpk4b5) (v := ?lvk4b5) ?lgk4b5 ?lok4b5 ?lxk4b5 ?lrk4b5 ?lhk4b5); (case lok4b5 => rfl); (case lgk4b5 => rfl); (case lxk4b5 => rfl); (case lrk4b5 => exact lb5))
        | ((with_reducible refine step_load_w (t := 23) (x := .tmp 9) (p := ?lpk4a5) (v := ?lvk4a5) ?lgk4a5 ?lok4a5 ?lxk4a5 ?lrk4a5 ?lhk4a5); (case lok4a5 => rfl); (case lgk4a5 => rfl); (case lxk4a5 => rfl); (case lrk4a5 => exact la5))
        | (go_at_call 34; (with_reducible refine (HQP.out _ T5).mono ?_); rintro e w6 ⟨rfl, hb6⟩; have b6 := b5.trans (hb6.mono b5.size); have T6 := HI.out.next HT.out b6; have la6 := box_load (HA1.out.below b6 HA1.out.lt) HLA.out 0; have lb6 := box_load (HB1.out.below b6 HB1.out.lt) HLB.out 0; have lc6 := box_load (HC1.out.below b6 HC1.out.lt) HLC.out 0)
        | ((with_reducible refine step_load_w (t := 23) (x := .tmp 9) (p := ?lpk4a6) (v := ?lvk4a6) ?lgk4a6 ?lok4a6 ?lxk4a6 ?lrk4a6 ?lhk4a6); (case lok4a6 => rfl); (case lgk4a6 => rfl); (case lxk4a6 => rfl); (case lrk4a6 => exact la6))
        | ((with_reducible refine step_load_w (t := 23) (x := .tmp 10) (p := ?lpk4b6) (v := ?lvk4b6) ?lgk4b6 ?lok4b6 ?lxk4b6 ?lrk4b6 ?lhk4b6); (case lok4b6 => rfl); (case lgk4b6 => rfl); (case lxk4b6 => rfl); (case lrk4b6 => exact lb6))
        | ((with_reducible refine step_bin_w (op := .eql) (t := 23) (x := .tmp 70) (y := .tmp 71) (t2 := ?nbk4e) (u := ?nuk4e) (v := ?nvk4e) (r := ?nrk4e) ?nwk4e ?nok4e ?nxk4e ?nyk4e ?ngk4e ?nqk4e ?nhk4e); (case nok4e => rfl); (case nwk4e => rfl); (case nxk4e => rfl); (case nyk4e => rfl); (case ngk4e => exact HGD.out _); (case nqk4e => exact HID.out _))
        | (go_at_call 22; refine (awake_any HI.out _ T6).mono ?_; rintro e w7 ⟨rfl, hb7⟩; have b7 := b6.trans (hb7.mono b6.size)))
        go_ret
        exact ⟨rfl, HB.out.trans (b7.mono HB.out.size)⟩
  | false =>
    cases q with
    | true =>
      clear hanti htr
      cases t with
      | true =>
        cases e1 with
        | true =>
          obtain rfl : e2 = false := by cases e2 <;> simp at htot ⊢
          clear htot
          have la0 := box_load HA1.out HLA.out 0
          have lb0 := box_load HB1.out HLB.out 0
          go_enter Tryd.func10, Tryd.ntmps10
          go_upto_region 1 with fail
          refine wp_at HW.out.symm ?_
          rw [← HS.out]
          clear HW
          go_wp2_with (first
        | ((with_reducible refine step_load (t := 23) (x := .tmp 9) (p := ?lpk5a0) (v := ?lvk5a0) ?lgk5a0 ?lok5a0 ?lxk5a0 ?lrk5a0 ?lhk5a0); (case lgk5a0 => rfl); (case lok5a0 => rfl); (case lxk5a0 => rfl); (case lrk5a0 => exact la0))
        | ((with_reducible refine step_load (t := 23) (x := .tmp 10) (p := ?lpk5b0) (v := ?lvk5b0) ?lgk5b0 ?lok5b0 ?lxk5b0 ?lrk5b0 ?lhk5b0); (case lgk5b0 => rfl); (case lok5b0 => rfl); (case lxk5b0 => rfl); (case lrk5b0 => exact lb0))
        | (go_at_call 34; (with_reducible refine (HPQ.out _ HT.out).mono ?_); rintro e w2 ⟨rfl, hb2⟩; have T2 := HI.out.next HT.out hb2; have la2 := box_load (HA1.out.below hb2 HA1.out.lt) HLA.out 0; have lb2 := box_load (HB1.out.below hb2 HB1.out.lt) HLB.out 0; have lc2 := box_load (HC1.out.below hb2 HC1.out.lt) HLC.out 0)
        | ((with_reducible refine step_load (t := 23) (x := .tmp 10) (p := ?lpk5b2) (v := ?lvk5b2) ?lgk5b2 ?lok5b2 ?lxk5b2 ?lrk5b2 ?lhk5b2); (case lgk5b2 => rfl); (case lok5b2 => rfl); (case lxk5b2 => rfl); (case lrk5b2 => exact lb2))
        | ((with_reducible refine step_load (t := 23) (x := .tmp 11) (p := ?lpk5c2) (v := ?lvk5c2) ?lgk5c2 ?lok5c2 ?lxk5c2 ?lrk5c2 ?lhk5c2); (case lgk5c2 => rfl); (case lok5c2 => rfl); (case lxk5c2 => rfl); (case lrk5c2 => exact lc2))
        | (go_at_call 34; (with_reducible refine (HQZ.out _ T2).mono ?_); rintro e w3 ⟨rfl, hb3⟩; have b3 := hb2.trans (hb3.mono hb2.size); have T3 := HI.out.next HT.out b3; have la3 := box_load (HA1.out.below b3 HA1.out.lt) HLA.out 0; have lb3 := box_load (HB1.out.below b3 HB1.out.lt) HLB.out 0; have lc3 := box_load (HC1.out.below b3 HC1.out.lt) HLC.out 0)
        | ((with_reducible refine step_load (t := 23) (x := .tmp 9) (p := ?lpk5a3) (v := ?lvk5a3) ?lgk5a3 ?lok5a3 ?lxk5a3 ?lrk5a3 ?lhk5a3); (case lgk5a3 => rfl); (case lok5a3 => rfl); (case lxk5a3 => rfl); (case lrk5a3 => exact la3))
        | ((with_reducible refine step_load (t := 23) (x := .tmp 11) (p := ?lpk5c3) (v := ?lvk5c3) ?lgk5c3 ?lok5c3 ?lxk5c3 ?lrk5c3 ?lhk5c3); (case lgk5c3 => rfl); (case lok5c3 => rfl); (case lxk5c3 => rfl); (case lrk5c3 => exact lc3))
        | (go_at_call 34; (with_reducible refine (HPZ.out _ T3).mono ?_); rintro e w4 ⟨rfl, hb4⟩; have b4 := b3.trans (hb4.mono b3.size); have T4 := HI.out.next HT.out b4; have la4 := box_load (HA1.out.below b4 HA1.out.lt) HLA.out 0; have lb4 := box_load (HB1.out.below b4 HB1.out.lt) HLB.out 0; have lc4 := box_load (HC1.out.below b4 HC1.out.lt) HLC.out 0)
        | ((with_reducible refine step_load (t := 23) (x := .tmp 9) (p := ?lpk5a4) (v := ?lvk5a4) ?lgk5a4 ?lok5a4 ?lxk5a4 ?lrk5a4 ?lhk5a4); (case lgk5a4 => rfl); (case lok5a4 => rfl); (case lxk5a4 => rfl); (case lrk5a4 => exact la4))
        | ((with_reducible refine step_load (t := 23) (x := .tmp 10) (p := ?lpk5b4) (v := ?lvk5b4) ?lgk5b4 ?lok5b4 ?lxk5b4 ?lrk5b4 ?lhk5b4); (case lgk5b4 => rfl); (case lok5b4 => rfl); (case lxk5b4 => rfl); (case lrk5b4 => exact lb4))
        | (go_at_call 35; (with_reducible refine (HRP.out _).mono ?_); rintro e w5 ⟨rfl, hb5⟩; have b5 := b4.trans (hb5.mono b4.size); have T5 := HI.out.next HT.out b5; have la5 := box_load (HA1.out.below b5 HA1.out.lt) HLA.out 0; have lb5 := box_load (HB1.out.below b5 HB1.out.lt) HLB.out 0; have lc5 := box_load (HC1.out.below b5 HC1.out.lt) HLC.out 0)
        | ((with_reducible refine step_load_w (t := 23) (x := .tmp 10) (p := ?lpk5b5) (v := ?lvk5b5) ?lgk5b5 ?lok5b5 ?lxk5b5 ?lrk5b5 ?lhk5b5); (case lok5b5 => rfl); (case lgk5b5 => rfl); (case lxk5b5 => rfl); (case lrk5b5 => exact lb5))
        | ((with_reducible refine step_load_w (t := 23) (x := .tmp 9) (p := ?lpk5a5) (v := ?lvk5a5) ?lgk5a5 ?lok5a5 ?lxk5a5 ?lrk5a5 ?lhk5a5); (case lok5a5 => rfl); (case lgk5a5 => rfl); (case lxk5a5 => rfl); (case lrk5a5 => exact la5))
        | (go_at_call 34; (with_reducible refine (HQP.out _ T5).mono ?_); rintro e w6 ⟨rfl, hb6⟩; have b6 := b5.trans (hb6.mono b5.size); have T6 := HI.out.next HT.out b6; have la6 := box_load (HA1.out.below b6 HA1.out.lt) HLA.out 0; have lb6 := box_load (HB1.out.below b6 HB1.out.lt) HLB.out 0; have lc6 := box_load (HC1.out.below b6 HC1.out.lt) HLC.out 0)
        | ((with_reducible refine step_load_w (t := 23) (x := .tmp 9) (p := ?lpk5a6) (v := ?lvk5a6) ?lgk5a6 ?lok5a6 ?lxk5a6 ?lrk5a6 ?lhk5a6); (case lok5a6 => rfl); (case lgk5a6 => rfl); (case lxk5a6 => rfl); (case lrk5a6 => exact la6))
        | ((with_reducible refine step_load_w (t := 23) (x := .tmp 10) (p := ?lpk5b6) (v := ?lvk5b6) ?lgk5b6 ?lok5b6 ?lxk5b6 ?lrk5b6 ?lhk5b6); (case lok5b6 => rfl); (case lgk5b6 => rfl); (case lxk5b6 => rfl); (case lrk5b6 => exact lb6))
        | ((with_reducible refine step_bin_w (op := .eql) (t := 23) (x := .tmp 70) (y := .tmp 71) (t2 := ?nbk5e) (u := ?nuk5e) (v := ?nvk5e) (r := ?nrk5e) ?nwk5e ?nok5e ?nxk5e ?nyk5e ?ngk5e ?nqk5e ?nhk5e); (case nok5e => rfl); (case nwk5e => rfl); (case nxk5e => rfl); (case nyk5e => rfl); (case ngk5e => exact HGD.out _); (case nqk5e => exact HID.out _))
        | (go_at_call 22; refine (awake_any HI.out _ T6).mono ?_; rintro e w7 ⟨rfl, hb7⟩; have b7 := b6.trans (hb7.mono b6.size)))
          go_ret
          exact ⟨rfl, HB.out.trans (b7.mono HB.out.size)⟩
        | false =>
          clear htot
          have la0 := box_load HA1.out HLA.out 0
          have lb0 := box_load HB1.out HLB.out 0
          go_enter Tryd.func10, Tryd.ntmps10
          go_upto_region 1 with fail
          refine wp_at HW.out.symm ?_
          rw [← HS.out]
          clear HW
          go_wp2_with (first
        | ((with_reducible refine step_load (t := 23) (x := .tmp 9) (p := ?lpk6a0) (v := ?lvk6a0) ?lgk6a0 ?lok6a0 ?lxk6a0 ?lrk6a0 ?lhk6a0); (case lgk6a0 => rfl); (case lok6a0 => rfl); (case lxk6a0 => rfl); (case lrk6a0 => exact la0))
        | ((with_reducible refine step_load (t := 23) (x := .tmp 10) (p := ?lpk6b0) (v := ?lvk6b0) ?lgk6b0 ?lok6b0 ?lxk6b0 ?lrk6b0 ?lhk6b0); (case lgk6b0 => rfl); (case lok6b0 => rfl); (case lxk6b0 => rfl); (case lrk6b0 => exact lb0))
        | (go_at_call 34; (with_reducible refine (HPQ.out _ HT.out).mono ?_); rintro e w2 ⟨rfl, hb2⟩; have T2 := HI.out.next HT.out hb2; have la2 := box_load (HA1.out.below hb2 HA1.out.lt) HLA.out 0; have lb2 := box_load (HB1.out.below hb2 HB1.out.lt) HLB.out 0; have lc2 := box_load (HC1.out.below hb2 HC1.out.lt) HLC.out 0)
        | ((with_reducible refine step_load (t := 23) (x := .tmp 10) (p := ?lpk6b2) (v := ?lvk6b2) ?lgk6b2 ?lok6b2 ?lxk6b2 ?lrk6b2 ?lhk6b2); (case lgk6b2 => rfl); (case lok6b2 => rfl); (case lxk6b2 => rfl); (case lrk6b2 => exact lb2))
        | ((with_reducible refine step_load (t := 23) (x := .tmp 11) (p := ?lpk6c2) (v := ?lvk6c2) ?lgk6c2 ?lok6c2 ?lxk6c2 ?lrk6c2 ?lhk6c2); (case lgk6c2 => rfl); (case lok6c2 => rfl); (case lxk6c2 => rfl); (case lrk6c2 => exact lc2))
        | (go_at_call 34; (with_reducible refine (HQZ.out _ T2).mono ?_); rintro e w3 ⟨rfl, hb3⟩; have b3 := hb2.trans (hb3.mono hb2.size); have T3 := HI.out.next HT.out b3; have la3 := box_load (HA1.out.below b3 HA1.out.lt) HLA.out 0; have lb3 := box_load (HB1.out.below b3 HB1.out.lt) HLB.out 0; have lc3 := box_load (HC1.out.below b3 HC1.out.lt) HLC.out 0)
        | ((with_reducible refine step_load (t := 23) (x := .tmp 9) (p := ?lpk6a3) (v := ?lvk6a3) ?lgk6a3 ?lok6a3 ?lxk6a3 ?lrk6a3 ?lhk6a3); (case lgk6a3 => rfl); (case lok6a3 => rfl); (case lxk6a3 => rfl); (case lrk6a3 => exact la3))
        | ((with_reducible refine step_load (t := 23) (x := .tmp 11) (p := ?lpk6c3) (v := ?lvk6c3) ?lgk6c3 ?lok6c3 ?lxk6c3 ?lrk6c3 ?lhk6c3); (case lgk6c3 => rfl); (case lok6c3 => rfl); (case lxk6c3 => rfl); (case lrk6c3 => exact lc3))
        | (go_at_call 34; (with_reducible refine (HPZ.out _ T3).mono ?_); rintro e w4 ⟨rfl, hb4⟩; have b4 := b3.trans (hb4.mono b3.size); have T4 := HI.out.next HT.out b4; have la4 := box_load (HA1.out.below b4 HA1.out.lt) HLA.out 0; have lb4 := box_load (HB1.out.below b4 HB1.out.lt) HLB.out 0; have lc4 := box_load (HC1.out.below b4 HC1.out.lt) HLC.out 0)
        | ((with_reducible refine step_load (t := 23) (x := .tmp 9) (p := ?lpk6a4) (v := ?lvk6a4) ?lgk6a4 ?lok6a4 ?lxk6a4 ?lrk6a4 ?lhk6a4); (case lgk6a4 => rfl); (case lok6a4 => rfl); (case lxk6a4 => rfl); (case lrk6a4 => exact la4))
        | ((with_reducible refine step_load (t := 23) (x := .tmp 10) (p := ?lpk6b4) (v := ?lvk6b4) ?lgk6b4 ?lok6b4 ?lxk6b4 ?lrk6b4 ?lhk6b4); (case lgk6b4 => rfl); (case lok6b4 => rfl); (case lxk6b4 => rfl); (case lrk6b4 => exact lb4))
        | (go_at_call 35; (with_reducible refine (HRP.out _).mono ?_); rintro e w5 ⟨rfl, hb5⟩; have b5 := b4.trans (hb5.mono b4.size); have T5 := HI.out.next HT.out b5; have la5 := box_load (HA1.out.below b5 HA1.out.lt) HLA.out 0; have lb5 := box_load (HB1.out.below b5 HB1.out.lt) HLB.out 0; have lc5 := box_load (HC1.out.below b5 HC1.out.lt) HLC.out 0)
        | ((with_reducible refine step_load_w (t := 23) (x := .tmp 10) (p := ?lpk6b5) (v := ?lvk6b5) ?lgk6b5 ?lok6b5 ?lxk6b5 ?lrk6b5 ?lhk6b5); (case lok6b5 => rfl); (case lgk6b5 => rfl); (case lxk6b5 => rfl); (case lrk6b5 => exact lb5))
        | ((with_reducible refine step_load_w (t := 23) (x := .tmp 9) (p := ?lpk6a5) (v := ?lvk6a5) ?lgk6a5 ?lok6a5 ?lxk6a5 ?lrk6a5 ?lhk6a5); (case lok6a5 => rfl); (case lgk6a5 => rfl); (case lxk6a5 => rfl); (case lrk6a5 => exact la5))
        | (go_at_call 34; (with_reducible refine (HQP.out _ T5).mono ?_); rintro e w6 ⟨rfl, hb6⟩; have b6 := b5.trans (hb6.mono b5.size); have T6 := HI.out.next HT.out b6; have la6 := box_load (HA1.out.below b6 HA1.out.lt) HLA.out 0; have lb6 := box_load (HB1.out.below b6 HB1.out.lt) HLB.out 0; have lc6 := box_load (HC1.out.below b6 HC1.out.lt) HLC.out 0)
        | ((with_reducible refine step_load_w (t := 23) (x := .tmp 9) (p := ?lpk6a6) (v := ?lvk6a6) ?lgk6a6 ?lok6a6 ?lxk6a6 ?lrk6a6 ?lhk6a6); (case lok6a6 => rfl); (case lgk6a6 => rfl); (case lxk6a6 => rfl); (case lrk6a6 => exact la6))
        | ((with_reducible refine step_load_w (t := 23) (x := .tmp 10) (p := ?lpk6b6) (v := ?lvk6b6) ?lgk6b6 ?lok6b6 ?lxk6b6 ?lrk6b6 ?lhk6b6); (case lok6b6 => rfl); (case lgk6b6 => rfl); (case lxk6b6 => rfl); (case lrk6b6 => exact lb6))
        | ((with_reducible refine step_bin_w (op := .eql) (t := 23) (x := .tmp 70) (y := .tmp 71) (t2 := ?nbk6e) (u := ?nuk6e) (v := ?nvk6e) (r := ?nrk6e) ?nwk6e ?nok6e ?nxk6e ?nyk6e ?ngk6e ?nqk6e ?nhk6e); (case nok6e => rfl); (case nwk6e => rfl); (case nxk6e => rfl); (case nyk6e => rfl); (case ngk6e => exact HGD.out _); (case nqk6e => exact HID.out _))
        | (go_at_call 22; refine (awake_any HI.out _ T6).mono ?_; rintro e w7 ⟨rfl, hb7⟩; have b7 := b6.trans (hb7.mono b6.size)))
          go_ret
          exact ⟨rfl, HB.out.trans (b7.mono HB.out.size)⟩
      | false =>
        cases e1 with
        | true =>
          obtain rfl : e2 = true := by cases e2 <;> simp at htot ⊢
          clear htot
          have la0 := box_load HA1.out HLA.out 0
          have lb0 := box_load HB1.out HLB.out 0
          go_enter Tryd.func10, Tryd.ntmps10
          go_upto_region 1 with fail
          refine wp_at HW.out.symm ?_
          rw [← HS.out]
          clear HW
          go_wp2_with (first
        | ((with_reducible refine step_load (t := 23) (x := .tmp 9) (p := ?lpk7a0) (v := ?lvk7a0) ?lgk7a0 ?lok7a0 ?lxk7a0 ?lrk7a0 ?lhk7a0); (case lgk7a0 => rfl); (case lok7a0 => rfl); (case lxk7a0 => rfl); (case lrk7a0 => exact la0))
        | ((with_reducible refine step_load (t := 23) (x := .tmp 10) (p := ?lpk7b0) (v := ?lvk7b0) ?lgk7b0 ?lok7b0 ?lxk7b0 ?lrk7b0 ?lhk7b0); (case lgk7b0 => rfl); (case lok7b0 => rfl); (case lxk7b0 => rfl); (case lrk7b0 => exact lb0))
        | (go_at_call 34; (with_reducible refine (HPQ.out _ HT.out).mono ?_); rintro e w2 ⟨rfl, hb2⟩; have T2 := HI.out.next HT.out hb2; have la2 := box_load (HA1.out.below hb2 HA1.out.lt) HLA.out 0; have lb2 := box_load (HB1.out.below hb2 HB1.out.lt) HLB.out 0; have lc2 := box_load (HC1.out.below hb2 HC1.out.lt) HLC.out 0)
        | ((with_reducible refine step_load (t := 23) (x := .tmp 10) (p := ?lpk7b2) (v := ?lvk7b2) ?lgk7b2 ?lok7b2 ?lxk7b2 ?lrk7b2 ?lhk7b2); (case lgk7b2 => rfl); (case lok7b2 => rfl); (case lxk7b2 => rfl); (case lrk7b2 => exact lb2))
        | ((with_reducible refine step_load (t := 23) (x := .tmp 11) (p := ?lpk7c2) (v := ?lvk7c2) ?lgk7c2 ?lok7c2 ?lxk7c2 ?lrk7c2 ?lhk7c2); (case lgk7c2 => rfl); (case lok7c2 => rfl); (case lxk7c2 => rfl); (case lrk7c2 => exact lc2))
        | (go_at_call 34; (with_reducible refine (HQZ.out _ T2).mono ?_); rintro e w3 ⟨rfl, hb3⟩; have b3 := hb2.trans (hb3.mono hb2.size); have T3 := HI.out.next HT.out b3; have la3 := box_load (HA1.out.below b3 HA1.out.lt) HLA.out 0; have lb3 := box_load (HB1.out.below b3 HB1.out.lt) HLB.out 0; have lc3 := box_load (HC1.out.below b3 HC1.out.lt) HLC.out 0)
        | ((with_reducible refine step_load (t := 23) (x := .tmp 9) (p := ?lpk7a3) (v := ?lvk7a3) ?lgk7a3 ?lok7a3 ?lxk7a3 ?lrk7a3 ?lhk7a3); (case lgk7a3 => rfl); (case lok7a3 => rfl); (case lxk7a3 => rfl); (case lrk7a3 => exact la3))
        | ((with_reducible refine step_load (t := 23) (x := .tmp 11) (p := ?lpk7c3) (v := ?lvk7c3) ?lgk7c3 ?lok7c3 ?lxk7c3 ?lrk7c3 ?lhk7c3); (case lgk7c3 => rfl); (case lok7c3 => rfl); (case lxk7c3 => rfl); (case lrk7c3 => exact lc3))
        | (go_at_call 34; (with_reducible refine (HPZ.out _ T3).mono ?_); rintro e w4 ⟨rfl, hb4⟩; have b4 := b3.trans (hb4.mono b3.size); have T4 := HI.out.next HT.out b4; have la4 := box_load (HA1.out.below b4 HA1.out.lt) HLA.out 0; have lb4 := box_load (HB1.out.below b4 HB1.out.lt) HLB.out 0; have lc4 := box_load (HC1.out.below b4 HC1.out.lt) HLC.out 0)
        | ((with_reducible refine step_load (t := 23) (x := .tmp 9) (p := ?lpk7a4) (v := ?lvk7a4) ?lgk7a4 ?lok7a4 ?lxk7a4 ?lrk7a4 ?lhk7a4); (case lgk7a4 => rfl); (case lok7a4 => rfl); (case lxk7a4 => rfl); (case lrk7a4 => exact la4))
        | ((with_reducible refine step_load (t := 23) (x := .tmp 10) (p := ?lpk7b4) (v := ?lvk7b4) ?lgk7b4 ?lok7b4 ?lxk7b4 ?lrk7b4 ?lhk7b4); (case lgk7b4 => rfl); (case lok7b4 => rfl); (case lxk7b4 => rfl); (case lrk7b4 => exact lb4))
        | (go_at_call 35; (with_reducible refine (HRP.out _).mono ?_); rintro e w5 ⟨rfl, hb5⟩; have b5 := b4.trans (hb5.mono b4.size); have T5 := HI.out.next HT.out b5; have la5 := box_load (HA1.out.below b5 HA1.out.lt) HLA.out 0; have lb5 := box_load (HB1.out.below b5 HB1.out.lt) HLB.out 0; have lc5 := box_load (HC1.out.below b5 HC1.out.lt) HLC.out 0)
        | ((with_reducible refine step_load_w (t := 23) (x := .tmp 10) (p := ?lpk7b5) (v := ?lvk7b5) ?lgk7b5 ?lok7b5 ?lxk7b5 ?lrk7b5 ?lhk7b5); (case lok7b5 => rfl); (case lgk7b5 => rfl); (case lxk7b5 => rfl); (case lrk7b5 => exact lb5))
        | ((with_reducible refine step_load_w (t := 23) (x := .tmp 9) (p := ?lpk7a5) (v := ?lvk7a5) ?lgk7a5 ?lok7a5 ?lxk7a5 ?lrk7a5 ?lhk7a5); (case lok7a5 => rfl); (case lgk7a5 => rfl); (case lxk7a5 => rfl); (case lrk7a5 => exact la5))
        | (go_at_call 34; (with_reducible refine (HQP.out _ T5).mono ?_); rintro e w6 ⟨rfl, hb6⟩; have b6 := b5.trans (hb6.mono b5.size); have T6 := HI.out.next HT.out b6; have la6 := box_load (HA1.out.below b6 HA1.out.lt) HLA.out 0; have lb6 := box_load (HB1.out.below b6 HB1.out.lt) HLB.out 0; have lc6 := box_load (HC1.out.below b6 HC1.out.lt) HLC.out 0)
        | ((with_reducible refine step_load_w (t := 23) (x := .tmp 9) (p := ?lpk7a6) (v := ?lvk7a6) ?lgk7a6 ?lok7a6 ?lxk7a6 ?lrk7a6 ?lhk7a6); (case lok7a6 => rfl); (case lgk7a6 => rfl); (case lxk7a6 => rfl); (case lrk7a6 => exact la6))
        | ((with_reducible refine step_load_w (t := 23) (x := .tmp 10) (p := ?lpk7b6) (v := ?lvk7b6) ?lgk7b6 ?lok7b6 ?lxk7b6 ?lrk7b6 ?lhk7b6); (case lok7b6 => rfl); (case lgk7b6 => rfl); (case lxk7b6 => rfl); (case lrk7b6 => exact lb6))
        | ((with_reducible refine step_bin_w (op := .eql) (t := 23) (x := .tmp 70) (y := .tmp 71) (t2 := ?nbk7e) (u := ?nuk7e) (v := ?nvk7e) (r := ?nrk7e) ?nwk7e ?nok7e ?nxk7e ?nyk7e ?ngk7e ?nqk7e ?nhk7e); (case nok7e => rfl); (case nwk7e => rfl); (case nxk7e => rfl); (case nyk7e => rfl); (case ngk7e => exact HGD.out _); (case nqk7e => exact HID.out _))
        | (go_at_call 22; refine (awake_any HI.out _ T6).mono ?_; rintro e w7 ⟨rfl, hb7⟩; have b7 := b6.trans (hb7.mono b6.size)))
          go_ret
          exact ⟨rfl, HB.out.trans (b7.mono HB.out.size)⟩
        | false =>
          exact absurd htot (by simp)
    | false =>
      clear hanti htr
      cases t with
      | true =>
        cases e1 with
        | true =>
          obtain rfl : e2 = false := by cases e2 <;> simp at htot ⊢
          clear htot
          have la0 := box_load HA1.out HLA.out 0
          have lb0 := box_load HB1.out HLB.out 0
          go_enter Tryd.func10, Tryd.ntmps10
          go_upto_region 1 with fail
          refine wp_at HW.out.symm ?_
          rw [← HS.out]
          clear HW
          go_wp2_with (first
        | ((with_reducible refine step_load (t := 23) (x := .tmp 9) (p := ?lpk8a0) (v := ?lvk8a0) ?lgk8a0 ?lok8a0 ?lxk8a0 ?lrk8a0 ?lhk8a0); (case lgk8a0 => rfl); (case lok8a0 => rfl); (case lxk8a0 => rfl); (case lrk8a0 => exact la0))
        | ((with_reducible refine step_load (t := 23) (x := .tmp 10) (p := ?lpk8b0) (v := ?lvk8b0) ?lgk8b0 ?lok8b0 ?lxk8b0 ?lrk8b0 ?lhk8b0); (case lgk8b0 => rfl); (case lok8b0 => rfl); (case lxk8b0 => rfl); (case lrk8b0 => exact lb0))
        | (go_at_call 34; (with_reducible refine (HPQ.out _ HT.out).mono ?_); rintro e w2 ⟨rfl, hb2⟩; have T2 := HI.out.next HT.out hb2; have la2 := box_load (HA1.out.below hb2 HA1.out.lt) HLA.out 0; have lb2 := box_load (HB1.out.below hb2 HB1.out.lt) HLB.out 0; have lc2 := box_load (HC1.out.below hb2 HC1.out.lt) HLC.out 0)
        | ((with_reducible refine step_load (t := 23) (x := .tmp 10) (p := ?lpk8b2) (v := ?lvk8b2) ?lgk8b2 ?lok8b2 ?lxk8b2 ?lrk8b2 ?lhk8b2); (case lgk8b2 => rfl); (case lok8b2 => rfl); (case lxk8b2 => rfl); (case lrk8b2 => exact lb2))
        | ((with_reducible refine step_load (t := 23) (x := .tmp 11) (p := ?lpk8c2) (v := ?lvk8c2) ?lgk8c2 ?lok8c2 ?lxk8c2 ?lrk8c2 ?lhk8c2); (case lgk8c2 => rfl); (case lok8c2 => rfl); (case lxk8c2 => rfl); (case lrk8c2 => exact lc2))
        | (go_at_call 34; (with_reducible refine (HQZ.out _ T2).mono ?_); rintro e w3 ⟨rfl, hb3⟩; have b3 := hb2.trans (hb3.mono hb2.size); have T3 := HI.out.next HT.out b3; have la3 := box_load (HA1.out.below b3 HA1.out.lt) HLA.out 0; have lb3 := box_load (HB1.out.below b3 HB1.out.lt) HLB.out 0; have lc3 := box_load (HC1.out.below b3 HC1.out.lt) HLC.out 0)
        | ((with_reducible refine step_load (t := 23) (x := .tmp 9) (p := ?lpk8a3) (v := ?lvk8a3) ?lgk8a3 ?lok8a3 ?lxk8a3 ?lrk8a3 ?lhk8a3); (case lgk8a3 => rfl); (case lok8a3 => rfl); (case lxk8a3 => rfl); (case lrk8a3 => exact la3))
        | ((with_reducible refine step_load (t := 23) (x := .tmp 11) (p := ?lpk8c3) (v := ?lvk8c3) ?lgk8c3 ?lok8c3 ?lxk8c3 ?lrk8c3 ?lhk8c3); (case lgk8c3 => rfl); (case lok8c3 => rfl); (case lxk8c3 => rfl); (case lrk8c3 => exact lc3))
        | (go_at_call 34; (with_reducible refine (HPZ.out _ T3).mono ?_); rintro e w4 ⟨rfl, hb4⟩; have b4 := b3.trans (hb4.mono b3.size); have T4 := HI.out.next HT.out b4; have la4 := box_load (HA1.out.below b4 HA1.out.lt) HLA.out 0; have lb4 := box_load (HB1.out.below b4 HB1.out.lt) HLB.out 0; have lc4 := box_load (HC1.out.below b4 HC1.out.lt) HLC.out 0)
        | ((with_reducible refine step_load (t := 23) (x := .tmp 9) (p := ?lpk8a4) (v := ?lvk8a4) ?lgk8a4 ?lok8a4 ?lxk8a4 ?lrk8a4 ?lhk8a4); (case lgk8a4 => rfl); (case lok8a4 => rfl); (case lxk8a4 => rfl); (case lrk8a4 => exact la4))
        | ((with_reducible refine step_load (t := 23) (x := .tmp 10) (p := ?lpk8b4) (v := ?lvk8b4) ?lgk8b4 ?lok8b4 ?lxk8b4 ?lrk8b4 ?lhk8b4); (case lgk8b4 => rfl); (case lok8b4 => rfl); (case lxk8b4 => rfl); (case lrk8b4 => exact lb4))
        | (go_at_call 35; (with_reducible refine (HRP.out _).mono ?_); rintro e w5 ⟨rfl, hb5⟩; have b5 := b4.trans (hb5.mono b4.size); have T5 := HI.out.next HT.out b5; have la5 := box_load (HA1.out.below b5 HA1.out.lt) HLA.out 0; have lb5 := box_load (HB1.out.below b5 HB1.out.lt) HLB.out 0; have lc5 := box_load (HC1.out.below b5 HC1.out.lt) HLC.out 0)
        | ((with_reducible refine step_load_w (t := 23) (x := .tmp 10) (p := ?lpk8b5) (v := ?lvk8b5) ?lgk8b5 ?lok8b5 ?lxk8b5 ?lrk8b5 ?lhk8b5); (case lok8b5 => rfl); (case lgk8b5 => rfl); (case lxk8b5 => rfl); (case lrk8b5 => exact lb5))
        | ((with_reducible refine step_load_w (t := 23) (x := .tmp 9) (p := ?lpk8a5) (v := ?lvk8a5) ?lgk8a5 ?lok8a5 ?lxk8a5 ?lrk8a5 ?lhk8a5); (case lok8a5 => rfl); (case lgk8a5 => rfl); (case lxk8a5 => rfl); (case lrk8a5 => exact la5))
        | (go_at_call 34; (with_reducible refine (HQP.out _ T5).mono ?_); rintro e w6 ⟨rfl, hb6⟩; have b6 := b5.trans (hb6.mono b5.size); have T6 := HI.out.next HT.out b6; have la6 := box_load (HA1.out.below b6 HA1.out.lt) HLA.out 0; have lb6 := box_load (HB1.out.below b6 HB1.out.lt) HLB.out 0; have lc6 := box_load (HC1.out.below b6 HC1.out.lt) HLC.out 0)
        | ((with_reducible refine step_load_w (t := 23) (x := .tmp 9) (p := ?lpk8a6) (v := ?lvk8a6) ?lgk8a6 ?lok8a6 ?lxk8a6 ?lrk8a6 ?lhk8a6); (case lok8a6 => rfl); (case lgk8a6 => rfl); (case lxk8a6 => rfl); (case lrk8a6 => exact la6))
        | ((with_reducible refine step_load_w (t := 23) (x := .tmp 10) (p := ?lpk8b6) (v := ?lvk8b6) ?lgk8b6 ?lok8b6 ?lxk8b6 ?lrk8b6 ?lhk8b6); (case lok8b6 => rfl); (case lgk8b6 => rfl); (case lxk8b6 => rfl); (case lrk8b6 => exact lb6))
        | ((with_reducible refine step_bin_w (op := .eql) (t := 23) (x := .tmp 70) (y := .tmp 71) (t2 := ?nbk8e) (u := ?nuk8e) (v := ?nvk8e) (r := ?nrk8e) ?nwk8e ?nok8e ?nxk8e ?nyk8e ?ngk8e ?nqk8e ?nhk8e); (case nok8e => rfl); (case nwk8e => rfl); (case nxk8e => rfl); (case nyk8e => rfl); (case ngk8e => exact HGD.out _); (case nqk8e => exact HID.out _))
        | (go_at_call 22; refine (awake_any HI.out _ T6).mono ?_; rintro e w7 ⟨rfl, hb7⟩; have b7 := b6.trans (hb7.mono b6.size)))
          go_ret
          exact ⟨rfl, HB.out.trans (b7.mono HB.out.size)⟩
        | false =>
          clear htot
          have la0 := box_load HA1.out HLA.out 0
          have lb0 := box_load HB1.out HLB.out 0
          go_enter Tryd.func10, Tryd.ntmps10
          go_upto_region 1 with fail
          refine wp_at HW.out.symm ?_
          rw [← HS.out]
          clear HW
          go_wp2_with (first
        | ((with_reducible refine step_load (t := 23) (x := .tmp 9) (p := ?lpk9a0) (v := ?lvk9a0) ?lgk9a0 ?lok9a0 ?lxk9a0 ?lrk9a0 ?lhk9a0); (case lgk9a0 => rfl); (case lok9a0 => rfl); (case lxk9a0 => rfl); (case lrk9a0 => exact la0))
        | ((with_reducible refine step_load (t := 23) (x := .tmp 10) (p := ?lpk9b0) (v := ?lvk9b0) ?lgk9b0 ?lok9b0 ?lxk9b0 ?lrk9b0 ?lhk9b0); (case lgk9b0 => rfl); (case lok9b0 => rfl); (case lxk9b0 => rfl); (case lrk9b0 => exact lb0))
        | (go_at_call 34; (with_reducible refine (HPQ.out _ HT.out).mono ?_); rintro e w2 ⟨rfl, hb2⟩; have T2 := HI.out.next HT.out hb2; have la2 := box_load (HA1.out.below hb2 HA1.out.lt) HLA.out 0; have lb2 := box_load (HB1.out.below hb2 HB1.out.lt) HLB.out 0; have lc2 := box_load (HC1.out.below hb2 HC1.out.lt) HLC.out 0)
        | ((with_reducible refine step_load (t := 23) (x := .tmp 10) (p := ?lpk9b2) (v := ?lvk9b2) ?lgk9b2 ?lok9b2 ?lxk9b2 ?lrk9b2 ?lhk9b2); (case lgk9b2 => rfl); (case lok9b2 => rfl); (case lxk9b2 => rfl); (case lrk9b2 => exact lb2))
        | ((with_reducible refine step_load (t := 23) (x := .tmp 11) (p := ?lpk9c2) (v := ?lvk9c2) ?lgk9c2 ?lok9c2 ?lxk9c2 ?lrk9c2 ?lhk9c2); (case lgk9c2 => rfl); (case lok9c2 => rfl); (case lxk9c2 => rfl); (case lrk9c2 => exact lc2))
        | (go_at_call 34; (with_reducible refine (HQZ.out _ T2).mono ?_); rintro e w3 ⟨rfl, hb3⟩; have b3 := hb2.trans (hb3.mono hb2.size); have T3 := HI.out.next HT.out b3; have la3 := box_load (HA1.out.below b3 HA1.out.lt) HLA.out 0; have lb3 := box_load (HB1.out.below b3 HB1.out.lt) HLB.out 0; have lc3 := box_load (HC1.out.below b3 HC1.out.lt) HLC.out 0)
        | ((with_reducible refine step_load (t := 23) (x := .tmp 9) (p := ?lpk9a3) (v := ?lvk9a3) ?lgk9a3 ?lok9a3 ?lxk9a3 ?lrk9a3 ?lhk9a3); (case lgk9a3 => rfl); (case lok9a3 => rfl); (case lxk9a3 => rfl); (case lrk9a3 => exact la3))
        | ((with_reducible refine step_load (t := 23) (x := .tmp 11) (p := ?lpk9c3) (v := ?lvk9c3) ?lgk9c3 ?lok9c3 ?lxk9c3 ?lrk9c3 ?lhk9c3); (case lgk9c3 => rfl); (case lok9c3 => rfl); (case lxk9c3 => rfl); (case lrk9c3 => exact lc3))
        | (go_at_call 34; (with_reducible refine (HPZ.out _ T3).mono ?_); rintro e w4 ⟨rfl, hb4⟩; have b4 := b3.trans (hb4.mono b3.size); have T4 := HI.out.next HT.out b4; have la4 := box_load (HA1.out.below b4 HA1.out.lt) HLA.out 0; have lb4 := box_load (HB1.out.below b4 HB1.out.lt) HLB.out 0; have lc4 := box_load (HC1.out.below b4 HC1.out.lt) HLC.out 0)
        | ((with_reducible refine step_load (t := 23) (x := .tmp 9) (p := ?lpk9a4) (v := ?lvk9a4) ?lgk9a4 ?lok9a4 ?lxk9a4 ?lrk9a4 ?lhk9a4); (case lgk9a4 => rfl); (case lok9a4 => rfl); (case lxk9a4 => rfl); (case lrk9a4 => exact la4))
        | ((with_reducible refine step_load (t := 23) (x := .tmp 10) (p := ?lpk9b4) (v := ?lvk9b4) ?lgk9b4 ?lok9b4 ?lxk9b4 ?lrk9b4 ?lhk9b4); (case lgk9b4 => rfl); (case lok9b4 => rfl); (case lxk9b4 => rfl); (case lrk9b4 => exact lb4))
        | (go_at_call 35; (with_reducible refine (HRP.out _).mono ?_); rintro e w5 ⟨rfl, hb5⟩; have b5 := b4.trans (hb5.mono b4.size); have T5 := HI.out.next HT.out b5; have la5 := box_load (HA1.out.below b5 HA1.out.lt) HLA.out 0; have lb5 := box_load (HB1.out.below b5 HB1.out.lt) HLB.out 0; have lc5 := box_load (HC1.out.below b5 HC1.out.lt) HLC.out 0)
        | ((with_reducible refine step_load_w (t := 23) (x := .tmp 10) (p := ?lpk9b5) (v := ?lvk9b5) ?lgk9b5 ?lok9b5 ?lxk9b5 ?lrk9b5 ?lhk9b5); (case lok9b5 => rfl); (case lgk9b5 => rfl); (case lxk9b5 => rfl); (case lrk9b5 => exact lb5))
        | ((with_reducible refine step_load_w (t := 23) (x := .tmp 9) (p := ?lpk9a5) (v := ?lvk9a5) ?lgk9a5 ?lok9a5 ?lxk9a5 ?lrk9a5 ?lhk9a5); (case lok9a5 => rfl); (case lgk9a5 => rfl); (case lxk9a5 => rfl); (case lrk9a5 => exact la5))
        | (go_at_call 34; (with_reducible refine (HQP.out _ T5).mono ?_); rintro e w6 ⟨rfl, hb6⟩; have b6 := b5.trans (hb6.mono b5.size); have T6 := HI.out.next HT.out b6; have la6 := box_load (HA1.out.below b6 HA1.out.lt) HLA.out 0; have lb6 := box_load (HB1.out.below b6 HB1.out.lt) HLB.out 0; have lc6 := box_load (HC1.out.below b6 HC1.out.lt) HLC.out 0)
        | ((with_reducible refine step_load_w (t := 23) (x := .tmp 9) (p := ?lpk9a6) (v := ?lvk9a6) ?lgk9a6 ?lok9a6 ?lxk9a6 ?lrk9a6 ?lhk9a6); (case lok9a6 => rfl); (case lgk9a6 => rfl); (case lxk9a6 => rfl); (case lrk9a6 => exact la6))
        | ((with_reducible refine step_load_w (t := 23) (x := .tmp 10) (p := ?lpk9b6) (v := ?lvk9b6) ?lgk9b6 ?lok9b6 ?lxk9b6 ?lrk9b6 ?lhk9b6); (case lok9b6 => rfl); (case lgk9b6 => rfl); (case lxk9b6 => rfl); (case lrk9b6 => exact lb6))
        | ((with_reducible refine step_bin_w (op := .eql) (t := 23) (x := .tmp 70) (y := .tmp 71) (t2 := ?nbk9e) (u := ?nuk9e) (v := ?nvk9e) (r := ?nrk9e) ?nwk9e ?nok9e ?nxk9e ?nyk9e ?ngk9e ?nqk9e ?nhk9e); (case nok9e => rfl); (case nwk9e => rfl); (case nxk9e => rfl); (case nyk9e => rfl); (case ngk9e => exact HGD.out _); (case nqk9e => exact HID.out _))
        | (go_at_call 22; refine (awake_any HI.out _ T6).mono ?_; rintro e w7 ⟨rfl, hb7⟩; have b7 := b6.trans (hb7.mono b6.size)))
          go_ret
          exact ⟨rfl, HB.out.trans (b7.mono HB.out.size)⟩
      | false =>
        cases e1 with
        | true =>
          obtain rfl : e2 = true := by cases e2 <;> simp at htot ⊢
          clear htot
          have la0 := box_load HA1.out HLA.out 0
          have lb0 := box_load HB1.out HLB.out 0
          go_enter Tryd.func10, Tryd.ntmps10
          go_upto_region 1 with fail
          refine wp_at HW.out.symm ?_
          rw [← HS.out]
          clear HW
          go_wp2_with (first
        | ((with_reducible refine step_load (t := 23) (x := .tmp 9) (p := ?lpk10a0) (v := ?lvk10a0) ?lgk10a0 ?lok10a0 ?lxk10a0 ?lrk10a0 ?lhk10a0); (case lgk10a0 => rfl); (case lok10a0 => rfl); (case lxk10a0 => rfl); (case lrk10a0 => exact la0))
        | ((with_reducible refine step_load (t := 23) (x := .tmp 10) (p := ?lpk10b0) (v := ?lvk10b0) ?lgk10b0 ?lok10b0 ?lxk10b0 ?lrk10b0 ?lhk10b0); (case lgk10b0 => rfl); (case lok10b0 => rfl); (case lxk10b0 => rfl); (case lrk10b0 => exact lb0))
        | (go_at_call 34; (with_reducible refine (HPQ.out _ HT.out).mono ?_); rintro e w2 ⟨rfl, hb2⟩; have T2 := HI.out.next HT.out hb2; have la2 := box_load (HA1.out.below hb2 HA1.out.lt) HLA.out 0; have lb2 := box_load (HB1.out.below hb2 HB1.out.lt) HLB.out 0; have lc2 := box_load (HC1.out.below hb2 HC1.out.lt) HLC.out 0)
        | ((with_reducible refine step_load (t := 23) (x := .tmp 10) (p := ?lpk10b2) (v := ?lvk10b2) ?lgk10b2 ?lok10b2 ?lxk10b2 ?lrk10b2 ?lhk10b2); (case lgk10b2 => rfl); (case lok10b2 => rfl); (case lxk10b2 => rfl); (case lrk10b2 => exact lb2))
        | ((with_reducible refine step_load (t := 23) (x := .tmp 11) (p := ?lpk10c2) (v := ?lvk10c2) ?lgk10c2 ?lok10c2 ?lxk10c2 ?lrk10c2 ?lhk10c2); (case lgk10c2 => rfl); (case lok10c2 => rfl); (case lxk10c2 => rfl); (case lrk10c2 => exact lc2))
        | (go_at_call 34; (with_reducible refine (HQZ.out _ T2).mono ?_); rintro e w3 ⟨rfl, hb3⟩; have b3 := hb2.trans (hb3.mono hb2.size); have T3 := HI.out.next HT.out b3; have la3 := box_load (HA1.out.below b3 HA1.out.lt) HLA.out 0; have lb3 := box_load (HB1.out.below b3 HB1.out.lt) HLB.out 0; have lc3 := box_load (HC1.out.below b3 HC1.out.lt) HLC.out 0)
        | ((with_reducible refine step_load (t := 23) (x := .tmp 9) (p := ?lpk10a3) (v := ?lvk10a3) ?lgk10a3 ?lok10a3 ?lxk10a3 ?lrk10a3 ?lhk10a3); (case lgk10a3 => rfl); (case lok10a3 => rfl); (case lxk10a3 => rfl); (case lrk10a3 => exact la3))
        | ((with_reducible refine step_load (t := 23) (x := .tmp 11) (p := ?lpk10c3) (v := ?lvk10c3) ?lgk10c3 ?lok10c3 ?lxk10c3 ?lrk10c3 ?lhk10c3); (case lgk10c3 => rfl); (case lok10c3 => rfl); (case lxk10c3 => rfl); (case lrk10c3 => exact lc3))
        | (go_at_call 34; (with_reducible refine (HPZ.out _ T3).mono ?_); rintro e w4 ⟨rfl, hb4⟩; have b4 := b3.trans (hb4.mono b3.size); have T4 := HI.out.next HT.out b4; have la4 := box_load (HA1.out.below b4 HA1.out.lt) HLA.out 0; have lb4 := box_load (HB1.out.below b4 HB1.out.lt) HLB.out 0; have lc4 := box_load (HC1.out.below b4 HC1.out.lt) HLC.out 0)
        | ((with_reducible refine step_load (t := 23) (x := .tmp 9) (p := ?lpk10a4) (v := ?lvk10a4) ?lgk10a4 ?lok10a4 ?lxk10a4 ?lrk10a4 ?lhk10a4); (case lgk10a4 => rfl); (case lok10a4 => rfl); (case lxk10a4 => rfl); (case lrk10a4 => exact la4))
        | ((with_reducible refine step_load (t := 23) (x := .tmp 10) (p := ?lpk10b4) (v := ?lvk10b4) ?lgk10b4 ?lok10b4 ?lxk10b4 ?lrk10b4 ?lhk10b4); (case lgk10b4 => rfl); (case lok10b4 => rfl); (case lxk10b4 => rfl); (case lrk10b4 => exact lb4))
        | (go_at_call 35; (with_reducible refine (HRP.out _).mono ?_); rintro e w5 ⟨rfl, hb5⟩; have b5 := b4.trans (hb5.mono b4.size); have T5 := HI.out.next HT.out b5; have la5 := box_load (HA1.out.below b5 HA1.out.lt) HLA.out 0; have lb5 := box_load (HB1.out.below b5 HB1.out.lt) HLB.out 0; have lc5 := box_load (HC1.out.below b5 HC1.out.lt) HLC.out 0)
        | ((with_reducible refine step_load_w (t := 23) (x := .tmp 10) (p := ?lpk10b5) (v := ?lvk10b5) ?lgk10b5 ?lok10b5 ?lxk10b5 ?lrk10b5 ?lhk10b5); (case lok10b5 => rfl); (case lgk10b5 => rfl); (case lxk10b5 => rfl); (case lrk10b5 => exact lb5))
        | ((with_reducible refine step_load_w (t := 23) (x := .tmp 9) (p := ?lpk10a5) (v := ?lvk10a5) ?lgk10a5 ?lok10a5 ?lxk10a5 ?lrk10a5 ?lhk10a5); (case lok10a5 => rfl); (case lgk10a5 => rfl); (case lxk10a5 => rfl); (case lrk10a5 => exact la5))
        | (go_at_call 34; (with_reducible refine (HQP.out _ T5).mono ?_); rintro e w6 ⟨rfl, hb6⟩; have b6 := b5.trans (hb6.mono b5.size); have T6 := HI.out.next HT.out b6; have la6 := box_load (HA1.out.below b6 HA1.out.lt) HLA.out 0; have lb6 := box_load (HB1.out.below b6 HB1.out.lt) HLB.out 0; have lc6 := box_load (HC1.out.below b6 HC1.out.lt) HLC.out 0)
        | ((with_reducible refine step_load_w (t := 23) (x := .tmp 9) (p := ?lpk10a6) (v := ?lvk10a6) ?lgk10a6 ?lok10a6 ?lxk10a6 ?lrk10a6 ?lhk10a6); (case lok10a6 => rfl); (case lgk10a6 => rfl); (case lxk10a6 => rfl); (case lrk10a6 => exact la6))
        | ((with_reducible refine step_load_w (t := 23) (x := .tmp 10) (p := ?lpk10b6) (v := ?lvk10b6) ?lgk10b6 ?lok10b6 ?lxk10b6 ?lrk10b6 ?lhk10b6); (case lok10b6 => rfl); (case lgk10b6 => rfl); (case lxk10b6 => rfl); (case lrk10b6 => exact lb6))
        | ((with_reducible refine step_bin_w (op := .eql) (t := 23) (x := .tmp 70) (y := .tmp 71) (t2 := ?nbk10e) (u := ?nuk10e) (v := ?nvk10e) (r := ?nrk10e) ?nwk10e ?nok10e ?nxk10e ?nyk10e ?ngk10e ?nqk10e ?nhk10e); (case nok10e => rfl); (case nwk10e => rfl); (case nxk10e => rfl); (case nyk10e => rfl); (case ngk10e => exact HGD.out _); (case nqk10e => exact HID.out _))
        | (go_at_call 22; refine (awake_any HI.out _ T6).mono ?_; rintro e w7 ⟨rfl, hb7⟩; have b7 := b6.trans (hb7.mono b6.size)))
          go_ret
          exact ⟨rfl, HB.out.trans (b7.mono HB.out.size)⟩
        | false =>
          exact absurd htot (by simp)
end Go.Proofs.YtmaolmogccknbaaDoor.hdr
