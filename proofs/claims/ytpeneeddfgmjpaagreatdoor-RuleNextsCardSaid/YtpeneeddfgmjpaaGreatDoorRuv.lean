/-
  petrelref15.find, Unknown.
  petrelref15.Verdict.
  petrelref15.Verdict.
-/
import Derived.Test.YtpeneeddfgmjpaaGreatDoorRufh
import Derived.Test.YtpeneeddfgmjpaaGreatDoorRufa
import Derived.BigQuiet
import Derived.Deep.QuietTactic
namespace Go.Proofs.YtpeneeddfgmjpaaGreatDoor.rul
open Go.RowKit Go.Proofs.YtpeneeddfgmjpaaGreatDoor.mem Go.Proofs.YtpeneeddfgmjpaaGreatDoor.sha Go.Proofs.YtpeneeddfgmjpaaGreatDoor.ids Go.Proofs.YtpeneeddfgmjpaaGreatDoor.hdr Go.Proofs.YtpeneeddfgmjpaaGreatDoor.hds
open Go.Proofs.YtpeneeddfgmjpaaGreatDoor.opn (zid)

set_option maxHeartbeats 4000000 in
set_option maxRecDepth 100000 in
theorem find_ref (hRS : RSum) (x : Id) (hx : x.length = 32) (v : Value) (P : HP) (w : World) (hv : HsV w v P) (hf : Few P) (hn : P.length ≤ 1000000) :
  Calls Tryz.prog 24 #[idv x, v] w fun e w' => e = .returned (.int .i64 (findI x (hs P))) ∧ Below w.heap.size w w' := by
 obtain ⟨ad, cap, rfl⟩ := hv.form
 obtain ⟨X, hX⟩ : ∃ S, S = w.heap.size := ⟨_, rfl⟩
 obtain ⟨w1, hw1⟩ : ∃ u, u = w.alloc (.cells (bv x).toArray 24) := ⟨_, rfl⟩
 have hb1 : Blk w1 X 24 (bv x).toArray := by rw [hw1, hX]; exact Blk.new w _ _
 have hbl : Below w.heap.size w w1 := by rw [hw1]; exact (Below.refl _ _).alloc (Nat.le_refl _) _
 have HB1 := Lib.hid hb1
 have HBL := Lib.hid hbl
 have HV1 := Lib.hid (hv.next hbl)
 have HW := Lib.hid hw1
 have HXX := Lib.hid hX
 have HX := Lib.hid hx
 obtain ⟨n, hnn⟩ : ∃ n, n = P.length := ⟨_, rfl⟩
 have HNN := Lib.hid hnn
 rw [← hnn] at hn HV1
 rw [← hnn]
 clear hb1 hbl hw1 hX hv hx hnn
 unfold idv
 go_enter Tryz.func24, Tryz.ntmps24
 go_upto_region 1 with fail
 refine wp_at HW.out.symm ?_
 rw [← HXX.out]
 clear HW
 go_wp2_with fail
 go_loopw [5] (fun i wr => ∃ k : Nat, k ≤ n ∧ i = .int .i64 (k : Int) ∧ HsV wr (.slice ad n cap) P ∧ Blk wr X 24 (bv x).toArray ∧ Below w.heap.size w wr ∧ ∀ j, j < k → isId x ((hs P).getD j zhd) = false) (fun i _ => n - (intOf i).toNat)
 case atStart => exact ⟨0, Nat.zero_le _, rfl, HV1.out, HB1.out, HBL.out, fun j hj => absurd hj (Nat.not_lt_zero _)⟩
 case round =>
  clear HV1 HB1 HBL
  obtain ⟨k, hk, rfl, hv, hb, hbl, hno⟩ := hrel
  have k0 : (0 : Int) ≤ (k : Int) := Int.natCast_nonneg _
  have HNO := Lib.hid hno
  have HBL := Lib.hid hbl
  by_cases hlt : k < n
  ·
   have kI : (k : Int) < (n : Int) := by omega
   have hkP : k < P.length := by rw [← HNN.out]; exact hlt
   obtain ⟨b, off, rfl, hbb, hld, -, -, -⟩ := hv.at_ hkP
   have hld := hld 0
   have hin := hv.2.get hkP
   have hfw := hf.get hkP
   have hid := ident_any hRS (P.getD k zhp).1 (P.getD k zhp).2 wr hin.2 hin.1 hfw.1 hfw.2
   have hl32 := idH_l32 (P.getD k zhp).1
   obtain ⟨y, hy⟩ : ∃ y, y = (idH (P.getD k zhp).1).1 := ⟨_, rfl⟩
   obtain ⟨er, her⟩ : ∃ e, e = (idH (P.getD k zhp).1).2 := ⟨_, rfl⟩
   have hq : Hid (isId x ((hs P).getD k zhd) = (decide (er = 0) && decide (y = x))) := Lib.hid (by rw [hs_getD hkP]; exact isId_eq (by rw [hy, her]))
   have hg := hs_get hkP
   have HG := Lib.hid hg
   rw [← hy, ← her] at hid
   rw [← hy] at hl32
   obtain ⟨hv0, hhv⟩ : ∃ u, u = hdv (P.getD k zhp).1 (P.getD k zhp).2 := ⟨_, rfl⟩
   rw [← hhv] at hld hid
   have HID := Lib.hid hid
   have HL := Lib.hid hl32
   have HV := Lib.hid hv
   have HB := Lib.hid hb
   have HKP := Lib.hid hkP
   have HGD : Hid (∀ u, (eqGuard .eql 24 (.tmp 25) (.tmp 26) (idv y) (idv x)).run Tryz.prog u = .ok () u) := Lib.hid fun u => run_eqGuard_agg u .eql 24 (.tmp 25) (.tmp 26) _ _ Tryz.eqGuardType24
   have HEQ := Lib.hid fun u => eql_i u y x HL.out HX.out
   obtain ⟨bq, hbq⟩ : ∃ b, b = decide (y = x) := ⟨_, rfl⟩
   rw [← hbq] at HEQ hq
   clear hno hbl hin hfw hid hl32 hy her hg hhv hv hb hkP hbb hbq
   by_cases he : er = 0
   ·
    subst he
    cases bq with
    | true =>
     have HE : Hid (findI x (hs P) = (k : Int)) := Lib.hid (findI_at HG.out HNO.out (by rw [← hs_getD HKP.out, hq.out]; rfl))
     go_wp2_with (first
      | ((with_reducible refine step_load (t := 26) (x := .tmp 17) (p := ?lpa1) (v := ?lva1) ?lga1 ?loa1 ?lxa1 ?lra1 ?lha1); (case lga1 => rfl); (case loa1 => rfl); (case lxa1 => rfl); (case lra1 => exact hld))
      | (go_at_call 29; (with_reducible refine HID.out.mono ?_); rintro e w2 ⟨rfl, hb2⟩; have HH := Lib.hid (run_holdI w2 y HL.out); have hb3 := heldI_below w2 y; have hl3 := box_load (heldI_blk w2 y) HL.out 0; have hx3 := (HB.out.below hb2 HB.out.lt).below hb3 (Nat.lt_of_lt_of_le HB.out.lt hb2.size); have hlx := box_load hx3 HX.out 0; have HX3 := Lib.hid hx3; have HV3 := Lib.hid ((HV.out.next hb2).next hb3); have HB3 := Lib.hid ((HBL.out.trans (hb2.mono HBL.out.size)).trans (hb3.mono (Nat.le_trans HBL.out.size hb2.size))); clear hb2 hb3 hx3 HID HV HB)
      | ((with_reducible refine step_store_run (t := 24) (x := .tmp 6) (y := .tmp 20) (p := ?spb1) (v := ?svb1) (w' := ?swb1) ?sgb1 ?sob1 ?sxb1 ?syb1 ?srb1 ?shb1); (case sgb1 => rfl); (case sob1 => rfl); (case sxb1 => rfl); (case syb1 => rfl); (case srb1 => exact HH.out))
      | ((with_reducible refine step_load_w (t := 24) (x := .tmp 6) (p := ?lpc1) (v := ?lvc1) ?lgc1 ?loc1 ?lxc1 ?lrc1 ?lhc1); (case loc1 => rfl); (case lgc1 => rfl); (case lxc1 => rfl); (case lrc1 => exact hl3))
      | ((with_reducible refine step_load_w (t := 24) (x := .tmp 2) (p := ?lpd1) (v := ?lvd1) ?lgd1 ?lod1 ?lxd1 ?lrd1 ?lhd1); (case lod1 => rfl); (case lgd1 => rfl); (case lxd1 => rfl); (case lrd1 => exact hlx))
      | ((with_reducible refine step_bin_w (op := .eql) (t := 24) (x := .tmp 25) (y := .tmp 26) (t2 := ?nbe1) (u := ?nue1) (v := ?nve1) (r := ?nre1) ?nwe1 ?noe1 ?nxe1 ?nye1 ?nge1 ?nqe1 ?nhe1); (case noe1 => rfl); (case nwe1 => rfl); (case nxe1 => rfl); (case nye1 => rfl); (case nge1 => exact HGD.out _); (case nqe1 => exact HEQ.out _)))
     go_ret
     exact ⟨by rw [HE.out]; rfl, HB3.out⟩
    | false =>
     go_wp2_with (first
      | ((with_reducible refine step_load (t := 26) (x := .tmp 17) (p := ?lpa2) (v := ?lva2) ?lga2 ?loa2 ?lxa2 ?lra2 ?lha2); (case lga2 => rfl); (case loa2 => rfl); (case lxa2 => rfl); (case lra2 => exact hld))
      | (go_at_call 29; (with_reducible refine HID.out.mono ?_); rintro e w2 ⟨rfl, hb2⟩; have HH := Lib.hid (run_holdI w2 y HL.out); have hb3 := heldI_below w2 y; have hl3 := box_load (heldI_blk w2 y) HL.out 0; have hx3 := (HB.out.below hb2 HB.out.lt).below hb3 (Nat.lt_of_lt_of_le HB.out.lt hb2.size); have hlx := box_load hx3 HX.out 0; have HX3 := Lib.hid hx3; have HV3 := Lib.hid ((HV.out.next hb2).next hb3); have HB3 := Lib.hid ((HBL.out.trans (hb2.mono HBL.out.size)).trans (hb3.mono (Nat.le_trans HBL.out.size hb2.size))); clear hb2 hb3 hx3 HID HV HB)
      | ((with_reducible refine step_store_run (t := 24) (x := .tmp 6) (y := .tmp 20) (p := ?spb2) (v := ?svb2) (w' := ?swb2) ?sgb2 ?sob2 ?sxb2 ?syb2 ?srb2 ?shb2); (case sgb2 => rfl); (case sob2 => rfl); (case sxb2 => rfl); (case syb2 => rfl); (case srb2 => exact HH.out))
      | ((with_reducible refine step_load_w (t := 24) (x := .tmp 6) (p := ?lpc2) (v := ?lvc2) ?lgc2 ?loc2 ?lxc2 ?lrc2 ?lhc2); (case loc2 => rfl); (case lgc2 => rfl); (case lxc2 => rfl); (case lrc2 => exact hl3))
      | ((with_reducible refine step_load_w (t := 24) (x := .tmp 2) (p := ?lpd2) (v := ?lvd2) ?lgd2 ?lod2 ?lxd2 ?lrd2 ?lhd2); (case lod2 => rfl); (case lgd2 => rfl); (case lxd2 => rfl); (case lrd2 => exact hlx))
      | ((with_reducible refine step_bin_w (op := .eql) (t := 24) (x := .tmp 25) (y := .tmp 26) (t2 := ?nbe2) (u := ?nue2) (v := ?nve2) (r := ?nre2) ?nwe2 ?noe2 ?nxe2 ?nye2 ?nge2 ?nqe2 ?nhe2); (case noe2 => rfl); (case nwe2 => rfl); (case nxe2 => rfl); (case nye2 => rfl); (case nge2 => exact HGD.out _); (case nqe2 => exact HEQ.out _)))
     go_roundw
     case rel => exact ⟨k + 1, hlt, by push_cast; rfl, HV3.out, HX3.out, HB3.out, fun j hj => by
      rcases Nat.lt_or_ge j k with c | c
      ·
       exact HNO.out j c
      ·
       obtain rfl : j = k := by omega
       rw [hq.out, Bool.and_false]⟩
     case measure => simp [intOf]; omega
   ·
    have hne : (er == 0) = false := beq_eq_false_iff_ne.2 he
    have HQ : Hid (decide (er = 0) = false) := Lib.hid (decide_eq_false he)
    clear he
    go_wp2_with (first
     | ((with_reducible refine step_load (t := 26) (x := .tmp 17) (p := ?lpa3) (v := ?lva3) ?lga3 ?loa3 ?lxa3 ?lra3 ?lha3); (case lga3 => rfl); (case loa3 => rfl); (case lxa3 => rfl); (case lra3 => exact hld))
     | (go_at_call 29; (with_reducible refine HID.out.mono ?_); rintro e w2 ⟨rfl, hb2⟩; have HH := Lib.hid (run_holdI w2 y HL.out); have hb3 := heldI_below w2 y; have hl3 := box_load (heldI_blk w2 y) HL.out 0; have hx3 := (HB.out.below hb2 HB.out.lt).below hb3 (Nat.lt_of_lt_of_le HB.out.lt hb2.size); have hlx := box_load hx3 HX.out 0; have HX3 := Lib.hid hx3; have HV3 := Lib.hid ((HV.out.next hb2).next hb3); have HB3 := Lib.hid ((HBL.out.trans (hb2.mono HBL.out.size)).trans (hb3.mono (Nat.le_trans HBL.out.size hb2.size))); clear hb2 hb3 hx3 HID HV HB)
     | ((with_reducible refine step_store_run (t := 24) (x := .tmp 6) (y := .tmp 20) (p := ?spb3) (v := ?svb3) (w' := ?swb3) ?sgb3 ?sob3 ?sxb3 ?syb3 ?srb3 ?shb3); (case sgb3 => rfl); (case sob3 => rfl); (case sxb3 => rfl); (case syb3 => rfl); (case srb3 => exact HH.out)))
    go_roundw
    case rel => exact ⟨k + 1, hlt, by push_cast; rfl, HV3.out, HX3.out, HB3.out, fun j hj => by
     rcases Nat.lt_or_ge j k with c | c
     ·
      exact HNO.out j c
     ·
      obtain rfl : j = k := by omega
      rw [hq.out, HQ.out, Bool.false_and]⟩
    case measure => simp [intOf]; omega
  ·
   obtain rfl : k = n := by omega
   have HE : Hid (findI x (hs P) = -1) := Lib.hid (findI_none fun j hj => HNO.out j (by rw [hs_len, ← HNN.out] at hj; exact hj))
   clear hlt hno hbl hv hb
   go_wp2_with fail
   go_ret
   exact ⟨by rw [HE.out]; rfl, HBL.out⟩
set_option maxHeartbeats 4000000 in
set_option maxRecDepth 100000 in
theorem unknown_ref (hRS : RSum) (h : Hd) (u : Value) (v : Value) (P : HP) (w : World) (hr : h.commit.length = 32) (hu : RdV w u h.parents) (hm : h.parents.length ≤ 1000) (hv : HsV w v P) (hf : Few P) (hn : P.length ≤ 1000000) :
  Calls Tryz.prog 12 #[hdv h u, v] w fun e w' => ∃ o, e = .returned o ∧ OwnI w' (w.heap.size ≤ ·) o (unknownR h (hs P)) ∧ Below w.heap.size w w' := by
 obtain ⟨ad, cap, rfl⟩ := hu.form
 obtain ⟨X, hX⟩ : ∃ S, S = w.heap.size := ⟨_, rfl⟩
 obtain ⟨w1, hw1⟩ : ∃ z, z = w.alloc (.cells (hdc h (.slice ad h.parents.length cap)).toArray 26) := ⟨_, rfl⟩
 have hb1 : Blk w1 X 26 (hdc h (.slice ad h.parents.length cap)).toArray := by rw [hw1, hX]; exact Blk.new w _ _
 have hbl : Below w.heap.size w w1 := by rw [hw1]; exact (Below.refl _ _).alloc (Nat.le_refl _) _
 have hlt1 : X < w1.heap.size := hb1.lt
 have HB1 := Lib.hid hb1
 have HBL := Lib.hid hbl
 have HV1 := Lib.hid (hv.next hbl)
 have HU1 := Lib.hid (hu.next hbl)
 have HW := Lib.hid hw1
 have HXX := Lib.hid hX
 have HR := Lib.hid hr
 have HT1 := Lib.hid (show Turn (fun b => w1.heap.size ≤ b) w1 w1 from Turn.refl _ _)
 obtain ⟨S, hS⟩ : ∃ S, S = w1.heap.size := ⟨_, rfl⟩
 rw [← hS] at HT1 hlt1
 have HS := Lib.hid hS
 have HLT := Lib.hid hlt1
 obtain ⟨n, hnn⟩ : ∃ n, n = h.parents.length := ⟨_, rfl⟩
 have HNN := Lib.hid hnn
 rw [← hnn] at HU1 HB1 HW hm
 obtain ⟨c, hc⟩ : ∃ c, c = (hdc h (.slice ad n cap)).toArray := ⟨_, rfl⟩
 have HC := Lib.hid hc
 rw [← hnn]
 unfold hdv
 rw [← hc] at HB1 HW ⊢
 clear hb1 hbl hw1 hX hv hu hr hnn hc hS hlt1
 go_enter Tryz.func12, Tryz.ntmps12
 go_upto_region 1 with fail
 refine wp_at HW.out.symm ?_
 rw [← HXX.out]
 clear HW
 go_wp2_with fail
 go_loopw [5, 6] (fun o i wr => ∃ k : Nat, k ≤ n ∧ i = .int .i64 (k : Int) ∧ OwnI wr (S ≤ ·) o ((h.parents.take k).filter fun p => !knows (hs P) p) ∧ Turn (fun b => S ≤ b) w1 wr) (fun _ i _ => n - (intOf i).toNat)
 case atStart => exact ⟨0, Nat.zero_le _, rfl, OwnI.nil _ _, HT1.out⟩
 case round =>
  clear HT1
  obtain ⟨k, hk, rfl, ho, ht⟩ := hrel
  have k0 : (0 : Int) ≤ (k : Int) := Int.natCast_nonneg _
  have hb := ht.below fun b hb => (show w1.heap.size ≤ b by rw [← HS.out]; exact hb)
  have hx := HB1.out.turn ht (by have := HLT.out; omega)
  have hv := HV1.out.next hb
  have hu := HU1.out.next hb
  have c0 : wr.cell? ⟨X, 0, none⟩ = some (.slice ad n cap) := (HdBlk.of (HC.out ▸ hx) HR.out).parents
  have HO := Lib.hid ho
  have HT := Lib.hid ht
  have HV := Lib.hid hv
  have HU := Lib.hid hu
  by_cases hlt : k < n
  ·
   have kI : (k : Int) < (n : Int) := by omega
   have hkP : k < h.parents.length := by rw [← HNN.out]; exact hlt
   obtain ⟨b, off, rfl, hbb, hbl2, hld⟩ := hu.load hkP
   have hld := hld 0
   obtain ⟨y, hy⟩ : ∃ y, y = h.parents.getD k [] := ⟨_, rfl⟩
   have hy32 : y.length = 32 := by rw [hy]; exact hu.ok.get hkP
   have hfd := find_ref hRS y hy32 v P wr hv hf hn
   unfold idv at hfd
   have hsn : ((h.parents.take (k + 1)).filter fun p => !knows (hs P) p) = ((h.parents.take k).filter fun p => !knows (hs P) p) ++ (if knows (hs P) y = true then [] else [y]) := by
    rw [List.take_succ_eq_append_getElem hkP, List.filter_append]
    have : h.parents[k] = y := by rw [hy, List.getD_eq_getElem?_getD, List.getElem?_eq_getElem hkP]; rfl
    rw [this]
    congr 1
    cases hkn : knows (hs P) y <;> simp [hkn]
   rw [← hy] at hld
   have hfn := findI_neg (x := y) (K := hs P)
   have hfk := findI_knows (x := y) (K := hs P)
   obtain ⟨f, hff⟩ : ∃ f, f = findI y (hs P) := ⟨_, rfl⟩
   rw [← hff] at hfd hfn hfk
   obtain ⟨L, hL⟩ : ∃ L, L = (h.parents.take k).filter fun p => !knows (hs P) p := ⟨_, rfl⟩
   have hLl : L.length ≤ 1000 := by rw [hL]; exact Nat.le_trans (List.length_filter_le _ _) (by rw [List.length_take]; omega)
   rw [← hL] at hsn HO
   have HYY := Lib.hid hy
   have HFD := Lib.hid hfd
   have HSN := Lib.hid hsn
   have HY := Lib.hid hy32
   have HLL := Lib.hid hLl
   obtain ⟨oa, oc, hvf, -, -⟩ := HO.out.form
   obtain ⟨ll, hll⟩ : ∃ l, l = L.length := ⟨_, rfl⟩
   rw [← hll] at hvf
   subst hvf
   clear hll ho ht hb hx hv hu hy hfd hsn hff hL hLl hbb hbl2 hkP
   by_cases hk1 : knows (hs P) y = true
   ·
    have HK : Hid (((h.parents.take (k + 1)).filter fun p => !knows (hs P) p) = L) := Lib.hid (by rw [HSN.out, if_pos hk1, List.append_nil])
    have hf0 : 0 ≤ f := hfk.2 hk1
    clear hfn hfk hk1
    go_wp2_with (first
     | ((with_reducible refine step_load (t := 24) (x := .tmp 17) (p := ?lpa1) (v := ?lva1) ?lga1 ?loa1 ?lxa1 ?lra1 ?lha1); (case lga1 => rfl); (case loa1 => rfl); (case lxa1 => rfl); (case lra1 => exact hld))
     | (go_at_call 24; (with_reducible refine HFD.out.mono ?_); rintro e w2 ⟨rfl, hb2⟩; have HB2 := Lib.hid hb2; clear hb2))
    go_roundw
    case rel => exact ⟨k + 1, hlt, by push_cast; rfl, by rw [HK.out]; exact HO.out.below HB2.out, HT.out.trans (Turn.fresh HB2.out fun b hb => (show S ≤ b by have := HT.out.size; have := HS.out; omega))⟩
    case measure => simp [intOf]; omega
   ·
    have HK : Hid (((h.parents.take (k + 1)).filter fun p => !knows (hs P) p) = L ++ [y]) := Lib.hid (by rw [HSN.out, if_neg hk1])
    have hf0 : f < 0 := hfn.2 (by simpa using hk1)
    clear hfn hfk hk1
    go_wp2_with (first
     | ((with_reducible refine step_load (t := 24) (x := .tmp 17) (p := ?lpa2) (v := ?lva2) ?lga2 ?loa2 ?lxa2 ?lra2 ?lha2); (case lga2 => rfl); (case loa2 => rfl); (case lxa2 => rfl); (case lra2 => exact hld))
     | (go_at_call 24; go_loud ((with_reducible refine HFD.out.mono ?_); rintro e w2 ⟨rfl, hb2⟩; have ho2 := HO.out.below hb2; have hu2 := HU.out.next hb2; have hx2 := HB1.out.turn (HT.out.trans (Turn.fresh hb2 fun b hb => (show S ≤ b by have := HT.out.size; have := HS.out; omega))) (by have := HLT.out; omega); have c1 : w2.cell? ⟨X, 0, none⟩ = some (.slice (some ⟨b, off, none⟩) n cap) := (HdBlk.of (HC.out ▸ hx2) HR.out).parents; have hl2 := hu2.load_y (i := k) (by rw [← HNN.out]; exact hlt) HYY.out.symm; have hwr : w2.heap.size ≤ w2.heap.size := Nat.le_refl _; obtain ⟨v4, w4, hrun, ho4, ht4⟩ := run_append_one ho2 HY.out (by have := HLL.out; omega) (fun b hb => (show S ≤ b by have := HT.out.size; have := HS.out; have := hb2.size; omega)) 22; have HB2 := Lib.hid hb2; have HO4 := Lib.hid ho4; have HT4 := Lib.hid ht4; have HO2 := Lib.hid ho2; clear hb2 ho2 hu2 hx2 ho4 ht4 hwr c0))
     | ((with_reducible refine step_load (t := 24) (x := .tmp 26) (p := ?lpb2) (v := ?lvb2) ?lgb2 ?lob2 ?lxb2 ?lrb2 ?lhb2); (case lgb2 => rfl); (case lob2 => rfl); (case lxb2 => rfl); (case lrb2 => exact hl2))
     | ((with_reducible refine step_build1 (x := .tmp 27) (y := ?byc2) ?bgc2 ?boc2 ?bxc2 ?blc2 ?bhc2); (case bgc2 => rfl); (case boc2 => rfl); (case bxc2 => rfl); (case blc2 => exact HY.out))
     | ((with_reducible refine step_append (s := .tmp 22) (x := .tmp 28) (t := 22) (vs := ?asd2) (vx := ?axd2) (v' := ?avd2) (w' := ?awd2) ?agd2 ?aod2 ?apd2 ?aqd2 ?ard2 ?ahd2); (case agd2 => rfl); (case aod2 => rfl); (case apd2 => rfl); (case aqd2 => rfl); (case ard2 => exact hrun)))
    go_roundw
    case rel => exact ⟨k + 1, hlt, by push_cast; rfl, by rw [HK.out]; exact HO4.out, (HT.out.trans (Turn.fresh HB2.out fun b hb => (show S ≤ b by have := HT.out.size; have := HS.out; omega))).trans (HT4.out.mono fun b hb => (show S ≤ b by
     rcases hb with hb | hb
     ·
      exact HO2.out.2.2 b hb
     ·
      have := HT.out.size; have := HS.out; have := HB2.out.size; omega))⟩
    case measure => simp [intOf]; omega
  ·
   obtain rfl : k = n := by omega
   have HE : Hid (((h.parents.take k).filter fun p => !knows (hs P) p) = unknownR h (hs P)) := Lib.hid (by
    rw [List.take_of_length_le (by rw [← HNN.out]; exact Nat.le_refl _)]; rfl)
   obtain ⟨oa, oc, hvf, -, -⟩ := ho.form
   obtain ⟨ll, hll⟩ : ∃ l, l = ((h.parents.take k).filter fun p => !knows (hs P) p).length := ⟨_, rfl⟩
   rw [← hll] at hvf
   subst hvf
   clear hll hlt ho ht hb hx hv hu
   go_wp2_with fail
   go_ret
   have hS1 := HS.out
   have hB1 := HBL.out.size
   exact ⟨_, rfl, by rw [← HE.out]; exact HO.out.mono fun b hb => (show w.heap.size ≤ b by omega), HBL.out.trans (HT.out.below fun b hb => (show w.heap.size ≤ b by omega))⟩
end Go.Proofs.YtpeneeddfgmjpaaGreatDoor.rul

namespace Go.Proofs.YtpeneeddfgmjpaaGreatDoor.rul
open Go.RowKit Go.Proofs.YtpeneeddfgmjpaaGreatDoor.mem Go.Proofs.YtpeneeddfgmjpaaGreatDoor.sha Go.Proofs.YtpeneeddfgmjpaaGreatDoor.ids Go.Proofs.YtpeneeddfgmjpaaGreatDoor.hdr Go.Proofs.YtpeneeddfgmjpaaGreatDoor.hds
open Go.Proofs.YtpeneeddfgmjpaaGreatDoor.opn (zid)

/-- the known ones of some ids, as they lie -/
def gotP (P : HP) (x : Id) : Hd × Value := P.getD (findI x (hs P)).toNat zhp
theorem gotP_fst {P : HP} {x : Id} (h : knows (hs P) x = true) : (gotP P x).1 = got (hs P) x ∧ gotP P x ∈ P ∧ ∃ i : Nat, findI x (hs P) = (i : Int) ∧ i < P.length ∧ gotP P x = P.getD i zhp := by
 obtain ⟨i, h1, h2⟩ := findI_got h
 have hlt : i < P.length := by
  have := (List.getElem?_eq_some_iff.1 h2).1
  rwa [hs_len] at this
 have e : gotP P x = P.getD i zhp := by unfold gotP; rw [h1]; rfl
 refine ⟨?_, ?_, i, h1, hlt, e⟩
 ·
  rw [e]
  have := hs_get hlt
  rw [h2] at this
  exact (Option.some.inj this).symm
 ·
  rw [e, List.getD_eq_getElem?_getD, List.getElem?_eq_getElem hlt]
  exact List.getElem_mem hlt
theorem verdict_eq (h : Hd) (K : List Hd) : verdictR h K = if checkH h ≠ 0 then checkH h else if unknownR h K ≠ [] then 11 else if heightR (h.parents.map (got K)) ≠ h.height then 12 else 0 := rfl
end Go.Proofs.YtpeneeddfgmjpaaGreatDoor.rul

namespace Go.Proofs.YtpeneeddfgmjpaaGreatDoor.rul
open Go.RowKit Go.Proofs.YtpeneeddfgmjpaaGreatDoor.mem Go.Proofs.YtpeneeddfgmjpaaGreatDoor.sha Go.Proofs.YtpeneeddfgmjpaaGreatDoor.ids Go.Proofs.YtpeneeddfgmjpaaGreatDoor.hdr Go.Proofs.YtpeneeddfgmjpaaGreatDoor.hds
open Go.Proofs.YtpeneeddfgmjpaaGreatDoor.opn (zid)

set_option maxHeartbeats 8000000 in
set_option maxRecDepth 100000 in
theorem verdict_ref (hRS : RSum) (h : Hd) (u : Value) (v : Value) (P : HP) (w : World) (hr : h.commit.length = 32) (hu : RdV w u h.parents) (hm : h.parents.length ≤ 1000) (htp : h.topic.length ≤ 140737488351232) (hv : HsV w v P) (hf : Few P) (hn : P.length ≤ 1000000) :
  Calls Tryz.prog 9 #[hdv h u, v] w fun e w' => e = .returned (.int .i64 (verdictR h (hs P))) ∧ Below w.heap.size w w' := by
 obtain ⟨X, hX⟩ : ∃ S, S = w.heap.size := ⟨_, rfl⟩
 obtain ⟨w1, hw1⟩ : ∃ z, z = w.alloc (.cells (hdc h u).toArray 26) := ⟨_, rfl⟩
 have hb1 : Blk w1 X 26 (hdc h u).toArray := by rw [hw1, hX]; exact Blk.new w _ _
 have hbl : Below w.heap.size w w1 := by rw [hw1]; exact (Below.refl _ _).alloc (Nat.le_refl _) _
 have hu1 := hu.next hbl
 have hv1 := hv.next hbl
 have hld := run_load_hd hb1 hr
 have hck := check_any h u w1 hr hu1 hm htp
 have HB1 := Lib.hid hb1
 have HBL := Lib.hid hbl
 have HV1 := Lib.hid hv1
 have HU1 := Lib.hid hu1
 have HW := Lib.hid hw1
 have HXX := Lib.hid hX
 have HR := Lib.hid hr
 have HVE := Lib.hid (verdict_eq h (hs P))
 obtain ⟨e0, he0⟩ : ∃ e, e = checkH h := ⟨_, rfl⟩
 rw [← he0] at hck HVE
 obtain ⟨hh, hhh⟩ : ∃ z, z = hdv h u := ⟨_, rfl⟩
 have hhv : hh = .agg (hdc h u).toArray := hhh
 obtain ⟨ca, hca⟩ : ∃ z, z = (hdc h u).toArray := ⟨_, rfl⟩
 rw [← hhh] at hld hck
 have HHH := Lib.hid hhh
 have HCA := Lib.hid hca
 have HCK := Lib.hid hck
 rw [← hca] at hhv
 subst hhv
 rw [← hca] at HW
 rw [← hhh]
 clear hb1 hbl hw1 hX hv hu hr hck he0 hca hhh hu1 hv1
 by_cases h0 : e0 = 0
 case neg =>
  have hne : (e0 != 0) = true := bne_iff_ne.2 h0
  have HE : Hid (verdictR h (hs P) = e0) := Lib.hid (by rw [HVE.out, if_pos h0])
  clear h0
  go_enter Tryz.func9, Tryz.ntmps9
  go_upto_region 1 with fail
  refine wp_at HW.out.symm ?_
  rw [← HXX.out]
  clear HW
  go_wp2_with (first
   | ((with_reducible refine step_load (t := 26) (x := .tmp 2) (p := ?lpa1) (v := ?lva1) ?lga1 ?loa1 ?lxa1 ?lra1 ?lha1); (case lga1 => rfl); (case loa1 => rfl); (case lxa1 => rfl); (case lra1 => exact hld))
   | (go_at_call 23; (with_reducible refine HCK.out.mono ?_); rintro e w2 ⟨rfl, hb2⟩))
  go_ret
  exact ⟨by rw [HE.out]; rfl, HBL.out.trans (hb2.mono HBL.out.size)⟩
 subst h0
 have HVE : Hid (verdictR h (hs P) = if unknownR h (hs P) ≠ [] then 11 else if heightR (h.parents.map (got (hs P))) ≠ h.height then 12 else 0) := Lib.hid (by rw [HVE.out, if_neg (by simp)])
 by_cases h1 : unknownR h (hs P) = []
 case neg =>
  have HE : Hid (verdictR h (hs P) = 11) := Lib.hid (by rw [HVE.out, if_pos h1])
  obtain ⟨ul, hul⟩ : ∃ l, l = (unknownR h (hs P)).length := ⟨_, rfl⟩
  have h2 : (0 : Int) < (ul : Int) := by have := List.length_pos_iff.2 h1; omega
  have HUL := Lib.hid hul
  clear h1 hul
  go_enter Tryz.func9, Tryz.ntmps9
  go_upto_region 1 with fail
  refine wp_at HW.out.symm ?_
  rw [← HXX.out]
  clear HW
  go_wp2_with (first
   | (go_at_call 23; (with_reducible refine HCK.out.mono ?_); rintro e w2 ⟨rfl, hb2⟩; have HB2 := Lib.hid hb2; have hl2 := run_load_hd (HB1.out.below hb2 HB1.out.lt) HR.out; rw [← HHH.out] at hl2; have hun := unknown_ref hRS h u v P w2 HR.out (HU1.out.next hb2) hm (HV1.out.next hb2) hf hn; rw [← HHH.out] at hun; have HUN := Lib.hid hun; clear hb2 hun hld HCK)
   | ((with_reducible refine step_load (t := 26) (x := .tmp 2) (p := ?lpa2) (v := ?lva2) ?lga2 ?loa2 ?lxa2 ?lra2 ?lha2); (case lga2 => rfl); (case loa2 => rfl); (case lxa2 => rfl); (case lra2 => exact hld))
   | ((with_reducible refine step_load (t := 26) (x := .tmp 2) (p := ?lpb2) (v := ?lvb2) ?lgb2 ?lob2 ?lxb2 ?lrb2 ?lhb2); (case lgb2 => rfl); (case lob2 => rfl); (case lxb2 => rfl); (case lrb2 => exact hl2))
   | (go_at_call 12; (with_reducible refine HUN.out.mono ?_); rintro e w3 ⟨o, rfl, ho, hb3⟩; obtain ⟨oa, oc, hvf, -, -⟩ := ho.form; rw [← HUL.out] at hvf; subst hvf; have HB3 := Lib.hid hb3; clear hb3 ho))
  go_ret
  exact ⟨by rw [HE.out]; rfl, (HBL.out.trans (HB2.out.mono HBL.out.size)).trans (HB3.out.mono (Nat.le_trans HBL.out.size HB2.out.size))⟩
 have hkn := unknown_nil.1 h1
 have HVE : Hid (verdictR h (hs P) = if heightR (h.parents.map (got (hs P))) ≠ h.height then 12 else 0) := Lib.hid (by rw [HVE.out, if_neg (by rw [h1]; simp)])
 obtain ⟨ul, hul⟩ : ∃ l, l = (unknownR h (hs P)).length := ⟨_, rfl⟩
 have h2 : (ul : Int) = 0 := by rw [hul, h1]; rfl
 have HUL := Lib.hid hul
 have HKN := Lib.hid hkn
 obtain ⟨ad, cap, hvu⟩ := HU1.out.form
 obtain ⟨n, hnn⟩ : ∃ n, n = h.parents.length := ⟨_, rfl⟩
 rw [← hnn] at hvu
 have HNN := Lib.hid hnn
 have hn1 : (n : Int) ≤ 1000 := by rw [hnn]; omega
 have HVU := Lib.hid hvu
 clear h1 hul hkn hnn hvu
 go_enter Tryz.func9, Tryz.ntmps9
 go_upto_region 1 with fail
 refine wp_at HW.out.symm ?_
 rw [← HXX.out]
 clear HW
 go_wp2_with (first
  | (go_at_call 23; (with_reducible refine HCK.out.mono ?_); rintro e w2 ⟨rfl, hb2⟩; have HB2 := Lib.hid hb2; have hl2 := run_load_hd (HB1.out.below hb2 HB1.out.lt) HR.out; rw [← HHH.out] at hl2; have hun := unknown_ref hRS h u v P w2 HR.out (HU1.out.next hb2) hm (HV1.out.next hb2) hf hn; rw [← HHH.out] at hun; have HUN := Lib.hid hun; clear hb2 hun hld HCK)
  | ((with_reducible refine step_load (t := 26) (x := .tmp 2) (p := ?lpa3) (v := ?lva3) ?lga3 ?loa3 ?lxa3 ?lra3 ?lha3); (case lga3 => rfl); (case loa3 => rfl); (case lxa3 => rfl); (case lra3 => exact hld))
  | ((with_reducible refine step_load (t := 26) (x := .tmp 2) (p := ?lpb3) (v := ?lvb3) ?lgb3 ?lob3 ?lxb3 ?lrb3 ?lhb3); (case lgb3 => rfl); (case lob3 => rfl); (case lxb3 => rfl); (case lrb3 => exact hl2))
  | (go_at_call 12; (with_reducible refine HUN.out.mono ?_); rintro e w3 ⟨o, rfl, ho, hb3⟩; obtain ⟨oa, oc, hvf, -, -⟩ := ho.form; rw [← HUL.out] at hvf; subst hvf; have HB3 := Lib.hid hb3; clear hb3 ho hl2 HUN))
 clear h2
 obtain ⟨S, hS⟩ : ∃ S, S = w3.heap.size := ⟨_, rfl⟩
 have hb13 : Below w1.heap.size w1 w3 := HB2.out.trans (HB3.out.mono HB2.out.size)
 have HX3 := Lib.hid (HB1.out.below hb13 HB1.out.lt)
 have HV3 := Lib.hid (HV1.out.next hb13)
 have HU3 := Lib.hid (HU1.out.next hb13)
 have HB13 := Lib.hid (HBL.out.trans (hb13.mono HBL.out.size))
 have HXS : Hid (X < S) := Lib.hid (by rw [hS]; exact HX3.out.lt)
 have HT3 := Lib.hid (show Turn (S ≤ ·) w3 w3 from Turn.refl _ _)
 have HS := Lib.hid hS
 clear hS hb13 HB2 HB3
 go_loopw [6, 7] (fun o i wr => ∃ k : Nat, k ≤ n ∧ i = .int .i64 (k : Int) ∧ OwnH wr (S ≤ ·) o ((h.parents.take k).map (gotP P)) ∧ Turn (S ≤ ·) w3 wr) (fun _ i _ => n - (intOf i).toNat)
 case atStart => exact ⟨0, Nat.zero_le _, rfl, OwnH.nil _ _, HT3.out⟩
 case round =>
  clear HT3
  obtain ⟨k, hk, rfl, ho, ht⟩ := hrel
  have k0 : (0 : Int) ≤ (k : Int) := Int.natCast_nonneg _
  have hb := ht.below fun b hb => (show w3.heap.size ≤ b by rw [← HS.out]; exact hb)
  have hx := HX3.out.turn ht (by have := HXS.out; omega)
  have hv := HV3.out.next hb
  have hu := HU3.out.next hb
  have c0 : wr.cell? ⟨X, 0, none⟩ = some (.slice ad n cap) := HVU.out ▸ (HdBlk.of hx HR.out).parents
  have c1 : wr.cell? ⟨X, 1, none⟩ = some (.int .i64 h.height) := (HdBlk.of hx HR.out).height
  have HO := Lib.hid ho
  have HT := Lib.hid ht
  have HV := Lib.hid hv
  have HU := Lib.hid hu
  obtain ⟨oa, oc, hvf⟩ := ho.form
  obtain ⟨ll, hll⟩ : ∃ l, l = ((h.parents.take k).map (gotP P)).length := ⟨_, rfl⟩
  have hllk : ll ≤ 1000 := by rw [hll, List.length_map, List.length_take]; omega
  rw [← hll] at hvf
  subst hvf
  by_cases hlt : k < n
  ·
   have kI : (k : Int) < (n : Int) := by omega
   have hkP : k < h.parents.length := by rw [← HNN.out]; exact hlt
   rw [HVU.out] at hu
   obtain ⟨b, off, rfl, hbb, hbl2, hldp⟩ := hu.load hkP
   have hldp := hldp 0
   obtain ⟨y, hy⟩ : ∃ y, y = h.parents.getD k [] := ⟨_, rfl⟩
   have hy32 : y.length = 32 := by rw [hy]; exact hu.ok.get hkP
   have hyk : knows (hs P) y = true := HKN.out y (by rw [hy, List.getD_eq_getElem?_getD, List.getElem?_eq_getElem hkP]; exact List.getElem_mem hkP)
   have hfd := find_ref hRS y hy32 v P wr hv hf hn
   unfold idv at hfd
   rw [← hy] at hldp
   obtain ⟨-, hgm, i, hi, hiP, hgi⟩ := gotP_fst hyk
   rw [hi] at hfd
   have hsn : (h.parents.take (k + 1)).map (gotP P) = (h.parents.take k).map (gotP P) ++ [gotP P y] := by
    rw [List.take_succ_eq_append_getElem hkP, List.map_append]
    have : h.parents[k] = y := by rw [hy, List.getD_eq_getElem?_getD, List.getElem?_eq_getElem hkP]; rfl
    rw [this]; rfl
   obtain ⟨qh, qv, hq⟩ : ∃ a b, P.getD i zhp = (a, b) := ⟨_, _, rfl⟩
   rw [hgi, hq] at hsn
   have hvform := hv.form
   obtain ⟨pa, pc, rfl⟩ := hvform
   have hiI : (i : Int) < (P.length : Int) := by omega
   have i0 : (0 : Int) ≤ (i : Int) := Int.natCast_nonneg _
   obtain ⟨pn, hpn⟩ : ∃ n, n = P.length := ⟨_, rfl⟩
   rw [← hpn] at hfd hiI
   have HPN := Lib.hid hpn
   obtain ⟨pb, po, rfl, hpb, -, -, -, -⟩ := hv.at_ hiP
   have HFD := Lib.hid hfd
   have HSN := Lib.hid hsn
   have HY := Lib.hid hy32
   have HIP := Lib.hid hiP
   have HQ := Lib.hid hq
   have HLL := Lib.hid hllk
   have HLN := Lib.hid hll
   rw [← hpn] at HV1 HV3 HV
   rw [← hpn]
   clear ho ht hb hx hv hu hy hfd hsn hll hllk hbb hbl2 hkP hyk hgm hi hiP hgi hq hpb hpn
   go_wp2_with (first
    | ((with_reducible refine step_load (t := 24) (x := .tmp 30) (p := ?lpc3) (v := ?lvc3) ?lgc3 ?loc3 ?lxc3 ?lrc3 ?lhc3); (case lgc3 => rfl); (case loc3 => rfl); (case lxc3 => rfl); (case lrc3 => exact hldp))
    | (go_at_call 24; (with_reducible refine HFD.out.mono ?_); rintro e w5 ⟨rfl, hb5⟩; have ho5 := HO.out.next hb5; have hv5 := HV.out.next hb5; rw [HPN.out] at hv5; obtain ⟨pb', po', epb, hpb, hl5, -⟩ := hv5.at_ HIP.out; cases epb; have hl5 := hl5 0; have hin := hv5.2.get HIP.out; rw [HQ.out] at hl5 hin; have hsz5 := hb5.size; obtain ⟨v6, w6, hrun, ho6, ht6, hat6⟩ := push_hd ho5 qh qv hin.2 hin.1 (fun hne b off n c e hk => absurd (rdv_lt (HV3.out.2.get (i := i) (by exact HIP.out)).1 (by rw [HQ.out]; exact hne) (by rw [HQ.out]; exact e)) (by have := HO.out.1.2.2 b hk; have := HS.out; omega)) (by rw [← HLN.out]; have := HLL.out; omega) (fun b hb => (show S ≤ b by have := HT.out.size; have := HS.out; omega)) 27; have HL32 := Lib.hid hin.2; have HB5 := Lib.hid hb5; have HO6 := Lib.hid ho6; have HT6 := Lib.hid ht6; have HO5 := Lib.hid ho5; clear hb5 ho5 hv5 hin ho6 ht6 hat6 hpb hsz5)
    | ((with_reducible refine step_load (t := 26) (x := .tmp 34) (p := ?lpd3) (v := ?lvd3) ?lgd3 ?lod3 ?lxd3 ?lrd3 ?lhd3); (case lgd3 => rfl); (case lod3 => rfl); (case lxd3 => rfl); (case lrd3 => exact hl5))
    | ((with_reducible refine hds.step_build1h (x := .tmp 35) (h := ?bhe3) (v := ?bve3) ?bge3 ?boe3 ?bxe3 ?ble3 ?bke3); (case bge3 => rfl); (case boe3 => rfl); (case bxe3 => rfl); (case ble3 => exact HL32.out))
    | ((with_reducible refine step_append (s := .tmp 25) (x := .tmp 36) (t := 27) (vs := ?asf3) (vx := ?axf3) (v' := ?avf3) (w' := ?awf3) ?agf3 ?aof3 ?apf3 ?aqf3 ?arf3 ?ahf3); (case agf3 => rfl); (case aof3 => rfl); (case apf3 => rfl); (case aqf3 => rfl); (case arf3 => exact hrun)))
   go_roundw
   case rel => exact ⟨k + 1, hlt, by push_cast; rfl, by rw [HSN.out]; exact HO6.out, (HT.out.trans (Turn.fresh HB5.out fun b hb => (show S ≤ b by have := HT.out.size; have := HS.out; omega))).trans (HT6.out.mono fun b hb => (show S ≤ b by
    rcases hb with hb | hb
    ·
     exact HO5.out.1.2.2 b hb
    ·
     have := HT.out.size; have := HS.out; have := HB5.out.size; omega))⟩
   case measure => simp [intOf]; omega
  ·
   obtain rfl : k = n := by omega
   have htk : (h.parents.take k).map (gotP P) = h.parents.map (gotP P) := by rw [List.take_of_length_le (by rw [← HNN.out]; exact Nat.le_refl _)]
   have hgg : hs (h.parents.map (gotP P)) = h.parents.map (got (hs P)) := by
    unfold hs
    rw [List.map_map]
    exact List.map_congr_left fun p hp => (gotP_fst (HKN.out p hp)).1
   rw [htk] at ho hll
   have hhr := fun m => height_ref (.slice oa ll oc) (h.parents.map (gotP P)) (wr.drewN m) ((ho.hsv (by rw [List.length_map]; omega)).drewN m) (by rw [List.length_map]; omega)
   rw [hgg] at hhr
   obtain ⟨x, hx2⟩ : ∃ x, x = heightR (h.parents.map (got (hs P))) := ⟨_, rfl⟩
   rw [← hx2] at hhr HVE
   obtain ⟨y, hy⟩ : ∃ y, y = h.height := ⟨_, rfl⟩
   rw [← hy] at HVE c1
   have HHR := Lib.hid hhr
   clear hlt ho ht hb hx hv hu hll hllk htk hgg hhr hx2 hy
   go_upto_region 11 with fail
   go_quiet ((go_at_call 14; exact quiet_left (HHR.out _)))
   by_cases hxy : x = y
   ·
    have HE : Hid (verdictR h (hs P) = 0) := Lib.hid (by rw [HVE.out, if_neg (fun hh => hh hxy)])
    have e1 : (x != y) = false := by rw [hxy]; simp
    clear hxy
    go_wp2_with fail
    go_ret
    exact ⟨by rw [HE.out]; rfl, below_drewN (HB13.out.trans (HT.out.below fun b hb => (show w.heap.size ≤ b by have := HS.out; have := HB13.out.size; omega))) _⟩
   ·
    have HE : Hid (verdictR h (hs P) = 12) := Lib.hid (by rw [HVE.out, if_pos hxy])
    have e1 : (x != y) = true := bne_iff_ne.2 hxy
    clear hxy
    go_wp2_with fail
    go_ret
    exact ⟨by rw [HE.out]; rfl, below_drewN (HB13.out.trans (HT.out.below fun b hb => (show w.heap.size ≤ b by have := HS.out; have := HB13.out.size; omega))) _⟩
end Go.Proofs.YtpeneeddfgmjpaaGreatDoor.rul
