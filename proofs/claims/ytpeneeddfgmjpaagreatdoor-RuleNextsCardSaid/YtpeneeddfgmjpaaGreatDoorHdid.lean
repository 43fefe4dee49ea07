/-
  petrelref15.find, Unknown.
  petrelref15.Verdict.
  petrelref15.Verdict.
  What stands while Next takes the heads that stand behind all others.
  A header built of its parts; the block that holds it.
  petrelref08.Ahead (Ident stands in Hdia).
-/
import Derived.Test.YtpeneeddfgmjpaaGreatDoorRufh
import Derived.Test.YtpeneeddfgmjpaaGreatDoorRufa
import Derived.BigQuiet
import Derived.Deep.QuietTactic
import Derived.Test.YtpeneeddfgmjpaaGreatDoorExh
import Derived.Test.YtpeneeddfgmjpaaGreatDoorIdsx
import Derived.Test.YtpeneeddfgmjpaaGreatDoorHdia
namespace Go.Proofs.YtpeneeddfgmjpaaGreatDoor.rul
open Go.RowKit Go.Proofs.YtpeneeddfgmjpaaGreatDoor.mem Go.Proofs.YtpeneeddfgmjpaaGreatDoor.sha Go.Proofs.YtpeneeddfgmjpaaGreatDoor.ids Go.Proofs.YtpeneeddfgmjpaaGreatDoor.hdr Go.Proofs.YtpeneeddfgmjpaaGreatDoor.hds
open Go.Proofs.YtpeneeddfgmjpaaGreatDoor.opn (zid)

set_option maxHeartbeats 4000000 in
set_option maxRecDepth 100000 in
theorem find_ref (hRS : RSum) (x : Id) (hx : x.length = 32) (v : Value) (P : HP) (w : World) (hv : HsV w v P) (hf : Few P) (hn : P.length ≤ 1000000) :
  Calls Tryz.prog 24 #[idv x, v] w fun e w' => e = .returned (.int .i64 (findI x (hs P))) ∧ Below w.heap.size w w' := by
 obtain ⟨ad, cap, rfl⟩ := hv.form
 obtain ⟨X, hX⟩ : ∃ S, S = w.heap.size := ⟨_, rfl⟩
 obtain ⟨w1, hw1⟩ : ∃ u, u = w.alloc (.cells (bv x).toArray 24) := ⟨_, rfl⟩
 have hb1 : Blk w1 X 24 (bv x).toArray := by rw [hw1, hX]; exact Blk.new w _ _
 have hbl : Below w.heap.size w w1 := by rw [hw1]; exact (Below.refl _ _).alloc (Nat.le_refl _) _
 have HB1 := Lib.hid hb1
 have HBL := Lib.hid hbl
 have HV1 := Lib.hid (hv.next hbl)
 have HW := Lib.hid hw1
 have HXX := Lib.hid hX
 have HX := Lib.hid hx
 obtain ⟨n, hnn⟩ : ∃ n, n = P.length := ⟨_, rfl⟩
 have HNN := Lib.hid hnn
 rw [← hnn] at hn HV1
 rw [← hnn]
 clear hb1 hbl hw1 hX hv hx hnn
 unfold idv
 go_enter Tryz.func24, Tryz.ntmps24
 go_upto_region 1 with fail
 refine wp_at HW.out.symm ?_
 rw [← HXX.out]
 clear HW
 go_wp2_with fail
 go_loopw [5] (fun i wr => ∃ k : Nat, k ≤ n ∧ i = .int .i64 (k : Int) ∧ HsV wr (.slice ad n cap) P ∧ Blk wr X 24 (bv x).toArray ∧ Below w.heap.size w wr ∧ ∀ j, j < k → isId x ((hs P).getD j zhd) = false) (fun i _ => n - (intOf i).toNat)
 case atStart => exact ⟨0, Nat.zero_le _, rfl, HV1.out, HB1.out, HBL.out, fun j hj => absurd hj (Nat.not_lt_zero _)⟩
 case round =>
  clear HV1 HB1 HBL
  obtain ⟨k, hk, rfl, hv, hb, hbl, hno⟩ := hrel
  have k0 : (0 : Int) ≤ (k : Int) := Int.natCast_nonneg _
  have HNO := Lib.hid hno
  have HBL := Lib.hid hbl
  by_cases hlt : k < n
  ·
   have kI : (k : Int) < (n : Int) := by omega
   have hkP : k < P.length := by rw [← HNN.out]; exact hlt
   obtain ⟨b, off, rfl, hbb, hld, -, -, -⟩ := hv.at_ hkP
   have hld := hld 0
   have hin := hv.2.get hkP
   have hfw := hf.get hkP
   have hid := ident_any hRS (P.getD k zhp).1 (P.getD k zhp).2 wr hin.2 hin.1 hfw.1 hfw.2
   have hl32 := idH_l32 (P.getD k zhp).1
   obtain ⟨y, hy⟩ : ∃ y, y = (idH (P.getD k zhp).1).1 := ⟨_, rfl⟩
   obtain ⟨er, her⟩ : ∃ e, e = (idH (P.getD k zhp).1).2 := ⟨_, rfl⟩
   have hq : Hid (isId x ((hs P).getD k zhd) = (decide (er = 0) && decide (y = x))) := Lib.hid (by rw [hs_getD hkP]; exact isId_eq (by rw [hy, her]))
   have hg := hs_get hkP
   have HG := Lib.hid hg
   rw [← hy, ← her] at hid
   rw [← hy] at hl32
   obtain ⟨hv0, hhv⟩ : ∃ u, u = hdv (P.getD k zhp).1 (P.getD k zhp).2 := ⟨_, rfl⟩
   rw [← hhv] at hld hid
   have HID := Lib.hid hid
   have HL := Lib.hid hl32
   have HV := Lib.hid hv
   have HB := Lib.hid hb
   have HKP := Lib.hid hkP
   have HGD : Hid (∀ u, (eqGuard .eql 24 (.tmp 25) (.tmp 26) (idv y) (idv x)).run Tryz.prog u = .ok () u) := Lib.hid fun u => run_eqGuard_agg u .eql 24 (.tmp 25) (.tmp 26) _ _ Tryz.eqGuardType24
   have HEQ := Lib.hid fun u => eql_i u y x HL.out HX.out
   obtain ⟨bq, hbq⟩ : ∃ b, b = decide (y = x) := ⟨_, rfl⟩
   rw [← hbq] at HEQ hq
   clear hno hbl hin hfw hid hl32 hy her hg hhv hv hb hkP hbb hbq
   by_cases he : er = 0
   ·
    subst he
    cases bq with
    | true =>
     have HE : Hid (findI x (hs P) = (k : Int)) := Lib.hid (findI_at HG.out HNO.out (by rw [← hs_getD HKP.out, hq.out]; rfl))
     go_wp2_with (first
      | ((with_reducible refine step_load (t := 26) (x := .tmp 17) (p := ?lpa1) (v := ?lva1) ?lga1 ?loa1 ?lxa1 ?lra1 ?lha1); (case lga1 => rfl); (case loa1 => rfl); (case lxa1 => rfl); (case lra1 => exact hld))
      | (go_at_call 29; (with_reducible refine HID.out.mono ?_); rintro e w2 ⟨rfl, hb2⟩; have HH := Lib.hid (run_holdI w2 y HL.out); have hb3 := heldI_below w2 y; have hl3 := box_load (heldI_blk w2 y) HL.out 0; have hx3 := (HB.out.below hb2 HB.out.lt).below hb3 (Nat.lt_of_lt_of_le HB.out.lt hb2.size); have hlx := box_load hx3 HX.out 0; have HX3 := Lib.hid hx3; have HV3 := Lib.hid ((HV.out.next hb2).next hb3); have HB3 := Lib.hid ((HBL.out.trans (hb2.mono HBL.out.size)).trans (hb3.mono (Nat.le_trans HBL.out.size hb2.size))); clear hb2 hb3 hx3 HID HV HB)
      | ((with_reducible refine step_store_run (t := 24) (x := .tmp 6) (y := .tmp 20) (p := ?spb1) (v := ?svb1) (w' := ?swb1) ?sgb1 ?sob1 ?sxb1 ?syb1 ?srb1 ?shb1); (case sgb1 => rfl); (case sob1 => rfl); (case sxb1 => rfl); (case syb1 => rfl); (case srb1 => exact HH.out))
      | ((with_reducible refine step_load_w (t := 24) (x := .tmp 6) (p := ?lpc1) (v := ?lvc1) ?lgc1 ?loc1 ?lxc1 ?lrc1 ?lhc1); (case loc1 => rfl); (case lgc1 => rfl); (case lxc1 => rfl); (case lrc1 => exact hl3))
      | ((with_reducible refine step_load_w (t := 24) (x := .tmp 2) (p := ?lpd1) (v := ?lvd1) ?lgd1 ?lod1 ?lxd1 ?lrd1 ?lhd1); (case lod1 => rfl); (case lgd1 => rfl); (case lxd1 => rfl); (case lrd1 => exact hlx))
      | ((with_reducible refine step_bin_w (op := .eql) (t := 24) (x := .tmp 25) (y := .tmp 26) (t2 := ?nbe1) (u := ?nue1) (v := ?nve1) (r := ?nre1) ?nwe1 ?noe1 ?nxe1 ?nye1 ?nge1 ?nqe1 ?nhe1); (case noe1 => rfl); (case nwe1 => rfl); (case nxe1 => rfl); (case nye1 => rfl); (case nge1 => exact HGD.out _); (case nqe1 => exact HEQ.out _)))
     go_ret
     exact ⟨by rw [HE.out]; rfl, HB3.out⟩
    | false =>
     go_wp2_with (first
      | ((with_reducible refine step_load (t := 26) (x := .tmp 17) (p := ?lpa2) (v := ?lva2) ?lga2 ?loa2 ?lxa2 ?lra2 ?lha2); (case lga2 => rfl); (case loa2 => rfl); (case lxa2 => rfl); (case lra2 => exact hld))
      | (go_at_call 29; (with_reducible refine HID.out.mono ?_); rintro e w2 ⟨rfl, hb2⟩; have HH := Lib.hid (run_holdI w2 y HL.out); have hb3 := heldI_below w2 y; have hl3 := box_load (heldI_blk w2 y) HL.out 0; have hx3 := (HB.out.below hb2 HB.out.lt).below hb3 (Nat.lt_of_lt_of_le HB.out.lt hb2.size); have hlx := box_load hx3 HX.out 0; have HX3 := Lib.hid hx3; have HV3 := Lib.hid ((HV.out.next hb2).next hb3); have HB3 := Lib.hid ((HBL.out.trans (hb2.mono HBL.out.size)).trans (hb3.mono (Nat.le_trans HBL.out.size hb2.size))); clear hb2 hb3 hx3 HID HV HB)
      | ((with_reducible refine step_store_run (t := 24) (x := .tmp 6) (y := .tmp 20) (p := ?spb2) (v := ?svb2) (w' := ?swb2) ?sgb2 ?sob2 ?sxb2 ?syb2 ?srb2 ?shb2); (case sgb2 => rfl); (case sob2 => rfl); (case sxb2 => rfl); (case syb2 => rfl); (case srb2 => exact HH.out))
      | ((with_reducible refine step_load_w (t := 24) (x := .tmp 6) (p := ?lpc2) (v := ?lvc2) ?lgc2 ?loc2 ?lxc2 ?lrc2 ?lhc2); (case loc2 => rfl); (case lgc2 => rfl); (case lxc2 => rfl); (case lrc2 => exact hl3))
      | ((with_reducible refine step_load_w (t := 24) (x := .tmp 2) (p := ?lpd2) (v := ?lvd2) ?lgd2 ?lod2 ?lxd2 ?lrd2 ?lhd2); (case lod2 => rfl); (case lgd2 => rfl); (case lxd2 => rfl); (case lrd2 => exact hlx))
      | ((with_reducible refine step_bin_w (op := .eql) (t := 24) (x := .tmp 25) (y := .tmp 26) (t2 := ?nbe2) (u := ?nue2) (v := ?nve2) (r := ?nre2) ?nwe2 ?noe2 ?nxe2 ?nye2 ?nge2 ?nqe2 ?nhe2); (case noe2 => rfl); (case nwe2 => rfl); (case nxe2 => rfl); (case nye2 => rfl); (case nge2 => exact HGD.out _); (case nqe2 => exact HEQ.out _)))
     go_roundw
     case rel => exact ⟨k + 1, hlt, by push_cast; rfl, HV3.out, HX3.out, HB3.out, fun j hj => by
      rcases Nat.lt_or_ge j k with c | c
      ·
       exact HNO.out j c
      ·
       obtain rfl : j = k := by omega
       rw [hq.out, Bool.and_false]⟩
     case measure => simp [intOf]; omega
   ·
    have hne : (er == 0) = false := beq_eq_false_iff_ne.2 he
    have HQ : Hid (decide (er = 0) = false) := Lib.hid (decide_eq_false he)
    clear he
    go_wp2_with (first
     | ((with_reducible refine step_load (t := 26) (x := .tmp 17) (p := ?lpa3) (v := ?lva3) ?lga3 ?loa3 ?lxa3 ?lra3 ?lha3); (case lga3 => rfl); (case loa3 => rfl); (case lxa3 => rfl); (case lra3 => exact hld))
     | (go_at_call 29; (with_reducible refine HID.out.mono ?_); rintro e w2 ⟨rfl, hb2⟩; have HH := Lib.hid (run_holdI w2 y HL.out); have hb3 := heldI_below w2 y; have hl3 := box_load (heldI_blk w2 y) HL.out 0; have hx3 := (HB.out.below hb2 HB.out.lt).below hb3 (Nat.lt_of_lt_of_le HB.out.lt hb2.size); have hlx := box_load hx3 HX.out 0; have HX3 := Lib.hid hx3; have HV3 := Lib.hid ((HV.out.next hb2).next hb3); have HB3 := Lib.hid ((HBL.out.trans (hb2.mono HBL.out.size)).trans (hb3.mono (Nat.le_trans HBL.out.size hb2.size))); clear hb2 hb3 hx3 HID HV HB)
     | ((with_reducible refine step_store_run (t := 24) (x := .tmp 6) (y := .tmp 20) (p := ?spb3) (v := ?svb3) (w' := ?swb3) ?sgb3 ?sob3 ?sxb3 ?syb3 ?srb3 ?shb3); (case sgb3 => rfl); (case sob3 => rfl); (case sxb3 => rfl); (case syb3 => rfl); (case srb3 => exact HH.out)))
    go_roundw
    case rel => exact ⟨k + 1, hlt, by push_cast; rfl, HV3.out, HX3.out, HB3.out, fun j hj => by
     rcases Nat.lt_or_ge j k with c | c
     ·
      exact HNO.out j c
     ·
      obtain rfl : j = k := by omega
      rw [hq.out, HQ.out, Bool.false_and]⟩
    case measure => simp [intOf]; omega
  ·
   obtain rfl : k = n := by omega
   have HE : Hid (findI x (hs P) = -1) := Lib.hid (findI_none fun j hj => HNO.out j (by rw [hs_len, ← HNN.out] at hj; exact hj))
   clear hlt hno hbl hv hb
   go_wp2_with fail
   go_ret
   exact ⟨by rw [HE.out]; rfl, HBL.out⟩
set_option maxHeartbeats 4000000 in
set_option maxRecDepth 100000 in
theorem unknown_ref (hRS : RSum) (h : Hd) (u : Value) (v : Value) (P : HP) (w : World) (hr : h.commit.length = 32) (hu : RdV w u h.parents) (hm : h.parents.length ≤ 1000) (hv : HsV w v P) (hf : Few P) (hn : P.length ≤ 1000000) :
  Calls Tryz.prog 12 #[hdv h u, v] w fun e w' => ∃ o, e = .returned o ∧ OwnI w' (w.heap.size ≤ ·) o (unknownR h (hs P)) ∧ Below w.heap.size w w' := by
 obtain ⟨ad, cap, rfl⟩ := hu.form
 obtain ⟨X, hX⟩ : ∃ S, S = w.heap.size := ⟨_, rfl⟩
 obtain ⟨w1, hw1⟩ : ∃ z, z = w.alloc (.cells (hdc h (.slice ad h.parents.length cap)).toArray 26) := ⟨_, rfl⟩
 have hb1 : Blk w1 X 26 (hdc h (.slice ad h.parents.length cap)).toArray := by rw [hw1, hX]; exact Blk.new w _ _
 have hbl : Below w.heap.size w w1 := by rw [hw1]; exact (Below.refl _ _).alloc (Nat.le_refl _) _
 have hlt1 : X < w1.heap.size := hb1.lt
 have HB1 := Lib.hid hb1
 have HBL := Lib.hid hbl
 have HV1 := Lib.hid (hv.next hbl)
 have HU1 := Lib.hid (hu.next hbl)
 have HW := Lib.hid hw1
 have HXX := Lib.hid hX
 have HR := Lib.hid hr
 have HT1 := Lib.hid (show Turn (fun b => w1.heap.size ≤ b) w1 w1 from Turn.refl _ _)
 obtain ⟨S, hS⟩ : ∃ S, S = w1.heap.size := ⟨_, rfl⟩
 rw [← hS] at HT1 hlt1
 have HS := Lib.hid hS
 have HLT := Lib.hid hlt1
 obtain ⟨n, hnn⟩ : ∃ n, n = h.parents.length := ⟨_, rfl⟩
 have HNN := Lib.hid hnn
 rw [← hnn] at HU1 HB1 HW hm
 obtain ⟨c, hc⟩ : ∃ c, c = (hdc h (.slice ad n cap)).toArray := ⟨_, rfl⟩
 have HC := Lib.hid hc
 rw [← hnn]
 unfold hdv
 rw [← hc] at HB1 HW ⊢
 clear hb1 hbl hw1 hX hv hu hr hnn hc hS hlt1
 go_enter Tryz.func12, Tryz.ntmps12
 go_upto_region 1 with fail
 refine wp_at HW.out.symm ?_
 rw [← HXX.out]
 clear HW
 go_wp2_with fail
 go_loopw [5, 6] (fun o i wr => ∃ k : Nat, k ≤ n ∧ i = .int .i64 (k : Int) ∧ OwnI wr (S ≤ ·) o ((h.parents.take k).filter fun p => !knows (hs P) p) ∧ Turn (fun b => S ≤ b) w1 wr) (fun _ i _ => n - (intOf i).toNat)
 case atStart => exact ⟨0, Nat.zero_le _, rfl, OwnI.nil _ _, HT1.out⟩
 case round =>
  clear HT1
  obtain ⟨k, hk, rfl, ho, ht⟩ := hrel
  have k0 : (0 : Int) ≤ (k : Int) := Int.natCast_nonneg _
  have hb := ht.below fun b hb => (show w1.heap.size ≤ b by rw [← HS.out]; exact hb)
  have hx := HB1.out.turn ht (by have := HLT.out; omega)
  have hv := HV1.out.next hb
  have hu := HU1.out.next hb
  have c0 : wr.cell? ⟨X, 0, none⟩ = some (.slice ad n cap) := (HdBlk.of (HC.out ▸ hx) HR.out).parents
  have HO := Lib.hid ho
  have HT := Lib.hid ht
  have HV := Lib.hid hv
  have HU := Lib.hid hu
  by_cases hlt : k < n
  ·
   have kI : (k : Int) < (n : Int) := by omega
   have hkP : k < h.parents.length := by rw [← HNN.out]; exact hlt
   obtain ⟨b, off, rfl, hbb, hbl2, hld⟩ := hu.load hkP
   have hld := hld 0
   obtain ⟨y, hy⟩ : ∃ y, y = h.parents.getD k [] := ⟨_, rfl⟩
   have hy32 : y.length = 32 := by rw [hy]; exact hu.ok.get hkP
   have hfd := find_ref hRS y hy32 v P wr hv hf hn
   unfold idv at hfd
   have hsn : ((h.parents.take (k + 1)).filter fun p => !knows (hs P) p) = ((h.parents.take k).filter fun p => !knows (hs P) p) ++ (if knows (hs P) y = true then [] else [y]) := by
    rw [List.take_succ_eq_append_getElem hkP, List.filter_append]
    have : h.parents[k] = y := by rw [hy, List.getD_eq_getElem?_getD, List.getElem?_eq_getElem hkP]; rfl
    rw [this]
    congr 1
    cases hkn : knows (hs P) y <;> simp [hkn]
   rw [← hy] at hld
   have hfn := findI_neg (x := y) (K := hs P)
   have hfk := findI_knows (x := y) (K := hs P)
   obtain ⟨f, hff⟩ : ∃ f, f = findI y (hs P) := ⟨_, rfl⟩
   rw [← hff] at hfd hfn hfk
   obtain ⟨L, hL⟩ : ∃ L, L = (h.parents.take k).filter fun p => !knows (hs P) p := ⟨_, rfl⟩
   have hLl : L.length ≤ 1000 := by rw [hL]; exact Nat.le_trans (List.length_filter_le _ _) (by rw [List.length_take]; omega)
   rw [← hL] at hsn HO
   have HYY := Lib.hid hy
   have HFD := Lib.hid hfd
   have HSN := Lib.hid hsn
   have HY := Lib.hid hy32
   have HLL := Lib.hid hLl
   obtain ⟨oa, oc, hvf, -, -⟩ := HO.out.form
   obtain ⟨ll, hll⟩ : ∃ l, l = L.length := ⟨_, rfl⟩
   rw [← hll] at hvf
   subst hvf
   clear hll ho ht hb hx hv hu hy hfd hsn hff hL hLl hbb hbl2 hkP
   by_cases hk1 : knows (hs P) y = true
   ·
    have HK : Hid (((h.parents.take (k + 1)).filter fun p => !knows (hs P) p) = L) := Lib.hid (by rw [HSN.out, if_pos hk1, List.append_nil])
    have hf0 : 0 ≤ f := hfk.2 hk1
    clear hfn hfk hk1
    go_wp2_with (first
     | ((with_reducible refine step_load (t := 24) (x := .tmp 17) (p := ?lpa1) (v := ?lva1) ?lga1 ?loa1 ?lxa1 ?lra1 ?lha1); (case lga1 => rfl); (case loa1 => rfl); (case lxa1 => rfl); (case lra1 => exact hld))
     | (go_at_call 24; (with_reducible refine HFD.out.mono ?_); rintro e w2 ⟨rfl, hb2⟩; have HB2 := Lib.hid hb2; clear hb2))
    go_roundw
    case rel => exact ⟨k + 1, hlt, by push_cast; rfl, by rw [HK.out]; exact HO.out.below HB2.out, HT.out.trans (Turn.fresh HB2.out fun b hb => (show S ≤ b by have := HT.out.size; have := HS.out; omega))⟩
    case measure => simp [intOf]; omega
   ·
    have HK : Hid (((h.parents.take (k + 1)).filter fun p => !knows (hs P) p) = L ++ [y]) := Lib.hid (by rw [HSN.out, if_neg hk1])
    have hf0 : f < 0 := hfn.2 (by simpa using hk1)
    clear hfn hfk hk1
    go_wp2_with (first
     | ((with_reducible refine step_load (t := 24) (x := .tmp 17) (p := ?lpa2) (v := ?lva2) ?lga2 ?loa2 ?lxa2 ?lra2 ?lha2); (case lga2 => rfl); (case loa2 => rfl); (case lxa2 => rfl); (case lra2 => exact hld))
     | (go_at_call 24; go_loud ((with_reducible refine HFD.out.mono ?_); rintro e w2 ⟨rfl, hb2⟩; have ho2 := HO.out.below hb2; have hu2 := HU.out.next hb2; have hx2 := HB1.out.turn (HT.out.trans (Turn.fresh hb2 fun b hb => (show S ≤ b by have := HT.out.size; have := HS.out; omega))) (by have := HLT.out; omega); have c1 : w2.cell? ⟨X, 0, none⟩ = some (.slice (some ⟨b, off, none⟩) n cap) := (HdBlk.of (HC.out ▸ hx2) HR.out).parents; have hl2 := hu2.load_y (i := k) (by rw [← HNN.out]; exact hlt) HYY.out.symm; have hwr : w2.heap.size ≤ w2.heap.size := Nat.le_refl _; obtain ⟨v4, w4, hrun, ho4, ht4⟩ := run_append_one ho2 HY.out (by have := HLL.out; omega) (fun b hb => (show S ≤ b by have := HT.out.size; have := HS.out; have := hb2.size; omega)) 22; have HB2 := Lib.hid hb2; have HO4 := Lib.hid ho4; have HT4 := Lib.hid ht4; have HO2 := Lib.hid ho2; clear hb2 ho2 hu2 hx2 ho4 ht4 hwr c0))
     | ((with_reducible refine step_load (t := 24) (x := .tmp 26) (p := ?lpb2) (v := ?lvb2) ?lgb2 ?lob2 ?lxb2 ?lrb2 ?lhb2); (case lgb2 => rfl); (case lob2 => rfl); (case lxb2 => rfl); (case lrb2 => exact hl2))
     | ((with_reducible refine step_build1 (x := .tmp 27) (y := ?byc2) ?bgc2 ?boc2 ?bxc2 ?blc2 ?bhc2); (case bgc2 => rfl); (case boc2 => rfl); (case bxc2 => rfl); (case blc2 => exact HY.out))
     | ((with_reducible refine step_append (s := .tmp 22) (x := .tmp 28) (t := 22) (vs := ?asd2) (vx := ?axd2) (v' := ?avd2) (w' := ?awd2) ?agd2 ?aod2 ?apd2 ?aqd2 ?ard2 ?ahd2); (case agd2 => rfl); (case aod2 => rfl); (case apd2 => rfl); (case aqd2 => rfl); (case ard2 => exact hrun)))
    go_roundw
    case rel => exact ⟨k + 1, hlt, by push_cast; rfl, by rw [HK.out]; exact HO4.out, (HT.out.trans (Turn.fresh HB2.out fun b hb => (show S ≤ b by have := HT.out.size; have := HS.out; omega))).trans (HT4.out.mono fun b hb => (show S ≤ b by
     rcases hb with hb | hb
     ·
      exact HO2.out.2.2 b hb
     ·
      have := HT.out.size; have := HS.out; have := HB2.out.size; omega))⟩
    case measure => simp [intOf]; omega
  ·
   obtain rfl : k = n := by omega
   have HE : Hid (((h.parents.take k).filter fun p => !knows (hs P) p) = unknownR h (hs P)) := Lib.hid (by
    rw [List.take_of_length_le (by rw [← HNN.out]; exact Nat.le_refl _)]; rfl)
   obtain ⟨oa, oc, hvf, -, -⟩ := ho.form
   obtain ⟨ll, hll⟩ : ∃ l, l = ((h.parents.take k).filter fun p => !knows (hs P) p).length := ⟨_, rfl⟩
   rw [← hll] at hvf
   subst hvf
   clear hll hlt ho ht hb hx hv hu
   go_wp2_with fail
   go_ret
   have hS1 := HS.out
   have hB1 := HBL.out.size
   exact ⟨_, rfl, by rw [← HE.out]; exact HO.out.mono fun b hb => (show w.heap.size ≤ b by omega), HBL.out.trans (HT.out.below fun b hb => (show w.heap.size ≤ b by omega))⟩
end Go.Proofs.YtpeneeddfgmjpaaGreatDoor.rul

namespace Go.Proofs.YtpeneeddfgmjpaaGreatDoor.rul
open Go.RowKit Go.Proofs.YtpeneeddfgmjpaaGreatDoor.mem Go.Proofs.YtpeneeddfgmjpaaGreatDoor.sha Go.Proofs.YtpeneeddfgmjpaaGreatDoor.ids Go.Proofs.YtpeneeddfgmjpaaGreatDoor.hdr Go.Proofs.YtpeneeddfgmjpaaGreatDoor.hds
open Go.Proofs.YtpeneeddfgmjpaaGreatDoor.opn (zid)

/-- the known ones of some ids, as they lie -/
def gotP (P : HP) (x : Id) : Hd × Value := P.getD (findI x (hs P)).toNat zhp
theorem gotP_fst {P : HP} {x : Id} (h : knows (hs P) x = true) : (gotP P x).1 = got (hs P) x ∧ gotP P x ∈ P ∧ ∃ i : Nat, findI x (hs P) = (i : Int) ∧ i < P.length ∧ gotP P x = P.getD i zhp := by
 obtain ⟨i, h1, h2⟩ := findI_got h
 have hlt : i < P.length := by
  have := (List.getElem?_eq_some_iff.1 h2).1
  rwa [hs_len] at this
 have e : gotP P x = P.getD i zhp := by unfold gotP; rw [h1]; rfl
 refine ⟨?_, ?_, i, h1, hlt, e⟩
 ·
  rw [e]
  have := hs_get hlt
  rw [h2] at this
  exact (Option.some.inj this).symm
 ·
  rw [e, List.getD_eq_getElem?_getD, List.getElem?_eq_getElem hlt]
  exact List.getElem_mem hlt
theorem verdict_eq (h : Hd) (K : List Hd) : verdictR h K = if checkH h ≠ 0 then checkH h else if unknownR h K ≠ [] then 11 else if heightR (h.parents.map (got K)) ≠ h.height then 12 else 0 := rfl
end Go.Proofs.YtpeneeddfgmjpaaGreatDoor.rul

namespace Go.Proofs.YtpeneeddfgmjpaaGreatDoor.rul
open Go.RowKit Go.Proofs.YtpeneeddfgmjpaaGreatDoor.mem Go.Proofs.YtpeneeddfgmjpaaGreatDoor.sha Go.Proofs.YtpeneeddfgmjpaaGreatDoor.ids Go.Proofs.YtpeneeddfgmjpaaGreatDoor.hdr Go.Proofs.YtpeneeddfgmjpaaGreatDoor.hds
open Go.Proofs.YtpeneeddfgmjpaaGreatDoor.opn (zid)

set_option maxHeartbeats 8000000 in
set_option maxRecDepth 100000 in
theorem verdict_ref (hRS : RSum) (h : Hd) (u : Value) (v : Value) (P : HP) (w : World) (hr : h.commit.length = 32) (hu : RdV w u h.parents) (hm : h.parents.length ≤ 1000) (htp : h.topic.length ≤ 140737488351232) (hv : HsV w v P) (hf : Few P) (hn : P.length ≤ 1000000) :
  Calls Tryz.prog 9 #[hdv h u, v] w fun e w' => e = .returned (.int .i64 (verdictR h (hs P))) ∧ Below w.heap.size w w' := by
 obtain ⟨X, hX⟩ : ∃ S, S = w.heap.size := ⟨_, rfl⟩
 obtain ⟨w1, hw1⟩ : ∃ z, z = w.alloc (.cells (hdc h u).toArray 26) := ⟨_, rfl⟩
 have hb1 : Blk w1 X 26 (hdc h u).toArray := by rw [hw1, hX]; exact Blk.new w _ _
 have hbl : Below w.heap.size w w1 := by rw [hw1]; exact (Below.refl _ _).alloc (Nat.le_refl _) _
 have hu1 := hu.next hbl
 have hv1 := hv.next hbl
 have hld := run_load_hd hb1 hr
 have hck := check_any h u w1 hr hu1 hm htp
 have HB1 := Lib.hid hb1
 have HBL := Lib.hid hbl
 have HV1 := Lib.hid hv1
 have HU1 := Lib.hid hu1
 have HW := Lib.hid hw1
 have HXX := Lib.hid hX
 have HR := Lib.hid hr
 have HVE := Lib.hid (verdict_eq h (hs P))
 obtain ⟨e0, he0⟩ : ∃ e, e = checkH h := ⟨_, rfl⟩
 rw [← he0] at hck HVE
 obtain ⟨hh, hhh⟩ : ∃ z, z = hdv h u := ⟨_, rfl⟩
 have hhv : hh = .agg (hdc h u).toArray := hhh
 obtain ⟨ca, hca⟩ : ∃ z, z = (hdc h u).toArray := ⟨_, rfl⟩
 rw [← hhh] at hld hck
 have HHH := Lib.hid hhh
 have HCA := Lib.hid hca
 have HCK := Lib.hid hck
 rw [← hca] at hhv
 subst hhv
 rw [← hca] at HW
 rw [← hhh]
 clear hb1 hbl hw1 hX hv hu hr hck he0 hca hhh hu1 hv1
 by_cases h0 : e0 = 0
 case neg =>
  have hne : (e0 != 0) = true := bne_iff_ne.2 h0
  have HE : Hid (verdictR h (hs P) = e0) := Lib.hid (by rw [HVE.out, if_pos h0])
  clear h0
  go_enter Tryz.func9, Tryz.ntmps9
  go_upto_region 1 with fail
  refine wp_at HW.out.symm ?_
  rw [← HXX.out]
  clear HW
  go_wp2_with (first
   | ((with_reducible refine step_load (t := 26) (x := .tmp 2) (p := ?lpa1) (v := ?lva1) ?lga1 ?loa1 ?lxa1 ?lra1 ?lha1); (case lga1 => rfl); (case loa1 => rfl); (case lxa1 => rfl); (case lra1 => exact hld))
   | (go_at_call 23; (with_reducible refine HCK.out.mono ?_); rintro e w2 ⟨rfl, hb2⟩))
  go_ret
  exact ⟨by rw [HE.out]; rfl, HBL.out.trans (hb2.mono HBL.out.size)⟩
 subst h0
 have HVE : Hid (verdictR h (hs P) = if unknownR h (hs P) ≠ [] then 11 else if heightR (h.parents.map (got (hs P))) ≠ h.height then 12 else 0) := Lib.hid (by rw [HVE.out, if_neg (by simp)])
 by_cases h1 : unknownR h (hs P) = []
 case neg =>
  have HE : Hid (verdictR h (hs P) = 11) := Lib.hid (by rw [HVE.out, if_pos h1])
  obtain ⟨ul, hul⟩ : ∃ l, l = (unknownR h (hs P)).length := ⟨_, rfl⟩
  have h2 : (0 : Int) < (ul : Int) := by have := List.length_pos_iff.2 h1; omega
  have HUL := Lib.hid hul
  clear h1 hul
  go_enter Tryz.func9, Tryz.ntmps9
  go_upto_region 1 with fail
  refine wp_at HW.out.symm ?_
  rw [← HXX.out]
  clear HW
  go_wp2_with (first
   | (go_at_call 23; (with_reducible refine HCK.out.mono ?_); rintro e w2 ⟨rfl, hb2⟩; have HB2 := Lib.hid hb2; have hl2 := run_load_hd (HB1.out.below hb2 HB1.out.lt) HR.out; rw [← HHH.out] at hl2; have hun := unknown_ref hRS h u v P w2 HR.out (HU1.out.next hb2) hm (HV1.out.next hb2) hf hn; rw [← HHH.out] at hun; have HUN := Lib.hid hun; clear hb2 hun hld HCK)
   | ((with_reducible refine step_load (t := 26) (x := .tmp 2) (p := ?lpa2) (v := ?lva2) ?lga2 ?loa2 ?lxa2 ?lra2 ?lha2); (case lga2 => rfl); (case loa2 => rfl); (case lxa2 => rfl); (case lra2 => exact hld))
   | ((with_reducible refine step_load (t := 26) (x := .tmp 2) (p := ?lpb2) (v := ?lvb2) ?lgb2 ?lob2 ?lxb2 ?lrb2 ?lhb2); (case lgb2 => rfl); (case lob2 => rfl); (case lxb2 => rfl); (case lrb2 => exact hl2))
   | (go_at_call 12; (with_reducible refine HUN.out.mono ?_); rintro e w3 ⟨o, rfl, ho, hb3⟩; obtain ⟨oa, oc, hvf, -, -⟩ := ho.form; rw [← HUL.out] at hvf; subst hvf; have HB3 := Lib.hid hb3; clear hb3 ho))
  go_ret
  exact ⟨by rw [HE.out]; rfl, (HBL.out.trans (HB2.out.mono HBL.out.size)).trans (HB3.out.mono (Nat.le_trans HBL.out.size HB2.out.size))⟩
 have hkn := unknown_nil.1 h1
 have HVE : Hid (verdictR h (hs P) = if heightR (h.parents.map (got (hs P))) ≠ h.height then 12 else 0) := Lib.hid (by rw [HVE.out, if_neg (by rw [h1]; simp)])
 obtain ⟨ul, hul⟩ : ∃ l, l = (unknownR h (hs P)).length := ⟨_, rfl⟩
 have h2 : (ul : Int) = 0 := by rw [hul, h1]; rfl
 have HUL := Lib.hid hul
 have HKN := Lib.hid hkn
 obtain ⟨ad, cap, hvu⟩ := HU1.out.form
 obtain ⟨n, hnn⟩ : ∃ n, n = h.parents.length := ⟨_, rfl⟩
 rw [← hnn] at hvu
 have HNN := Lib.hid hnn
 have hn1 : (n : Int) ≤ 1000 := by rw [hnn]; omega
 have HVU := Lib.hid hvu
 clear h1 hul hkn hnn hvu
 go_enter Tryz.func9, Tryz.ntmps9
 go_upto_region 1 with fail
 refine wp_at HW.out.symm ?_
 rw [← HXX.out]
 clear HW
 go_wp2_with (first
  | (go_at_call 23; (with_reducible refine HCK.out.mono ?_); rintro e w2 ⟨rfl, hb2⟩; have HB2 := Lib.hid hb2; have hl2 := run_load_hd (HB1.out.below hb2 HB1.out.lt) HR.out; rw [← HHH.out] at hl2; have hun := unknown_ref hRS h u v P w2 HR.out (HU1.out.next hb2) hm (HV1.out.next hb2) hf hn; rw [← HHH.out] at hun; have HUN := Lib.hid hun; clear hb2 hun hld HCK)
  | ((with_reducible refine step_load (t := 26) (x := .tmp 2) (p := ?lpa3) (v := ?lva3) ?lga3 ?loa3 ?lxa3 ?lra3 ?lha3); (case lga3 => rfl); (case loa3 => rfl); (case lxa3 => rfl); (case lra3 => exact hld))
  | ((with_reducible refine step_load (t := 26) (x := .tmp 2) (p := ?lpb3) (v := ?lvb3) ?lgb3 ?lob3 ?lxb3 ?lrb3 ?lhb3); (case lgb3 => rfl); (case lob3 => rfl); (case lxb3 => rfl); (case lrb3 => exact hl2))
  | (go_at_call 12; (with_reducible refine HUN.out.mono ?_); rintro e w3 ⟨o, rfl, ho, hb3⟩; obtain ⟨oa, oc, hvf, -, -⟩ := ho.form; rw [← HUL.out] at hvf; subst hvf; have HB3 := Lib.hid hb3; clear hb3 ho hl2 HUN))
 clear h2
 obtain ⟨S, hS⟩ : ∃ S, S = w3.heap.size := ⟨_, rfl⟩
 have hb13 : Below w1.heap.size w1 w3 := HB2.out.trans (HB3.out.mono HB2.out.size)
 have HX3 := Lib.hid (HB1.out.below hb13 HB1.out.lt)
 have HV3 := Lib.hid (HV1.out.next hb13)
 have HU3 := Lib.hid (HU1.out.next hb13)
 have HB13 := Lib.hid (HBL.out.trans (hb13.mono HBL.out.size))
 have HXS : Hid (X < S) := Lib.hid (by rw [hS]; exact HX3.out.lt)
 have HT3 := Lib.hid (show Turn (S ≤ ·) w3 w3 from Turn.refl _ _)
 have HS := Lib.hid hS
 clear hS hb13 HB2 HB3
 go_loopw [6, 7] (fun o i wr => ∃ k : Nat, k ≤ n ∧ i = .int .i64 (k : Int) ∧ OwnH wr (S ≤ ·) o ((h.parents.take k).map (gotP P)) ∧ Turn (S ≤ ·) w3 wr) (fun _ i _ => n - (intOf i).toNat)
 case atStart => exact ⟨0, Nat.zero_le _, rfl, OwnH.nil _ _, HT3.out⟩
 case round =>
  clear HT3
  obtain ⟨k, hk, rfl, ho, ht⟩ := hrel
  have k0 : (0 : Int) ≤ (k : Int) := Int.natCast_nonneg _
  have hb := ht.below fun b hb => (show w3.heap.size ≤ b by rw [← HS.out]; exact hb)
  have hx := HX3.out.turn ht (by have := HXS.out; omega)
  have hv := HV3.out.next hb
  have hu := HU3.out.next hb
  have c0 : wr.cell? ⟨X, 0, none⟩ = some (.slice ad n cap) := HVU.out ▸ (HdBlk.of hx HR.out).parents
  have c1 : wr.cell? ⟨X, 1, none⟩ = some (.int .i64 h.height) := (HdBlk.of hx HR.out).height
  have HO := Lib.hid ho
  have HT := Lib.hid ht
  have HV := Lib.hid hv
  have HU := Lib.hid hu
  obtain ⟨oa, oc, hvf⟩ := ho.form
  obtain ⟨ll, hll⟩ : ∃ l, l = ((h.parents.take k).map (gotP P)).length := ⟨_, rfl⟩
  have hllk : ll ≤ 1000 := by rw [hll, List.length_map, List.length_take]; omega
  rw [← hll] at hvf
  subst hvf
  by_cases hlt : k < n
  ·
   have kI : (k : Int) < (n : Int) := by omega
   have hkP : k < h.parents.length := by rw [← HNN.out]; exact hlt
   rw [HVU.out] at hu
   obtain ⟨b, off, rfl, hbb, hbl2, hldp⟩ := hu.load hkP
   have hldp := hldp 0
   obtain ⟨y, hy⟩ : ∃ y, y = h.parents.getD k [] := ⟨_, rfl⟩
   have hy32 : y.length = 32 := by rw [hy]; exact hu.ok.get hkP
   have hyk : knows (hs P) y = true := HKN.out y (by rw [hy, List.getD_eq_getElem?_getD, List.getElem?_eq_getElem hkP]; exact List.getElem_mem hkP)
   have hfd := find_ref hRS y hy32 v P wr hv hf hn
   unfold idv at hfd
   rw [← hy] at hldp
   obtain ⟨-, hgm, i, hi, hiP, hgi⟩ := gotP_fst hyk
   rw [hi] at hfd
   have hsn : (h.parents.take (k + 1)).map (gotP P) = (h.parents.take k).map (gotP P) ++ [gotP P y] := by
    rw [List.take_succ_eq_append_getElem hkP, List.map_append]
    have : h.parents[k] = y := by rw [hy, List.getD_eq_getElem?_getD, List.getElem?_eq_getElem hkP]; rfl
    rw [this]; rfl
   obtain ⟨qh, qv, hq⟩ : ∃ a b, P.getD i zhp = (a, b) := ⟨_, _, rfl⟩
   rw [hgi, hq] at hsn
   have hvform := hv.form
   obtain ⟨pa, pc, rfl⟩ := hvform
   have hiI : (i : Int) < (P.length : Int) := by omega
   have i0 : (0 : Int) ≤ (i : Int) := Int.natCast_nonneg _
   obtain ⟨pn, hpn⟩ : ∃ n, n = P.length := ⟨_, rfl⟩
   rw [← hpn] at hfd hiI
   have HPN := Lib.hid hpn
   obtain ⟨pb, po, rfl, hpb, -, -, -, -⟩ := hv.at_ hiP
   have HFD := Lib.hid hfd
   have HSN := Lib.hid hsn
   have HY := Lib.hid hy32
   have HIP := Lib.hid hiP
   have HQ := Lib.hid hq
   have HLL := Lib.hid hllk
   have HLN := Lib.hid hll
   rw [← hpn] at HV1 HV3 HV
   rw [← hpn]
   clear ho ht hb hx hv hu hy hfd hsn hll hllk hbb hbl2 hkP hyk hgm hi hiP hgi hq hpb hpn
   go_wp2_with (first
    | ((with_reducible refine step_load (t := 24) (x := .tmp 30) (p := ?lpc3) (v := ?lvc3) ?lgc3 ?loc3 ?lxc3 ?lrc3 ?lhc3); (case lgc3 => rfl); (case loc3 => rfl); (case lxc3 => rfl); (case lrc3 => exact hldp))
    | (go_at_call 24; (with_reducible refine HFD.out.mono ?_); rintro e w5 ⟨rfl, hb5⟩; have ho5 := HO.out.next hb5; have hv5 := HV.out.next hb5; rw [HPN.out] at hv5; obtain ⟨pb', po', epb, hpb, hl5, -⟩ := hv5.at_ HIP.out; cases epb; have hl5 := hl5 0; have hin := hv5.2.get HIP.out; rw [HQ.out] at hl5 hin; have hsz5 := hb5.size; obtain ⟨v6, w6, hrun, ho6, ht6, hat6⟩ := push_hd ho5 qh qv hin.2 hin.1 (fun hne b off n c e hk => absurd (rdv_lt (HV3.out.2.get (i := i) (by exact HIP.out)).1 (by rw [HQ.out]; exact hne) (by rw [HQ.out]; exact e)) (by have := HO.out.1.2.2 b hk; have := HS.out; omega)) (by rw [← HLN.out]; have := HLL.out; omega) (fun b hb => (show S ≤ b by have := HT.out.size; have := HS.out; omega)) 27; have HL32 := Lib.hid hin.2; have HB5 := Lib.hid hb5; have HO6 := Lib.hid ho6; have HT6 := Lib.hid ht6; have HO5 := Lib.hid ho5; clear hb5 ho5 hv5 hin ho6 ht6 hat6 hpb hsz5)
    | ((with_reducible refine step_load (t := 26) (x := .tmp 34) (p := ?lpd3) (v := ?lvd3) ?lgd3 ?lod3 ?lxd3 ?lrd3 ?lhd3); (case lgd3 => rfl); (case lod3 => rfl); (case lxd3 => rfl); (case lrd3 => exact hl5))
    | ((with_reducible refine hds.step_build1h (x := .tmp 35) (h := ?bhe3) (v := ?bve3) ?bge3 ?boe3 ?bxe3 ?ble3 ?bke3); (case bge3 => rfl); (case boe3 => rfl); (case bxe3 => rfl); (case ble3 => exact HL32.out))
    | ((with_reducible refine step_append (s := .tmp 25) (x := .tmp 36) (t := 27) (vs := ?asf3) (vx := ?axf3) (v' := ?avf3) (w' := ?awf3) ?agf3 ?aof3 ?apf3 ?aqf3 ?arf3 ?ahf3); (case agf3 => rfl); (case aof3 => rfl); (case apf3 => rfl); (case aqf3 => rfl); (case arf3 => exact hrun)))
   go_roundw
   case rel => exact ⟨k + 1, hlt, by push_cast; rfl, by rw [HSN.out]; exact HO6.out, (HT.out.trans (Turn.fresh HB5.out fun b hb => (show S ≤ b by have := HT.out.size; have := HS.out; omega))).trans (HT6.out.mono fun b hb => (show S ≤ b by
    rcases hb with hb | hb
    ·
     exact HO5.out.1.2.2 b hb
    ·
     have := HT.out.size; have := HS.out; have := HB5.out.size; omega))⟩
   case measure => simp [intOf]; omega
  ·
   obtain rfl : k = n := by omega
   have htk : (h.parents.take k).map (gotP P) = h.parents.map (gotP P) := by rw [List.take_of_length_le (by rw [← HNN.out]; exact Nat.le_refl _)]
   have hgg : hs (h.parents.map (gotP P)) = h.parents.map (got (hs P)) := by
    unfold hs
    rw [List.map_map]
    exact List.map_congr_left fun p hp => (gotP_fst (HKN.out p hp)).1
   rw [htk] at ho hll
   have hhr := fun m => height_ref (.slice oa ll oc) (h.parents.map (gotP P)) (wr.drewN m) ((ho.hsv (by rw [List.length_map]; omega)).drewN m) (by rw [List.length_map]; omega)
   rw [hgg] at hhr
   obtain ⟨x, hx2⟩ : ∃ x, x = heightR (h.parents.map (got (hs P))) := ⟨_, rfl⟩
   rw [← hx2] at hhr HVE
   obtain ⟨y, hy⟩ : ∃ y, y = h.height := ⟨_, rfl⟩
   rw [← hy] at HVE c1
   have HHR := Lib.hid hhr
   clear hlt ho ht hb hx hv hu hll hllk htk hgg hhr hx2 hy
   go_upto_region 11 with fail
   go_quiet ((go_at_call 14; exact quiet_left (HHR.out _)))
   by_cases hxy : x = y
   ·
    have HE : Hid (verdictR h (hs P) = 0) := Lib.hid (by rw [HVE.out, if_neg (fun hh => hh hxy)])
    have e1 : (x != y) = false := by rw [hxy]; simp
    clear hxy
    go_wp2_with fail
    go_ret
    exact ⟨by rw [HE.out]; rfl, below_drewN (HB13.out.trans (HT.out.below fun b hb => (show w.heap.size ≤ b by have := HS.out; have := HB13.out.size; omega))) _⟩
   ·
    have HE : Hid (verdictR h (hs P) = 12) := Lib.hid (by rw [HVE.out, if_pos hxy])
    have e1 : (x != y) = true := bne_iff_ne.2 hxy
    clear hxy
    go_wp2_with fail
    go_ret
    exact ⟨by rw [HE.out]; rfl, below_drewN (HB13.out.trans (HT.out.below fun b hb => (show w.heap.size ≤ b by have := HS.out; have := HB13.out.size; omega))) _⟩
end Go.Proofs.YtpeneeddfgmjpaaGreatDoor.rul

namespace Go.Proofs.YtpeneeddfgmjpaaGreatDoor.rul
open Go.RowKit Go.Proofs.YtpeneeddfgmjpaaGreatDoor.mem Go.Proofs.YtpeneeddfgmjpaaGreatDoor.sha Go.Proofs.YtpeneeddfgmjpaaGreatDoor.ids Go.Proofs.YtpeneeddfgmjpaaGreatDoor.rows Go.Proofs.YtpeneeddfgmjpaaGreatDoor.hdr Go.Proofs.YtpeneeddfgmjpaaGreatDoor.hds
open Go.Proofs.YtpeneeddfgmjpaaGreatDoor.opn (zid)

theorem errR_at : ∀ (K : List Hd) (k : Nat) (h : Hd), K[k]? = some h → (∀ j, j < k → (idH (K.getD j zhd)).2 = 0) → (idH h).2 ≠ 0 → errR K = (idH h).2
 | [], k, h, hk, _, _ => by simp at hk
 | a :: K, 0, h, hk, _, he => by
  obtain rfl : a = h := by simpa using hk
  unfold errR; rw [if_pos he]
 | a :: K, k + 1, h, hk, hno, he => by
  have h0 := hno 0 (by omega)
  have h0 : (idH a).2 = 0 := h0
  unfold errR
  rw [if_neg (by rw [h0]; simp)]
  exact errR_at K k h (by simpa using hk) (fun j hj => hno (j + 1) (by omega)) he
theorem errR_none : ∀ (K : List Hd), (∀ j, j < K.length → (idH (K.getD j zhd)).2 = 0) → errR K = 0
 | [], _ => rfl
 | a :: K, hno => by
  have h0 : (idH a).2 = 0 := hno 0 (by simp)
  unfold errR
  rw [if_neg (by rw [h0]; simp)]
  exact errR_none K fun j hj => hno (j + 1) (by simp; omega)
/-- the ids alone -/
def idsP (P : HP) : List Id := P.map fun p => (idH p.1).1
theorem idsP_len (P : HP) : (idsP P).length = P.length := List.length_map ..
theorem idsP_get {P : HP} {i : Nat} (hi : i < P.length) : (idsP P).getD i [] = (idH (P.getD i zhp).1).1 := by
 unfold idsP
 rw [List.getD_eq_getElem?_getD, List.getElem?_map, List.getD_eq_getElem?_getD, List.getElem?_eq_getElem hi]
 rfl
theorem idsP_ok (P : HP) : okIds (idsP P) := fun x hx => by
 obtain ⟨p, _, rfl⟩ := List.mem_map.1 hx
 exact idH_l32 _
theorem idsP_snoc {P : HP} {k : Nat} (hk : k < P.length) : idsP (P.take (k + 1)) = idsP (P.take k) ++ [(idH (P.getD k zhp).1).1] := by
 unfold idsP
 rw [List.take_succ_eq_append_getElem hk, List.map_append, List.getD_eq_getElem?_getD, List.getElem?_eq_getElem hk]
 rfl
def cut1 {α : Type} (L : List α) (k : Nat) : List α := L.take k ++ L.drop (k + 1)
theorem pairs_hs (P : HP) : pairs (hs P) = P.map fun p => (p.1, (idH p.1).1) := by
 unfold pairs hs; rw [List.map_map]; rfl
theorem pairs_get {P : HP} {i : Nat} (hi : i < P.length) : (pairs (hs P)).getD i zpr = ((P.getD i zhp).1, (idH (P.getD i zhp).1).1) := by
 rw [pairs_hs, List.getD_eq_getElem?_getD, List.getElem?_map, List.getD_eq_getElem?_getD, List.getElem?_eq_getElem hi]
 rfl
theorem pairs_len (P : HP) : (pairs (hs P)).length = P.length := by rw [pairs_hs, List.length_map]
theorem pairs_cut (P : HP) (k : Nat) : (pairs (hs P)).eraseIdx k = pairs (hs (cut1 P k)) := by
 rw [pairs_hs, pairs_hs, List.eraseIdx_eq_take_drop_succ]
 unfold cut1
 rw [List.map_append, List.map_take, List.map_drop]
theorem idsP_cut (P : HP) (k : Nat) : idsP (cut1 P k) = (idsP P).take k ++ (idsP P).drop (k + 1) := by
 unfold idsP cut1
 rw [List.map_append, List.map_take, List.map_drop]
theorem cut1_len {α : Type} {L : List α} {k : Nat} (hk : k < L.length) : (cut1 L k).length = L.length - 1 := by
 unfold cut1
 rw [List.length_append, List.length_take, List.length_drop]; omega
theorem take_one {n : Nat} {t : List Hd} {p : List Id} {P : HP} (h0 : 0 < P.length) : takeR (n + 1) t p (pairs (hs P)) =
  takeR n (t ++ [(P.getD (best (pairs (hs P)) P.length) zhp).1]) (withL p (idH (P.getD (best (pairs (hs P)) P.length) zhp).1).1) (pairs (hs (cut1 P (best (pairs (hs P)) P.length)))) := by
 have hne : pairs (hs P) ≠ [] := fun e => by
  have := pairs_len P
  rw [e] at this
  simp at this
  omega
 have hb := best_lt (pairs (hs P)) P.length (by rw [pairs_len]; exact Nat.le_refl _) h0
 conv => lhs; unfold takeR
 rw [if_neg hne, pairs_len, pairs_get hb, pairs_cut]
theorem take_stop {n : Nat} {t : List Hd} {p : List Id} {P : HP} (h0 : P.length = 0) : takeR n t p (pairs (hs P)) = (t, p) := by
 have : P = [] := List.eq_nil_of_length_eq_zero h0
 subst this
 cases n with
 | zero => rfl
 | succ n => unfold takeR; rw [if_pos (show pairs (hs []) = [] from rfl)]
/-- a list read (if it has something) that is none of a list's own block -/
def Off (tv v : Value) (ne : Prop) : Prop := ne → ∀ b off n c, v = .slice (some ⟨b, off, none⟩) n c → tv.ownBlock ≠ some b
theorem Off.empty (v : Value) (ne : Prop) : Off (.slice none 0 0) v ne := fun _ b off n c _ h => by simp [Value.ownBlock] at h
structure NxI (w0 w1 : World) (S : Nat) (P0 : HP) (lv iv pv tv : Value) (Pl T : HP) (pz : List Id) (w : World) : Prop where
 left : HsV w lv Pl
 ids : RdV w iv (idsP Pl)
 par : RdV w pv pz
 tak : OwnH w (S ≤ ·) tv T
 subl : ∀ p ∈ Pl, p ∈ P0
 subt : ∀ p ∈ T, p ∈ P0
 offl : Off tv lv (Pl ≠ [])
 offi : Off tv iv (Pl ≠ [])
 offp : Off tv pv (pz ≠ [])
 turn : Turn (S ≤ ·) w1 w
 low : Ins w0 P0
 le : w0.heap.size ≤ S ∧ S ≤ w1.heap.size
section
variable {w0 w1 w w' : World} {S : Nat} {P0 Pl T : HP} {lv iv pv tv : Value} {pz : List Id}
theorem NxI.next (h : NxI w0 w1 S P0 lv iv pv tv Pl T pz w) (hb : Below w.heap.size w w') : NxI w0 w1 S P0 lv iv pv tv Pl T pz w' :=
 ⟨h.left.next hb, h.ids.next hb, h.par.next hb, h.tak.next hb, h.subl, h.subt, h.offl, h.offi, h.offp, h.turn.trans (Turn.fresh hb fun b hb => (show S ≤ b by have := h.turn.size; have := h.le.2; omega)), h.low, h.le⟩
theorem NxI.new (h : NxI w0 w1 S P0 lv iv pv tv Pl T pz w) : New (S ≤ ·) w := fun b hb => (show S ≤ b by have := h.turn.size; have := h.le.2; omega)
theorem NxI.lowp (h : NxI w0 w1 S P0 lv iv pv tv Pl T pz w) {p : Hd × Value} (hp : p ∈ P0) : Sep tv p := fun hne b off n c e hk => by
 have := rdv_lt (h.low p hp).1 hne e
 have h2 : S ≤ b := h.tak.1.2.2 b hk
 have := h.le.1
 omega
/-- one taken -/
theorem NxI.push (h : NxI w0 w1 S P0 lv iv pv tv Pl T pz w) {p : Hd × Value} (hp : p ∈ P0) (hr : RdV w p.2 p.1.parents) (hT : T.length < 1000) (ty : TypeId) :
  ∃ tv' w', (Builtin.append_ #[27, 27] ty #[tv, .slice (some ⟨w.heap.size, 0, none⟩) 1 1]).run Tryz.prog (w.alloc (.cells (hdc p.1 p.2).toArray 26)) = .ok tv' w' ∧
   NxI w0 w1 S P0 lv iv pv tv' Pl (T ++ [p]) pz w' ∧ w.heap.size ≤ w'.heap.size ∧ Turn (S ≤ ·) w w' := by
 obtain ⟨tv', w', hrun, ho, ht, hat⟩ := push_hd h.tak p.1 p.2 (h.low p hp).2 hr (h.lowp hp) (by omega) h.new ty
 have htS : Turn (S ≤ ·) w w' := ht.mono fun j hj => hj.elim (fun e => h.tak.1.2.2 j e) (fun e => h.new j e)
 have hin : ∀ q ∈ P0, q.1.parents ≠ [] → ∀ b off n c, q.2 = .slice (some ⟨b, off, none⟩) n c → b < w.heap.size → ¬ (tv.ownBlock = some b ∨ w.heap.size ≤ b) := fun q hq hne b off n c e hlt hh => by
  rcases hh with hh | hh
  ·
   exact h.lowp hq hne b off n c e hh
  ·
   omega
 refine ⟨tv', w', hrun, ⟨⟨?_, fun q hq => ⟨?_, (h.left.2 q hq).2⟩⟩, ?_, ?_, ho, h.subl, fun q hq => (List.mem_append.1 hq).elim (h.subt q) (fun e => by rw [List.mem_singleton.1 e]; exact hp), ?_, ?_, ?_, h.turn.trans htS, h.low, h.le⟩, ht.size, htS⟩
 ·
  exact h.left.1.turn' ht fun hne b off n c e hlt hh => hh.elim (h.offl (fun e0 => hne (by rw [e0]; rfl)) b off n c e) (fun e => by omega)
 ·
  exact rdv_turn (h.left.2 q hq).1 ht (hin q (h.subl q hq))
 ·
  exact rdv_turn h.ids ht fun hne b off n c e hlt hh => hh.elim (h.offi (fun e0 => hne (by rw [e0]; rfl)) b off n c e) (fun e => by omega)
 ·
  exact rdv_turn h.par ht fun hne b off n c e hlt hh => hh.elim (h.offp hne b off n c e) (fun e => by omega)
 ·
  intro hne b off n c e hk
  rcases hat b hk with hb | hb
  ·
   exact h.offl hne b off n c e hb
  ·
   have := h.left.1.lt (by decide) (fun e0 => hne (by unfold hcs at e0; exact List.map_eq_nil_iff.1 e0)) e
   omega
 ·
  intro hne b off n c e hk
  rcases hat b hk with hb | hb
  ·
   exact h.offi hne b off n c e hb
  ·
   have := rdv_lt h.ids (fun e0 => hne (by unfold idsP at e0; exact List.map_eq_nil_iff.1 e0)) e
   omega
 ·
  intro hne b off n c e hk
  rcases hat b hk with hb | hb
  ·
   exact h.offp hne b off n c e hb
  ·
   have := rdv_lt h.par hne e
   omega
/-- a new list of those that are left -/
theorem NxI.lefts (h : NxI w0 w1 S P0 lv iv pv tv Pl T pz w) {lv' iv' : Value} {Q : HP} {F : Nat → Prop} (ht : Below w.heap.size w w') (hl : HsV w' lv' Q) (hi : RdV w' iv' (idsP Q)) (hs : ∀ p ∈ Q, p ∈ P0)
  (hl2 : ∀ b off n c, lv' = .slice (some ⟨b, off, none⟩) n c → w.heap.size ≤ b) (hi2 : ∀ b off n c, iv' = .slice (some ⟨b, off, none⟩) n c → w.heap.size ≤ b) : NxI w0 w1 S P0 lv' iv' pv tv Q T pz w' := by
 have k := h.next ht
 refine ⟨hl, hi, k.par, k.tak, hs, k.subt, fun _ b off n c e hk => ?_, fun _ b off n c e hk => ?_, k.offp, k.turn, k.low, k.le⟩
 ·
  have := hl2 b off n c e
  have := h.tak.1.lt hk
  omega
 ·
  have := hi2 b off n c e
  have := h.tak.1.lt hk
  omega
/-- more parents -/
theorem NxI.pars (h : NxI w0 w1 S P0 lv iv pv tv Pl T pz w) {pv' : Value} {qz : List Id} (ht : Below w.heap.size w w') (hp : RdV w' pv' qz)
  (hp2 : ∀ b off n c, pv' = .slice (some ⟨b, off, none⟩) n c → w.heap.size ≤ b ∨ ((∃ off' n' c', pv = .slice (some ⟨b, off', none⟩) n' c') ∧ pz ≠ [])) : NxI w0 w1 S P0 lv iv pv' tv Pl T qz w' := by
 have k := h.next ht
 refine ⟨k.left, k.ids, hp, k.tak, k.subl, k.subt, k.offl, k.offi, fun hne b off n c e hk => ?_, k.turn, k.low, k.le⟩
 rcases hp2 b off n c e with hb | ⟨⟨off', n', c', e'⟩, hne'⟩
 ·
  have := h.tak.1.lt hk
  omega
 ·
  exact h.offp hne' b off' _ _ e' hk
end
theorem exec_lo {P : Program} {ρ : Operand → Value} {o : Oper} {x y : Operand} {t : TypeId} {u z v : Value} {w : World} (ho : o.op = .slice t x (some y) none none) (hx : ρ x = u) (hy : ρ y = z) (h : (Instr.sliceAt t u (some z) none none).run P w = .ok v w) :
  (execOp ρ o).run P w = .ok (.value v) w := by
 unfold execOp
 simp [ho, hx, hy, h]
/-- 'append(append([]Header{}, l[:k]...), l[k+1:]...)' -/
theorem cut_hs {w : World} {la : Option Addr} {n lc : Nat} {P : HP} (h : HsV w (.slice la n lc) P) {w0 : World} (hlow : Ins w0 P) (h0 : w0.heap.size ≤ w.heap.size) (hn : P.length ≤ 1000) {k : Nat} (hk : k < P.length) (ty ty2 : TypeId) :
  ∃ v1 w2 v2 w3, (Builtin.append_ #[27, 27] ty #[.slice (some ⟨w.heap.size, 0, none⟩) 0 0, .slice la k lc]).run Tryz.prog (w.alloc (.cells #[] 26)) = .ok v1 w2 ∧
   (Builtin.append_ #[27, 27] ty2 #[v1, .slice (loK 38 la lc (k + 1)) (n - (k + 1)) (lc - (k + 1))]).run Tryz.prog w2 = .ok v2 w3 ∧
   HsV w3 v2 (cut1 P k) ∧ Below w.heap.size w w3 ∧ ∀ b off n c, v2 = .slice (some ⟨b, off, none⟩) n c → w.heap.size ≤ b := by
 have hnn : n = P.length := by
  obtain ⟨ad, cap, e⟩ := h.form
  injection e
 have hb : Below w.heap.size w (w.alloc (.cells #[] 26)) := (Below.refl _ _).alloc (Nat.le_refl _) _
 have hs : (w.alloc (.cells #[] 26)).heap.size = w.heap.size + 1 := by simp
 have ho := OwnH.laid0 w (F := (w.heap.size ≤ ·)) (fun b hb => hb)
 have h1 := (slice_hi_h h k (by omega) w).2
 have h2 := (slice_lo_h h (k + 1) (by omega) w).2
 obtain ⟨v1, w2, r1, ho1, ht1, -⟩ := app_hs ho (h1.next hb) (sep_low (hlow.take k) h0 (fun j hj => ho.1.2.2 j hj)) (by simp; omega) (fun b hb => (show w.heap.size ≤ b by rw [hs] at hb; omega)) ty
 have hb2 : Below w.heap.size w w2 := hb.trans (ht1.below fun j hj => by
  rcases hj with hj | hj
  ·
   exact ho.1.2.2 j hj
  ·
   rw [hs] at hj; omega)
 obtain ⟨v2, w3, r2, ho2, ht2, -⟩ := app_hs ho1 (h2.next hb2) (sep_low (hlow.drop (k + 1)) h0 (fun j hj => ho1.1.2.2 j hj)) (by simp; omega) (fun b hb => (show w.heap.size ≤ b by have := hb2.size; omega)) ty2
 have hb3 : Below w.heap.size w w3 := hb2.trans (ht2.below fun j hj => by
  rcases hj with hj | hj
  ·
   exact ho1.1.2.2 j hj
  ·
   have := hb2.size; omega)
 have hlen : (cut1 P k).length ≤ 1000000 := by rw [cut1_len hk]; omega
 rw [List.nil_append] at ho2
 exact ⟨v1, w2, v2, w3, r1, r2, ho2.hsv hlen, hb3, fun b off n c e => ho2.1.2.2 b (by rw [e]; rfl)⟩
theorem ids_laid0 (w : World) {F : Nat → Prop} (hF : New F w) : OwnI (w.alloc (.cells #[] 24)) F (.slice (some ⟨w.heap.size, 0, none⟩) 0 0) [] :=
 ⟨okIds.nil, ⟨by simp [fl], .inr ⟨w.heap.size, 0, #[], rfl, Nat.zero_le _, heap_alloc_new w _, Nat.le_refl _, Nat.zero_le _, by simp, by simp [fl]⟩⟩, fun k hk => by
  injection hk with hk
  subst hk
  exact hF _ (Nat.le_refl _)⟩
theorem cut_ids {w : World} {la : Option Addr} {n lc : Nat} {L : List Id} (h : RdV w (.slice la n lc) L) (hn : L.length ≤ 1000) {k : Nat} (hk : k < L.length) (ty ty2 : TypeId) :
  ∃ v1 w2 v2 w3, (Builtin.append_ #[22, 22] ty #[.slice (some ⟨w.heap.size, 0, none⟩) 0 0, .slice la k lc]).run Tryz.prog (w.alloc (.cells #[] 24)) = .ok v1 w2 ∧
   (Builtin.append_ #[22, 22] ty2 #[v1, .slice (loAd la lc (k + 1)) (n - (k + 1)) (lc - (k + 1))]).run Tryz.prog w2 = .ok v2 w3 ∧
   RdV w3 v2 (L.take k ++ L.drop (k + 1)) ∧ Below w.heap.size w w3 ∧ ∀ b off n c, v2 = .slice (some ⟨b, off, none⟩) n c → w.heap.size ≤ b := by
 have hnn := h.len
 have hb : Below w.heap.size w (w.alloc (.cells #[] 24)) := (Below.refl _ _).alloc (Nat.le_refl _) _
 have hs : (w.alloc (.cells #[] 24)).heap.size = w.heap.size + 1 := by simp
 have ho := ids_laid0 w (F := (w.heap.size ≤ ·)) (fun b hb => hb)
 have h1 := (slice_hi h k (by omega) w).2
 have h2 := (slice_lo h (k + 1) (by omega) w).2
 obtain ⟨v1, w2, r1, ho1, ht1⟩ := run_append_rd ho (h1.next hb) (by simp; omega) (fun b hb => (show w.heap.size ≤ b by rw [hs] at hb; omega)) ty
 have hb2 : Below w.heap.size w w2 := hb.trans (ht1.below fun j hj => by
  rcases hj with hj | hj
  ·
   exact ho.2.2 j hj
  ·
   rw [hs] at hj; omega)
 obtain ⟨v2, w3, r2, ho2, ht2⟩ := run_append_rd ho1 (h2.next hb2) (by simp; omega) (fun b hb => (show w.heap.size ≤ b by have := hb2.size; omega)) ty2
 have hb3 : Below w.heap.size w w3 := hb2.trans (ht2.below fun j hj => by
  rcases hj with hj | hj
  ·
   exact ho1.2.2 j hj
  ·
   have := hb2.size; omega)
 rw [List.nil_append] at ho2
 exact ⟨v1, w2, v2, w3, r1, r2, (ho2.rdv (by rw [List.length_append, List.length_take, List.length_drop]; omega)).1, hb3, fun b off n c e => ho2.2.2 b (by rw [e]; rfl)⟩
def slLen : Value → Nat
 | .slice _ n _ => n
 | _ => 0
theorem best_one (L : List Pr) : best L 1 = 0 := by
 show (if aheadP (L.getD 0 zpr) (L.getD 0 zpr) = true then 0 else 0) = 0
 split <;> rfl
end Go.Proofs.YtpeneeddfgmjpaaGreatDoor.rul

namespace Go.Proofs.YtpeneeddfgmjpaaGreatDoor.rul
open Go.RowKit Go.Proofs.YtpeneeddfgmjpaaGreatDoor.mem Go.Proofs.YtpeneeddfgmjpaaGreatDoor.sha Go.Proofs.YtpeneeddfgmjpaaGreatDoor.ids Go.Proofs.YtpeneeddfgmjpaaGreatDoor.rows Go.Proofs.YtpeneeddfgmjpaaGreatDoor.hdr Go.Proofs.YtpeneeddfgmjpaaGreatDoor.hds

theorem build_lit (w : World) (ad : Option Addr) (n cap : Nat) (h : Int) (t : ByteArray) (a q z : Int) (c0 c1 c2 c3 c4 c5 c6 c7 c8 c9 c10 c11 c12 c13 c14 c15 c16 c17 c18 c19 c20 c21 c22 c23 c24 c25 c26 c27 c28 c29 c30 c31 : Value) : (Instr.build 26 #[(0, .slice ad n cap), (1, .int .i64 h), (2, .string t), (3, .int .i64 a), (4, .int .i64 q), (5, .int .i64 z), (6, .agg #[c0, c1, c2, c3, c4, c5, c6, c7, c8, c9, c10, c11, c12, c13, c14, c15, c16, c17, c18, c19, c20, c21, c22, c23, c24, c25, c26, c27, c28, c29, c30, c31])]).run Tryz.prog w =
  .ok (.agg #[.slice ad n cap, .int .i64 h, .string t, .int .i64 a, .int .i64 q, .int .i64 z, c0, c1, c2, c3, c4, c5, c6, c7, c8, c9, c10, c11, c12, c13, c14, c15, c16, c17, c18, c19, c20, c21, c22, c23, c24, c25, c26, c27, c28, c29, c30, c31]) w := by kernel_rfl
theorem run_build_next (w : World) (M : Hd) (ad : Option Addr) (n cap : Nat) (hc : M.commit.length = 32) : (Instr.build 26 #[(0, .slice ad n cap), (1, .int .i64 M.height), (2, .string (oct.tx M.topic)), (3, .int .i64 M.author), (4, .int .i64 M.seq), (5, .int .i64 M.size), (6, .agg (bv M.commit).toArray)]).run Tryz.prog w =
  .ok (hdv M (.slice ad n cap)) w := by
 unfold hdv hdc
 obtain ⟨c, hcc⟩ : ∃ c, c = M.commit := ⟨_, rfl⟩
 rw [← hcc] at hc ⊢
 clear hcc
 obtain ⟨c0, d1, rfl, h1⟩ := len_cons hc
 obtain ⟨c1, d2, rfl, h2⟩ := len_cons h1
 obtain ⟨c2, d3, rfl, h3⟩ := len_cons h2
 obtain ⟨c3, d4, rfl, h4⟩ := len_cons h3
 obtain ⟨c4, d5, rfl, h5⟩ := len_cons h4
 obtain ⟨c5, d6, rfl, h6⟩ := len_cons h5
 obtain ⟨c6, d7, rfl, h7⟩ := len_cons h6
 obtain ⟨c7, d8, rfl, h8⟩ := len_cons h7
 obtain ⟨c8, d9, rfl, h9⟩ := len_cons h8
 obtain ⟨c9, d10, rfl, h10⟩ := len_cons h9
 obtain ⟨c10, d11, rfl, h11⟩ := len_cons h10
 obtain ⟨c11, d12, rfl, h12⟩ := len_cons h11
 obtain ⟨c12, d13, rfl, h13⟩ := len_cons h12
 obtain ⟨c13, d14, rfl, h14⟩ := len_cons h13
 obtain ⟨c14, d15, rfl, h15⟩ := len_cons h14
 obtain ⟨c15, d16, rfl, h16⟩ := len_cons h15
 obtain ⟨c16, d17, rfl, h17⟩ := len_cons h16
 obtain ⟨c17, d18, rfl, h18⟩ := len_cons h17
 obtain ⟨c18, d19, rfl, h19⟩ := len_cons h18
 obtain ⟨c19, d20, rfl, h20⟩ := len_cons h19
 obtain ⟨c20, d21, rfl, h21⟩ := len_cons h20
 obtain ⟨c21, d22, rfl, h22⟩ := len_cons h21
 obtain ⟨c22, d23, rfl, h23⟩ := len_cons h22
 obtain ⟨c23, d24, rfl, h24⟩ := len_cons h23
 obtain ⟨c24, d25, rfl, h25⟩ := len_cons h24
 obtain ⟨c25, d26, rfl, h26⟩ := len_cons h25
 obtain ⟨c26, d27, rfl, h27⟩ := len_cons h26
 obtain ⟨c27, d28, rfl, h28⟩ := len_cons h27
 obtain ⟨c28, d29, rfl, h29⟩ := len_cons h28
 obtain ⟨c29, d30, rfl, h30⟩ := len_cons h29
 obtain ⟨c30, d31, rfl, h31⟩ := len_cons h30
 obtain ⟨c31, d32, rfl, h32⟩ := len_cons h31
 obtain rfl : d32 = [] := List.eq_nil_of_length_eq_zero h32
 exact build_lit w ad n cap _ _ _ _ _ _ _ _ _ _ _ _ _ _ _ _ _ _ _ _ _ _ _ _ _ _ _ _ _ _ _ _ _ _ _ _ _
theorem want_allocz {ops : Array Oper} {o : Oper} {a : Act} {w : World} {K : Act → World → Prop} {Q : Exit → Act → World → Prop} {E : Prop} (hg : o.guard = none) (ho : o.op = .alloc 26)
  (hK : K (a.put o.dst (.pointer (some ⟨w.heap.size, 0, none⟩))) (w.alloc (.cells (hdc zhd nv).toArray 26))) : if Region.wanted o (yielded ops a.tmps) = true then Oper.wp Tryz.prog o a w K Q else E := by
 have hw : Region.wanted o (yielded ops a.tmps) = true := by simp [Region.wanted, hg]
 rw [if_pos hw]
 have hz : ∀ w, (zeroValue 26).run Tryz.prog w = .ok (hdv zhd nv) w := fun w => by kernel_rfl
 unfold Oper.wp execOp
 simp [ho, Instr.alloc, hz, newVar]
 exact hK
end Go.Proofs.YtpeneeddfgmjpaaGreatDoor.rul

namespace Go.Proofs.YtpeneeddfgmjpaaGreatDoor.hdr
open Go.RowKit Go.Proofs.YtpeneeddfgmjpaaGreatDoor.mem Go.Proofs.YtpeneeddfgmjpaaGreatDoor.sha Go.Proofs.YtpeneeddfgmjpaaGreatDoor.ids
open Go.Proofs.YtpeneeddfgmjpaaGreatDoor.opn (b1 b2 b4 num txt idl byte rd rdN rdT rdI rdS rdL St Reads Stays endE zid mkId)

set_option maxHeartbeats 4000000 in
set_option maxRecDepth 100000 in
theorem ahead_any (x : Int) (a : List UInt8) (y : Int) (b : List UInt8) (w : World) (ha : a.length = 32) (hb : b.length = 32) :
  Calls Tryz.prog 30 #[.int .i64 x, idv a, .int .i64 y, idv b] w fun e w' => e = .returned (.bool (aheadB x a y b)) ∧ Below w.heap.size w w' := by
 obtain ⟨w1, hw1⟩ : ∃ u, u = (w.alloc (.cells (bv a).toArray 24)).alloc (.cells (bv b).toArray 24) := ⟨_, rfl⟩
 obtain ⟨S, hS⟩ : ∃ S, S = w.heap.size := ⟨_, rfl⟩
 have hX : Blk w1 S 24 (bv a).toArray := by rw [hw1, hS]; exact (Blk.new w _ _).alloc _
 have hY : Blk w1 (S + 1) 24 (bv b).toArray := by rw [hw1, hS]; exact Blk.at_ (by simp) _ _
 have hB : Below w.heap.size w w1 := by rw [hw1]; exact ((Below.refl _ _).alloc (Nat.le_refl _) _).alloc (by simp) _
 have hla := box_load hX ha 0
 have hlb := box_load hY hb 0
 have HB := Lib.hid hB
 have HS := Lib.hid hS
 have HW := Lib.hid hw1
 have HCM := Lib.hid (fun u => rcompare_any a b u ha hb)
 have HE : Hid (aheadB x a y b = (decide (x < y) || (decide (x = y) && decide (cmpL a b < 0)))) := Lib.hid rfl
 clear hX hY hB hS hw1 ha hb
 unfold idv
 obtain ⟨c, hc⟩ : ∃ c, c = cmpL a b := ⟨_, rfl⟩
 rw [← hc] at HCM HE
 clear hc
 by_cases h1 : x < y
 ·
  have HE : Hid (aheadB x a y b = true) := Lib.hid (by rw [HE.out, decide_eq_true h1]; rfl)
  go_enter Tryz.func30, Tryz.ntmps30
  go_upto_region 1 with fail
  refine wp_at HW.out.symm ?_
  rw [← HS.out]
  clear HW
  go_wp2_with fail
  go_ret
  exact ⟨by rw [HE.out]; rfl, HB.out⟩
 have xd : decide (x < y) = false := decide_eq_false h1
 by_cases h2 : x = y
 ·
  have e2 : (x == y) = true := beq_iff_eq.2 h2
  have HE : Hid (aheadB x a y b = decide (c < 0)) := Lib.hid (by rw [HE.out, decide_eq_false h1, decide_eq_true h2]; rfl)
  clear h2 h1
  go_enter Tryz.func30, Tryz.ntmps30
  go_upto_region 1 with fail
  refine wp_at HW.out.symm ?_
  rw [← HS.out]
  clear HW
  go_wp2_with (first
   | ((with_reducible refine step_load_w (t := 24) (x := .tmp 5) (p := ?lpla) (v := ?lvla) ?lgla ?lola ?lxla ?lrla ?lhla); (case lola => rfl); (case lgla => rfl); (case lxla => rfl); (case lrla => exact hla))
   | ((with_reducible refine step_load_w (t := 24) (x := .tmp 7) (p := ?lplb) (v := ?lvlb) ?lglb ?lolb ?lxlb ?lrlb ?lhlb); (case lolb => rfl); (case lglb => rfl); (case lxlb => rfl); (case lrlb => exact hlb))
   | (go_at_call 42; (refine (HCM.out _).mono ?_); rintro e w3 ⟨rfl, hb3⟩))
  go_ret
  exact ⟨by rw [HE.out]; simp [xd], HB.out.trans (hb3.mono HB.out.size)⟩
 ·
  have e2 : (x == y) = false := beq_eq_false_iff_ne.2 h2
  have HE : Hid (aheadB x a y b = false) := Lib.hid (by rw [HE.out, decide_eq_false h1, decide_eq_false h2]; rfl)
  clear h2 h1
  go_enter Tryz.func30, Tryz.ntmps30
  go_upto_region 1 with fail
  refine wp_at HW.out.symm ?_
  rw [← HS.out]
  clear HW
  go_wp2_with fail
  go_ret
  exact ⟨by rw [HE.out]; simp [xd], HB.out⟩
end Go.Proofs.YtpeneeddfgmjpaaGreatDoor.hdr
