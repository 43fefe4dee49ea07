/-
  The landed rule: Height, Unknown.
  The landed rule: Verdict.
-/
import Derived.Test.YtpeneeddfgmjpaaGreatDoorSrt
namespace Go.Proofs.YtpeneeddfgmjpaaGreatDoor.rul
open Go.RowKit Go.Proofs.YtpeneeddfgmjpaaGreatDoor.mem Go.Proofs.YtpeneeddfgmjpaaGreatDoor.sha Go.Proofs.YtpeneeddfgmjpaaGreatDoor.ids Go.Proofs.YtpeneeddfgmjpaaGreatDoor.rows Go.Proofs.YtpeneeddfgmjpaaGreatDoor.hdr Go.Proofs.YtpeneeddfgmjpaaGreatDoor.hds Go.Proofs.YtpeneeddfgmjpaaGreatDoor.mpk
open Go.Proofs.YtpeneeddfgmjpaaGreatDoor.opn (zid)

def hts (K : List Hd) : List Int := K.map (·.height)
set_option maxHeartbeats 8000000 in
set_option maxRecDepth 100000 in
theorem height_any (v : Value) (P : HP) (w : World) (hv : HsV w v P) (hn : P.length ≤ 1000) :
  Calls Tryz.prog 13 #[v] w fun e w' => e = .returned (.int .i64 (heightR (hs P))) ∧ Below w.heap.size w w' := by
 obtain ⟨ad, cap, rfl⟩ := hv.form
 obtain ⟨n, hnn⟩ : ∃ n, n = P.length := ⟨_, rfl⟩
 obtain ⟨S, hS⟩ : ∃ S, S = w.heap.size := ⟨_, rfl⟩
 have HV := Lib.hid hv
 have HNN := Lib.hid hnn
 have HS := Lib.hid hS
 rw [← hnn] at hn HV ⊢
 clear hv hnn hS
 go_enter Tryz.func13, Tryz.ntmps13
 go_wp2_with fail
 go_loopw [3, 8] (fun o i wr => ∃ k : Nat, k ≤ n ∧ i = .int .i64 (k : Int) ∧ OwnC wr (S ≤ ·) 3 o (nums (hts ((hs P).take k))) ∧ Below w.heap.size w wr) (fun _ i _ => n - (intOf i).toNat)
 case atStart => exact ⟨0, Nat.zero_le _, rfl, OwnC.nil _ _ _, Below.refl _ _⟩
 case round =>
  obtain ⟨k, hk, rfl, ho, hbl⟩ := hrel
  have k0 : (0 : Int) ≤ (k : Int) := Int.natCast_nonneg _
  obtain ⟨oa, oc, hvf⟩ := ho.form
  have HBL := Lib.hid hbl
  have HLN : Hid ((nums (hts ((hs P).take k))).length = k) := Lib.hid (by unfold hts; rw [nums_len, List.length_map, List.length_take, hs_len, ← HNN.out]; omega)
  rw [HLN.out] at hvf
  subst hvf
  have HO := Lib.hid ho
  by_cases hlt : k < n
  ·
   have kI : (k : Int) < (n : Int) := by omega
   have hkP : k < P.length := by rw [← HNN.out]; exact hlt
   have hv := HV.out.next hbl
   obtain ⟨b, off, rfl, hbb, hld, -, -, -⟩ := hv.at_ hkP
   have hld := hld 0
   have hin := hv.2.get hkP
   have hsn := take_hs_succ hkP
   obtain ⟨x, hx⟩ : ∃ x, x = (P.getD k zhp).1 := ⟨_, rfl⟩
   obtain ⟨u, hu⟩ : ∃ u, u = (P.getD k zhp).2 := ⟨_, rfl⟩
   rw [← hx, ← hu] at hld hin
   rw [← hx] at hsn
   have hh := run_hold wr x u hin.2 (rdv_one hin.1)
   have hkb := held_blk wr x u
   have hb2 := held_below wr x u
   obtain ⟨w2, hw2⟩ : ∃ z, z = heldW wr x u := ⟨_, rfl⟩
   rw [← hw2] at hh hkb hb2
   have c1 := (HdBlk.of hkb hin.2).height
   obtain ⟨z, hz⟩ : ∃ z, z = x.height := ⟨_, rfl⟩
   rw [← hz] at c1
   have ho2 := ho.below hb2
   obtain ⟨v4, w4, hrun, ho4, ht4⟩ := push_num ho2 z (by rw [HLN.out]; omega)
   obtain ⟨hv0, hhv⟩ : ∃ z, z = hdv x u := ⟨_, rfl⟩
   rw [← hhv] at hld hh
   have HSN : Hid (nums (hts ((hs P).take (k + 1))) = nums (hts ((hs P).take k)) ++ [.int .i64 z]) := Lib.hid (by rw [hsn, hz]; unfold hts; rw [List.map_append, List.map_singleton, nums_snoc])
   have HH := Lib.hid hh
   have HB2 := Lib.hid hb2
   have HO2 := Lib.hid ho2
   have HO4 := Lib.hid ho4
   have HT4 := Lib.hid ht4
   clear ho hbl hv hbb hin hsn hx hu hh hkb hb2 hw2 hz ho2 ho4 ht4 hhv hkP
   go_wp2_with (first
    | ((with_reducible refine step_load (t := 26) (x := .tmp 10) (p := ?lpa1) (v := ?lva1) ?lga1 ?loa1 ?lxa1 ?lra1 ?lha1); (case lga1 => rfl); (case loa1 => rfl); (case lxa1 => rfl); (case lra1 => exact hld))
    | ((with_reducible refine step_store_run (t := 26) (x := .tmp 5) (y := .tmp 11) (p := ?spa1) (v := ?sva1) (w' := ?swa1) ?sga1 ?soa1 ?sxa1 ?sya1 ?sra1 ?sha1); (case sga1 => rfl); (case soa1 => rfl); (case sxa1 => rfl); (case sya1 => rfl); (case sra1 => exact HH.out))
    | ((with_reducible refine step_append (s := .tmp 12) (x := .tmp 15) (t := 50) (vs := ?asa1) (vx := ?axa1) (v' := ?ava1) (w' := ?awa1) ?aga1 ?aoa1 ?apa1 ?aqa1 ?ara1 ?aha1); (case aga1 => rfl); (case aoa1 => rfl); (case apa1 => rfl); (case aqa1 => rfl); (case ara1 => exact hrun)))
   go_roundw
   case rel =>
    have hS := HS.out
    have hs1 := HBL.out.size
    have hs2 := HB2.out.size
    refine ⟨k + 1, hlt, by push_cast; rfl, ?_, ?_⟩
    ·
     rw [HSN.out]
     refine HO4.out.mono fun b hb => ?_
     rcases hb with hb | hb
     ·
      exact HO2.out.2 b hb
     ·
      show S ≤ b; omega
    ·
     refine (HBL.out.trans (HB2.out.mono HBL.out.size)).trans (HT4.out.below fun b hb => ?_)
     rcases hb with hb | hb
     ·
      have := HO2.out.2 b hb; show w.heap.size ≤ b; omega
     ·
      show w.heap.size ≤ b; omega
   case measure => simp [intOf]; omega
  ·
   obtain rfl : k = n := by omega
   have hab := above_any (hts ((hs P).take k)) _ wr (ho.rdc (by rw [HLN.out]; omega)).1 (by have := HLN.out; rw [nums_len] at this; omega)
   have HE : Hid (aboveL (hts ((hs P).take k)) = heightR (hs P)) := Lib.hid (by
    rw [List.take_of_length_le (by rw [hs_len, ← HNN.out]; exact Nat.le_refl _)]; exact above_height _)
   rw [HE.out] at hab
   have HAB := Lib.hid hab
   clear hlt ho hbl hab
   go_wp2_with (first
    | (go_at_call 22; (with_reducible refine HAB.out.mono ?_); rintro e w2 ⟨rfl, rfl⟩))
   go_ret
   exact ⟨rfl, HBL.out⟩

set_option maxHeartbeats 8000000 in
set_option maxRecDepth 100000 in
theorem unknown_any (h : Hd) (u v : Value) (P : HP) (w : World) (hT : Tabs w) (hr : h.commit.length = 32) (hu : RdV w u h.parents) (hm : h.parents.length ≤ 1000) (hv : HsV w v P) (hf : Few P) (hn : P.length ≤ 1000) :
  Calls Tryz.prog 11 #[hdv h u, v] w fun e w' => ∃ o, e = .returned o ∧ RdV w' o (unknownR h (hs P)) ∧ Below w.heap.size w w' := by
 obtain ⟨ad, cap, rfl⟩ := hu.form
 obtain ⟨va, vc, rfl⟩ := hv.form
 obtain ⟨X, hX⟩ : ∃ S, S = w.heap.size := ⟨_, rfl⟩
 obtain ⟨w1, hw1⟩ : ∃ z, z = w.alloc (.cells (hdc h (.slice ad h.parents.length cap)).toArray 26) := ⟨_, rfl⟩
 have hb1 : Blk w1 X 26 (hdc h (.slice ad h.parents.length cap)).toArray := by rw [hw1, hX]; exact Blk.new w _ _
 have hbl : Below w.heap.size w w1 := by rw [hw1]; exact (Below.refl _ _).alloc (Nat.le_refl _) _
 have hht := heights_any _ P w1 (hT.next hbl) (hv.next hbl) hf hn
 obtain ⟨pl, hpl⟩ : ∃ n, n = P.length := ⟨_, rfl⟩
 obtain ⟨n, hnn⟩ : ∃ n, n = h.parents.length := ⟨_, rfl⟩
 rw [← hpl] at hht ⊢
 rw [← hnn] at hb1 hw1 hm hu ⊢
 have HB1 := Lib.hid hb1
 have HBL := Lib.hid hbl
 have HHT := Lib.hid hht
 have HU := Lib.hid hu
 have HW := Lib.hid hw1
 have HXX := Lib.hid hX
 have HR := Lib.hid hr
 have HNN := Lib.hid hnn
 obtain ⟨c, hc⟩ : ∃ c, c = (hdc h (.slice ad n cap)).toArray := ⟨_, rfl⟩
 have HC := Lib.hid hc
 unfold hdv
 rw [← hc] at HB1 HW ⊢
 clear hb1 hbl hht hw1 hX hv hu hr hnn hc hT hpl
 go_enter Tryz.func11, Tryz.ntmps11
 go_upto_region 1 with fail
 refine wp_at HW.out.symm ?_
 rw [← HXX.out]
 clear HW
 go_upto_region 3 with (first
  | (go_at_call 21; (with_reducible refine HHT.out.mono ?_); rintro e w2 ⟨M, rfl, hM, htb, hb2⟩))
 have hx2 := HB1.out.below hb2 HB1.out.lt
 have c0 : w2.cell? ⟨X, 0, none⟩ = some (.slice ad n cap) := (HdBlk.of (HC.out ▸ hx2) HR.out).parents
 obtain ⟨S, hS⟩ : ∃ S, S = w2.heap.size := ⟨_, rfl⟩
 have HS := Lib.hid hS
 have HTB := Lib.hid htb
 have HMS : Hid (M < S) := Lib.hid (by rw [hS]; exact htb.lt)
 have HBW := Lib.hid (HBL.out.trans (hb2.mono HBL.out.size))
 have HT0 : Hid (Turn (S ≤ ·) w2 w2) := Lib.hid (Turn.refl _ _)
 clear hx2 hM htb hb2 hS HHT
 go_wp2_with fail
 clear c0
 go_loopw [6, 16] (fun o i wr => ∃ k : Nat, k ≤ n ∧ i = .int .i64 (k : Int) ∧ OwnI wr (S ≤ ·) o ((h.parents.take k).filter fun p => !knows (hs P) p) ∧ Turn (S ≤ ·) w2 wr) (fun _ i _ => n - (intOf i).toNat)
 case atStart => exact ⟨0, Nat.zero_le _, rfl, OwnI.nil _ _, HT0.out⟩
 case round =>
  clear HT0
  obtain ⟨k, hk, rfl, ho, ht⟩ := hrel
  have k0 : (0 : Int) ≤ (k : Int) := Int.natCast_nonneg _
  have hbr : Below w2.heap.size w2 wr := ht.below fun b hb => (show w2.heap.size ≤ b by rw [← HS.out]; exact hb)
  have HT := Lib.hid ht
  have HBR := Lib.hid (HBW.out.trans (hbr.mono HBW.out.size))
  obtain ⟨L, hL⟩ : ∃ L, L = (h.parents.take k).filter fun p => !knows (hs P) p := ⟨_, rfl⟩
  have hLl : L.length ≤ 1000 := by rw [hL]; exact Nat.le_trans (List.length_filter_le _ _) (by rw [List.length_take]; omega)
  rw [← hL] at ho
  have HLL := Lib.hid hLl
  have HL := Lib.hid hL
  have HO := Lib.hid ho
  obtain ⟨oa, oc, hvf, -, -⟩ := ho.form
  obtain ⟨ll, hll⟩ : ∃ l, l = L.length := ⟨_, rfl⟩
  rw [← hll] at hvf
  subst hvf
  by_cases hlt : k < n
  ·
   have kI : (k : Int) < (n : Int) := by omega
   have hkP : k < h.parents.length := by rw [← HNN.out]; exact hlt
   have hu := HU.out.next HBR.out
   obtain ⟨b, off, rfl, hbb, hbl2, hld⟩ := hu.load hkP
   have hld := hld 0
   obtain ⟨y, hy⟩ : ∃ y, y = h.parents.getD k [] := ⟨_, rfl⟩
   have hy32 : y.length = 32 := by rw [hy]; exact hu.ok.get hkP
   rw [← hy] at hld
   have hsn : ((h.parents.take (k + 1)).filter fun p => !knows (hs P) p) = L ++ (if knows (hs P) y = true then [] else [y]) := by
    rw [hL, List.take_succ_eq_append_getElem hkP, List.filter_append]
    have : h.parents[k] = y := by rw [hy, List.getD_eq_getElem?_getD, List.getElem?_eq_getElem hkP]; rfl
    rw [this]
    congr 1
    cases hkn : knows (hs P) y <;> simp [hkn]
   have hh := run_holdI wr y hy32
   have hkb := heldI_blk wr y
   have hb3 := heldI_below wr y
   obtain ⟨w3, hw3⟩ : ∃ z, z = heldI wr y := ⟨_, rfl⟩
   rw [← hw3] at hh hkb hb3
   have hl3 := box_load hkb hy32 0
   have htb3 := (HTB.out.turn ht (by have := HMS.out; omega)).below hb3 (by have := ht.size; have := HMS.out; have := HS.out; omega)
   have hask := htb3.ask hy32
   have hkn : (toldF (hs P) y).isSome = knows (hs P) y := by
    cases hq : knows (hs P) y with
    | false => rw [told_none.2 hq]; rfl
    | true =>
     cases ht : toldF (hs P) y with
     | none => rw [told_none.1 ht] at hq; cases hq
     | some z => rfl
   rw [hkn] at hask
   have ho3 := ho.below hb3
   obtain ⟨tz, htz⟩ : ∃ z, z = (toldF (hs P) y).getD 0 := ⟨_, rfl⟩
   obtain ⟨tk, htk⟩ : ∃ b, b = knows (hs P) y := ⟨_, rfl⟩
   rw [← htz, ← htk] at hask
   rw [← htk] at hsn
   unfold idv at hask hh
   have HSN := Lib.hid hsn
   have HH := Lib.hid hh
   have HB3 := Lib.hid hb3
   have HY := Lib.hid hy32
   have HO3 := Lib.hid ho3
   have hSr : S ≤ wr.heap.size := by have := ht.size; have := HS.out; omega
   have HSR := Lib.hid hSr
   clear ho ht hbr hLl hL hll hu hbb hbl2 hy hy32 hsn hh hkb hb3 hw3 htb3 hkn ho3 htz htk hkP hSr
   cases tk with
   | true =>
    have hsn := HSN.out
    rw [if_pos rfl, List.append_nil] at hsn
    have HSN := Lib.hid hsn
    clear hsn
    go_wp2_with (first
     | ((with_reducible refine step_load (t := 24) (x := .tmp 18) (p := ?lpe1) (v := ?lve1) ?lge1 ?loe1 ?lxe1 ?lre1 ?lhe1); (case lge1 => rfl); (case loe1 => rfl); (case lxe1 => rfl); (case lre1 => exact hld))
     | ((with_reducible refine step_store_run (t := 24) (x := .tmp 8) (y := .tmp 19) (p := ?spe1) (v := ?sve1) (w' := ?swe1) ?sge1 ?soe1 ?sxe1 ?sye1 ?sre1 ?she1); (case sge1 => rfl); (case soe1 => rfl); (case sxe1 => rfl); (case sye1 => rfl); (case sre1 => exact HH.out))
     | ((with_reducible refine step_load (t := 24) (x := .tmp 8) (p := ?lpe2) (v := ?lve2) ?lge2 ?loe2 ?lxe2 ?lre2 ?lhe2); (case lge2 => rfl); (case loe2 => rfl); (case lxe2 => rfl); (case lre2 => exact hl3))
     | ((with_reducible refine step_lookup (t := 48) (x := .tmp 21) (i := .tmp 22) (ok := true) (m := ?kme1) (y := ?kye1) (v := ?kve1) ?kge1 ?koe1 ?kxe1 ?kie1 ?kre1 ?khe1); (case kge1 => rfl); (case koe1 => rfl); (case kxe1 => rfl); (case kie1 => rfl); (case kre1 => exact hask)))
    go_roundw
    case rel => exact ⟨k + 1, hlt, by push_cast; rfl, by rw [HSN.out]; exact HO3.out, HT.out.trans (Turn.fresh HB3.out fun b hb => (show S ≤ b by have := HSR.out; omega))⟩
    case measure => simp [intOf]; omega
   | false =>
    have hsn := HSN.out
    rw [if_neg (by simp)] at hsn
    have HSN := Lib.hid hsn
    obtain ⟨v4, w4, hrun, ho4, ht4⟩ := run_append_one HO3.out HY.out (by have := HLL.out; omega) (fun b hb => (show S ≤ b by have := HSR.out; have := HB3.out.size; omega)) 22
    have HO4 := Lib.hid ho4
    have HT4 := Lib.hid ht4
    clear hsn ho4 ht4
    go_wp2_with (first
     | ((with_reducible refine step_load (t := 24) (x := .tmp 18) (p := ?lpf1) (v := ?lvf1) ?lgf1 ?lof1 ?lxf1 ?lrf1 ?lhf1); (case lgf1 => rfl); (case lof1 => rfl); (case lxf1 => rfl); (case lrf1 => exact hld))
     | ((with_reducible refine step_store_run (t := 24) (x := .tmp 8) (y := .tmp 19) (p := ?spf1) (v := ?svf1) (w' := ?swf1) ?sgf1 ?sof1 ?sxf1 ?syf1 ?srf1 ?shf1); (case sgf1 => rfl); (case sof1 => rfl); (case sxf1 => rfl); (case syf1 => rfl); (case srf1 => exact HH.out))
     | ((with_reducible refine step_load (t := 24) (x := .tmp 8) (p := ?lpf2) (v := ?lvf2) ?lgf2 ?lof2 ?lxf2 ?lrf2 ?lhf2); (case lgf2 => rfl); (case lof2 => rfl); (case lxf2 => rfl); (case lrf2 => exact hl3))
     | ((with_reducible refine step_lookup (t := 48) (x := .tmp 21) (i := .tmp 22) (ok := true) (m := ?kmf1) (y := ?kyf1) (v := ?kvf1) ?kgf1 ?kof1 ?kxf1 ?kif1 ?krf1 ?khf1); (case kgf1 => rfl); (case kof1 => rfl); (case kxf1 => rfl); (case kif1 => rfl); (case krf1 => exact hask))
     | ((with_reducible refine step_load (t := 24) (x := .tmp 8) (p := ?lpf3) (v := ?lvf3) ?lgf3 ?lof3 ?lxf3 ?lrf3 ?lhf3); (case lgf3 => rfl); (case lof3 => rfl); (case lxf3 => rfl); (case lrf3 => exact hl3))
     | ((with_reducible refine step_build1 (x := .tmp 29) (y := ?byf1) ?bgf1 ?bof1 ?bxf1 ?blf1 ?bhf1); (case bgf1 => rfl); (case bof1 => rfl); (case bxf1 => rfl); (case blf1 => exact HY.out))
     | ((with_reducible refine step_append (s := .tmp 28) (x := .tmp 30) (t := 22) (vs := ?asf1) (vx := ?axf1) (v' := ?avf1) (w' := ?awf1) ?agf1 ?aof1 ?apf1 ?aqf1 ?arf1 ?ahf1); (case agf1 => rfl); (case aof1 => rfl); (case apf1 => rfl); (case aqf1 => rfl); (case arf1 => exact hrun)))
    go_roundw
    case rel =>
     refine ⟨k + 1, hlt, by push_cast; rfl, by rw [HSN.out]; exact HO4.out, (HT.out.trans (Turn.fresh HB3.out fun b hb => (show S ≤ b by have := HSR.out; omega))).trans (HT4.out.mono fun b hb => ?_)⟩
     show S ≤ b
     rcases hb with hb | hb
     ·
      exact HO3.out.2.2 b hb
     ·
      have := HSR.out; have := HB3.out.size; omega
    case measure => simp [intOf]; omega
  ·
   obtain rfl : k = n := by omega
   have HE : Hid (L = unknownR h (hs P)) := Lib.hid (by
    rw [hL, List.take_of_length_le (by rw [← HNN.out]; exact Nat.le_refl _)]; rfl)
   clear hlt ho ht hbr hLl hL hll
   go_wp2_with fail
   go_ret
   exact ⟨_, rfl, by rw [← HE.out]; exact (HO.out.rdv (by have := HLL.out; omega)).1, HBR.out⟩
end Go.Proofs.YtpeneeddfgmjpaaGreatDoor.rul

namespace Go.Proofs.YtpeneeddfgmjpaaGreatDoor.rul
open Go.RowKit Go.Proofs.YtpeneeddfgmjpaaGreatDoor.mem Go.Proofs.YtpeneeddfgmjpaaGreatDoor.sha Go.Proofs.YtpeneeddfgmjpaaGreatDoor.ids Go.Proofs.YtpeneeddfgmjpaaGreatDoor.rows Go.Proofs.YtpeneeddfgmjpaaGreatDoor.hdr Go.Proofs.YtpeneeddfgmjpaaGreatDoor.hds Go.Proofs.YtpeneeddfgmjpaaGreatDoor.mpk
open Go.Proofs.YtpeneeddfgmjpaaGreatDoor.opn (zid)

set_option maxHeartbeats 16000000 in
set_option maxRecDepth 100000 in
theorem verdict_any (h : Hd) (u v : Value) (P : HP) (w : World) (hT : Tabs w) (hr : h.commit.length = 32) (hu : RdV w u h.parents) (hm : h.parents.length ≤ 1000) (hto : h.topic.length ≤ 140737488351232) (hv : HsV w v P) (hf : Few P) (hn : P.length ≤ 1000) :
  Calls Tryz.prog 8 #[hdv h u, v] w fun e w' => e = .returned (.int .i64 (verdictL h (hs P))) ∧ Below w.heap.size w w' := by
 obtain ⟨ad, cap, rfl⟩ := hu.form
 obtain ⟨va, vc, rfl⟩ := hv.form
 obtain ⟨X, hX⟩ : ∃ S, S = w.heap.size := ⟨_, rfl⟩
 obtain ⟨w1, hw1⟩ : ∃ z, z = w.alloc (.cells (hdc h (.slice ad h.parents.length cap)).toArray 26) := ⟨_, rfl⟩
 have hb1 : Blk w1 X 26 (hdc h (.slice ad h.parents.length cap)).toArray := by rw [hw1, hX]; exact Blk.new w _ _
 have hbl : Below w.heap.size w w1 := by rw [hw1]; exact (Below.refl _ _).alloc (Nat.le_refl _) _
 have hl1 := run_load_hd hb1 hr
 have hck := lcheck_any h _ w1 (hT.next hbl) hr (hu.next hbl) hm hto
 have HHT := Lib.hid (fun w2 (hb : Below w1.heap.size w1 w2) => heights_any _ P w2 (hT.next (hbl.trans (hb.mono hbl.size))) (hv.next (hbl.trans (hb.mono hbl.size))) hf hn)
 obtain ⟨pl, hpl⟩ : ∃ n, n = P.length := ⟨_, rfl⟩
 obtain ⟨n, hnn⟩ : ∃ n, n = h.parents.length := ⟨_, rfl⟩
 rw [← hpl] at HHT ⊢
 rw [← hnn] at hb1 hw1 hm hu hl1 hck ⊢
 obtain ⟨ec, hec⟩ : ∃ e, e = checkH h := ⟨_, rfl⟩
 rw [← hec] at hck
 have HEC := Lib.hid hec
 have HB1 := Lib.hid hb1
 have HBL := Lib.hid hbl
 have HU := Lib.hid hu
 have HW := Lib.hid hw1
 have HXX := Lib.hid hX
 have HR := Lib.hid hr
 have HNN := Lib.hid hnn
 obtain ⟨c, hc⟩ : ∃ c, c = (hdc h (.slice ad n cap)).toArray := ⟨_, rfl⟩
 have HC := Lib.hid hc
 unfold hdv at hl1 hck ⊢
 rw [← hc] at HB1 HW hl1 hck ⊢
 have HCK := Lib.hid hck
 have HL1 := Lib.hid hl1
 clear hb1 hbl hw1 hX hv hu hr hnn hc hT hpl hl1 hck hec hto
 go_enter Tryz.func8, Tryz.ntmps8
 go_upto_region 1 with fail
 refine wp_at HW.out.symm ?_
 rw [← HXX.out]
 clear HW
 by_cases he : ec = 0
 case neg =>
  have hne : (ec != 0) = true := bne_iff_ne.2 he
  have HE : Hid (verdictL h (hs P) = ec) := Lib.hid (by unfold verdictL verdictR; rw [← HEC.out, if_pos he])
  have hl1 := HL1.out
  clear he
  go_wp2_with (first
   | ((with_reducible refine step_load (t := 26) (x := .tmp 2) (p := ?lpn1) (v := ?lvn1) ?lgn1 ?lon1 ?lxn1 ?lrn1 ?lhn1); (case lgn1 => rfl); (case lon1 => rfl); (case lxn1 => rfl); (case lrn1 => exact hl1))
   | (go_at_call 20; (with_reducible refine HCK.out.mono ?_); rintro e w2 ⟨rfl, hb2⟩))
  go_ret
  exact ⟨by rw [HE.out]; rfl, HBL.out.trans (hb2.mono HBL.out.size)⟩
 subst he
 have hl1 := HL1.out
 go_upto_region 5 with (first
  | ((with_reducible refine step_load (t := 26) (x := .tmp 2) (p := ?lpc1) (v := ?lvc1) ?lgc1 ?loc1 ?lxc1 ?lrc1 ?lhc1); (case lgc1 => rfl); (case loc1 => rfl); (case lxc1 => rfl); (case lrc1 => exact hl1))
  | (go_at_call 20; (with_reducible refine HCK.out.mono ?_); rintro e w2 ⟨rfl, hb2⟩; have HB2 := Lib.hid hb2; clear hb2)
  | (go_at_call 21; (with_reducible refine (HHT.out _ HB2.out).mono ?_); rintro e w3 ⟨M, rfl, hM, htb, hb3⟩))
 clear hl1 HL1 HCK HHT
 have hb13 := HB2.out.trans (hb3.mono HB2.out.size)
 have hx3 := HB1.out.below hb13 HB1.out.lt
 have c0 : w3.cell? ⟨X, 0, none⟩ = some (.slice ad n cap) := (HdBlk.of (HC.out ▸ hx3) HR.out).parents
 obtain ⟨S, hS⟩ : ∃ S, S = w3.heap.size := ⟨_, rfl⟩
 have HS := Lib.hid hS
 have HX3 := Lib.hid hx3
 have HXS : Hid (X < S) := Lib.hid (by rw [hS]; exact hx3.lt)
 have HTB := Lib.hid htb
 have HMS : Hid (M < S) := Lib.hid (by rw [hS]; exact htb.lt)
 have HBW := Lib.hid (HBL.out.trans (hb13.mono HBL.out.size))
 have HT0 : Hid (Turn (S ≤ ·) w3 w3) := Lib.hid (Turn.refl _ _)
 clear hb13 hx3 hM htb hb3 hS HB2 HB1
 go_wp2_with fail
 clear c0
 go_loopw [7, 22] (fun o i wr => ∃ (k : Nat) (l : List Int), k ≤ n ∧ i = .int .i64 (k : Int) ∧ Hid ((h.parents.take k).map (toldF (hs P)) = l.map some) ∧ OwnC wr (S ≤ ·) 3 o (nums l) ∧ Turn (S ≤ ·) w3 wr) (fun _ i _ => n - (intOf i).toNat)
 case atStart => exact ⟨0, [], Nat.zero_le _, rfl, Lib.hid (by simp), OwnC.nil _ _ _, HT0.out⟩
 case round =>
  clear HT0
  obtain ⟨k, l, hk, rfl, HTL, ho, ht⟩ := hrel
  have k0 : (0 : Int) ≤ (k : Int) := Int.natCast_nonneg _
  have hbr : Below w3.heap.size w3 wr := ht.below fun b hb => (show w3.heap.size ≤ b by rw [← HS.out]; exact hb)
  have HT := Lib.hid ht
  have HBR := Lib.hid (HBW.out.trans (hbr.mono HBW.out.size))
  have HLN : Hid ((nums l).length = k) := Lib.hid (by
   have := congrArg List.length HTL.out
   rw [List.length_map, List.length_map, List.length_take] at this
   have hnn := HNN.out
   rw [nums_len]; omega)
  obtain ⟨oa, oc, hvf⟩ := ho.form
  rw [HLN.out] at hvf
  subst hvf
  have HO := Lib.hid ho
  by_cases hlt : k < n
  ·
   have kI : (k : Int) < (n : Int) := by omega
   have hkP : k < h.parents.length := by rw [← HNN.out]; exact hlt
   have hu := HU.out.next HBR.out
   obtain ⟨b, off, rfl, hbb, hbl2, hld⟩ := hu.load hkP
   have hld := hld 0
   obtain ⟨y, hy⟩ : ∃ y, y = h.parents.getD k [] := ⟨_, rfl⟩
   have hy32 : y.length = 32 := by rw [hy]; exact hu.ok.get hkP
   rw [← hy] at hld
   have hym : y ∈ h.parents := by rw [hy, List.getD_eq_getElem?_getD, List.getElem?_eq_getElem hkP]; exact List.getElem_mem hkP
   have hsn : (h.parents.take (k + 1)).map (toldF (hs P)) = l.map some ++ [toldF (hs P) y] := by
    rw [List.take_succ_eq_append_getElem hkP, List.map_append, HTL.out]
    have : h.parents[k] = y := by rw [hy, List.getD_eq_getElem?_getD, List.getElem?_eq_getElem hkP]; rfl
    rw [this]; rfl
   have hh := run_holdI wr y hy32
   have hkb := heldI_blk wr y
   have hb3 := heldI_below wr y
   obtain ⟨w4, hw4⟩ : ∃ z, z = heldI wr y := ⟨_, rfl⟩
   rw [← hw4] at hh hkb hb3
   have hl3 := box_load hkb hy32 0
   have htb3 := (HTB.out.turn ht (by have := HMS.out; omega)).below hb3 (by have := ht.size; have := HMS.out; have := HS.out; omega)
   have hask := htb3.ask hy32
   have ho3 := ho.below hb3
   unfold idv at hask hh
   obtain ⟨tq, htq⟩ : ∃ q, q = toldF (hs P) y := ⟨_, rfl⟩
   rw [← htq] at hask hsn
   have HTQ := Lib.hid htq
   have HYM := Lib.hid hym
   have HSN := Lib.hid hsn
   have HH := Lib.hid hh
   have HB3 := Lib.hid hb3
   have HO3 := Lib.hid ho3
   have hSr : S ≤ wr.heap.size := by have := ht.size; have := HS.out; omega
   have HSR := Lib.hid hSr
   clear ho ht hbr hu hbb hbl2 hy hy32 hym hsn hh hkb hb3 hw4 htb3 ho3 htq hkP hSr
   cases tq with
   | none =>
    have hask : (Instr.lookup 48 (.map (some M)) (.agg (bv y).toArray) true).run Tryz.prog w4 = .ok (.tuple #[.int .i64 0, .bool false]) w4 := hask
    have HE : Hid (verdictL h (hs P) = 11) := Lib.hid (verdictL_no HEC.out.symm HYM.out HTQ.out.symm)
    go_wp2_with (first
     | ((with_reducible refine step_load (t := 24) (x := .tmp 24) (p := ?lpg1) (v := ?lvg1) ?lgg1 ?log1 ?lxg1 ?lrg1 ?lhg1); (case lgg1 => rfl); (case log1 => rfl); (case lxg1 => rfl); (case lrg1 => exact hld))
     | ((with_reducible refine step_store_run (t := 24) (x := .tmp 9) (y := .tmp 25) (p := ?spg1) (v := ?svg1) (w' := ?swg1) ?sgg1 ?sog1 ?sxg1 ?syg1 ?srg1 ?shg1); (case sgg1 => rfl); (case sog1 => rfl); (case sxg1 => rfl); (case syg1 => rfl); (case srg1 => exact HH.out))
     | ((with_reducible refine step_load (t := 24) (x := .tmp 9) (p := ?lpg2) (v := ?lvg2) ?lgg2 ?log2 ?lxg2 ?lrg2 ?lhg2); (case lgg2 => rfl); (case log2 => rfl); (case lxg2 => rfl); (case lrg2 => exact hl3))
     | ((with_reducible refine step_lookup (t := 48) (x := .tmp 27) (i := .tmp 28) (ok := true) (m := ?kmg1) (y := ?kyg1) (v := ?kvg1) ?kgg1 ?kog1 ?kxg1 ?kig1 ?krg1 ?khg1); (case kgg1 => rfl); (case kog1 => rfl); (case kxg1 => rfl); (case kig1 => rfl); (case krg1 => exact hask)))
    refine bodyPost_ret (results_tmp rfl _ _ _) rfl ?_
    exact ⟨by rw [HE.out]; rfl, HBR.out.trans (HB3.out.mono HBR.out.size)⟩
   | some z =>
    have hask : (Instr.lookup 48 (.map (some M)) (.agg (bv y).toArray) true).run Tryz.prog w4 = .ok (.tuple #[.int .i64 z, .bool true]) w4 := hask
    obtain ⟨v5, w5, hrun, ho5, ht5⟩ := push_num HO3.out z (by rw [HLN.out]; omega)
    have HO5 := Lib.hid ho5
    have HT5 := Lib.hid ht5
    clear ho5 ht5
    go_wp2_with (first
     | ((with_reducible refine step_load (t := 24) (x := .tmp 24) (p := ?lph1) (v := ?lvh1) ?lgh1 ?loh1 ?lxh1 ?lrh1 ?lhh1); (case lgh1 => rfl); (case loh1 => rfl); (case lxh1 => rfl); (case lrh1 => exact hld))
     | ((with_reducible refine step_store_run (t := 24) (x := .tmp 9) (y := .tmp 25) (p := ?sph1) (v := ?svh1) (w' := ?swh1) ?sgh1 ?soh1 ?sxh1 ?syh1 ?srh1 ?shh1); (case sgh1 => rfl); (case soh1 => rfl); (case sxh1 => rfl); (case syh1 => rfl); (case srh1 => exact HH.out))
     | ((with_reducible refine step_load (t := 24) (x := .tmp 9) (p := ?lph2) (v := ?lvh2) ?lgh2 ?loh2 ?lxh2 ?lrh2 ?lhh2); (case lgh2 => rfl); (case loh2 => rfl); (case lxh2 => rfl); (case lrh2 => exact hl3))
     | ((with_reducible refine step_lookup (t := 48) (x := .tmp 27) (i := .tmp 28) (ok := true) (m := ?kmh1) (y := ?kyh1) (v := ?kvh1) ?kgh1 ?koh1 ?kxh1 ?kih1 ?krh1 ?khh1); (case kgh1 => rfl); (case koh1 => rfl); (case kxh1 => rfl); (case kih1 => rfl); (case krh1 => exact hask))
     | ((with_reducible refine step_append (s := .tmp 34) (x := .tmp 36) (t := 50) (vs := ?ash1) (vx := ?axh1) (v' := ?avh1) (w' := ?awh1) ?agh1 ?aoh1 ?aph1 ?aqh1 ?arh1 ?ahh1); (case agh1 => rfl); (case aoh1 => rfl); (case aph1 => rfl); (case aqh1 => rfl); (case arh1 => exact hrun)))
    go_roundw
    case rel =>
     refine ⟨k + 1, l ++ [z], hlt, by push_cast; rfl, Lib.hid (by rw [HSN.out, List.map_append]; rfl), ?_, (HT.out.trans (Turn.fresh HB3.out fun b hb => (show S ≤ b by have := HSR.out; omega))).trans (HT5.out.mono fun b hb => ?_)⟩
     ·
      rw [nums_snoc]
      refine HO5.out.mono fun b hb => ?_
      rcases hb with hb | hb
      ·
       exact HO3.out.2 b hb
      ·
       show S ≤ b; have := HSR.out; have := HB3.out.size; omega
     ·
      show S ≤ b
      rcases hb with hb | hb
      ·
       exact HO3.out.2 b hb
      ·
       have := HSR.out; have := HB3.out.size; omega
    case measure => simp [intOf]; omega
  ·
   obtain rfl : k = n := by omega
   have HTL2 : Hid (h.parents.map (toldF (hs P)) = l.map some) := Lib.hid (by
    have := HTL.out
    rw [List.take_of_length_le (by rw [← HNN.out]; exact Nat.le_refl _)] at this
    exact this)
   have hrd := (ho.rdc (by rw [HLN.out]; omega)).1
   have HAB := Lib.hid (fun m : Nat => above_any l _ (wr.drewN m) (hrd.next (below_drewN (Below.refl _ wr) m)) (by have := HLN.out; rw [nums_len] at this; omega))
   have HV := Lib.hid (verdictL_at HEC.out.symm HTL2.out)
   have hx := HX3.out.turn ht (by have := HXS.out; omega)
   have c1 : wr.cell? ⟨X, 1, none⟩ = some (.int .i64 h.height) := (HdBlk.of (HC.out ▸ hx) HR.out).height
   obtain ⟨hg, hhg⟩ : ∃ z, z = h.height := ⟨_, rfl⟩
   obtain ⟨ag, hag⟩ : ∃ z, z = aboveL l := ⟨_, rfl⟩
   rw [← hhg] at c1 HV
   rw [← hag] at HAB HV
   clear hlt ho ht hbr hrd hx hhg hag
   by_cases hq : hg = ag
   ·
    have HE : Hid (verdictL h (hs P) = 0) := Lib.hid (by rw [HV.out, if_pos hq])
    have hne : (hg != ag) = false := by rw [hq]; simp
    clear hq
    go_upto_region 14 with fail
    go_quiet ((go_at_call 22; exact quiet_left ((HAB.out _).mono fun _ _ ⟨he, hw⟩ => ⟨he, hw⟩)))
    go_wp2_with fail
    go_ret
    exact ⟨by rw [HE.out]; rfl, below_drewN HBR.out _⟩
   ·
    have HE : Hid (verdictL h (hs P) = 12) := Lib.hid (by rw [HV.out, if_neg hq])
    have hne : (hg != ag) = true := bne_iff_ne.2 hq
    clear hq
    go_upto_region 14 with fail
    go_quiet ((go_at_call 22; exact quiet_left ((HAB.out _).mono fun _ _ ⟨he, hw⟩ => ⟨he, hw⟩)))
    go_wp2_with fail
    go_ret
    exact ⟨by rw [HE.out]; rfl, below_drewN HBR.out _⟩
end Go.Proofs.YtpeneeddfgmjpaaGreatDoor.rul
