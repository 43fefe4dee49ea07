/-
 much; the walk of RuleNexts.
-/
import Derived.Test.YtpeneeddfgmjpaaGreatDoorRuis
import Derived.Test.YtpeneeddfgmjpaaGreatDoorRun
import Derived.Test.YtpeneeddfgmjpaaGreatDoorRutl
import Derived.Test.YtpeneeddfgmjpaaGreatDoorKitw
namespace Go.Proofs.YtpeneeddfgmjpaaGreatDoor.rul
open Go.RowKit Go.Proofs.YtpeneeddfgmjpaaGreatDoor.mem Go.Proofs.YtpeneeddfgmjpaaGreatDoor.sha Go.Proofs.YtpeneeddfgmjpaaGreatDoor.ids Go.Proofs.YtpeneeddfgmjpaaGreatDoor.rows Go.Proofs.YtpeneeddfgmjpaaGreatDoor.hdr Go.Proofs.YtpeneeddfgmjpaaGreatDoor.hds
open Go.Proofs.YtpeneeddfgmjpaaGreatDoor.opn (zid)

/-- not more than is asked for -/
def Modest (h : Hd) (K : List Hd) : Prop := K.length ≤ 20 ∧ (∀ p ∈ K, p.parents.length ≤ 20 ∧ p.topic.length ≤ 100) ∧ h.parents.length ≤ 20 ∧ h.topic.length ≤ 100
instance (h : Hd) (K : List Hd) : Decidable (Modest h K) := inferInstanceAs (Decidable (_ ∧ (∀ p ∈ K, _) ∧ _ ∧ _))
theorem Modest.few {h : Hd} {P : HP} (m : Modest h (hs P)) : Few P ∧ P.length ≤ 1000 := by
 obtain ⟨h1, h2, h3, h4⟩ := m
 rw [hs_len] at h1
 refine ⟨fun p hp => ?_, by omega⟩
 have := h2 p.1 (List.mem_map_of_mem hp)
 omega
theorem big_at {h : Hd} {K : List Hd} {k : Nat} (hk : k < K.length) (hb : 20 < (K.getD k zhd).parents.length ∨ 100 < (K.getD k zhd).topic.length) : ¬ Modest h K := fun m => by
 have := m.2.1 _ (getD_mem hk)
 omega
theorem modest_of {h : Hd} {K : List Hd} (hn : K.length ≤ 20) (hk : ∀ j, j < K.length → (K.getD j zhd).parents.length ≤ 20 ∧ (K.getD j zhd).topic.length ≤ 100) (h1 : h.parents.length ≤ 20) (h2 : h.topic.length ≤ 100) : Modest h K := by
 refine ⟨hn, fun p hp => ?_, h1, h2⟩
 obtain ⟨j, hj, rfl⟩ := List.getElem_of_mem hp
 have := hk j hj
 rw [List.getD_eq_getElem?_getD, List.getElem?_eq_getElem hj] at this
 exact this

set_option maxHeartbeats 8000000 in
set_option maxRecDepth 100000 in
theorem much_any (h : Hd) (u v : Value) (P : HP) (w : World) (hr : h.commit.length = 32) (hu : RdV w u h.parents) (hv : HsV w v P) :
  Calls Tryz.prog 6 #[hdv h u, v] w fun e w' => e = .returned (.bool (!decide (Modest h (hs P)))) ∧ Below w.heap.size w w' := by
 obtain ⟨X, hX⟩ : ∃ S, S = w.heap.size := ⟨_, rfl⟩
 obtain ⟨w1, hw1⟩ : ∃ z, z = w.alloc (.cells (hdc h u).toArray 26) := ⟨_, rfl⟩
 have hb1 : Blk w1 X 26 (hdc h u).toArray := by rw [hw1, hX]; exact Blk.new w _ _
 have hbl : Below w.heap.size w w1 := by rw [hw1]; exact (Below.refl _ _).alloc (Nat.le_refl _) _
 obtain ⟨ad, cap, rfl⟩ := hv.form
 obtain ⟨ua, uc, hvu⟩ := hu.form
 obtain ⟨n, hnn⟩ : ∃ n, n = P.length := ⟨_, rfl⟩
 obtain ⟨un, hun⟩ : ∃ n, n = h.parents.length := ⟨_, rfl⟩
 obtain ⟨s, hss⟩ : ∃ s, s = oct.tx h.topic := ⟨_, rfl⟩
 have hsz : s.size = h.topic.length := by rw [hss, oct.tx_size]
 rw [← hun] at hvu
 have hv1 := hv.next hbl
 rw [← hnn] at hv1
 have HV1 := Lib.hid hv1
 have HB1 := Lib.hid hb1
 have HBL := Lib.hid hbl
 have HW := Lib.hid hw1
 have HXX := Lib.hid hX
 have HR := Lib.hid hr
 have HNN := Lib.hid hnn
 have HUN := Lib.hid hun
 have HVU := Lib.hid hvu
 have HSS := Lib.hid hss
 have HSZ := Lib.hid hsz
 obtain ⟨ca, hca⟩ : ∃ z, z = (hdc h u).toArray := ⟨_, rfl⟩
 have hhv : hdv h u = .agg ca := by rw [hca]; rfl
 have HCA := Lib.hid hca
 rw [← hca] at HW
 rw [hhv, ← hnn]
 clear hb1 hbl hw1 hX hv hu hr hnn hun hvu hss hsz hv1 hhv hca
 go_enter Tryz.func6, Tryz.ntmps6
 go_upto_region 1 with fail
 refine wp_at HW.out.symm ?_
 rw [← HXX.out]
 clear HW
 go_wp2_with fail
 go_loopw [5] (fun i wr => ∃ k : Nat, k ≤ n ∧ k ≤ 20 ∧ i = .int .i64 (k : Int) ∧ HsV wr (.slice ad n cap) P ∧ Blk wr X 26 (hdc h u).toArray ∧ Below w.heap.size w wr ∧ ∀ j, j < k → ((hs P).getD j zhd).parents.length ≤ 20 ∧ ((hs P).getD j zhd).topic.length ≤ 100) (fun i _ => n - (intOf i).toNat)
 case atStart => exact ⟨0, Nat.zero_le _, Nat.zero_le _, rfl, HV1.out, HB1.out, HBL.out, fun j hj => absurd hj (Nat.not_lt_zero _)⟩
 case round =>
  clear HV1 HB1 HBL
  obtain ⟨k, hk, hk20, rfl, hv, hb, hbl, hno⟩ := hrel
  have k0 : (0 : Int) ≤ (k : Int) := Int.natCast_nonneg _
  have HNO := Lib.hid hno
  have HBL := Lib.hid hbl
  have HV := Lib.hid hv
  have HB := Lib.hid hb
  by_cases hlt : k < n ∧ k < 20
  ·
   have kI : (k : Int) < (n : Int) := by omega
   have k20 : (k : Int) < 20 := by omega
   have hkP : k < P.length := by rw [← HNN.out]; exact hlt.1
   obtain ⟨b, off, rfl, -, -, c0, -, c2⟩ := hv.at_ hkP
   obtain ⟨xa, va, hqa⟩ : ∃ a b, P.getD k zhp = (a, b) := ⟨_, _, rfl⟩
   have hin := ins_e hv hkP hqa
   obtain ⟨pa, pc, hpf⟩ := hin.1.form
   obtain ⟨pn, hpn⟩ : ∃ n, n = xa.parents.length := ⟨_, rfl⟩
   obtain ⟨tt, htt⟩ : ∃ s, s = oct.tx xa.topic := ⟨_, rfl⟩
   have htz : tt.size = xa.topic.length := by rw [htt, oct.tx_size]
   rw [hqa] at c0 c2
   dsimp only at c0 c2
   rw [hpf, ← hpn] at c0
   rw [← htt] at c2
   have HG : Hid ((hs P).getD k zhd = xa) := Lib.hid (two_e hkP hqa)
   have HKP : Hid (k < (hs P).length) := Lib.hid (by rw [hs_len]; exact hkP)
   have HPN := Lib.hid hpn
   have HTZ := Lib.hid htz
   clear hno hbl hv hb hkP hqa hin hpf hpn htt htz
   by_cases h1 : 20 < pn
   ·
    have h1I : (20 : Int) < (pn : Int) := by omega
    have HE : Hid ((!decide (Modest h (hs P))) = true) := Lib.hid (by rw [decide_eq_false (big_at HKP.out (by rw [HG.out, ← HPN.out]; exact .inl h1))]; rfl)
    clear h1
    go_wp2_with fail
    go_ret
    exact ⟨by rw [HE.out]; rfl, HBL.out⟩
   by_cases h2 : 100 < tt.size
   ·
    have h1I : (pn : Int) ≤ 20 := by omega
    have h2I : (100 : Int) < (tt.size : Int) := by omega
    have HE : Hid ((!decide (Modest h (hs P))) = true) := Lib.hid (by rw [decide_eq_false (big_at HKP.out (by rw [HG.out, ← HTZ.out]; exact .inr h2))]; rfl)
    clear h1 h2
    go_wp2_with fail
    go_ret
    exact ⟨by rw [HE.out]; rfl, HBL.out⟩
   have h1I : (pn : Int) ≤ 20 := by omega
   have h2I : (tt.size : Int) ≤ 100 := by omega
   have HS : Hid (xa.parents.length ≤ 20 ∧ xa.topic.length ≤ 100) := Lib.hid (by rw [← HPN.out, ← HTZ.out]; omega)
   clear h1 h2
   go_wp2_with fail
   go_roundw
   case rel => exact ⟨k + 1, hlt.1, hlt.2, by push_cast; rfl, HV.out, HB.out, HBL.out, fun j hj => by
    rcases Nat.lt_or_ge j k with c | c
    ·
     exact HNO.out j c
    ·
     obtain rfl : j = k := by omega
     rw [HG.out]; exact HS.out⟩
   case measure => simp [intOf]; omega
  ·
   have d0 : wr.cell? ⟨X, 0, none⟩ = some (.slice ua un uc) := HVU.out ▸ (HdBlk.of hb HR.out).parents
   have d2 : wr.cell? ⟨X, 2, none⟩ = some (.string s) := HSS.out ▸ (HdBlk.of hb HR.out).topic
   clear hno hbl hv hb
   by_cases hn20 : 20 < n
   ·
    have i1 : (20 : Int) < (n : Int) := by omega
    have HE : Hid ((!decide (Modest h (hs P))) = true) := Lib.hid (by rw [decide_eq_false (fun m => by have := m.1; rw [hs_len, ← HNN.out] at this; omega)]; rfl)
    obtain rfl : k = 20 := by omega
    clear hn20 hlt
    go_wp2_with fail
    go_ret
    exact ⟨by rw [HE.out]; rfl, HBL.out⟩
   obtain rfl : k = n := by omega
   have i1 : (k : Int) ≤ 20 := by omega
   by_cases h1 : 20 < un
   ·
    have h1I : (20 : Int) < (un : Int) := by omega
    have HE : Hid ((!decide (Modest h (hs P))) = true) := Lib.hid (by rw [decide_eq_false (fun m => by have := m.2.2.1; rw [← HUN.out] at this; omega)]; rfl)
    clear h1 hn20 hlt
    go_wp2_with fail
    go_ret
    exact ⟨by rw [HE.out]; rfl, HBL.out⟩
   have h1I : (un : Int) ≤ 20 := by omega
   by_cases h2 : 100 < s.size
   ·
    have h2I : (100 : Int) < (s.size : Int) := by omega
    have HE : Hid ((!decide (Modest h (hs P))) = true) := Lib.hid (by rw [decide_eq_false (fun m => by have := m.2.2.2; rw [← HSZ.out] at this; omega)]; rfl)
    clear h1 h2 hn20 hlt
    go_wp2_with fail
    go_ret
    exact ⟨by rw [HE.out]; rfl, HBL.out⟩
   ·
    have h2I : (s.size : Int) ≤ 100 := by omega
    have HE : Hid ((!decide (Modest h (hs P))) = false) := Lib.hid (by rw [decide_eq_true (modest_of (by rw [hs_len, ← HNN.out]; omega) (fun j hj => HNO.out j (by rw [hs_len, ← HNN.out] at hj; exact hj)) (by rw [← HUN.out]; omega) (by rw [← HSZ.out]; omega))]; rfl)
    clear h1 h2 hn20 hlt
    go_wp2_with fail
    go_ret
    exact ⟨by rw [HE.out]; exact congrArg (fun b => Ending.returned (Value.bool b)) (by simp; omega), HBL.out⟩
theorem run_build_t (w : World) (t : List UInt8) : (Instr.build 26 #[(2, .string (oct.tx t))]).run Tryz.prog w = .ok (hdv ⟨[], 0, t, 0, 0, 0, zid⟩ nv) w := by kernel_rfl

set_option maxHeartbeats 8000000 in
set_option maxRecDepth 100000 in
theorem nexts_walk {T : World → Prop} (hI : RuIs T) (hRS : RSum) (v : Value) (P : HP) (t : List UInt8) (a q z : Int) (c : Id) (w : World) (hT : T w) (hv : HsV w v P) (hc : c.length = 32) (ht : t.length ≤ 140737488351232) :
  Calls Tryz.prog 4 #[v, .string (oct.tx t), .int .i64 a, .int .i64 q, .int .i64 z, idv c] w fun e w' => e = .returned (.bool true) ∧ Below w.heap.size w w' := by
 obtain ⟨X, hX⟩ : ∃ S, S = w.heap.size := ⟨_, rfl⟩
 obtain ⟨w1, hw1⟩ : ∃ y, y = w.alloc (.cells (bv c).toArray 24) := ⟨_, rfl⟩
 have hb1 : Blk w1 X 24 (bv c).toArray := by rw [hw1, hX]; exact Blk.new w _ _
 have hbl : Below w.heap.size w w1 := by rw [hw1]; exact (Below.refl _ _).alloc (Nat.le_refl _) _
 have hv1 := hv.next hbl
 have hT1 := hI.next hT hbl
 obtain ⟨tH, htH⟩ : ∃ h, h = (⟨[], 0, t, 0, 0, 0, zid⟩ : Hd) := ⟨_, rfl⟩
 have hmu := much_any tH nv v P w1 (by rw [htH]; exact zid32) (by rw [htH]; exact nv_rd w1) hv1
 have hlit : hdv tH nv = (Value.agg #[.slice none 0 0, .int .i64 0, .string (oct.tx t), .int .i64 0, .int .i64 0, .int .i64 0, .int .u8 0, .int .u8 0, .int .u8 0, .int .u8 0, .int .u8 0, .int .u8 0, .int .u8 0, .int .u8 0, .int .u8 0, .int .u8 0, .int .u8 0, .int .u8 0, .int .u8 0, .int .u8 0, .int .u8 0, .int .u8 0, .int .u8 0, .int .u8 0, .int .u8 0, .int .u8 0, .int .u8 0, .int .u8 0, .int .u8 0, .int .u8 0, .int .u8 0, .int .u8 0, .int .u8 0, .int .u8 0, .int .u8 0, .int .u8 0, .int .u8 0, .int .u8 0]) := by rw [htH]; rfl
 rw [hlit] at hmu
 have HBT : Hid (∀ u, (Instr.build 26 #[(2, .string (oct.tx t))]).run Tryz.prog u = .ok (hdv tH nv) u) := Lib.hid fun u => by rw [htH]; exact run_build_t u t
 have HI := Lib.hid hI
 have HT1 := Lib.hid hT1
 have HW := Lib.hid hw1
 have HXX := Lib.hid hX
 have HB1 := Lib.hid hb1
 have HBL := Lib.hid hbl
 have HV1 := Lib.hid hv1
 clear htH hlit hw1 hX hb1 hbl hv1 hT1 hv hI hT
 by_cases hm : Modest tH (hs P)
 case neg =>
  rw [decide_eq_false hm] at hmu
  have HMU := Lib.hid hmu
  clear hm hmu
  unfold idv
  go_enter Tryz.func4, Tryz.ntmps4
  go_upto_region 1 with fail
  refine wp_at HW.out.symm ?_
  rw [← HXX.out]
  clear HW
  go_wp2_with (first
   | (go_at_call 6; go_loud ((with_reducible refine HMU.out.mono ?_); rintro e w2 ⟨rfl, hb2⟩; have HB2 := Lib.hid (HBL.out.trans (hb2.mono HBL.out.size)); have ht2 := HI.out.next HT1.out hb2; clear hb2))
   | (go_at_call 7; (with_reducible refine (awake_any HI.out _ ht2).mono ?_); rintro e w3 ⟨rfl, hb3⟩))
  go_ret
  exact ⟨rfl, HB2.out.trans (hb3.mono HB2.out.size)⟩
 rw [decide_eq_true hm] at hmu
 obtain ⟨hf, hn⟩ := hm.few
 have HMU := Lib.hid hmu
 have HG32 := Lib.hid (nextR_com (hs P) t a q z c hc)
 have HMD := Lib.hid (fun u h (k : HsV u v P) => HI.out.made v P t a q z c u h k hf hn hc ht)
 have HRF := Lib.hid (fun u (k : HsV u v P) => next_ref hRS v P t a q z c u k hf hn hc ht)
 obtain ⟨G, hG⟩ : ∃ G, G = (nextR (hs P) t a q z c).1 := ⟨_, rfl⟩
 obtain ⟨er, her⟩ : ∃ e, e = (nextR (hs P) t a q z c).2 := ⟨_, rfl⟩
 have hge : nextR (hs P) t a q z c = (G, er) := by rw [hG, her]
 rw [hge] at HG32 HMD HRF
 dsimp only at HG32
 unfold idv at HMD HRF
 have HC := Lib.hid hc
 clear hm hmu hG her hge hf hn hc ht
 unfold idv
 go_enter Tryz.func4, Tryz.ntmps4
 go_upto_region 1 with fail
 refine wp_at HW.out.symm ?_
 rw [← HXX.out]
 clear HW
 go_wp2_with (first
  | (go_at_call 6; go_loud ((with_reducible refine HMU.out.mono ?_); rintro e w2 ⟨rfl, hb2⟩; have HB2 := Lib.hid (HBL.out.trans (hb2.mono HBL.out.size)); have hT2 := HI.out.next HT1.out hb2; have hx2 := HB1.out.below hb2 HB1.out.lt; have hlc := box_load hx2 HC.out 0; have hv2 := HV1.out.next hb2; have hmd := HMD.out w2 hT2 hv2; have HMD2 := Lib.hid hmd; have HX2 := Lib.hid hx2; have HV2 := Lib.hid hv2; have HT2 := Lib.hid hT2; clear hb2 hT2 hx2 hv2 hmd HMU))
  | ((with_reducible refine step_load (t := 24) (x := .tmp 11) (p := ?lpq2) (v := ?lvq2) ?lgq2 ?loq2 ?lxq2 ?lrq2 ?lhq2); (case lgq2 => rfl); (case loq2 => rfl); (case lxq2 => rfl); (case lrq2 => exact hlc))
  | (go_at_call 15; (with_reducible refine HMD2.out.mono ?_); rintro e w3 ⟨u1, rfl, hp1, hb3, -⟩; have hh1 := run_hold w3 G u1 HG32.out (rdv_one hp1); have hk1 := held_blk w3 G u1; have hbb1 := held_below w3 G u1; obtain ⟨w4, hw4⟩ : ∃ x, x = heldW w3 G u1 := ⟨_, rfl⟩; rw [← hw4] at hh1 hk1 hbb1; have hb34 := hb3.trans (hbb1.mono hb3.size); have hp4 := hp1.next hbb1; have hT4 := HI.out.next HT2.out hb34; have hx4 := HX2.out.below hb34 HX2.out.lt; have hlc4 := box_load hx4 HC.out 0; have hv4 := HV2.out.next hb34; have HB4 := Lib.hid (HB2.out.trans (hb34.mono HB2.out.size)); have hrf := HRF.out w4 hv4; have HRF2 := Lib.hid hrf; have HH1 := Lib.hid hh1; have HK1 := Lib.hid hk1; have HP4 := Lib.hid hp4; have HT4 := Lib.hid hT4; clear hrf hb3 hbb1 hw4 hb34 hp1 hp4 hT4 hx4 hv4 hh1 hk1 HMD2)
  | ((with_reducible refine step_store_run (t := 26) (x := .tmp 13) (y := .tmp 30) (p := ?spq3) (v := ?svq3) (w' := ?swq3) ?sgq3 ?soq3 ?sxq3 ?syq3 ?srq3 ?shq3); (case sgq3 => rfl); (case soq3 => rfl); (case sxq3 => rfl); (case syq3 => rfl); (case srq3 => exact HH1.out))
  | ((with_reducible refine step_load (t := 24) (x := .tmp 11) (p := ?lpq4) (v := ?lvq4) ?lgq4 ?loq4 ?lxq4 ?lrq4 ?lhq4); (case lgq4 => rfl); (case loq4 => rfl); (case lxq4 => rfl); (case lrq4 => exact hlc4))
  | (go_at_call 16; (with_reducible refine HRF2.out.mono ?_); rintro e w5 ⟨u2, rfl, hp2, hb5⟩; have hh2 := run_hold w5 G u2 HG32.out (rdv_one hp2); have hk2 := held_blk w5 G u2; have hbb2 := held_below w5 G u2; obtain ⟨w6, hw6⟩ : ∃ x, x = heldW w5 G u2 := ⟨_, rfl⟩; rw [← hw6] at hh2 hk2 hbb2; have hb46 := hb5.trans (hbb2.mono hb5.size); have hp6 := hp2.next hbb2; have hp46 := HP4.out.next hb46; have hT6 := HI.out.next HT4.out hb46; have hk6 := HK1.out.below hb46 HK1.out.lt; have hl1 := run_load_hd hk6 HG32.out; have hl2 := run_load_hd hk2 HG32.out; have hsm := same_any G G u1 u2 w6 HG32.out HG32.out hp46 hp6; rw [sameH_refl] at hsm; have HSM := Lib.hid hsm; have HB6 := Lib.hid (HB4.out.trans (hb46.mono HB4.out.size)); have HH2 := Lib.hid hh2; have HT6 := Lib.hid hT6; clear hb5 hbb2 hw6 hb46 hp2 hp6 hp46 hT6 hk6 hk2 hsm hh2 HRF2)
  | ((with_reducible refine step_store_run (t := 26) (x := .tmp 15) (y := .tmp 40) (p := ?spq5) (v := ?svq5) (w' := ?swq5) ?sgq5 ?soq5 ?sxq5 ?syq5 ?srq5 ?shq5); (case sgq5 => rfl); (case soq5 => rfl); (case sxq5 => rfl); (case syq5 => rfl); (case srq5 => exact HH2.out))
  | ((with_reducible refine step_load (t := 26) (x := .tmp 13) (p := ?lpq6) (v := ?lvq6) ?lgq6 ?loq6 ?lxq6 ?lrq6 ?lhq6); (case lgq6 => rfl); (case loq6 => rfl); (case lxq6 => rfl); (case lrq6 => exact hl1))
  | ((with_reducible refine step_load (t := 26) (x := .tmp 15) (p := ?lpq7) (v := ?lvq7) ?lgq7 ?loq7 ?lxq7 ?lrq7 ?lhq7); (case lgq7 => rfl); (case loq7 => rfl); (case lxq7 => rfl); (case lrq7 => exact hl2))
  | (go_at_call 17; (with_reducible refine HSM.out.mono ?_); rintro e w8 ⟨rfl, hb8⟩; have HB8 := Lib.hid (HB6.out.trans (hb8.mono HB6.out.size)); have hT8 := HI.out.next HT6.out hb8; clear hb8 HSM)
  | (go_at_call 7; (with_reducible refine (awake_any HI.out _ hT8).mono ?_); rintro e w9 ⟨rfl, hb9⟩))
 go_ret
 exact ⟨rfl, HB8.out.trans (hb9.mono HB8.out.size)⟩
end Go.Proofs.YtpeneeddfgmjpaaGreatDoor.rul
