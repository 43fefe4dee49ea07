/-
  petrelref08.Ident, Ahead.
-/
import Derived.Test.YtmaolmogccknbaaDoorHdput
namespace Go.Proofs.YtmaolmogccknbaaDoor.hdr
open Go.RowKit Go.Proofs.YtmaolmogccknbaaDoor.mem Go.Proofs.YtmaolmogccknbaaDoor.sha Go.Proofs.YtmaolmogccknbaaDoor.ids
open Go.Proofs.YtmaolmogccknbaaDoor.opn (b1 b2 b4 num txt idl byte rd rdN rdT rdI rdS rdL St Reads Stays endE zid mkId)

/-- what petrelref02.Sum answers -/
def RSum : Prop := ∀ (s : ByteArray) (w : World), s.size ≤ 1000000 → Calls Tryd.prog 67 #[.string s] w fun e w' => e = .returned (.agg (bv (digest s.data.toList)).toArray) ∧ Below w.heap.size w w'
def idH (h : Hd) : List UInt8 × Int := if checkH h ≠ 0 then (zid, checkH h) else (digest (enH h), 0)
theorem digest_len (l : List UInt8) : (digest l).length = 32 := rfl
theorem zid32 : zid.length = 32 := zcom
theorem run_build_zi (w : World) : (Instr.build 23 #[]).run Tryd.prog w = .ok (idv zid) w := by kernel_rfl
theorem run_store_idw {w : World} {R : Nat} {t : TypeId} {z y : List UInt8} (hb : Blk w R t (bv z).toArray) (hz : z.length = 32) (hy : y.length = 32) : (Instr.storeAt 23 (.pointer (some ⟨R, 0, none⟩)) (idv y)).run Tryd.prog w = .ok () (w.setRow R (bv y).toArray) := by
  have h := run_store_cells hb 23 (bv y) (off := 0) (by rw [info_id', bv_length, hy]) (one_bvl y) (by rw [List.size_toArray, bv_length, bv_length, hy, hz]; decide)
  rw [splice_all _ _ (by rw [List.size_toArray, bv_length, bv_length, hy, hz])] at h
  exact h
set_option maxHeartbeats 4000000 in
set_option maxRecDepth 100000 in
theorem ident_any (hRS : RSum) (h : Hd) (v : Value) (w : World) (hr : h.commit.length = 32) (hv : RdV w v h.parents) (hm : h.parents.length ≤ 1000) (ht : h.topic.length ≤ 140737488351232) :
    Calls Tryd.prog 26 #[hdv h v] w fun e w' => e = .returned (.tuple #[idv (idH h).1, .int .i64 (idH h).2]) ∧ Below w.heap.size w w' := by
  obtain ⟨w1, hw1⟩ : ∃ u, u = (w.alloc (.cells (hdc h v).toArray 46)).alloc (.cells (bv zid).toArray 23) := ⟨_, rfl⟩
  obtain ⟨S, hS⟩ : ∃ S, S = w.heap.size := ⟨_, rfl⟩
  have hX : Blk w1 S 46 (hdc h v).toArray := by rw [hw1, hS]; exact (Blk.new w _ _).alloc _
  have hB : Below w.heap.size w w1 := by rw [hw1]; exact ((Below.refl _ _).alloc (Nat.le_refl _) _).alloc (by simp) _
  have hv1 := hv.next hB
  have HX := Lib.hid hX
  have HB := Lib.hid hB
  have HS := Lib.hid hS
  have HW := Lib.hid hw1
  have HR := Lib.hid hr
  have HV := Lib.hid hv1
  have HL := Lib.hid hm
  have hY : Blk w1 (S + 1) 23 (bv zid).toArray := by rw [hw1, hS]; exact Blk.at_ (by simp) _ _
  have HY := Lib.hid hY
  have HLD := Lib.hid (run_load_hd hX hr)
  have hput := put_any h v w1 hr hv1 hm ht
  have HRS := Lib.hid hRS
  have hid : idH h = if checkH h ≠ 0 then (zid, checkH h) else (digest (enH h), 0) := rfl
  by_cases h0 : checkH h = 0
  · rw [put_ok h0] at hput
    have hen := en_len h0 hr hv1.ok
    obtain ⟨s, hs⟩ : ∃ s, s = oct.tx (enH h) := ⟨_, rfl⟩
    simp only at hput
    rw [← hs] at hput
    have HPUT := Lib.hid hput
    have hsum := fun u => hRS s u (by rw [hs, oct.tx_size]; omega)
    rw [hs, oct.tx_list, ← hs] at hsum
    have HSUM := Lib.hid hsum
    have HE : Hid (idH h = (digest (enH h), 0)) := Lib.hid (by rw [hid, if_neg (fun hh => hh h0)])
    obtain ⟨y, hy⟩ : ∃ y, y = digest (enH h) := ⟨_, rfl⟩
    have HYL : Hid (y.length = 32) := Lib.hid (by rw [hy]; exact digest_len _)
    rw [← hy] at HSUM HE
    clear hX hB hv1 hS hw1 hr hv hm ht hY hput hRS hid h0 hen hs hsum hy
    unfold hdv
    go_enter Tryd.func26, Tryd.ntmps26
    go_upto_region 1 with fail
    refine wp_at HW.out.symm ?_
    rw [← HS.out]
    clear HW
    go_wp2_with (first
      | ((with_reducible refine step_load (t := 46) (x := .tmp 1) (p := ?lpd1) (v := ?lvd1) ?lgd1 ?lod1 ?lxd1 ?lrd1 ?lhd1); (case lgd1 => rfl); (case lod1 => rfl); (case lxd1 => rfl); (case lrd1 => exact HLD.out))
      | (go_at_call 24; (with_reducible refine HPUT.out.mono ?_); rintro e w2 ⟨rfl, hb2⟩; have hY2 := HY.out.below hb2 HY.out.lt; have HY2 := Lib.hid hY2; have HB2 := Lib.hid hb2; clear hY2 hb2)
      | (go_at_call 67; (with_reducible refine (HSUM.out _).mono ?_); rintro e w3 ⟨rfl, hb3⟩; have hY3 := HY2.out.below hb3 HY2.out.lt; have hrun := run_store_idw hY3 zid32 HYL.out; have hst := setRow_heap w3 (S + 1) _ (bv y).toArray _ _ hY3)
      | ((with_reducible refine step_store_run (t := 23) (x := .tmp 2) (y := .tmp 16) (p := ?sps1) (v := ?svs1) (w' := ?sws1) ?sgs1 ?sos1 ?sxs1 ?sys1 ?srs1 ?shs1); (case sgs1 => rfl); (case sos1 => rfl); (case sxs1 => rfl); (case sys1 => rfl); (case srs1 => exact hrun)))
    refine bodyPost_ret (results_id rfl _ _ (S + 1) _ y rfl hst HYL.out) rfl ⟨by rw [HE.out]; rfl, ?_⟩
    exact below_row' (HB.out.trans ((HB2.out.trans (hb3.mono HB2.out.size)).mono HB.out.size)) (by rw [HS.out]; exact Nat.le_succ _) _
  · rw [put_no h0] at hput
    simp only at hput
    have HE : Hid (idH h = (zid, checkH h)) := Lib.hid (by rw [hid, if_pos h0])
    obtain ⟨c, hc⟩ : ∃ c, c = checkH h := ⟨_, rfl⟩
    rw [← hc] at hput HE h0
    have HPUT := Lib.hid hput
    have hne : (c != 0) = true := bne_iff_ne.2 h0
    clear hX hB hv1 hS hw1 hr hv hm ht hY hput hRS hid h0 hc
    unfold hdv
    go_enter Tryd.func26, Tryd.ntmps26
    go_upto_region 1 with fail
    refine wp_at HW.out.symm ?_
    rw [← HS.out]
    clear HW
    go_wp2_with (first
      | ((with_reducible refine step_load (t := 46) (x := .tmp 1) (p := ?lpd2) (v := ?lvd2) ?lgd2 ?lod2 ?lxd2 ?lrd2 ?lhd2); (case lgd2 => rfl); (case lod2 => rfl); (case lxd2 => rfl); (case lrd2 => exact HLD.out))
      | (go_at_call 24; (with_reducible refine HPUT.out.mono ?_); rintro e w2 ⟨rfl, hb2⟩; have hY2 := HY.out.below hb2 HY.out.lt; have hrun := run_store_idw hY2 zid32 zid32; have hst := setRow_heap w2 (S + 1) _ (bv zid).toArray _ _ hY2)
      | ((with_reducible refine step_build (t := 23) (parts := #[]) (ps := #[]) (v := ?bvz1) ?bgz1 ?boz1 ?bxz1 ?brz1 ?bhz1); (case bgz1 => rfl); (case boz1 => rfl); (case bxz1 => simp); (case brz1 => exact run_build_zi _))
      | ((with_reducible refine step_store_run (t := 23) (x := .tmp 2) (y := .tmp 13) (p := ?sps2) (v := ?svs2) (w' := ?sws2) ?sgs2 ?sos2 ?sxs2 ?sys2 ?srs2 ?shs2); (case sgs2 => rfl); (case sos2 => rfl); (case sxs2 => rfl); (case sys2 => rfl); (case srs2 => exact hrun)))
    refine bodyPost_ret (results_id rfl _ _ (S + 1) _ zid rfl hst zid32) rfl ⟨by rw [HE.out]; rfl, ?_⟩
    exact below_row' (HB.out.trans (hb2.mono HB.out.size)) (by rw [HS.out]; exact Nat.le_succ _) _

set_option maxHeartbeats 4000000 in
set_option maxRecDepth 100000 in
theorem ahead_any (x : Int) (a : List UInt8) (y : Int) (b : List UInt8) (w : World) (ha : a.length = 32) (hb : b.length = 32) :
    Calls Tryd.prog 35 #[.int .i64 x, idv a, .int .i64 y, idv b] w fun e w' => e = .returned (.bool (aheadB x a y b)) ∧ Below w.heap.size w w' := by
  obtain ⟨w1, hw1⟩ : ∃ u, u = (w.alloc (.cells (bv a).toArray 23)).alloc (.cells (bv b).toArray 23) := ⟨_, rfl⟩
  obtain ⟨S, hS⟩ : ∃ S, S = w.heap.size := ⟨_, rfl⟩
  have hX : Blk w1 S 23 (bv a).toArray := by rw [hw1, hS]; exact (Blk.new w _ _).alloc _
  have hY : Blk w1 (S + 1) 23 (bv b).toArray := by rw [hw1, hS]; exact Blk.at_ (by simp) _ _
  have hB : Below w.heap.size w w1 := by rw [hw1]; exact ((Below.refl _ _).alloc (Nat.le_refl _) _).alloc (by simp) _
  have hla := box_load hX ha 0
  have hlb := box_load hY hb 0
  have HB := Lib.hid hB
  have HS := Lib.hid hS
  have HW := Lib.hid hw1
  have HCM := Lib.hid (fun u => rcompare_any a b u ha hb)
  have HE : Hid (aheadB x a y b = (decide (x < y) || (decide (x = y) && decide (cmpL a b < 0)))) := Lib.hid rfl
  clear hX hY hB hS hw1 ha hb
  unfold idv
  obtain ⟨c, hc⟩ : ∃ c, c = cmpL a b := ⟨_, rfl⟩
  rw [← hc] at HCM HE
  clear hc
  by_cases h1 : x < y
  · have HE : Hid (aheadB x a y b = true) := Lib.hid (by rw [HE.out, decide_eq_true h1]; rfl)
    go_enter Tryd.func35, Tryd.ntmps35
    go_upto_region 1 with fail
    refine wp_at HW.out.symm ?_
    rw [← HS.out]
    clear HW
    go_wp2_with fail
    go_ret
    exact ⟨by rw [HE.out]; rfl, HB.out⟩
  have xd : decide (x < y) = false := decide_eq_false h1
  by_cases h2 : x = y
  · have e2 : (x == y) = true := beq_iff_eq.2 h2
    have HE : Hid (aheadB x a y b = decide (c < 0)) := Lib.hid (by rw [HE.out, decide_eq_false h1, decide_eq_true h2]; rfl)
    clear h2 h1
    go_enter Tryd.func35, Tryd.ntmps35
    go_upto_region 1 with fail
    refine wp_at HW.out.symm ?_
    rw [← HS.out]
    clear HW
    go_wp2_with (first
      | ((with_reducible refine step_load_w (t := 23) (x := .tmp 5) (p := ?lpla) (v := ?lvla) ?lgla ?lola ?lxla ?lrla ?lhla); (case lola => rfl); (case lgla => rfl); (case lxla => rfl); (case lrla => exact hla))
      | ((with_reducible refine step_load_w (t := 23) (x := .tmp 7) (p := ?lplb) (v := ?lvlb) ?lglb ?lolb ?lxlb ?lrlb ?lhlb); (case lolb => rfl); (case lglb => rfl); (case lxlb => rfl); (case lrlb => exact hlb))
      | (go_at_call 75; (refine (HCM.out _).mono ?_); rintro e w3 ⟨rfl, hb3⟩))
    go_ret
    exact ⟨by rw [HE.out]; simp [xd], HB.out.trans (hb3.mono HB.out.size)⟩
  · have e2 : (x == y) = false := beq_eq_false_iff_ne.2 h2
    have HE : Hid (aheadB x a y b = false) := Lib.hid (by rw [HE.out, decide_eq_false h1, decide_eq_false h2]; rfl)
    clear h2 h1
    go_enter Tryd.func35, Tryd.ntmps35
    go_upto_region 1 with fail
    refine wp_at HW.out.symm ?_
    rw [← HS.out]
    clear HW
    go_wp2_with fail
    go_ret
    exact ⟨by rw [HE.out]; simp [xd], HB.out⟩
end Go.Proofs.YtmaolmogccknbaaDoor.hdr
