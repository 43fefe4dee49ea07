/-
  What op's functions answer; awake.
  The walk of OpReads, by what op's functions answer.
-/
import Derived.Test.YtmaolmogccknbaaDoorOpof
import Derived.Test.YtmaolmogccknbaaDoorOpsm
namespace Go.Proofs.YtmaolmogccknbaaDoor.opn
open Go.RowKit Go.Proofs.YtmaolmogccknbaaDoor.mem Go.Proofs.YtmaolmogccknbaaDoor.sha Go.Proofs.YtmaolmogccknbaaDoor.ids

structure OpIs (T : World → Prop) : Prop where
  next : ∀ {w w' : World}, T w → Below w.heap.size w w' → T w'
  check : ∀ (o : Opn) (v : Value) (w : World), T w → o.ref.length = 32 → RdV w v o.refs → o.refs.length ≤ 1000 → Calls Tryd.prog 14 #[opv o v] w fun e w' => e = .returned (.int .i64 (check rise o)) ∧ Below w.heap.size w w'
  put : ∀ (o : Opn) (v : Value) (w : World), T w → o.ref.length = 32 → RdV w v o.refs → o.refs.length ≤ 1000 → Calls Tryd.prog 12 #[opv o v] w fun e w' => e = .returned (.tuple #[.string (oct.tx (put rise o).1), .int .i64 (put rise o).2]) ∧ Below w.heap.size w w'
  of : ∀ (s : ByteArray) (w : World), T w → s.size ≤ 281474976710656 → Calls Tryd.prog 20 #[.string s] w fun e w' => ∃ v, e = .returned (.tuple #[opv (ofL rise s.data.toList).1 v, .int .i64 (ofL rise s.data.toList).2]) ∧ RdV w' v (ofL rise s.data.toList).1.refs ∧ Below w.heap.size w w'
  belongs : ∀ (k : Int) (w : World), T w → Calls Tryd.prog 18 #[.int .i64 k] w fun e w' => e = .returned (.int .i64 (belongs k)) ∧ Below w.heap.size w w'
  same : ∀ (x y : Opn) (vx vy : Value) (w : World), T w → x.ref.length = 32 → y.ref.length = 32 → RdV w vx x.refs → RdV w vy y.refs → Calls Tryd.prog 16 #[opv x vx, opv y vy] w fun e w' => e = .returned (.bool (sameO x y)) ∧ Below w.heap.size w w'

theorem rdv_one {w : World} {v : Value} {L : List Id} (h : RdV w v L) : v.oneCell' = true := by
  obtain ⟨ad, cap, hv⟩ := h.form
  rw [hv]; rfl
theorem of_ref (s : List UInt8) : (ofL rise s).1.ref.length = 32 := by
  unfold ofL
  try simp only
  repeat' split
  all_goals first | exact zid_len | exact parts_ref _ (kop_ref _) _
theorem of_refs (s : List UInt8) : (ofL rise s).1.refs.length ≤ 255 := by
  unfold ofL
  try simp only
  repeat' split
  all_goals first | exact Nat.zero_le _ | exact parts_refs _ (o := kop _) (Nat.zero_le _) _
/-- an operation that was told, held in a block of its own -/
def heldW (w : World) (o : Opn) (v : Value) : World := (w.alloc (.cells (opc zop nv).toArray 26)).setRow w.heap.size (opc o v).toArray
theorem run_hold (w : World) (o : Opn) (v : Value) (hr : o.ref.length = 32) (hv : v.oneCell' = true) :
    (Instr.storeAt 26 (.pointer (some ⟨w.heap.size, 0, none⟩)) (opv o v)).run Tryd.prog (w.alloc (.cells (opc zop nv).toArray 26)) = .ok () (heldW w o v) :=
  run_store_op (Blk.new w 26 (opc zop nv).toArray) (opc_size _ _ zid_len) o v hr hv
theorem held_blk (w : World) (o : Opn) (v : Value) : Blk (heldW w o v) w.heap.size 26 (opc o v).toArray := setRow_heap _ _ _ _ _ _ (Blk.new w 26 (opc zop nv).toArray)
theorem held_below (w : World) (o : Opn) (v : Value) : Below w.heap.size w (heldW w o v) := below_row' ((Below.refl _ _).alloc (Nat.le_refl _) _) (Nat.le_refl _) _

def incO : Opn := ⟨1, 1, [], [], zid, []⟩
def incB : List UInt8 := [1, 128, 0, 0, 1]
theorem inc_put : put rise incO = (incB, 0) := by decide +kernel
theorem inc_of : ofL rise incB = (incO, 0) := by
  have h := there (rise := rise) (o := incO) (by decide +kernel) (fits_of (rise := rise) (by decide +kernel) zid_len (fun x hx => by cases hx) (.inl (by decide)))
  rw [show b1 incO.k ++ encs incO (has incO.k) = incB by decide +kernel] at h
  exact h
theorem run_build_inc (w : World) : (Instr.build 26 #[(0, .int .i64 1), (1, .int .i64 1)]).run Tryd.prog w = .ok (opv incO nv) w := by kernel_rfl
theorem nv_rd (w : World) : RdV w nv [] := (OwnI.nil w (fun _ => True)).rdv (by decide) |>.1

set_option maxHeartbeats 2000000 in
set_option maxRecDepth 100000 in
theorem awake_any {T : World → Prop} (hI : OpIs T) (w : World) (hT : T w) : Calls Tryd.prog 11 #[] w fun e w' => e = .returned (.bool true) ∧ Below w.heap.size w w' := by
  have hp := hI.put incO nv w hT zid_len (nv_rd w) (by decide)
  rw [inc_put] at hp
  have HP := Lib.hid hp
  have HI := Lib.hid hI
  have HT := Lib.hid hT
  obtain ⟨s, hs⟩ : ∃ s, s = oct.tx incB := ⟨_, rfl⟩
  have hsl : (s.toList == [1, 128, 0, 0, 1]) = true := by rw [hs, ByteArray.toList_eq, oct.tx_list]; rfl
  have HS := Lib.hid hs
  simp only at HP
  rw [← hs] at HP
  clear hI hT hp hs
  go_enter Tryd.func11, Tryd.ntmps11
  go_wp2_with (first
    | ((with_reducible refine step_build (t := 26) (parts := #[(0, .const (.int .i64 1)), (1, .const (.int .i64 1))]) (ps := #[(0, .int .i64 1), (1, .int .i64 1)]) (v := ?bvb1) ?bgb1 ?bob1 ?bxb1 ?brb1 ?bhb1); (case bgb1 => rfl); (case bob1 => rfl); (case bxb1 => (first | rfl | simp)); (case brb1 => exact run_build_inc _))
    | (go_at_call 12; refine HP.out.mono ?_; go_loud (rintro e w1 ⟨rfl, hb1⟩; have HO := HI.out.of s w1 (HI.out.next HT.out hb1) (by rw [HS.out, oct.tx_size]; decide); rw [HS.out, oct.tx_list, inc_of, ← HS.out] at HO; have HO := Lib.hid HO))
    | (go_at_call 20; (with_reducible refine HO.out.mono ?_); go_loud (rintro e w2 ⟨v, rfl, hrd2, hb2⟩; have hh2 := run_hold w2 incO v zid_len (rdv_one hrd2); have hk2 := held_blk w2 incO v; have c1 := (OpBlk.of hk2 zid_len).n; have hbb := held_below w2 incO v; have HBB := Lib.hid ((hb1.trans (hb2.mono hb1.size)).trans (hbb.mono (Nat.le_trans hb1.size hb2.size))); obtain ⟨w3, hw3⟩ : ∃ w3, w3 = heldW w2 incO v := ⟨_, rfl⟩; rw [← hw3] at hh2 c1 HBB; clear hrd2 hb2 hk2 hbb hw3))
    | ((with_reducible refine step_store_run (t := 26) (x := .tmp 3) (y := .tmp 13) (p := ?sps1) (v := ?svs1) (w' := ?sws1) ?sgs1 ?sos1 ?sxs1 ?sys1 ?srs1 ?shs1); (case sgs1 => rfl); (case sos1 => rfl); (case sxs1 => rfl); (case sys1 => rfl); (case srs1 => exact hh2)))
  go_ret
  exact ⟨rfl, HBB.out⟩
end Go.Proofs.YtmaolmogccknbaaDoor.opn

namespace Go.Proofs.YtmaolmogccknbaaDoor.opn
open Go.RowKit Go.Proofs.YtmaolmogccknbaaDoor.mem Go.Proofs.YtmaolmogccknbaaDoor.sha Go.Proofs.YtmaolmogccknbaaDoor.ids

theorem sameO_refl (o : Opn) : sameO o o = true := (sameO_iff o o).2 rfl
set_option maxHeartbeats 2000000 in
set_option maxRecDepth 100000 in
theorem reads_walk {T : World → Prop} (hI : OpIs T) (s : ByteArray) (w : World) (hT : T w) (hs : s.size ≤ 140737488351232) :
    Calls Tryd.prog 4 #[.string s] w fun e w' => e = .returned (.bool true) ∧ Below w.heap.size w w' := by
  have HI := Lib.hid hI
  have HT := Lib.hid hT
  clear hI hT
  by_cases hbig : 2000 < s.size
  · have i1 : (2000 : Int) < (s.size : Int) := by omega
    clear hbig
    go_enter Tryd.func4, Tryd.ntmps4
    go_wp2_with ((go_at_call 11; refine (awake_any HI.out _ HT.out).mono ?_; rintro e w1 ⟨rfl, hb1⟩))
    go_ret
    exact ⟨rfl, hb1⟩
  have i1 : (s.size : Int) ≤ 2000 := by omega
  have HS := Lib.hid hbig
  have hq := of_ref s.data.toList
  have HO := HI.out.of s w HT.out (by omega)
  have HRO := fun u => of_any s u (by omega)
  obtain ⟨q, hqq⟩ : ∃ q, q = (ofL rise s.data.toList).1 := ⟨_, rfl⟩
  obtain ⟨er, her⟩ : ∃ er, er = (ofL rise s.data.toList).2 := ⟨_, rfl⟩
  rw [← hqq] at hq
  rw [← hqq, ← her] at HO
  simp only [← hqq, ← her] at HRO
  have HQ := Lib.hid hq
  have HO := Lib.hid HO
  have HRO := Lib.hid HRO
  clear hbig hq hqq her
  go_enter Tryd.func4, Tryd.ntmps4
  go_wp2_with (first
    | (go_at_call 20; (with_reducible refine HO.out.mono ?_); rintro e w2 ⟨v, rfl, hrd2, hb2⟩; have hh2 := run_hold w2 q v HQ.out (rdv_one hrd2); have hk2 := held_blk w2 q v; have hbb2 := held_below w2 q v; obtain ⟨w3, hw3⟩ : ∃ w3, w3 = heldW w2 q v := ⟨_, rfl⟩; rw [← hw3] at hh2 hk2 hbb2; clear hw3)
    | ((with_reducible refine step_store_run (t := 26) (x := .tmp 3) (y := .tmp 14) (p := ?spa) (v := ?sva) (w' := ?swa) ?sga ?soa ?sxa ?sya ?sra ?sha); (case sga => rfl); (case soa => rfl); (case sxa => rfl); (case sya => rfl); (case sra => exact hh2))
    | (go_at_call 21; (with_reducible refine (HRO.out _).mono ?_); rintro e w4 ⟨v4, rfl, hrd4, hb4⟩; have hh4 := run_hold w4 q v4 HQ.out (rdv_one hrd4); have hk4 := held_blk w4 q v4; have hbb4 := held_below w4 q v4; obtain ⟨w5, hw5⟩ : ∃ w5, w5 = heldW w4 q v4 := ⟨_, rfl⟩; rw [← hw5] at hh4 hk4 hbb4; have b35 := hb4.trans (hbb4.mono hb4.size); have b25 := hbb2.trans (b35.mono hbb2.size); have hA := hk2.below b35 hk2.lt; have hlA := run_load_op hA HQ.out; have hlB := run_load_op hk4 HQ.out; have hsm := same_any q q v v4 w5 HQ.out HQ.out (hrd2.next b25) (hrd4.next hbb4); rw [sameO_refl] at hsm; have HSM := Lib.hid hsm; have HB5 := Lib.hid (hb2.trans (b25.mono hb2.size)); clear hk2 hbb2 hk4 hbb4 hrd2 hrd4 b35 b25 hA hsm hb2 hb4 hw5)
    | ((with_reducible refine step_store_run (t := 26) (x := .tmp 5) (y := .tmp 19) (p := ?spb) (v := ?svb) (w' := ?swb) ?sgb ?sob ?sxb ?syb ?srb ?shb); (case sgb => rfl); (case sob => rfl); (case sxb => rfl); (case syb => rfl); (case srb => exact hh4))
    | ((with_reducible refine step_load_w (t := 26) (x := .tmp 3) (p := ?lpla) (v := ?lvla) ?lgla ?lola ?lxla ?lrla ?lhla); (case lola => rfl); (case lgla => rfl); (case lxla => rfl); (case lrla => exact hlA))
    | ((with_reducible refine step_load_w (t := 26) (x := .tmp 5) (p := ?lplb) (v := ?lvlb) ?lglb ?lolb ?lxlb ?lrlb ?lhlb); (case lolb => rfl); (case lglb => rfl); (case lxlb => rfl); (case lrlb => exact hlB))
    | (go_at_call 17; (with_reducible refine HSM.out.mono ?_); rintro e w6 ⟨rfl, hb6⟩; have b06 := HB5.out.trans (hb6.mono HB5.out.size))
    | (go_at_call 11; refine (awake_any HI.out _ (HI.out.next HT.out b06)).mono ?_; rintro e w7 ⟨rfl, hb7⟩))
  go_ret
  exact ⟨rfl, b06.trans (hb7.mono b06.size)⟩
end Go.Proofs.YtmaolmogccknbaaDoor.opn
