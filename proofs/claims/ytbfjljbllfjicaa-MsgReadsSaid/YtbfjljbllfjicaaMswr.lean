/-
  What msg's functions answer; awake.
  The walk of MsgReads, by what msg's functions answer.
-/
import Derived.Test.YtbfjljbllfjicaaMsof
namespace Go.Proofs.Ytbfjljbllfjicaa.msg
open Go.RowKit Go.Proofs.Ytbfjljbllfjicaa.mem Go.Proofs.Ytbfjljbllfjicaa.sha Go.Proofs.Ytbfjljbllfjicaa.ids
open Go.Proofs.Ytbfjljbllfjicaa.opn (b1 b2 b4 num txt idl byte rd rdN rdT rdI rdS rdL St Reads Stays endE zid mkId)

structure MsIs (T : World → Prop) : Prop where
  next : ∀ {w w' : World}, T w → Below w.heap.size w w' → T w'
  check : ∀ (m : Mg) (v : Value) (w : World), T w → RdV w v m.ids → m.body.length ≤ 140737488351232 → Calls Try.prog 10 #[mgv m v] w fun e w' => e = .returned (.int .i64 (checkM m)) ∧ Below w.heap.size w w'
  put : ∀ (m : Mg) (v : Value) (w : World), T w → RdV w v m.ids → m.body.length ≤ 140737488351232 → Calls Try.prog 8 #[mgv m v] w fun e w' => e = .returned (.tuple #[.string (oct.tx (putM m).1), .int .i64 (putM m).2]) ∧ Below w.heap.size w w'
  of : ∀ (s : ByteArray) (w : World), T w → s.size ≤ 281474976710656 → Calls Try.prog 14 #[.string s] w fun e w' => ∃ v, e = .returned (.tuple #[mgv (ofM s.data.toList).1 v, .int .i64 (ofM s.data.toList).2]) ∧ RdV w' v (ofM s.data.toList).1.ids ∧ Below w.heap.size w w'
  same : ∀ (x y : Mg) (vx vy : Value) (w : World), T w → RdV w vx x.ids → RdV w vy y.ids → Calls Try.prog 12 #[mgv x vx, mgv y vy] w fun e w' => e = .returned (.bool (sameM x y)) ∧ Below w.heap.size w w'
theorem rdM_parts (k : Int) (st : St) : (rdM k st).1.body.length ≤ 100000 ∧ (rdM k st).1.ids.length ≤ 255 := by
  unfold rdM
  split
  · refine ⟨Nat.zero_le _, ?_⟩
    show (rdL (rdN 1 st).1.toNat (rdN 1 st).2).1.length ≤ 255
    rw [rdL_len]
    have := opn.rdN1_lt st
    omega
  · exact ⟨rdT2_len st, Nat.zero_le _⟩
theorem of_parts (s : List UInt8) : (ofM s).1.body.length ≤ 100000 ∧ (ofM s).1.ids.length ≤ 255 := by
  have hz : zmg.body.length ≤ 100000 ∧ zmg.ids.length ≤ 255 := ⟨Nat.zero_le _, Nat.zero_le _⟩
  unfold ofM
  repeat' split
  all_goals first | exact hz | exact rdM_parts _ _
/-- a message that was told, held in a block of its own -/
def heldW (w : World) (o : Mg) (v : Value) : World := (w.alloc (.cells #[.int .i64 zmg.k, nv, .string (oct.tx zmg.body)] 24)).setRow w.heap.size #[.int .i64 o.k, v, .string (oct.tx o.body)]
theorem run_hold (w : World) (o : Mg) (v : Value) (hv : v.oneCell' = true) :
    (Instr.storeAt 24 (.pointer (some ⟨w.heap.size, 0, none⟩)) (mgv o v)).run Try.prog (w.alloc (.cells #[.int .i64 zmg.k, nv, .string (oct.tx zmg.body)] 24)) = .ok () (heldW w o v) :=
  run_store_mg (Blk.new w 24 _) rfl o v hv
theorem held_blk (w : World) (o : Mg) (v : Value) : Blk (heldW w o v) w.heap.size 24 #[.int .i64 o.k, v, .string (oct.tx o.body)] := setRow_heap _ _ _ _ _ _ (Blk.new w 24 _)
theorem held_below (w : World) (o : Mg) (v : Value) : Below w.heap.size w (heldW w o v) := below_row' ((Below.refl _ _).alloc (Nat.le_refl _) _) (Nat.le_refl _) _
def askM : Mg := ⟨2, [], []⟩
def payM : Mg := ⟨8, [], [120]⟩
theorem ask_put : putM askM = ([2, 0], 0) := by decide +kernel
theorem pay_of : ofM [8, 0, 1, 120] = (payM, 0) := by
  have h := of_put (m := payM) (by decide +kernel) (fun x hx => by cases hx)
  rw [show enM payM = [8, 0, 1, 120] by decide +kernel] at h
  exact h
set_option maxHeartbeats 4000000 in
set_option maxRecDepth 100000 in
theorem awake_any {T : World → Prop} (hI : MsIs T) (w : World) (hT : T w) : Calls Try.prog 7 #[] w fun e w' => e = .returned (.bool true) ∧ Below w.heap.size w w' := by
  have hp := hI.put askM nv w hT (nv_rd w) (by decide)
  rw [ask_put] at hp
  have ho := fun u (h : T u) => hI.of ⟨#[8, 0, 1, 120]⟩ u h (by decide)
  rw [show (⟨#[8, 0, 1, 120]⟩ : ByteArray).data.toList = [8, 0, 1, 120] from rfl, pay_of] at ho
  have HP := Lib.hid hp
  have HO := Lib.hid ho
  have HI := Lib.hid hI
  have HT := Lib.hid hT
  obtain ⟨s, hs⟩ : ∃ s, s = oct.tx [2, 0] := ⟨_, rfl⟩
  have hsl : (s.toList == [2, 0]) = true := by rw [hs, ByteArray.toList_eq, oct.tx_list]; rfl
  simp only at HP
  rw [← hs] at HP
  clear hI hT hp ho hs
  obtain ⟨b, hb⟩ : ∃ b, b = oct.tx payM.body := ⟨_, rfl⟩
  have hbl : (b.toList == [120]) = true := by rw [hb, ByteArray.toList_eq, oct.tx_list]; rfl
  have HB := Lib.hid (show ∀ v, mgv payM v = .agg #[.int .i64 8, v, .string b] from fun v => by rw [hb]; rfl)
  clear hb
  go_enter Try.func7, Try.ntmps7
  go_wp2_with (first
    | (go_at_call 8; (refine HP.out.mono ?_); rintro e w1 ⟨rfl, hb1⟩)
    | (go_at_call 14; go_loud ((with_reducible refine (HO.out _ (HI.out.next HT.out hb1)).mono ?_); rintro e w2 ⟨v, rfl, hrd2, hb2⟩; rw [HB.out]; have h12 := hb1.trans (hb2.mono hb1.size); obtain ⟨ad, cap, rfl⟩ := hrd2.form; clear hrd2 hb2)))
  go_ret
  exact ⟨rfl, h12.alloc h12.size _⟩
end Go.Proofs.Ytbfjljbllfjicaa.msg

namespace Go.Proofs.Ytbfjljbllfjicaa.msg
open Go.RowKit Go.Proofs.Ytbfjljbllfjicaa.mem Go.Proofs.Ytbfjljbllfjicaa.sha Go.Proofs.Ytbfjljbllfjicaa.ids
open Go.Proofs.Ytbfjljbllfjicaa.opn (b1 b2 b4 num txt idl byte rd rdN rdT rdI rdS rdL St Reads Stays endE zid mkId)

set_option maxHeartbeats 2000000 in
set_option maxRecDepth 100000 in
theorem reads_walk {T : World → Prop} (hI : MsIs T) (s : ByteArray) (w : World) (hT : T w) (hs : s.size ≤ 140737488351232) :
    Calls Try.prog 4 #[.string s] w fun e w' => e = .returned (.bool true) ∧ Below w.heap.size w w' := by
  have HI := Lib.hid hI
  have HT := Lib.hid hT
  by_cases hbig : 3000 < s.size
  · have i1 : (3000 : Int) < (s.size : Int) := by omega
    clear hbig hI hT
    go_enter Try.func4, Try.ntmps4
    go_wp2_with (go_at_call 7; refine (awake_any HI.out _ HT.out).mono ?_; rintro e w2 ⟨rfl, hb2⟩)
    go_ret
    exact ⟨rfl, hb2⟩
  clear hI hT
  have i1 : (s.size : Int) ≤ 3000 := by omega
  have HO := HI.out.of s w HT.out (by omega)
  have HRO := fun u => of_any s u (by omega)
  obtain ⟨q, hqq⟩ : ∃ q, q = (ofM s.data.toList).1 := ⟨_, rfl⟩
  obtain ⟨er, her⟩ : ∃ er, er = (ofM s.data.toList).2 := ⟨_, rfl⟩
  rw [← hqq, ← her] at HO
  simp only [← hqq, ← her] at HRO
  have HO := Lib.hid HO
  have HRO := Lib.hid HRO
  clear hbig hqq her
  go_enter Try.func4, Try.ntmps4
  go_wp2_with (first
    | (go_at_call 14; (with_reducible refine HO.out.mono ?_); rintro e w2 ⟨v, rfl, hrd2, hb2⟩; have hh2 := run_hold w2 q v (rdv_one hrd2); have hk2 := held_blk w2 q v; have hbb2 := held_below w2 q v; obtain ⟨wh2, hwh2⟩ : ∃ wx, wx = heldW w2 q v := ⟨_, rfl⟩; rw [← hwh2] at hh2 hk2 hbb2; clear hwh2)
    | ((with_reducible refine step_store_run (t := 24) (x := .tmp 3) (y := .tmp 14) (p := ?spa) (v := ?sva) (w' := ?swa) ?sga ?soa ?sxa ?sya ?sra ?sha); (case sga => rfl); (case soa => rfl); (case sxa => rfl); (case sya => rfl); (case sra => exact hh2))
    | (go_at_call 15; (with_reducible refine (HRO.out _).mono ?_); rintro e w4 ⟨v4, rfl, hrd4, hb4⟩; have hh4 := run_hold w4 q v4 (rdv_one hrd4); have hk4 := held_blk w4 q v4; have hbb4 := held_below w4 q v4; obtain ⟨wh4, hwh4⟩ : ∃ wx, wx = heldW w4 q v4 := ⟨_, rfl⟩; rw [← hwh4] at hh4 hk4 hbb4; clear hwh4; have b35 := hb4.trans (hbb4.mono hb4.size); have b25 := hbb2.trans (b35.mono hbb2.size); have hA := hk2.below b35 hk2.lt; have hlA := run_load_mg hA; have hlB := run_load_mg hk4; have hsm := same_any q q v v4 wh4 (hrd2.next b25) (hrd4.next hbb4); rw [sameM_refl] at hsm; have HSM := Lib.hid hsm; have HB5 := Lib.hid (hb2.trans (b25.mono hb2.size)); clear hk2 hbb2 hk4 hbb4 hrd2 hrd4 b35 b25 hA hsm hb2 hb4)
    | ((with_reducible refine step_store_run (t := 24) (x := .tmp 5) (y := .tmp 19) (p := ?spb) (v := ?svb) (w' := ?swb) ?sgb ?sob ?sxb ?syb ?srb ?shb); (case sgb => rfl); (case sob => rfl); (case sxb => rfl); (case syb => rfl); (case srb => exact hh4))
    | ((with_reducible refine step_load_w (t := 24) (x := .tmp 3) (p := ?lpla) (v := ?lvla) ?lgla ?lola ?lxla ?lrla ?lhla); (case lola => rfl); (case lgla => rfl); (case lxla => rfl); (case lrla => exact hlA))
    | ((with_reducible refine step_load_w (t := 24) (x := .tmp 5) (p := ?lplb) (v := ?lvlb) ?lglb ?lolb ?lxlb ?lrlb ?lhlb); (case lolb => rfl); (case lglb => rfl); (case lxlb => rfl); (case lrlb => exact hlB))
    | (go_at_call 13; (with_reducible refine HSM.out.mono ?_); rintro e w6 ⟨rfl, hb6⟩; have b06 := HB5.out.trans (hb6.mono HB5.out.size))
    | (go_at_call 7; refine (awake_any HI.out _ (HI.out.next HT.out b06)).mono ?_; rintro e w7 ⟨rfl, hb7⟩))
  go_ret
  exact ⟨rfl, b06.trans (hb7.mono b06.size)⟩
end Go.Proofs.Ytbfjljbllfjicaa.msg
