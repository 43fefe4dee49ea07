/-
  What msg's functions answer; awake.
-/
import Derived.Test.YtbfjljbllfjicaaMsof
namespace Go.Proofs.Ytbfjljbllfjicaa.msg
open Go.RowKit Go.Proofs.Ytbfjljbllfjicaa.mem Go.Proofs.Ytbfjljbllfjicaa.sha Go.Proofs.Ytbfjljbllfjicaa.ids
open Go.Proofs.Ytbfjljbllfjicaa.opn (b1 b2 b4 num txt idl byte rd rdN rdT rdI rdS rdL St Reads Stays endE zid mkId)

structure MsIs (T : World → Prop) : Prop where
  next : ∀ {w w' : World}, T w → Below w.heap.size w w' → T w'
  check : ∀ (m : Mg) (v : Value) (w : World), T w → RdV w v m.ids → m.body.length ≤ 140737488351232 → Calls Try.prog 10 #[mgv m v] w fun e w' => e = .returned (.int .i64 (checkM m)) ∧ Below w.heap.size w w'
  put : ∀ (m : Mg) (v : Value) (w : World), T w → RdV w v m.ids → m.body.length ≤ 140737488351232 → Calls Try.prog 8 #[mgv m v] w fun e w' => e = .returned (.tuple #[.string (oct.tx (putM m).1), .int .i64 (putM m).2]) ∧ Below w.heap.size w w'
  of : ∀ (s : ByteArray) (w : World), T w → s.size ≤ 281474976710656 → Calls Try.prog 14 #[.string s] w fun e w' => ∃ v, e = .returned (.tuple #[mgv (ofM s.data.toList).1 v, .int .i64 (ofM s.data.toList).2]) ∧ RdV w' v (ofM s.data.toList).1.ids ∧ Below w.heap.size w w'
  same : ∀ (x y : Mg) (vx vy : Value) (w : World), T w → RdV w vx x.ids → RdV w vy y.ids → Calls Try.prog 12 #[mgv x vx, mgv y vy] w fun e w' => e = .returned (.bool (sameM x y)) ∧ Below w.heap.size w w'
theorem rdM_parts (k : Int) (st : St) : (rdM k st).1.body.length ≤ 100000 ∧ (rdM k st).1.ids.length ≤ 255 := by
  unfold rdM
  split
  · refine ⟨Nat.zero_le _, ?_⟩
    show (rdL (rdN 1 st).1.toNat (rdN 1 st).2).1.length ≤ 255
    rw [rdL_len]
    have := opn.rdN1_lt st
    omega
  · exact ⟨rdT2_len st, Nat.zero_le _⟩
theorem of_parts (s : List UInt8) : (ofM s).1.body.length ≤ 100000 ∧ (ofM s).1.ids.length ≤ 255 := by
  have hz : zmg.body.length ≤ 100000 ∧ zmg.ids.length ≤ 255 := ⟨Nat.zero_le _, Nat.zero_le _⟩
  unfold ofM
  repeat' split
  all_goals first | exact hz | exact rdM_parts _ _
/-- a message that was told, held in a block of its own -/
def heldW (w : World) (o : Mg) (v : Value) : World := (w.alloc (.cells #[.int .i64 zmg.k, nv, .string (oct.tx zmg.body)] 24)).setRow w.heap.size #[.int .i64 o.k, v, .string (oct.tx o.body)]
theorem run_hold (w : World) (o : Mg) (v : Value) (hv : v.oneCell' = true) :
    (Instr.storeAt 24 (.pointer (some ⟨w.heap.size, 0, none⟩)) (mgv o v)).run Try.prog (w.alloc (.cells #[.int .i64 zmg.k, nv, .string (oct.tx zmg.body)] 24)) = .ok () (heldW w o v) :=
  run_store_mg (Blk.new w 24 _) rfl o v hv
theorem held_blk (w : World) (o : Mg) (v : Value) : Blk (heldW w o v) w.heap.size 24 #[.int .i64 o.k, v, .string (oct.tx o.body)] := setRow_heap _ _ _ _ _ _ (Blk.new w 24 _)
theorem held_below (w : World) (o : Mg) (v : Value) : Below w.heap.size w (heldW w o v) := below_row' ((Below.refl _ _).alloc (Nat.le_refl _) _) (Nat.le_refl _) _
def askM : Mg := ⟨2, [], []⟩
def payM : Mg := ⟨8, [], [120]⟩
theorem ask_put : putM askM = ([2, 0], 0) := by decide +kernel
theorem pay_of : ofM [8, 0, 1, 120] = (payM, 0) := by
  have h := of_put (m := payM) (by decide +kernel) (fun x hx => by cases hx)
  rw [show enM payM = [8, 0, 1, 120] by decide +kernel] at h
  exact h
set_option maxHeartbeats 4000000 in
set_option maxRecDepth 100000 in
theorem awake_any {T : World → Prop} (hI : MsIs T) (w : World) (hT : T w) : Calls Try.prog 7 #[] w fun e w' => e = .returned (.bool true) ∧ Below w.heap.size w w' := by
  have hp := hI.put askM nv w hT (nv_rd w) (by decide)
  rw [ask_put] at hp
  have ho := fun u (h : T u) => hI.of ⟨#[8, 0, 1, 120]⟩ u h (by decide)
  rw [show (⟨#[8, 0, 1, 120]⟩ : ByteArray).data.toList = [8, 0, 1, 120] from rfl, pay_of] at ho
  have HP := Lib.hid hp
  have HO := Lib.hid ho
  have HI := Lib.hid hI
  have HT := Lib.hid hT
  obtain ⟨s, hs⟩ : ∃ s, s = oct.tx [2, 0] := ⟨_, rfl⟩
  have hsl : (s.toList == [2, 0]) = true := by rw [hs, ByteArray.toList_eq, oct.tx_list]; rfl
  simp only at HP
  rw [← hs] at HP
  clear hI hT hp ho hs
  obtain ⟨b, hb⟩ : ∃ b, b = oct.tx payM.body := ⟨_, rfl⟩
  have hbl : (b.toList == [120]) = true := by rw [hb, ByteArray.toList_eq, oct.tx_list]; rfl
  have HB := Lib.hid (show ∀ v, mgv payM v = .agg #[.int .i64 8, v, .string b] from fun v => by rw [hb]; rfl)
  clear hb
  go_enter Try.func7, Try.ntmps7
  go_wp2_with (first
    | (go_at_call 8; (refine HP.out.mono ?_); rintro e w1 ⟨rfl, hb1⟩)
    | (go_at_call 14; go_loud ((with_reducible refine (HO.out _ (HI.out.next HT.out hb1)).mono ?_); rintro e w2 ⟨v, rfl, hrd2, hb2⟩; rw [HB.out]; have h12 := hb1.trans (hb2.mono hb1.size); obtain ⟨ad, cap, rfl⟩ := hrd2.form; clear hrd2 hb2)))
  go_ret
  exact ⟨rfl, h12.alloc h12.size _⟩
end Go.Proofs.Ytbfjljbllfjicaa.msg
