/-
  What op's functions answer; awake.
  What follows of Check, Put and Of.
-/
import Derived.Test.YtmaolmogccknbaaDoorOpof
import Derived.Test.YtmaolmogccknbaaDoorOpsm
namespace Go.Proofs.YtmaolmogccknbaaDoor.opn
open Go.RowKit Go.Proofs.YtmaolmogccknbaaDoor.mem Go.Proofs.YtmaolmogccknbaaDoor.sha Go.Proofs.YtmaolmogccknbaaDoor.ids

structure OpIs (T : World → Prop) : Prop where
  next : ∀ {w w' : World}, T w → Below w.heap.size w w' → T w'
  check : ∀ (o : Opn) (v : Value) (w : World), T w → o.ref.length = 32 → RdV w v o.refs → o.refs.length ≤ 1000 → Calls Tryd.prog 14 #[opv o v] w fun e w' => e = .returned (.int .i64 (check rise o)) ∧ Below w.heap.size w w'
  put : ∀ (o : Opn) (v : Value) (w : World), T w → o.ref.length = 32 → RdV w v o.refs → o.refs.length ≤ 1000 → Calls Tryd.prog 12 #[opv o v] w fun e w' => e = .returned (.tuple #[.string (oct.tx (put rise o).1), .int .i64 (put rise o).2]) ∧ Below w.heap.size w w'
  of : ∀ (s : ByteArray) (w : World), T w → s.size ≤ 281474976710656 → Calls Tryd.prog 20 #[.string s] w fun e w' => ∃ v, e = .returned (.tuple #[opv (ofL rise s.data.toList).1 v, .int .i64 (ofL rise s.data.toList).2]) ∧ RdV w' v (ofL rise s.data.toList).1.refs ∧ Below w.heap.size w w'
  belongs : ∀ (k : Int) (w : World), T w → Calls Tryd.prog 18 #[.int .i64 k] w fun e w' => e = .returned (.int .i64 (belongs k)) ∧ Below w.heap.size w w'
  same : ∀ (x y : Opn) (vx vy : Value) (w : World), T w → x.ref.length = 32 → y.ref.length = 32 → RdV w vx x.refs → RdV w vy y.refs → Calls Tryd.prog 16 #[opv x vx, opv y vy] w fun e w' => e = .returned (.bool (sameO x y)) ∧ Below w.heap.size w w'

theorem rdv_one {w : World} {v : Value} {L : List Id} (h : RdV w v L) : v.oneCell' = true := by
  obtain ⟨ad, cap, hv⟩ := h.form
  rw [hv]; rfl
theorem of_ref (s : List UInt8) : (ofL rise s).1.ref.length = 32 := by
  unfold ofL
  try simp only
  repeat' split
  all_goals first | exact zid_len | exact parts_ref _ (kop_ref _) _
theorem of_refs (s : List UInt8) : (ofL rise s).1.refs.length ≤ 255 := by
  unfold ofL
  try simp only
  repeat' split
  all_goals first | exact Nat.zero_le _ | exact parts_refs _ (o := kop _) (Nat.zero_le _) _
/-- an operation that was told, held in a block of its own -/
def heldW (w : World) (o : Opn) (v : Value) : World := (w.alloc (.cells (opc zop nv).toArray 26)).setRow w.heap.size (opc o v).toArray
theorem run_hold (w : World) (o : Opn) (v : Value) (hr : o.ref.length = 32) (hv : v.oneCell' = true) :
    (Instr.storeAt 26 (.pointer (some ⟨w.heap.size, 0, none⟩)) (opv o v)).run Tryd.prog (w.alloc (.cells (opc zop nv).toArray 26)) = .ok () (heldW w o v) :=
  run_store_op (Blk.new w 26 (opc zop nv).toArray) (opc_size _ _ zid_len) o v hr hv
theorem held_blk (w : World) (o : Opn) (v : Value) : Blk (heldW w o v) w.heap.size 26 (opc o v).toArray := setRow_heap _ _ _ _ _ _ (Blk.new w 26 (opc zop nv).toArray)
theorem held_below (w : World) (o : Opn) (v : Value) : Below w.heap.size w (heldW w o v) := below_row' ((Below.refl _ _).alloc (Nat.le_refl _) _) (Nat.le_refl _) _

def incO : Opn := ⟨1, 1, [], [], zid, []⟩
def incB : List UInt8 := [1, 128, 0, 0, 1]
theorem inc_put : put rise incO = (incB, 0) := by decide +kernel
theorem inc_of : ofL rise incB = (incO, 0) := by
  have h := there (rise := rise) (o := incO) (by decide +kernel) (fits_of (rise := rise) (by decide +kernel) zid_len (fun x hx => by cases hx) (.inl (by decide)))
  rw [show b1 incO.k ++ encs incO (has incO.k) = incB by decide +kernel] at h
  exact h
theorem run_build_inc (w : World) : (Instr.build 26 #[(0, .int .i64 1), (1, .int .i64 1)]).run Tryd.prog w = .ok (opv incO nv) w := by kernel_rfl
theorem nv_rd (w : World) : RdV w nv [] := (OwnI.nil w (fun _ => True)).rdv (by decide) |>.1

set_option maxHeartbeats 2000000 in
set_option maxRecDepth 100000 in
theorem awake_any {T : World → Prop} (hI : OpIs T) (w : World) (hT : T w) : Calls Tryd.prog 11 #[] w fun e w' => e = .returned (.bool true) ∧ Below w.heap.size w w' := by
  have hp := hI.put incO nv w hT zid_len (nv_rd w) (by decide)
  rw [inc_put] at hp
  have HP := Lib.hid hp
  have HI := Lib.hid hI
  have HT := Lib.hid hT
  obtain ⟨s, hs⟩ : ∃ s, s = oct.tx incB := ⟨_, rfl⟩
  have hsl : (s.toList == [1, 128, 0, 0, 1]) = true := by rw [hs, ByteArray.toList_eq, oct.tx_list]; rfl
  have HS := Lib.hid hs
  simp only at HP
  rw [← hs] at HP
  clear hI hT hp hs
  go_enter Tryd.func11, Tryd.ntmps11
  go_wp2_with (first
    | ((with_reducible refine step_build (t := 26) (parts := #[(0, .const (.int .i64 1)), (1, .const (.int .i64 1))]) (ps := #[(0, .int .i64 1), (1, .int .i64 1)]) (v := ?bvb1) ?bgb1 ?bob1 ?bxb1 ?brb1 ?bhb1); (case bgb1 => rfl); (case bob1 => rfl); (case bxb1 => (first | rfl | simp)); (case brb1 => exact run_build_inc _))
    | (go_at_call 12; refine HP.out.mono ?_; go_loud (rintro e w1 ⟨rfl, hb1⟩; have HO := HI.out.of s w1 (HI.out.next HT.out hb1) (by rw [HS.out, oct.tx_size]; decide); rw [HS.out, oct.tx_list, inc_of, ← HS.out] at HO; have HO := Lib.hid HO))
    | (go_at_call 20; (with_reducible refine HO.out.mono ?_); go_loud (rintro e w2 ⟨v, rfl, hrd2, hb2⟩; have hh2 := run_hold w2 incO v zid_len (rdv_one hrd2); have hk2 := held_blk w2 incO v; have c1 := (OpBlk.of hk2 zid_len).n; have hbb := held_below w2 incO v; have HBB := Lib.hid ((hb1.trans (hb2.mono hb1.size)).trans (hbb.mono (Nat.le_trans hb1.size hb2.size))); obtain ⟨w3, hw3⟩ : ∃ w3, w3 = heldW w2 incO v := ⟨_, rfl⟩; rw [← hw3] at hh2 c1 HBB; clear hrd2 hb2 hk2 hbb hw3))
    | ((with_reducible refine step_store_run (t := 26) (x := .tmp 3) (y := .tmp 13) (p := ?sps1) (v := ?svs1) (w' := ?sws1) ?sgs1 ?sos1 ?sxs1 ?sys1 ?srs1 ?shs1); (case sgs1 => rfl); (case sos1 => rfl); (case sxs1 => rfl); (case sys1 => rfl); (case srs1 => exact hh2)))
  go_ret
  exact ⟨rfl, HBB.out⟩
end Go.Proofs.YtmaolmogccknbaaDoor.opn

namespace Go.Proofs.YtmaolmogccknbaaDoor.opn
open Go.RowKit Go.Proofs.YtmaolmogccknbaaDoor.mem Go.Proofs.YtmaolmogccknbaaDoor.sha Go.Proofs.YtmaolmogccknbaaDoor.ids

/-- the bytes of one -/
def enB (o : Opn) : List UInt8 := b1 o.k ++ encs o (has o.k)
theorem put_ok {o : Opn} (h : check rise o = 0) : put rise o = (enB o, 0) := by unfold put; rw [if_neg (by rw [h]; simp)]; rfl
theorem put_no {o : Opn} (h : check rise o ≠ 0) : put rise o = ([], check rise o) := by unfold put; rw [if_pos h]
theorem fits_ok {o : Opn} (h : check rise o = 0) (hr : o.ref.length = 32) (hs : okIds o.refs) : Fits o := by
  refine fits_of h hr hs ?_
  by_cases hN : Part.N ∈ has o.k
  · exact .inl hN
  · exact .inr ((check_parts h).2.1 hN)
theorem of_put {o : Opn} (h : check rise o = 0) (hr : o.ref.length = 32) (hs : okIds o.refs) : ofL rise (enB o) = (o, 0) := there h (fits_ok h hr hs)
theorem of_short {o : Opn} (h : check rise o = 0) (hr : o.ref.length = 32) (hs : okIds o.refs) (m : Nat) (hm : m < (enB o).length) : ofL rise ((enB o).take m) = (zop, 2) := short h (fits_ok h hr hs) m hm
theorem of_behind {o : Opn} (h : check rise o = 0) (hr : o.ref.length = 32) (hs : okIds o.refs) (t : List UInt8) (ht : t ≠ []) : ofL rise (enB o ++ t) = (zop, 4) := behind h (fits_ok h hr hs) t ht
theorem txt_len {l : List UInt8} (h : l.length ≤ 16) : (txt l).length ≤ 17 := by
  unfold txt; rw [List.length_append, b1_len]; omega
theorem idl_len {L : List Id} (h : okIds L) (hl : L.length ≤ 8) : (idl L).length ≤ 257 := by
  unfold idl; rw [List.length_append, b1_len, flat_len h]; omega
theorem en_len {o : Opn} (h : check rise o = 0) (hr : o.ref.length = 32) (hs : okIds o.refs) : (enB o).length ≤ 400 ∧ 0 < (enB o).length := by
  obtain ⟨h0, _, _, _, _, _, hk, hv, _, _, _, hl, _⟩ := check_parts h
  have a := txt_len hk
  have b := txt_len hv
  have c := idl_len hs hl
  have hkk := kind_of h0
  have e1 : (enc o .N).length = 4 := rfl
  have e2 : (enc o .K).length ≤ 17 := a
  have e3 : (enc o .V).length ≤ 17 := b
  have e4 : (enc o .R).length = 32 := hr
  have e5 : (enc o .S).length ≤ 257 := c
  have e0 : (enB o).length = 1 + (encs o (has o.k)).length := by unfold enB; rw [List.length_append, b1_len]
  have hcons : ∀ p ps, (encs o (p :: ps)).length = (enc o p).length + (encs o ps).length := fun p ps => by
    have e : encs o (p :: ps) = enc o p ++ encs o ps := by simp [encs]
    rw [e, List.length_append]
  have hnil : (encs o []).length = 0 := rfl
  rw [e0]
  rcases hkk with e | e | e | e | e | e | e <;> rw [e] <;> simp only [has, if_true, show ∀ a b : Int, (a = b) = (a = b) from fun _ _ => rfl] <;> simp [hcons, hnil] <;> omega
theorem belongs_ne {o : Opn} (h : check rise o = 0) : belongs o.k ≠ 0 := by
  have hkk := kind_of (check_parts h).1
  rcases hkk with e | e | e | e | e | e | e <;> rw [e] <;> decide
theorem of_err {s : List UInt8} {q : Opn} {e : Int} (h : ofL rise s = (q, e)) (he : e ≠ 0) : q = zop := of_zero h he
theorem of_back {s : List UInt8} {q : Opn} (h : ofL rise s = (q, 0)) : check rise q = 0 ∧ s = enB q := back h
end Go.Proofs.YtmaolmogccknbaaDoor.opn
