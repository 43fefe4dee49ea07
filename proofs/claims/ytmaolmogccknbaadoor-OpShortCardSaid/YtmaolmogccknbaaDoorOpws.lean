/-
  What op's functions answer; awake.
  What follows of Check, Put and Of.
  The walk of OpShort, by what op's functions answer.
-/
import Derived.Test.YtmaolmogccknbaaDoorOpof
import Derived.Test.YtmaolmogccknbaaDoorOpsm
import Derived.Test.YtmaolmogccknbaaDoorRdn
namespace Go.Proofs.YtmaolmogccknbaaDoor.opn
open Go.RowKit Go.Proofs.YtmaolmogccknbaaDoor.mem Go.Proofs.YtmaolmogccknbaaDoor.sha Go.Proofs.YtmaolmogccknbaaDoor.ids

structure OpIs (T : World → Prop) : Prop where
  next : ∀ {w w' : World}, T w → Below w.heap.size w w' → T w'
  check : ∀ (o : Opn) (v : Value) (w : World), T w → o.ref.length = 32 → RdV w v o.refs → o.refs.length ≤ 1000 → Calls Tryd.prog 14 #[opv o v] w fun e w' => e = .returned (.int .i64 (check rise o)) ∧ Below w.heap.size w w'
  put : ∀ (o : Opn) (v : Value) (w : World), T w → o.ref.length = 32 → RdV w v o.refs → o.refs.length ≤ 1000 → Calls Tryd.prog 12 #[opv o v] w fun e w' => e = .returned (.tuple #[.string (oct.tx (put rise o).1), .int .i64 (put rise o).2]) ∧ Below w.heap.size w w'
  of : ∀ (s : ByteArray) (w : World), T w → s.size ≤ 281474976710656 → Calls Tryd.prog 20 #[.string s] w fun e w' => ∃ v, e = .returned (.tuple #[opv (ofL rise s.data.toList).1 v, .int .i64 (ofL rise s.data.toList).2]) ∧ RdV w' v (ofL rise s.data.toList).1.refs ∧ Below w.heap.size w w'
  belongs : ∀ (k : Int) (w : World), T w → Calls Tryd.prog 18 #[.int .i64 k] w fun e w' => e = .returned (.int .i64 (belongs k)) ∧ Below w.heap.size w w'
  same : ∀ (x y : Opn) (vx vy : Value) (w : World), T w → x.ref.length = 32 → y.ref.length = 32 → RdV w vx x.refs → RdV w vy y.refs → Calls Tryd.prog 16 #[opv x vx, opv y vy] w fun e w' => e = .returned (.bool (sameO x y)) ∧ Below w.heap.size w w'

theorem rdv_one {w : World} {v : Value} {L : List Id} (h : RdV w v L) : v.oneCell' = true := by
  obtain ⟨ad, cap, hv⟩ := h.form
  rw [hv]; rfl
theorem of_ref (s : List UInt8) : (ofL rise s).1.ref.length = 32 := by
  unfold ofL
  try simp only
  repeat' split
  all_goals first | exact zid_len | exact parts_ref _ (kop_ref _) _
theorem of_refs (s : List UInt8) : (ofL rise s).1.refs.length ≤ 255 := by
  unfold ofL
  try simp only
  repeat' split
  all_goals first | exact Nat.zero_le _ | exact parts_refs _ (o := kop _) (Nat.zero_le _) _
/-- an operation that was told, held in a block of its own -/
def heldW (w : World) (o : Opn) (v : Value) : World := (w.alloc (.cells (opc zop nv).toArray 26)).setRow w.heap.size (opc o v).toArray
theorem run_hold (w : World) (o : Opn) (v : Value) (hr : o.ref.length = 32) (hv : v.oneCell' = true) :
    (Instr.storeAt 26 (.pointer (some ⟨w.heap.size, 0, none⟩)) (opv o v)).run Tryd.prog (w.alloc (.cells (opc zop nv).toArray 26)) = .ok () (heldW w o v) :=
  run_store_op (Blk.new w 26 (opc zop nv).toArray) (opc_size _ _ zid_len) o v hr hv
theorem held_blk (w : World) (o : Opn) (v : Value) : Blk (heldW w o v) w.heap.size 26 (opc o v).toArray := setRow_heap _ _ _ _ _ _ (Blk.new w 26 (opc zop nv).toArray)
theorem held_below (w : World) (o : Opn) (v : Value) : Below w.heap.size w (heldW w o v) := below_row' ((Below.refl _ _).alloc (Nat.le_refl _) _) (Nat.le_refl _) _

def incO : Opn := ⟨1, 1, [], [], zid, []⟩
def incB : List UInt8 := [1, 128, 0, 0, 1]
theorem inc_put : put rise incO = (incB, 0) := by decide +kernel
theorem inc_of : ofL rise incB = (incO, 0) := by
  have h := there (rise := rise) (o := incO) (by decide +kernel) (fits_of (rise := rise) (by decide +kernel) zid_len (fun x hx => by cases hx) (.inl (by decide)))
  rw [show b1 incO.k ++ encs incO (has incO.k) = incB by decide +kernel] at h
  exact h
theorem run_build_inc (w : World) : (Instr.build 26 #[(0, .int .i64 1), (1, .int .i64 1)]).run Tryd.prog w = .ok (opv incO nv) w := by kernel_rfl
theorem nv_rd (w : World) : RdV w nv [] := (OwnI.nil w (fun _ => True)).rdv (by decide) |>.1

set_option maxHeartbeats 2000000 in
set_option maxRecDepth 100000 in
theorem awake_any {T : World → Prop} (hI : OpIs T) (w : World) (hT : T w) : Calls Tryd.prog 11 #[] w fun e w' => e = .returned (.bool true) ∧ Below w.heap.size w w' := by
  have hp := hI.put incO nv w hT zid_len (nv_rd w) (by decide)
  rw [inc_put] at hp
  have HP := Lib.hid hp
  have HI := Lib.hid hI
  have HT := Lib.hid hT
  obtain ⟨s, hs⟩ : ∃ s, s = oct.tx incB := ⟨_, rfl⟩
  have hsl : (s.toList == [1, 128, 0, 0, 1]) = true := by rw [hs, ByteArray.toList_eq, oct.tx_list]; rfl
  have HS := Lib.hid hs
  simp only at HP
  rw [← hs] at HP
  clear hI hT hp hs
  go_enter Tryd.func11, Tryd.ntmps11
  go_wp2_with (first
    | ((with_reducible refine step_build (t := 26) (parts := #[(0, .const (.int .i64 1)), (1, .const (.int .i64 1))]) (ps := #[(0, .int .i64 1), (1, .int .i64 1)]) (v := ?bvb1) ?bgb1 ?bob1 ?bxb1 ?brb1 ?bhb1); (case bgb1 => rfl); (case bob1 => rfl); (case bxb1 => (first | rfl | simp)); (case brb1 => exact run_build_inc _))
    | (go_at_call 12; refine HP.out.mono ?_; go_loud (rintro e w1 ⟨rfl, hb1⟩; have HO := HI.out.of s w1 (HI.out.next HT.out hb1) (by rw [HS.out, oct.tx_size]; decide); rw [HS.out, oct.tx_list, inc_of, ← HS.out] at HO; have HO := Lib.hid HO))
    | (go_at_call 20; (with_reducible refine HO.out.mono ?_); go_loud (rintro e w2 ⟨v, rfl, hrd2, hb2⟩; have hh2 := run_hold w2 incO v zid_len (rdv_one hrd2); have hk2 := held_blk w2 incO v; have c1 := (OpBlk.of hk2 zid_len).n; have hbb := held_below w2 incO v; have HBB := Lib.hid ((hb1.trans (hb2.mono hb1.size)).trans (hbb.mono (Nat.le_trans hb1.size hb2.size))); obtain ⟨w3, hw3⟩ : ∃ w3, w3 = heldW w2 incO v := ⟨_, rfl⟩; rw [← hw3] at hh2 c1 HBB; clear hrd2 hb2 hk2 hbb hw3))
    | ((with_reducible refine step_store_run (t := 26) (x := .tmp 3) (y := .tmp 13) (p := ?sps1) (v := ?svs1) (w' := ?sws1) ?sgs1 ?sos1 ?sxs1 ?sys1 ?srs1 ?shs1); (case sgs1 => rfl); (case sos1 => rfl); (case sxs1 => rfl); (case sys1 => rfl); (case srs1 => exact hh2)))
  go_ret
  exact ⟨rfl, HBB.out⟩
end Go.Proofs.YtmaolmogccknbaaDoor.opn

namespace Go.Proofs.YtmaolmogccknbaaDoor.opn
open Go.RowKit Go.Proofs.YtmaolmogccknbaaDoor.mem Go.Proofs.YtmaolmogccknbaaDoor.sha Go.Proofs.YtmaolmogccknbaaDoor.ids

/-- the bytes of one -/
def enB (o : Opn) : List UInt8 := b1 o.k ++ encs o (has o.k)
theorem put_ok {o : Opn} (h : check rise o = 0) : put rise o = (enB o, 0) := by unfold put; rw [if_neg (by rw [h]; simp)]; rfl
theorem put_no {o : Opn} (h : check rise o ≠ 0) : put rise o = ([], check rise o) := by unfold put; rw [if_pos h]
theorem fits_ok {o : Opn} (h : check rise o = 0) (hr : o.ref.length = 32) (hs : okIds o.refs) : Fits o := by
  refine fits_of h hr hs ?_
  by_cases hN : Part.N ∈ has o.k
  · exact .inl hN
  · exact .inr ((check_parts h).2.1 hN)
theorem of_put {o : Opn} (h : check rise o = 0) (hr : o.ref.length = 32) (hs : okIds o.refs) : ofL rise (enB o) = (o, 0) := there h (fits_ok h hr hs)
theorem of_short {o : Opn} (h : check rise o = 0) (hr : o.ref.length = 32) (hs : okIds o.refs) (m : Nat) (hm : m < (enB o).length) : ofL rise ((enB o).take m) = (zop, 2) := short h (fits_ok h hr hs) m hm
theorem of_behind {o : Opn} (h : check rise o = 0) (hr : o.ref.length = 32) (hs : okIds o.refs) (t : List UInt8) (ht : t ≠ []) : ofL rise (enB o ++ t) = (zop, 4) := behind h (fits_ok h hr hs) t ht
theorem txt_len {l : List UInt8} (h : l.length ≤ 16) : (txt l).length ≤ 17 := by
  unfold txt; rw [List.length_append, b1_len]; omega
theorem idl_len {L : List Id} (h : okIds L) (hl : L.length ≤ 8) : (idl L).length ≤ 257 := by
  unfold idl; rw [List.length_append, b1_len, flat_len h]; omega
theorem en_len {o : Opn} (h : check rise o = 0) (hr : o.ref.length = 32) (hs : okIds o.refs) : (enB o).length ≤ 400 ∧ 0 < (enB o).length := by
  obtain ⟨h0, _, _, _, _, _, hk, hv, _, _, _, hl, _⟩ := check_parts h
  have a := txt_len hk
  have b := txt_len hv
  have c := idl_len hs hl
  have hkk := kind_of h0
  have e1 : (enc o .N).length = 4 := rfl
  have e2 : (enc o .K).length ≤ 17 := a
  have e3 : (enc o .V).length ≤ 17 := b
  have e4 : (enc o .R).length = 32 := hr
  have e5 : (enc o .S).length ≤ 257 := c
  have e0 : (enB o).length = 1 + (encs o (has o.k)).length := by unfold enB; rw [List.length_append, b1_len]
  have hcons : ∀ p ps, (encs o (p :: ps)).length = (enc o p).length + (encs o ps).length := fun p ps => by
    have e : encs o (p :: ps) = enc o p ++ encs o ps := by simp [encs]
    rw [e, List.length_append]
  have hnil : (encs o []).length = 0 := rfl
  rw [e0]
  rcases hkk with e | e | e | e | e | e | e <;> rw [e] <;> simp only [has, if_true, show ∀ a b : Int, (a = b) = (a = b) from fun _ _ => rfl] <;> simp [hcons, hnil] <;> omega
theorem belongs_ne {o : Opn} (h : check rise o = 0) : belongs o.k ≠ 0 := by
  have hkk := kind_of (check_parts h).1
  rcases hkk with e | e | e | e | e | e | e <;> rw [e] <;> decide
theorem of_err {s : List UInt8} {q : Opn} {e : Int} (h : ofL rise s = (q, e)) (he : e ≠ 0) : q = zop := of_zero h he
theorem of_back {s : List UInt8} {q : Opn} (h : ofL rise s = (q, 0)) : check rise q = 0 ∧ s = enB q := back h
end Go.Proofs.YtmaolmogccknbaaDoor.opn

namespace Go.Proofs.YtmaolmogccknbaaDoor.opn
open Go.RowKit Go.Proofs.YtmaolmogccknbaaDoor.mem Go.Proofs.YtmaolmogccknbaaDoor.sha Go.Proofs.YtmaolmogccknbaaDoor.ids

set_option maxHeartbeats 4000000 in
set_option maxRecDepth 100000 in
theorem short_walk {T : World → Prop} (hI : OpIs T) (o : Opn) (v : Value) (n : Int) (t : ByteArray) (w : World) (hT : T w) (hr : o.ref.length = 32) (hv : RdV w v o.refs) (hn0 : 0 ≤ n) (hn1 : n ≤ 65535) (hs : t.size ≤ 140737488351232) :
    Calls Tryd.prog 6 #[opv o v, .int .u16 n, .string t] w fun e w' => e = .returned (.bool true) ∧ Below w.heap.size w w' := by
  obtain ⟨w1, hw1⟩ : ∃ u, u = w.alloc (.cells (opc o v).toArray 26) := ⟨_, rfl⟩
  obtain ⟨S, hS⟩ : ∃ S, S = w.heap.size := ⟨_, rfl⟩
  have hX : Blk w1 S 26 (opc o v).toArray := by rw [hw1, hS]; exact Blk.new w _ _
  have hB : Below w.heap.size w w1 := by rw [hw1]; exact (Below.refl _ _).alloc (Nat.le_refl _) _
  have HX := Lib.hid hX
  have HB := Lib.hid hB
  have HS := Lib.hid hS
  have HW := Lib.hid hw1
  have HT := Lib.hid (hI.next hT hB)
  have HI := Lib.hid hI
  have HR := Lib.hid hr
  obtain ⟨ad, cap, hvf⟩ := hv.form
  have c36 := (OpBlk.of hX hr).refs
  rw [hvf] at c36
  obtain ⟨ln, hln⟩ : ∃ n, n = o.refs.length := ⟨_, rfl⟩
  rw [← hln] at c36
  have HLN := Lib.hid hln
  have hld := run_load_op hX hr
  have HLD := Lib.hid hld
  have HV := Lib.hid (hv.next hB)
  clear hX hB hw1 hS hT hI hr hvf hln hld hv
  unfold opv
  by_cases hbig : 60 < o.refs.length
  · have i1 : (60 : Int) < (ln : Int) := by rw [HLN.out]; omega
    clear hbig
    go_enter Tryd.func6, Tryd.ntmps6
    go_upto_region 1 with fail
    refine wp_at HW.out.symm ?_
    rw [← HS.out]
    clear HW
    go_wp2_with ((go_at_call 11; refine (awake_any HI.out _ HT.out).mono ?_; rintro e w2 ⟨rfl, hb1⟩))
    go_ret
    exact ⟨rfl, HB.out.trans (hb1.mono HB.out.size)⟩
  have i1 : (ln : Int) ≤ 60 := by rw [HLN.out]; omega
  have hput := HI.out.put o v w1 HT.out HR.out HV.out (by omega)
  clear hbig
  by_cases hc0 : check rise o = 0
  · rw [put_ok hc0] at hput
    have hen := en_len hc0 HR.out HV.out.ok
    have HCZ := Lib.hid hc0
    obtain ⟨l, hl⟩ : ∃ l, l = enB o := ⟨_, rfl⟩
    obtain ⟨b, hb⟩ : ∃ b, b = oct.tx l := ⟨_, rfl⟩
    rw [← hl] at hen hput
    simp only at hput
    rw [← hb] at hput
    have hbz : b.size = l.length := by rw [hb, oct.tx_size]
    have z0 : (0 : Int) < (b.size : Int) := by rw [hbz]; omega
    have z1 : (b.size : Int) ≤ 400 := by rw [hbz]; omega
    have hne : b.toList.isEmpty = false := by
      rw [hb, ByteArray.toList_eq, oct.tx_list]
      cases l with
      | nil => simp at hen
      | cons a t => rfl
    obtain ⟨m, hm⟩ : ∃ m : Nat, n.tmod (b.size : Int) = (m : Int) := ⟨(n.tmod b.size).toNat, by have := Int.tmod_nonneg (b.size : Int) hn0; omega⟩
    have hml : m < b.size := by have := Int.tmod_lt_of_pos n z0; omega
    have hsl := fun u => strx.run_slice_to b m (Nat.le_of_lt hml) u
    rw [hb, oct.tx_list, ← hb] at hsl
    have hof1 := fun u (hT : T u) => HI.out.of (strx.bt (l.take m)) u hT (by rw [strx.bt_size, List.length_take]; omega)
    rw [strx.bt_list, hl, of_short HCZ.out HR.out HV.out.ok m (by rw [← hl, ← hbz]; exact hml), ← hl] at hof1
    have hof2 := fun u (hT : T u) => HI.out.of (b ++ t) u hT (by rw [ByteArray.size_append]; omega)
    have hdat : (b ++ t).data.toList = enB o ++ t.data.toList := by rw [ByteArray.data_append, Array.toList_append, hb, oct.tx_list, hl]
    rw [hdat] at hof2
    have HOF1 := Lib.hid hof1
    have HPUT := Lib.hid hput
    have hcat : b.size + t.size ≤ 281474976710656 := by omega
    have n0 := hn0
    have n1 := hn1
    have HNEB := Lib.hid hdat
    clear hn0 hn1 hput hof1 hen hml hb hl hc0 hbz hdat hs
    by_cases htl : t.data.toList = []
    · have tE : t.toList.isEmpty = true := by rw [ByteArray.toList_eq, htl]; rfl
      rw [htl, List.append_nil, of_put HCZ.out HR.out HV.out.ok] at hof2
      have HOF2 := Lib.hid hof2
      clear hof2 htl
      go_enter Tryd.func6, Tryd.ntmps6
      go_upto_region 1 with fail
      refine wp_at HW.out.symm ?_
      rw [← HS.out]
      clear HW
      go_wp2_with (first
        | ((with_reducible refine step_load (t := 26) (x := .tmp 3) (p := ?lpy9o) (v := ?lvy9o) ?lgy9o ?loy9o ?lxy9o ?lry9o ?lhy9o); (case lgy9o => rfl); (case loy9o => rfl); (case lxy9o => rfl); (case lry9o => exact HLD.out))
        | (go_at_call 12; (with_reducible refine HPUT.out.mono ?_); rintro e w2 ⟨rfl, hb2⟩)
        | (go_at_call 20; (with_reducible refine (HOF1.out _ (HI.out.next HT.out hb2)).mono ?_); rintro e w3 ⟨v3, rfl, hrd3, hb3⟩; have hha := run_hold w3 zop v3 zid_len (rdv_one hrd3); have hka := held_blk w3 zop v3; have hbba := held_below w3 zop v3; obtain ⟨wha, hwha⟩ : ∃ wx, wx = heldW w3 zop v3 := ⟨_, rfl⟩; rw [← hwha] at hha hka hbba; clear hwha; have b3 := (hb2.trans (hb3.mono hb2.size)).trans (hbba.mono (Nat.le_trans hb2.size hb3.size)))
        | ((with_reducible refine step_store_run (t := 26) (x := .tmp 9) (y := .tmp 47) (p := ?spy9h) (v := ?svy9h) (w' := ?swy9h) ?sgy9h ?soy9h ?sxy9h ?syy9h ?sry9h ?shy9h); (case sgy9h => rfl); (case soy9h => rfl); (case sxy9h => rfl); (case syy9h => rfl); (case sry9h => exact hha))
        | (go_at_call 20; (with_reducible refine (HOF2.out _ (HI.out.next HT.out b3)).mono ?_); rintro e w4 ⟨v4, rfl, hrd4, hb4⟩; have hhb := run_hold w4 o v4 HR.out (rdv_one hrd4); have hkb := held_blk w4 o v4; have hbbb := held_below w4 o v4; obtain ⟨whb, hwhb⟩ : ∃ wx, wx = heldW w4 o v4 := ⟨_, rfl⟩; rw [← hwhb] at hhb hkb hbbb; clear hwhb; have b4 := (b3.trans (hb4.mono b3.size)).trans (hbbb.mono (Nat.le_trans b3.size hb4.size)))
        | ((with_reducible refine step_store_run (t := 26) (x := .tmp 11) (y := .tmp 54) (p := ?spy9i) (v := ?svy9i) (w' := ?swy9i) ?sgy9i ?soy9i ?sxy9i ?syy9i ?sry9i ?shy9i); (case sgy9i => rfl); (case soy9i => rfl); (case sxy9i => rfl); (case syy9i => rfl); (case sry9i => exact hhb))
        | (go_at_call 11; refine (awake_any HI.out _ (HI.out.next HT.out b4)).mono ?_; rintro e wz ⟨rfl, hbz⟩))
      go_ret
      exact ⟨rfl, HB.out.trans ((b4.trans (hbz.mono b4.size)).mono HB.out.size)⟩
    · have tE : t.toList.isEmpty = false := by
        rw [ByteArray.toList_eq]
        cases hx : t.data.toList with
        | nil => exact absurd hx htl
        | cons a r => rfl
      rw [of_behind HCZ.out HR.out HV.out.ok _ htl] at hof2
      have HOF2 := Lib.hid hof2
      clear hof2 htl
      go_enter Tryd.func6, Tryd.ntmps6
      go_upto_region 1 with fail
      refine wp_at HW.out.symm ?_
      rw [← HS.out]
      clear HW
      go_wp2_with (first
        | ((with_reducible refine step_load (t := 26) (x := .tmp 3) (p := ?lpy10o) (v := ?lvy10o) ?lgy10o ?loy10o ?lxy10o ?lry10o ?lhy10o); (case lgy10o => rfl); (case loy10o => rfl); (case lxy10o => rfl); (case lry10o => exact HLD.out))
        | (go_at_call 12; (with_reducible refine HPUT.out.mono ?_); rintro e w2 ⟨rfl, hb2⟩)
        | (go_at_call 20; (with_reducible refine (HOF1.out _ (HI.out.next HT.out hb2)).mono ?_); rintro e w3 ⟨v3, rfl, hrd3, hb3⟩; have hha := run_hold w3 zop v3 zid_len (rdv_one hrd3); have hka := held_blk w3 zop v3; have hbba := held_below w3 zop v3; obtain ⟨wha, hwha⟩ : ∃ wx, wx = heldW w3 zop v3 := ⟨_, rfl⟩; rw [← hwha] at hha hka hbba; clear hwha; have b3 := (hb2.trans (hb3.mono hb2.size)).trans (hbba.mono (Nat.le_trans hb2.size hb3.size)))
        | ((with_reducible refine step_store_run (t := 26) (x := .tmp 9) (y := .tmp 47) (p := ?spy10h) (v := ?svy10h) (w' := ?swy10h) ?sgy10h ?soy10h ?sxy10h ?syy10h ?sry10h ?shy10h); (case sgy10h => rfl); (case soy10h => rfl); (case sxy10h => rfl); (case syy10h => rfl); (case sry10h => exact hha))
        | (go_at_call 20; (with_reducible refine (HOF2.out _ (HI.out.next HT.out b3)).mono ?_); rintro e w4 ⟨v4, rfl, hrd4, hb4⟩; have hhb := run_hold w4 zop v4 zid_len (rdv_one hrd4); have hkb := held_blk w4 zop v4; have hbbb := held_below w4 zop v4; obtain ⟨whb, hwhb⟩ : ∃ wx, wx = heldW w4 zop v4 := ⟨_, rfl⟩; rw [← hwhb] at hhb hkb hbbb; clear hwhb; have b4 := (b3.trans (hb4.mono b3.size)).trans (hbbb.mono (Nat.le_trans b3.size hb4.size)))
        | ((with_reducible refine step_store_run (t := 26) (x := .tmp 11) (y := .tmp 54) (p := ?spy10i) (v := ?svy10i) (w' := ?swy10i) ?sgy10i ?soy10i ?sxy10i ?syy10i ?sry10i ?shy10i); (case sgy10i => rfl); (case soy10i => rfl); (case sxy10i => rfl); (case syy10i => rfl); (case sry10i => exact hhb))
        | (go_at_call 11; refine (awake_any HI.out _ (HI.out.next HT.out b4)).mono ?_; rintro e wz ⟨rfl, hbz⟩))
      go_ret
      exact ⟨rfl, HB.out.trans ((b4.trans (hbz.mono b4.size)).mono HB.out.size)⟩
  · have hc1 : (check rise o != 0) = true := bne_iff_ne.2 hc0
    rw [put_no hc0] at hput
    obtain ⟨c, hc⟩ : ∃ c, c = check rise o := ⟨_, rfl⟩
    rw [← hc] at hput hc1
    simp only at hput
    have HPUT := Lib.hid hput
    have hemp : (oct.tx []).toList.isEmpty = true := by rw [ByteArray.toList_eq, oct.tx_list]; rfl
    clear hc0 hput hc
    go_enter Tryd.func6, Tryd.ntmps6
    go_upto_region 1 with fail
    refine wp_at HW.out.symm ?_
    rw [← HS.out]
    clear HW
    go_wp2_with (first
      | ((with_reducible refine step_load (t := 26) (x := .tmp 3) (p := ?lpso) (v := ?lvso) ?lgso ?loso ?lxso ?lrso ?lhso); (case lgso => rfl); (case loso => rfl); (case lxso => rfl); (case lrso => exact HLD.out))
      | (go_at_call 12; (with_reducible refine HPUT.out.mono ?_); rintro e w2 ⟨rfl, hb2⟩)
      | (go_at_call 11; refine (awake_any HI.out _ (HI.out.next HT.out hb2)).mono ?_; rintro e wz ⟨rfl, hbz⟩))
    go_ret
    exact ⟨rfl, HB.out.trans ((hb2.trans (hbz.mono hb2.size)).mono HB.out.size)⟩
end Go.Proofs.YtmaolmogccknbaaDoor.opn
