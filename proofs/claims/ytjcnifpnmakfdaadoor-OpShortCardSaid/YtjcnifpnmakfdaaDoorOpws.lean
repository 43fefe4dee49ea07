/-
  The walk of OpShort, by what op's functions answer.
-/
import Derived.Test.YtjcnifpnmakfdaaDoorOpwl
import Derived.Test.YtjcnifpnmakfdaaDoorRdn
namespace Go.Proofs.YtjcnifpnmakfdaaDoor.opn
open Go.RowKit Go.Proofs.YtjcnifpnmakfdaaDoor.mem Go.Proofs.YtjcnifpnmakfdaaDoor.sha Go.Proofs.YtjcnifpnmakfdaaDoor.ids

set_option maxHeartbeats 4000000 in
set_option maxRecDepth 100000 in
theorem short_walk {T : World → Prop} (hI : OpIs T) (o : Opn) (v : Value) (n : Int) (t : ByteArray) (w : World) (hT : T w) (hr : o.ref.length = 32) (hv : RdV w v o.refs) (hn0 : 0 ≤ n) (hn1 : n ≤ 65535) (hs : t.size ≤ 140737488351232) :
    Calls Tryd.prog 6 #[opv o v, .int .u16 n, .string t] w fun e w' => e = .returned (.bool true) ∧ Below w.heap.size w w' := by
  obtain ⟨w1, hw1⟩ : ∃ u, u = w.alloc (.cells (opc o v).toArray 26) := ⟨_, rfl⟩
  obtain ⟨S, hS⟩ : ∃ S, S = w.heap.size := ⟨_, rfl⟩
  have hX : Blk w1 S 26 (opc o v).toArray := by rw [hw1, hS]; exact Blk.new w _ _
  have hB : Below w.heap.size w w1 := by rw [hw1]; exact (Below.refl _ _).alloc (Nat.le_refl _) _
  have HX := Lib.hid hX
  have HB := Lib.hid hB
  have HS := Lib.hid hS
  have HW := Lib.hid hw1
  have HT := Lib.hid (hI.next hT hB)
  have HI := Lib.hid hI
  have HR := Lib.hid hr
  obtain ⟨ad, cap, hvf⟩ := hv.form
  have c36 := (OpBlk.of hX hr).refs
  rw [hvf] at c36
  obtain ⟨ln, hln⟩ : ∃ n, n = o.refs.length := ⟨_, rfl⟩
  rw [← hln] at c36
  have HLN := Lib.hid hln
  have hld := run_load_op hX hr
  have HLD := Lib.hid hld
  have HV := Lib.hid (hv.next hB)
  clear hX hB hw1 hS hT hI hr hvf hln hld hv
  unfold opv
  by_cases hbig : 60 < o.refs.length
  · have i1 : (60 : Int) < (ln : Int) := by rw [HLN.out]; omega
    clear hbig
    go_enter Tryd.func6, Tryd.ntmps6
    go_upto_region 1 with fail
    refine wp_at HW.out.symm ?_
    rw [← HS.out]
    clear HW
    go_wp2_with ((go_at_call 7; refine (awake_any HI.out _ HT.out).mono ?_; rintro e w2 ⟨rfl, hb1⟩))
    go_ret
    exact ⟨rfl, HB.out.trans (hb1.mono HB.out.size)⟩
  have i1 : (ln : Int) ≤ 60 := by rw [HLN.out]; omega
  have hput := HI.out.put o v w1 HT.out HR.out HV.out (by omega)
  clear hbig
  by_cases hc0 : check rise o = 0
  · rw [put_ok hc0] at hput
    have hen := en_len hc0 HR.out HV.out.ok
    have HCZ := Lib.hid hc0
    obtain ⟨l, hl⟩ : ∃ l, l = enB o := ⟨_, rfl⟩
    obtain ⟨b, hb⟩ : ∃ b, b = oct.tx l := ⟨_, rfl⟩
    rw [← hl] at hen hput
    simp only at hput
    rw [← hb] at hput
    have hbz : b.size = l.length := by rw [hb, oct.tx_size]
    have z0 : (0 : Int) < (b.size : Int) := by rw [hbz]; omega
    have z1 : (b.size : Int) ≤ 400 := by rw [hbz]; omega
    have hne : b.toList.isEmpty = false := by
      rw [hb, ByteArray.toList_eq, oct.tx_list]
      cases l with
      | nil => simp at hen
      | cons a t => rfl
    obtain ⟨m, hm⟩ : ∃ m : Nat, n.tmod (b.size : Int) = (m : Int) := ⟨(n.tmod b.size).toNat, by have := Int.tmod_nonneg (b.size : Int) hn0; omega⟩
    have hml : m < b.size := by have := Int.tmod_lt_of_pos n z0; omega
    have hsl := fun u => strx.run_slice_to b m (Nat.le_of_lt hml) u
    rw [hb, oct.tx_list, ← hb] at hsl
    have hof1 := fun u (hT : T u) => HI.out.of (strx.bt (l.take m)) u hT (by rw [strx.bt_size, List.length_take]; omega)
    rw [strx.bt_list, hl, of_short HCZ.out HR.out HV.out.ok m (by rw [← hl, ← hbz]; exact hml), ← hl] at hof1
    have hof2 := fun u (hT : T u) => HI.out.of (b ++ t) u hT (by rw [ByteArray.size_append]; omega)
    have hdat : (b ++ t).data.toList = enB o ++ t.data.toList := by rw [ByteArray.data_append, Array.toList_append, hb, oct.tx_list, hl]
    rw [hdat] at hof2
    have HOF1 := Lib.hid hof1
    have HPUT := Lib.hid hput
    have hcat : b.size + t.size ≤ 281474976710656 := by omega
    have n0 := hn0
    have n1 := hn1
    have HNEB := Lib.hid hdat
    clear hn0 hn1 hput hof1 hen hml hb hl hc0 hbz hdat hs
    by_cases htl : t.data.toList = []
    · have tE : t.toList.isEmpty = true := by rw [ByteArray.toList_eq, htl]; rfl
      rw [htl, List.append_nil, of_put HCZ.out HR.out HV.out.ok] at hof2
      have HOF2 := Lib.hid hof2
      clear hof2 htl
      go_enter Tryd.func6, Tryd.ntmps6
      go_upto_region 1 with fail
      refine wp_at HW.out.symm ?_
      rw [← HS.out]
      clear HW
      go_wp2_with (first
        | ((with_reducible refine step_load (t := 26) (x := .tmp 3) (p := ?lpy9o) (v := ?lvy9o) ?lgy9o ?loy9o ?lxy9o ?lry9o ?lhy9o); (case lgy9o => rfl); (case loy9o => rfl); (case lxy9o => rfl); (case lry9o => exact HLD.out))
        | (go_at_call 8; (with_reducible refine HPUT.out.mono ?_); rintro e w2 ⟨rfl, hb2⟩)
        | (go_at_call 16; (with_reducible refine (HOF1.out _ (HI.out.next HT.out hb2)).mono ?_); rintro e w3 ⟨v3, rfl, hrd3, hb3⟩; have hha := run_hold w3 zop v3 zid_len (rdv_one hrd3); have hka := held_blk w3 zop v3; have hbba := held_below w3 zop v3; obtain ⟨wha, hwha⟩ : ∃ wx, wx = heldW w3 zop v3 := ⟨_, rfl⟩; rw [← hwha] at hha hka hbba; clear hwha; have b3 := (hb2.trans (hb3.mono hb2.size)).trans (hbba.mono (Nat.le_trans hb2.size hb3.size)))
        | ((with_reducible refine step_store_run (t := 26) (x := .tmp 9) (y := .tmp 47) (p := ?spy9h) (v := ?svy9h) (w' := ?swy9h) ?sgy9h ?soy9h ?sxy9h ?syy9h ?sry9h ?shy9h); (case sgy9h => rfl); (case soy9h => rfl); (case sxy9h => rfl); (case syy9h => rfl); (case sry9h => exact hha))
        | (go_at_call 16; (with_reducible refine (HOF2.out _ (HI.out.next HT.out b3)).mono ?_); rintro e w4 ⟨v4, rfl, hrd4, hb4⟩; have hhb := run_hold w4 o v4 HR.out (rdv_one hrd4); have hkb := held_blk w4 o v4; have hbbb := held_below w4 o v4; obtain ⟨whb, hwhb⟩ : ∃ wx, wx = heldW w4 o v4 := ⟨_, rfl⟩; rw [← hwhb] at hhb hkb hbbb; clear hwhb; have b4 := (b3.trans (hb4.mono b3.size)).trans (hbbb.mono (Nat.le_trans b3.size hb4.size)))
        | ((with_reducible refine step_store_run (t := 26) (x := .tmp 11) (y := .tmp 54) (p := ?spy9i) (v := ?svy9i) (w' := ?swy9i) ?sgy9i ?soy9i ?sxy9i ?syy9i ?sry9i ?shy9i); (case sgy9i => rfl); (case soy9i => rfl); (case sxy9i => rfl); (case syy9i => rfl); (case sry9i => exact hhb))
        | (go_at_call 7; refine (awake_any HI.out _ (HI.out.next HT.out b4)).mono ?_; rintro e wz ⟨rfl, hbz⟩))
      go_ret
      exact ⟨rfl, HB.out.trans ((b4.trans (hbz.mono b4.size)).mono HB.out.size)⟩
    · have tE : t.toList.isEmpty = false := by
        rw [ByteArray.toList_eq]
        cases hx : t.data.toList with
        | nil => exact absurd hx htl
        | cons a r => rfl
      rw [of_behind HCZ.out HR.out HV.out.ok _ htl] at hof2
      have HOF2 := Lib.hid hof2
      clear hof2 htl
      go_enter Tryd.func6, Tryd.ntmps6
      go_upto_region 1 with fail
      refine wp_at HW.out.symm ?_
      rw [← HS.out]
      clear HW
      go_wp2_with (first
        | ((with_reducible refine step_load (t := 26) (x := .tmp 3) (p := ?lpy10o) (v := ?lvy10o) ?lgy10o ?loy10o ?lxy10o ?lry10o ?lhy10o); (case lgy10o => rfl); (case loy10o => rfl); (case lxy10o => rfl); (case lry10o => exact HLD.out))
        | (go_at_call 8; (with_reducible refine HPUT.out.mono ?_); rintro e w2 ⟨rfl, hb2⟩)
        | (go_at_call 16; (with_reducible refine (HOF1.out _ (HI.out.next HT.out hb2)).mono ?_); rintro e w3 ⟨v3, rfl, hrd3, hb3⟩; have hha := run_hold w3 zop v3 zid_len (rdv_one hrd3); have hka := held_blk w3 zop v3; have hbba := held_below w3 zop v3; obtain ⟨wha, hwha⟩ : ∃ wx, wx = heldW w3 zop v3 := ⟨_, rfl⟩; rw [← hwha] at hha hka hbba; clear hwha; have b3 := (hb2.trans (hb3.mono hb2.size)).trans (hbba.mono (Nat.le_trans hb2.size hb3.size)))
        | ((with_reducible refine step_store_run (t := 26) (x := .tmp 9) (y := .tmp 47) (p := ?spy10h) (v := ?svy10h) (w' := ?swy10h) ?sgy10h ?soy10h ?sxy10h ?syy10h ?sry10h ?shy10h); (case sgy10h => rfl); (case soy10h => rfl); (case sxy10h => rfl); (case syy10h => rfl); (case sry10h => exact hha))
        | (go_at_call 16; (with_reducible refine (HOF2.out _ (HI.out.next HT.out b3)).mono ?_); rintro e w4 ⟨v4, rfl, hrd4, hb4⟩; have hhb := run_hold w4 zop v4 zid_len (rdv_one hrd4); have hkb := held_blk w4 zop v4; have hbbb := held_below w4 zop v4; obtain ⟨whb, hwhb⟩ : ∃ wx, wx = heldW w4 zop v4 := ⟨_, rfl⟩; rw [← hwhb] at hhb hkb hbbb; clear hwhb; have b4 := (b3.trans (hb4.mono b3.size)).trans (hbbb.mono (Nat.le_trans b3.size hb4.size)))
        | ((with_reducible refine step_store_run (t := 26) (x := .tmp 11) (y := .tmp 54) (p := ?spy10i) (v := ?svy10i) (w' := ?swy10i) ?sgy10i ?soy10i ?sxy10i ?syy10i ?sry10i ?shy10i); (case sgy10i => rfl); (case soy10i => rfl); (case sxy10i => rfl); (case syy10i => rfl); (case sry10i => exact hhb))
        | (go_at_call 7; refine (awake_any HI.out _ (HI.out.next HT.out b4)).mono ?_; rintro e wz ⟨rfl, hbz⟩))
      go_ret
      exact ⟨rfl, HB.out.trans ((b4.trans (hbz.mono b4.size)).mono HB.out.size)⟩
  · have hc1 : (check rise o != 0) = true := bne_iff_ne.2 hc0
    rw [put_no hc0] at hput
    obtain ⟨c, hc⟩ : ∃ c, c = check rise o := ⟨_, rfl⟩
    rw [← hc] at hput hc1
    simp only at hput
    have HPUT := Lib.hid hput
    have hemp : (oct.tx []).toList.isEmpty = true := by rw [ByteArray.toList_eq, oct.tx_list]; rfl
    clear hc0 hput hc
    go_enter Tryd.func6, Tryd.ntmps6
    go_upto_region 1 with fail
    refine wp_at HW.out.symm ?_
    rw [← HS.out]
    clear HW
    go_wp2_with (first
      | ((with_reducible refine step_load (t := 26) (x := .tmp 3) (p := ?lpso) (v := ?lvso) ?lgso ?loso ?lxso ?lrso ?lhso); (case lgso => rfl); (case loso => rfl); (case lxso => rfl); (case lrso => exact HLD.out))
      | (go_at_call 8; (with_reducible refine HPUT.out.mono ?_); rintro e w2 ⟨rfl, hb2⟩)
      | (go_at_call 7; refine (awake_any HI.out _ (HI.out.next HT.out hb2)).mono ?_; rintro e wz ⟨rfl, hbz⟩))
    go_ret
    exact ⟨rfl, HB.out.trans ((hb2.trans (hbz.mono hb2.size)).mono HB.out.size)⟩
end Go.Proofs.YtjcnifpnmakfdaaDoor.opn
