/-
  The landed rule: heights of known headers by their ids.
  Places of headers as they lie: loads, stores, literals, one more behind a row.
  slices.Clone of a list of ids.
  The library's sort.Slice, as it stands in this seat, against the kit's contracts.
  The order of ids as the library's sort sees it; a row of ids that is being sorted; what 'less' and 'swap' do to it.
-/
import Derived.Test.YtpeneeddfgmjpaaGreatDoorRva
import Derived.Test.YtpeneeddfgmjpaaGreatDoorRvg
import Derived.Test.YtpeneeddfgmjpaaGreatDoorHds
import Derived.Test.YtpeneeddfgmjpaaGreatDoorIds
import Derived.Test.YtpeneeddfgmjpaaGreatDoorChecked
import Derived.Shelf.SlSortFuncK.WholeK
import Derived.Test.YtpeneeddfgmjpaaGreatDoorHdp
import Derived.Lib.ReflectliteSwap
namespace Go.Proofs.YtpeneeddfgmjpaaGreatDoor.rul
open Go.RowKit Go.Proofs.YtpeneeddfgmjpaaGreatDoor.mem Go.Proofs.YtpeneeddfgmjpaaGreatDoor.sha Go.Proofs.YtpeneeddfgmjpaaGreatDoor.ids Go.Proofs.YtpeneeddfgmjpaaGreatDoor.rows Go.Proofs.YtpeneeddfgmjpaaGreatDoor.hdr Go.Proofs.YtpeneeddfgmjpaaGreatDoor.hds Go.Proofs.YtpeneeddfgmjpaaGreatDoor.mpk
open Go.Proofs.YtpeneeddfgmjpaaGreatDoor.opn (zid)

set_option maxHeartbeats 8000000 in
set_option maxRecDepth 100000 in
theorem heights_any (v : Value) (P : HP) (w : World) (hT : Tabs w) (hv : HsV w v P) (hf : Few P) (hn : P.length ≤ 1000) :
  Calls Tryz.prog 21 #[v] w fun e w' => ∃ b, e = .returned (.map (some b)) ∧ w.heap.size ≤ b ∧ ToldB w' b (hs P) ∧ Below w.heap.size w w' := by
 obtain ⟨ad, cap, rfl⟩ := hv.form
 obtain ⟨n, hnn⟩ : ∃ n, n = P.length := ⟨_, rfl⟩
 obtain ⟨M, hM⟩ : ∃ M, M = w.heap.size := ⟨_, rfl⟩
 obtain ⟨w1, hw1⟩ : ∃ u, u = w.alloc (.map #[] 0) := ⟨_, rfl⟩
 have htb : ToldB w1 M [] := by rw [hw1, hM]; exact ⟨[], MapB.new _ _ w, fun x _ => rfl⟩
 have hbl : Below w.heap.size w w1 := by rw [hw1]; exact (Below.refl _ _).alloc (Nat.le_refl _) _
 have HT := Lib.hid hT
 have HV := Lib.hid hv
 have HNN := Lib.hid hnn
 have HM := Lib.hid hM
 have HW := Lib.hid hw1
 have HTB := Lib.hid htb
 have HBL := Lib.hid hbl
 rw [← hnn] at hn HV ⊢
 have hmm : (Instr.makeMap 48 none).run Tryz.prog w = .ok (.map (some w.heap.size)) (w.alloc (.map #[] 0)) := rfl
 clear hv hnn hT hM hw1 htb hbl
 go_enter Tryz.func21, Tryz.ntmps21
 go_upto_region 2 with fail
 refine wp_at HW.out.symm ?_
 rw [← HM.out]
 clear HW hmm
 go_wp2_with fail
 go_loopw [11] (fun i wr => ∃ k : Nat, k ≤ n ∧ i = .int .i64 (k : Int) ∧ ToldB wr M ((hs P).take k) ∧ Below w.heap.size w wr) (fun i _ => n - (intOf i).toNat)
 case atStart => exact ⟨0, Nat.zero_le _, rfl, by simpa using HTB.out, HBL.out⟩
 case round =>
  clear HTB HBL
  obtain ⟨k, hk, rfl, htb, hbl⟩ := hrel
  have k0 : (0 : Int) ≤ (k : Int) := Int.natCast_nonneg _
  have HTB := Lib.hid htb
  have HBL := Lib.hid hbl
  by_cases hlt : k < n
  ·
   have kI : (k : Int) < (n : Int) := by omega
   have hkP : k < P.length := by rw [← HNN.out]; exact hlt
   have hv := HV.out.next hbl
   obtain ⟨b, off, rfl, hbb, hld, -, -, -⟩ := hv.at_ hkP
   have hld := hld 0
   have hin := hv.2.get hkP
   have hfw := hf.get hkP
   have hsn := take_hs_succ hkP
   obtain ⟨x, hx⟩ : ∃ x, x = (P.getD k zhp).1 := ⟨_, rfl⟩
   obtain ⟨u, hu⟩ : ∃ u, u = (P.getD k zhp).2 := ⟨_, rfl⟩
   rw [← hx, ← hu] at hld hin
   rw [← hx] at hfw hsn
   have hh := run_hold wr x u hin.2 (rdv_one hin.1)
   have hkb := held_blk wr x u
   have hb2 := held_below wr x u
   obtain ⟨w2, hw2⟩ : ∃ z, z = heldW wr x u := ⟨_, rfl⟩
   rw [← hw2] at hh hkb hb2
   have hl2 := run_load_hd hkb hin.2
   have hid := lident_any x u w2 (HT.out.next (hbl.trans (hb2.mono hbl.size))) hin.2 (hin.1.next hb2) hfw.1 hfw.2
   have hl32 := idH_len x
   obtain ⟨y, hy⟩ : ∃ y, y = (idH x).1 := ⟨_, rfl⟩
   obtain ⟨er, her⟩ : ∃ e, e = (idH x).2 := ⟨_, rfl⟩
   rw [← hy, ← her] at hid
   rw [← hy] at hl32
   obtain ⟨hv0, hhv⟩ : ∃ z, z = hdv x u := ⟨_, rfl⟩
   rw [← hhv] at hld hid hl2 hh
   have HID := Lib.hid hid
   have HH := Lib.hid hh
   have HL := Lib.hid hl32
   have HKB := Lib.hid hkb
   have HB2 := Lib.hid hb2
   have HR := Lib.hid hin.2
   have HSN := Lib.hid hsn
   have HY := Lib.hid hy
   have HER := Lib.hid her
   clear htb hbl hv hbb hin hfw hsn hx hu hh hkb hb2 hw2 hid hl32 hy her hhv hkP
   by_cases he : er = 0
   ·
    subst he
    go_wp2_with (first
     | ((with_reducible refine step_load (t := 26) (x := .tmp 13) (p := ?lpa1) (v := ?lva1) ?lga1 ?loa1 ?lxa1 ?lra1 ?lha1); (case lga1 => rfl); (case loa1 => rfl); (case lxa1 => rfl); (case lra1 => exact hld))
     | ((with_reducible refine step_store_run (t := 26) (x := .tmp 5) (y := .tmp 14) (p := ?spa1) (v := ?sva1) (w' := ?swa1) ?sga1 ?soa1 ?sxa1 ?sya1 ?sra1 ?sha1); (case sga1 => rfl); (case soa1 => rfl); (case sxa1 => rfl); (case sya1 => rfl); (case sra1 => exact HH.out))
     | ((with_reducible refine step_load (t := 26) (x := .tmp 5) (p := ?lpb1) (v := ?lvb1) ?lgb1 ?lob1 ?lxb1 ?lrb1 ?lhb1); (case lgb1 => rfl); (case lob1 => rfl); (case lxb1 => rfl); (case lrb1 => exact hl2))
     | (go_at_call 33; (with_reducible refine HID.out.mono ?_); rintro e w3 ⟨rfl, hb3⟩; have HHI := Lib.hid (run_holdI w3 y HL.out); have hb4 := heldI_below w3 y; have hl4 := box_load (heldI_blk w3 y) HL.out 0; have hx4 := (HKB.out.below hb3 HKB.out.lt).below hb4 (Nat.lt_of_lt_of_le HKB.out.lt hb3.size); have c1 := (HdBlk.of hx4 HR.out).height; have hb24 := hb3.trans (hb4.mono hb3.size); have hbr4 := HB2.out.trans (hb24.mono HB2.out.size); obtain ⟨w5, hmu, htb5, ht5⟩ := (HTB.out.below hbr4 HTB.out.lt).tell x HER.out.symm; rw [← HY.out] at hmu; have HMU := Lib.hid hmu; have HTB5 := Lib.hid htb5; have HB5 := Lib.hid ((HBL.out.trans (hbr4.mono HBL.out.size)).trans (ht5.below fun b hb => (show w.heap.size ≤ b by have := HM.out; omega))); clear hb3 hb4 hx4 hb24 hbr4 hmu htb5 ht5 HID)
     | ((with_reducible refine step_store_run (t := 24) (x := .tmp 6) (y := .tmp 18) (p := ?spb1) (v := ?svb1) (w' := ?swb1) ?sgb1 ?sob1 ?sxb1 ?syb1 ?srb1 ?shb1); (case sgb1 => rfl); (case sob1 => rfl); (case sxb1 => rfl); (case syb1 => rfl); (case srb1 => exact HHI.out))
     | ((with_reducible refine step_load (t := 24) (x := .tmp 6) (p := ?lpc1) (v := ?lvc1) ?lgc1 ?loc1 ?lxc1 ?lrc1 ?lhc1); (case lgc1 => rfl); (case loc1 => rfl); (case lxc1 => rfl); (case lrc1 => exact hl4))
     | ((with_reducible refine step_mapstore (t := 48) (x := .tmp 22) (i := .tmp 23) (y := .tmp 25) (m := ?mma1) (k := ?mka1) (v := ?mva1) (w' := ?mwa1) ?mga1 ?moa1 ?mxa1 ?mia1 ?mya1 ?mra1 ?mha1); (case mga1 => rfl); (case moa1 => rfl); (case mxa1 => rfl); (case mia1 => rfl); (case mya1 => rfl); (case mra1 => exact HMU.out)))
    go_roundw
    case rel => exact ⟨k + 1, hlt, by push_cast; rfl, by rw [HSN.out]; exact HTB5.out, HB5.out⟩
    case measure => simp [intOf]; omega
   ·
    have hne : (er == 0) = false := beq_eq_false_iff_ne.2 he
    have HNE : Hid ((idH x).2 ≠ 0) := Lib.hid (by rw [← HER.out]; exact he)
    clear he
    go_wp2_with (first
     | ((with_reducible refine step_load (t := 26) (x := .tmp 13) (p := ?lpa2) (v := ?lva2) ?lga2 ?loa2 ?lxa2 ?lra2 ?lha2); (case lga2 => rfl); (case loa2 => rfl); (case lxa2 => rfl); (case lra2 => exact hld))
     | ((with_reducible refine step_store_run (t := 26) (x := .tmp 5) (y := .tmp 14) (p := ?spa2) (v := ?sva2) (w' := ?swa2) ?sga2 ?soa2 ?sxa2 ?sya2 ?sra2 ?sha2); (case sga2 => rfl); (case soa2 => rfl); (case sxa2 => rfl); (case sya2 => rfl); (case sra2 => exact HH.out))
     | ((with_reducible refine step_load (t := 26) (x := .tmp 5) (p := ?lpb2) (v := ?lvb2) ?lgb2 ?lob2 ?lxb2 ?lrb2 ?lhb2); (case lgb2 => rfl); (case lob2 => rfl); (case lxb2 => rfl); (case lrb2 => exact hl2))
     | (go_at_call 33; (with_reducible refine HID.out.mono ?_); rintro e w3 ⟨rfl, hb3⟩; have HHI := Lib.hid (run_holdI w3 y HL.out); have hb4 := heldI_below w3 y; have hb24 := hb3.trans (hb4.mono hb3.size); have hbr4 := HB2.out.trans (hb24.mono HB2.out.size); have HTB5 := Lib.hid ((HTB.out.below hbr4 HTB.out.lt).skip HNE.out); have HB5 := Lib.hid (HBL.out.trans (hbr4.mono HBL.out.size)); clear hb3 hb4 hb24 hbr4 HID)
     | ((with_reducible refine step_store_run (t := 24) (x := .tmp 6) (y := .tmp 18) (p := ?spb2) (v := ?svb2) (w' := ?swb2) ?sgb2 ?sob2 ?sxb2 ?syb2 ?srb2 ?shb2); (case sgb2 => rfl); (case sob2 => rfl); (case sxb2 => rfl); (case syb2 => rfl); (case srb2 => exact HHI.out)))
    go_roundw
    case rel => exact ⟨k + 1, hlt, by push_cast; rfl, by rw [HSN.out]; exact HTB5.out, HB5.out⟩
    case measure => simp [intOf]; omega
  ·
   obtain rfl : k = n := by omega
   have HE : Hid ((hs P).take k = hs P) := Lib.hid (List.take_of_length_le (by rw [hs_len, ← HNN.out]; exact Nat.le_refl _))
   clear hlt htb hbl
   go_wp2_with fail
   go_ret
   exact ⟨M, rfl, Nat.le_of_eq HM.out.symm, by rw [← HE.out]; exact HTB.out, HBL.out⟩
end Go.Proofs.YtpeneeddfgmjpaaGreatDoor.rul

namespace Go.Proofs.YtpeneeddfgmjpaaGreatDoor.rul
open Go.RowKit Go.Proofs.YtpeneeddfgmjpaaGreatDoor.mem Go.Proofs.YtpeneeddfgmjpaaGreatDoor.sha Go.Proofs.YtpeneeddfgmjpaaGreatDoor.ids Go.Proofs.YtpeneeddfgmjpaaGreatDoor.rows Go.Proofs.YtpeneeddfgmjpaaGreatDoor.hdr Go.Proofs.YtpeneeddfgmjpaaGreatDoor.hds
open Go.Proofs.YtpeneeddfgmjpaaGreatDoor.opn (zid)

theorem info_pl : (Tryz.prog.info? 60).map (·.size) = some 33 := by kernel_rfl
theorem agg_pl (w : World) : (isAgg 60).run Tryz.prog w = .ok true w := by
 unfold isAgg
 rw [Sem.run_bind, run_underlying Tryz.underlying60 w]
 rfl
theorem run_load_pl {w : World} {b o : Nat} {x : Ky} (hc : ∀ j u, (plv x)[j]? = some u → w.cell? ⟨b, o + j, none⟩ = some u) (hx : x.2.length = 32) : (Instr.loadAt 60 (.pointer (some ⟨b, o, none⟩))).run Tryz.prog w = .ok (.agg (plv x).toArray) w := by
 have hl : (loadCells ⟨b, o, none⟩ (plv x).length).run Tryz.prog w = .ok (plv x).toArray w :=
  run_loadCells_list (P := Tryz.prog) w ⟨b, o, none⟩ (plv x) (fun j u hu => by rw [Addr.add_lit]; exact hc j u hu)
 have hi := info_pl
 cases hq : Tryz.prog.info? 60 with
 | none => simp [hq] at hi
 | some i =>
  have hs : i.size = (plv x).length := by rw [plv_len hx]; simpa [hq] using hi
  simp [Instr.loadAt, Instr.sureAddr, loadVar, Sem.run_bind, agg_pl, sizeOf, typeInfo, hq, hs, hl]
def zky : Ky := (0, zid)
def heldP (w : World) (x : Ky) : World := (w.alloc (.cells (plv zky).toArray 60)).setRow w.heap.size (plv x).toArray
theorem run_holdP (w : World) (x : Ky) (hx : x.2.length = 32) : (Instr.storeAt 60 (.pointer (some ⟨w.heap.size, 0, none⟩)) (.agg (plv x).toArray)).run Tryz.prog (w.alloc (.cells (plv zky).toArray 60)) = .ok () (heldP w x) := by
 have hz : (plv zky).toArray.size = 33 := by rw [List.size_toArray, plv_len zid32]
 have := run_store_cells (Blk.new w 60 (plv zky).toArray) 60 (plv x) (off := 0) (by rw [info_pl, plv_len hx]) (plv_one x) (by rw [plv_len hx, hz]; exact Nat.le_refl _)
 rw [splice_all _ _ (by rw [plv_len hx, hz])] at this
 exact this
theorem heldP_blk (w : World) (x : Ky) : Blk (heldP w x) w.heap.size 60 (plv x).toArray := setRow_heap _ _ _ _ _ _ (Blk.new w 60 (plv zky).toArray)
theorem heldP_below (w : World) (x : Ky) : Below w.heap.size w (heldP w x) := below_row' ((Below.refl _ _).alloc (Nat.le_refl _) _) (Nat.le_refl _) _
theorem place_lit (w : World) (h : Int) (c0 c1 c2 c3 c4 c5 c6 c7 c8 c9 c10 c11 c12 c13 c14 c15 c16 c17 c18 c19 c20 c21 c22 c23 c24 c25 c26 c27 c28 c29 c30 c31 : Value) : (Instr.build 60 #[(0, .int .i64 h), (1, .agg #[c0, c1, c2, c3, c4, c5, c6, c7, c8, c9, c10, c11, c12, c13, c14, c15, c16, c17, c18, c19, c20, c21, c22, c23, c24, c25, c26, c27, c28, c29, c30, c31])]).run Tryz.prog w = .ok (.agg #[.int .i64 h, c0, c1, c2, c3, c4, c5, c6, c7, c8, c9, c10, c11, c12, c13, c14, c15, c16, c17, c18, c19, c20, c21, c22, c23, c24, c25, c26, c27, c28, c29, c30, c31]) w := by kernel_rfl
theorem run_build_pl (w : World) (x : Ky) (hx : x.2.length = 32) : (Instr.build 60 #[(0, .int .i64 x.1), (1, .agg (bv x.2).toArray)]).run Tryz.prog w = .ok (.agg (plv x).toArray) w := by
 obtain ⟨h, c⟩ := x
 unfold plv
 dsimp only at hx ⊢
 obtain ⟨c0, d1, rfl, h1⟩ := len_cons hx
 obtain ⟨c1, d2, rfl, h2⟩ := len_cons h1
 obtain ⟨c2, d3, rfl, h3⟩ := len_cons h2
 obtain ⟨c3, d4, rfl, h4⟩ := len_cons h3
 obtain ⟨c4, d5, rfl, h5⟩ := len_cons h4
 obtain ⟨c5, d6, rfl, h6⟩ := len_cons h5
 obtain ⟨c6, d7, rfl, h7⟩ := len_cons h6
 obtain ⟨c7, d8, rfl, h8⟩ := len_cons h7
 obtain ⟨c8, d9, rfl, h9⟩ := len_cons h8
 obtain ⟨c9, d10, rfl, h10⟩ := len_cons h9
 obtain ⟨c10, d11, rfl, h11⟩ := len_cons h10
 obtain ⟨c11, d12, rfl, h12⟩ := len_cons h11
 obtain ⟨c12, d13, rfl, h13⟩ := len_cons h12
 obtain ⟨c13, d14, rfl, h14⟩ := len_cons h13
 obtain ⟨c14, d15, rfl, h15⟩ := len_cons h14
 obtain ⟨c15, d16, rfl, h16⟩ := len_cons h15
 obtain ⟨c16, d17, rfl, h17⟩ := len_cons h16
 obtain ⟨c17, d18, rfl, h18⟩ := len_cons h17
 obtain ⟨c18, d19, rfl, h19⟩ := len_cons h18
 obtain ⟨c19, d20, rfl, h20⟩ := len_cons h19
 obtain ⟨c20, d21, rfl, h21⟩ := len_cons h20
 obtain ⟨c21, d22, rfl, h22⟩ := len_cons h21
 obtain ⟨c22, d23, rfl, h23⟩ := len_cons h22
 obtain ⟨c23, d24, rfl, h24⟩ := len_cons h23
 obtain ⟨c24, d25, rfl, h25⟩ := len_cons h24
 obtain ⟨c25, d26, rfl, h26⟩ := len_cons h25
 obtain ⟨c26, d27, rfl, h27⟩ := len_cons h26
 obtain ⟨c27, d28, rfl, h28⟩ := len_cons h27
 obtain ⟨c28, d29, rfl, h29⟩ := len_cons h28
 obtain ⟨c29, d30, rfl, h30⟩ := len_cons h29
 obtain ⟨c30, d31, rfl, h31⟩ := len_cons h30
 obtain ⟨c31, d32, rfl, h32⟩ := len_cons h31
 obtain rfl : d32 = [] := List.eq_nil_of_length_eq_zero h32
 exact place_lit w h _ _ _ _ _ _ _ _ _ _ _ _ _ _ _ _ _ _ _ _ _ _ _ _ _ _ _ _ _ _ _ _
theorem info_pl3 : (Tryz.prog.info? 60).map (fun i => (i.zero, i.size, i.bytes)) = some (some (.agg (plv zky).toArray), 33, 40) := by kernel_rfl
theorem elpl : ElK 55 60 33 40 (.agg (plv zky).toArray) := ⟨Tryz.underlying55, info_pl3, rfl, by decide⟩
/-- '[]place{x}' -/
theorem run_build1p (w : World) (x : Ky) (hx : x.2.length = 32) : (Instr.buildSlice 55 1 #[(0, .agg (plv x).toArray)]).run Tryz.prog w = .ok (.slice (some ⟨w.heap.size, 0, none⟩) 1 1) (w.alloc (.cells (plv x).toArray 60)) := by
 obtain ⟨y, hy, hz, hs, _⟩ := info_parts info_pl3
 have hf : ∀ arr : Array Value, arr.size = 33 → Instr.fill (fun i => some (i * 33, 33)) arr [(0, .agg (plv x).toArray)] = some (plv x).toArray := fun arr ha => by
  have h1 := fold_all (plv x) arr (by rw [ha, plv_len hx])
  have hb : (plv x).length = 33 := plv_len hx
  simp only [Instr.fill, Value.cells, Nat.zero_mul, Nat.zero_add, List.size_toArray, hb, ha]
  simp [h1]
 have hzc : (Value.agg (plv zky).toArray).cells.size = 33 := rfl
 unfold Instr.buildSlice
 simp only [Sem.run_bind, run_underlying Tryz.underlying55, Result.andThen_ok, sizeOf, typeInfo]
 simp only [Nat.one_mul]
 simp [hy, hs, hf, newRow, newObj]
 rfl
theorem step_build1p {ops : Array Oper} {rest : List Oper} {o : Oper} {a : Act} {w : World} {Q : Exit → Act → World → Prop} {x : Operand} {y : Ky} (hg : o.guard = none)
  (ho : o.op = .buildSlice 55 1 #[(0, x)]) (hx : a.eval x = .agg (plv y).toArray) (hr : y.2.length = 32)
  (k : wpList Tryz.prog ops Q rest (a.put o.dst (.slice (some ⟨w.heap.size, 0, none⟩) 1 1)) (w.alloc (.cells (plv y).toArray 60))) : wpList Tryz.prog ops Q (o :: rest) a w := by
 refine wpList_plain hg fun K hK => ?_
 unfold Oper.wp execOp
 have hrun := run_build1p w y hr
 simp only [ho, List.map_toArray, List.map_cons, List.map_nil, hx, Sem.run_bind, hrun, Result.andThen_ok, Sem.run_pure]
 exact hK _ _ k
theorem step_place {ops : Array Oper} {rest : List Oper} {o : Oper} {a : Act} {w : World} {Q : Exit → Act → World → Prop} {x y : Operand} (k : Ky) (hg : o.guard = none)
  (ho : o.op = .build 60 #[(0, x), (1, y)]) (hx : a.eval x = .int .i64 k.1) (hy : a.eval y = .agg (bv k.2).toArray) (hr : k.2.length = 32)
  (h : wpList Tryz.prog ops Q rest (a.put o.dst (.agg (plv k).toArray)) w) : wpList Tryz.prog ops Q (o :: rest) a w :=
 step_build hg ho (by simp only [List.map_toArray, List.map_cons, List.map_nil, hx, hy]) (run_build_pl w k hr) h
/-- one place more -/
theorem push_pl {w : World} {S : Nat} {v : Value} {xs : List (List Value)} (ho : OwnK w (S ≤ ·) 60 33 v xs) (hl : xs.length ≤ 1000) (y : Ky) (hy : y.2.length = 32) (hS : S ≤ w.heap.size) :
  ∃ v' w', (Builtin.append_ #[55, 55] 55 #[v, .slice (some ⟨w.heap.size, 0, none⟩) 1 1]).run Tryz.prog (w.alloc (.cells (plv y).toArray 60)) = .ok v' w' ∧
   OwnK w' (S ≤ ·) 60 33 v' (xs ++ [plv y]) ∧ Below S w w' := by
 have h1 : Below w.heap.size w (w.alloc (.cells (plv y).toArray 60)) := (Below.refl _ _).alloc (Nat.le_refl _) _
 obtain ⟨i0, hi, hz0, hz1, hz2⟩ := info_parts info_pl3
 have hb := Blk.new w 60 (plv y).toArray
 obtain ⟨v', w', hrun, ho', ht⟩ := run_append_k elpl.hu hi hz0 hz1 hz2 elpl.hz (by decide) (ho.next h1) ⟨plv_len hy, plv_one y⟩ (g := w.heap.size) (cap := 1) (fun j u hj => by rw [hb.cell, List.getElem?_toArray]; exact hj) (by omega) (by decide) 55
 have hle := h1.size
 refine ⟨v', w', hrun, ho'.place fun k hk => ?_, (h1.mono hS).trans (ht.below fun k hk => ?_)⟩
 ·
  rcases ho'.2.2 k hk with h | h
  ·
   exact ho.2.2 k h
  ·
   show S ≤ k; omega
 ·
  rcases hk with h | h
  ·
   exact ho.2.2 k h
  ·
   show S ≤ k; omega
/-- the places of headers, as they lie -/
def pls (K : List Hd) : List (List Value) := (pairs K).map fun p => plv (ky p)
theorem pls_len (K : List Hd) : (pls K).length = K.length := by unfold pls pairs; rw [List.length_map, List.length_map]
theorem pls_snoc (K : List Hd) (k : Hd) : pls (K ++ [k]) = pls K ++ [plv (k.height, (idH k).1)] := by unfold pls pairs; rw [List.map_append, List.map_append]; rfl
end Go.Proofs.YtpeneeddfgmjpaaGreatDoor.rul

namespace Go.Proofs.YtpeneeddfgmjpaaGreatDoor.ids
open Go.RowKit Go.Proofs.YtpeneeddfgmjpaaGreatDoor.mem Go.Proofs.YtpeneeddfgmjpaaGreatDoor.sha

set_option maxHeartbeats 1000000 in
set_option maxRecDepth 100000 in
theorem iclone_any {L : List (List UInt8)} {v : Value} {w : World} (h : RdV w v L) (hmax : L.length < 1000000) : Calls Tryz.prog 69 #[v] w fun x w' =>
  ∃ v', x = .returned v' ∧ OwnI w' (w.heap.size ≤ ·) v' L ∧ Below w.heap.size w w' := by
 obtain ⟨ad, cap, rfl⟩ := h.form
 cases ad with
 | none =>
  have hL : L = [] := by
   cases L with
   | nil => rfl
   | cons x L => obtain ⟨b, off, e, _⟩ := h.load (i := 0) (by simp); cases e
  subst hL
  have hc : cap = 0 := by
   obtain ⟨_, _, ad', cap', hv, _, _, h5, _⟩ := h
   cases hv
   exact h5 rfl
  subst hc
  have hnil := fun w => Lib.run_eql_slice_nil (P := Tryz.prog) w 22 24 none 0 0 0 0 Tryz.underlying22
  clear h
  go_enter Tryz.func69, Tryz.ntmps69
  go_wp2_with fail
  go_ret
  exact ⟨_, rfl, OwnI.nil _ _, Below.refl _ _⟩
 | some a =>
  have hnil := fun w => Lib.run_eql_slice_nil (P := Tryz.prog) w 22 24 (some a) L.length cap 0 0 Tryz.underlying22
  have hn0 : New (w.heap.size ≤ ·) w := fun _ h => h
  have hO0 := OwnI.laid0 w (w.heap.size ≤ ·) hn0
  have hb1 : Below w.heap.size w (w.alloc (.cells #[] 24)) := (Below.refl _ _).alloc (Nat.le_refl _) _
  obtain ⟨v', w', hrun, hO, ht⟩ := run_append_rd hO0 (h.next hb1) (by rw [List.length_nil]; omega) (hn0.alloc _) 22
  have hbt : Below w.heap.size w w' := hb1.trans ((ht.mono fun k hk => hk.elim (hO0.2.2 k) (fun h => hn0.alloc _ k h)).below fun k hk => hk)
  rw [List.nil_append] at hO
  have HO := Lib.hid hO
  have HB := Lib.hid hbt
  clear hO hbt ht hO0 hb1 hn0 h
  go_enter Tryz.func69, Tryz.ntmps69
  go_wp2_with ((with_reducible refine step_append (s := .tmp 5) (x := .tmp 6) (t := 22) (vs := ?asma) (vx := ?axma) (v' := ?avma) (w' := ?awma) ?agma ?aoma ?apma ?aqma ?arma ?ahma); (case agma => rfl); (case aoma => rfl); (case apma => rfl); (case aqma => rfl); (case arma => exact hrun))
  go_ret
  exact ⟨_, rfl, HO.out, HB.out⟩

end Go.Proofs.YtpeneeddfgmjpaaGreatDoor.ids

namespace Go.Proofs.YtpeneeddfgmjpaaGreatDoor.srt
open Go.Shelf Go.Proofs
def ren : Ren := ⟨fun | 6 => 71 | 10 => 94 | 11 => 95 | 12 => 96 | 13 => 37 | 14 => 97 | 24 => 66 | 25 => 67 | 26 => 123 | 27 => 124 | 28 => 125 | 29 => 126 | 30 => 127 | 31 => 128 | 32 => 129 | 33 => 130 | 34 => 133 | 35 => 134 | 36 => 135 | 37 => 136 | 38 => 137 | 39 => 139 | n => n, fun | 0 => 0 | 3 => 3 | 4 => 4 | 5 => 5 | 9 => 9 | 12 => 12 | 17 => 17 | 20 => 20 | 26 => 101 | 32 => 129 | 33 => 130 | 35 => 132 | 37 => 134 | 41 => 68 | 44 => 139 | 49 => 97 | 51 => 99 | 53 => 166 | 54 => 167 | 58 => 51 | 60 => 174 | 64 => 126 | 66 => 177 | 67 => 160 | 75 => 184 | 76 => 185 | 77 => 186 | 78 => 187 | 79 => 188 | 80 => 189 | 82 => 191 | n => n, fun n => n⟩
theorem lays : LaysGg.n6 Tryz.prog ren := {
 mixed := by kernel_rfl,
 f6 := Tryz.func71.trans (congrArg some (by kernel_rfl)),
 f10 := Tryz.func94.trans (congrArg some (by kernel_rfl)),
 f11 := Tryz.func95.trans (congrArg some (by kernel_rfl)),
 f12 := Tryz.func96.trans (congrArg some (by kernel_rfl)),
 f13 := Tryz.func37.trans (congrArg some (by kernel_rfl)),
 f14 := Tryz.func97.trans (congrArg some (by kernel_rfl)),
 f24 := Tryz.func66.trans (congrArg some (by kernel_rfl)),
 f25 := Tryz.func67.trans (congrArg some (by kernel_rfl)),
 f26 := Tryz.func123.trans (congrArg some (by kernel_rfl)),
 f27 := Tryz.func124.trans (congrArg some (by kernel_rfl)),
 f28 := Tryz.func125.trans (congrArg some (by kernel_rfl)),
 f29 := Tryz.func126.trans (congrArg some (by kernel_rfl)),
 f30 := Tryz.func127.trans (congrArg some (by kernel_rfl)),
 f31 := Tryz.func128.trans (congrArg some (by kernel_rfl)),
 f32 := Tryz.func129.trans (congrArg some (by kernel_rfl)),
 f33 := Tryz.func130.trans (congrArg some (by kernel_rfl)),
 f34 := Tryz.func133.trans (congrArg some (by kernel_rfl)),
 f35 := Tryz.func134.trans (congrArg some (by kernel_rfl)),
 f36 := Tryz.func135.trans (congrArg some (by kernel_rfl)),
 f37 := Tryz.func136.trans (congrArg some (by kernel_rfl)),
 f38 := Tryz.func137.trans (congrArg some (by kernel_rfl)),
 f39 := Tryz.func139.trans (congrArg some (by kernel_rfl)),
 t0 := Tryz.underlying0,
 a0 := Tryz.isAgg0,
 z0 := Tryz.sizeOf0,
 v0 := Tryz.zeroValue0,
 i0 := by kernel_rfl,
 t3 := Tryz.underlying3,
 a3 := Tryz.isAgg3,
 z3 := Tryz.sizeOf3,
 v3 := Tryz.zeroValue3,
 i3 := by kernel_rfl,
 t4 := Tryz.underlying4,
 a4 := Tryz.isAgg4,
 z4 := Tryz.sizeOf4,
 v4 := Tryz.zeroValue4,
 i4 := by kernel_rfl,
 t5 := Tryz.underlying5,
 a5 := Tryz.isAgg5,
 z5 := Tryz.sizeOf5,
 v5 := Tryz.zeroValue5,
 i5 := by kernel_rfl,
 t9 := Tryz.underlying9,
 a9 := Tryz.isAgg9,
 z9 := Tryz.sizeOf9,
 v9 := Tryz.zeroValue9,
 i9 := by kernel_rfl,
 t12 := Tryz.underlying12,
 a12 := Tryz.isAgg12,
 z12 := Tryz.sizeOf12,
 v12 := Tryz.zeroValue12,
 i12 := by kernel_rfl,
 t17 := Tryz.underlying17,
 a17 := Tryz.isAgg17,
 z17 := Tryz.sizeOf17,
 v17 := Tryz.zeroValue17,
 i17 := by kernel_rfl,
 t20 := Tryz.underlying20,
 a20 := Tryz.isAgg20,
 z20 := Tryz.sizeOf20,
 v20 := Tryz.zeroValue20,
 i20 := by kernel_rfl,
 t26 := Tryz.underlying101,
 a26 := Tryz.isAgg101,
 z26 := Tryz.sizeOf101,
 v26 := Tryz.zeroValue101,
 i26 := by kernel_rfl,
 t32 := Tryz.underlying129,
 a32 := Tryz.isAgg129,
 z32 := Tryz.sizeOf129,
 v32 := Tryz.zeroValue129,
 i32 := by kernel_rfl,
 t33 := Tryz.underlying130,
 a33 := Tryz.isAgg130,
 z33 := Tryz.sizeOf130,
 v33 := Tryz.zeroValue130,
 i33 := by kernel_rfl,
 t35 := Tryz.underlying132,
 a35 := Tryz.isAgg132,
 z35 := Tryz.sizeOf132,
 v35 := Tryz.zeroValue132,
 i35 := by kernel_rfl,
 t37 := Tryz.underlying134,
 a37 := Tryz.isAgg134,
 z37 := Tryz.sizeOf134,
 v37 := Tryz.zeroValue134,
 i37 := by kernel_rfl,
 t41 := Tryz.underlying68,
 a41 := Tryz.isAgg68,
 z41 := Tryz.sizeOf68,
 v41 := Tryz.zeroValue68,
 i41 := by kernel_rfl,
 t44 := Tryz.underlying139,
 a44 := Tryz.isAgg139,
 z44 := Tryz.sizeOf139,
 v44 := Tryz.zeroValue139,
 i44 := by kernel_rfl,
 t49 := Tryz.underlying97,
 a49 := Tryz.isAgg97,
 z49 := Tryz.sizeOf97,
 v49 := Tryz.zeroValue97,
 i49 := by kernel_rfl,
 t51 := Tryz.underlying99,
 a51 := Tryz.isAgg99,
 z51 := Tryz.sizeOf99,
 v51 := Tryz.zeroValue99,
 i51 := by kernel_rfl,
 t53 := Tryz.underlying166,
 a53 := Tryz.isAgg166,
 z53 := Tryz.sizeOf166,
 v53 := Tryz.zeroValue166,
 i53 := by kernel_rfl,
 t54 := Tryz.underlying167,
 a54 := Tryz.isAgg167,
 z54 := Tryz.sizeOf167,
 v54 := Tryz.zeroValue167,
 i54 := by kernel_rfl,
 t58 := Tryz.underlying51,
 a58 := Tryz.isAgg51,
 z58 := Tryz.sizeOf51,
 v58 := Tryz.zeroValue51,
 i58 := by kernel_rfl,
 t60 := Tryz.underlying174,
 a60 := Tryz.isAgg174,
 z60 := Tryz.sizeOf174,
 v60 := Tryz.zeroValue174,
 i60 := by kernel_rfl,
 t64 := Tryz.underlying126,
 a64 := Tryz.isAgg126,
 z64 := Tryz.sizeOf126,
 v64 := Tryz.zeroValue126,
 i64 := by kernel_rfl,
 t66 := Tryz.underlying177,
 a66 := Tryz.isAgg177,
 z66 := Tryz.sizeOf177,
 v66 := Tryz.zeroValue177,
 i66 := by kernel_rfl,
 t67 := Tryz.underlying160,
 a67 := Tryz.isAgg160,
 z67 := Tryz.sizeOf160,
 v67 := Tryz.zeroValue160,
 i67 := by kernel_rfl,
 t75 := Tryz.underlying184,
 a75 := Tryz.isAgg184,
 z75 := Tryz.sizeOf184,
 v75 := Tryz.zeroValue184,
 i75 := by kernel_rfl,
 t76 := Tryz.underlying185,
 a76 := Tryz.isAgg185,
 z76 := Tryz.sizeOf185,
 v76 := Tryz.zeroValue185,
 i76 := by kernel_rfl,
 t77 := Tryz.underlying186,
 a77 := Tryz.isAgg186,
 z77 := Tryz.sizeOf186,
 v77 := Tryz.zeroValue186,
 i77 := by kernel_rfl,
 t78 := Tryz.underlying187,
 a78 := Tryz.isAgg187,
 z78 := Tryz.sizeOf187,
 v78 := Tryz.zeroValue187,
 i78 := by kernel_rfl,
 t79 := Tryz.underlying188,
 a79 := Tryz.isAgg188,
 z79 := Tryz.sizeOf188,
 v79 := Tryz.zeroValue188,
 i79 := by kernel_rfl,
 t80 := Tryz.underlying189,
 a80 := Tryz.isAgg189,
 z80 := Tryz.sizeOf189,
 v80 := Tryz.zeroValue189,
 i80 := by kernel_rfl,
 t82 := Tryz.underlying191,
 a82 := Tryz.isAgg191,
 z82 := Tryz.sizeOf191,
 v82 := Tryz.zeroValue191,
 i82 := by kernel_rfl }
end Go.Proofs.YtpeneeddfgmjpaaGreatDoor.srt

namespace Go.Proofs.YtpeneeddfgmjpaaGreatDoor.srt
open Go.RowKit Go.Proofs.YtpeneeddfgmjpaaGreatDoor.mem Go.Proofs.YtpeneeddfgmjpaaGreatDoor.sha Go.Proofs.YtpeneeddfgmjpaaGreatDoor.ids Go.Sort

abbrev I32 := {x : List UInt8 // x.length = 32}
instance : Inhabited I32 := ⟨⟨List.replicate 32 0, rfl⟩⟩
def enc (x : I32) : List Value := bv x.1
theorem enc_len (x : I32) : (enc x).length = 32 := by unfold enc; rw [bv_length]; exact x.2
theorem enc_one (x : I32) : ∀ v ∈ enc x, v.oneCell' = true := by
 intro v hv
 simp only [enc, bv, List.mem_map] at hv
 obtain ⟨y, _, rfl⟩ := hv
 rfl
def lt (x y : I32) : Bool := decide (cmpL x.1 y.1 < 0)
theorem swo : SWO lt where
 irrefl x := by unfold lt; rw [cmpL_self]; rfl
 trans x y z h k := decide_eq_true (cmpL_trans _ _ _ (of_decide_eq_true h) (of_decide_eq_true k))
 ntrans x y z h k := by
  have h1 : ¬ cmpL x.1 y.1 < 0 := of_decide_eq_false h
  have h2 : ¬ cmpL y.1 z.1 < 0 := of_decide_eq_false k
  refine decide_eq_false fun h3 => ?_
  have e1 := cmpL_neg x.1 y.1
  rcases Int.lt_or_eq_of_le (show cmpL y.1 x.1 ≤ 0 by omega) with h4 | h4
  ·
   exact h2 (cmpL_trans _ _ _ h4 h3)
  ·
   rw [cmpL_zero _ _ h4] at h2
   exact h2 h3

/-- the row: its block, its place, how many ids; it holds d -/
structure St (blk off n : Nat) (d : Array I32) (w : World) : Prop where
 size : d.size = n
 holds : HoldsK enc 32 w blk off d
 lt : blk < w.heap.size
/-- the row keeps its size, its type and its mark -/
def Keeps (blk : Nat) (w w' : World) : Prop := ∀ (t : TypeId) (m : Nat × Nat) (cur : Array Value), w.heap[blk]? = some (.cells cur t m) → ∃ cur', w'.heap[blk]? = some (.cells cur' t m) ∧ cur'.size = cur.size
theorem Keeps.refl (blk : Nat) (w : World) : Keeps blk w w := fun _ _ cur h => ⟨cur, h, rfl⟩
theorem Keeps.trans {blk : Nat} {w w' w'' : World} (h : Keeps blk w w') (k : Keeps blk w' w'') : Keeps blk w w'' := fun t m cur hc => by
 obtain ⟨c1, h1, e1⟩ := h t m cur hc
 obtain ⟨c2, h2, e2⟩ := k t m c1 h1
 exact ⟨c2, h2, e2.trans e1⟩
theorem Keeps.of {blk : Nat} {w w' : World} (h : blk < w.heap.size → w'.heap[blk]? = w.heap[blk]?) : Keeps blk w w' := fun _t _m cur hc => ⟨cur, (h (Array.getElem?_eq_some_iff.1 hc).1).trans hc, rfl⟩
/-- only the row has turned, and new blocks -/
structure Tr (blk : Nat) (w w' : World) : Prop where
 turn : Turn (fun k => k = blk ∨ w.heap.size ≤ k) w w'
 keeps : Keeps blk w w'

section
variable {blk off n : Nat} {d : Array I32} {w w' w'' : World}
theorem St.below (h : St blk off n d w) (hb : RowKit.Below w.heap.size w w') : St blk off n d w' :=
 ⟨h.size, fun j hj => ⟨(hb.cell (p := ⟨blk, off + j, none⟩) h.lt).trans (h.holds j hj).1, (World.frozen?_of_block (hb.block blk h.lt)).trans (h.holds j hj).2⟩, Nat.lt_of_lt_of_le h.lt hb.size⟩
theorem Tr.refl (blk : Nat) (w : World) : Tr blk w w := ⟨Turn.refl _ w, Keeps.refl _ w⟩
theorem Tr.trans (h : Tr blk w w') (k : Tr blk w' w'') : Tr blk w w'' := ⟨Turn.trans h.turn (Turn.mono k.turn fun _i hi => hi.imp id fun hi => Nat.le_trans h.turn.size hi), h.keeps.trans k.keeps⟩
theorem Tr.below (hb : RowKit.Below w.heap.size w w') : Tr blk w w' := ⟨Turn.mono (Turn.ofBelow hb) fun _k hk => .inr hk, Keeps.of fun h => hb.block blk h⟩
theorem Tr.cell (h : Tr blk w w') {p : Addr} (hp : p.block < w.heap.size) (hne : p.block ≠ blk) : w'.cell? p = w.cell? p := World.cell?_of_block (h.turn.block p.block fun e => by rcases e with e | e; exact hne e; exact absurd hp (by omega))
theorem Tr.keep (h : Tr blk w w') {g : Nat} {t : TypeId} {cs : Array Value} (hg : Blk w g t cs) (hne : g ≠ blk) : Blk w' g t cs := hg.turn h.turn fun e => by rcases e with e | e; exact hne e; exact absurd hg.lt (by omega)
theorem Tr.le (h : Tr blk w w') : w.heap.size ≤ w'.heap.size := h.turn.size
end

/-- what the sort is handed: 'less' and 'swap' as values, and what they do -/
structure Env (V H : Value) (blk off n : Nat) : Prop where
 less : ∀ (d : Array I32) (w : World) (i j : Nat), St blk off n d w → i < n → j < n →
  Calls Tryz.prog 70 #[V, .int .i64 i, .int .i64 j] w fun e w' => e = .returned (.bool (lt d[i]! d[j]!)) ∧ RowKit.Below w.heap.size w w'
 swap : ∀ (d : Array I32) (w : World) (i j : Nat), St blk off n d w → i < n → j < n →
  ∃ w', (callFunc 122 #[.int .i64 i, .int .i64 j, V, H]).run Tryz.prog w = .ok (.value (.tuple #[])) w' ∧ St blk off n (swp d i j) w' ∧ Tr blk w w'
def fL (V : Value) : Value := .func (.func 70) #[V] #[]
def fS (V H : Value) : Value := .func (.func 122) #[] #[V, H]
theorem enters_less : ∀ (args : Array Value) (w : World), (callFunc 70 args).run Tryz.prog w = .ok (.enter 70 args) w := enters_of Tryz.func70 (by kernel_rfl) rfl

/-- the pair of both -/
def dat (V H : Value) : Value := .agg #[.func (.func 70) #[V] #[], .func (.func 122) #[] #[V, H]]
def datObj (V H : Value) : Obj := .cells #[.func (.func 70) #[V] #[], .func (.func 122) #[] #[V, H]] 139
/-- a variable of the call's own that holds the pair -/
structure Bx (V H : Value) (blk B : Nat) (w : World) : Prop where
 less : w.cell? ⟨B, 0, none⟩ = some (.func (.func 70) #[V] #[])
 swap : w.cell? ⟨B, 1, none⟩ = some (.func (.func 122) #[] #[V, H])
 ne : B ≠ blk
 lt : B < w.heap.size
theorem Bx.turn {V H : Value} {blk B : Nat} {w w' : World} (h : Bx V H blk B w) (ht : Tr blk w w') : Bx V H blk B w' :=
 ⟨(ht.cell h.lt h.ne).trans h.less, (ht.cell h.lt h.ne).trans h.swap, h.ne, Nat.lt_of_lt_of_le h.lt ht.le⟩
theorem Bx.new {V H : Value} {blk off n : Nat} {d : Array I32} {w : World} (h : St blk off n d w) : Bx V H blk w.heap.size (w.alloc (datObj V H)) :=
 ⟨by simp [datObj], by simp [datObj], fun e => by have := h.lt; omega, by simp⟩
theorem St.boxed {V H : Value} {blk off n : Nat} {d : Array I32} {w : World} (h : St blk off n d w) : St blk off n d (w.alloc (datObj V H)) := h.below ((RowKit.Below.refl _ w).alloc (Nat.le_refl _) _)
theorem Tr.boxed (V H : Value) (blk : Nat) (w : World) : Tr blk w (w.alloc (datObj V H)) := Tr.below ((RowKit.Below.refl _ w).alloc (Nat.le_refl _) _)
/-- less and swap, from a row and a box -/
theorem Env.lessC {V H : Value} {blk off n : Nat} (E : Env V H blk off n) {d : Array I32} {w : World} (h : St blk off n d w) {i j : Nat} (hi : i < n) (hj : j < n) {x y : Int} (hx : x = (i : Int)) (hy : y = (j : Int)) {r : Bool} (hr : lt d[i]! d[j]! = r) :
  Calls Tryz.prog 70 #[V, .int .i64 x, .int .i64 y] w fun e w' => e = .returned (.bool r) ∧ St blk off n d w' ∧ Tr blk w w' := by
 subst hx; subst hy; subst hr
 exact (E.less d w i j h hi hj).mono fun e w' ⟨he, hb⟩ => ⟨he, h.below hb, Tr.below hb⟩
theorem Env.swapC {V H : Value} {blk off n : Nat} (E : Env V H blk off n) {d : Array I32} {w : World} (h : St blk off n d w) {i j : Nat} (hi : i < n) (hj : j < n) {x y : Int} (hx : x = (i : Int)) (hy : y = (j : Int)) :
  ∃ w', (callFunc 122 #[.int .i64 x, .int .i64 y, V, H]).run Tryz.prog w = .ok (.value (.tuple #[])) w' ∧ St blk off n (swp d i j) w' ∧ Tr blk w w' := by
 subst hx; subst hy
 exact E.swap d w i j h hi hj

/-- the model's own literal -/
theorem swap_holds (blk off n cap : Nat) (d : Array I32) (w : World) (i j : Nat) (hs : St blk off n d w) (hi : i < n) (hj : j < n) :
  ∃ w', (callFunc 122 #[.int .i64 i, .int .i64 j, .slice (some ⟨blk, off, none⟩) n cap, typeHandle Tryz.prog 24]).run Tryz.prog w = .ok (.value (.tuple #[])) w' ∧ St blk off n (swp d i j) w' ∧ Tr blk w w' := by
 have hsz := hs.size
 subst hsz
 obtain ⟨ie, hie, hz⟩ : ∃ ie, Tryz.prog.info? 24 = some ie ∧ ie.size = 32 := by
  have h := info_id'
  cases hx : Tryz.prog.info? 24 with
  | none => rw [hx] at h; cases h
  | some ie => rw [hx] at h; exact ⟨ie, rfl, by injection h⟩
 have h := swapSwapsK_of_literal (P := Tryz.prog) false 122
  (fun args W => run_callFunc_extern Tryz.func122 (by kernel_rfl) (by kernel_rfl) (by kernel_rfl) (e := Extern.ReflectliteSwapper.swap false) (by kernel_rfl) args W)
  24 ie hie enc 32 enc_len hz (fun w => by kernel_rfl) enc_one blk off d.size cap w d hs.holds rfl i j hi hj
 have hk : SWK enc 32 w blk off (swp d i j) _ := (SWK.start hs.holds).swap enc_len hs.lt i j hi hj
 refine ⟨_, h, ⟨size_swp d i j, hk.holds hs.lt hs.holds (size_swp d i j), hk.lt hs.lt⟩, ?_⟩
 obtain ⟨m, os, e⟩ := hk
 rw [e]
 refine ⟨⟨rfl, rfl, rfl, ?_, fun k hk => ?_⟩, fun t mk cur hc => ?_⟩
 ·
  unfold sortWorldK; rw [size_grow, size_putRowK]; exact Nat.le_add_right _ _
 ·
  unfold sortWorldK
  have hlt : k < w.heap.size := by rcases Nat.lt_or_ge k w.heap.size with h | h; exact h; exact absurd (.inr h) hk
  have hne : ¬ blk = k := fun e => hk (.inl e.symm)
  rw [heap_grow_old _ _ (by rw [size_putRowK]; exact hlt)]
  simp [putRowK, putRow, mapBlock, Array.getElem?_modify, hne]
 ·
  unfold sortWorldK
  rw [heap_grow_old _ _ (by rw [size_putRowK]; exact hs.lt)]
  exact ⟨putCells id off (flatK enc 32 (swp d i j)) cur, by simp [putRowK, putRow, mapBlock, onCells, Array.getElem?_modify, Sort.ahead, hc], by unfold putCells; rw [Array.size_mapIdx]⟩
end Go.Proofs.YtpeneeddfgmjpaaGreatDoor.srt
