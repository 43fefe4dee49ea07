/-
  The landed rule: heights of known headers by their ids.
  Places of headers as they lie: loads, stores, literals, one more behind a row.
-/
import Derived.Test.YtpeneeddfgmjpaaGreatDoorRva
import Derived.Test.YtpeneeddfgmjpaaGreatDoorRvg
import Derived.Test.YtpeneeddfgmjpaaGreatDoorHds
namespace Go.Proofs.YtpeneeddfgmjpaaGreatDoor.rul
open Go.RowKit Go.Proofs.YtpeneeddfgmjpaaGreatDoor.mem Go.Proofs.YtpeneeddfgmjpaaGreatDoor.sha Go.Proofs.YtpeneeddfgmjpaaGreatDoor.ids Go.Proofs.YtpeneeddfgmjpaaGreatDoor.rows Go.Proofs.YtpeneeddfgmjpaaGreatDoor.hdr Go.Proofs.YtpeneeddfgmjpaaGreatDoor.hds Go.Proofs.YtpeneeddfgmjpaaGreatDoor.mpk
open Go.Proofs.YtpeneeddfgmjpaaGreatDoor.opn (zid)

set_option maxHeartbeats 8000000 in
set_option maxRecDepth 100000 in
theorem heights_any (v : Value) (P : HP) (w : World) (hT : Tabs w) (hv : HsV w v P) (hf : Few P) (hn : P.length ≤ 1000) :
  Calls Tryz.prog 21 #[v] w fun e w' => ∃ b, e = .returned (.map (some b)) ∧ w.heap.size ≤ b ∧ ToldB w' b (hs P) ∧ Below w.heap.size w w' := by
 obtain ⟨ad, cap, rfl⟩ := hv.form
 obtain ⟨n, hnn⟩ : ∃ n, n = P.length := ⟨_, rfl⟩
 obtain ⟨M, hM⟩ : ∃ M, M = w.heap.size := ⟨_, rfl⟩
 obtain ⟨w1, hw1⟩ : ∃ u, u = w.alloc (.map #[] 0) := ⟨_, rfl⟩
 have htb : ToldB w1 M [] := by rw [hw1, hM]; exact ⟨[], MapB.new _ _ w, fun x _ => rfl⟩
 have hbl : Below w.heap.size w w1 := by rw [hw1]; exact (Below.refl _ _).alloc (Nat.le_refl _) _
 have HT := Lib.hid hT
 have HV := Lib.hid hv
 have HNN := Lib.hid hnn
 have HM := Lib.hid hM
 have HW := Lib.hid hw1
 have HTB := Lib.hid htb
 have HBL := Lib.hid hbl
 rw [← hnn] at hn HV ⊢
 have hmm : (Instr.makeMap 48 none).run Tryz.prog w = .ok (.map (some w.heap.size)) (w.alloc (.map #[] 0)) := rfl
 clear hv hnn hT hM hw1 htb hbl
 go_enter Tryz.func21, Tryz.ntmps21
 go_upto_region 2 with fail
 refine wp_at HW.out.symm ?_
 rw [← HM.out]
 clear HW hmm
 go_wp2_with fail
 go_loopw [11] (fun i wr => ∃ k : Nat, k ≤ n ∧ i = .int .i64 (k : Int) ∧ ToldB wr M ((hs P).take k) ∧ Below w.heap.size w wr) (fun i _ => n - (intOf i).toNat)
 case atStart => exact ⟨0, Nat.zero_le _, rfl, by simpa using HTB.out, HBL.out⟩
 case round =>
  clear HTB HBL
  obtain ⟨k, hk, rfl, htb, hbl⟩ := hrel
  have k0 : (0 : Int) ≤ (k : Int) := Int.natCast_nonneg _
  have HTB := Lib.hid htb
  have HBL := Lib.hid hbl
  by_cases hlt : k < n
  ·
   have kI : (k : Int) < (n : Int) := by omega
   have hkP : k < P.length := by rw [← HNN.out]; exact hlt
   have hv := HV.out.next hbl
   obtain ⟨b, off, rfl, hbb, hld, -, -, -⟩ := hv.at_ hkP
   have hld := hld 0
   have hin := hv.2.get hkP
   have hfw := hf.get hkP
   have hsn := take_hs_succ hkP
   obtain ⟨x, hx⟩ : ∃ x, x = (P.getD k zhp).1 := ⟨_, rfl⟩
   obtain ⟨u, hu⟩ : ∃ u, u = (P.getD k zhp).2 := ⟨_, rfl⟩
   rw [← hx, ← hu] at hld hin
   rw [← hx] at hfw hsn
   have hh := run_hold wr x u hin.2 (rdv_one hin.1)
   have hkb := held_blk wr x u
   have hb2 := held_below wr x u
   obtain ⟨w2, hw2⟩ : ∃ z, z = heldW wr x u := ⟨_, rfl⟩
   rw [← hw2] at hh hkb hb2
   have hl2 := run_load_hd hkb hin.2
   have hid := lident_any x u w2 (HT.out.next (hbl.trans (hb2.mono hbl.size))) hin.2 (hin.1.next hb2) hfw.1 hfw.2
   have hl32 := idH_len x
   obtain ⟨y, hy⟩ : ∃ y, y = (idH x).1 := ⟨_, rfl⟩
   obtain ⟨er, her⟩ : ∃ e, e = (idH x).2 := ⟨_, rfl⟩
   rw [← hy, ← her] at hid
   rw [← hy] at hl32
   obtain ⟨hv0, hhv⟩ : ∃ z, z = hdv x u := ⟨_, rfl⟩
   rw [← hhv] at hld hid hl2 hh
   have HID := Lib.hid hid
   have HH := Lib.hid hh
   have HL := Lib.hid hl32
   have HKB := Lib.hid hkb
   have HB2 := Lib.hid hb2
   have HR := Lib.hid hin.2
   have HSN := Lib.hid hsn
   have HY := Lib.hid hy
   have HER := Lib.hid her
   clear htb hbl hv hbb hin hfw hsn hx hu hh hkb hb2 hw2 hid hl32 hy her hhv hkP
   by_cases he : er = 0
   ·
    subst he
    go_wp2_with (first
     | ((with_reducible refine step_load (t := 26) (x := .tmp 13) (p := ?lpa1) (v := ?lva1) ?lga1 ?loa1 ?lxa1 ?lra1 ?lha1); (case lga1 => rfl); (case loa1 => rfl); (case lxa1 => rfl); (case lra1 => exact hld))
     | ((with_reducible refine step_store_run (t := 26) (x := .tmp 5) (y := .tmp 14) (p := ?spa1) (v := ?sva1) (w' := ?swa1) ?sga1 ?soa1 ?sxa1 ?sya1 ?sra1 ?sha1); (case sga1 => rfl); (case soa1 => rfl); (case sxa1 => rfl); (case sya1 => rfl); (case sra1 => exact HH.out))
     | ((with_reducible refine step_load (t := 26) (x := .tmp 5) (p := ?lpb1) (v := ?lvb1) ?lgb1 ?lob1 ?lxb1 ?lrb1 ?lhb1); (case lgb1 => rfl); (case lob1 => rfl); (case lxb1 => rfl); (case lrb1 => exact hl2))
     | (go_at_call 33; (with_reducible refine HID.out.mono ?_); rintro e w3 ⟨rfl, hb3⟩; have HHI := Lib.hid (run_holdI w3 y HL.out); have hb4 := heldI_below w3 y; have hl4 := box_load (heldI_blk w3 y) HL.out 0; have hx4 := (HKB.out.below hb3 HKB.out.lt).below hb4 (Nat.lt_of_lt_of_le HKB.out.lt hb3.size); have c1 := (HdBlk.of hx4 HR.out).height; have hb24 := hb3.trans (hb4.mono hb3.size); have hbr4 := HB2.out.trans (hb24.mono HB2.out.size); obtain ⟨w5, hmu, htb5, ht5⟩ := (HTB.out.below hbr4 HTB.out.lt).tell x HER.out.symm; rw [← HY.out] at hmu; have HMU := Lib.hid hmu; have HTB5 := Lib.hid htb5; have HB5 := Lib.hid ((HBL.out.trans (hbr4.mono HBL.out.size)).trans (ht5.below fun b hb => (show w.heap.size ≤ b by have := HM.out; omega))); clear hb3 hb4 hx4 hb24 hbr4 hmu htb5 ht5 HID)
     | ((with_reducible refine step_store_run (t := 24) (x := .tmp 6) (y := .tmp 18) (p := ?spb1) (v := ?svb1) (w' := ?swb1) ?sgb1 ?sob1 ?sxb1 ?syb1 ?srb1 ?shb1); (case sgb1 => rfl); (case sob1 => rfl); (case sxb1 => rfl); (case syb1 => rfl); (case srb1 => exact HHI.out))
     | ((with_reducible refine step_load (t := 24) (x := .tmp 6) (p := ?lpc1) (v := ?lvc1) ?lgc1 ?loc1 ?lxc1 ?lrc1 ?lhc1); (case lgc1 => rfl); (case loc1 => rfl); (case lxc1 => rfl); (case lrc1 => exact hl4))
     | ((with_reducible refine step_mapstore (t := 48) (x := .tmp 22) (i := .tmp 23) (y := .tmp 25) (m := ?mma1) (k := ?mka1) (v := ?mva1) (w' := ?mwa1) ?mga1 ?moa1 ?mxa1 ?mia1 ?mya1 ?mra1 ?mha1); (case mga1 => rfl); (case moa1 => rfl); (case mxa1 => rfl); (case mia1 => rfl); (case mya1 => rfl); (case mra1 => exact HMU.out)))
    go_roundw
    case rel => exact ⟨k + 1, hlt, by push_cast; rfl, by rw [HSN.out]; exact HTB5.out, HB5.out⟩
    case measure => simp [intOf]; omega
   ·
    have hne : (er == 0) = false := beq_eq_false_iff_ne.2 he
    have HNE : Hid ((idH x).2 ≠ 0) := Lib.hid (by rw [← HER.out]; exact he)
    clear he
    go_wp2_with (first
     | ((with_reducible refine step_load (t := 26) (x := .tmp 13) (p := ?lpa2) (v := ?lva2) ?lga2 ?loa2 ?lxa2 ?lra2 ?lha2); (case lga2 => rfl); (case loa2 => rfl); (case lxa2 => rfl); (case lra2 => exact hld))
     | ((with_reducible refine step_store_run (t := 26) (x := .tmp 5) (y := .tmp 14) (p := ?spa2) (v := ?sva2) (w' := ?swa2) ?sga2 ?soa2 ?sxa2 ?sya2 ?sra2 ?sha2); (case sga2 => rfl); (case soa2 => rfl); (case sxa2 => rfl); (case sya2 => rfl); (case sra2 => exact HH.out))
     | ((with_reducible refine step_load (t := 26) (x := .tmp 5) (p := ?lpb2) (v := ?lvb2) ?lgb2 ?lob2 ?lxb2 ?lrb2 ?lhb2); (case lgb2 => rfl); (case lob2 => rfl); (case lxb2 => rfl); (case lrb2 => exact hl2))
     | (go_at_call 33; (with_reducible refine HID.out.mono ?_); rintro e w3 ⟨rfl, hb3⟩; have HHI := Lib.hid (run_holdI w3 y HL.out); have hb4 := heldI_below w3 y; have hb24 := hb3.trans (hb4.mono hb3.size); have hbr4 := HB2.out.trans (hb24.mono HB2.out.size); have HTB5 := Lib.hid ((HTB.out.below hbr4 HTB.out.lt).skip HNE.out); have HB5 := Lib.hid (HBL.out.trans (hbr4.mono HBL.out.size)); clear hb3 hb4 hb24 hbr4 HID)
     | ((with_reducible refine step_store_run (t := 24) (x := .tmp 6) (y := .tmp 18) (p := ?spb2) (v := ?svb2) (w' := ?swb2) ?sgb2 ?sob2 ?sxb2 ?syb2 ?srb2 ?shb2); (case sgb2 => rfl); (case sob2 => rfl); (case sxb2 => rfl); (case syb2 => rfl); (case srb2 => exact HHI.out)))
    go_roundw
    case rel => exact ⟨k + 1, hlt, by push_cast; rfl, by rw [HSN.out]; exact HTB5.out, HB5.out⟩
    case measure => simp [intOf]; omega
  ·
   obtain rfl : k = n := by omega
   have HE : Hid ((hs P).take k = hs P) := Lib.hid (List.take_of_length_le (by rw [hs_len, ← HNN.out]; exact Nat.le_refl _))
   clear hlt htb hbl
   go_wp2_with fail
   go_ret
   exact ⟨M, rfl, Nat.le_of_eq HM.out.symm, by rw [← HE.out]; exact HTB.out, HBL.out⟩
end Go.Proofs.YtpeneeddfgmjpaaGreatDoor.rul

namespace Go.Proofs.YtpeneeddfgmjpaaGreatDoor.rul
open Go.RowKit Go.Proofs.YtpeneeddfgmjpaaGreatDoor.mem Go.Proofs.YtpeneeddfgmjpaaGreatDoor.sha Go.Proofs.YtpeneeddfgmjpaaGreatDoor.ids Go.Proofs.YtpeneeddfgmjpaaGreatDoor.rows Go.Proofs.YtpeneeddfgmjpaaGreatDoor.hdr Go.Proofs.YtpeneeddfgmjpaaGreatDoor.hds
open Go.Proofs.YtpeneeddfgmjpaaGreatDoor.opn (zid)

theorem info_pl : (Tryz.prog.info? 60).map (·.size) = some 33 := by kernel_rfl
theorem agg_pl (w : World) : (isAgg 60).run Tryz.prog w = .ok true w := by
 unfold isAgg
 rw [Sem.run_bind, run_underlying Tryz.underlying60 w]
 rfl
theorem run_load_pl {w : World} {b o : Nat} {x : Ky} (hc : ∀ j u, (plv x)[j]? = some u → w.cell? ⟨b, o + j, none⟩ = some u) (hx : x.2.length = 32) : (Instr.loadAt 60 (.pointer (some ⟨b, o, none⟩))).run Tryz.prog w = .ok (.agg (plv x).toArray) w := by
 have hl : (loadCells ⟨b, o, none⟩ (plv x).length).run Tryz.prog w = .ok (plv x).toArray w :=
  run_loadCells_list (P := Tryz.prog) w ⟨b, o, none⟩ (plv x) (fun j u hu => by rw [Addr.add_lit]; exact hc j u hu)
 have hi := info_pl
 cases hq : Tryz.prog.info? 60 with
 | none => simp [hq] at hi
 | some i =>
  have hs : i.size = (plv x).length := by rw [plv_len hx]; simpa [hq] using hi
  simp [Instr.loadAt, Instr.sureAddr, loadVar, Sem.run_bind, agg_pl, sizeOf, typeInfo, hq, hs, hl]
def zky : Ky := (0, zid)
def heldP (w : World) (x : Ky) : World := (w.alloc (.cells (plv zky).toArray 60)).setRow w.heap.size (plv x).toArray
theorem run_holdP (w : World) (x : Ky) (hx : x.2.length = 32) : (Instr.storeAt 60 (.pointer (some ⟨w.heap.size, 0, none⟩)) (.agg (plv x).toArray)).run Tryz.prog (w.alloc (.cells (plv zky).toArray 60)) = .ok () (heldP w x) := by
 have hz : (plv zky).toArray.size = 33 := by rw [List.size_toArray, plv_len zid32]
 have := run_store_cells (Blk.new w 60 (plv zky).toArray) 60 (plv x) (off := 0) (by rw [info_pl, plv_len hx]) (plv_one x) (by rw [plv_len hx, hz]; exact Nat.le_refl _)
 rw [splice_all _ _ (by rw [plv_len hx, hz])] at this
 exact this
theorem heldP_blk (w : World) (x : Ky) : Blk (heldP w x) w.heap.size 60 (plv x).toArray := setRow_heap _ _ _ _ _ _ (Blk.new w 60 (plv zky).toArray)
theorem heldP_below (w : World) (x : Ky) : Below w.heap.size w (heldP w x) := below_row' ((Below.refl _ _).alloc (Nat.le_refl _) _) (Nat.le_refl _) _
theorem place_lit (w : World) (h : Int) (c0 c1 c2 c3 c4 c5 c6 c7 c8 c9 c10 c11 c12 c13 c14 c15 c16 c17 c18 c19 c20 c21 c22 c23 c24 c25 c26 c27 c28 c29 c30 c31 : Value) : (Instr.build 60 #[(0, .int .i64 h), (1, .agg #[c0, c1, c2, c3, c4, c5, c6, c7, c8, c9, c10, c11, c12, c13, c14, c15, c16, c17, c18, c19, c20, c21, c22, c23, c24, c25, c26, c27, c28, c29, c30, c31])]).run Tryz.prog w = .ok (.agg #[.int .i64 h, c0, c1, c2, c3, c4, c5, c6, c7, c8, c9, c10, c11, c12, c13, c14, c15, c16, c17, c18, c19, c20, c21, c22, c23, c24, c25, c26, c27, c28, c29, c30, c31]) w := by kernel_rfl
theorem run_build_pl (w : World) (x : Ky) (hx : x.2.length = 32) : (Instr.build 60 #[(0, .int .i64 x.1), (1, .agg (bv x.2).toArray)]).run Tryz.prog w = .ok (.agg (plv x).toArray) w := by
 obtain ⟨h, c⟩ := x
 unfold plv
 dsimp only at hx ⊢
 obtain ⟨c0, d1, rfl, h1⟩ := len_cons hx
 obtain ⟨c1, d2, rfl, h2⟩ := len_cons h1
 obtain ⟨c2, d3, rfl, h3⟩ := len_cons h2
 obtain ⟨c3, d4, rfl, h4⟩ := len_cons h3
 obtain ⟨c4, d5, rfl, h5⟩ := len_cons h4
 obtain ⟨c5, d6, rfl, h6⟩ := len_cons h5
 obtain ⟨c6, d7, rfl, h7⟩ := len_cons h6
 obtain ⟨c7, d8, rfl, h8⟩ := len_cons h7
 obtain ⟨c8, d9, rfl, h9⟩ := len_cons h8
 obtain ⟨c9, d10, rfl, h10⟩ := len_cons h9
 obtain ⟨c10, d11, rfl, h11⟩ := len_cons h10
 obtain ⟨c11, d12, rfl, h12⟩ := len_cons h11
 obtain ⟨c12, d13, rfl, h13⟩ := len_cons h12
 obtain ⟨c13, d14, rfl, h14⟩ := len_cons h13
 obtain ⟨c14, d15, rfl, h15⟩ := len_cons h14
 obtain ⟨c15, d16, rfl, h16⟩ := len_cons h15
 obtain ⟨c16, d17, rfl, h17⟩ := len_cons h16
 obtain ⟨c17, d18, rfl, h18⟩ := len_cons h17
 obtain ⟨c18, d19, rfl, h19⟩ := len_cons h18
 obtain ⟨c19, d20, rfl, h20⟩ := len_cons h19
 obtain ⟨c20, d21, rfl, h21⟩ := len_cons h20
 obtain ⟨c21, d22, rfl, h22⟩ := len_cons h21
 obtain ⟨c22, d23, rfl, h23⟩ := len_cons h22
 obtain ⟨c23, d24, rfl, h24⟩ := len_cons h23
 obtain ⟨c24, d25, rfl, h25⟩ := len_cons h24
 obtain ⟨c25, d26, rfl, h26⟩ := len_cons h25
 obtain ⟨c26, d27, rfl, h27⟩ := len_cons h26
 obtain ⟨c27, d28, rfl, h28⟩ := len_cons h27
 obtain ⟨c28, d29, rfl, h29⟩ := len_cons h28
 obtain ⟨c29, d30, rfl, h30⟩ := len_cons h29
 obtain ⟨c30, d31, rfl, h31⟩ := len_cons h30
 obtain ⟨c31, d32, rfl, h32⟩ := len_cons h31
 obtain rfl : d32 = [] := List.eq_nil_of_length_eq_zero h32
 exact place_lit w h _ _ _ _ _ _ _ _ _ _ _ _ _ _ _ _ _ _ _ _ _ _ _ _ _ _ _ _ _ _ _ _
theorem info_pl3 : (Tryz.prog.info? 60).map (fun i => (i.zero, i.size, i.bytes)) = some (some (.agg (plv zky).toArray), 33, 40) := by kernel_rfl
theorem elpl : ElK 55 60 33 40 (.agg (plv zky).toArray) := ⟨Tryz.underlying55, info_pl3, rfl, by decide⟩
/-- '[]place{x}' -/
theorem run_build1p (w : World) (x : Ky) (hx : x.2.length = 32) : (Instr.buildSlice 55 1 #[(0, .agg (plv x).toArray)]).run Tryz.prog w = .ok (.slice (some ⟨w.heap.size, 0, none⟩) 1 1) (w.alloc (.cells (plv x).toArray 60)) := by
 obtain ⟨y, hy, hz, hs, _⟩ := info_parts info_pl3
 have hf : ∀ arr : Array Value, arr.size = 33 → Instr.fill (fun i => some (i * 33, 33)) arr [(0, .agg (plv x).toArray)] = some (plv x).toArray := fun arr ha => by
  have h1 := fold_all (plv x) arr (by rw [ha, plv_len hx])
  have hb : (plv x).length = 33 := plv_len hx
  simp only [Instr.fill, Value.cells, Nat.zero_mul, Nat.zero_add, List.size_toArray, hb, ha]
  simp [h1]
 have hzc : (Value.agg (plv zky).toArray).cells.size = 33 := rfl
 unfold Instr.buildSlice
 simp only [Sem.run_bind, run_underlying Tryz.underlying55, Result.andThen_ok, sizeOf, typeInfo]
 simp only [Nat.one_mul]
 simp [hy, hs, hf, newRow, newObj]
 rfl
theorem step_build1p {ops : Array Oper} {rest : List Oper} {o : Oper} {a : Act} {w : World} {Q : Exit → Act → World → Prop} {x : Operand} {y : Ky} (hg : o.guard = none)
  (ho : o.op = .buildSlice 55 1 #[(0, x)]) (hx : a.eval x = .agg (plv y).toArray) (hr : y.2.length = 32)
  (k : wpList Tryz.prog ops Q rest (a.put o.dst (.slice (some ⟨w.heap.size, 0, none⟩) 1 1)) (w.alloc (.cells (plv y).toArray 60))) : wpList Tryz.prog ops Q (o :: rest) a w := by
 refine wpList_plain hg fun K hK => ?_
 unfold Oper.wp execOp
 have hrun := run_build1p w y hr
 simp only [ho, List.map_toArray, List.map_cons, List.map_nil, hx, Sem.run_bind, hrun, Result.andThen_ok, Sem.run_pure]
 exact hK _ _ k
theorem step_place {ops : Array Oper} {rest : List Oper} {o : Oper} {a : Act} {w : World} {Q : Exit → Act → World → Prop} {x y : Operand} (k : Ky) (hg : o.guard = none)
  (ho : o.op = .build 60 #[(0, x), (1, y)]) (hx : a.eval x = .int .i64 k.1) (hy : a.eval y = .agg (bv k.2).toArray) (hr : k.2.length = 32)
  (h : wpList Tryz.prog ops Q rest (a.put o.dst (.agg (plv k).toArray)) w) : wpList Tryz.prog ops Q (o :: rest) a w :=
 step_build hg ho (by simp only [List.map_toArray, List.map_cons, List.map_nil, hx, hy]) (run_build_pl w k hr) h
/-- one place more -/
theorem push_pl {w : World} {S : Nat} {v : Value} {xs : List (List Value)} (ho : OwnK w (S ≤ ·) 60 33 v xs) (hl : xs.length ≤ 1000) (y : Ky) (hy : y.2.length = 32) (hS : S ≤ w.heap.size) :
  ∃ v' w', (Builtin.append_ #[55, 55] 55 #[v, .slice (some ⟨w.heap.size, 0, none⟩) 1 1]).run Tryz.prog (w.alloc (.cells (plv y).toArray 60)) = .ok v' w' ∧
   OwnK w' (S ≤ ·) 60 33 v' (xs ++ [plv y]) ∧ Below S w w' := by
 have h1 : Below w.heap.size w (w.alloc (.cells (plv y).toArray 60)) := (Below.refl _ _).alloc (Nat.le_refl _) _
 obtain ⟨i0, hi, hz0, hz1, hz2⟩ := info_parts info_pl3
 have hb := Blk.new w 60 (plv y).toArray
 obtain ⟨v', w', hrun, ho', ht⟩ := run_append_k elpl.hu hi hz0 hz1 hz2 elpl.hz (by decide) (ho.next h1) ⟨plv_len hy, plv_one y⟩ (g := w.heap.size) (cap := 1) (fun j u hj => by rw [hb.cell, List.getElem?_toArray]; exact hj) (by omega) (by decide) 55
 have hle := h1.size
 refine ⟨v', w', hrun, ho'.place fun k hk => ?_, (h1.mono hS).trans (ht.below fun k hk => ?_)⟩
 ·
  rcases ho'.2.2 k hk with h | h
  ·
   exact ho.2.2 k h
  ·
   show S ≤ k; omega
 ·
  rcases hk with h | h
  ·
   exact ho.2.2 k h
  ·
   show S ≤ k; omega
/-- the places of headers, as they lie -/
def pls (K : List Hd) : List (List Value) := (pairs K).map fun p => plv (ky p)
theorem pls_len (K : List Hd) : (pls K).length = K.length := by unfold pls pairs; rw [List.length_map, List.length_map]
theorem pls_snoc (K : List Hd) (k : Hd) : pls (K ++ [k]) = pls K ++ [plv (k.height, (idH k).1)] := by unfold pls pairs; rw [List.map_append, List.map_append]; rfl
end Go.Proofs.YtpeneeddfgmjpaaGreatDoor.rul
