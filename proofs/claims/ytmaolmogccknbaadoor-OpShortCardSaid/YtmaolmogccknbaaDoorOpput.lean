/-
  petrelref07.Put.
-/
import Derived.Test.YtmaolmogccknbaaDoorOpw
import Derived.Test.YtmaolmogccknbaaDoorRdn
import Derived.Deep.CutRange
import Derived.Deep.CutBlock
namespace Go.Proofs.YtmaolmogccknbaaDoor.opn
open Go.RowKit Go.Proofs.YtmaolmogccknbaaDoor.mem Go.Proofs.YtmaolmogccknbaaDoor.sha Go.Proofs.YtmaolmogccknbaaDoor.ids

theorem info_op : (Tryd.prog.info? 26).map (·.size) = some 37 := by kernel_rfl
theorem agg_op (w : World) : (isAgg 26).run Tryd.prog w = .ok true w := by
  unfold isAgg
  rw [Sem.run_bind, run_underlying Tryd.underlying26 w]
  rfl
theorem opc_len (o : Opn) (v : Value) (hr : o.ref.length = 32) : (opc o v).length = 37 := by
  unfold opc
  simp [bv_length, hr]
/-- an operation out of a block -/
theorem run_load_op {w : World} {S : Nat} {t : TypeId} {o : Opn} {v : Value} (h : Blk w S t (opc o v).toArray) (hr : o.ref.length = 32) : (Instr.loadAt 26 (.pointer (some ⟨S, 0, none⟩))).run Tryd.prog w = .ok (opv o v) w := by
  have hl : (loadCells ⟨S, 0, none⟩ (opc o v).length).run Tryd.prog w = .ok (opc o v).toArray w :=
    run_loadCells_list (P := Tryd.prog) w ⟨S, 0, none⟩ (opc o v) (fun j u hu => by
      rw [Addr.add_lit, Nat.zero_add, h.cell, List.getElem?_toArray]
      exact hu)
  have hi := info_op
  cases hq : Tryd.prog.info? 26 with
  | none => simp [hq] at hi
  | some i =>
    have hs : i.size = (opc o v).length := by rw [opc_len o v hr]; simpa [hq] using hi
    simp [Instr.loadAt, Instr.sureAddr, loadVar, Sem.run_bind, agg_op, sizeOf, typeInfo, hq, hs, hl, opv]

theorem has_chr (k : Int) (j : Nat) (h : j < (has k).length) : (hasB k).data.toList.getD j 0 = chr ((has k)[j]) := by
  show ((has k).map chr).getD j 0 = _
  rw [List.getD_eq_getElem?_getD, List.getElem?_map, List.getElem?_eq_getElem h]
  rfl
theorem has_size (k : Int) : (hasB k).size = (has k).length := by
  show ((has k).map chr).toArray.size = _
  simp
theorem has_len (k : Int) : (has k).length ≤ 3 := by
  unfold has
  repeat' split
  all_goals decide
theorem encs_step (o : Opn) (ps : List Part) (j : Nat) (h : j < ps.length) : encs o (ps.take (j + 1)) = encs o (ps.take j) ++ enc o ps[j] := by
  unfold encs
  rw [List.take_succ_eq_append_getElem h, List.map_append, List.flatten_append]
  simp
theorem flat_len2 {L : List Id} (h : ∀ x ∈ L, x.length = 32) : L.flatten.length = L.length * 32 := flat_len h
theorem enc_len {o : Opn} (hk : o.key.length ≤ 16) (hv : o.val.length ≤ 16) (hr : o.ref.length = 32) (hs : ∀ x ∈ o.refs, x.length = 32) (hl : o.refs.length ≤ 8) (q : Part) : (enc o q).length ≤ 257 := by
  cases q
  · exact Nat.le_trans (Nat.le_of_eq (b4_len _)) (by decide)
  · show (b1 _ ++ o.key).length ≤ 257
    rw [List.length_append, b1_len]; omega
  · show (b1 _ ++ o.val).length ≤ 257
    rw [List.length_append, b1_len]; omega
  · show o.ref.length ≤ 257
    omega
  · show (b1 _ ++ o.refs.flatten).length ≤ 257
    rw [List.length_append, b1_len, flat_len2 hs]; omega
theorem encs_len {o : Opn} (h : ∀ q, (enc o q).length ≤ 257) : ∀ ps : List Part, (encs o ps).length ≤ 257 * ps.length
  | [] => Nat.le_refl _
  | p :: ps => by
    have e : encs o (p :: ps) = enc o p ++ encs o ps := by simp [encs]
    rw [e, List.length_append, List.length_cons]
    have := h p
    have := encs_len h ps
    omega

set_option maxHeartbeats 4000000 in
set_option maxRecDepth 100000 in
theorem put_any (o : Opn) (v : Value) (w : World) (hr : o.ref.length = 32) (hv : RdV w v o.refs) (hm : o.refs.length ≤ 60) :
    Calls Tryd.prog 13 #[opv o v] w fun e w' => e = .returned (.tuple #[.string (oct.tx (put rise o).1), .int .i64 (put rise o).2]) ∧ Below w.heap.size w w' := by
  obtain ⟨w1, hw1⟩ : ∃ u, u = w.alloc (.cells (opc o v).toArray 26) := ⟨_, rfl⟩
  obtain ⟨S, hS⟩ : ∃ S, S = w.heap.size := ⟨_, rfl⟩
  have hX : Blk w1 S 26 (opc o v).toArray := by rw [hw1, hS]; exact Blk.new w _ _
  have hB : Below w.heap.size w w1 := by rw [hw1]; exact (Below.refl _ _).alloc (Nat.le_refl _) _
  have hld := run_load_op hX hr
  have hv1 := hv.next hB
  have hck := check_any o v w1 hr hv1 (by omega)
  have HV := Lib.hid hv1
  have HB := Lib.hid hB
  have HS := Lib.hid hS
  have HW := Lib.hid hw1
  have HX := Lib.hid hX
  have HCK := Lib.hid hck
  have HR := Lib.hid hr
  have hput : put rise o = if check rise o ≠ 0 then ([], check rise o) else (b1 o.k ++ encs o (has o.k), 0) := rfl
  obtain ⟨c, hc⟩ : ∃ c, check rise o = c := ⟨_, rfl⟩
  rw [hc] at HCK hput
  have HC := Lib.hid hc
  have HP := Lib.hid hput
  clear hX hB hw1 hS hv hv1 hck hm hc hput hr
  unfold opv
  by_cases h0 : c = 0
  · subst h0
    have hC := HC.out
    obtain ⟨hh0, pN, pK, pV, pR, pS, lk, lvv, n1, n2, n4, lr, -⟩ := check_parts hC
    have hkk := kind_of hh0
    have hfit : Part.N ∈ has o.k ∨ o.n = 0 := by
      by_cases h : Part.N ∈ has o.k
      · exact .inl h
      · exact .inr (pN h)
    have FIT := Lib.hid (fits_of hC HR.out HV.out.ok hfit)
    have EL := Lib.hid (encs_len (enc_len lk lvv HR.out HV.out.ok lr))
    have LK := Lib.hid lk
    have LV := Lib.hid lvv
    have LR := Lib.hid lr
    have N1 := Lib.hid n1
    have N2 := Lib.hid n2
    have KK := Lib.hid (show 1 ≤ o.k ∧ o.k < 256 by omega)
    have HE : Hid (put rise o = (b1 o.k ++ encs o (has o.k), 0)) := Lib.hid (by rw [HP.out, if_neg (by simp)])
    have c0 := (OpBlk.of HX.out HR.out).k
    obtain ⟨k, hk⟩ : ∃ k, o.k = k := ⟨_, rfl⟩
    rw [hk] at c0
    have HK := Lib.hid hk
    have hhas := fun u => has_any k u
    obtain ⟨p, hp⟩ : ∃ p, p = hasB k := ⟨_, rfl⟩
    rw [← hp] at hhas
    have HHAS := Lib.hid hhas
    have HPP := Lib.hid hp
    have HPS : Hid (p.size = (has o.k).length) := Lib.hid (by rw [hp, has_size, hk])
    have hnum := Lib.hid (num1_r k (by have := KK.out; omega) (by have := KK.out; omega))
    clear hC hh0 pN pK pV pR pS lk lvv n1 n2 n4 lr hkk hfit hk hhas hp HP HC
    go_enter Tryd.func13, Tryd.ntmps13
    go_upto_region 1 with fail
    refine wp_at HW.out.symm ?_
    rw [← HS.out]
    go_wp2_with (first
      | ((with_reducible refine step_load (t := 26) (x := .tmp 1) (p := ?lp1) (v := ?lv1) ?lg1 ?lo1 ?lx1 ?lr1 ?lh1); (case lg1 => rfl); (case lo1 => rfl); (case lx1 => rfl); (case lr1 => exact hld))
      | (go_at_call 15; with_reducible refine HCK.out.mono ?_; rintro e w2 ⟨rfl, hb2⟩; have hX2 := HX.out.below hb2 HX.out.lt; have c02 := (OpBlk.of hX2 HR.out).k; rw [HK.out] at c02; have HX2 := Lib.hid hX2; clear hX2)
      | (go_at_call 40; with_reducible refine (hnum.out _).mono ?_; rintro e w3 ⟨rfl, hb3⟩; have hX3 := HX2.out.below hb3 HX2.out.lt; have c03 := (OpBlk.of hX3 HR.out).k; rw [HK.out] at c03; have HX3 := Lib.hid hX3; clear hX3)
      | (go_at_call 41; with_reducible refine (HHAS.out _).mono ?_; rintro e w4 ⟨rfl, rfl⟩))
    have HB3 := Lib.hid (hb2.trans (hb3.mono hb2.size))
    clear hb2 hb3 c0 c02 c03 hld HCK hnum HHAS
    go_loopw [5, 8] (fun out i wr => ∃ j : Nat, j ≤ (has o.k).length ∧ i = .int .i64 j ∧ out = .string (oct.tx (b1 o.k ++ encs o ((has o.k).take j))) ∧ Below w1.heap.size w1 wr) (fun _ i _ => (has o.k).length - (intOf i).toNat)
    case atStart => exact ⟨0, Nat.zero_le _, rfl, by rw [HK.out]; simp [encs], HB3.out⟩
    case round =>
      obtain ⟨j, hj, rfl, rfl, hb⟩ := hrel
      have hXr := HX.out.below hb HX.out.lt
      have HBR := Lib.hid hb
      have k0 : (0 : Int) ≤ (j : Int) := Int.natCast_nonneg _
      have hel : (b1 o.k ++ encs o ((has o.k).take j)).length ≤ 1000 := by
        rw [List.length_append, b1_len]
        have := EL.out ((has o.k).take j)
        have := has_len o.k
        rw [List.length_take] at *
        omega
      obtain ⟨ol, hol⟩ : ∃ l, l = b1 o.k ++ encs o ((has o.k).take j) := ⟨_, rfl⟩
      rw [← hol] at hel ⊢
      obtain ⟨out, hout⟩ : ∃ t, t = oct.tx ol := ⟨_, rfl⟩
      have hos : out.size ≤ 1000 := by rw [hout, oct.tx_size]; exact hel
      rw [← hout]
      have HOUT := Lib.hid hout
      have HOL := Lib.hid hol
      by_cases hlt : j < (has o.k).length
      · have kI : (j : Int) < (p.size : Int) := by rw [HPS.out]; omega
        have jI : (j : Int) < 3 := by have := has_len o.k; omega
        have hst := encs_step o (has o.k) j hlt
        have hix := fun u => strx.run_index_str p j (by rw [HPS.out]; exact hlt) u
        have hbyte : p.data.toList.getD j 0 = chr ((has o.k)[j]) := by rw [HPP.out, ← HK.out]; exact has_chr o.k j hlt
        rw [hbyte] at hix
        obtain ⟨q, hq⟩ : ∃ q, (has o.k)[j] = q := ⟨_, rfl⟩
        rw [hq] at hst hix
        have STEP : Hid (b1 o.k ++ encs o ((has o.k).take (j + 1)) = ol ++ enc o q) := Lib.hid (by rw [hst, HOL.out, List.append_assoc])
        have HI := Lib.hid hix
        have HJ := Lib.hid hj
        have hX1 := OpBlk.of hXr HR.out
        have HXR := Lib.hid hX1
        clear hb hel hol hout hst hix hq hj hXr hX1 hbyte
        cases q with
        | N =>
          have hidx : ∀ u, (Instr.index 9 (.string p) (.int .i64 (j : Int))).run Tryd.prog u = .ok (.int .u8 78) u := fun u => by rw [HI.out u]; rfl
          have c0 := HXR.out.k
          rw [HK.out] at c0
          have c1 := HXR.out.n
          have n1 := N1.out
          have n2 := N2.out
          have hf := FIT.out.n
          obtain ⟨n, hn⟩ : ∃ n, o.n = n := ⟨_, rfl⟩
          rw [hn] at c1 n1 n2 hf
          have HEN : Hid (enc o .N = b4 (n + off k)) := Lib.hid (by show b4 (o.n + off o.k) = _; rw [hn, HK.out])
          rw [HK.out] at hf
          clear hn
          by_cases h1 : k = 1
          · subst h1
            rw [show off 1 = 2147483648 from rfl] at hf HEN
            have HNUM := Lib.hid (num4_r (n + 2147483648) hf.1 hf.2)
            have hz : (oct.tx (b4 (n + 2147483648))).size = 4 := oct.tx_size _
            clear hf
            go_wp2_with (go_at_call 40; with_reducible refine (HNUM.out _).mono ?_; rintro e w5 ⟨rfl, hbc⟩)
            exact ⟨⟨j + 1, hlt, by simp, by rw [STEP.out, HEN.out, HOUT.out, tx_app], HBR.out.trans (hbc.mono HBR.out.size)⟩, by simp [intOf]; omega⟩
          · have e1 : (k == 1) = false := beq_eq_false_iff_ne.2 h1
            rw [show off k = 0 from if_neg h1, Int.add_zero] at hf HEN
            have HNUM := Lib.hid (num4_r n hf.1 hf.2)
            have hz : (oct.tx (b4 n)).size = 4 := oct.tx_size _
            clear hf h1
            go_wp2_with (go_at_call 40; with_reducible refine (HNUM.out _).mono ?_; rintro e w5 ⟨rfl, hbc⟩)
            exact ⟨⟨j + 1, hlt, by simp, by rw [STEP.out, HEN.out, HOUT.out, tx_app], HBR.out.trans (hbc.mono HBR.out.size)⟩, by simp [intOf]; omega⟩
        | K =>
          have hidx : ∀ u, (Instr.index 9 (.string p) (.int .i64 (j : Int))).run Tryd.prog u = .ok (.int .u8 75) u := fun u => by rw [HI.out u]; rfl
          have c2 := HXR.out.key
          obtain ⟨ks, hks⟩ : ∃ t, t = oct.tx o.key := ⟨_, rfl⟩
          rw [← hks] at c2
          have hsh := fun u => short_any ks u (by rw [hks, oct.tx_size]; exact LK.out)
          rw [show txt ks.data.toList = enc o .K by rw [hks, oct.tx_list]; rfl] at hsh
          have HSH := Lib.hid hsh
          obtain ⟨en, hen⟩ : ∃ l, l = enc o .K := ⟨_, rfl⟩
          rw [← hen] at HSH STEP
          have hz : (oct.tx en).size ≤ 17 := by
            rw [hen, oct.tx_size]
            show (b1 _ ++ o.key).length ≤ 17
            rw [List.length_append, b1_len]
            have := LK.out
            omega
          clear hks hen hsh
          go_wp2_with (go_at_call 42; with_reducible refine (HSH.out _).mono ?_; rintro e w5 ⟨rfl, hbc⟩)
          exact ⟨⟨j + 1, hlt, by simp, by rw [STEP.out, HOUT.out, tx_app], HBR.out.trans (hbc.mono HBR.out.size)⟩, by simp [intOf]; omega⟩
        | V =>
          have hidx : ∀ u, (Instr.index 9 (.string p) (.int .i64 (j : Int))).run Tryd.prog u = .ok (.int .u8 86) u := fun u => by rw [HI.out u]; rfl
          have c2 := HXR.out.val
          obtain ⟨ks, hks⟩ : ∃ t, t = oct.tx o.val := ⟨_, rfl⟩
          rw [← hks] at c2
          have hsh := fun u => short_any ks u (by rw [hks, oct.tx_size]; exact LV.out)
          rw [show txt ks.data.toList = enc o .V by rw [hks, oct.tx_list]; rfl] at hsh
          have HSH := Lib.hid hsh
          obtain ⟨en, hen⟩ : ∃ l, l = enc o .V := ⟨_, rfl⟩
          rw [← hen] at HSH STEP
          have hz : (oct.tx en).size ≤ 17 := by
            rw [hen, oct.tx_size]
            show (b1 _ ++ o.val).length ≤ 17
            rw [List.length_append, b1_len]
            have := LV.out
            omega
          clear hks hen hsh
          go_wp2_with (go_at_call 42; with_reducible refine (HSH.out _).mono ?_; rintro e w5 ⟨rfl, hbc⟩)
          exact ⟨⟨j + 1, hlt, by simp, by rw [STEP.out, HOUT.out, tx_app], HBR.out.trans (hbc.mono HBR.out.size)⟩, by simp [intOf]; omega⟩
        | R =>
          have hidx : ∀ u, (Instr.index 9 (.string p) (.int .i64 (j : Int))).run Tryd.prog u = .ok (.int .u8 82) u := fun u => by rw [HI.out u]; rfl
          have hl4 := HXR.out.ref 0
          have HRW := Lib.hid (fun u => raw_any o.ref u HR.out)
          have hz : (oct.tx o.ref).size = 32 := by rw [oct.tx_size]; exact HR.out
          go_wp2_with (first
            | ((with_reducible refine step_load (t := 23) (x := .tmp 74) (p := ?lpr) (v := ?lvr) ?lgr ?lor ?lxr ?lrr ?lhr); (case lgr => rfl); (case lor => rfl); (case lxr => rfl); (case lrr => exact hl4))
            | (go_at_call 43; with_reducible refine (HRW.out _).mono ?_; rintro e w5 ⟨rfl, hbc⟩))
          exact ⟨⟨j + 1, hlt, by simp, by rw [STEP.out, HOUT.out, tx_app]; rfl, HBR.out.trans (hbc.mono HBR.out.size)⟩, by simp [intOf]; omega⟩
        | S =>
          have hidx : ∀ u, (Instr.index 9 (.string p) (.int .i64 (j : Int))).run Tryd.prog u = .ok (.int .u8 83) u := fun u => by rw [HI.out u]; rfl
          have c36 := HXR.out.refs
          have hvr := HV.out.next HBR.out
          obtain ⟨ad, cap, hvf⟩ := hvr.form
          rw [hvf] at hvr
          have hids := ids_any o.refs ad _ cap wr hvr (by have := LR.out; omega)
          rw [← hvf] at hids
          have HIDS := Lib.hid hids
          have hz : (oct.tx (idl o.refs)).size ≤ 257 := by
            rw [oct.tx_size]
            show (b1 _ ++ o.refs.flatten).length ≤ 257
            rw [List.length_append, b1_len, flat_len2 HV.out.ok]
            have := LR.out
            omega
          clear hvf hvr hids
          go_wp2_with (go_at_call 44; with_reducible refine HIDS.out.mono ?_; rintro e w5 ⟨rfl, hbc⟩)
          exact ⟨⟨j + 1, hlt, by simp, by rw [STEP.out, HOUT.out, tx_app]; rfl, HBR.out.trans (hbc.mono HBR.out.size)⟩, by simp [intOf]; omega⟩
      · obtain rfl : j = (has o.k).length := by omega
        have kI : (p.size : Int) ≤ (((has o.k).length : Nat) : Int) := by rw [HPS.out]; exact Int.le_refl _
        have HE2 : Hid (oct.tx (put rise o).1 = out ∧ (put rise o).2 = 0) := Lib.hid (by rw [HE.out, HOUT.out, HOL.out, List.take_length]; exact ⟨rfl, rfl⟩)
        clear hlt hj hb hel hol hout hXr
        go_wp2_with fail
        go_ret2
        exact ⟨by rw [HE2.out.1, HE2.out.2]; rfl, HB.out.trans (HBR.out.mono HB.out.size)⟩
  · have hne : (c != 0) = true := bne_iff_ne.2 h0
    have HE : Hid (put rise o = ([], c)) := Lib.hid (by rw [HP.out, if_pos h0])
    clear h0
    go_enter Tryd.func13, Tryd.ntmps13
    go_upto_region 1 with fail
    refine wp_at HW.out.symm ?_
    rw [← HS.out]
    clear HW
    go_wp2_with (first
      | ((with_reducible refine step_load (t := 26) (x := .tmp 1) (p := ?lp2) (v := ?lv2) ?lg2 ?lo2 ?lx2 ?lr2 ?lh2); (case lg2 => rfl); (case lo2 => rfl); (case lx2 => rfl); (case lr2 => exact hld))
      | (go_at_call 15; with_reducible refine HCK.out.mono ?_; rintro e w2 ⟨rfl, hb2⟩))
    go_ret2
    exact ⟨by rw [HE.out]; rfl, HB.out.trans (hb2.mono HB.out.size)⟩
end Go.Proofs.YtmaolmogccknbaaDoor.opn
