/-
  The walk of VaultWhole, by what vault's functions answer.
-/
import Derived.Test.YtkbbeioednhefaaDoorVtis
import Derived.Test.YtkbbeioednhefaaDoorVtlg
import Derived.Deep.CutRange
import Derived.Deep.CutBlock
namespace Go.Proofs.YtkbbeioednhefaaDoor.vt
open Go.RowKit Go.Proofs.YtkbbeioednhefaaDoor.mem Go.Proofs.YtkbbeioednhefaaDoor.sha Go.Proofs.YtkbbeioednhefaaDoor.strx Go.Proofs.YtkbbeioednhefaaDoor.rows Go.Proofs.YtkbbeioednhefaaDoor.ids Go.Proofs.YtkbbeioednhefaaDoor.rcd Go.Proofs.YtkbbeioednhefaaDoor.jn Go.Proofs.YtkbbeioednhefaaDoor.txl

theorem snap_small {v : Vt} {L : List (List UInt8)} (h : smallV v) (hl : smallL L) : smallV (snapV v L).1 := by
  have hlay : (layJ v.no L).s.length ≤ 100000 := by
    rw [lay_file v.no L fun s hs => Nat.le_trans (hl.2 s hs) (by decide)]
    have := fileJ_len (snapG (v.no + 1) L) 0 (snap_body hl.2)
    rw [snap_len] at this
    have := hl.1
    omega
  unfold snapV
  split
  · exact h
  · unfold Vt.oth syncV Vt.set Vt.cur
    by_cases hu : v.use = 0
    · simp only [hu, if_true]
      exact ⟨h.1, hlay⟩
    · simp only [hu, if_false]
      exact ⟨hlay, h.2⟩
section
variable {T : World → Prop} {Vt_ : (Nat → Prop) → World → Value → Vt → Prop}
set_option maxHeartbeats 8000000 in
set_option maxRecDepth 100000 in
theorem whole_walk (hI : VtIs T Vt_) {L S : List (List UInt8)} {v u : Value} {w : World} (q : Int) (hT : T w) (hR : TxA w (· < w.heap.size) v L) (hS : TxA w (· < w.heap.size) u S) (hl : L.length ≤ 9223372036854775807) (hl1 : S.length ≤ 9223372036854775807) :
    Calls Tryd.prog 7 #[v, u, .int .i64 q] w fun e w' => e = .returned (.bool true) ∧ Below w.heap.size w w' := by
  have HL1 := Lib.hid (long_any 0 0 ⟨#[]⟩ hR hl)
  have HL2 := Lib.hid fun w1 (h : Below w.heap.size w w1) => long_any 0 0 ⟨#[]⟩ (w := w1) (hS.next h) hl1
  rw [show (⟨#[]⟩ : ByteArray).size = 0 from rfl] at HL1 HL2
  have HI := Lib.hid hI
  have HT := Lib.hid hT
  have HR := Lib.hid hR
  have HS := Lib.hid hS
  obtain ⟨ad, cap, rfl, hC⟩ := hR
  obtain ⟨ad1, cap1, rfl, hC1⟩ := hS
  have HC := Lib.hid hC
  obtain ⟨n, hn⟩ : ∃ n, n = L.length := ⟨_, rfl⟩
  obtain ⟨n1, hn1⟩ : ∃ n, n = S.length := ⟨_, rfl⟩
  have HN := Lib.hid hn
  have HN1 := Lib.hid hn1
  rw [← hn] at hl HR HL1 ⊢
  rw [← hn1] at hl1 HS HL2 ⊢
  have n0 : (0 : Int) ≤ (n : Int) := Int.natCast_nonneg _
  clear hI hT hC hC1 hn hn1
  by_cases hg1 : longV 0 L = true
  · rw [hg1] at HL1
    clear hg1
    go_enter Tryd.func7, Tryd.ntmps7
    go_wp2_with (first
      | (go_at_call 31; (with_reducible refine HL1.out.mono ?_); rintro e w1 ⟨rfl, hb1⟩)
      | (go_at_call 30; (with_reducible refine (awake_any HI.out _ (HI.out.next HT.out hb1)).mono ?_); rintro e w2 ⟨rfl, hb2⟩))
    go_ret
    exact ⟨rfl, hb1.trans (hb2.mono hb1.size)⟩
  have hg1' : longV 0 L = false := by simpa using hg1
  rw [hg1'] at HL1
  by_cases hg2 : longV 0 S = true
  · rw [hg2] at HL2
    clear hg1 hg2 hg1'
    go_enter Tryd.func7, Tryd.ntmps7
    go_wp2_with (first
      | (go_at_call 31; (with_reducible refine HL1.out.mono ?_); rintro e w1 ⟨rfl, hb1⟩)
      | (go_at_call 31; (with_reducible refine (HL2.out _ hb1).mono ?_); rintro e w2 ⟨rfl, hb2⟩; have hb3 := hb1.trans (hb2.mono hb1.size))
      | (go_at_call 30; (with_reducible refine (awake_any HI.out _ (HI.out.next HT.out hb3)).mono ?_); rintro e w2 ⟨rfl, hb4⟩))
    go_ret
    exact ⟨rfl, hb3.trans (hb4.mono hb3.size)⟩
  have hg2' : longV 0 S = false := by simpa using hg2
  rw [hg2'] at HL2
  obtain ⟨-, hL20, hLs⟩ := long_no hg1'
  obtain ⟨-, hS20, hSs⟩ := long_no hg2'
  have HLS := Lib.hid hLs
  have HSS := Lib.hid hSs
  have hn20 : n ≤ 20 := by rw [HN.out]; exact hL20
  have hn120 : n1 ≤ 20 := by rw [HN1.out]; exact hS20
  have HNW := Lib.hid fun w1 h => HI.out.new w1 h
  rw [new_file] at HNW
  clear hg1 hg2 hg1' hg2' hL20 hS20 hLs hSs
  go_enter Tryd.func7, Tryd.ntmps7
  go_wp2_with (first
    | (go_at_call 31; (with_reducible refine HL1.out.mono ?_); rintro e w1 ⟨rfl, hb1⟩)
    | (go_at_call 31; (with_reducible refine (HL2.out _ hb1).mono ?_); rintro e w2 ⟨rfl, hb2⟩; have HB3 := Lib.hid (hb1.trans (hb2.mono hb1.size)); clear hb1 hb2)
    | (go_at_call 25; (with_reducible refine (HNW.out _ (HI.out.next HT.out HB3.out)).mono ?_); rintro e w3 ⟨p, rfl, hk3, hb3⟩; have S3 := Lib.hid (show VS T Vt_ w (w.heap.size ≤ ·) p ⟨fileJ (firstG []) 2, j0, 0, 0⟩ w3 from VS.start HI.out HT.out (HI.out.mono hk3 fun k hk => Nat.le_trans HB3.out.size hk) (HB3.out.trans (hb3.mono HB3.out.size))); clear hk3 hb3))
  go_loopg [8] 22 (fun gk s8 wr => ∃ (i : Nat), s8 = .int .i64 i ∧ i ≤ n ∧ 21 - i ≤ gk ∧ Hid (VS T Vt_ w (w.heap.size ≤ ·) p ⟨fileJ (firstG (L.take i)) 2, j0, 0, 0⟩ wr))
  case atStart => exact ⟨0, rfl, Nat.zero_le _, by omega, S3⟩
  case round =>
    obtain ⟨i, rfl, hi, hgk, HK⟩ := hrel
    clear S3
    have i0 : (0 : Int) ≤ (i : Int) := Int.natCast_nonneg _
    by_cases hin : i < n
    · have i1 : (i : Int) < (n : Int) := by omega
      obtain ⟨b, off, rfl, hbl, _, a0⟩ := HC.out i (by have := HN.out; omega)
      replace a0 := (HK.out.below.cell (p := ⟨b, off + i, none⟩) hbl).trans a0
      obtain ⟨s, hs⟩ : ∃ s, s = L.getD i [] := ⟨_, rfl⟩
      have hsL : s.length ≤ 300 := HLS.out s (by rw [hs, List.getD_eq_getElem?_getD, List.getElem?_eq_getElem (by have := HN.out; omega)]; exact List.getElem_mem _)
      have htk : L.take i ++ [s] = L.take (i + 1) := by
        have := HN.out
        rw [List.take_succ_eq_append_getElem (by omega), hs, List.getD_eq_getElem?_getD, List.getElem?_eq_getElem (by omega)]
        rfl
      rw [← hs] at a0
      obtain ⟨t, ht⟩ : ∃ t, t = bt s := ⟨_, rfl⟩
      have hts : t.data.toList = s := by rw [ht, bt_list]
      have htz : t.size ≤ 300 := by rw [ht, bt_size]; exact hsL
      rw [← ht] at a0
      have hil : (L.take i).length = i := by rw [List.length_take]; have := HN.out; omega
      have hap := keep_app (L.take i) 2 (by omega) s (by omega)
      have HAP := Lib.hid (HI.out.append _ p _ t wr HK.out.t HK.out.n HK.out.v (first_small (by omega) (fun x hx => HLS.out x (List.mem_of_mem_take hx)) _ 0 0) htz)
      rw [hts, hap, htk] at HAP
      simp only at HAP
      clear hs hsL htk ht hts htz hil hap
      go_wp2_with (go_at_call 26; (with_reducible refine HAP.out.mono ?_); rintro e2 wA ⟨rfl, hjA, htA⟩; have KA := Lib.hid (HK.out.op HI.out HT.out hjA htA); clear hjA htA)
      go_roundg (20 - i)
      case measure => omega
      case rel => exact ⟨i + 1, by go_num, hin, by omega, KA⟩
    · have hin' : ¬ (i : Int) < (n : Int) := by omega
      have hie : i = n := by omega
      have HV := Lib.hid HK.out
      rw [hie, HN.out, List.take_length] at HV
      have hLm : ∀ s ∈ L, s.length ≤ 1048576 := fun s hs => Nat.le_trans (HLS.out s hs) (by decide)
      have hSm : ∀ s ∈ S, s.length ≤ 1048576 := fun s hs => Nat.le_trans (HSS.out s hs) (by decide)
      obtain ⟨vd, left, hdie, hbeh⟩ := die_behind L S hLm hSm 2 q
      obtain ⟨hno, hleft⟩ := behind_no hbeh
      have hcr := behind_crash hLm hSm hbeh q
      obtain ⟨vs, hsn, hsno, hcl⟩ := behind_snap hLm hSm hbeh 0
      have hsm := behind_small (by have := HN.out; omega) (by have := HN1.out; omega) HLS.out HSS.out hbeh
      have hll : smallL left := by
        rcases hleft with e | e <;> rw [e]
        · exact ⟨by have := HN.out; omega, HLS.out⟩
        · exact ⟨by have := HN1.out; omega, HSS.out⟩
      have hss : smallV vs := by have := snap_small hsm hll; rw [hsn] at this; exact this
      have hSL : smallL S := ⟨by have := HN1.out; omega, HSS.out⟩
      have HD := Lib.hid fun w1 (h : VS T Vt_ w (w.heap.size ≤ ·) p ⟨fileJ (firstG L) 2, j0, 0, 0⟩ w1) => HI.out.die _ p _ _ S q w1 h.t h.n h.v (first_small (by have := HN.out; omega) HLS.out _ 0 0) ((HS.out.next h.below).mono fun k _ hk => by omega) hSL
      rw [hdie] at HD
      simp only at HD
      have HU1 := Lib.hid fun G p1 w1 (h : VS T Vt_ w G p1 vd w1) => HI.out.use G p1 _ w1 h.t h.v
      have HU2 := Lib.hid fun G p1 w1 (h : VS T Vt_ w G p1 vs w1) => HI.out.use G p1 _ w1 h.t h.v
      have HCR := Lib.hid fun G p1 w1 (h : VS T Vt_ w G p1 vd w1) => HI.out.crash G p1 _ q w1 h.t h.n h.v hsm
      rw [hcr] at HCR
      have HCS := Lib.hid fun G p1 w1 (h : VS T Vt_ w G p1 vs w1) => HI.out.crash G p1 _ 0 w1 h.t h.n h.v hss
      rw [hcl] at HCS
      have HSN := Lib.hid fun G p1 w1 l (h : VS T Vt_ w G p1 vd w1) (hl : TxA w1 (fun k => ¬ G k) l left) => HI.out.snap G p1 _ l left w1 h.t h.n h.v hsm hl hll
      rw [hsn] at HSN
      simp only at HCR HCS HSN
      have hd0 : decide (left = left) = true := decide_eq_true rfl
      have HTE := Lib.hid fun w1 (N M : Nat → Prop) va vb (h1 : TxA w1 N va left) (h2 : TxA w1 M vb left) => texts_any h1 h2 (by have := hll.1; omega)
      rw [hd0] at HTE
      have HTL := Lib.hid fun w1 (N M : Nat → Prop) va vb (h1 : TxA w1 N va left) (h2 : TxA w1 M vb L) => texts_any h1 h2 (by have := hll.1; omega)
      have HTS := Lib.hid fun w1 (N M : Nat → Prop) va vb (h1 : TxA w1 N va left) (h2 : TxA w1 M vb S) => texts_any h1 h2 (by have := hll.1; omega)
      obtain ⟨nd, hnd⟩ : ∃ x, x = vd.no := ⟨_, rfl⟩
      obtain ⟨ns, hns⟩ : ∃ x, x = vs.no := ⟨_, rfl⟩
      rw [← hnd] at HU1 hno hsno
      rw [← hns] at HU2 hsno
      have hn1' : ¬ 1 < nd := by omega
      have hnw : IntKind.i64.wrap (nd + 1) = ns := by rw [IntKind.wrap_i64]; omega
      have HLL := Lib.hid hleft
      clear hie hLm hSm hdie hbeh hno hleft hcr hsn hsno hcl hsm hll hss hSL hd0 hnd hns HK
      by_cases hle : left = L
      · rw [decide_eq_true hle] at HTL
        clear hle HTS
        go_wp2_with (first
          | (go_at_call 32; (with_reducible refine (HD.out _ HV.out).mono ?_); rintro e w4 ⟨l4, rfl, hL4⟩; obtain ⟨G4, S4, hg4, hl4, ht4⟩ := HV.out.left HI.out HT.out hL4; have V4 := Lib.hid S4; have O4 := Lib.hid hl4; clear hL4 S4 hl4 ht4 hg4 HV)
          | (go_at_call 29; (with_reducible refine (HTL.out _ _ _ _ _ O4.out (HR.out.next V4.out.below)).mono ?_); rintro e w5 ⟨rfl, hb5⟩; have V5 := Lib.hid (V4.out.next HI.out hb5); have O5 := Lib.hid (O4.out.next hb5); clear hb5 O4 V4)
          | (go_at_call 29; (with_reducible refine (HTS.out _ _ _ _ _ O5.out (HS.out.next V5.out.below)).mono ?_); rintro e w6 ⟨rfl, hb6⟩; have V6 := Lib.hid (V5.out.next HI.out hb6); have O6 := Lib.hid (O5.out.next hb6); clear hb6 O5 V5)
          | (go_at_call 33; (with_reducible refine (HU1.out _ _ _ V5.out).mono ?_); rintro e w7 ⟨rfl, hb7⟩; have V7 := Lib.hid (V5.out.next HI.out hb7); have O7 := Lib.hid (O5.out.next hb7); clear hb7 O5 V5)
          | (go_at_call 33; (with_reducible refine (HU1.out _ _ _ V6.out).mono ?_); rintro e w7 ⟨rfl, hb7⟩; have V7 := Lib.hid (V6.out.next HI.out hb7); have O7 := Lib.hid (O6.out.next hb7); clear hb7 O6 V6)
          | (go_at_call 28; (with_reducible refine (HCR.out _ _ _ V7.out).mono ?_); rintro e w8 ⟨l8, rfl, hL8⟩; obtain ⟨G8, S8, hg8, hl8, ht8⟩ := V7.out.left HI.out HT.out hL8; have V8 := Lib.hid S8; have O8 := Lib.hid hl8; have P8 := Lib.hid ((O7.out.turn ht8 fun k _ hk => hk).mono (M := fun k => ¬ G8 k) fun k _ hk hg => hk (hg8 k hg)); clear hL8 S8 hl8 ht8 hg8 O7 V7)
          | (go_at_call 29; (with_reducible refine (HTE.out _ _ _ _ _ O8.out P8.out).mono ?_); rintro e w9 ⟨rfl, hb9⟩; have V9 := Lib.hid (V8.out.next HI.out hb9); have O9 := Lib.hid (P8.out.next hb9); clear hb9 O8 P8 V8)
          | (go_at_call 34; (with_reducible refine (HSN.out _ _ _ _ V9.out O9.out).mono ?_); rintro e wB ⟨rfl, hkB, htB⟩; have VB := Lib.hid (V9.out.op HI.out HT.out hkB htB); have OB := Lib.hid (O9.out.turn htB fun k _ hk => hk); clear hkB htB O9 V9)
          | (go_at_call 33; (with_reducible refine (HU2.out _ _ _ VB.out).mono ?_); rintro e wC ⟨rfl, hbC⟩; have VC := Lib.hid (VB.out.next HI.out hbC); have OC := Lib.hid (OB.out.next hbC); clear hbC OB VB)
          | (go_at_call 28; (with_reducible refine (HCS.out _ _ _ VC.out).mono ?_); rintro e wD ⟨lD, rfl, hLD⟩; obtain ⟨GD, SD, hgD, hlD, htD⟩ := VC.out.left HI.out HT.out hLD; have VD := Lib.hid SD; have OD := Lib.hid hlD; have PD := Lib.hid (OC.out.turn htD fun k _ hk => hk); clear hLD SD hlD htD hgD OC VC)
          | (go_at_call 29; (with_reducible refine (HTE.out _ _ _ _ _ OD.out PD.out).mono ?_); rintro e wE ⟨rfl, hbE⟩; have VE := Lib.hid (VD.out.next HI.out hbE); clear hbE OD PD VD)
          | (go_at_call 30; (with_reducible refine (awake_any HI.out _ VE.out.t).mono ?_); rintro e wF ⟨rfl, hbF⟩))
        go_ret
        exact ⟨rfl, VE.out.below.trans (hbF.mono VE.out.below.size)⟩
      · have hlS : left = S := HLL.out.resolve_left hle
        rw [decide_eq_false hle] at HTL
        rw [decide_eq_true hlS] at HTS
        clear hle hlS
        go_wp2_with (first
          | (go_at_call 32; (with_reducible refine (HD.out _ HV.out).mono ?_); rintro e w4 ⟨l4, rfl, hL4⟩; obtain ⟨G4, S4, hg4, hl4, ht4⟩ := HV.out.left HI.out HT.out hL4; have V4 := Lib.hid S4; have O4 := Lib.hid hl4; clear hL4 S4 hl4 ht4 hg4 HV)
          | (go_at_call 29; (with_reducible refine (HTL.out _ _ _ _ _ O4.out (HR.out.next V4.out.below)).mono ?_); rintro e w5 ⟨rfl, hb5⟩; have V5 := Lib.hid (V4.out.next HI.out hb5); have O5 := Lib.hid (O4.out.next hb5); clear hb5 O4 V4)
          | (go_at_call 29; (with_reducible refine (HTS.out _ _ _ _ _ O5.out (HS.out.next V5.out.below)).mono ?_); rintro e w6 ⟨rfl, hb6⟩; have V6 := Lib.hid (V5.out.next HI.out hb6); have O6 := Lib.hid (O5.out.next hb6); clear hb6 O5 V5)
          | (go_at_call 33; (with_reducible refine (HU1.out _ _ _ V5.out).mono ?_); rintro e w7 ⟨rfl, hb7⟩; have V7 := Lib.hid (V5.out.next HI.out hb7); have O7 := Lib.hid (O5.out.next hb7); clear hb7 O5 V5)
          | (go_at_call 33; (with_reducible refine (HU1.out _ _ _ V6.out).mono ?_); rintro e w7 ⟨rfl, hb7⟩; have V7 := Lib.hid (V6.out.next HI.out hb7); have O7 := Lib.hid (O6.out.next hb7); clear hb7 O6 V6)
          | (go_at_call 28; (with_reducible refine (HCR.out _ _ _ V7.out).mono ?_); rintro e w8 ⟨l8, rfl, hL8⟩; obtain ⟨G8, S8, hg8, hl8, ht8⟩ := V7.out.left HI.out HT.out hL8; have V8 := Lib.hid S8; have O8 := Lib.hid hl8; have P8 := Lib.hid ((O7.out.turn ht8 fun k _ hk => hk).mono (M := fun k => ¬ G8 k) fun k _ hk hg => hk (hg8 k hg)); clear hL8 S8 hl8 ht8 hg8 O7 V7)
          | (go_at_call 29; (with_reducible refine (HTE.out _ _ _ _ _ O8.out P8.out).mono ?_); rintro e w9 ⟨rfl, hb9⟩; have V9 := Lib.hid (V8.out.next HI.out hb9); have O9 := Lib.hid (P8.out.next hb9); clear hb9 O8 P8 V8)
          | (go_at_call 34; (with_reducible refine (HSN.out _ _ _ _ V9.out O9.out).mono ?_); rintro e wB ⟨rfl, hkB, htB⟩; have VB := Lib.hid (V9.out.op HI.out HT.out hkB htB); have OB := Lib.hid (O9.out.turn htB fun k _ hk => hk); clear hkB htB O9 V9)
          | (go_at_call 33; (with_reducible refine (HU2.out _ _ _ VB.out).mono ?_); rintro e wC ⟨rfl, hbC⟩; have VC := Lib.hid (VB.out.next HI.out hbC); have OC := Lib.hid (OB.out.next hbC); clear hbC OB VB)
          | (go_at_call 28; (with_reducible refine (HCS.out _ _ _ VC.out).mono ?_); rintro e wD ⟨lD, rfl, hLD⟩; obtain ⟨GD, SD, hgD, hlD, htD⟩ := VC.out.left HI.out HT.out hLD; have VD := Lib.hid SD; have OD := Lib.hid hlD; have PD := Lib.hid (OC.out.turn htD fun k _ hk => hk); clear hLD SD hlD htD hgD OC VC)
          | (go_at_call 29; (with_reducible refine (HTE.out _ _ _ _ _ OD.out PD.out).mono ?_); rintro e wE ⟨rfl, hbE⟩; have VE := Lib.hid (VD.out.next HI.out hbE); clear hbE OD PD VD)
          | (go_at_call 30; (with_reducible refine (awake_any HI.out _ VE.out.t).mono ?_); rintro e wF ⟨rfl, hbF⟩))
        go_ret
        exact ⟨rfl, VE.out.below.trans (hbF.mono VE.out.below.size)⟩
end
end Go.Proofs.YtkbbeioednhefaaDoor.vt
