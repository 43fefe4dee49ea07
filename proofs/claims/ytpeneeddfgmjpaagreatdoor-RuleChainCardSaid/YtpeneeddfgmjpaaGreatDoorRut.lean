/-
 petrelref15.Twins.
-/
import Derived.Test.YtpeneeddfgmjpaaGreatDoorRutl
import Derived.Test.YtpeneeddfgmjpaaGreatDoorHdia
import Derived.Test.YtpeneeddfgmjpaaGreatDoorKitw
namespace Go.Proofs.YtpeneeddfgmjpaaGreatDoor.rul
open Go.RowKit Go.Proofs.YtpeneeddfgmjpaaGreatDoor.mem Go.Proofs.YtpeneeddfgmjpaaGreatDoor.sha Go.Proofs.YtpeneeddfgmjpaaGreatDoor.ids Go.Proofs.YtpeneeddfgmjpaaGreatDoor.hdr Go.Proofs.YtpeneeddfgmjpaaGreatDoor.hds
open Go.Proofs.YtpeneeddfgmjpaaGreatDoor.opn (zid)

def hitB (a b : Hd) : Bool := decide ((idH a).2 = 0) && (decide ((idH b).2 = 0) && (decide ((idH a).1 = (idH b).1) && !sameH a b))
theorem hitB_iff {a b : Hd} : hitB a b = true ↔ (idH a).2 = 0 ∧ (idH b).2 = 0 ∧ (idH a).1 = (idH b).1 ∧ a ≠ b := by
 unfold hitB
 rw [Bool.and_eq_true, Bool.and_eq_true, Bool.and_eq_true, decide_eq_true_iff, decide_eq_true_iff, decide_eq_true_iff, Bool.not_eq_true', ← Bool.not_eq_true, sameH_iff]
theorem twin_hit {K : List Hd} {i k : Nat} (hk : k < i) (hi : i < K.length) (h : hitB (K.getD i zhd) (K.getD k zhd) = true) : Twin K :=
 ⟨_, getD_mem hi, _, getD_mem (Nat.lt_trans hk hi), hitB_iff.1 h⟩
theorem twin_none {K : List Hd} (h : ∀ i k, i < K.length → k < i → hitB (K.getD i zhd) (K.getD k zhd) = false) : ¬ Twin K := by
 rintro ⟨a, ha, b, hb, h1, h2, h3, h4⟩
 obtain ⟨i, hi, rfl⟩ := List.getElem_of_mem ha
 obtain ⟨k, hk, rfl⟩ := List.getElem_of_mem hb
 have g : ∀ {j : Nat} (hj : j < K.length), K.getD j zhd = K[j] := fun hj => by rw [List.getD_eq_getElem?_getD, List.getElem?_eq_getElem hj]; rfl
 rcases Nat.lt_trichotomy i k with c | c | c
 ·
  have := h k i hk c
  rw [g hi, g hk, hitB_iff.2 ⟨h2, h1, h3.symm, fun e => h4 e.symm⟩] at this
  cases this
 ·
  subst c; exact h4 rfl
 ·
  have := h i k hi c
  rw [g hi, g hk, hitB_iff.2 ⟨h1, h2, h3, h4⟩] at this
  cases this
set_option maxHeartbeats 8000000 in
set_option maxRecDepth 100000 in
theorem twins_ref (hRS : RSum) (v : Value) (P : HP) (w : World) (hv : HsV w v P) (hf : Few P) (hn : P.length ≤ 1000000) :
  Calls Tryz.prog 19 #[v] w fun e w' => ∃ b, e = .returned (.bool b) ∧ (b = true ↔ Twin (hs P)) ∧ Below w.heap.size w w' := by
 obtain ⟨ad, cap, rfl⟩ := hv.form
 obtain ⟨n, hnn⟩ : ∃ n, n = P.length := ⟨_, rfl⟩
 have HNN := Lib.hid hnn
 have HV0 := Lib.hid hv
 rw [← hnn] at hn HV0
 rw [← hnn]
 clear hv hnn
 go_enter Tryz.func19, Tryz.ntmps19
 go_wp2_with fail
 go_loopw [3] (fun i wr => ∃ k : Nat, k ≤ n ∧ i = .int .i64 (k : Int) ∧ HsV wr (.slice ad n cap) P ∧ Below w.heap.size w wr ∧ ∀ a b, a < k → b < a → hitB ((hs P).getD a zhd) ((hs P).getD b zhd) = false) (fun i _ => n - (intOf i).toNat)
 case atStart => exact ⟨0, Nat.zero_le _, rfl, HV0.out, Below.refl _ _, fun a b ha => absurd ha (Nat.not_lt_zero _)⟩
 case round =>
  clear HV0
  obtain ⟨k, hk, rfl, hv, hbl, hno⟩ := hrel
  have k0 : (0 : Int) ≤ (k : Int) := Int.natCast_nonneg _
  have HNO := Lib.hid hno
  have HBL := Lib.hid hbl
  by_cases hlt : k < n
  case neg =>
   obtain rfl : k = n := by omega
   have HE : Hid (¬ Twin (hs P)) := Lib.hid (twin_none fun a b ha hb => hno a b (by rw [hs_len, ← HNN.out] at ha; exact ha) hb)
   clear hlt hv hbl hno
   go_wp2_with fail
   go_ret
   exact ⟨false, rfl, ⟨fun e => (by cases e), fun e => absurd e HE.out⟩, HBL.out⟩
  have kI : (k : Int) < (n : Int) := by omega
  have hkP : k < P.length := by rw [← HNN.out]; exact hlt
  obtain ⟨b, off, rfl, -, -, -, -, -⟩ := hv.at_ hkP
  obtain ⟨xa, va, hqa⟩ : ∃ a b, P.getD k zhp = (a, b) := ⟨_, _, rfl⟩
  have hld := load_e hv hkP hqa
  have hin := ins_e hv hkP hqa
  have hfw := hf.at_ hkP hqa
  have hid := ident_any hRS xa va wr hin.2 hin.1 hfw.1 hfw.2
  have hl32 := idH_l32 xa
  obtain ⟨y, hy⟩ : ∃ y, y = (idH xa).1 := ⟨_, rfl⟩
  obtain ⟨er, her⟩ : ∃ e, e = (idH xa).2 := ⟨_, rfl⟩
  rw [← hy, ← her] at hid
  rw [← hy] at hl32
  have HID := Lib.hid hid
  have HY := Lib.hid hl32
  have HV := Lib.hid hv
  have HKP := Lib.hid hkP
  have HQA := Lib.hid hqa
  have HYE := Lib.hid hy
  have HER := Lib.hid her
  clear hno hbl hin hfw hid hl32 hy her hv hkP hqa
  go_wp2_with (first
   | ((with_reducible refine step_load (t := 26) (x := .tmp 18) (p := ?lpa1) (v := ?lva1) ?lga1 ?loa1 ?lxa1 ?lra1 ?lha1); (case lga1 => rfl); (case loa1 => rfl); (case lxa1 => rfl); (case lra1 => exact hld))
   | (go_at_call 29; (with_reducible refine HID.out.mono ?_); rintro e w2 ⟨rfl, hb2⟩; have HH := Lib.hid (run_holdI w2 y HY.out); have hb3 := heldI_below w2 y; have hx3 := heldI_blk w2 y; obtain ⟨w3, hw3⟩ : ∃ u, u = heldI w2 y := ⟨_, rfl⟩; rw [← hw3] at HH hb3 hx3; have HXI := Lib.hid hx3; have HV3 := Lib.hid ((HV.out.next hb2).next hb3); have HB3 := Lib.hid ((HBL.out.trans (hb2.mono HBL.out.size)).trans (hb3.mono (Nat.le_trans HBL.out.size hb2.size))); clear hb2 hb3 hx3 hw3 HID)
   | ((with_reducible refine step_store_run (t := 24) (x := .tmp 4) (y := .tmp 21) (p := ?spa2) (v := ?sva2) (w' := ?swa2) ?sga2 ?soa2 ?sxa2 ?sya2 ?sra2 ?sha2); (case sga2 => rfl); (case soa2 => rfl); (case sxa2 => rfl); (case sya2 => rfl); (case sra2 => exact HH.out)))
  clear HV HBL HH hld
  go_loopw [6] (fun i wr2 => ∃ j : Nat, j ≤ k ∧ i = .int .i64 (j : Int) ∧ HsV wr2 (.slice (some ⟨b, off, none⟩) n cap) P ∧ Blk wr2 w2.heap.size 24 (bv y).toArray ∧ Below w.heap.size w wr2 ∧ ∀ m, m < j → hitB ((hs P).getD k zhd) ((hs P).getD m zhd) = false) (fun i _ => k - (intOf i).toNat)
  case atStart => exact ⟨0, Nat.zero_le _, rfl, HV3.out, HXI.out, HB3.out, fun a ha => absurd ha (Nat.not_lt_zero _)⟩
  case round =>
   clear HV3 HXI HB3
   obtain ⟨j, hj, rfl, hv, hxi, hbl, hnj⟩ := hrel
   have j0 : (0 : Int) ≤ (j : Int) := Int.natCast_nonneg _
   have HNJ := Lib.hid hnj
   have HBL := Lib.hid hbl
   have HXI := Lib.hid hxi
   have HV := Lib.hid hv
   by_cases hjt : j < k
   case neg =>
    obtain rfl : j = k := by omega
    clear hjt hv hxi hbl hnj
    go_wp2_with fail
    go_roundw
    case rel => exact ⟨j + 1, hlt, by push_cast; rfl, HV.out, HBL.out, fun a b ha hb => by
     rcases Nat.lt_or_ge a j with c | c
     ·
      exact HNO.out a b c hb
     ·
      obtain rfl : a = j := by omega
      exact HNJ.out b hb⟩
    case measure => simp [intOf]; omega
   have jI : (j : Int) < (k : Int) := by omega
   have jN : (j : Int) < (n : Int) := by omega
   have hjP : j < P.length := by rw [← HNN.out]; omega
   obtain ⟨xb, vb, hqb⟩ : ∃ a b, P.getD j zhp = (a, b) := ⟨_, _, rfl⟩
   have hld := load_e hv hjP hqb
   have hin := ins_e hv hjP hqb
   have hfw := hf.at_ hjP hqb
   have hid := ident_any hRS xb vb wr hin.2 hin.1 hfw.1 hfw.2
   have hl32 := idH_l32 xb
   obtain ⟨x, hx⟩ : ∃ y, y = (idH xb).1 := ⟨_, rfl⟩
   obtain ⟨fr, hfr⟩ : ∃ e, e = (idH xb).2 := ⟨_, rfl⟩
   rw [← hx, ← hfr] at hid
   rw [← hx] at hl32
   obtain ⟨bq, hbq⟩ : ∃ b, b = decide (y = x) := ⟨_, rfl⟩
   obtain ⟨sm, hsm⟩ : ∃ b, b = sameH xa xb := ⟨_, rfl⟩
   have HHIT : Hid (hitB ((hs P).getD k zhd) ((hs P).getD j zhd) = (decide (er = 0) && (decide (fr = 0) && (bq && !sm)))) := Lib.hid (by rw [two_e HKP.out HQA.out, two_e hjP hqb, hbq, hsm, HYE.out, HER.out, hx, hfr]; rfl)
   have HSM : Hid (∀ u, HsV u (.slice (some ⟨b, off, none⟩) n cap) P → Calls Tryz.prog 17 #[hdv xa va, hdv xb vb] u fun e w' => e = .returned (.bool sm) ∧ Below u.heap.size u w') := Lib.hid fun u h => by
    rw [hsm]
    exact same_any xa xb va vb u (ins_e h HKP.out HQA.out).2 (ins_e h hjP hqb).2 (ins_e h HKP.out HQA.out).1 (ins_e h hjP hqb).1
   have HID := Lib.hid hid
   have HX := Lib.hid hl32
   have HJP := Lib.hid hjP
   have HQB := Lib.hid hqb
   have HEQ : Hid (∀ u, (binOp .eql 24 (idv y) (idv x)).run Tryz.prog u = .ok (.bool bq) u) := Lib.hid fun u => by rw [hbq]; exact eql_i u y x HY.out hl32
   clear hnj hbl hxi hv hin hfw hid hl32 hx hfr hjP hqb hbq hsm
   go_upto_region 9 with (first
    | ((with_reducible refine step_load (t := 26) (x := .tmp 31) (p := ?lpb1) (v := ?lvb1) ?lgb1 ?lob1 ?lxb1 ?lrb1 ?lhb1); (case lgb1 => rfl); (case lob1 => rfl); (case lxb1 => rfl); (case lrb1 => exact hld))
    | (go_at_call 29; (with_reducible refine HID.out.mono ?_); rintro e w4 ⟨rfl, hb2⟩; have HH := Lib.hid (run_holdI w4 x HX.out); have hb3 := heldI_below w4 x; have hx3 := heldI_blk w4 x; obtain ⟨w5, hw3⟩ : ∃ u, u = heldI w4 x := ⟨_, rfl⟩; rw [← hw3] at HH hb3 hx3; have HXJ := Lib.hid hx3; have HXI5 := Lib.hid ((HXI.out.below hb2 HXI.out.lt).below hb3 (Nat.lt_of_lt_of_le HXI.out.lt hb2.size)); have HV5 := Lib.hid ((HV.out.next hb2).next hb3); have HB5 := Lib.hid ((HBL.out.trans (hb2.mono HBL.out.size)).trans (hb3.mono (Nat.le_trans HBL.out.size hb2.size))); clear hb2 hb3 hx3 hw3 HID)
    | ((with_reducible refine step_store_run (t := 24) (x := .tmp 7) (y := .tmp 34) (p := ?spb2) (v := ?svb2) (w' := ?swb2) ?sgb2 ?sob2 ?sxb2 ?syb2 ?srb2 ?shb2); (case sgb2 => rfl); (case sob2 => rfl); (case sxb2 => rfl); (case syb2 => rfl); (case srb2 => exact HH.out)))
   clear HV HBL HXI HH hld
   by_cases he : er = 0
   case neg =>
    have hne : (er == 0) = false := beq_eq_false_iff_ne.2 he
    have HQ : Hid (decide (er = 0) = false) := Lib.hid (decide_eq_false he)
    clear he
    refine wp_region_held_drew (S := fun u => HsV u (.slice (some ⟨b, off, none⟩) n cap) P ∧ Blk u w2.heap.size 24 (bv y).toArray ∧ Blk u w4.heap.size 24 (bv x).toArray) (by kernel_rfl) ?_ (fun hHeld => ?_)
    ·
     exact ⟨HV5.out.next ((Below.refl _ w5).drew), HXI5.out.below ((Below.refl _ w5).drew) HXI5.out.lt, HXJ.out.below ((Below.refl _ w5).drew) HXJ.out.lt⟩
    refine' wpAnyH_take (i := 0) ?hita0 (by kernel_rfl) (by kernel_rfl) (by kernel_rfl) ?hqta0 (Or.inl ⟨?hwta0, ?hyta0⟩) (by assumption) ?hrta0
    case hita0 => (simp only [List.getElem?_toArray, List.getElem?_cons_zero]; rfl)
    case hqta0 => exact fun _ _ _ h => h
    case hwta0 => rfl
    case hyta0 => (intro w0 hSw; (try dsimp only at hSw); go_simp; try with_reducible rfl)
    (try simp only [Act.put, List.setIfInBounds_toArray, List.set_cons_zero, List.set_cons_succ])
    refine' wpAnyH_take (i := 1) ?hita1 (by kernel_rfl) (by kernel_rfl) (by kernel_rfl) ?hqta1 (Or.inl ⟨?hwta1, ?hyta1⟩) (by assumption) ?hrta1
    case hita1 => (simp only [List.getElem?_toArray, List.getElem?_cons_succ, List.getElem?_cons_zero]; rfl)
    case hqta1 => exact fun _ _ _ h => h
    case hwta1 => rfl
    case hyta1 => (intro w0 hSw; (try dsimp only at hSw); go_simp; try with_reducible rfl)
    (try simp only [Act.put, List.setIfInBounds_toArray, List.set_cons_zero, List.set_cons_succ])
    refine' wpAnyH_take (i := 2) ?hita2 (by kernel_rfl) (by kernel_rfl) (by kernel_rfl) ?hqta2 (Or.inl ⟨?hwta2, ?hyta2⟩) (by assumption) ?hrta2
    case hita2 => (simp only [List.getElem?_toArray, List.getElem?_cons_succ, List.getElem?_cons_zero]; rfl)
    case hqta2 => exact fun _ _ _ h => h
    case hwta2 => rfl
    case hyta2 => (intro w0 hSw; (try dsimp only at hSw); go_simp; try with_reducible rfl)
    (try simp only [Act.put, List.setIfInBounds_toArray, List.set_cons_zero, List.set_cons_succ])
    refine' wpAnyH_take (i := 3) (v := undef) ?hita3 (by kernel_rfl) (by kernel_rfl) (by kernel_rfl) ?hqta3 (Or.inr ⟨?hwta3, rfl⟩) (by assumption) ?hrta3
    case hita3 => (simp only [List.getElem?_toArray, List.getElem?_cons_succ, List.getElem?_cons_zero]; rfl)
    case hqta3 => exact fun _ _ _ h => h
    case hwta3 => rfl
    (try simp only [Act.put, List.setIfInBounds_toArray, List.set_cons_zero, List.set_cons_succ])
    refine' wpAnyH_take (i := 4) (v := undef) ?hita4 (by kernel_rfl) (by kernel_rfl) (by kernel_rfl) ?hqta4 (Or.inr ⟨?hwta4, rfl⟩) (by assumption) ?hrta4
    case hita4 => (simp only [List.getElem?_toArray, List.getElem?_cons_succ, List.getElem?_cons_zero]; rfl)
    case hqta4 => exact fun _ _ _ h => h
    case hwta4 => rfl
    (try simp only [Act.put, List.setIfInBounds_toArray, List.set_cons_zero, List.set_cons_succ])
    refine' wpAnyH_take (i := 5) ?hita5 (by kernel_rfl) (by kernel_rfl) (by kernel_rfl) ?hqta5 (Or.inl ⟨?hwta5, ?hyta5⟩) (by assumption) ?hrta5
    case hita5 => (simp only [List.getElem?_toArray, List.getElem?_cons_succ, List.getElem?_cons_zero]; rfl)
    case hqta5 => exact fun _ _ _ h => h
    case hwta5 => rfl
    case hyta5 => (intro w0 hSw; (try dsimp only at hSw); go_simp; try with_reducible rfl)
    (try simp only [Act.put, List.setIfInBounds_toArray, List.set_cons_zero, List.set_cons_succ])
    refine' wpAnyH_take (i := 6) ?hita6 (by kernel_rfl) (by kernel_rfl) (by kernel_rfl) ?hqta6 (Or.inl ⟨?hwta6, ?hyta6⟩) (by assumption) ?hrta6
    case hita6 => (simp only [List.getElem?_toArray, List.getElem?_cons_succ, List.getElem?_cons_zero]; rfl)
    case hqta6 => exact fun _ _ _ h => h
    case hwta6 => rfl
    case hyta6 => (intro w0 hSw; (try dsimp only at hSw); go_simp; try with_reducible rfl)
    (try simp only [Act.put, List.setIfInBounds_toArray, List.set_cons_zero, List.set_cons_succ])
    refine' wpAnyH_take (i := 7) (v := undef) ?hita7 (by kernel_rfl) (by kernel_rfl) (by kernel_rfl) ?hqta7 (Or.inr ⟨?hwta7, rfl⟩) (by assumption) ?hrta7
    case hita7 => (simp only [List.getElem?_toArray, List.getElem?_cons_succ, List.getElem?_cons_zero]; rfl)
    case hqta7 => exact fun _ _ _ h => h
    case hwta7 => rfl
    (try simp only [Act.put, List.setIfInBounds_toArray, List.set_cons_zero, List.set_cons_succ])
    refine' wpAnyH_take (i := 8) (v := undef) ?hita8 (by kernel_rfl) (by kernel_rfl) (by kernel_rfl) ?hqta8 (Or.inr ⟨?hwta8, rfl⟩) (by assumption) ?hrta8
    case hita8 => (simp only [List.getElem?_toArray, List.getElem?_cons_succ, List.getElem?_cons_zero]; rfl)
    case hqta8 => exact fun _ _ _ h => h
    case hwta8 => rfl
    (try simp only [Act.put, List.setIfInBounds_toArray, List.set_cons_zero, List.set_cons_succ])
    refine' wpAnyH_take (i := 9) (v := undef) ?hita9 (by kernel_rfl) (by kernel_rfl) (by kernel_rfl) ?hqta9 (Or.inr ⟨?hwta9, rfl⟩) (by assumption) ?hrta9
    case hita9 => (simp only [List.getElem?_toArray, List.getElem?_cons_succ, List.getElem?_cons_zero]; rfl)
    case hqta9 => exact fun _ _ _ h => h
    case hwta9 => rfl
    (try simp only [Act.put, List.setIfInBounds_toArray, List.set_cons_zero, List.set_cons_succ])
    refine' wpAnyH_take (i := 10) ?hita10 (by kernel_rfl) (by kernel_rfl) (by kernel_rfl) ?hqta10 (Or.inl ⟨?hwta10, ?hyta10⟩) (by assumption) ?hrta10
    case hita10 => (simp only [List.getElem?_toArray, List.getElem?_cons_succ, List.getElem?_cons_zero]; rfl)
    case hqta10 => exact fun _ _ _ h => h
    case hwta10 => rfl
    case hyta10 => (intro w0 hSw; (try dsimp only at hSw); go_simp; try with_reducible rfl)
    (try simp only [Act.put, List.setIfInBounds_toArray, List.set_cons_zero, List.set_cons_succ])
    refine' wpAnyH_take (i := 11) ?hita11 (by kernel_rfl) (by kernel_rfl) (by kernel_rfl) ?hqta11 (Or.inl ⟨?hwta11, ?hyta11⟩) (by assumption) ?hrta11
    case hita11 => (simp only [List.getElem?_toArray, List.getElem?_cons_succ, List.getElem?_cons_zero]; rfl)
    case hqta11 => exact fun _ _ _ h => h
    case hwta11 => rfl
    case hyta11 => (intro w0 hSw; (try dsimp only at hSw); go_simp; try with_reducible rfl)
    (try simp only [Act.put, List.setIfInBounds_toArray, List.set_cons_zero, List.set_cons_succ])
    refine' wpAnyH_take (i := 12) (v := undef) ?hita12 (by kernel_rfl) (by kernel_rfl) (by kernel_rfl) ?hqta12 (Or.inr ⟨?hwta12, rfl⟩) (by assumption) ?hrta12
    case hita12 => (simp only [List.getElem?_toArray, List.getElem?_cons_succ, List.getElem?_cons_zero]; rfl)
    case hqta12 => exact fun _ _ _ h => h
    case hwta12 => rfl
    (try simp only [Act.put, List.setIfInBounds_toArray, List.set_cons_zero, List.set_cons_succ])
    refine' wpAnyH_take (i := 13) (v := undef) ?hita13 (by kernel_rfl) (by kernel_rfl) (by kernel_rfl) ?hqta13 (Or.inr ⟨?hwta13, rfl⟩) (by assumption) ?hrta13
    case hita13 => (simp only [List.getElem?_toArray, List.getElem?_cons_succ, List.getElem?_cons_zero]; rfl)
    case hqta13 => exact fun _ _ _ h => h
    case hwta13 => rfl
    (try simp only [Act.put, List.setIfInBounds_toArray, List.set_cons_zero, List.set_cons_succ])
    refine' wpAnyH_take (i := 14) (v := undef) ?hita14 (by kernel_rfl) (by kernel_rfl) (by kernel_rfl) ?hqta14 (Or.inr ⟨?hwta14, rfl⟩) (by assumption) ?hrta14
    case hita14 => (simp only [List.getElem?_toArray, List.getElem?_cons_succ, List.getElem?_cons_zero]; rfl)
    case hqta14 => exact fun _ _ _ h => h
    case hwta14 => rfl
    (try simp only [Act.put, List.setIfInBounds_toArray, List.set_cons_zero, List.set_cons_succ])
    refine' wpAnyH_take (i := 15) (v := undef) ?hita15 (by kernel_rfl) (by kernel_rfl) (by kernel_rfl) ?hqta15 (Or.inr ⟨?hwta15, rfl⟩) (by assumption) ?hrta15
    case hita15 => (simp only [List.getElem?_toArray, List.getElem?_cons_succ, List.getElem?_cons_zero]; rfl)
    case hqta15 => exact fun _ _ _ h => h
    case hwta15 => rfl
    (try simp only [Act.put, List.setIfInBounds_toArray, List.set_cons_zero, List.set_cons_succ])
    refine' wpAnyH_take (i := 16) (v := undef) ?hita16 (by kernel_rfl) (by kernel_rfl) (by kernel_rfl) ?hqta16 (Or.inr ⟨?hwta16, rfl⟩) (by assumption) ?hrta16
    case hita16 => (simp only [List.getElem?_toArray, List.getElem?_cons_succ, List.getElem?_cons_zero]; rfl)
    case hqta16 => exact fun _ _ _ h => h
    case hwta16 => rfl
    (try simp only [Act.put, List.setIfInBounds_toArray, List.set_cons_zero, List.set_cons_succ])
    refine' wpAnyH_take (i := 17) (v := undef) ?hita17 (by kernel_rfl) (by kernel_rfl) (by kernel_rfl) ?hqta17 (Or.inr ⟨?hwta17, rfl⟩) (by assumption) ?hrta17
    case hita17 => (simp only [List.getElem?_toArray, List.getElem?_cons_succ, List.getElem?_cons_zero]; rfl)
    case hqta17 => exact fun _ _ _ h => h
    case hwta17 => rfl
    (try simp only [Act.put, List.setIfInBounds_toArray, List.set_cons_zero, List.set_cons_succ])
    refine' wpAnyH_take (i := 18) (v := undef) ?hita18 (by kernel_rfl) (by kernel_rfl) (by kernel_rfl) ?hqta18 (Or.inr ⟨?hwta18, rfl⟩) (by assumption) ?hrta18
    case hita18 => (simp only [List.getElem?_toArray, List.getElem?_cons_succ, List.getElem?_cons_zero]; rfl)
    case hqta18 => exact fun _ _ _ h => h
    case hwta18 => rfl
    (try simp only [Act.put, List.setIfInBounds_toArray, List.set_cons_zero, List.set_cons_succ])
    refine' wpAnyH_take (i := 19) (v := undef) ?hita19 (by kernel_rfl) (by kernel_rfl) (by kernel_rfl) ?hqta19 (Or.inr ⟨?hwta19, rfl⟩) (by assumption) ?hrta19
    case hita19 => (simp only [List.getElem?_toArray, List.getElem?_cons_succ, List.getElem?_cons_zero]; rfl)
    case hqta19 => exact fun _ _ _ h => h
    case hwta19 => rfl
    (try simp only [Act.put, List.setIfInBounds_toArray, List.set_cons_zero, List.set_cons_succ])
    refine' wpAnyH_take (i := 20) (v := undef) ?hita20 (by kernel_rfl) (by kernel_rfl) (by kernel_rfl) ?hqta20 (Or.inr ⟨?hwta20, rfl⟩) (by assumption) ?hrta20
    case hita20 => (simp only [List.getElem?_toArray, List.getElem?_cons_succ, List.getElem?_cons_zero]; rfl)
    case hqta20 => exact fun _ _ _ h => h
    case hwta20 => rfl
    (try simp only [Act.put, List.setIfInBounds_toArray, List.set_cons_zero, List.set_cons_succ])
    refine' wpAnyH_take (i := 21) (v := undef) ?hita21 (by kernel_rfl) (by kernel_rfl) (by kernel_rfl) ?hqta21 (Or.inr ⟨?hwta21, rfl⟩) (by assumption) ?hrta21
    case hita21 => (simp only [List.getElem?_toArray, List.getElem?_cons_succ, List.getElem?_cons_zero]; rfl)
    case hqta21 => exact fun _ _ _ h => h
    case hwta21 => rfl
    (try simp only [Act.put, List.setIfInBounds_toArray, List.set_cons_zero, List.set_cons_succ])
    refine' wpAnyH_take (i := 22) ?hita22 (by kernel_rfl) (by kernel_rfl) (by kernel_rfl) ?hqta22 (Or.inl ⟨?hwta22, ?hyta22⟩) (by assumption) ?hrta22
    case hita22 => (simp only [List.getElem?_toArray, List.getElem?_cons_succ, List.getElem?_cons_zero]; rfl)
    case hqta22 => exact fun _ _ _ h => h
    case hwta22 => rfl
    case hyta22 => (intro w0 hSw; (try dsimp only at hSw); go_simp; try with_reducible rfl)
    (try simp only [Act.put, List.setIfInBounds_toArray, List.set_cons_zero, List.set_cons_succ])
    refine wpAnyH_done (by kernel_rfl) ?_ _
    have HV6 := Lib.hid hHeld.1
    have HXI6 := Lib.hid hHeld.2.1
    have HB6 := Lib.hid (HB5.out.trans (((Below.refl _ w5).drew).mono HB5.out.size))
    clear hHeld
    go_wp2_with fail
    go_roundw
    case rel => exact ⟨j + 1, hjt, by push_cast; rfl, HV6.out, HXI6.out, HB6.out, fun m hm => by
     rcases Nat.lt_or_ge m j with c | c
     ·
      exact HNJ.out m c
     ·
      obtain rfl : m = j := by omega
      rw [HHIT.out, HQ.out, Bool.false_and]⟩
    case measure => simp [intOf]; omega
   subst he
   by_cases he : fr = 0
   case neg =>
    have hne : (fr == 0) = false := beq_eq_false_iff_ne.2 he
    have HQ : Hid (decide (fr = 0) = false) := Lib.hid (decide_eq_false he)
    clear he
    refine wp_region_held_drew (S := fun u => HsV u (.slice (some ⟨b, off, none⟩) n cap) P ∧ Blk u w2.heap.size 24 (bv y).toArray ∧ Blk u w4.heap.size 24 (bv x).toArray) (by kernel_rfl) ?_ (fun hHeld => ?_)
    ·
     exact ⟨HV5.out.next ((Below.refl _ w5).drew), HXI5.out.below ((Below.refl _ w5).drew) HXI5.out.lt, HXJ.out.below ((Below.refl _ w5).drew) HXJ.out.lt⟩
    refine' wpAnyH_take (i := 0) ?hitb0 (by kernel_rfl) (by kernel_rfl) (by kernel_rfl) ?hqtb0 (Or.inl ⟨?hwtb0, ?hytb0⟩) (by assumption) ?hrtb0
    case hitb0 => (simp only [List.getElem?_toArray, List.getElem?_cons_zero]; rfl)
    case hqtb0 => exact fun _ _ _ h => h
    case hwtb0 => rfl
    case hytb0 => (intro w0 hSw; (try dsimp only at hSw); go_simp; try with_reducible rfl)
    (try simp only [Act.put, List.setIfInBounds_toArray, List.set_cons_zero, List.set_cons_succ])
    refine' wpAnyH_take (i := 1) ?hitb1 (by kernel_rfl) (by kernel_rfl) (by kernel_rfl) ?hqtb1 (Or.inl ⟨?hwtb1, ?hytb1⟩) (by assumption) ?hrtb1
    case hitb1 => (simp only [List.getElem?_toArray, List.getElem?_cons_succ, List.getElem?_cons_zero]; rfl)
    case hqtb1 => exact fun _ _ _ h => h
    case hwtb1 => rfl
    case hytb1 => (intro w0 hSw; (try dsimp only at hSw); go_simp; try with_reducible rfl)
    (try simp only [Act.put, List.setIfInBounds_toArray, List.set_cons_zero, List.set_cons_succ])
    refine' wpAnyH_take (i := 2) ?hitb2 (by kernel_rfl) (by kernel_rfl) (by kernel_rfl) ?hqtb2 (Or.inl ⟨?hwtb2, ?hytb2⟩) (by assumption) ?hrtb2
    case hitb2 => (simp only [List.getElem?_toArray, List.getElem?_cons_succ, List.getElem?_cons_zero]; rfl)
    case hqtb2 => exact fun _ _ _ h => h
    case hwtb2 => rfl
    case hytb2 => (intro w0 hSw; (try dsimp only at hSw); go_simp; try with_reducible rfl)
    (try simp only [Act.put, List.setIfInBounds_toArray, List.set_cons_zero, List.set_cons_succ])
    refine' wpAnyH_take (i := 3) ?hitb3 (by kernel_rfl) (by kernel_rfl) (by kernel_rfl) ?hqtb3 (Or.inl ⟨?hwtb3, ?hytb3⟩) (by assumption) ?hrtb3
    case hitb3 => (simp only [List.getElem?_toArray, List.getElem?_cons_succ, List.getElem?_cons_zero]; rfl)
    case hqtb3 => exact fun _ _ _ h => h
    case hwtb3 => rfl
    case hytb3 => (intro w0 hSw; (try dsimp only at hSw); go_simp; try with_reducible rfl)
    (try simp only [Act.put, List.setIfInBounds_toArray, List.set_cons_zero, List.set_cons_succ])
    refine' wpAnyH_take (i := 4) ?hitb4 (by kernel_rfl) (by kernel_rfl) (by kernel_rfl) ?hqtb4 (Or.inl ⟨?hwtb4, ?hytb4⟩) (by assumption) ?hrtb4
    case hitb4 => (simp only [List.getElem?_toArray, List.getElem?_cons_succ, List.getElem?_cons_zero]; rfl)
    case hqtb4 => exact fun _ _ _ h => h
    case hwtb4 => rfl
    case hytb4 => (intro w0 hSw; (try dsimp only at hSw); go_simp; try with_reducible rfl)
    (try simp only [Act.put, List.setIfInBounds_toArray, List.set_cons_zero, List.set_cons_succ])
    refine' wpAnyH_take (i := 5) ?hitb5 (by kernel_rfl) (by kernel_rfl) (by kernel_rfl) ?hqtb5 (Or.inl ⟨?hwtb5, ?hytb5⟩) (by assumption) ?hrtb5
    case hitb5 => (simp only [List.getElem?_toArray, List.getElem?_cons_succ, List.getElem?_cons_zero]; rfl)
    case hqtb5 => exact fun _ _ _ h => h
    case hwtb5 => rfl
    case hytb5 => (intro w0 hSw; (try dsimp only at hSw); go_simp; try with_reducible rfl)
    (try simp only [Act.put, List.setIfInBounds_toArray, List.set_cons_zero, List.set_cons_succ])
    refine' wpAnyH_take (i := 6) ?hitb6 (by kernel_rfl) (by kernel_rfl) (by kernel_rfl) ?hqtb6 (Or.inl ⟨?hwtb6, ?hytb6⟩) (by assumption) ?hrtb6
    case hitb6 => (simp only [List.getElem?_toArray, List.getElem?_cons_succ, List.getElem?_cons_zero]; rfl)
    case hqtb6 => exact fun _ _ _ h => h
    case hwtb6 => rfl
    case hytb6 => (intro w0 hSw; (try dsimp only at hSw); go_simp; try with_reducible rfl)
    (try simp only [Act.put, List.setIfInBounds_toArray, List.set_cons_zero, List.set_cons_succ])
    refine' wpAnyH_take (i := 7) (v := undef) ?hitb7 (by kernel_rfl) (by kernel_rfl) (by kernel_rfl) ?hqtb7 (Or.inr ⟨?hwtb7, rfl⟩) (by assumption) ?hrtb7
    case hitb7 => (simp only [List.getElem?_toArray, List.getElem?_cons_succ, List.getElem?_cons_zero]; rfl)
    case hqtb7 => exact fun _ _ _ h => h
    case hwtb7 => rfl
    (try simp only [Act.put, List.setIfInBounds_toArray, List.set_cons_zero, List.set_cons_succ])
    refine' wpAnyH_take (i := 8) (v := undef) ?hitb8 (by kernel_rfl) (by kernel_rfl) (by kernel_rfl) ?hqtb8 (Or.inr ⟨?hwtb8, rfl⟩) (by assumption) ?hrtb8
    case hitb8 => (simp only [List.getElem?_toArray, List.getElem?_cons_succ, List.getElem?_cons_zero]; rfl)
    case hqtb8 => exact fun _ _ _ h => h
    case hwtb8 => rfl
    (try simp only [Act.put, List.setIfInBounds_toArray, List.set_cons_zero, List.set_cons_succ])
    refine' wpAnyH_take (i := 9) (v := undef) ?hitb9 (by kernel_rfl) (by kernel_rfl) (by kernel_rfl) ?hqtb9 (Or.inr ⟨?hwtb9, rfl⟩) (by assumption) ?hrtb9
    case hitb9 => (simp only [List.getElem?_toArray, List.getElem?_cons_succ, List.getElem?_cons_zero]; rfl)
    case hqtb9 => exact fun _ _ _ h => h
    case hwtb9 => rfl
    (try simp only [Act.put, List.setIfInBounds_toArray, List.set_cons_zero, List.set_cons_succ])
    refine' wpAnyH_take (i := 10) ?hitb10 (by kernel_rfl) (by kernel_rfl) (by kernel_rfl) ?hqtb10 (Or.inl ⟨?hwtb10, ?hytb10⟩) (by assumption) ?hrtb10
    case hitb10 => (simp only [List.getElem?_toArray, List.getElem?_cons_succ, List.getElem?_cons_zero]; rfl)
    case hqtb10 => exact fun _ _ _ h => h
    case hwtb10 => rfl
    case hytb10 => (intro w0 hSw; (try dsimp only at hSw); go_simp; try with_reducible rfl)
    (try simp only [Act.put, List.setIfInBounds_toArray, List.set_cons_zero, List.set_cons_succ])
    refine' wpAnyH_take (i := 11) ?hitb11 (by kernel_rfl) (by kernel_rfl) (by kernel_rfl) ?hqtb11 (Or.inl ⟨?hwtb11, ?hytb11⟩) (by assumption) ?hrtb11
    case hitb11 => (simp only [List.getElem?_toArray, List.getElem?_cons_succ, List.getElem?_cons_zero]; rfl)
    case hqtb11 => exact fun _ _ _ h => h
    case hwtb11 => rfl
    case hytb11 => (intro w0 hSw; (try dsimp only at hSw); go_simp; try with_reducible rfl)
    (try simp only [Act.put, List.setIfInBounds_toArray, List.set_cons_zero, List.set_cons_succ])
    refine' wpAnyH_take (i := 12) (v := undef) ?hitb12 (by kernel_rfl) (by kernel_rfl) (by kernel_rfl) ?hqtb12 (Or.inr ⟨?hwtb12, rfl⟩) (by assumption) ?hrtb12
    case hitb12 => (simp only [List.getElem?_toArray, List.getElem?_cons_succ, List.getElem?_cons_zero]; rfl)
    case hqtb12 => exact fun _ _ _ h => h
    case hwtb12 => rfl
    (try simp only [Act.put, List.setIfInBounds_toArray, List.set_cons_zero, List.set_cons_succ])
    refine' wpAnyH_take (i := 13) (v := undef) ?hitb13 (by kernel_rfl) (by kernel_rfl) (by kernel_rfl) ?hqtb13 (Or.inr ⟨?hwtb13, rfl⟩) (by assumption) ?hrtb13
    case hitb13 => (simp only [List.getElem?_toArray, List.getElem?_cons_succ, List.getElem?_cons_zero]; rfl)
    case hqtb13 => exact fun _ _ _ h => h
    case hwtb13 => rfl
    (try simp only [Act.put, List.setIfInBounds_toArray, List.set_cons_zero, List.set_cons_succ])
    refine' wpAnyH_take (i := 14) (v := undef) ?hitb14 (by kernel_rfl) (by kernel_rfl) (by kernel_rfl) ?hqtb14 (Or.inr ⟨?hwtb14, rfl⟩) (by assumption) ?hrtb14
    case hitb14 => (simp only [List.getElem?_toArray, List.getElem?_cons_succ, List.getElem?_cons_zero]; rfl)
    case hqtb14 => exact fun _ _ _ h => h
    case hwtb14 => rfl
    (try simp only [Act.put, List.setIfInBounds_toArray, List.set_cons_zero, List.set_cons_succ])
    refine' wpAnyH_take (i := 15) (v := undef) ?hitb15 (by kernel_rfl) (by kernel_rfl) (by kernel_rfl) ?hqtb15 (Or.inr ⟨?hwtb15, rfl⟩) (by assumption) ?hrtb15
    case hitb15 => (simp only [List.getElem?_toArray, List.getElem?_cons_succ, List.getElem?_cons_zero]; rfl)
    case hqtb15 => exact fun _ _ _ h => h
    case hwtb15 => rfl
    (try simp only [Act.put, List.setIfInBounds_toArray, List.set_cons_zero, List.set_cons_succ])
    refine' wpAnyH_take (i := 16) (v := undef) ?hitb16 (by kernel_rfl) (by kernel_rfl) (by kernel_rfl) ?hqtb16 (Or.inr ⟨?hwtb16, rfl⟩) (by assumption) ?hrtb16
    case hitb16 => (simp only [List.getElem?_toArray, List.getElem?_cons_succ, List.getElem?_cons_zero]; rfl)
    case hqtb16 => exact fun _ _ _ h => h
    case hwtb16 => rfl
    (try simp only [Act.put, List.setIfInBounds_toArray, List.set_cons_zero, List.set_cons_succ])
    refine' wpAnyH_take (i := 17) (v := undef) ?hitb17 (by kernel_rfl) (by kernel_rfl) (by kernel_rfl) ?hqtb17 (Or.inr ⟨?hwtb17, rfl⟩) (by assumption) ?hrtb17
    case hitb17 => (simp only [List.getElem?_toArray, List.getElem?_cons_succ, List.getElem?_cons_zero]; rfl)
    case hqtb17 => exact fun _ _ _ h => h
    case hwtb17 => rfl
    (try simp only [Act.put, List.setIfInBounds_toArray, List.set_cons_zero, List.set_cons_succ])
    refine' wpAnyH_take (i := 18) (v := undef) ?hitb18 (by kernel_rfl) (by kernel_rfl) (by kernel_rfl) ?hqtb18 (Or.inr ⟨?hwtb18, rfl⟩) (by assumption) ?hrtb18
    case hitb18 => (simp only [List.getElem?_toArray, List.getElem?_cons_succ, List.getElem?_cons_zero]; rfl)
    case hqtb18 => exact fun _ _ _ h => h
    case hwtb18 => rfl
    (try simp only [Act.put, List.setIfInBounds_toArray, List.set_cons_zero, List.set_cons_succ])
    refine' wpAnyH_take (i := 19) (v := undef) ?hitb19 (by kernel_rfl) (by kernel_rfl) (by kernel_rfl) ?hqtb19 (Or.inr ⟨?hwtb19, rfl⟩) (by assumption) ?hrtb19
    case hitb19 => (simp only [List.getElem?_toArray, List.getElem?_cons_succ, List.getElem?_cons_zero]; rfl)
    case hqtb19 => exact fun _ _ _ h => h
    case hwtb19 => rfl
    (try simp only [Act.put, List.setIfInBounds_toArray, List.set_cons_zero, List.set_cons_succ])
    refine' wpAnyH_take (i := 20) (v := undef) ?hitb20 (by kernel_rfl) (by kernel_rfl) (by kernel_rfl) ?hqtb20 (Or.inr ⟨?hwtb20, rfl⟩) (by assumption) ?hrtb20
    case hitb20 => (simp only [List.getElem?_toArray, List.getElem?_cons_succ, List.getElem?_cons_zero]; rfl)
    case hqtb20 => exact fun _ _ _ h => h
    case hwtb20 => rfl
    (try simp only [Act.put, List.setIfInBounds_toArray, List.set_cons_zero, List.set_cons_succ])
    refine' wpAnyH_take (i := 21) (v := undef) ?hitb21 (by kernel_rfl) (by kernel_rfl) (by kernel_rfl) ?hqtb21 (Or.inr ⟨?hwtb21, rfl⟩) (by assumption) ?hrtb21
    case hitb21 => (simp only [List.getElem?_toArray, List.getElem?_cons_succ, List.getElem?_cons_zero]; rfl)
    case hqtb21 => exact fun _ _ _ h => h
    case hwtb21 => rfl
    (try simp only [Act.put, List.setIfInBounds_toArray, List.set_cons_zero, List.set_cons_succ])
    refine' wpAnyH_take (i := 22) ?hitb22 (by kernel_rfl) (by kernel_rfl) (by kernel_rfl) ?hqtb22 (Or.inl ⟨?hwtb22, ?hytb22⟩) (by assumption) ?hrtb22
    case hitb22 => (simp only [List.getElem?_toArray, List.getElem?_cons_succ, List.getElem?_cons_zero]; rfl)
    case hqtb22 => exact fun _ _ _ h => h
    case hwtb22 => rfl
    case hytb22 => (intro w0 hSw; (try dsimp only at hSw); go_simp; try with_reducible rfl)
    (try simp only [Act.put, List.setIfInBounds_toArray, List.set_cons_zero, List.set_cons_succ])
    refine wpAnyH_done (by kernel_rfl) ?_ _
    have HV6 := Lib.hid hHeld.1
    have HXI6 := Lib.hid hHeld.2.1
    have HB6 := Lib.hid (HB5.out.trans (((Below.refl _ w5).drew).mono HB5.out.size))
    clear hHeld
    go_wp2_with fail
    go_roundw
    case rel => exact ⟨j + 1, hjt, by push_cast; rfl, HV6.out, HXI6.out, HB6.out, fun m hm => by
     rcases Nat.lt_or_ge m j with c | c
     ·
      exact HNJ.out m c
     ·
      obtain rfl : m = j := by omega
      rw [HHIT.out, HQ.out, Bool.false_and, Bool.and_false]⟩
    case measure => simp [intOf]; omega
   subst he
   cases bq with
   | false =>
    refine wp_region_held_drew (S := fun u => HsV u (.slice (some ⟨b, off, none⟩) n cap) P ∧ Blk u w2.heap.size 24 (bv y).toArray ∧ Blk u w4.heap.size 24 (bv x).toArray) (by kernel_rfl) ?_ (fun hHeld => ?_)
    ·
     exact ⟨HV5.out.next ((Below.refl _ w5).drew), HXI5.out.below ((Below.refl _ w5).drew) HXI5.out.lt, HXJ.out.below ((Below.refl _ w5).drew) HXJ.out.lt⟩
    refine' wpAnyH_take (i := 0) ?hitc0 (by kernel_rfl) (by kernel_rfl) (by kernel_rfl) ?hqtc0 (Or.inl ⟨?hwtc0, ?hytc0⟩) (by assumption) ?hrtc0
    case hitc0 => (simp only [List.getElem?_toArray, List.getElem?_cons_zero]; rfl)
    case hqtc0 => exact fun _ _ _ h => h
    case hwtc0 => rfl
    case hytc0 => (intro w0 hSw; (try dsimp only at hSw); go_simp; try with_reducible rfl)
    (try simp only [Act.put, List.setIfInBounds_toArray, List.set_cons_zero, List.set_cons_succ])
    refine' wpAnyH_take (i := 1) ?hitc1 (by kernel_rfl) (by kernel_rfl) (by kernel_rfl) ?hqtc1 (Or.inl ⟨?hwtc1, ?hytc1⟩) (by assumption) ?hrtc1
    case hitc1 => (simp only [List.getElem?_toArray, List.getElem?_cons_succ, List.getElem?_cons_zero]; rfl)
    case hqtc1 => exact fun _ _ _ h => h
    case hwtc1 => rfl
    case hytc1 => (intro w0 hSw; (try dsimp only at hSw); go_simp; try with_reducible rfl)
    (try simp only [Act.put, List.setIfInBounds_toArray, List.set_cons_zero, List.set_cons_succ])
    refine' wpAnyH_take (i := 2) ?hitc2 (by kernel_rfl) (by kernel_rfl) (by kernel_rfl) ?hqtc2 (Or.inl ⟨?hwtc2, ?hytc2⟩) (by assumption) ?hrtc2
    case hitc2 => (simp only [List.getElem?_toArray, List.getElem?_cons_succ, List.getElem?_cons_zero]; rfl)
    case hqtc2 => exact fun _ _ _ h => h
    case hwtc2 => rfl
    case hytc2 => (intro w0 hSw; (try dsimp only at hSw); go_simp; try with_reducible rfl)
    (try simp only [Act.put, List.setIfInBounds_toArray, List.set_cons_zero, List.set_cons_succ])
    refine' wpAnyH_take (i := 3) ?hitc3 (by kernel_rfl) (by kernel_rfl) (by kernel_rfl) ?hqtc3 (Or.inl ⟨?hwtc3, ?hytc3⟩) (by assumption) ?hrtc3
    case hitc3 => (simp only [List.getElem?_toArray, List.getElem?_cons_succ, List.getElem?_cons_zero]; rfl)
    case hqtc3 => exact fun _ _ _ h => h
    case hwtc3 => rfl
    case hytc3 => (intro w0 hSw; (try dsimp only at hSw); go_simp; try with_reducible rfl)
    (try simp only [Act.put, List.setIfInBounds_toArray, List.set_cons_zero, List.set_cons_succ])
    refine' wpAnyH_take (i := 4) ?hitc4 (by kernel_rfl) (by kernel_rfl) (by kernel_rfl) ?hqtc4 (Or.inl ⟨?hwtc4, ?hytc4⟩) (by assumption) ?hrtc4
    case hitc4 => (simp only [List.getElem?_toArray, List.getElem?_cons_succ, List.getElem?_cons_zero]; rfl)
    case hqtc4 => exact fun _ _ _ h => h
    case hwtc4 => rfl
    case hytc4 => (intro w0 hSw; (try dsimp only at hSw); go_simp; try with_reducible rfl)
    (try simp only [Act.put, List.setIfInBounds_toArray, List.set_cons_zero, List.set_cons_succ])
    refine' wpAnyH_take (i := 5) ?hitc5 (by kernel_rfl) (by kernel_rfl) (by kernel_rfl) ?hqtc5 (Or.inl ⟨?hwtc5, ?hytc5⟩) (by assumption) ?hrtc5
    case hitc5 => (simp only [List.getElem?_toArray, List.getElem?_cons_succ, List.getElem?_cons_zero]; rfl)
    case hqtc5 => exact fun _ _ _ h => h
    case hwtc5 => rfl
    case hytc5 => (intro w0 hSw; (try dsimp only at hSw); go_simp; try with_reducible rfl)
    (try simp only [Act.put, List.setIfInBounds_toArray, List.set_cons_zero, List.set_cons_succ])
    refine' wpAnyH_take (i := 6) ?hitc6 (by kernel_rfl) (by kernel_rfl) (by kernel_rfl) ?hqtc6 (Or.inl ⟨?hwtc6, ?hytc6⟩) (by assumption) ?hrtc6
    case hitc6 => (simp only [List.getElem?_toArray, List.getElem?_cons_succ, List.getElem?_cons_zero]; rfl)
    case hqtc6 => exact fun _ _ _ h => h
    case hwtc6 => rfl
    case hytc6 => (intro w0 hSw; (try dsimp only at hSw); go_simp; try with_reducible rfl)
    (try simp only [Act.put, List.setIfInBounds_toArray, List.set_cons_zero, List.set_cons_succ])
    refine' wpAnyH_take (i := 7) ?hitc7 (by kernel_rfl) (by kernel_rfl) (by kernel_rfl) ?hqtc7 (Or.inl ⟨?hwtc7, ?hytc7⟩) (by assumption) ?hrtc7
    case hitc7 => (simp only [List.getElem?_toArray, List.getElem?_cons_succ, List.getElem?_cons_zero]; rfl)
    case hqtc7 => exact fun _ _ _ h => h
    case hwtc7 => rfl
    case hytc7 => exact fun w0 hSw => run_exec_load rfl rfl (box_load hSw.2.1 HY.out 0)
    (try simp only [Act.put, List.setIfInBounds_toArray, List.set_cons_zero, List.set_cons_succ])
    refine' wpAnyH_take (i := 8) ?hitc8 (by kernel_rfl) (by kernel_rfl) (by kernel_rfl) ?hqtc8 (Or.inl ⟨?hwtc8, ?hytc8⟩) (by assumption) ?hrtc8
    case hitc8 => (simp only [List.getElem?_toArray, List.getElem?_cons_succ, List.getElem?_cons_zero]; rfl)
    case hqtc8 => exact fun _ _ _ h => h
    case hwtc8 => rfl
    case hytc8 => exact fun w0 hSw => run_exec_load rfl rfl (box_load hSw.2.2 HX.out 0)
    (try simp only [Act.put, List.setIfInBounds_toArray, List.set_cons_zero, List.set_cons_succ])
    refine' wpAnyH_take (i := 9) ?hitc9 (by kernel_rfl) (by kernel_rfl) (by kernel_rfl) ?hqtc9 (Or.inl ⟨?hwtc9, ?hytc9⟩) (by assumption) ?hrtc9
    case hitc9 => (simp only [List.getElem?_toArray, List.getElem?_cons_succ, List.getElem?_cons_zero]; rfl)
    case hqtc9 => exact fun _ _ _ h => h
    case hwtc9 => rfl
    case hytc9 => exact fun w0 hSw => exec_bin (op := .eql) (t := 24) (x := .tmp 43) (y := .tmp 44) rfl rfl rfl (run_eqGuard_agg w0 .eql 24 (.tmp 43) (.tmp 44) _ _ Tryz.eqGuardType24) (HEQ.out w0)
    (try simp only [Act.put, List.setIfInBounds_toArray, List.set_cons_zero, List.set_cons_succ])
    refine' wpAnyH_take (i := 10) ?hitc10 (by kernel_rfl) (by kernel_rfl) (by kernel_rfl) ?hqtc10 (Or.inl ⟨?hwtc10, ?hytc10⟩) (by assumption) ?hrtc10
    case hitc10 => (simp only [List.getElem?_toArray, List.getElem?_cons_succ, List.getElem?_cons_zero]; rfl)
    case hqtc10 => exact fun _ _ _ h => h
    case hwtc10 => rfl
    case hytc10 => (intro w0 hSw; (try dsimp only at hSw); go_simp; try with_reducible rfl)
    (try simp only [Act.put, List.setIfInBounds_toArray, List.set_cons_zero, List.set_cons_succ])
    refine' wpAnyH_take (i := 11) ?hitc11 (by kernel_rfl) (by kernel_rfl) (by kernel_rfl) ?hqtc11 (Or.inl ⟨?hwtc11, ?hytc11⟩) (by assumption) ?hrtc11
    case hitc11 => (simp only [List.getElem?_toArray, List.getElem?_cons_succ, List.getElem?_cons_zero]; rfl)
    case hqtc11 => exact fun _ _ _ h => h
    case hwtc11 => rfl
    case hytc11 => (intro w0 hSw; (try dsimp only at hSw); go_simp; try with_reducible rfl)
    (try simp only [Act.put, List.setIfInBounds_toArray, List.set_cons_zero, List.set_cons_succ])
    refine' wpAnyH_take (i := 12) (v := undef) ?hitc12 (by kernel_rfl) (by kernel_rfl) (by kernel_rfl) ?hqtc12 (Or.inr ⟨?hwtc12, rfl⟩) (by assumption) ?hrtc12
    case hitc12 => (simp only [List.getElem?_toArray, List.getElem?_cons_succ, List.getElem?_cons_zero]; rfl)
    case hqtc12 => exact fun _ _ _ h => h
    case hwtc12 => rfl
    (try simp only [Act.put, List.setIfInBounds_toArray, List.set_cons_zero, List.set_cons_succ])
    refine' wpAnyH_take (i := 13) (v := undef) ?hitc13 (by kernel_rfl) (by kernel_rfl) (by kernel_rfl) ?hqtc13 (Or.inr ⟨?hwtc13, rfl⟩) (by assumption) ?hrtc13
    case hitc13 => (simp only [List.getElem?_toArray, List.getElem?_cons_succ, List.getElem?_cons_zero]; rfl)
    case hqtc13 => exact fun _ _ _ h => h
    case hwtc13 => rfl
    (try simp only [Act.put, List.setIfInBounds_toArray, List.set_cons_zero, List.set_cons_succ])
    refine' wpAnyH_take (i := 14) (v := undef) ?hitc14 (by kernel_rfl) (by kernel_rfl) (by kernel_rfl) ?hqtc14 (Or.inr ⟨?hwtc14, rfl⟩) (by assumption) ?hrtc14
    case hitc14 => (simp only [List.getElem?_toArray, List.getElem?_cons_succ, List.getElem?_cons_zero]; rfl)
    case hqtc14 => exact fun _ _ _ h => h
    case hwtc14 => rfl
    (try simp only [Act.put, List.setIfInBounds_toArray, List.set_cons_zero, List.set_cons_succ])
    refine' wpAnyH_take (i := 15) (v := undef) ?hitc15 (by kernel_rfl) (by kernel_rfl) (by kernel_rfl) ?hqtc15 (Or.inr ⟨?hwtc15, rfl⟩) (by assumption) ?hrtc15
    case hitc15 => (simp only [List.getElem?_toArray, List.getElem?_cons_succ, List.getElem?_cons_zero]; rfl)
    case hqtc15 => exact fun _ _ _ h => h
    case hwtc15 => rfl
    (try simp only [Act.put, List.setIfInBounds_toArray, List.set_cons_zero, List.set_cons_succ])
    refine' wpAnyH_take (i := 16) (v := undef) ?hitc16 (by kernel_rfl) (by kernel_rfl) (by kernel_rfl) ?hqtc16 (Or.inr ⟨?hwtc16, rfl⟩) (by assumption) ?hrtc16
    case hitc16 => (simp only [List.getElem?_toArray, List.getElem?_cons_succ, List.getElem?_cons_zero]; rfl)
    case hqtc16 => exact fun _ _ _ h => h
    case hwtc16 => rfl
    (try simp only [Act.put, List.setIfInBounds_toArray, List.set_cons_zero, List.set_cons_succ])
    refine' wpAnyH_take (i := 17) (v := undef) ?hitc17 (by kernel_rfl) (by kernel_rfl) (by kernel_rfl) ?hqtc17 (Or.inr ⟨?hwtc17, rfl⟩) (by assumption) ?hrtc17
    case hitc17 => (simp only [List.getElem?_toArray, List.getElem?_cons_succ, List.getElem?_cons_zero]; rfl)
    case hqtc17 => exact fun _ _ _ h => h
    case hwtc17 => rfl
    (try simp only [Act.put, List.setIfInBounds_toArray, List.set_cons_zero, List.set_cons_succ])
    refine' wpAnyH_take (i := 18) (v := undef) ?hitc18 (by kernel_rfl) (by kernel_rfl) (by kernel_rfl) ?hqtc18 (Or.inr ⟨?hwtc18, rfl⟩) (by assumption) ?hrtc18
    case hitc18 => (simp only [List.getElem?_toArray, List.getElem?_cons_succ, List.getElem?_cons_zero]; rfl)
    case hqtc18 => exact fun _ _ _ h => h
    case hwtc18 => rfl
    (try simp only [Act.put, List.setIfInBounds_toArray, List.set_cons_zero, List.set_cons_succ])
    refine' wpAnyH_take (i := 19) (v := undef) ?hitc19 (by kernel_rfl) (by kernel_rfl) (by kernel_rfl) ?hqtc19 (Or.inr ⟨?hwtc19, rfl⟩) (by assumption) ?hrtc19
    case hitc19 => (simp only [List.getElem?_toArray, List.getElem?_cons_succ, List.getElem?_cons_zero]; rfl)
    case hqtc19 => exact fun _ _ _ h => h
    case hwtc19 => rfl
    (try simp only [Act.put, List.setIfInBounds_toArray, List.set_cons_zero, List.set_cons_succ])
    refine' wpAnyH_take (i := 20) (v := undef) ?hitc20 (by kernel_rfl) (by kernel_rfl) (by kernel_rfl) ?hqtc20 (Or.inr ⟨?hwtc20, rfl⟩) (by assumption) ?hrtc20
    case hitc20 => (simp only [List.getElem?_toArray, List.getElem?_cons_succ, List.getElem?_cons_zero]; rfl)
    case hqtc20 => exact fun _ _ _ h => h
    case hwtc20 => rfl
    (try simp only [Act.put, List.setIfInBounds_toArray, List.set_cons_zero, List.set_cons_succ])
    refine' wpAnyH_take (i := 21) (v := undef) ?hitc21 (by kernel_rfl) (by kernel_rfl) (by kernel_rfl) ?hqtc21 (Or.inr ⟨?hwtc21, rfl⟩) (by assumption) ?hrtc21
    case hitc21 => (simp only [List.getElem?_toArray, List.getElem?_cons_succ, List.getElem?_cons_zero]; rfl)
    case hqtc21 => exact fun _ _ _ h => h
    case hwtc21 => rfl
    (try simp only [Act.put, List.setIfInBounds_toArray, List.set_cons_zero, List.set_cons_succ])
    refine' wpAnyH_take (i := 22) ?hitc22 (by kernel_rfl) (by kernel_rfl) (by kernel_rfl) ?hqtc22 (Or.inl ⟨?hwtc22, ?hytc22⟩) (by assumption) ?hrtc22
    case hitc22 => (simp only [List.getElem?_toArray, List.getElem?_cons_succ, List.getElem?_cons_zero]; rfl)
    case hqtc22 => exact fun _ _ _ h => h
    case hwtc22 => rfl
    case hytc22 => (intro w0 hSw; (try dsimp only at hSw); go_simp; try with_reducible rfl)
    (try simp only [Act.put, List.setIfInBounds_toArray, List.set_cons_zero, List.set_cons_succ])
    refine wpAnyH_done (by kernel_rfl) ?_ _
    have HV6 := Lib.hid hHeld.1
    have HXI6 := Lib.hid hHeld.2.1
    have HB6 := Lib.hid (HB5.out.trans (((Below.refl _ w5).drew).mono HB5.out.size))
    clear hHeld
    go_wp2_with fail
    go_roundw
    case rel => exact ⟨j + 1, hjt, by push_cast; rfl, HV6.out, HXI6.out, HB6.out, fun m hm => by
     rcases Nat.lt_or_ge m j with c | c
     ·
      exact HNJ.out m c
     ·
      obtain rfl : m = j := by omega
      rw [HHIT.out, Bool.false_and, Bool.and_false, Bool.and_false]⟩
    case measure => simp [intOf]; omega
   | true =>
    cases sm with
    | true =>
     refine wp_region_held_drew (S := fun u => HsV u (.slice (some ⟨b, off, none⟩) n cap) P ∧ Blk u w2.heap.size 24 (bv y).toArray ∧ Blk u w4.heap.size 24 (bv x).toArray) (by kernel_rfl) ?_ (fun hHeld => ?_)
     ·
      exact ⟨HV5.out.next ((Below.refl _ w5).drew), HXI5.out.below ((Below.refl _ w5).drew) HXI5.out.lt, HXJ.out.below ((Below.refl _ w5).drew) HXJ.out.lt⟩
     refine' wpAnyH_take (i := 0) ?hitd0 (by kernel_rfl) (by kernel_rfl) (by kernel_rfl) ?hqtd0 (Or.inl ⟨?hwtd0, ?hytd0⟩) (by assumption) ?hrtd0
     case hitd0 => (simp only [List.getElem?_toArray, List.getElem?_cons_zero]; rfl)
     case hqtd0 => exact fun _ _ _ h => h
     case hwtd0 => rfl
     case hytd0 => (intro w0 hSw; (try dsimp only at hSw); go_simp; try with_reducible rfl)
     (try simp only [Act.put, List.setIfInBounds_toArray, List.set_cons_zero, List.set_cons_succ])
     refine' wpAnyH_take (i := 1) ?hitd1 (by kernel_rfl) (by kernel_rfl) (by kernel_rfl) ?hqtd1 (Or.inl ⟨?hwtd1, ?hytd1⟩) (by assumption) ?hrtd1
     case hitd1 => (simp only [List.getElem?_toArray, List.getElem?_cons_succ, List.getElem?_cons_zero]; rfl)
     case hqtd1 => exact fun _ _ _ h => h
     case hwtd1 => rfl
     case hytd1 => (intro w0 hSw; (try dsimp only at hSw); go_simp; try with_reducible rfl)
     (try simp only [Act.put, List.setIfInBounds_toArray, List.set_cons_zero, List.set_cons_succ])
     refine' wpAnyH_take (i := 2) ?hitd2 (by kernel_rfl) (by kernel_rfl) (by kernel_rfl) ?hqtd2 (Or.inl ⟨?hwtd2, ?hytd2⟩) (by assumption) ?hrtd2
     case hitd2 => (simp only [List.getElem?_toArray, List.getElem?_cons_succ, List.getElem?_cons_zero]; rfl)
     case hqtd2 => exact fun _ _ _ h => h
     case hwtd2 => rfl
     case hytd2 => (intro w0 hSw; (try dsimp only at hSw); go_simp; try with_reducible rfl)
     (try simp only [Act.put, List.setIfInBounds_toArray, List.set_cons_zero, List.set_cons_succ])
     refine' wpAnyH_take (i := 3) ?hitd3 (by kernel_rfl) (by kernel_rfl) (by kernel_rfl) ?hqtd3 (Or.inl ⟨?hwtd3, ?hytd3⟩) (by assumption) ?hrtd3
     case hitd3 => (simp only [List.getElem?_toArray, List.getElem?_cons_succ, List.getElem?_cons_zero]; rfl)
     case hqtd3 => exact fun _ _ _ h => h
     case hwtd3 => rfl
     case hytd3 => (intro w0 hSw; (try dsimp only at hSw); go_simp; try with_reducible rfl)
     (try simp only [Act.put, List.setIfInBounds_toArray, List.set_cons_zero, List.set_cons_succ])
     refine' wpAnyH_take (i := 4) ?hitd4 (by kernel_rfl) (by kernel_rfl) (by kernel_rfl) ?hqtd4 (Or.inl ⟨?hwtd4, ?hytd4⟩) (by assumption) ?hrtd4
     case hitd4 => (simp only [List.getElem?_toArray, List.getElem?_cons_succ, List.getElem?_cons_zero]; rfl)
     case hqtd4 => exact fun _ _ _ h => h
     case hwtd4 => rfl
     case hytd4 => (intro w0 hSw; (try dsimp only at hSw); go_simp; try with_reducible rfl)
     (try simp only [Act.put, List.setIfInBounds_toArray, List.set_cons_zero, List.set_cons_succ])
     refine' wpAnyH_take (i := 5) ?hitd5 (by kernel_rfl) (by kernel_rfl) (by kernel_rfl) ?hqtd5 (Or.inl ⟨?hwtd5, ?hytd5⟩) (by assumption) ?hrtd5
     case hitd5 => (simp only [List.getElem?_toArray, List.getElem?_cons_succ, List.getElem?_cons_zero]; rfl)
     case hqtd5 => exact fun _ _ _ h => h
     case hwtd5 => rfl
     case hytd5 => (intro w0 hSw; (try dsimp only at hSw); go_simp; try with_reducible rfl)
     (try simp only [Act.put, List.setIfInBounds_toArray, List.set_cons_zero, List.set_cons_succ])
     refine' wpAnyH_take (i := 6) ?hitd6 (by kernel_rfl) (by kernel_rfl) (by kernel_rfl) ?hqtd6 (Or.inl ⟨?hwtd6, ?hytd6⟩) (by assumption) ?hrtd6
     case hitd6 => (simp only [List.getElem?_toArray, List.getElem?_cons_succ, List.getElem?_cons_zero]; rfl)
     case hqtd6 => exact fun _ _ _ h => h
     case hwtd6 => rfl
     case hytd6 => (intro w0 hSw; (try dsimp only at hSw); go_simp; try with_reducible rfl)
     (try simp only [Act.put, List.setIfInBounds_toArray, List.set_cons_zero, List.set_cons_succ])
     refine' wpAnyH_take (i := 7) ?hitd7 (by kernel_rfl) (by kernel_rfl) (by kernel_rfl) ?hqtd7 (Or.inl ⟨?hwtd7, ?hytd7⟩) (by assumption) ?hrtd7
     case hitd7 => (simp only [List.getElem?_toArray, List.getElem?_cons_succ, List.getElem?_cons_zero]; rfl)
     case hqtd7 => exact fun _ _ _ h => h
     case hwtd7 => rfl
     case hytd7 => exact fun w0 hSw => run_exec_load rfl rfl (box_load hSw.2.1 HY.out 0)
     (try simp only [Act.put, List.setIfInBounds_toArray, List.set_cons_zero, List.set_cons_succ])
     refine' wpAnyH_take (i := 8) ?hitd8 (by kernel_rfl) (by kernel_rfl) (by kernel_rfl) ?hqtd8 (Or.inl ⟨?hwtd8, ?hytd8⟩) (by assumption) ?hrtd8
     case hitd8 => (simp only [List.getElem?_toArray, List.getElem?_cons_succ, List.getElem?_cons_zero]; rfl)
     case hqtd8 => exact fun _ _ _ h => h
     case hwtd8 => rfl
     case hytd8 => exact fun w0 hSw => run_exec_load rfl rfl (box_load hSw.2.2 HX.out 0)
     (try simp only [Act.put, List.setIfInBounds_toArray, List.set_cons_zero, List.set_cons_succ])
     refine' wpAnyH_take (i := 9) ?hitd9 (by kernel_rfl) (by kernel_rfl) (by kernel_rfl) ?hqtd9 (Or.inl ⟨?hwtd9, ?hytd9⟩) (by assumption) ?hrtd9
     case hitd9 => (simp only [List.getElem?_toArray, List.getElem?_cons_succ, List.getElem?_cons_zero]; rfl)
     case hqtd9 => exact fun _ _ _ h => h
     case hwtd9 => rfl
     case hytd9 => exact fun w0 hSw => exec_bin (op := .eql) (t := 24) (x := .tmp 43) (y := .tmp 44) rfl rfl rfl (run_eqGuard_agg w0 .eql 24 (.tmp 43) (.tmp 44) _ _ Tryz.eqGuardType24) (HEQ.out w0)
     (try simp only [Act.put, List.setIfInBounds_toArray, List.set_cons_zero, List.set_cons_succ])
     refine' wpAnyH_take (i := 10) ?hitd10 (by kernel_rfl) (by kernel_rfl) (by kernel_rfl) ?hqtd10 (Or.inl ⟨?hwtd10, ?hytd10⟩) (by assumption) ?hrtd10
     case hitd10 => (simp only [List.getElem?_toArray, List.getElem?_cons_succ, List.getElem?_cons_zero]; rfl)
     case hqtd10 => exact fun _ _ _ h => h
     case hwtd10 => rfl
     case hytd10 => (intro w0 hSw; (try dsimp only at hSw); go_simp; try with_reducible rfl)
     (try simp only [Act.put, List.setIfInBounds_toArray, List.set_cons_zero, List.set_cons_succ])
     refine' wpAnyH_take (i := 11) ?hitd11 (by kernel_rfl) (by kernel_rfl) (by kernel_rfl) ?hqtd11 (Or.inl ⟨?hwtd11, ?hytd11⟩) (by assumption) ?hrtd11
     case hitd11 => (simp only [List.getElem?_toArray, List.getElem?_cons_succ, List.getElem?_cons_zero]; rfl)
     case hqtd11 => exact fun _ _ _ h => h
     case hwtd11 => rfl
     case hytd11 => (intro w0 hSw; (try dsimp only at hSw); go_simp; try with_reducible rfl)
     (try simp only [Act.put, List.setIfInBounds_toArray, List.set_cons_zero, List.set_cons_succ])
     refine' wpAnyH_take (i := 12) ?hitd12 (by kernel_rfl) (by kernel_rfl) (by kernel_rfl) ?hqtd12 (Or.inl ⟨?hwtd12, ?hytd12⟩) (by assumption) ?hrtd12
     case hitd12 => (simp only [List.getElem?_toArray, List.getElem?_cons_succ, List.getElem?_cons_zero]; rfl)
     case hqtd12 => exact fun _ _ _ h => h
     case hwtd12 => rfl
     case hytd12 => (intro w0 hSw; (try dsimp only at hSw); go_simp; try with_reducible rfl)
     (try simp only [Act.put, List.setIfInBounds_toArray, List.set_cons_zero, List.set_cons_succ])
     refine' wpAnyH_take (i := 13) ?hitd13 (by kernel_rfl) (by kernel_rfl) (by kernel_rfl) ?hqtd13 (Or.inl ⟨?hwtd13, ?hytd13⟩) (by assumption) ?hrtd13
     case hitd13 => (simp only [List.getElem?_toArray, List.getElem?_cons_succ, List.getElem?_cons_zero]; rfl)
     case hqtd13 => exact fun _ _ _ h => h
     case hwtd13 => rfl
     case hytd13 => (intro w0 hSw; (try dsimp only at hSw); go_simp; try with_reducible rfl)
     (try simp only [Act.put, List.setIfInBounds_toArray, List.set_cons_zero, List.set_cons_succ])
     refine' wpAnyH_take (i := 14) ?hitd14 (by kernel_rfl) (by kernel_rfl) (by kernel_rfl) ?hqtd14 (Or.inl ⟨?hwtd14, ?hytd14⟩) (by assumption) ?hrtd14
     case hitd14 => (simp only [List.getElem?_toArray, List.getElem?_cons_succ, List.getElem?_cons_zero]; rfl)
     case hqtd14 => exact fun _ _ _ h => h
     case hwtd14 => rfl
     case hytd14 => (intro w0 hSw; (try dsimp only at hSw); go_simp; try with_reducible rfl)
     (try simp only [Act.put, List.setIfInBounds_toArray, List.set_cons_zero, List.set_cons_succ])
     refine' wpAnyH_take (i := 15) ?hitd15 (by kernel_rfl) (by kernel_rfl) (by kernel_rfl) ?hqtd15 (Or.inl ⟨?hwtd15, ?hytd15⟩) (by assumption) ?hrtd15
     case hitd15 => (simp only [List.getElem?_toArray, List.getElem?_cons_succ, List.getElem?_cons_zero]; rfl)
     case hqtd15 => exact fun _ _ _ h => h
     case hwtd15 => rfl
     case hytd15 => exact fun w0 hSw => run_exec_load rfl rfl (load_e hSw.1 HKP.out HQA.out)
     (try simp only [Act.put, List.setIfInBounds_toArray, List.set_cons_zero, List.set_cons_succ])
     refine' wpAnyH_take (i := 16) ?hitd16 (by kernel_rfl) (by kernel_rfl) (by kernel_rfl) ?hqtd16 (Or.inl ⟨?hwtd16, ?hytd16⟩) (by assumption) ?hrtd16
     case hitd16 => (simp only [List.getElem?_toArray, List.getElem?_cons_succ, List.getElem?_cons_zero]; rfl)
     case hqtd16 => exact fun _ _ _ h => h
     case hwtd16 => rfl
     case hytd16 => (intro w0 hSw; (try dsimp only at hSw); go_simp; try with_reducible rfl)
     (try simp only [Act.put, List.setIfInBounds_toArray, List.set_cons_zero, List.set_cons_succ])
     refine' wpAnyH_take (i := 17) ?hitd17 (by kernel_rfl) (by kernel_rfl) (by kernel_rfl) ?hqtd17 (Or.inl ⟨?hwtd17, ?hytd17⟩) (by assumption) ?hrtd17
     case hitd17 => (simp only [List.getElem?_toArray, List.getElem?_cons_succ, List.getElem?_cons_zero]; rfl)
     case hqtd17 => exact fun _ _ _ h => h
     case hwtd17 => rfl
     case hytd17 => (intro w0 hSw; (try dsimp only at hSw); go_simp; try with_reducible rfl)
     (try simp only [Act.put, List.setIfInBounds_toArray, List.set_cons_zero, List.set_cons_succ])
     refine' wpAnyH_take (i := 18) ?hitd18 (by kernel_rfl) (by kernel_rfl) (by kernel_rfl) ?hqtd18 (Or.inl ⟨?hwtd18, ?hytd18⟩) (by assumption) ?hrtd18
     case hitd18 => (simp only [List.getElem?_toArray, List.getElem?_cons_succ, List.getElem?_cons_zero]; rfl)
     case hqtd18 => exact fun _ _ _ h => h
     case hwtd18 => rfl
     case hytd18 => (intro w0 hSw; (try dsimp only at hSw); go_simp; try with_reducible rfl)
     (try simp only [Act.put, List.setIfInBounds_toArray, List.set_cons_zero, List.set_cons_succ])
     refine' wpAnyH_take (i := 19) ?hitd19 (by kernel_rfl) (by kernel_rfl) (by kernel_rfl) ?hqtd19 (Or.inl ⟨?hwtd19, ?hytd19⟩) (by assumption) ?hrtd19
     case hitd19 => (simp only [List.getElem?_toArray, List.getElem?_cons_succ, List.getElem?_cons_zero]; rfl)
     case hqtd19 => exact fun _ _ _ h => h
     case hwtd19 => rfl
     case hytd19 => exact fun w0 hSw => run_exec_load rfl rfl (load_e hSw.1 HJP.out HQB.out)
     (try simp only [Act.put, List.setIfInBounds_toArray, List.set_cons_zero, List.set_cons_succ])
     refine wpAnyH_ready (rs := [20]) (by kernel_rfl) (by simp) ?_
     refine' AllReadyH.cons ?hitd20 (fun K hK => ?hrtd20) AllReadyH.nil
     case hitd20 => (simp only [List.getElem?_toArray, List.getElem?_cons_succ, List.getElem?_cons_zero]; rfl)
     go_simp
     (refine (HSM.out _ hHeld.1).mono ?_; rintro e w7 ⟨rfl, hb7⟩; have HB7 := Lib.hid hb7; clear hb7)
     refine hK.out _ _ ?_ (fun hHeld => ?_)
     ·
      exact ⟨hHeld.1.next HB7.out, hHeld.2.1.below HB7.out hHeld.2.1.lt, hHeld.2.2.below HB7.out hHeld.2.2.lt⟩
     clear hK K
     (try simp only [Act.put, List.setIfInBounds_toArray, List.set_cons_zero, List.set_cons_succ])
     refine' wpAnyH_take (i := 21) ?hitd21 (by kernel_rfl) (by kernel_rfl) (by kernel_rfl) ?hqtd21 (Or.inl ⟨?hwtd21, ?hytd21⟩) (by assumption) ?hrtd21
     case hitd21 => (simp only [List.getElem?_toArray, List.getElem?_cons_succ, List.getElem?_cons_zero]; rfl)
     case hqtd21 => exact fun _ _ _ h => h
     case hwtd21 => rfl
     case hytd21 => (intro w0 hSw; (try dsimp only at hSw); go_simp; try with_reducible rfl)
     (try simp only [Act.put, List.setIfInBounds_toArray, List.set_cons_zero, List.set_cons_succ])
     refine' wpAnyH_take (i := 22) ?hitd22 (by kernel_rfl) (by kernel_rfl) (by kernel_rfl) ?hqtd22 (Or.inl ⟨?hwtd22, ?hytd22⟩) (by assumption) ?hrtd22
     case hitd22 => (simp only [List.getElem?_toArray, List.getElem?_cons_succ, List.getElem?_cons_zero]; rfl)
     case hqtd22 => exact fun _ _ _ h => h
     case hwtd22 => rfl
     case hytd22 => (intro w0 hSw; (try dsimp only at hSw); go_simp; try with_reducible rfl)
     (try simp only [Act.put, List.setIfInBounds_toArray, List.set_cons_zero, List.set_cons_succ])
     refine wpAnyH_done (by kernel_rfl) ?_ _
     have HV6 := Lib.hid hHeld.1
     have HXI6 := Lib.hid hHeld.2.1
     have HB6 := Lib.hid ((HB5.out.trans (((Below.refl _ w5).drew).mono HB5.out.size)).trans (HB7.out.mono HB5.out.size))
     clear hHeld
     go_wp2_with fail
     go_roundw
     case rel => exact ⟨j + 1, hjt, by push_cast; rfl, HV6.out, HXI6.out, HB6.out, fun m hm => by
      rcases Nat.lt_or_ge m j with c | c
      ·
       exact HNJ.out m c
      ·
       obtain rfl : m = j := by omega
       rw [HHIT.out, Bool.not_true, Bool.and_false, Bool.and_false, Bool.and_false]⟩
     case measure => simp [intOf]; omega
    | false =>
     have HT : Hid (Twin (hs P)) := Lib.hid (twin_hit hjt (by rw [hs_len]; exact HKP.out) (by rw [HHIT.out]; rfl))
     refine wp_region_held_drew (S := fun u => HsV u (.slice (some ⟨b, off, none⟩) n cap) P ∧ Blk u w2.heap.size 24 (bv y).toArray ∧ Blk u w4.heap.size 24 (bv x).toArray) (by kernel_rfl) ?_ (fun hHeld => ?_)
     ·
      exact ⟨HV5.out.next ((Below.refl _ w5).drew), HXI5.out.below ((Below.refl _ w5).drew) HXI5.out.lt, HXJ.out.below ((Below.refl _ w5).drew) HXJ.out.lt⟩
     refine' wpAnyH_take (i := 0) ?hite0 (by kernel_rfl) (by kernel_rfl) (by kernel_rfl) ?hqte0 (Or.inl ⟨?hwte0, ?hyte0⟩) (by assumption) ?hrte0
     case hite0 => (simp only [List.getElem?_toArray, List.getElem?_cons_zero]; rfl)
     case hqte0 => exact fun _ _ _ h => h
     case hwte0 => rfl
     case hyte0 => (intro w0 hSw; (try dsimp only at hSw); go_simp; try with_reducible rfl)
     (try simp only [Act.put, List.setIfInBounds_toArray, List.set_cons_zero, List.set_cons_succ])
     refine' wpAnyH_take (i := 1) ?hite1 (by kernel_rfl) (by kernel_rfl) (by kernel_rfl) ?hqte1 (Or.inl ⟨?hwte1, ?hyte1⟩) (by assumption) ?hrte1
     case hite1 => (simp only [List.getElem?_toArray, List.getElem?_cons_succ, List.getElem?_cons_zero]; rfl)
     case hqte1 => exact fun _ _ _ h => h
     case hwte1 => rfl
     case hyte1 => (intro w0 hSw; (try dsimp only at hSw); go_simp; try with_reducible rfl)
     (try simp only [Act.put, List.setIfInBounds_toArray, List.set_cons_zero, List.set_cons_succ])
     refine' wpAnyH_take (i := 2) ?hite2 (by kernel_rfl) (by kernel_rfl) (by kernel_rfl) ?hqte2 (Or.inl ⟨?hwte2, ?hyte2⟩) (by assumption) ?hrte2
     case hite2 => (simp only [List.getElem?_toArray, List.getElem?_cons_succ, List.getElem?_cons_zero]; rfl)
     case hqte2 => exact fun _ _ _ h => h
     case hwte2 => rfl
     case hyte2 => (intro w0 hSw; (try dsimp only at hSw); go_simp; try with_reducible rfl)
     (try simp only [Act.put, List.setIfInBounds_toArray, List.set_cons_zero, List.set_cons_succ])
     refine' wpAnyH_take (i := 3) ?hite3 (by kernel_rfl) (by kernel_rfl) (by kernel_rfl) ?hqte3 (Or.inl ⟨?hwte3, ?hyte3⟩) (by assumption) ?hrte3
     case hite3 => (simp only [List.getElem?_toArray, List.getElem?_cons_succ, List.getElem?_cons_zero]; rfl)
     case hqte3 => exact fun _ _ _ h => h
     case hwte3 => rfl
     case hyte3 => (intro w0 hSw; (try dsimp only at hSw); go_simp; try with_reducible rfl)
     (try simp only [Act.put, List.setIfInBounds_toArray, List.set_cons_zero, List.set_cons_succ])
     refine' wpAnyH_take (i := 4) ?hite4 (by kernel_rfl) (by kernel_rfl) (by kernel_rfl) ?hqte4 (Or.inl ⟨?hwte4, ?hyte4⟩) (by assumption) ?hrte4
     case hite4 => (simp only [List.getElem?_toArray, List.getElem?_cons_succ, List.getElem?_cons_zero]; rfl)
     case hqte4 => exact fun _ _ _ h => h
     case hwte4 => rfl
     case hyte4 => (intro w0 hSw; (try dsimp only at hSw); go_simp; try with_reducible rfl)
     (try simp only [Act.put, List.setIfInBounds_toArray, List.set_cons_zero, List.set_cons_succ])
     refine' wpAnyH_take (i := 5) ?hite5 (by kernel_rfl) (by kernel_rfl) (by kernel_rfl) ?hqte5 (Or.inl ⟨?hwte5, ?hyte5⟩) (by assumption) ?hrte5
     case hite5 => (simp only [List.getElem?_toArray, List.getElem?_cons_succ, List.getElem?_cons_zero]; rfl)
     case hqte5 => exact fun _ _ _ h => h
     case hwte5 => rfl
     case hyte5 => (intro w0 hSw; (try dsimp only at hSw); go_simp; try with_reducible rfl)
     (try simp only [Act.put, List.setIfInBounds_toArray, List.set_cons_zero, List.set_cons_succ])
     refine' wpAnyH_take (i := 6) ?hite6 (by kernel_rfl) (by kernel_rfl) (by kernel_rfl) ?hqte6 (Or.inl ⟨?hwte6, ?hyte6⟩) (by assumption) ?hrte6
     case hite6 => (simp only [List.getElem?_toArray, List.getElem?_cons_succ, List.getElem?_cons_zero]; rfl)
     case hqte6 => exact fun _ _ _ h => h
     case hwte6 => rfl
     case hyte6 => (intro w0 hSw; (try dsimp only at hSw); go_simp; try with_reducible rfl)
     (try simp only [Act.put, List.setIfInBounds_toArray, List.set_cons_zero, List.set_cons_succ])
     refine' wpAnyH_take (i := 7) ?hite7 (by kernel_rfl) (by kernel_rfl) (by kernel_rfl) ?hqte7 (Or.inl ⟨?hwte7, ?hyte7⟩) (by assumption) ?hrte7
     case hite7 => (simp only [List.getElem?_toArray, List.getElem?_cons_succ, List.getElem?_cons_zero]; rfl)
     case hqte7 => exact fun _ _ _ h => h
     case hwte7 => rfl
     case hyte7 => exact fun w0 hSw => run_exec_load rfl rfl (box_load hSw.2.1 HY.out 0)
     (try simp only [Act.put, List.setIfInBounds_toArray, List.set_cons_zero, List.set_cons_succ])
     refine' wpAnyH_take (i := 8) ?hite8 (by kernel_rfl) (by kernel_rfl) (by kernel_rfl) ?hqte8 (Or.inl ⟨?hwte8, ?hyte8⟩) (by assumption) ?hrte8
     case hite8 => (simp only [List.getElem?_toArray, List.getElem?_cons_succ, List.getElem?_cons_zero]; rfl)
     case hqte8 => exact fun _ _ _ h => h
     case hwte8 => rfl
     case hyte8 => exact fun w0 hSw => run_exec_load rfl rfl (box_load hSw.2.2 HX.out 0)
     (try simp only [Act.put, List.setIfInBounds_toArray, List.set_cons_zero, List.set_cons_succ])
     refine' wpAnyH_take (i := 9) ?hite9 (by kernel_rfl) (by kernel_rfl) (by kernel_rfl) ?hqte9 (Or.inl ⟨?hwte9, ?hyte9⟩) (by assumption) ?hrte9
     case hite9 => (simp only [List.getElem?_toArray, List.getElem?_cons_succ, List.getElem?_cons_zero]; rfl)
     case hqte9 => exact fun _ _ _ h => h
     case hwte9 => rfl
     case hyte9 => exact fun w0 hSw => exec_bin (op := .eql) (t := 24) (x := .tmp 43) (y := .tmp 44) rfl rfl rfl (run_eqGuard_agg w0 .eql 24 (.tmp 43) (.tmp 44) _ _ Tryz.eqGuardType24) (HEQ.out w0)
     (try simp only [Act.put, List.setIfInBounds_toArray, List.set_cons_zero, List.set_cons_succ])
     refine' wpAnyH_take (i := 10) ?hite10 (by kernel_rfl) (by kernel_rfl) (by kernel_rfl) ?hqte10 (Or.inl ⟨?hwte10, ?hyte10⟩) (by assumption) ?hrte10
     case hite10 => (simp only [List.getElem?_toArray, List.getElem?_cons_succ, List.getElem?_cons_zero]; rfl)
     case hqte10 => exact fun _ _ _ h => h
     case hwte10 => rfl
     case hyte10 => (intro w0 hSw; (try dsimp only at hSw); go_simp; try with_reducible rfl)
     (try simp only [Act.put, List.setIfInBounds_toArray, List.set_cons_zero, List.set_cons_succ])
     refine' wpAnyH_take (i := 11) ?hite11 (by kernel_rfl) (by kernel_rfl) (by kernel_rfl) ?hqte11 (Or.inl ⟨?hwte11, ?hyte11⟩) (by assumption) ?hrte11
     case hite11 => (simp only [List.getElem?_toArray, List.getElem?_cons_succ, List.getElem?_cons_zero]; rfl)
     case hqte11 => exact fun _ _ _ h => h
     case hwte11 => rfl
     case hyte11 => (intro w0 hSw; (try dsimp only at hSw); go_simp; try with_reducible rfl)
     (try simp only [Act.put, List.setIfInBounds_toArray, List.set_cons_zero, List.set_cons_succ])
     refine' wpAnyH_take (i := 12) ?hite12 (by kernel_rfl) (by kernel_rfl) (by kernel_rfl) ?hqte12 (Or.inl ⟨?hwte12, ?hyte12⟩) (by assumption) ?hrte12
     case hite12 => (simp only [List.getElem?_toArray, List.getElem?_cons_succ, List.getElem?_cons_zero]; rfl)
     case hqte12 => exact fun _ _ _ h => h
     case hwte12 => rfl
     case hyte12 => (intro w0 hSw; (try dsimp only at hSw); go_simp; try with_reducible rfl)
     (try simp only [Act.put, List.setIfInBounds_toArray, List.set_cons_zero, List.set_cons_succ])
     refine' wpAnyH_take (i := 13) ?hite13 (by kernel_rfl) (by kernel_rfl) (by kernel_rfl) ?hqte13 (Or.inl ⟨?hwte13, ?hyte13⟩) (by assumption) ?hrte13
     case hite13 => (simp only [List.getElem?_toArray, List.getElem?_cons_succ, List.getElem?_cons_zero]; rfl)
     case hqte13 => exact fun _ _ _ h => h
     case hwte13 => rfl
     case hyte13 => (intro w0 hSw; (try dsimp only at hSw); go_simp; try with_reducible rfl)
     (try simp only [Act.put, List.setIfInBounds_toArray, List.set_cons_zero, List.set_cons_succ])
     refine' wpAnyH_take (i := 14) ?hite14 (by kernel_rfl) (by kernel_rfl) (by kernel_rfl) ?hqte14 (Or.inl ⟨?hwte14, ?hyte14⟩) (by assumption) ?hrte14
     case hite14 => (simp only [List.getElem?_toArray, List.getElem?_cons_succ, List.getElem?_cons_zero]; rfl)
     case hqte14 => exact fun _ _ _ h => h
     case hwte14 => rfl
     case hyte14 => (intro w0 hSw; (try dsimp only at hSw); go_simp; try with_reducible rfl)
     (try simp only [Act.put, List.setIfInBounds_toArray, List.set_cons_zero, List.set_cons_succ])
     refine' wpAnyH_take (i := 15) ?hite15 (by kernel_rfl) (by kernel_rfl) (by kernel_rfl) ?hqte15 (Or.inl ⟨?hwte15, ?hyte15⟩) (by assumption) ?hrte15
     case hite15 => (simp only [List.getElem?_toArray, List.getElem?_cons_succ, List.getElem?_cons_zero]; rfl)
     case hqte15 => exact fun _ _ _ h => h
     case hwte15 => rfl
     case hyte15 => exact fun w0 hSw => run_exec_load rfl rfl (load_e hSw.1 HKP.out HQA.out)
     (try simp only [Act.put, List.setIfInBounds_toArray, List.set_cons_zero, List.set_cons_succ])
     refine' wpAnyH_take (i := 16) ?hite16 (by kernel_rfl) (by kernel_rfl) (by kernel_rfl) ?hqte16 (Or.inl ⟨?hwte16, ?hyte16⟩) (by assumption) ?hrte16
     case hite16 => (simp only [List.getElem?_toArray, List.getElem?_cons_succ, List.getElem?_cons_zero]; rfl)
     case hqte16 => exact fun _ _ _ h => h
     case hwte16 => rfl
     case hyte16 => (intro w0 hSw; (try dsimp only at hSw); go_simp; try with_reducible rfl)
     (try simp only [Act.put, List.setIfInBounds_toArray, List.set_cons_zero, List.set_cons_succ])
     refine' wpAnyH_take (i := 17) ?hite17 (by kernel_rfl) (by kernel_rfl) (by kernel_rfl) ?hqte17 (Or.inl ⟨?hwte17, ?hyte17⟩) (by assumption) ?hrte17
     case hite17 => (simp only [List.getElem?_toArray, List.getElem?_cons_succ, List.getElem?_cons_zero]; rfl)
     case hqte17 => exact fun _ _ _ h => h
     case hwte17 => rfl
     case hyte17 => (intro w0 hSw; (try dsimp only at hSw); go_simp; try with_reducible rfl)
     (try simp only [Act.put, List.setIfInBounds_toArray, List.set_cons_zero, List.set_cons_succ])
     refine' wpAnyH_take (i := 18) ?hite18 (by kernel_rfl) (by kernel_rfl) (by kernel_rfl) ?hqte18 (Or.inl ⟨?hwte18, ?hyte18⟩) (by assumption) ?hrte18
     case hite18 => (simp only [List.getElem?_toArray, List.getElem?_cons_succ, List.getElem?_cons_zero]; rfl)
     case hqte18 => exact fun _ _ _ h => h
     case hwte18 => rfl
     case hyte18 => (intro w0 hSw; (try dsimp only at hSw); go_simp; try with_reducible rfl)
     (try simp only [Act.put, List.setIfInBounds_toArray, List.set_cons_zero, List.set_cons_succ])
     refine' wpAnyH_take (i := 19) ?hite19 (by kernel_rfl) (by kernel_rfl) (by kernel_rfl) ?hqte19 (Or.inl ⟨?hwte19, ?hyte19⟩) (by assumption) ?hrte19
     case hite19 => (simp only [List.getElem?_toArray, List.getElem?_cons_succ, List.getElem?_cons_zero]; rfl)
     case hqte19 => exact fun _ _ _ h => h
     case hwte19 => rfl
     case hyte19 => exact fun w0 hSw => run_exec_load rfl rfl (load_e hSw.1 HJP.out HQB.out)
     (try simp only [Act.put, List.setIfInBounds_toArray, List.set_cons_zero, List.set_cons_succ])
     refine wpAnyH_ready (rs := [20]) (by kernel_rfl) (by simp) ?_
     refine' AllReadyH.cons ?hite20 (fun K hK => ?hrte20) AllReadyH.nil
     case hite20 => (simp only [List.getElem?_toArray, List.getElem?_cons_succ, List.getElem?_cons_zero]; rfl)
     go_simp
     (refine (HSM.out _ hHeld.1).mono ?_; rintro e w7 ⟨rfl, hb7⟩; have HB7 := Lib.hid hb7; clear hb7)
     refine hK.out _ _ ?_ (fun hHeld => ?_)
     ·
      exact ⟨hHeld.1.next HB7.out, hHeld.2.1.below HB7.out hHeld.2.1.lt, hHeld.2.2.below HB7.out hHeld.2.2.lt⟩
     clear hK K
     (try simp only [Act.put, List.setIfInBounds_toArray, List.set_cons_zero, List.set_cons_succ])
     refine' wpAnyH_take (i := 21) ?hite21 (by kernel_rfl) (by kernel_rfl) (by kernel_rfl) ?hqte21 (Or.inl ⟨?hwte21, ?hyte21⟩) (by assumption) ?hrte21
     case hite21 => (simp only [List.getElem?_toArray, List.getElem?_cons_succ, List.getElem?_cons_zero]; rfl)
     case hqte21 => exact fun _ _ _ h => h
     case hwte21 => rfl
     case hyte21 => (intro w0 hSw; (try dsimp only at hSw); go_simp; try with_reducible rfl)
     (try simp only [Act.put, List.setIfInBounds_toArray, List.set_cons_zero, List.set_cons_succ])
     refine' wpAnyH_take (i := 22) ?hite22 (by kernel_rfl) (by kernel_rfl) (by kernel_rfl) ?hqte22 (Or.inl ⟨?hwte22, ?hyte22⟩) (by assumption) ?hrte22
     case hite22 => (simp only [List.getElem?_toArray, List.getElem?_cons_succ, List.getElem?_cons_zero]; rfl)
     case hqte22 => exact fun _ _ _ h => h
     case hwte22 => rfl
     case hyte22 => (intro w0 hSw; (try dsimp only at hSw); go_simp; try with_reducible rfl)
     (try simp only [Act.put, List.setIfInBounds_toArray, List.set_cons_zero, List.set_cons_succ])
     refine wpAnyH_done (by kernel_rfl) ?_ _
     have HV6 := Lib.hid hHeld.1
     have HXI6 := Lib.hid hHeld.2.1
     have HB6 := Lib.hid ((HB5.out.trans (((Below.refl _ w5).drew).mono HB5.out.size)).trans (HB7.out.mono HB5.out.size))
     clear hHeld
     go_wp2_with fail
     go_ret
     exact .inr ⟨rfl, HT.out, HB6.out⟩
end Go.Proofs.YtpeneeddfgmjpaaGreatDoor.rul
