/-
  The walk of VaultLoads, by what vault's functions answer.
-/
import Derived.Test.YtkbbeioednhefaaGreatDoorVtlg
import Derived.Deep.CutRange
import Derived.Deep.CutBlock
import Derived.Deep.RegionHeld3
namespace Go.Proofs.YtkbbeioednhefaaGreatDoor.vt
open Go.RowKit Go.Proofs.YtkbbeioednhefaaGreatDoor.mem Go.Proofs.YtkbbeioednhefaaGreatDoor.sha Go.Proofs.YtkbbeioednhefaaGreatDoor.strx Go.Proofs.YtkbbeioednhefaaGreatDoor.rows Go.Proofs.YtkbbeioednhefaaGreatDoor.ids Go.Proofs.YtkbbeioednhefaaGreatDoor.rcd Go.Proofs.YtkbbeioednhefaaGreatDoor.jn Go.Proofs.YtkbbeioednhefaaGreatDoor.txl

section
variable {T : World → Prop} {Vt_ : (Nat → Prop) → World → Value → Vt → Prop}
/-- the plain one laid beside the program's -/
theorem PV.start (hI : VtIs T Vt_) {w0 w2 w4 : World} {G : Nat → Prop} {X : Nat} {p la lb : Value} {v : Vt} (hT : T w0) (h2 : VS T Vt_ w0 G p v w2) (hb : Below w2.heap.size w2 w4) (hX : Blk w4 X 31 (vcl v la lb)) (hge : w2.heap.size ≤ X) (ha : OwnR w4 (w2.heap.size ≤ ·) la v.a.l) (hbb : OwnR w4 (w2.heap.size ≤ ·) lb v.b.l) :
    ∃ G', PV T Vt_ w0 G' X p v v la lb w4 ∧ (∀ k, G' k → G k) := by
  obtain ⟨G', hjs, h1, h3⟩ := h2.aside hI hT (F := (w2.heap.size ≤ ·)) (Turn.ofBelow hb) (fun k hk hf => by omega) (fun k hf => Nat.le_trans h2.below.size hf)
  have hz := h2.below.size
  have key : ∀ {L : List Rc} {lv : Value}, OwnR w4 (w2.heap.size ≤ ·) lv L → OwnR w4 (fun k => w0.heap.size ≤ k ∧ ¬ G' k ∧ k ≠ X) lv L := fun {L lv} ho => OwnK.place ho fun k hk => by
    have hlt := OwnK.lt ho hk
    have hk2 := ho.2.2 k hk
    simp only at hk2
    exact ⟨by omega, fun hh => by have := h3 k hh; omega, fun e => by subst e; exact ownk_ne ho hX (by decide) hk⟩
  exact ⟨G', ⟨hjs, ⟨hX, key ha, key hbb, fun hh => hh.2.2 rfl⟩, fun hh => by have := h3 X hh; have := hX.lt; omega, by omega⟩, h1⟩
set_option maxHeartbeats 8000000 in
set_option maxRecDepth 100000 in
theorem loads_walk (hI : VtIs T Vt_) (a b : ByteArray) {L : List (List UInt8)} {lv : Value} {w : World} (q : Int) (hT : T w) (hR : TxA w (· < w.heap.size) lv L) (hl : L.length ≤ 9223372036854775807) :
    Calls Tryz.prog 4 #[.string a, .string b, lv, .int .i64 q] w fun e w' => e = .returned (.bool true) ∧ Below w.heap.size w w' := by
  have HL1 := Lib.hid (long_any 0 0 ⟨#[]⟩ hR hl)
  rw [show (⟨#[]⟩ : ByteArray).size = 0 from rfl] at HL1
  have HI := Lib.hid hI
  have HT := Lib.hid hT
  have HAW := Lib.hid fun w1 (h : Below w.heap.size w w1) => awake_any hI w1 (hI.next hT h)
  have HR := Lib.hid hR
  obtain ⟨ad, cap, rfl, hC⟩ := hR
  have HC := Lib.hid hC
  obtain ⟨n, hn⟩ : ∃ n, n = L.length := ⟨_, rfl⟩
  have HN := Lib.hid hn
  rw [← hn] at hl HR HL1 ⊢
  have n0 : (0 : Int) ≤ (n : Int) := Int.natCast_nonneg _
  clear hI hT hC hn
  by_cases ha : (1500 : Int) < (a.size : Int)
  · go_enter Tryz.func4, Tryz.ntmps4
    go_wp2_with (go_at_call 20; (with_reducible refine (HAW.out _ (Below.refl _ _)).mono ?_); rintro e w2 ⟨rfl, hb2⟩)
    go_ret
    exact ⟨rfl, hb2⟩
  by_cases hb : (1500 : Int) < (b.size : Int)
  · go_enter Tryz.func4, Tryz.ntmps4
    go_wp2_with (go_at_call 20; (with_reducible refine (HAW.out _ (Below.refl _ _)).mono ?_); rintro e w2 ⟨rfl, hb2⟩)
    go_ret
    exact ⟨rfl, hb2⟩
  by_cases hg1 : longV 0 L = true
  · rw [hg1] at HL1
    clear hg1
    go_enter Tryz.func4, Tryz.ntmps4
    go_wp2_with (first
      | (go_at_call 7; (with_reducible refine HL1.out.mono ?_); rintro e w1 ⟨rfl, hb1⟩)
      | (go_at_call 20; (with_reducible refine (HAW.out _ hb1).mono ?_); rintro e w2 ⟨rfl, hb2⟩))
    go_ret
    exact ⟨rfl, hb1.trans (hb2.mono hb1.size)⟩
  have hg1' : longV 0 L = false := by simpa using hg1
  rw [hg1'] at HL1
  obtain ⟨-, hL20, hLs⟩ := long_no hg1'
  have HSL := Lib.hid (show smallL L from ⟨by omega, hLs⟩)
  have hn20 : n ≤ 20 := by rw [HN.out]; exact hL20
  have hal : a.data.toList.length ≤ 1500 := by rw [← size_list]; omega
  have hbl : b.data.toList.length ≤ 1500 := by rw [← size_list]; omega
  have HLD := Lib.hid fun w1 (h : Below w.heap.size w w1) => HI.out.load a b w1 (HI.out.next HT.out h) (by omega) (by omega)
  have hBd := Bd.load a.data.toList b.data.toList 0 (by decide) (by omega) (by omega)
  obtain ⟨V, M, f, hV⟩ : ∃ V M f, loadV a.data.toList b.data.toList = (V, M, f) := ⟨_, _, _, rfl⟩
  have hMl : M.length ≤ 1000000 := by
    have := load_len a.data.toList b.data.toList 0 (by decide) (by omega) (by omega)
    rw [hV] at this
    exact this
  obtain ⟨t1, h1⟩ : ∃ x, x = oct.tx V.a.s := ⟨_, rfl⟩
  obtain ⟨t2, h2⟩ : ∃ x, x = oct.tx V.b.s := ⟨_, rfl⟩
  obtain ⟨n1, h3⟩ : ∃ x, x = V.a.l.length := ⟨_, rfl⟩
  obtain ⟨n2, h4⟩ : ∃ x, x = V.b.l.length := ⟨_, rfl⟩
  have HLR := Lib.hid fun u => load_lit a b (by omega) (by omega) V M f hV t1 t2 h1 h2 n1 n2 h3 h4 u
  rw [hV] at HLD hBd
  simp only at HLD hBd
  have HT1 := Lib.hid h1
  have HT2 := Lib.hid h2
  have HN1 := Lib.hid h3
  have HN2 := Lib.hid h4
  have HBD := Lib.hid hBd
  have HM := Lib.hid hMl
  have hM0 : f ≠ 0 → M = [] := fun hf => by
    by_cases hno : noneV (openJ a.data.toList) (openJ b.data.toList)
    · have : loadV a.data.toList b.data.toList = (zvt, [], 4) := by unfold loadV; rw [if_pos hno]
      rw [this] at hV
      cases hV
      rfl
    · have : (loadV a.data.toList b.data.toList).2.2 = 0 := by unfold loadV; rw [if_neg hno]
      rw [hV] at this
      exact absurd this hf
  have HM0 := Lib.hid hM0
  clear hg1 hg1' hL20 hLs hal hbl hBd hV h1 h2 h3 h4 hMl hM0
  go_enter Tryz.func4, Tryz.ntmps4
  go_upto_region 4 with (first
    | (go_at_call 7; (with_reducible refine HL1.out.mono ?_); rintro e w1 ⟨rfl, hb1⟩; have HB1 := Lib.hid hb1; clear hb1)
    | (go_at_call 21; (with_reducible refine (HLD.out _ HB1.out).mono ?_); rintro e w2 ⟨p, lp, rfl, hb2, hcase⟩; have HB2 := Lib.hid (HB1.out.trans (hb2.mono HB1.out.size)); have HC2 := Lib.hid hcase; clear hb2 hcase))
  go_upto_region 5 with (go_at_call 22; (with_reducible refine (HLR.out _).mono ?_); rintro e w3 ⟨a1, c1, a2, c2, m2, rfl, hA, hB, hm, hb3⟩; have HA := Lib.hid hA; have HB := Lib.hid hB; have HM2 := Lib.hid hm; have HB3 := Lib.hid hb3; clear hA hB hm hb3)
  obtain ⟨X, hX⟩ : ∃ X, X = w3.heap.size := ⟨_, rfl⟩
  have hbX := Blk.at_ hX.symm 31 #[.string t1, .int .i64 (V.a.k : Int), .slice a1 n1 c1, .int .i64 (V.a.m : Int), .string t2, .int .i64 (V.b.k : Int), .slice a2 n2 c2, .int .i64 (V.b.m : Int), .int .i64 V.use, .int .i64 V.no]
  have hb4 : Below w3.heap.size w3 (w3.alloc (.cells #[.string t1, .int .i64 (V.a.k : Int), .slice a1 n1 c1, .int .i64 (V.a.m : Int), .string t2, .int .i64 (V.b.k : Int), .slice a2 n2 c2, .int .i64 (V.b.m : Int), .int .i64 V.use, .int .i64 V.no] 31)) := (Below.refl _ _).alloc (Nat.le_refl _) _
  obtain ⟨w4, hw4⟩ : ∃ u, u = w3.alloc (.cells #[.string t1, .int .i64 (V.a.k : Int), .slice a1 n1 c1, .int .i64 (V.a.m : Int), .string t2, .int .i64 (V.b.k : Int), .slice a2 n2 c2, .int .i64 (V.b.m : Int), .int .i64 V.use, .int .i64 V.no] 31) := ⟨_, rfl⟩
  rw [← hw4] at hbX hb4
  rw [← hw4, ← hX]
  have hb24 : Below w2.heap.size w2 w4 := HB3.out.trans (hb4.mono HB3.out.size)
  have HB4 := Lib.hid (HB2.out.trans (hb24.mono HB2.out.size))
  have hge : w2.heap.size ≤ X := by have := HB3.out.size; omega
  have hXv : Blk w4 X 31 (vcl V (.slice a1 n1 c1) (.slice a2 n2 c2)) := by
    unfold vcl
    rw [← HT1.out, ← HT2.out]
    exact hbX
  have hA4 := ornx HA.out hb4
  have hB4 := ornx HB.out hb4
  have hm4 : OwnT w4 (w2.heap.size ≤ ·) m2 M := OwnK.next HM2.out hb4
  have HM4 := Lib.hid (OwnT.txa hm4)
  have HB24 := Lib.hid hb24
  have HTE := Lib.hid fun u (N K : Nat → Prop) va vb (h1 : TxA u N va M) (h2 : TxA u K vb M) => texts_any h1 h2 HM.out
  rw [show decide (M = M) = true from decide_eq_true rfl] at HTE
  rcases HC2.out with ⟨hf, rfl, hlp⟩ | ⟨hf, pa, G2, rfl, hv2, hn2, hg2, hlp⟩
  · have hM1 := HM0.out hf
    have hlp4 := Lib.hid (hM1 ▸ hlp.next HB24.out : TxA w4 (fun _ => True) lp M)
    have hf1 : (f == 0) = false := by simpa using hf
    have hf2 : (f != 0) = true := by simpa using hf
    clear hf hlp hM1 hm4 hA4 hB4 hXv hbX hb4 hw4 hX HC2
    go_wp2_with (first
      | (go_at_call 12; (with_reducible refine (HTE.out _ _ _ _ _ hlp4.out HM4.out).mono ?_); rintro e w5 ⟨rfl, hb5⟩; have HB5 := Lib.hid (HB4.out.trans (hb5.mono HB4.out.size)); clear hb5)
      | (go_at_call 20; (with_reducible refine (HAW.out _ HB5.out).mono ?_); rintro e w6 ⟨rfl, hb6⟩))
    go_ret
    exact ⟨rfl, HB5.out.trans (hb6.mono HB5.out.size)⟩
  subst hf
  have hs12 := HB1.out.size
  have hVS : VS T Vt_ w G2 (.pointer (some pa)) V w2 := ⟨HI.out.next HT.out HB2.out, hn2, hv2, fun k hk => Nat.le_trans hs12 (hg2 k hk), HB2.out⟩
  obtain ⟨G4, hPV, hG42⟩ := PV.start HI.out HT.out hVS hb24 hXv hge (by rw [HN1.out] at hA4; rw [HN1.out]; exact hA4) (by rw [HN2.out] at hB4; rw [HN2.out]; exact hB4)
  have HPV := Lib.hid hPV
  have HLP4 := Lib.hid (hlp.next HB24.out)
  obtain ⟨pv, hpv⟩ : ∃ x : Value, x = .pointer (some pa) := ⟨_, rfl⟩
  have HAL := Lib.hid fun (G : Nat → Prop) x la lb u (h : PV T Vt_ w G X (.pointer (some pa)) x x la lb u) (hb : ∃ i, Bd i x) => alike_any HI.out HT.out h (by obtain ⟨i, hb⟩ := hb; exact hb.u)
  clear hm4 hA4 hB4 hXv hbX hb4 hb24 hw4 hX HC2 hv2 hn2 hg2 hlp hVS hPV hG42 hpv
  go_upto_region 11 with (first
    | (go_at_call 12; (with_reducible refine (HTE.out _ _ _ _ _ HLP4.out HM4.out).mono ?_); rintro e w5 ⟨rfl, hb5⟩; have P5 := Lib.hid (HPV.out.next HI.out hb5); clear hb5)
    | (go_at_call 19; (with_reducible refine (HAL.out _ _ _ _ _ P5.out ⟨_, HBD.out⟩).mono ?_); rintro e w6 ⟨rfl, hb6⟩; have P6 := Lib.hid (P5.out.next HI.out hb6); clear hb6))
  go_wp2_with fail
  go_loopg [15] (n + 1) (fun gk s15 wr => ∃ (i : Nat) (G : Nat → Prop) (V' : Vt) (la lb : Value), s15 = .int .i64 i ∧ i ≤ n ∧ n - i < gk ∧ Hid (PV T Vt_ w G X (.pointer (some pa)) V' V' la lb wr) ∧ Hid (Bd i V'))
  case atStart => exact ⟨0, G4, V, _, _, rfl, Nat.zero_le _, by omega, P6, HBD⟩
  case round =>
    obtain ⟨i, G, V', la, lb, rfl, hi, hgk, HP, HBd⟩ := hrel
    have i0 : (0 : Int) ≤ (i : Int) := Int.natCast_nonneg _
    by_cases hin : i < n
    · have i1 : (i : Int) < (n : Int) := by omega
      obtain ⟨bb, off, rfl, hbl, _, a0⟩ := HC.out i (by have := HN.out; omega)
      have hmem : L.getD i [] ∈ L := by
        rw [List.getD_eq_getElem?_getD, List.getElem?_eq_getElem (by have := HN.out; omega)]
        exact List.getElem_mem _
      have hs3 := HSL.out.2 _ hmem
      have c0 : wr.cell? ⟨bb, off + i, none⟩ = some (.string (bt (L.getD i []))) := (HP.out.vs.below.cell (p := ⟨bb, off + i, none⟩) hbl).trans a0
      obtain ⟨s, hs⟩ : ∃ s, s = L.getD i [] := ⟨_, rfl⟩
      rw [← hs] at c0 hs3
      obtain ⟨t, ht⟩ : ∃ t, t = bt s := ⟨_, rfl⟩
      have hts : t.data.toList = s := by rw [ht, bt_list]
      have htz : t.size ≤ 300 := by rw [ht, bt_size]; exact hs3
      rw [← ht] at c0
      have HBd1 := Lib.hid (HBd.out.app hs3)
      have HSZ := Lib.hid (HBd.out.sz (by omega))
      have HSM := Lib.hid (HBd.out.small (by omega))
      have hPd := HP.out.next HI.out (Below.refl _ _).drew
      have HPD := Lib.hid hPd
      have HAP := Lib.hid fun u (h : PV T Vt_ w G X (.pointer (some pa)) V' V' la lb u) => HI.out.append G _ V' t u h.vs.t h.vs.n h.vs.v HSM.out htz
      have HAX := Lib.hid fun (F : Nat → Prop) l1 l2 u (h : VX u F X V' l1 l2) => vapp_ref F X V' l1 l2 t u h HSZ.out.u HSZ.out.la (by have := HSZ.out.sa; omega) HSZ.out.lb (by have := HSZ.out.sb; omega) (by omega)
      rw [hts] at HAP HAX
      obtain ⟨V1, hV1⟩ : ∃ x, x = (appV V' s).1 := ⟨_, rfl⟩
      obtain ⟨e1, he1⟩ : ∃ x, x = (appV V' s).2 := ⟨_, rfl⟩
      rw [← hV1, ← he1] at HAP HAX
      rw [← hV1] at HBd1
      have hbG : ∀ u (K : Nat → Prop), Turn K wr.drew u → (∀ k, K k → w.heap.size ≤ k) → u.cell? ⟨bb, off + i, none⟩ = some (.string t) := fun u K hk hg => (hk.cell (b := bb) (i := off + i) fun h => by have := hg bb h; omega).trans c0
      have HBG := Lib.hid hbG
      clear a0 hmem hs3 hs ht hts htz hPd hV1 he1 hbG
      go_upto_region 14 with fail
      refine wp_region_held_drew (S := (fun w' => w'.cell? ⟨bb, off + i, none⟩ = some (.string t))) (by kernel_rfl) ?_ (fun hHeld => ?_)
      · exact c0
      refine' wpAnyH_take (i := 0) ?hivj0 (by kernel_rfl) (by kernel_rfl) (by kernel_rfl) ?hqvj0 (Or.inl ⟨?hwvj0, ?hyvj0⟩) (by assumption) ?hrvj0
      case hivj0 => (simp only [List.getElem?_toArray, List.getElem?_cons_succ, List.getElem?_cons_zero]; rfl)
      case hqvj0 => exact fun _ _ _ h => h
      case hwvj0 => rfl
      case hyvj0 => (intro w0 hSw; (try dsimp only at hSw); go_simp; try with_reducible rfl)
      (try simp only [Act.put, List.setIfInBounds_toArray, List.set_cons_zero, List.set_cons_succ])
      refine' wpAnyH_take (i := 1) ?hivj1 (by kernel_rfl) (by kernel_rfl) (by kernel_rfl) ?hqvj1 (Or.inl ⟨?hwvj1, ?hyvj1⟩) (by assumption) ?hrvj1
      case hivj1 => (simp only [List.getElem?_toArray, List.getElem?_cons_succ, List.getElem?_cons_zero]; rfl)
      case hqvj1 => exact fun _ _ _ h => h
      case hwvj1 => rfl
      case hyvj1 => (intro w0 hSw; (try dsimp only at hSw); go_simp; try with_reducible rfl)
      (try simp only [Act.put, List.setIfInBounds_toArray, List.set_cons_zero, List.set_cons_succ])
      refine' wpAnyH_take (i := 2) ?hivj2 (by kernel_rfl) (by kernel_rfl) (by kernel_rfl) ?hqvj2 (Or.inl ⟨?hwvj2, ?hyvj2⟩) (by assumption) ?hrvj2
      case hivj2 => (simp only [List.getElem?_toArray, List.getElem?_cons_succ, List.getElem?_cons_zero]; rfl)
      case hqvj2 => exact fun _ _ _ h => h
      case hwvj2 => rfl
      case hyvj2 => (intro w0 hSw; (try dsimp only at hSw); go_simp; try with_reducible rfl)
      (try simp only [Act.put, List.setIfInBounds_toArray, List.set_cons_zero, List.set_cons_succ])
      refine' wpAnyH_take (i := 3) ?hivj3 (by kernel_rfl) (by kernel_rfl) (by kernel_rfl) ?hqvj3 (Or.inl ⟨?hwvj3, ?hyvj3⟩) (by assumption) ?hrvj3
      case hivj3 => (simp only [List.getElem?_toArray, List.getElem?_cons_succ, List.getElem?_cons_zero]; rfl)
      case hqvj3 => exact fun _ _ _ h => h
      case hwvj3 => rfl
      case hyvj3 => (intro w0 hSw; (try dsimp only at hSw); go_simp; try with_reducible rfl)
      (try simp only [Act.put, List.setIfInBounds_toArray, List.set_cons_zero, List.set_cons_succ])
      refine' wpAnyH_take (i := 4) ?hivj4 (by kernel_rfl) (by kernel_rfl) (by kernel_rfl) ?hqvj4 (Or.inl ⟨?hwvj4, ?hyvj4⟩) (by assumption) ?hrvj4
      case hivj4 => (simp only [List.getElem?_toArray, List.getElem?_cons_succ, List.getElem?_cons_zero]; rfl)
      case hqvj4 => exact fun _ _ _ h => h
      case hwvj4 => rfl
      case hyvj4 => (intro w0 hSw; (try dsimp only at hSw); go_simp; try with_reducible rfl)
      (try simp only [Act.put, List.setIfInBounds_toArray, List.set_cons_zero, List.set_cons_succ])
      refine' wpAnyH_take (i := 6) ?hivj6 (by kernel_rfl) (by kernel_rfl) (by kernel_rfl) ?hqvj6 (Or.inl ⟨?hwvj6, ?hyvj6⟩) (by assumption) ?hrvj6
      case hivj6 => (simp only [List.getElem?_toArray, List.getElem?_cons_succ, List.getElem?_cons_zero]; rfl)
      case hqvj6 => exact fun _ _ _ h => h
      case hwvj6 => rfl
      case hyvj6 => (intro w0 hSw; (try dsimp only at hSw); go_simp; try with_reducible rfl)
      (try simp only [Act.put, List.setIfInBounds_toArray, List.set_cons_zero, List.set_cons_succ])
      refine' wpAnyH_take (i := 7) ?hivj7 (by kernel_rfl) (by kernel_rfl) (by kernel_rfl) ?hqvj7 (Or.inl ⟨?hwvj7, ?hyvj7⟩) (by assumption) ?hrvj7
      case hivj7 => (simp only [List.getElem?_toArray, List.getElem?_cons_succ, List.getElem?_cons_zero]; rfl)
      case hqvj7 => exact fun _ _ _ h => h
      case hwvj7 => rfl
      case hyvj7 => (intro w0 hSw; (try dsimp only at hSw); go_simp; try with_reducible rfl)
      (try simp only [Act.put, List.setIfInBounds_toArray, List.set_cons_zero, List.set_cons_succ])
      refine' wpAnyH_take (i := 8) ?hivj8 (by kernel_rfl) (by kernel_rfl) (by kernel_rfl) ?hqvj8 (Or.inl ⟨?hwvj8, ?hyvj8⟩) (by assumption) ?hrvj8
      case hivj8 => (simp only [List.getElem?_toArray, List.getElem?_cons_succ, List.getElem?_cons_zero]; rfl)
      case hqvj8 => exact fun _ _ _ h => h
      case hwvj8 => rfl
      case hyvj8 => (intro w0 hSw; (try dsimp only at hSw); go_simp; try with_reducible rfl)
      (try simp only [Act.put, List.setIfInBounds_toArray, List.set_cons_zero, List.set_cons_succ])
      refine' wpAnyH_take (i := 9) ?hivj9 (by kernel_rfl) (by kernel_rfl) (by kernel_rfl) ?hqvj9 (Or.inl ⟨?hwvj9, ?hyvj9⟩) (by assumption) ?hrvj9
      case hivj9 => (simp only [List.getElem?_toArray, List.getElem?_cons_succ, List.getElem?_cons_zero]; rfl)
      case hqvj9 => exact fun _ _ _ h => h
      case hwvj9 => rfl
      case hyvj9 => (intro w0 hSw; (try dsimp only at hSw); go_simp; try with_reducible rfl)
      (try simp only [Act.put, List.setIfInBounds_toArray, List.set_cons_zero, List.set_cons_succ])
      refine wpAnyH_ready (rs := [5]) (by kernel_rfl) (by simp) ?_
      refine' AllReadyH.cons ?hivj5 (fun K hK => ?hrvj5) AllReadyH.nil
      case hivj5 => (simp only [List.getElem?_toArray, List.getElem?_cons_succ, List.getElem?_cons_zero]; rfl)
      go_simp
      (refine (HAP.out _ HPD.out).mono ?_; rintro e wA ⟨rfl, hkA, htA⟩; have PA := Lib.hid (HPD.out.op HI.out HT.out hkA htA); have HTA := Lib.hid htA; clear hkA htA)
      refine hK.out _ _ ?_ (fun hHeld => ?_)
      · exact HBG.out _ _ HTA.out HPD.out.vs.g
      clear hK K
      (try simp only [Act.put, List.setIfInBounds_toArray, List.set_cons_zero, List.set_cons_succ])
      refine wpAnyH_ready (rs := [10]) (by kernel_rfl) (by simp) ?_
      refine' AllReadyH.cons ?hivj10 (fun K hK => ?hrvj10) AllReadyH.nil
      case hivj10 => (simp only [List.getElem?_toArray, List.getElem?_cons_succ, List.getElem?_cons_zero]; rfl)
      go_simp
      (refine (HAX.out _ _ _ _ PA.out.vx).mono ?_; rintro e wB ⟨rfl, hxB⟩; obtain ⟨G9, la9, lb9, P9', hg9, hn9, ht9⟩ := PA.out.ofX HI.out HT.out hxB; have P9 := Lib.hid P9'; have HT9 := Lib.hid ht9; clear hxB P9' hg9 hn9 ht9)
      refine hK.out _ _ ?_ (fun hHeld => ?_)
      · exact (HT9.out.cell (b := bb) (i := off + i) (fun hh => by have := PA.out.xge; have := PA.out.vs.below.size; omega)).trans hHeld
      clear hK K
      (try simp only [Act.put, List.setIfInBounds_toArray, List.set_cons_zero, List.set_cons_succ])
      refine' wpAnyH_take (i := 11) ?hivj11 (by kernel_rfl) (by kernel_rfl) (by kernel_rfl) ?hqvj11 (Or.inl ⟨?hwvj11, ?hyvj11⟩) (by assumption) ?hrvj11
      case hivj11 => (simp only [List.getElem?_toArray, List.getElem?_cons_succ, List.getElem?_cons_zero]; rfl)
      case hqvj11 => exact fun _ _ _ h => h
      case hwvj11 => rfl
      case hyvj11 => (intro w0 hSw; (try dsimp only at hSw); go_simp; try with_reducible rfl)
      (try simp only [Act.put, List.setIfInBounds_toArray, List.set_cons_zero, List.set_cons_succ])
      refine wpAnyH_done (by kernel_rfl) ?_ _
      go_wp2_with fail
      go_roundg (n - i)
      case measure => omega
      case rel => exact ⟨i + 1, G9, V1, la9, lb9, by go_num, hin, by omega, P9, HBd1⟩
    · have hin' : ¬ (i : Int) < (n : Int) := by omega
      have HBd60 := HBd.out
      have HSZ := Lib.hid (HBd.out.sz (by omega))
      have HSM := Lib.hid (HBd.out.small (by omega))
      have HDI := Lib.hid fun u (h : PV T Vt_ w G X (.pointer (some pa)) V' V' la lb u) => HI.out.die G _ V' _ L q u h.vs.t h.vs.n h.vs.v HSM.out ((HR.out.next h.vs.below).mono fun k _ hk hg => by have := h.vs.g k hg; omega) HSL.out
      have HDX := Lib.hid fun (F : Nat → Prop) l1 l2 u (h : VX u F X V' l1 l2) (hb : Below w.heap.size w u) => vdie_ref F _ X V' l1 l2 _ L q u h HSZ.out (HR.out.next hb) HSL.out
      have HBd1 := Lib.hid (HBd.out.die (by omega) HSL.out q)
      obtain ⟨V1, M1, f1, hV1⟩ : ∃ V1 M1 f1, dieV V' L q = (V1, M1, f1) := ⟨_, _, _, rfl⟩
      have hM1 := HBd.out.die_len (by omega) HSL.out q
      rw [hV1] at HDI HDX HBd1 hM1
      simp only at HDI HDX HBd1 hM1
      have HTE2 := Lib.hid fun u (N K : Nat → Prop) va vb (h1 : TxA u N va M1) (h2 : TxA u K vb M1) => texts_any h1 h2 hM1
      rw [show decide (M1 = M1) = true from decide_eq_true rfl] at HTE2
      clear hV1 hM1
      go_wp2_with (first
        | (go_at_call 17; (with_reducible refine (HDI.out _ HP.out).mono ?_); rintro e wA ⟨lA, rfl, hLA⟩; obtain ⟨GA, PA, hgA, hlA, htA⟩ := HP.out.left HI.out HT.out hLA; have PA' := Lib.hid PA; have OA := Lib.hid hlA; clear hLA PA hlA htA hgA)
        | (go_at_call 18; (with_reducible refine (HDX.out _ _ _ _ PA'.out.vx PA'.out.vs.below).mono ?_); rintro e wB ⟨mB, rfl, hxB, hmB⟩; obtain ⟨GB, laB, lbB, PB, hgB, hnB, htB⟩ := PA'.out.ofX HI.out HT.out hxB; have PB' := Lib.hid PB; have OB := Lib.hid (OA.out.turn htB fun k hk hh => by omega); have MB := Lib.hid (OwnT.txa hmB); clear hxB hmB PB hgB hnB htB)
        | (go_at_call 12; (with_reducible refine (HTE2.out _ _ _ _ _ OB.out MB.out).mono ?_); rintro e wC ⟨rfl, hbC⟩; have PC := Lib.hid (PB'.out.next HI.out hbC); clear hbC)
        | (go_at_call 19; (with_reducible refine (HAL.out _ _ _ _ _ PC.out ⟨_, HBd1.out⟩).mono ?_); rintro e wD ⟨rfl, hbD⟩; have PD := Lib.hid (PC.out.next HI.out hbD); clear hbD)
        | (go_at_call 20; (with_reducible refine (HAW.out _ PD.out.vs.below).mono ?_); rintro e wE ⟨rfl, hbE⟩))
      go_ret
      exact ⟨rfl, PD.out.vs.below.trans (hbE.mono PD.out.vs.below.size)⟩
end
end Go.Proofs.YtkbbeioednhefaaGreatDoor.vt
