/-
  The walk of VaultLoads, by what vault's functions answer.
  An array of words that is listed as laid: what its places hold.
  What crc's functions answer: a table of 16 half bytes (crc.steps, block 0).
  What the listed variable gives the walks of crc; and that the program's own start lays it.
-/
import Derived.Test.YtkbbeioednhefaaGreatDoorVtlg
import Derived.Deep.CutRange
import Derived.Deep.CutBlock
import Derived.Deep.RegionHeld3
import Derived.Test.YtkbbeioednhefaaGreatDoorStrs
import Derived.Test.YtkbbeioednhefaaGreatDoorSha
import Derived.LaidMore
import Derived.Stop.Joined
import Derived.Test.YtkbbeioednhefaaGreatDoorRcr
namespace Go.Proofs.YtkbbeioednhefaaGreatDoor.vt
open Go.RowKit Go.Proofs.YtkbbeioednhefaaGreatDoor.mem Go.Proofs.YtkbbeioednhefaaGreatDoor.sha Go.Proofs.YtkbbeioednhefaaGreatDoor.strx Go.Proofs.YtkbbeioednhefaaGreatDoor.rows Go.Proofs.YtkbbeioednhefaaGreatDoor.ids Go.Proofs.YtkbbeioednhefaaGreatDoor.rcd Go.Proofs.YtkbbeioednhefaaGreatDoor.jn Go.Proofs.YtkbbeioednhefaaGreatDoor.txl

section
variable {T : World → Prop} {Vt_ : (Nat → Prop) → World → Value → Vt → Prop}
/-- the plain one laid beside the program's -/
theorem PV.start (hI : VtIs T Vt_) {w0 w2 w4 : World} {G : Nat → Prop} {X : Nat} {p la lb : Value} {v : Vt} (hT : T w0) (h2 : VS T Vt_ w0 G p v w2) (hb : Below w2.heap.size w2 w4) (hX : Blk w4 X 31 (vcl v la lb)) (hge : w2.heap.size ≤ X) (ha : OwnR w4 (w2.heap.size ≤ ·) la v.a.l) (hbb : OwnR w4 (w2.heap.size ≤ ·) lb v.b.l) :
    ∃ G', PV T Vt_ w0 G' X p v v la lb w4 ∧ (∀ k, G' k → G k) := by
  obtain ⟨G', hjs, h1, h3⟩ := h2.aside hI hT (F := (w2.heap.size ≤ ·)) (Turn.ofBelow hb) (fun k hk hf => by omega) (fun k hf => Nat.le_trans h2.below.size hf)
  have hz := h2.below.size
  have key : ∀ {L : List Rc} {lv : Value}, OwnR w4 (w2.heap.size ≤ ·) lv L → OwnR w4 (fun k => w0.heap.size ≤ k ∧ ¬ G' k ∧ k ≠ X) lv L := fun {L lv} ho => OwnK.place ho fun k hk => by
    have hlt := OwnK.lt ho hk
    have hk2 := ho.2.2 k hk
    simp only at hk2
    exact ⟨by omega, fun hh => by have := h3 k hh; omega, fun e => by subst e; exact ownk_ne ho hX (by decide) hk⟩
  exact ⟨G', ⟨hjs, ⟨hX, key ha, key hbb, fun hh => hh.2.2 rfl⟩, fun hh => by have := h3 X hh; have := hX.lt; omega, by omega⟩, h1⟩
set_option maxHeartbeats 8000000 in
set_option maxRecDepth 100000 in
theorem loads_walk (hI : VtIs T Vt_) (a b : ByteArray) {L : List (List UInt8)} {lv : Value} {w : World} (q : Int) (hT : T w) (hR : TxA w (· < w.heap.size) lv L) (hl : L.length ≤ 9223372036854775807) :
    Calls Tryz.prog 4 #[.string a, .string b, lv, .int .i64 q] w fun e w' => e = .returned (.bool true) ∧ Below w.heap.size w w' := by
  have HL1 := Lib.hid (long_any 0 0 ⟨#[]⟩ hR hl)
  rw [show (⟨#[]⟩ : ByteArray).size = 0 from rfl] at HL1
  have HI := Lib.hid hI
  have HT := Lib.hid hT
  have HAW := Lib.hid fun w1 (h : Below w.heap.size w w1) => awake_any hI w1 (hI.next hT h)
  have HR := Lib.hid hR
  obtain ⟨ad, cap, rfl, hC⟩ := hR
  have HC := Lib.hid hC
  obtain ⟨n, hn⟩ : ∃ n, n = L.length := ⟨_, rfl⟩
  have HN := Lib.hid hn
  rw [← hn] at hl HR HL1 ⊢
  have n0 : (0 : Int) ≤ (n : Int) := Int.natCast_nonneg _
  clear hI hT hC hn
  by_cases ha : (1500 : Int) < (a.size : Int)
  · go_enter Tryz.func4, Tryz.ntmps4
    go_wp2_with (go_at_call 20; (with_reducible refine (HAW.out _ (Below.refl _ _)).mono ?_); rintro e w2 ⟨rfl, hb2⟩)
    go_ret
    exact ⟨rfl, hb2⟩
  by_cases hb : (1500 : Int) < (b.size : Int)
  · go_enter Tryz.func4, Tryz.ntmps4
    go_wp2_with (go_at_call 20; (with_reducible refine (HAW.out _ (Below.refl _ _)).mono ?_); rintro e w2 ⟨rfl, hb2⟩)
    go_ret
    exact ⟨rfl, hb2⟩
  by_cases hg1 : longV 0 L = true
  · rw [hg1] at HL1
    clear hg1
    go_enter Tryz.func4, Tryz.ntmps4
    go_wp2_with (first
      | (go_at_call 7; (with_reducible refine HL1.out.mono ?_); rintro e w1 ⟨rfl, hb1⟩)
      | (go_at_call 20; (with_reducible refine (HAW.out _ hb1).mono ?_); rintro e w2 ⟨rfl, hb2⟩))
    go_ret
    exact ⟨rfl, hb1.trans (hb2.mono hb1.size)⟩
  have hg1' : longV 0 L = false := by simpa using hg1
  rw [hg1'] at HL1
  obtain ⟨-, hL20, hLs⟩ := long_no hg1'
  have HSL := Lib.hid (show smallL L from ⟨by omega, hLs⟩)
  have hn20 : n ≤ 20 := by rw [HN.out]; exact hL20
  have hal : a.data.toList.length ≤ 1500 := by rw [← size_list]; omega
  have hbl : b.data.toList.length ≤ 1500 := by rw [← size_list]; omega
  have HLD := Lib.hid fun w1 (h : Below w.heap.size w w1) => HI.out.load a b w1 (HI.out.next HT.out h) (by omega) (by omega)
  have hBd := Bd.load a.data.toList b.data.toList 0 (by decide) (by omega) (by omega)
  obtain ⟨V, M, f, hV⟩ : ∃ V M f, loadV a.data.toList b.data.toList = (V, M, f) := ⟨_, _, _, rfl⟩
  have hMl : M.length ≤ 1000000 := by
    have := load_len a.data.toList b.data.toList 0 (by decide) (by omega) (by omega)
    rw [hV] at this
    exact this
  obtain ⟨t1, h1⟩ : ∃ x, x = oct.tx V.a.s := ⟨_, rfl⟩
  obtain ⟨t2, h2⟩ : ∃ x, x = oct.tx V.b.s := ⟨_, rfl⟩
  obtain ⟨n1, h3⟩ : ∃ x, x = V.a.l.length := ⟨_, rfl⟩
  obtain ⟨n2, h4⟩ : ∃ x, x = V.b.l.length := ⟨_, rfl⟩
  have HLR := Lib.hid fun u => load_lit a b (by omega) (by omega) V M f hV t1 t2 h1 h2 n1 n2 h3 h4 u
  rw [hV] at HLD hBd
  simp only at HLD hBd
  have HT1 := Lib.hid h1
  have HT2 := Lib.hid h2
  have HN1 := Lib.hid h3
  have HN2 := Lib.hid h4
  have HBD := Lib.hid hBd
  have HM := Lib.hid hMl
  have hM0 : f ≠ 0 → M = [] := fun hf => by
    by_cases hno : noneV (openJ a.data.toList) (openJ b.data.toList)
    · have : loadV a.data.toList b.data.toList = (zvt, [], 4) := by unfold loadV; rw [if_pos hno]
      rw [this] at hV
      cases hV
      rfl
    · have : (loadV a.data.toList b.data.toList).2.2 = 0 := by unfold loadV; rw [if_neg hno]
      rw [hV] at this
      exact absurd this hf
  have HM0 := Lib.hid hM0
  clear hg1 hg1' hL20 hLs hal hbl hBd hV h1 h2 h3 h4 hMl hM0
  go_enter Tryz.func4, Tryz.ntmps4
  go_upto_region 4 with (first
    | (go_at_call 7; (with_reducible refine HL1.out.mono ?_); rintro e w1 ⟨rfl, hb1⟩; have HB1 := Lib.hid hb1; clear hb1)
    | (go_at_call 21; (with_reducible refine (HLD.out _ HB1.out).mono ?_); rintro e w2 ⟨p, lp, rfl, hb2, hcase⟩; have HB2 := Lib.hid (HB1.out.trans (hb2.mono HB1.out.size)); have HC2 := Lib.hid hcase; clear hb2 hcase))
  go_upto_region 5 with (go_at_call 22; (with_reducible refine (HLR.out _).mono ?_); rintro e w3 ⟨a1, c1, a2, c2, m2, rfl, hA, hB, hm, hb3⟩; have HA := Lib.hid hA; have HB := Lib.hid hB; have HM2 := Lib.hid hm; have HB3 := Lib.hid hb3; clear hA hB hm hb3)
  obtain ⟨X, hX⟩ : ∃ X, X = w3.heap.size := ⟨_, rfl⟩
  have hbX := Blk.at_ hX.symm 31 #[.string t1, .int .i64 (V.a.k : Int), .slice a1 n1 c1, .int .i64 (V.a.m : Int), .string t2, .int .i64 (V.b.k : Int), .slice a2 n2 c2, .int .i64 (V.b.m : Int), .int .i64 V.use, .int .i64 V.no]
  have hb4 : Below w3.heap.size w3 (w3.alloc (.cells #[.string t1, .int .i64 (V.a.k : Int), .slice a1 n1 c1, .int .i64 (V.a.m : Int), .string t2, .int .i64 (V.b.k : Int), .slice a2 n2 c2, .int .i64 (V.b.m : Int), .int .i64 V.use, .int .i64 V.no] 31)) := (Below.refl _ _).alloc (Nat.le_refl _) _
  obtain ⟨w4, hw4⟩ : ∃ u, u = w3.alloc (.cells #[.string t1, .int .i64 (V.a.k : Int), .slice a1 n1 c1, .int .i64 (V.a.m : Int), .string t2, .int .i64 (V.b.k : Int), .slice a2 n2 c2, .int .i64 (V.b.m : Int), .int .i64 V.use, .int .i64 V.no] 31) := ⟨_, rfl⟩
  rw [← hw4] at hbX hb4
  rw [← hw4, ← hX]
  have hb24 : Below w2.heap.size w2 w4 := HB3.out.trans (hb4.mono HB3.out.size)
  have HB4 := Lib.hid (HB2.out.trans (hb24.mono HB2.out.size))
  have hge : w2.heap.size ≤ X := by have := HB3.out.size; omega
  have hXv : Blk w4 X 31 (vcl V (.slice a1 n1 c1) (.slice a2 n2 c2)) := by
    unfold vcl
    rw [← HT1.out, ← HT2.out]
    exact hbX
  have hA4 := ornx HA.out hb4
  have hB4 := ornx HB.out hb4
  have hm4 : OwnT w4 (w2.heap.size ≤ ·) m2 M := OwnK.next HM2.out hb4
  have HM4 := Lib.hid (OwnT.txa hm4)
  have HB24 := Lib.hid hb24
  have HTE := Lib.hid fun u (N K : Nat → Prop) va vb (h1 : TxA u N va M) (h2 : TxA u K vb M) => texts_any h1 h2 HM.out
  rw [show decide (M = M) = true from decide_eq_true rfl] at HTE
  rcases HC2.out with ⟨hf, rfl, hlp⟩ | ⟨hf, pa, G2, rfl, hv2, hn2, hg2, hlp⟩
  · have hM1 := HM0.out hf
    have hlp4 := Lib.hid (hM1 ▸ hlp.next HB24.out : TxA w4 (fun _ => True) lp M)
    have hf1 : (f == 0) = false := by simpa using hf
    have hf2 : (f != 0) = true := by simpa using hf
    clear hf hlp hM1 hm4 hA4 hB4 hXv hbX hb4 hw4 hX HC2
    go_wp2_with (first
      | (go_at_call 12; (with_reducible refine (HTE.out _ _ _ _ _ hlp4.out HM4.out).mono ?_); rintro e w5 ⟨rfl, hb5⟩; have HB5 := Lib.hid (HB4.out.trans (hb5.mono HB4.out.size)); clear hb5)
      | (go_at_call 20; (with_reducible refine (HAW.out _ HB5.out).mono ?_); rintro e w6 ⟨rfl, hb6⟩))
    go_ret
    exact ⟨rfl, HB5.out.trans (hb6.mono HB5.out.size)⟩
  subst hf
  have hs12 := HB1.out.size
  have hVS : VS T Vt_ w G2 (.pointer (some pa)) V w2 := ⟨HI.out.next HT.out HB2.out, hn2, hv2, fun k hk => Nat.le_trans hs12 (hg2 k hk), HB2.out⟩
  obtain ⟨G4, hPV, hG42⟩ := PV.start HI.out HT.out hVS hb24 hXv hge (by rw [HN1.out] at hA4; rw [HN1.out]; exact hA4) (by rw [HN2.out] at hB4; rw [HN2.out]; exact hB4)
  have HPV := Lib.hid hPV
  have HLP4 := Lib.hid (hlp.next HB24.out)
  obtain ⟨pv, hpv⟩ : ∃ x : Value, x = .pointer (some pa) := ⟨_, rfl⟩
  have HAL := Lib.hid fun (G : Nat → Prop) x la lb u (h : PV T Vt_ w G X (.pointer (some pa)) x x la lb u) (hb : ∃ i, Bd i x) => alike_any HI.out HT.out h (by obtain ⟨i, hb⟩ := hb; exact hb.u)
  clear hm4 hA4 hB4 hXv hbX hb4 hb24 hw4 hX HC2 hv2 hn2 hg2 hlp hVS hPV hG42 hpv
  go_upto_region 11 with (first
    | (go_at_call 12; (with_reducible refine (HTE.out _ _ _ _ _ HLP4.out HM4.out).mono ?_); rintro e w5 ⟨rfl, hb5⟩; have P5 := Lib.hid (HPV.out.next HI.out hb5); clear hb5)
    | (go_at_call 19; (with_reducible refine (HAL.out _ _ _ _ _ P5.out ⟨_, HBD.out⟩).mono ?_); rintro e w6 ⟨rfl, hb6⟩; have P6 := Lib.hid (P5.out.next HI.out hb6); clear hb6))
  go_wp2_with fail
  go_loopg [15] (n + 1) (fun gk s15 wr => ∃ (i : Nat) (G : Nat → Prop) (V' : Vt) (la lb : Value), s15 = .int .i64 i ∧ i ≤ n ∧ n - i < gk ∧ Hid (PV T Vt_ w G X (.pointer (some pa)) V' V' la lb wr) ∧ Hid (Bd i V'))
  case atStart => exact ⟨0, G4, V, _, _, rfl, Nat.zero_le _, by omega, P6, HBD⟩
  case round =>
    obtain ⟨i, G, V', la, lb, rfl, hi, hgk, HP, HBd⟩ := hrel
    have i0 : (0 : Int) ≤ (i : Int) := Int.natCast_nonneg _
    by_cases hin : i < n
    · have i1 : (i : Int) < (n : Int) := by omega
      obtain ⟨bb, off, rfl, hbl, _, a0⟩ := HC.out i (by have := HN.out; omega)
      have hmem : L.getD i [] ∈ L := by
        rw [List.getD_eq_getElem?_getD, List.getElem?_eq_getElem (by have := HN.out; omega)]
        exact List.getElem_mem _
      have hs3 := HSL.out.2 _ hmem
      have c0 : wr.cell? ⟨bb, off + i, none⟩ = some (.string (bt (L.getD i []))) := (HP.out.vs.below.cell (p := ⟨bb, off + i, none⟩) hbl).trans a0
      obtain ⟨s, hs⟩ : ∃ s, s = L.getD i [] := ⟨_, rfl⟩
      rw [← hs] at c0 hs3
      obtain ⟨t, ht⟩ : ∃ t, t = bt s := ⟨_, rfl⟩
      have hts : t.data.toList = s := by rw [ht, bt_list]
      have htz : t.size ≤ 300 := by rw [ht, bt_size]; exact hs3
      rw [← ht] at c0
      have HBd1 := Lib.hid (HBd.out.app hs3)
      have HSZ := Lib.hid (HBd.out.sz (by omega))
      have HSM := Lib.hid (HBd.out.small (by omega))
      have hPd := HP.out.next HI.out (Below.refl _ _).drew
      have HPD := Lib.hid hPd
      have HAP := Lib.hid fun u (h : PV T Vt_ w G X (.pointer (some pa)) V' V' la lb u) => HI.out.append G _ V' t u h.vs.t h.vs.n h.vs.v HSM.out htz
      have HAX := Lib.hid fun (F : Nat → Prop) l1 l2 u (h : VX u F X V' l1 l2) => vapp_ref F X V' l1 l2 t u h HSZ.out.u HSZ.out.la (by have := HSZ.out.sa; omega) HSZ.out.lb (by have := HSZ.out.sb; omega) (by omega)
      rw [hts] at HAP HAX
      obtain ⟨V1, hV1⟩ : ∃ x, x = (appV V' s).1 := ⟨_, rfl⟩
      obtain ⟨e1, he1⟩ : ∃ x, x = (appV V' s).2 := ⟨_, rfl⟩
      rw [← hV1, ← he1] at HAP HAX
      rw [← hV1] at HBd1
      have hbG : ∀ u (K : Nat → Prop), Turn K wr.drew u → (∀ k, K k → w.heap.size ≤ k) → u.cell? ⟨bb, off + i, none⟩ = some (.string t) := fun u K hk hg => (hk.cell (b := bb) (i := off + i) fun h => by have := hg bb h; omega).trans c0
      have HBG := Lib.hid hbG
      clear a0 hmem hs3 hs ht hts htz hPd hV1 he1 hbG
      go_upto_region 14 with fail
      refine wp_region_held_drew (S := (fun w' => w'.cell? ⟨bb, off + i, none⟩ = some (.string t))) (by kernel_rfl) ?_ (fun hHeld => ?_)
      · exact c0
      refine' wpAnyH_take (i := 0) ?hivj0 (by kernel_rfl) (by kernel_rfl) (by kernel_rfl) ?hqvj0 (Or.inl ⟨?hwvj0, ?hyvj0⟩) (by assumption) ?hrvj0
      case hivj0 => (simp only [List.getElem?_toArray, List.getElem?_cons_succ, List.getElem?_cons_zero]; rfl)
      case hqvj0 => exact fun _ _ _ h => h
      case hwvj0 => rfl
      case hyvj0 => (intro w0 hSw; (try dsimp only at hSw); go_simp; try with_reducible rfl)
      (try simp only [Act.put, List.setIfInBounds_toArray, List.set_cons_zero, List.set_cons_succ])
      refine' wpAnyH_take (i := 1) ?hivj1 (by kernel_rfl) (by kernel_rfl) (by kernel_rfl) ?hqvj1 (Or.inl ⟨?hwvj1, ?hyvj1⟩) (by assumption) ?hrvj1
      case hivj1 => (simp only [List.getElem?_toArray, List.getElem?_cons_succ, List.getElem?_cons_zero]; rfl)
      case hqvj1 => exact fun _ _ _ h => h
      case hwvj1 => rfl
      case hyvj1 => (intro w0 hSw; (try dsimp only at hSw); go_simp; try with_reducible rfl)
      (try simp only [Act.put, List.setIfInBounds_toArray, List.set_cons_zero, List.set_cons_succ])
      refine' wpAnyH_take (i := 2) ?hivj2 (by kernel_rfl) (by kernel_rfl) (by kernel_rfl) ?hqvj2 (Or.inl ⟨?hwvj2, ?hyvj2⟩) (by assumption) ?hrvj2
      case hivj2 => (simp only [List.getElem?_toArray, List.getElem?_cons_succ, List.getElem?_cons_zero]; rfl)
      case hqvj2 => exact fun _ _ _ h => h
      case hwvj2 => rfl
      case hyvj2 => (intro w0 hSw; (try dsimp only at hSw); go_simp; try with_reducible rfl)
      (try simp only [Act.put, List.setIfInBounds_toArray, List.set_cons_zero, List.set_cons_succ])
      refine' wpAnyH_take (i := 3) ?hivj3 (by kernel_rfl) (by kernel_rfl) (by kernel_rfl) ?hqvj3 (Or.inl ⟨?hwvj3, ?hyvj3⟩) (by assumption) ?hrvj3
      case hivj3 => (simp only [List.getElem?_toArray, List.getElem?_cons_succ, List.getElem?_cons_zero]; rfl)
      case hqvj3 => exact fun _ _ _ h => h
      case hwvj3 => rfl
      case hyvj3 => (intro w0 hSw; (try dsimp only at hSw); go_simp; try with_reducible rfl)
      (try simp only [Act.put, List.setIfInBounds_toArray, List.set_cons_zero, List.set_cons_succ])
      refine' wpAnyH_take (i := 4) ?hivj4 (by kernel_rfl) (by kernel_rfl) (by kernel_rfl) ?hqvj4 (Or.inl ⟨?hwvj4, ?hyvj4⟩) (by assumption) ?hrvj4
      case hivj4 => (simp only [List.getElem?_toArray, List.getElem?_cons_succ, List.getElem?_cons_zero]; rfl)
      case hqvj4 => exact fun _ _ _ h => h
      case hwvj4 => rfl
      case hyvj4 => (intro w0 hSw; (try dsimp only at hSw); go_simp; try with_reducible rfl)
      (try simp only [Act.put, List.setIfInBounds_toArray, List.set_cons_zero, List.set_cons_succ])
      refine' wpAnyH_take (i := 6) ?hivj6 (by kernel_rfl) (by kernel_rfl) (by kernel_rfl) ?hqvj6 (Or.inl ⟨?hwvj6, ?hyvj6⟩) (by assumption) ?hrvj6
      case hivj6 => (simp only [List.getElem?_toArray, List.getElem?_cons_succ, List.getElem?_cons_zero]; rfl)
      case hqvj6 => exact fun _ _ _ h => h
      case hwvj6 => rfl
      case hyvj6 => (intro w0 hSw; (try dsimp only at hSw); go_simp; try with_reducible rfl)
      (try simp only [Act.put, List.setIfInBounds_toArray, List.set_cons_zero, List.set_cons_succ])
      refine' wpAnyH_take (i := 7) ?hivj7 (by kernel_rfl) (by kernel_rfl) (by kernel_rfl) ?hqvj7 (Or.inl ⟨?hwvj7, ?hyvj7⟩) (by assumption) ?hrvj7
      case hivj7 => (simp only [List.getElem?_toArray, List.getElem?_cons_succ, List.getElem?_cons_zero]; rfl)
      case hqvj7 => exact fun _ _ _ h => h
      case hwvj7 => rfl
      case hyvj7 => (intro w0 hSw; (try dsimp only at hSw); go_simp; try with_reducible rfl)
      (try simp only [Act.put, List.setIfInBounds_toArray, List.set_cons_zero, List.set_cons_succ])
      refine' wpAnyH_take (i := 8) ?hivj8 (by kernel_rfl) (by kernel_rfl) (by kernel_rfl) ?hqvj8 (Or.inl ⟨?hwvj8, ?hyvj8⟩) (by assumption) ?hrvj8
      case hivj8 => (simp only [List.getElem?_toArray, List.getElem?_cons_succ, List.getElem?_cons_zero]; rfl)
      case hqvj8 => exact fun _ _ _ h => h
      case hwvj8 => rfl
      case hyvj8 => (intro w0 hSw; (try dsimp only at hSw); go_simp; try with_reducible rfl)
      (try simp only [Act.put, List.setIfInBounds_toArray, List.set_cons_zero, List.set_cons_succ])
      refine' wpAnyH_take (i := 9) ?hivj9 (by kernel_rfl) (by kernel_rfl) (by kernel_rfl) ?hqvj9 (Or.inl ⟨?hwvj9, ?hyvj9⟩) (by assumption) ?hrvj9
      case hivj9 => (simp only [List.getElem?_toArray, List.getElem?_cons_succ, List.getElem?_cons_zero]; rfl)
      case hqvj9 => exact fun _ _ _ h => h
      case hwvj9 => rfl
      case hyvj9 => (intro w0 hSw; (try dsimp only at hSw); go_simp; try with_reducible rfl)
      (try simp only [Act.put, List.setIfInBounds_toArray, List.set_cons_zero, List.set_cons_succ])
      refine wpAnyH_ready (rs := [5]) (by kernel_rfl) (by simp) ?_
      refine' AllReadyH.cons ?hivj5 (fun K hK => ?hrvj5) AllReadyH.nil
      case hivj5 => (simp only [List.getElem?_toArray, List.getElem?_cons_succ, List.getElem?_cons_zero]; rfl)
      go_simp
      (refine (HAP.out _ HPD.out).mono ?_; rintro e wA ⟨rfl, hkA, htA⟩; have PA := Lib.hid (HPD.out.op HI.out HT.out hkA htA); have HTA := Lib.hid htA; clear hkA htA)
      refine hK.out _ _ ?_ (fun hHeld => ?_)
      · exact HBG.out _ _ HTA.out HPD.out.vs.g
      clear hK K
      (try simp only [Act.put, List.setIfInBounds_toArray, List.set_cons_zero, List.set_cons_succ])
      refine wpAnyH_ready (rs := [10]) (by kernel_rfl) (by simp) ?_
      refine' AllReadyH.cons ?hivj10 (fun K hK => ?hrvj10) AllReadyH.nil
      case hivj10 => (simp only [List.getElem?_toArray, List.getElem?_cons_succ, List.getElem?_cons_zero]; rfl)
      go_simp
      (refine (HAX.out _ _ _ _ PA.out.vx).mono ?_; rintro e wB ⟨rfl, hxB⟩; obtain ⟨G9, la9, lb9, P9', hg9, hn9, ht9⟩ := PA.out.ofX HI.out HT.out hxB; have P9 := Lib.hid P9'; have HT9 := Lib.hid ht9; clear hxB P9' hg9 hn9 ht9)
      refine hK.out _ _ ?_ (fun hHeld => ?_)
      · exact (HT9.out.cell (b := bb) (i := off + i) (fun hh => by have := PA.out.xge; have := PA.out.vs.below.size; omega)).trans hHeld
      clear hK K
      (try simp only [Act.put, List.setIfInBounds_toArray, List.set_cons_zero, List.set_cons_succ])
      refine' wpAnyH_take (i := 11) ?hivj11 (by kernel_rfl) (by kernel_rfl) (by kernel_rfl) ?hqvj11 (Or.inl ⟨?hwvj11, ?hyvj11⟩) (by assumption) ?hrvj11
      case hivj11 => (simp only [List.getElem?_toArray, List.getElem?_cons_succ, List.getElem?_cons_zero]; rfl)
      case hqvj11 => exact fun _ _ _ h => h
      case hwvj11 => rfl
      case hyvj11 => (intro w0 hSw; (try dsimp only at hSw); go_simp; try with_reducible rfl)
      (try simp only [Act.put, List.setIfInBounds_toArray, List.set_cons_zero, List.set_cons_succ])
      refine wpAnyH_done (by kernel_rfl) ?_ _
      go_wp2_with fail
      go_roundg (n - i)
      case measure => omega
      case rel => exact ⟨i + 1, G9, V1, la9, lb9, by go_num, hin, by omega, P9, HBd1⟩
    · have hin' : ¬ (i : Int) < (n : Int) := by omega
      have HBd60 := HBd.out
      have HSZ := Lib.hid (HBd.out.sz (by omega))
      have HSM := Lib.hid (HBd.out.small (by omega))
      have HDI := Lib.hid fun u (h : PV T Vt_ w G X (.pointer (some pa)) V' V' la lb u) => HI.out.die G _ V' _ L q u h.vs.t h.vs.n h.vs.v HSM.out ((HR.out.next h.vs.below).mono fun k _ hk hg => by have := h.vs.g k hg; omega) HSL.out
      have HDX := Lib.hid fun (F : Nat → Prop) l1 l2 u (h : VX u F X V' l1 l2) (hb : Below w.heap.size w u) => vdie_ref F _ X V' l1 l2 _ L q u h HSZ.out (HR.out.next hb) HSL.out
      have HBd1 := Lib.hid (HBd.out.die (by omega) HSL.out q)
      obtain ⟨V1, M1, f1, hV1⟩ : ∃ V1 M1 f1, dieV V' L q = (V1, M1, f1) := ⟨_, _, _, rfl⟩
      have hM1 := HBd.out.die_len (by omega) HSL.out q
      rw [hV1] at HDI HDX HBd1 hM1
      simp only at HDI HDX HBd1 hM1
      have HTE2 := Lib.hid fun u (N K : Nat → Prop) va vb (h1 : TxA u N va M1) (h2 : TxA u K vb M1) => texts_any h1 h2 hM1
      rw [show decide (M1 = M1) = true from decide_eq_true rfl] at HTE2
      clear hV1 hM1
      go_wp2_with (first
        | (go_at_call 17; (with_reducible refine (HDI.out _ HP.out).mono ?_); rintro e wA ⟨lA, rfl, hLA⟩; obtain ⟨GA, PA, hgA, hlA, htA⟩ := HP.out.left HI.out HT.out hLA; have PA' := Lib.hid PA; have OA := Lib.hid hlA; clear hLA PA hlA htA hgA)
        | (go_at_call 18; (with_reducible refine (HDX.out _ _ _ _ PA'.out.vx PA'.out.vs.below).mono ?_); rintro e wB ⟨mB, rfl, hxB, hmB⟩; obtain ⟨GB, laB, lbB, PB, hgB, hnB, htB⟩ := PA'.out.ofX HI.out HT.out hxB; have PB' := Lib.hid PB; have OB := Lib.hid (OA.out.turn htB fun k hk hh => by omega); have MB := Lib.hid (OwnT.txa hmB); clear hxB hmB PB hgB hnB htB)
        | (go_at_call 12; (with_reducible refine (HTE2.out _ _ _ _ _ OB.out MB.out).mono ?_); rintro e wC ⟨rfl, hbC⟩; have PC := Lib.hid (PB'.out.next HI.out hbC); clear hbC)
        | (go_at_call 19; (with_reducible refine (HAL.out _ _ _ _ _ PC.out ⟨_, HBd1.out⟩).mono ?_); rintro e wD ⟨rfl, hbD⟩; have PD := Lib.hid (PC.out.next HI.out hbD); clear hbD)
        | (go_at_call 20; (with_reducible refine (HAW.out _ PD.out.vs.below).mono ?_); rintro e wE ⟨rfl, hbE⟩))
      go_ret
      exact ⟨rfl, PD.out.vs.below.trans (hbE.mono PD.out.vs.below.size)⟩
end
end Go.Proofs.YtkbbeioednhefaaGreatDoor.vt

namespace Go.Proofs.YtkbbeioednhefaaGreatDoor.kit
open Go.ChangeShapes Go.WideShapes Go.ChangeAt Go.RowKit Go.Proofs.YtkbbeioednhefaaGreatDoor.sha

/-- what a number of 32 bits and one of 16 are -/
theorem word_of {a : Int} (h : Lit.wf (.int .u32 a)) : ∃ c : UInt32, a = U c := by
  have hb : 0 ≤ a ∧ a ≤ 4294967295 := by simpa [Lit.wf, IntKind.min, IntKind.max, IntKind.signed, IntKind.bits] using h
  refine ⟨UInt32.ofNat a.toNat, ?_⟩
  unfold U
  rw [UInt32.toNat_ofNat_of_lt' (by show a.toNat < 4294967296; omega)]
  omega
theorem words_of_trod {H : Type} {enc : TypeId × Value → H} {w : World} {base : Nat} {sp : Nat → Bool} {held : Bool} {fuel n : Nat} {t : TypeId} {p : List MemPlace} (L : List UInt32) (ht : Tryz.prog.underlying t = some (.array n 124)) (cs : List Value)
    (h : DataW.trod enc Tryz.prog w base sp held fuel t cs = some (.agg (L.map fun x => DataW.lit (.int .u32 (U x))), p)) (j : Nat) (hj : j < n) (hL : L.length = n) : cs[j]? = some (.int .u32 (U (L.getD j 0))) := by
  obtain ⟨xs, m1, rfl, hx1, hlen, hn, hel⟩ := DataW.trod_array ht h
  have c1 : Tryz.prog.cellsOf 124 = 1 := by kernel_rfl
  simp only [Prod.mk.injEq, DataW.agg.injEq] at hx1
  have hj2 := hel j hj
  rw [c1, Nat.mul_one] at hj2
  have hxj : xs[j]? = some (xs[j]'(by omega)) := List.getElem?_eq_getElem (by omega)
  rw [hxj] at hj2
  obtain ⟨k, e1, e2, _⟩ := DataW.trod_int Tryz.underlying124 hj2
  have hk : (xs.map (·.1))[j]? = some (.lit (.int .u32 k)) := by rw [List.getElem?_map, hxj]; simp [e2]
  have hLj : L[j]? = some (L[j]'(by rw [hL]; exact hj)) := List.getElem?_eq_getElem (by rw [hL]; exact hj)
  rw [← hx1.1, List.getElem?_map, hLj] at hk
  have hkU : U (L[j]'(by rw [hL]; exact hj)) = k := by simpa using hk
  rw [List.getD_eq_getElem?_getD, hLj, Option.getD_some, hkU]
  have := congrArg (fun l : List Value => l[0]?) e1
  simpa [List.getElem?_take, List.getElem?_drop] using this
end Go.Proofs.YtkbbeioednhefaaGreatDoor.kit

namespace Go.Proofs.YtkbbeioednhefaaGreatDoor.crc
open Go.RowKit Go.Proofs.YtkbbeioednhefaaGreatDoor.mem Go.Proofs.YtkbbeioednhefaaGreatDoor.sha

def stepsL : List UInt32 := [0x00000000, 0x1db71064, 0x3b6e20c8, 0x26d930ac, 0x76dc4190, 0x6b6b51f4, 0x4db26158, 0x5005713c, 0xedb88320, 0xf00f9344, 0xd6d6a3e8, 0xcb61b38c, 0x9b64c2b0, 0x86d3d2d4, 0xa00ae278, 0xbdbdf21c]
theorem stepsL_An : ∀ j : Fin 16, stepsL.getD j.val 0 = An 4 (UInt32.ofNat j.val) := by decide
/-- the table lies in block 0 -/
def Tab (w : World) : Prop := 1 ≤ w.heap.size ∧ ∀ j, j < 16 → w.cell? ⟨0, j, none⟩ = some (.int .u32 (U (stepsL.getD j 0)))
theorem Tab.next {w w' : World} (h : Tab w) (hb : Below w.heap.size w w') : Tab w' :=
  ⟨Nat.le_trans h.1 hb.size, fun j hj => (hb.cell (p := ⟨0, j, none⟩) (Nat.lt_of_lt_of_le (show 0 < 1 by decide) h.1)).trans (h.2 j hj)⟩

/-- four steps of a word with the four lowest bits of a byte -/
def halfC (w : UInt32) (b : UInt8) : UInt32 := w >>> 4 ^^^ An 4 ((w ^^^ b.toUInt32) &&& 15)
theorem xor_shr4 (x y : UInt32) : (x ^^^ y) >>> 4 = x >>> 4 ^^^ y >>> 4 := xor_shr x y 4
theorem byte_shr4 (x : UInt8) : (x >>> 4).toUInt32 = x.toUInt32 >>> 4 := by
  apply UInt32.toNat_inj.1
  rw [UInt8.toNat_toUInt32, UInt32.toNat_shiftRight, UInt8.toNat_shiftRight, UInt8.toNat_toUInt32]
  rfl
theorem byte_shr8 (x : UInt8) : x.toUInt32 >>> 4 >>> 4 = 0 := by
  apply UInt32.toNat_inj.1
  have := x.toNat_lt
  rw [UInt32.toNat_shiftRight, UInt32.toNat_shiftRight, UInt8.toNat_toUInt32]
  show x.toNat >>> (4 % 32) >>> (4 % 32) = 0
  rw [Nat.shiftRight_eq_div_pow, Nat.shiftRight_eq_div_pow]
  show x.toNat / 16 / 16 = 0
  omega
theorem halfC_An (w : UInt32) (b : UInt8) : halfC w b = An 4 (w ^^^ b.toUInt32) ^^^ b.toUInt32 >>> 4 := by
  unfold halfC
  rw [An4_split (w ^^^ b.toUInt32), xor_shr4, UInt32.xor_comm (w >>> 4), UInt32.xor_assoc, UInt32.xor_assoc, UInt32.xor_self, UInt32.xor_zero]
theorem halves (w : UInt32) (x : UInt8) : halfC (halfC w x) (x >>> 4) = stepC w x := by
  rw [halfC_An, halfC_An, byte_shr4, byte_shr8, UInt32.xor_zero, UInt32.xor_assoc, UInt32.xor_self, UInt32.xor_zero]
  exact (An_add 4 4 _).symm
theorem b8_xor (x y : UInt8) : bits .xor .u8 (B x) (B y) = B (x ^^^ y) := by
  unfold B; rw [u8_xor_nat _ _ x.toNat_lt y.toNat_lt, UInt8.toNat_xor]
theorem b8_and (x y : UInt8) : bits .and .u8 (B x) (B y) = B (x &&& y) := by
  unfold B; rw [u8_and_nat _ _ x.toNat_lt y.toNat_lt, UInt8.toNat_and]
theorem b8_and15 (x : UInt8) : bits .and .u8 (B x) 15 = B (x &&& 15) := by
  have h : (15 : Int) = B 15 := by decide
  rw [h, b8_and]
theorem U_wrap8 (w : UInt32) : IntKind.u8.wrap (U w) = B w.toUInt8 := by
  unfold U B
  rw [UInt32.toNat_toUInt8]
  simp [IntKind.wrap, IntKind.signed, IntKind.bits]
/-- the half byte's number -/
theorem nib (w : UInt32) (b : UInt8) : ∃ j : Nat, j < 16 ∧ B ((w.toUInt8 &&& 15) ^^^ (b &&& 15)) = (j : Int) ∧ stepsL.getD j 0 = An 4 ((w ^^^ b.toUInt32) &&& 15) := by
  have he : ((w.toUInt8 &&& 15) ^^^ (b &&& 15)).toNat = ((w ^^^ b.toUInt32) &&& 15).toNat := by
    rw [UInt8.toNat_xor, UInt8.toNat_and, UInt8.toNat_and, UInt32.toNat_and, UInt32.toNat_xor, UInt8.toNat_toUInt32, UInt32.toNat_toUInt8]
    show (w.toNat % 2 ^ 8 &&& 15) ^^^ (b.toNat &&& 15) = (w.toNat ^^^ b.toNat) &&& 15
    rw [Nat.and_xor_distrib_right]
    congr 1
    apply Nat.eq_of_testBit_eq
    intro i
    rw [Nat.testBit_and, Nat.testBit_and, Nat.testBit_mod_two_pow, show (15 : Nat) = 2 ^ 4 - 1 by rfl, Nat.testBit_two_pow_sub_one]
    by_cases hi : i < 4
    · rw [decide_eq_true hi, decide_eq_true (show i < 8 by omega), Bool.true_and]
    · rw [decide_eq_false hi, Bool.and_false, Bool.and_false]
  have hlt : ((w ^^^ b.toUInt32) &&& 15).toNat < 16 := by
    rw [UInt32.toNat_and]
    exact Nat.lt_succ_of_le Nat.and_le_right
  refine ⟨((w ^^^ b.toUInt32) &&& 15).toNat, hlt, ?_, ?_⟩
  · unfold B; rw [he]
  · have := stepsL_An ⟨_, hlt⟩
    rw [this]
    congr 1
    exact UInt32.ofNat_toNat

set_option maxHeartbeats 1000000 in
set_option maxRecDepth 100000 in
theorem half_any (x : UInt32) (b : UInt8) (w : World) (hT : Tab w) : Calls Tryz.prog 100 #[.int .u32 (U x), .int .u8 (B b)] w fun e w' => e = .returned (.int .u32 (U (halfC x b))) ∧ w = w' := by
  obtain ⟨j, hj, hB, hS⟩ := nib x b
  have hcell := hT.2 j hj
  rw [hS] at hcell
  have h4 : U x / (16 : Int) = U (x >>> 4) := U_shr 4 x 4 rfl
  have hx := U_xor
  have hw8 := U_wrap8
  have ha := b8_and15
  have hx8 := b8_xor
  have j0 : (0 : Int) ≤ (j : Int) := Int.natCast_nonneg _
  have j1 : (j : Int) < 16 := by omega
  clear hT hS hj
  go_enter Tryz.func100, Tryz.ntmps100
  go_wp2_with fail
  go_ret
  exact ⟨rfl, rfl⟩

set_option maxHeartbeats 1000000 in
set_option maxRecDepth 100000 in
theorem add_walk (c : UInt32) (s : ByteArray) (w : World) (hT : Tab w) (hs : s.size ≤ 549755813888) : Calls Tryz.prog 92 #[.int .u32 (U c), .string s] w fun e w' => e = .returned (.int .u32 (U (addC c s.data.toList))) ∧ w = w' := by
  have hn : ∀ a : UInt32, bits .xor .u32 IntKind.u32.max (U a) = U (~~~ a) := U_not
  have hq : ∀ x : UInt8, B x / (16 : Int) = B (x >>> 4) := fun x => by
    unfold B
    rw [UInt8.toNat_shiftRight]
    show (x.toNat : Int) / 16 = ((x.toNat >>> (4 % 8) : Nat) : Int)
    rw [Nat.shiftRight_eq_div_pow]
    rfl
  have HT := Lib.hid hT
  clear hT
  go_enter Tryz.func92, Tryz.ntmps92
  go_wp2_with fail
  go_loopw [5, 11] (fun v i wr => ∃ k : Nat, k ≤ s.size ∧ i = .int .i64 k ∧ v = .int .u32 (U (runC (~~~ c) (s.data.toList.take k))) ∧ wr = w) (fun _ i _ => s.size - (intOf i).toNat)
  case atStart => exact ⟨0, Nat.zero_le _, rfl, rfl, rfl⟩
  case round =>
    obtain ⟨k, hk, rfl, rfl, rfl⟩ := hrel
    obtain ⟨y, hy⟩ : ∃ y, y = runC (~~~ c) (s.data.toList.take k) := ⟨_, rfl⟩
    rw [← hy]
    have HY := Lib.hid hy
    clear hy
    have k0 : (0 : Int) ≤ (k : Int) := Int.natCast_nonneg _
    by_cases hlt : k < s.size
    · have k1 : (k : Int) < (s.size : Int) := by omega
      obtain ⟨x, hx1⟩ : ∃ x, x = s.data.toList.getD k 0 := ⟨_, rfl⟩
      have hidx := fun u : World => run_index_str s k hlt u
      rw [← hx1] at hidx
      have HN : Hid (runC (~~~ c) (s.data.toList.take (k + 1)) = halfC (halfC y x) (x >>> 4)) := Lib.hid (by
        rw [List.take_succ_eq_append_getElem (by rw [← size_list]; exact hlt), runC, List.foldl_append]
        rw [HY.out, hx1, List.getD_eq_getElem?_getD, List.getElem?_eq_getElem (by rw [← size_list]; exact hlt), halves]
        rfl)
      clear hx1
      go_wp2_with (go_at_call 100; with_reducible refine (half_any _ _ _ HT.out).mono ?_; rintro e w1 ⟨rfl, rfl⟩)
      exact ⟨⟨k + 1, hlt, by simp, by rw [HN.out], trivial⟩, by simp [intOf]; omega⟩
    · obtain rfl : k = s.size := by omega
      clear hlt hk
      go_wp2_with fail
      go_ret
      refine ⟨?_, rfl⟩
      rw [HY.out, List.take_of_length_le (by rw [← size_list]; exact Nat.le_refl _)]
      rfl

set_option maxHeartbeats 1000000 in
theorem sum_walk (s : ByteArray) (w : World) (hT : Tab w) (hs : s.size ≤ 549755813888) : Calls Tryz.prog 91 #[.string s] w fun e w' => e = .returned (.int .u32 (U (addC 0 s.data.toList))) ∧ w = w' := by
  have h0 := add_walk 0 s w hT hs
  rw [show U 0 = 0 from rfl] at h0
  have H := Lib.hid h0
  clear h0 hT
  go_enter Tryz.func91, Tryz.ntmps91
  go_wp2_with (go_at_call 92; refine (H.out).mono ?_; rintro e w1 ⟨rfl, rfl⟩)
  go_ret
  exact ⟨rfl, rfl⟩

end Go.Proofs.YtkbbeioednhefaaGreatDoor.crc

namespace Go.Proofs.YtkbbeioednhefaaGreatDoor.kit
open Go.ChangeShapes Go.WideShapes Go.ChangeAt Go.RowKit Go.Proofs.YtkbbeioednhefaaGreatDoor.sha

def listedC : List (String × DataW Unit) := [("petrel/crc.steps", Rows.laid_petrel_crc_steps)]
theorem gSteps : Tryz.prog.globalNamed "petrel/crc.steps" = some 0 := by kernel_rfl
theorem tSteps : (Tryz.prog.globals[0]?).map (·.type) = some 149 := by kernel_rfl
theorem door_metC (os : Os) (args : Array Value) : laidMetH Tryz.prog listedC ((World.doorLaid Tryz.prog 400 os).forCall (fun _ _ => 0) ⟨#[], args, []⟩).memory :=
  laidMetH_of_parts3 (fuel := 8) (laidMet_of_run' 8 (by kernel_rfl) (by kernel_rfl)) (by kernel_rfl) (by kernel_rfl)
theorem steps_of_laid {W : World} (h : laidMetH Tryz.prog listedC W) : crc.Tab W := by
  rw [MakeChecks.laidMetH_plain _ _ _ (by kernel_rfl)] at h
  obtain ⟨ps, ⟨g0, t0, cs0, f0, p0, q0, hg0, ht0, hv0, hd0, _, _⟩, _, _⟩ := h
  obtain rfl := Option.some.inj (gSteps.symm.trans hg0)
  obtain rfl := Option.some.inj (tSteps.symm.trans ht0)
  have k0 := words_of_trod crc.stepsL Tryz.underlying149 _ hd0
  have c0 : ∀ j, j < 16 → W.cell? ⟨0, j, none⟩ = some (.int .u32 (U (crc.stepsL.getD j 0))) := fun j hj => by
    rw [World.var?_cell hg0 hv0 j, ← k0 j hj rfl]
    simp
  exact ⟨block_lt_of_cell (c0 0 (by decide)), c0⟩
end Go.Proofs.YtkbbeioednhefaaGreatDoor.kit
