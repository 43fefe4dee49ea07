/-
  The walk of VaultPlays, by what vault's functions answer.
-/
import Derived.Test.YtkbbeioednhefaaGreatDoorVfj
namespace Go.Proofs.YtkbbeioednhefaaGreatDoor.vt
open Go.RowKit Go.Proofs.YtkbbeioednhefaaGreatDoor.mem Go.Proofs.YtkbbeioednhefaaGreatDoor.sha Go.Proofs.YtkbbeioednhefaaGreatDoor.strx Go.Proofs.YtkbbeioednhefaaGreatDoor.rows Go.Proofs.YtkbbeioednhefaaGreatDoor.ids Go.Proofs.YtkbbeioednhefaaGreatDoor.rcd Go.Proofs.YtkbbeioednhefaaGreatDoor.jn Go.Proofs.YtkbbeioednhefaaGreatDoor.txl

/-- v is a slice of n acts -/
def VActs (w : World) (ad : Option Addr) (n : Nat) (K N : Nat → Int) (S : Nat → ByteArray) (lv : Nat → Value) (Ls : Nat → List (List UInt8)) : Prop :=
  ∀ i, i < n → ∃ b off, ad = some ⟨b, off, none⟩ ∧ b < w.heap.size ∧ w.cell? ⟨b, off + i * 4, none⟩ = some (.int .i64 (K i)) ∧ w.cell? ⟨b, off + i * 4 + 1, none⟩ = some (.string (S i)) ∧ w.cell? ⟨b, off + i * 4 + 2, none⟩ = some (lv i) ∧ w.cell? ⟨b, off + i * 4 + 3, none⟩ = some (.int .i64 (N i)) ∧ TxA w (· < w.heap.size) (lv i) (Ls i) ∧ (Ls i).length ≤ 9223372036854775807
theorem new_lit (t1 t2 : ByteArray) (h1 : t1 = oct.tx newV.a.s) (h2 : t2 = oct.tx newV.b.s) (n1 n2 k1 k2 m1 m2 : Nat) (u o : Int) (h3 : n1 = newV.a.l.length) (h4 : n2 = newV.b.l.length) (hk1 : k1 = newV.a.k) (hk2 : k2 = newV.b.k) (hm1 : m1 = newV.a.m) (hm2 : m2 = newV.b.m) (hu : u = newV.use) (ho : o = newV.no) (w : World) :
    Calls Tryz.prog 6 #[] w fun e w' => ∃ a1 c1 a2 c2, e = .returned (.agg #[.string t1, .int .i64 (k1 : Int), .slice a1 n1 c1, .int .i64 (m1 : Int), .string t2, .int .i64 (k2 : Int), .slice a2 n2 c2, .int .i64 (m2 : Int), .int .i64 u, .int .i64 o]) ∧
      OwnR w' (w.heap.size ≤ ·) (.slice a1 n1 c1) newV.a.l ∧ OwnR w' (w.heap.size ≤ ·) (.slice a2 n2 c2) newV.b.l ∧ Below w.heap.size w w' := by
  refine (new_ref13 w).mono ?_
  rintro e w' ⟨la, lb, he, hA, hB, hb⟩
  obtain ⟨a1, c1, e1⟩ := OwnK.form hA
  obtain ⟨a2, c2, e2⟩ := OwnK.form hB
  rw [List.length_map] at e1 e2
  subst e1 e2
  refine ⟨a1, c1, a2, c2, ?_, by rw [h3]; exact hA, by rw [h4]; exact hB, hb⟩
  rw [he, h1, h2, h3, h4, hk1, hk2, hm1, hm2, hu, ho]
  rfl
section
variable {T : World → Prop} {Vt_ : (Nat → Prop) → World → Value → Vt → Prop}
/-- an act in block A, none of the vaults' -/
structure AV (w : World) (G : Nat → Prop) (X A : Nat) (kk : Int) (t : ByteArray) (lv : Value) (nn : Int) : Prop where
  a : Blk w A 35 #[.int .i64 kk, .string t, lv, .int .i64 nn]
  g : ¬ G A
  x : A ≠ X
variable {w w' : World} {G G' : Nat → Prop} {X A : Nat} {kk nn : Int} {t : ByteArray} {lv : Value}
theorem AV.cells (h : AV w G X A kk t lv nn) : w.cell? ⟨A, 0, none⟩ = some (.int .i64 kk) ∧ w.cell? ⟨A, 1, none⟩ = some (.string t) ∧ w.cell? ⟨A, 2, none⟩ = some lv ∧ w.cell? ⟨A, 3, none⟩ = some (.int .i64 nn) :=
  ⟨h.a.cell 0, h.a.cell 1, h.a.cell 2, h.a.cell 3⟩
theorem AV.ofV (h : AV w G X A kk t lv nn) (ht : Turn G w w') (hg : ∀ k, G' k → G k) : AV w' G' X A kk t lv nn := ⟨Blk.turn h.a ht h.g, fun hh => h.g (hg A hh), h.x⟩
theorem AV.ofX (h : AV w G X A kk t lv nn) (ht : Turn (fun k => k = X ∨ w.heap.size ≤ k) w w') (hg : ∀ k, G' k → G k) : AV w' G' X A kk t lv nn := ⟨Blk.turn h.a ht fun hh => hh.elim h.x fun e => by have := h.a.lt; omega, fun hh => h.g (hg A hh), h.x⟩
theorem AV.next (h : AV w G X A kk t lv nn) (hb : Below w.heap.size w w') : AV w' G X A kk t lv nn := ⟨h.a.below hb h.a.lt, h.g, h.x⟩
set_option maxHeartbeats 16000000 in
set_option maxRecDepth 100000 in
theorem plays_walk (hI : VtIs T Vt_) (ad : Option Addr) (n cap : Nat) (K N : Nat → Int) (S : Nat → ByteArray) (lv : Nat → Value) (Ls : Nat → List (List UInt8)) (w : World) (hl : n ≤ 9223372036854775807) (hT : T w) (hA : VActs w ad n K N S lv Ls) :
    Calls Tryz.prog 3 #[.slice ad n cap] w fun e w' => e = .returned (.bool true) ∧ Below w.heap.size w w' := by
  have HI := Lib.hid hI
  have HT := Lib.hid hT
  have HAC := Lib.hid hA
  have HNW := Lib.hid (hI.new w hT)
  have HAW := Lib.hid fun w1 (h : Below w.heap.size w w1) => awake_any hI w1 (hI.next hT h)
  obtain ⟨t1, h1⟩ : ∃ x, x = oct.tx newV.a.s := ⟨_, rfl⟩
  obtain ⟨t2, h2⟩ : ∃ x, x = oct.tx newV.b.s := ⟨_, rfl⟩
  obtain ⟨n1, h3⟩ : ∃ x, x = newV.a.l.length := ⟨_, rfl⟩
  obtain ⟨n2, h4⟩ : ∃ x, x = newV.b.l.length := ⟨_, rfl⟩
  obtain ⟨k1, h5⟩ : ∃ x, x = newV.a.k := ⟨_, rfl⟩
  obtain ⟨k2, h6⟩ : ∃ x, x = newV.b.k := ⟨_, rfl⟩
  obtain ⟨m1, h7⟩ : ∃ x, x = newV.a.m := ⟨_, rfl⟩
  obtain ⟨m2, h8⟩ : ∃ x, x = newV.b.m := ⟨_, rfl⟩
  obtain ⟨us, h9⟩ : ∃ x, x = newV.use := ⟨_, rfl⟩
  obtain ⟨nu, h10⟩ : ∃ x, x = newV.no := ⟨_, rfl⟩
  have HLR := Lib.hid fun u => new_lit t1 t2 h1 h2 n1 n2 k1 k2 m1 m2 us nu h3 h4 h5 h6 h7 h8 h9 h10 u
  have HVC : Hid (∀ l1 l2, vcl newV l1 l2 = #[.string t1, .int .i64 (k1 : Int), l1, .int .i64 (m1 : Int), .string t2, .int .i64 (k2 : Int), l2, .int .i64 (m2 : Int), .int .i64 us, .int .i64 nu]) := Lib.hid fun l1 l2 => by rw [h1, h2, h5, h6, h7, h8, h9, h10]; rfl
  have HAL := Lib.hid fun (G : Nat → Prop) X p x la lb u (h : PV T Vt_ w G X p x x la lb u) (hb : ∃ i, Bd i x) => alike_any hI hT h (by obtain ⟨i, hb⟩ := hb; exact hb.u)
  clear hI hT hA h1 h2 h3 h4 h5 h6 h7 h8 h9 h10
  go_enter Tryz.func3, Tryz.ntmps3
  go_upto_region 3 with (first
    | (go_at_call 5; (with_reducible refine HNW.out.mono ?_); rintro e w2 ⟨p, rfl, hk2, hb2⟩; have HVS := Lib.hid (VS.start HI.out HT.out hk2 hb2); clear hk2 hb2)
    | (go_at_call 6; (with_reducible refine (HLR.out _).mono ?_); rintro e w3 ⟨a1, c1, a2, c2, rfl, hA, hB, hb3⟩; have HA := Lib.hid hA; have HB := Lib.hid hB; have HB3 := Lib.hid hb3; clear hA hB hb3))
  obtain ⟨X, hX⟩ : ∃ X, X = w3.heap.size := ⟨_, rfl⟩
  have hbX := Blk.at_ hX.symm 31 #[.string t1, .int .i64 (k1 : Int), .slice a1 n1 c1, .int .i64 (m1 : Int), .string t2, .int .i64 (k2 : Int), .slice a2 n2 c2, .int .i64 (m2 : Int), .int .i64 us, .int .i64 nu]
  have hb4 : Below w3.heap.size w3 (w3.alloc (.cells #[.string t1, .int .i64 (k1 : Int), .slice a1 n1 c1, .int .i64 (m1 : Int), .string t2, .int .i64 (k2 : Int), .slice a2 n2 c2, .int .i64 (m2 : Int), .int .i64 us, .int .i64 nu] 31)) := (Below.refl _ _).alloc (Nat.le_refl _) _
  obtain ⟨w4, hw4⟩ : ∃ u, u = w3.alloc (.cells #[.string t1, .int .i64 (k1 : Int), .slice a1 n1 c1, .int .i64 (m1 : Int), .string t2, .int .i64 (k2 : Int), .slice a2 n2 c2, .int .i64 (m2 : Int), .int .i64 us, .int .i64 nu] 31) := ⟨_, rfl⟩
  rw [← hw4] at hbX hb4
  rw [← hw4, ← hX]
  have hb24 := HB3.out.trans (hb4.mono HB3.out.size)
  have hge : w2.heap.size ≤ X := by have := HB3.out.size; omega
  rw [← HVC.out] at hbX
  obtain ⟨G4, hPV, -⟩ := PV.start HI.out HT.out HVS.out hb24 hbX hge (ornx HA.out hb4) (ornx HB.out hb4)
  have HPV := Lib.hid hPV
  have HBN := Lib.hid bd_new
  clear hbX hb4 hw4 hX hb24 hge hPV
  go_wp2_with fail
  go_loopg [5] 31 (fun gk s5 wr => ∃ (i : Nat) (G : Nat → Prop) (V : Vt) (la lb : Value), s5 = .int .i64 i ∧ i ≤ n ∧ i ≤ 30 ∧ 30 - i < gk ∧ Hid (PV T Vt_ w G X p V V la lb wr) ∧ Hid (Bd i V))
  case atStart => exact ⟨0, G4, newV, _, _, rfl, Nat.zero_le _, Nat.zero_le _, by omega, HPV, HBN⟩
  case round =>
    obtain ⟨i, G, V, la, lb, rfl, hi, hi30, hgk, HP, HBd⟩ := hrel
    have i0 : (0 : Int) ≤ (i : Int) := Int.natCast_nonneg _
    by_cases hlt : i < n ∧ i < 30
    case neg =>
      by_cases hin : (i : Int) < (n : Int)
      · have hi6 : ¬ (i : Int) < 30 := by omega
        go_wp2_with (go_at_call 20; (with_reducible refine (HAW.out _ HP.out.vs.below).mono ?_); rintro e w5 ⟨rfl, hb5⟩)
        go_ret
        exact ⟨rfl, HP.out.vs.below.trans (hb5.mono HP.out.vs.below.size)⟩
      · go_wp2_with (go_at_call 20; (with_reducible refine (HAW.out _ HP.out.vs.below).mono ?_); rintro e w5 ⟨rfl, hb5⟩)
        go_ret
        exact ⟨rfl, HP.out.vs.below.trans (hb5.mono HP.out.vs.below.size)⟩
    obtain ⟨hin, hi2⟩ := hlt
    obtain ⟨bb, off, rfl, hbl, q0, q1, q2, q3, hLx, hLl⟩ := HAC.out i hin
    have hbk := HP.out.vs.below
    replace q0 := (hbk.cell (p := ⟨bb, off + i * 4, none⟩) hbl).trans q0
    replace q1 := (hbk.cell (p := ⟨bb, off + i * 4 + 1, none⟩) hbl).trans q1
    replace q2 := (hbk.cell (p := ⟨bb, off + i * 4 + 2, none⟩) hbl).trans q2
    replace q3 := (hbk.cell (p := ⟨bb, off + i * 4 + 3, none⟩) hbl).trans q3
    have i1 : (i : Int) < (n : Int) := by omega
    have i2 : (i : Int) < 30 := by omega
    obtain ⟨kk, hkk⟩ : ∃ z, z = K i := ⟨_, rfl⟩
    obtain ⟨nn, hnn⟩ : ∃ z, z = N i := ⟨_, rfl⟩
    obtain ⟨t, ht⟩ : ∃ z, z = S i := ⟨_, rfl⟩
    obtain ⟨L, hL⟩ : ∃ z, z = Ls i := ⟨_, rfl⟩
    obtain ⟨av, cv, hlv⟩ := hLx.form
    rw [← hL] at hLx hLl hlv
    rw [hlv] at hLx q2
    rw [← hkk] at q0
    rw [← ht] at q1
    rw [← hnn] at q3
    obtain ⟨ln, hln⟩ : ∃ z, z = L.length := ⟨_, rfl⟩
    rw [← hln] at hLx q2
    have hal : Below wr.heap.size wr (wr.alloc (.cells #[.int .i64 kk, .string t, .slice av ln cv, .int .i64 nn] 35)) := (Below.refl _ _).alloc (Nat.le_refl _) _
    have HLG := Lib.hid fun u (h : Below w.heap.size w u) => long_any kk nn t (hLx.next h) hLl
    have HLX := Lib.hid hLx
    have HB0 := Lib.hid hal
    clear hbk hkk hnn ht hL hlv hal hLx hLl hln
    by_cases hlg : longV t.size L = true
    · rw [hlg] at HLG
      clear hlg
      have hb01 := Lib.hid (HP.out.vs.below.trans (HB0.out.mono HP.out.vs.below.size))
      go_wp2_with (go_at_call 7; (with_reducible refine (HLG.out _ hb01.out).mono ?_); rintro e w5 ⟨rfl, hb5⟩; have HP5 := Lib.hid ((HP.out.next HI.out HB0.out).next HI.out hb5); clear hb5)
      go_roundg (30 - i)
      case measure => omega
      case rel => exact ⟨i + 1, G, V, la, lb, by go_num, hin, hi2, by omega, HP5, Lib.hid (HBd.out.more (Nat.le_succ i))⟩
    have hlg' : longV t.size L = false := by simpa using hlg
    rw [hlg'] at HLG
    obtain ⟨hts, hL20, hLs⟩ := long_no hlg'
    have HSL := Lib.hid (show smallL L from ⟨by omega, hLs⟩)
    have htl : t.data.toList.length ≤ 300 := by rw [← size_list]; exact hts
    have HTL := Lib.hid htl
    have hb01 := Lib.hid (HP.out.vs.below.trans (HB0.out.mono HP.out.vs.below.size))
    clear hlg hlg' hL20 hLs htl
    go_upto_block 2 with (go_at_call 7; (with_reducible refine (HLG.out _ hb01.out).mono ?_); rintro e w5 ⟨rfl, hb5⟩; have e0 : w5.cell? ⟨wr.heap.size, 0, none⟩ = some (.int .i64 kk) := (Blk.below (Blk.new wr 35 #[.int .i64 kk, .string t, .slice av ln cv, .int .i64 nn]) hb5 (Blk.new wr 35 #[.int .i64 kk, .string t, .slice av ln cv, .int .i64 nn]).lt).cell 0; have HB5 := Lib.hid hb5; clear hb5)
    obtain ⟨G2, hP3, hg2a, hg2b⟩ := HP.out.beside HI.out HT.out (HB0.out.trans (HB5.out.mono HB0.out.size))
    have hAV : AV w5 G2 X wr.heap.size kk t (.slice av ln cv) nn := by
      refine ⟨Blk.below (Blk.new wr 35 _) HB5.out (Blk.new wr 35 _).lt, fun hh => ?_, fun e => ?_⟩
      · have := hg2b _ hh
        have := (Blk.below (Blk.new wr 35 #[.int .i64 kk, .string t, .slice av ln cv, .int .i64 nn]) HB5.out (Blk.new wr 35 _).lt).lt
        omega
      · have := HP.out.vx.blk.lt
        omega
    clear e0
    obtain ⟨A, hAe⟩ : ∃ A, A = wr.heap.size := ⟨_, rfl⟩
    rw [← hAe] at hAV
    rw [← hAe]
    have HP3 := Lib.hid hP3
    have HAB := Lib.hid hAV
    obtain ⟨c0, c1, c2, c3⟩ := hAV.cells
    have HSZ := Lib.hid (HBd.out.sz (by omega))
    have HSM := Lib.hid (HBd.out.small (by omega))
    have HTG : Hid (∀ u (K : Nat → Prop), Below w.heap.size w u → (∀ k, K k → w.heap.size ≤ k) → TxA u (fun k => ¬ K k) (.slice av ln cv) L) := Lib.hid fun u K hb hk => (HLX.out.next hb).mono fun k _ h1 h2 => by have := hk k h2; omega
    clear hP3 hg2a hg2b hAV hAe q0 q1 q2 q3 HB0 HB5 hb01 HLG
    go_cut [7, 8, 9, 10, 11] from 30 to 93 (fun s7 s8 s9 s10 s11 wx => s7 = .bool true ∧ ∃ (V' : Vt) (G' : Nat → Prop) (la' lb' : Value), Hid (PV T Vt_ w G' X p V' V' la' lb' wx) ∧ Hid (Bd (i + 1) V'))
    case first =>
      by_cases h0 : kk = 0
      · have d0 : (kk == 0) = true := by simpa using h0
        have d1 : (kk == 1) = false := by rw [h0]; rfl
        clear h0
        have HBd1 := Lib.hid (HBd.out.app HTL.out)
        have HAP := Lib.hid fun (K : Nat → Prop) u (h : PV T Vt_ w K X p V V la lb u) => HI.out.append K _ V t u h.vs.t h.vs.n h.vs.v HSM.out hts
        have HAX := Lib.hid fun (F : Nat → Prop) l1 l2 u (h : VX u F X V l1 l2) => vapp_ref F X V l1 l2 t u h HSZ.out.u HSZ.out.la (by have := HSZ.out.sa; omega) HSZ.out.lb (by have := HSZ.out.sb; omega) (by omega)
        obtain ⟨V1, hV1⟩ : ∃ x, x = (appV V t.data.toList).1 := ⟨_, rfl⟩
        obtain ⟨e1, he1⟩ : ∃ x, x = (appV V t.data.toList).2 := ⟨_, rfl⟩
        rw [← hV1, ← he1] at HAP HAX
        rw [← hV1] at HBd1
        clear hV1 he1
        have HPD := Lib.hid (HP3.out.next HI.out ((Below.refl _ _).drew))
        have HAD := Lib.hid (HAB.out.next ((Below.refl _ _).drew))
        go_upto_region 15 with fail
        refine wp_region_held_drew (S := (fun w' => w'.cell? ⟨A, 1, none⟩ = some (.string t))) (by kernel_rfl) ?_ (fun hHeld => ?_)
        · exact c1
        refine' wpAnyH_take (i := 0) ?hika0 (by kernel_rfl) (by kernel_rfl) (by kernel_rfl) ?hqka0 (Or.inl ⟨?hwka0, ?hyka0⟩) (by assumption) ?hrka0
        case hika0 => (simp only [List.getElem?_toArray, List.getElem?_cons_succ, List.getElem?_cons_zero]; rfl)
        case hqka0 => exact fun _ _ _ h => h
        case hwka0 => rfl
        case hyka0 => (intro w0 hSw; (try dsimp only at hSw); go_simp; try with_reducible rfl)
        (try simp only [Act.put, List.setIfInBounds_toArray, List.set_cons_zero, List.set_cons_succ])
        refine' wpAnyH_take (i := 1) ?hika1 (by kernel_rfl) (by kernel_rfl) (by kernel_rfl) ?hqka1 (Or.inl ⟨?hwka1, ?hyka1⟩) (by assumption) ?hrka1
        case hika1 => (simp only [List.getElem?_toArray, List.getElem?_cons_succ, List.getElem?_cons_zero]; rfl)
        case hqka1 => exact fun _ _ _ h => h
        case hwka1 => rfl
        case hyka1 => (intro w0 hSw; (try dsimp only at hSw); go_simp; try with_reducible rfl)
        (try simp only [Act.put, List.setIfInBounds_toArray, List.set_cons_zero, List.set_cons_succ])
        refine' wpAnyH_take (i := 2) ?hika2 (by kernel_rfl) (by kernel_rfl) (by kernel_rfl) ?hqka2 (Or.inl ⟨?hwka2, ?hyka2⟩) (by assumption) ?hrka2
        case hika2 => (simp only [List.getElem?_toArray, List.getElem?_cons_succ, List.getElem?_cons_zero]; rfl)
        case hqka2 => exact fun _ _ _ h => h
        case hwka2 => rfl
        case hyka2 => (intro w0 hSw; (try dsimp only at hSw); go_simp; try with_reducible rfl)
        (try simp only [Act.put, List.setIfInBounds_toArray, List.set_cons_zero, List.set_cons_succ])
        refine' wpAnyH_take (i := 4) ?hika4 (by kernel_rfl) (by kernel_rfl) (by kernel_rfl) ?hqka4 (Or.inl ⟨?hwka4, ?hyka4⟩) (by assumption) ?hrka4
        case hika4 => (simp only [List.getElem?_toArray, List.getElem?_cons_succ, List.getElem?_cons_zero]; rfl)
        case hqka4 => exact fun _ _ _ h => h
        case hwka4 => rfl
        case hyka4 => (intro w0 hSw; (try dsimp only at hSw); go_simp; try with_reducible rfl)
        (try simp only [Act.put, List.setIfInBounds_toArray, List.set_cons_zero, List.set_cons_succ])
        refine' wpAnyH_take (i := 5) ?hika5 (by kernel_rfl) (by kernel_rfl) (by kernel_rfl) ?hqka5 (Or.inl ⟨?hwka5, ?hyka5⟩) (by assumption) ?hrka5
        case hika5 => (simp only [List.getElem?_toArray, List.getElem?_cons_succ, List.getElem?_cons_zero]; rfl)
        case hqka5 => exact fun _ _ _ h => h
        case hwka5 => rfl
        case hyka5 => (intro w0 hSw; (try dsimp only at hSw); go_simp; try with_reducible rfl)
        (try simp only [Act.put, List.setIfInBounds_toArray, List.set_cons_zero, List.set_cons_succ])
        refine wpAnyH_ready (rs := [3]) (by kernel_rfl) (by simp) ?_
        refine' AllReadyH.cons ?hika3 (fun K hK => ?hrka3) AllReadyH.nil
        case hika3 => (simp only [List.getElem?_toArray, List.getElem?_cons_succ, List.getElem?_cons_zero]; rfl)
        go_simp
        (refine (HAP.out _ _ HPD.out).mono ?_; rintro e wA ⟨rfl, hkA, htA⟩; have PA := Lib.hid (HPD.out.op HI.out HT.out hkA htA); have HA2 := Lib.hid (HAD.out.ofV htA fun _ h => h); clear hkA htA)
        refine hK.out _ _ ?_ (fun hHeld => ?_)
        · exact HA2.out.cells.2.1
        clear hK K
        (try simp only [Act.put, List.setIfInBounds_toArray, List.set_cons_zero, List.set_cons_succ])
        refine wpAnyH_ready (rs := [6]) (by kernel_rfl) (by simp) ?_
        refine' AllReadyH.cons ?hika6 (fun K hK => ?hrka6) AllReadyH.nil
        case hika6 => (simp only [List.getElem?_toArray, List.getElem?_cons_succ, List.getElem?_cons_zero]; rfl)
        go_simp
        (refine (HAX.out _ _ _ _ PA.out.vx).mono ?_; rintro e wB ⟨rfl, hxB⟩; obtain ⟨G9, la9, lb9, P9', hg9, hn9, ht9⟩ := PA.out.ofX HI.out HT.out hxB; have P9 := Lib.hid P9'; have HA3 := Lib.hid (HA2.out.ofX ht9 hg9); clear hxB P9' hg9 hn9 ht9)
        refine hK.out _ _ ?_ (fun hHeld => ?_)
        · exact HA3.out.cells.2.1
        clear hK K
        (try simp only [Act.put, List.setIfInBounds_toArray, List.set_cons_zero, List.set_cons_succ])
        refine' wpAnyH_take (i := 7) ?hika7 (by kernel_rfl) (by kernel_rfl) (by kernel_rfl) ?hqka7 (Or.inl ⟨?hwka7, ?hyka7⟩) (by assumption) ?hrka7
        case hika7 => (simp only [List.getElem?_toArray, List.getElem?_cons_succ, List.getElem?_cons_zero]; rfl)
        case hqka7 => exact fun _ _ _ h => h
        case hwka7 => rfl
        case hyka7 => (intro w0 hSw; (try dsimp only at hSw); go_simp; try with_reducible rfl)
        (try simp only [Act.put, List.setIfInBounds_toArray, List.set_cons_zero, List.set_cons_succ])
        refine' wpAnyH_take (i := 8) ?hika8 (by kernel_rfl) (by kernel_rfl) (by kernel_rfl) ?hqka8 (Or.inl ⟨?hwka8, ?hyka8⟩) (by assumption) ?hrka8
        case hika8 => (simp only [List.getElem?_toArray, List.getElem?_cons_succ, List.getElem?_cons_zero]; rfl)
        case hqka8 => exact fun _ _ _ h => h
        case hwka8 => rfl
        case hyka8 => (intro w0 hSw; (try dsimp only at hSw); go_simp; try with_reducible rfl)
        (try simp only [Act.put, List.setIfInBounds_toArray, List.set_cons_zero, List.set_cons_succ])
        refine wpAnyH_done (by kernel_rfl) ?_ _
        go_wp2_with fail
        go_meet
        exact ⟨rfl, V1, G9, _, _, P9, HBd1⟩
      by_cases h1 : kk = 1
      · have d0 : (kk == 0) = false := by simpa using h0
        have d1 : (kk == 1) = true := by simpa using h1
        clear h0 h1
        have HBd1 := Lib.hid (HBd.out.app HTL.out)
        have HAP := Lib.hid fun (K : Nat → Prop) u (h : PV T Vt_ w K X p V V la lb u) => HI.out.append K _ V t u h.vs.t h.vs.n h.vs.v HSM.out hts
        have HAX := Lib.hid fun (F : Nat → Prop) l1 l2 u (h : VX u F X V l1 l2) => vapp_ref F X V l1 l2 t u h HSZ.out.u HSZ.out.la (by have := HSZ.out.sa; omega) HSZ.out.lb (by have := HSZ.out.sb; omega) (by omega)
        obtain ⟨V1, hV1⟩ : ∃ x, x = (appV V t.data.toList).1 := ⟨_, rfl⟩
        obtain ⟨e1, he1⟩ : ∃ x, x = (appV V t.data.toList).2 := ⟨_, rfl⟩
        rw [← hV1, ← he1] at HAP HAX
        rw [← hV1] at HBd1
        clear hV1 he1
        have HPD := Lib.hid (HP3.out.next HI.out ((Below.refl _ _).drew))
        have HAD := Lib.hid (HAB.out.next ((Below.refl _ _).drew))
        go_upto_region 15 with fail
        refine wp_region_held_drew (S := (fun w' => w'.cell? ⟨A, 1, none⟩ = some (.string t))) (by kernel_rfl) ?_ (fun hHeld => ?_)
        · exact c1
        refine' wpAnyH_take (i := 0) ?hikb0 (by kernel_rfl) (by kernel_rfl) (by kernel_rfl) ?hqkb0 (Or.inl ⟨?hwkb0, ?hykb0⟩) (by assumption) ?hrkb0
        case hikb0 => (simp only [List.getElem?_toArray, List.getElem?_cons_succ, List.getElem?_cons_zero]; rfl)
        case hqkb0 => exact fun _ _ _ h => h
        case hwkb0 => rfl
        case hykb0 => (intro w0 hSw; (try dsimp only at hSw); go_simp; try with_reducible rfl)
        (try simp only [Act.put, List.setIfInBounds_toArray, List.set_cons_zero, List.set_cons_succ])
        refine' wpAnyH_take (i := 1) ?hikb1 (by kernel_rfl) (by kernel_rfl) (by kernel_rfl) ?hqkb1 (Or.inl ⟨?hwkb1, ?hykb1⟩) (by assumption) ?hrkb1
        case hikb1 => (simp only [List.getElem?_toArray, List.getElem?_cons_succ, List.getElem?_cons_zero]; rfl)
        case hqkb1 => exact fun _ _ _ h => h
        case hwkb1 => rfl
        case hykb1 => (intro w0 hSw; (try dsimp only at hSw); go_simp; try with_reducible rfl)
        (try simp only [Act.put, List.setIfInBounds_toArray, List.set_cons_zero, List.set_cons_succ])
        refine' wpAnyH_take (i := 2) ?hikb2 (by kernel_rfl) (by kernel_rfl) (by kernel_rfl) ?hqkb2 (Or.inl ⟨?hwkb2, ?hykb2⟩) (by assumption) ?hrkb2
        case hikb2 => (simp only [List.getElem?_toArray, List.getElem?_cons_succ, List.getElem?_cons_zero]; rfl)
        case hqkb2 => exact fun _ _ _ h => h
        case hwkb2 => rfl
        case hykb2 => (intro w0 hSw; (try dsimp only at hSw); go_simp; try with_reducible rfl)
        (try simp only [Act.put, List.setIfInBounds_toArray, List.set_cons_zero, List.set_cons_succ])
        refine' wpAnyH_take (i := 4) ?hikb4 (by kernel_rfl) (by kernel_rfl) (by kernel_rfl) ?hqkb4 (Or.inl ⟨?hwkb4, ?hykb4⟩) (by assumption) ?hrkb4
        case hikb4 => (simp only [List.getElem?_toArray, List.getElem?_cons_succ, List.getElem?_cons_zero]; rfl)
        case hqkb4 => exact fun _ _ _ h => h
        case hwkb4 => rfl
        case hykb4 => (intro w0 hSw; (try dsimp only at hSw); go_simp; try with_reducible rfl)
        (try simp only [Act.put, List.setIfInBounds_toArray, List.set_cons_zero, List.set_cons_succ])
        refine' wpAnyH_take (i := 5) ?hikb5 (by kernel_rfl) (by kernel_rfl) (by kernel_rfl) ?hqkb5 (Or.inl ⟨?hwkb5, ?hykb5⟩) (by assumption) ?hrkb5
        case hikb5 => (simp only [List.getElem?_toArray, List.getElem?_cons_succ, List.getElem?_cons_zero]; rfl)
        case hqkb5 => exact fun _ _ _ h => h
        case hwkb5 => rfl
        case hykb5 => (intro w0 hSw; (try dsimp only at hSw); go_simp; try with_reducible rfl)
        (try simp only [Act.put, List.setIfInBounds_toArray, List.set_cons_zero, List.set_cons_succ])
        refine wpAnyH_ready (rs := [3]) (by kernel_rfl) (by simp) ?_
        refine' AllReadyH.cons ?hikb3 (fun K hK => ?hrkb3) AllReadyH.nil
        case hikb3 => (simp only [List.getElem?_toArray, List.getElem?_cons_succ, List.getElem?_cons_zero]; rfl)
        go_simp
        (refine (HAP.out _ _ HPD.out).mono ?_; rintro e wA ⟨rfl, hkA, htA⟩; have PA := Lib.hid (HPD.out.op HI.out HT.out hkA htA); have HA2 := Lib.hid (HAD.out.ofV htA fun _ h => h); clear hkA htA)
        refine hK.out _ _ ?_ (fun hHeld => ?_)
        · exact HA2.out.cells.2.1
        clear hK K
        (try simp only [Act.put, List.setIfInBounds_toArray, List.set_cons_zero, List.set_cons_succ])
        refine wpAnyH_ready (rs := [6]) (by kernel_rfl) (by simp) ?_
        refine' AllReadyH.cons ?hikb6 (fun K hK => ?hrkb6) AllReadyH.nil
        case hikb6 => (simp only [List.getElem?_toArray, List.getElem?_cons_succ, List.getElem?_cons_zero]; rfl)
        go_simp
        (refine (HAX.out _ _ _ _ PA.out.vx).mono ?_; rintro e wB ⟨rfl, hxB⟩; obtain ⟨G9, la9, lb9, P9', hg9, hn9, ht9⟩ := PA.out.ofX HI.out HT.out hxB; have P9 := Lib.hid P9'; have HA3 := Lib.hid (HA2.out.ofX ht9 hg9); clear hxB P9' hg9 hn9 ht9)
        refine hK.out _ _ ?_ (fun hHeld => ?_)
        · exact HA3.out.cells.2.1
        clear hK K
        (try simp only [Act.put, List.setIfInBounds_toArray, List.set_cons_zero, List.set_cons_succ])
        refine' wpAnyH_take (i := 7) ?hikb7 (by kernel_rfl) (by kernel_rfl) (by kernel_rfl) ?hqkb7 (Or.inl ⟨?hwkb7, ?hykb7⟩) (by assumption) ?hrkb7
        case hikb7 => (simp only [List.getElem?_toArray, List.getElem?_cons_succ, List.getElem?_cons_zero]; rfl)
        case hqkb7 => exact fun _ _ _ h => h
        case hwkb7 => rfl
        case hykb7 => (intro w0 hSw; (try dsimp only at hSw); go_simp; try with_reducible rfl)
        (try simp only [Act.put, List.setIfInBounds_toArray, List.set_cons_zero, List.set_cons_succ])
        refine' wpAnyH_take (i := 8) ?hikb8 (by kernel_rfl) (by kernel_rfl) (by kernel_rfl) ?hqkb8 (Or.inl ⟨?hwkb8, ?hykb8⟩) (by assumption) ?hrkb8
        case hikb8 => (simp only [List.getElem?_toArray, List.getElem?_cons_succ, List.getElem?_cons_zero]; rfl)
        case hqkb8 => exact fun _ _ _ h => h
        case hwkb8 => rfl
        case hykb8 => (intro w0 hSw; (try dsimp only at hSw); go_simp; try with_reducible rfl)
        (try simp only [Act.put, List.setIfInBounds_toArray, List.set_cons_zero, List.set_cons_succ])
        refine wpAnyH_done (by kernel_rfl) ?_ _
        go_wp2_with fail
        go_meet
        exact ⟨rfl, V1, G9, _, _, P9, HBd1⟩
      have d0 : (kk == 0) = false := by simpa using h0
      have d1 : (kk == 1) = false := by simpa using h1
      clear h0 h1
      by_cases h2 : kk = 2
      · have d2 : (kk == 2) = true := by simpa using h2
        clear h2
        have HBd1 := Lib.hid (HBd.out.sync.more (Nat.le_succ i))
        have HAP := Lib.hid fun (K : Nat → Prop) u (h : PV T Vt_ w K X p V V la lb u) => HI.out.sync K _ V u h.vs.t h.vs.n h.vs.v HSM.out
        have HAX := Lib.hid fun (F : Nat → Prop) l1 l2 u (h : VX u F X V l1 l2) => vsync_ref F X V l1 l2 u h HSZ.out.w HSZ.out.u HSZ.out.la (by have := HSZ.out.sa; omega) HSZ.out.lb (by have := HSZ.out.sb; omega)
        obtain ⟨V1, hV1⟩ : ∃ x, x = (syncV V).1 := ⟨_, rfl⟩
        obtain ⟨e1, he1⟩ : ∃ x, x = (syncV V).2 := ⟨_, rfl⟩
        rw [← hV1, ← he1] at HAP HAX
        rw [← hV1] at HBd1
        clear hV1 he1
        go_wp2_with (first
          | (go_at_call 10; (with_reducible refine (HAP.out _ _ HP3.out).mono ?_); rintro e wA ⟨rfl, hkA, htA⟩; have PA := Lib.hid (HP3.out.op HI.out HT.out hkA htA); clear hkA htA)
          | (go_at_call 11; (with_reducible refine (HAX.out _ _ _ _ PA.out.vx).mono ?_); rintro e wB ⟨rfl, hxB⟩; obtain ⟨G9, la9, lb9, P9', hg9, hn9, ht9⟩ := PA.out.ofX HI.out HT.out hxB; have P9 := Lib.hid P9'; clear hxB P9' hg9 hn9 ht9))
        go_meet
        exact ⟨rfl, V1, G9, _, _, P9, HBd1⟩
      have d2 : (kk == 2) = false := by simpa using h2
      clear h2
      by_cases h3 : kk = 3
      · have d3 : (kk == 3) = true := by simpa using h3
        clear h3
        have HBd1 := Lib.hid ((HBd.out.crash (by omega) nn).more (Nat.le_succ i))
        have hMl := HBd.out.crash_len (by omega) nn
        have HAP := Lib.hid fun (K : Nat → Prop) u (h : PV T Vt_ w K X p V V la lb u) => HI.out.crash K _ V nn u h.vs.t h.vs.n h.vs.v HSM.out
        have HAX := Lib.hid fun (F : Nat → Prop) l1 l2 u (h : VX u F X V l1 l2) => vcrash_ref F X V l1 l2 nn u h HSZ.out.w HSZ.out.u HSZ.out.sa HSZ.out.sb
        obtain ⟨V1, M1, hV1⟩ : ∃ V1 M1, crashV V nn = (V1, M1) := ⟨_, _, rfl⟩
        rw [hV1] at HAP HAX HBd1 hMl
        simp only at HAP HAX HBd1 hMl
        have HTE2 := Lib.hid fun u (N K : Nat → Prop) va vb (h1 : TxA u N va M1) (h2 : TxA u K vb M1) => texts_any h1 h2 hMl
        rw [show decide (M1 = M1) = true from decide_eq_true rfl] at HTE2
        clear hV1 hMl
        have HPD := Lib.hid (HP3.out.next HI.out ((Below.refl _ _).drew))
        have HAD := Lib.hid (HAB.out.next ((Below.refl _ _).drew))
        go_upto_region 19 with fail
        refine wp_region_held_drew (S := (fun w' => w'.cell? ⟨A, 3, none⟩ = some (.int .i64 nn))) (by kernel_rfl) ?_ (fun hHeld => ?_)
        · exact c3
        refine' wpAnyH_take (i := 0) ?hikc0 (by kernel_rfl) (by kernel_rfl) (by kernel_rfl) ?hqkc0 (Or.inl ⟨?hwkc0, ?hykc0⟩) (by assumption) ?hrkc0
        case hikc0 => (simp only [List.getElem?_toArray, List.getElem?_cons_succ, List.getElem?_cons_zero]; rfl)
        case hqkc0 => exact fun _ _ _ h => h
        case hwkc0 => rfl
        case hykc0 => (intro w0 hSw; (try dsimp only at hSw); go_simp; try with_reducible rfl)
        (try simp only [Act.put, List.setIfInBounds_toArray, List.set_cons_zero, List.set_cons_succ])
        refine' wpAnyH_take (i := 1) ?hikc1 (by kernel_rfl) (by kernel_rfl) (by kernel_rfl) ?hqkc1 (Or.inl ⟨?hwkc1, ?hykc1⟩) (by assumption) ?hrkc1
        case hikc1 => (simp only [List.getElem?_toArray, List.getElem?_cons_succ, List.getElem?_cons_zero]; rfl)
        case hqkc1 => exact fun _ _ _ h => h
        case hwkc1 => rfl
        case hykc1 => (intro w0 hSw; (try dsimp only at hSw); go_simp; try with_reducible rfl)
        (try simp only [Act.put, List.setIfInBounds_toArray, List.set_cons_zero, List.set_cons_succ])
        refine' wpAnyH_take (i := 2) ?hikc2 (by kernel_rfl) (by kernel_rfl) (by kernel_rfl) ?hqkc2 (Or.inl ⟨?hwkc2, ?hykc2⟩) (by assumption) ?hrkc2
        case hikc2 => (simp only [List.getElem?_toArray, List.getElem?_cons_succ, List.getElem?_cons_zero]; rfl)
        case hqkc2 => exact fun _ _ _ h => h
        case hwkc2 => rfl
        case hykc2 => (intro w0 hSw; (try dsimp only at hSw); go_simp; try with_reducible rfl)
        (try simp only [Act.put, List.setIfInBounds_toArray, List.set_cons_zero, List.set_cons_succ])
        refine' wpAnyH_take (i := 4) ?hikc4 (by kernel_rfl) (by kernel_rfl) (by kernel_rfl) ?hqkc4 (Or.inl ⟨?hwkc4, ?hykc4⟩) (by assumption) ?hrkc4
        case hikc4 => (simp only [List.getElem?_toArray, List.getElem?_cons_succ, List.getElem?_cons_zero]; rfl)
        case hqkc4 => exact fun _ _ _ h => h
        case hwkc4 => rfl
        case hykc4 => (intro w0 hSw; (try dsimp only at hSw); go_simp; try with_reducible rfl)
        (try simp only [Act.put, List.setIfInBounds_toArray, List.set_cons_zero, List.set_cons_succ])
        refine' wpAnyH_take (i := 5) ?hikc5 (by kernel_rfl) (by kernel_rfl) (by kernel_rfl) ?hqkc5 (Or.inl ⟨?hwkc5, ?hykc5⟩) (by assumption) ?hrkc5
        case hikc5 => (simp only [List.getElem?_toArray, List.getElem?_cons_succ, List.getElem?_cons_zero]; rfl)
        case hqkc5 => exact fun _ _ _ h => h
        case hwkc5 => rfl
        case hykc5 => (intro w0 hSw; (try dsimp only at hSw); go_simp; try with_reducible rfl)
        (try simp only [Act.put, List.setIfInBounds_toArray, List.set_cons_zero, List.set_cons_succ])
        refine wpAnyH_ready (rs := [3]) (by kernel_rfl) (by simp) ?_
        refine' AllReadyH.cons ?hikc3 (fun K hK => ?hrkc3) AllReadyH.nil
        case hikc3 => (simp only [List.getElem?_toArray, List.getElem?_cons_succ, List.getElem?_cons_zero]; rfl)
        go_simp
        (refine (HAP.out _ _ HPD.out).mono ?_; rintro e wA ⟨lA, rfl, hLA⟩; obtain ⟨GA, PA', hgA, hlA, htA⟩ := HPD.out.left HI.out HT.out hLA; have PA := Lib.hid PA'; have OA := Lib.hid hlA; have HA2 := Lib.hid (HAD.out.ofV htA hgA); clear hLA PA' hgA hlA htA)
        refine hK.out _ _ ?_ (fun hHeld => ?_)
        · exact HA2.out.cells.2.2.2
        clear hK K
        (try simp only [Act.put, List.setIfInBounds_toArray, List.set_cons_zero, List.set_cons_succ])
        refine wpAnyH_ready (rs := [6]) (by kernel_rfl) (by simp) ?_
        refine' AllReadyH.cons ?hikc6 (fun K hK => ?hrkc6) AllReadyH.nil
        case hikc6 => (simp only [List.getElem?_toArray, List.getElem?_cons_succ, List.getElem?_cons_zero]; rfl)
        go_simp
        (refine (HAX.out _ _ _ _ PA.out.vx).mono ?_; rintro e wB ⟨mB, rfl, hxB, hmB⟩; obtain ⟨G9, la9, lb9, P9', hg9, hn9, ht9⟩ := PA.out.ofX HI.out HT.out hxB; have P8 := Lib.hid P9'; have OB := Lib.hid (OA.out.turn ht9 fun k hk hh => by omega); have MB := Lib.hid (OwnT.txa hmB); have HA3 := Lib.hid (HA2.out.ofX ht9 hg9); clear hxB P9' hg9 hn9 ht9 hmB)
        refine hK.out _ _ ?_ (fun hHeld => ?_)
        · exact HA3.out.cells.2.2.2
        clear hK K
        (try simp only [Act.put, List.setIfInBounds_toArray, List.set_cons_zero, List.set_cons_succ])
        refine wpAnyH_ready (rs := [7]) (by kernel_rfl) (by simp) ?_
        refine' AllReadyH.cons ?hikc7 (fun K hK => ?hrkc7) AllReadyH.nil
        case hikc7 => (simp only [List.getElem?_toArray, List.getElem?_cons_succ, List.getElem?_cons_zero]; rfl)
        go_simp
        (refine (HTE2.out _ _ _ _ _ OB.out MB.out).mono ?_; rintro e wC ⟨rfl, hbC⟩; have P9 := Lib.hid (P8.out.next HI.out hbC); have HA4 := Lib.hid (HA3.out.next hbC); clear hbC)
        refine hK.out _ _ ?_ (fun hHeld => ?_)
        · exact HA4.out.cells.2.2.2
        clear hK K
        (try simp only [Act.put, List.setIfInBounds_toArray, List.set_cons_zero, List.set_cons_succ])
        refine' wpAnyH_take (i := 8) ?hikc8 (by kernel_rfl) (by kernel_rfl) (by kernel_rfl) ?hqkc8 (Or.inl ⟨?hwkc8, ?hykc8⟩) (by assumption) ?hrkc8
        case hikc8 => (simp only [List.getElem?_toArray, List.getElem?_cons_succ, List.getElem?_cons_zero]; rfl)
        case hqkc8 => exact fun _ _ _ h => h
        case hwkc8 => rfl
        case hykc8 => (intro w0 hSw; (try dsimp only at hSw); go_simp; try with_reducible rfl)
        (try simp only [Act.put, List.setIfInBounds_toArray, List.set_cons_zero, List.set_cons_succ])
        refine wpAnyH_done (by kernel_rfl) ?_ _
        go_wp2_with fail
        go_meet
        exact ⟨rfl, V1, G9, _, _, P9, HBd1⟩
      have d3 : (kk == 3) = false := by simpa using h3
      clear h3
      by_cases h4 : kk = 4
      · have d4 : (kk == 4) = true := by simpa using h4
        clear h4
        have HBd1 := Lib.hid ((HBd.out.snap HSL.out).more (Nat.le_succ i))
        have HAP := Lib.hid fun (K : Nat → Prop) u (h : PV T Vt_ w K X p V V la lb u) => HI.out.snap K _ V _ L u h.vs.t h.vs.n h.vs.v HSM.out (HTG.out u K h.vs.below h.vs.g) HSL.out
        have HAX := Lib.hid fun (F : Nat → Prop) l1 l2 u (h : VX u F X V l1 l2) (hb : Below w.heap.size w u) => vsnap_ref F _ X V l1 l2 _ L u h HSZ.out (HLX.out.next hb) HSL.out
        obtain ⟨V1, hV1⟩ : ∃ x, x = (snapV V L).1 := ⟨_, rfl⟩
        obtain ⟨e1, he1⟩ : ∃ x, x = (snapV V L).2 := ⟨_, rfl⟩
        rw [← hV1, ← he1] at HAP HAX
        rw [← hV1] at HBd1
        clear hV1 he1
        have HPD := Lib.hid (HP3.out.next HI.out ((Below.refl _ _).drew))
        have HAD := Lib.hid (HAB.out.next ((Below.refl _ _).drew))
        go_upto_region 21 with fail
        refine wp_region_held_drew (S := (fun w' => w'.cell? ⟨A, 2, none⟩ = some (.slice av ln cv))) (by kernel_rfl) ?_ (fun hHeld => ?_)
        · exact c2
        refine' wpAnyH_take (i := 0) ?hikd0 (by kernel_rfl) (by kernel_rfl) (by kernel_rfl) ?hqkd0 (Or.inl ⟨?hwkd0, ?hykd0⟩) (by assumption) ?hrkd0
        case hikd0 => (simp only [List.getElem?_toArray, List.getElem?_cons_succ, List.getElem?_cons_zero]; rfl)
        case hqkd0 => exact fun _ _ _ h => h
        case hwkd0 => rfl
        case hykd0 => (intro w0 hSw; (try dsimp only at hSw); go_simp; try with_reducible rfl)
        (try simp only [Act.put, List.setIfInBounds_toArray, List.set_cons_zero, List.set_cons_succ])
        refine' wpAnyH_take (i := 1) ?hikd1 (by kernel_rfl) (by kernel_rfl) (by kernel_rfl) ?hqkd1 (Or.inl ⟨?hwkd1, ?hykd1⟩) (by assumption) ?hrkd1
        case hikd1 => (simp only [List.getElem?_toArray, List.getElem?_cons_succ, List.getElem?_cons_zero]; rfl)
        case hqkd1 => exact fun _ _ _ h => h
        case hwkd1 => rfl
        case hykd1 => (intro w0 hSw; (try dsimp only at hSw); go_simp; try with_reducible rfl)
        (try simp only [Act.put, List.setIfInBounds_toArray, List.set_cons_zero, List.set_cons_succ])
        refine' wpAnyH_take (i := 2) ?hikd2 (by kernel_rfl) (by kernel_rfl) (by kernel_rfl) ?hqkd2 (Or.inl ⟨?hwkd2, ?hykd2⟩) (by assumption) ?hrkd2
        case hikd2 => (simp only [List.getElem?_toArray, List.getElem?_cons_succ, List.getElem?_cons_zero]; rfl)
        case hqkd2 => exact fun _ _ _ h => h
        case hwkd2 => rfl
        case hykd2 => (intro w0 hSw; (try dsimp only at hSw); go_simp; try with_reducible rfl)
        (try simp only [Act.put, List.setIfInBounds_toArray, List.set_cons_zero, List.set_cons_succ])
        refine' wpAnyH_take (i := 4) ?hikd4 (by kernel_rfl) (by kernel_rfl) (by kernel_rfl) ?hqkd4 (Or.inl ⟨?hwkd4, ?hykd4⟩) (by assumption) ?hrkd4
        case hikd4 => (simp only [List.getElem?_toArray, List.getElem?_cons_succ, List.getElem?_cons_zero]; rfl)
        case hqkd4 => exact fun _ _ _ h => h
        case hwkd4 => rfl
        case hykd4 => (intro w0 hSw; (try dsimp only at hSw); go_simp; try with_reducible rfl)
        (try simp only [Act.put, List.setIfInBounds_toArray, List.set_cons_zero, List.set_cons_succ])
        refine' wpAnyH_take (i := 5) ?hikd5 (by kernel_rfl) (by kernel_rfl) (by kernel_rfl) ?hqkd5 (Or.inl ⟨?hwkd5, ?hykd5⟩) (by assumption) ?hrkd5
        case hikd5 => (simp only [List.getElem?_toArray, List.getElem?_cons_succ, List.getElem?_cons_zero]; rfl)
        case hqkd5 => exact fun _ _ _ h => h
        case hwkd5 => rfl
        case hykd5 => (intro w0 hSw; (try dsimp only at hSw); go_simp; try with_reducible rfl)
        (try simp only [Act.put, List.setIfInBounds_toArray, List.set_cons_zero, List.set_cons_succ])
        refine wpAnyH_ready (rs := [3]) (by kernel_rfl) (by simp) ?_
        refine' AllReadyH.cons ?hikd3 (fun K hK => ?hrkd3) AllReadyH.nil
        case hikd3 => (simp only [List.getElem?_toArray, List.getElem?_cons_succ, List.getElem?_cons_zero]; rfl)
        go_simp
        (refine (HAP.out _ _ HPD.out).mono ?_; rintro e wA ⟨rfl, hkA, htA⟩; have PA := Lib.hid (HPD.out.op HI.out HT.out hkA htA); have HA2 := Lib.hid (HAD.out.ofV htA fun _ h => h); clear hkA htA)
        refine hK.out _ _ ?_ (fun hHeld => ?_)
        · exact HA2.out.cells.2.2.1
        clear hK K
        (try simp only [Act.put, List.setIfInBounds_toArray, List.set_cons_zero, List.set_cons_succ])
        refine wpAnyH_ready (rs := [6]) (by kernel_rfl) (by simp) ?_
        refine' AllReadyH.cons ?hikd6 (fun K hK => ?hrkd6) AllReadyH.nil
        case hikd6 => (simp only [List.getElem?_toArray, List.getElem?_cons_succ, List.getElem?_cons_zero]; rfl)
        go_simp
        (refine (HAX.out _ _ _ _ PA.out.vx PA.out.vs.below).mono ?_; rintro e wB ⟨rfl, hxB⟩; obtain ⟨G9, la9, lb9, P9', hg9, hn9, ht9⟩ := PA.out.ofX HI.out HT.out hxB; have P9 := Lib.hid P9'; have HA3 := Lib.hid (HA2.out.ofX ht9 hg9); clear hxB P9' hg9 hn9 ht9)
        refine hK.out _ _ ?_ (fun hHeld => ?_)
        · exact HA3.out.cells.2.2.1
        clear hK K
        (try simp only [Act.put, List.setIfInBounds_toArray, List.set_cons_zero, List.set_cons_succ])
        refine' wpAnyH_take (i := 7) ?hikd7 (by kernel_rfl) (by kernel_rfl) (by kernel_rfl) ?hqkd7 (Or.inl ⟨?hwkd7, ?hykd7⟩) (by assumption) ?hrkd7
        case hikd7 => (simp only [List.getElem?_toArray, List.getElem?_cons_succ, List.getElem?_cons_zero]; rfl)
        case hqkd7 => exact fun _ _ _ h => h
        case hwkd7 => rfl
        case hykd7 => (intro w0 hSw; (try dsimp only at hSw); go_simp; try with_reducible rfl)
        (try simp only [Act.put, List.setIfInBounds_toArray, List.set_cons_zero, List.set_cons_succ])
        refine' wpAnyH_take (i := 8) ?hikd8 (by kernel_rfl) (by kernel_rfl) (by kernel_rfl) ?hqkd8 (Or.inl ⟨?hwkd8, ?hykd8⟩) (by assumption) ?hrkd8
        case hikd8 => (simp only [List.getElem?_toArray, List.getElem?_cons_succ, List.getElem?_cons_zero]; rfl)
        case hqkd8 => exact fun _ _ _ h => h
        case hwkd8 => rfl
        case hykd8 => (intro w0 hSw; (try dsimp only at hSw); go_simp; try with_reducible rfl)
        (try simp only [Act.put, List.setIfInBounds_toArray, List.set_cons_zero, List.set_cons_succ])
        refine wpAnyH_done (by kernel_rfl) ?_ _
        go_wp2_with fail
        go_meet
        exact ⟨rfl, V1, G9, _, _, P9, HBd1⟩
      have d4 : (kk == 4) = false := by simpa using h4
      clear h4
      have HBd1 := Lib.hid ((HBd.out.die (by omega) HSL.out nn).more (Nat.le_succ i))
      have hMl := HBd.out.die_len (by omega) HSL.out nn
      have HAP := Lib.hid fun (K : Nat → Prop) u (h : PV T Vt_ w K X p V V la lb u) => HI.out.die K _ V _ L nn u h.vs.t h.vs.n h.vs.v HSM.out (HTG.out u K h.vs.below h.vs.g) HSL.out
      have HAX := Lib.hid fun (F : Nat → Prop) l1 l2 u (h : VX u F X V l1 l2) (hb : Below w.heap.size w u) => vdie_ref F _ X V l1 l2 _ L nn u h HSZ.out (HLX.out.next hb) HSL.out
      obtain ⟨V1, M1, f1, hV1⟩ : ∃ V1 M1 f1, dieV V L nn = (V1, M1, f1) := ⟨_, _, _, rfl⟩
      rw [hV1] at HAP HAX HBd1 hMl
      simp only at HAP HAX HBd1 hMl
      have HTE2 := Lib.hid fun u (N K : Nat → Prop) va vb (h1 : TxA u N va M1) (h2 : TxA u K vb M1) => texts_any h1 h2 hMl
      rw [show decide (M1 = M1) = true from decide_eq_true rfl] at HTE2
      clear hV1 hMl
      go_wp2_with (first
        | (go_at_call 17; (with_reducible refine (HAP.out _ _ HP3.out).mono ?_); rintro e wA ⟨lA, rfl, hLA⟩; obtain ⟨GA, PA', hgA, hlA, htA⟩ := HP3.out.left HI.out HT.out hLA; have PA := Lib.hid PA'; have OA := Lib.hid hlA; have HA2 := Lib.hid (HAB.out.ofV htA hgA); obtain ⟨-, -, y2, y3⟩ := HA2.out.cells; clear hLA PA' hgA hlA htA)
        | (go_at_call 18; (with_reducible refine (HAX.out _ _ _ _ PA.out.vx PA.out.vs.below).mono ?_); rintro e wB ⟨mB, rfl, hxB, hmB⟩; obtain ⟨G9, la9, lb9, P9', hg9, hn9, ht9⟩ := PA.out.ofX HI.out HT.out hxB; have P8 := Lib.hid P9'; have OB := Lib.hid (OA.out.turn ht9 fun k hk hh => by omega); have MB := Lib.hid (OwnT.txa hmB); clear hxB P9' hg9 hn9 ht9 hmB)
        | (go_at_call 12; (with_reducible refine (HTE2.out _ _ _ _ _ OB.out MB.out).mono ?_); rintro e wC ⟨rfl, hbC⟩; have P9 := Lib.hid (P8.out.next HI.out hbC); clear hbC))
      go_meet
      exact ⟨rfl, V1, G9, _, _, P9, HBd1⟩
    case rest =>
      obtain ⟨rfl, V', G', la', lb', HP4, HBd4⟩ := hcut
      clear c0 c1 c2 c3 HP3 HAB
      go_wp2_with (go_at_call 19; (with_reducible refine (HAL.out _ _ _ _ _ _ _ HP4.out ⟨_, HBd4.out⟩).mono ?_); rintro e w6 ⟨rfl, hb6⟩; have HP6 := Lib.hid (HP4.out.next HI.out hb6); clear hb6)
      go_roundg (30 - i)
      case measure => omega
      case rel => exact ⟨i + 1, G', V', la', lb', by go_num, hin, hi2, by omega, HP6, HBd4⟩
end
end Go.Proofs.YtkbbeioednhefaaGreatDoor.vt
