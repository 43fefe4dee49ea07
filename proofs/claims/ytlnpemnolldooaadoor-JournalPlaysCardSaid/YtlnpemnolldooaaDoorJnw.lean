/-
  The walk of JournalPlays, by what journal's functions answer.
-/
import Derived.Test.YtlnpemnolldooaaDoorBls
import Derived.Deep.CutRange
import Derived.Deep.CutBlock
import Derived.Deep.RegionHeld3
namespace Go.Proofs.YtlnpemnolldooaaDoor.jn
open Go.RowKit Go.Proofs.YtlnpemnolldooaaDoor.mem Go.Proofs.YtlnpemnolldooaaDoor.sha Go.Proofs.YtlnpemnolldooaaDoor.opn Go.Proofs.YtlnpemnolldooaaDoor.rows Go.Proofs.YtlnpemnolldooaaDoor.ids Go.Proofs.YtlnpemnolldooaaDoor.rcd

section
variable {T : World → Prop} {Bk : (Nat → Prop) → World → Value → List UInt8 → Prop} {Jn : (Nat → Prop) → World → Value → Value → Jr → Prop}
theorem PJ.cells {w0 w : World} {G : Nat → Prop} {X : Nat} {p b v : Value} {j x : Jr} (h : PJ T Jn w0 G X p b j x v w) : w.cell? ⟨X, 0, none⟩ = some (.string (oct.tx x.s)) ∧ w.cell? ⟨X, 2, none⟩ = some v ∧ w.cell? ⟨X, 3, none⟩ = some (.int .i64 (x.m : Int)) :=
  ⟨Blk.cell h.jx 0, Blk.cell h.jx 2, Blk.cell h.jx 3⟩
/-- an act in block A, none of the journals' -/
structure AB (w : World) (G : Nat → Prop) (X A : Nat) (kk rk : Int) (t : ByteArray) (nn : Int) : Prop where
  a : Blk w A 41 #[.int .i64 kk, .int .i64 rk, .string t, .int .i64 nn]
  g : ¬ G A
  x : A ≠ X
theorem AB.cells {w : World} {G : Nat → Prop} {X A : Nat} {kk rk : Int} {t : ByteArray} {nn : Int} (h : AB w G X A kk rk t nn) : w.cell? ⟨A, 0, none⟩ = some (.int .i64 kk) ∧ w.cell? ⟨A, 1, none⟩ = some (.int .i64 rk) ∧ w.cell? ⟨A, 2, none⟩ = some (.string t) ∧ w.cell? ⟨A, 3, none⟩ = some (.int .i64 nn) :=
  ⟨h.a.cell 0, h.a.cell 1, h.a.cell 2, h.a.cell 3⟩
theorem AB.ofJ {w w' : World} {G G' : Nat → Prop} {X A : Nat} {kk rk : Int} {t : ByteArray} {nn : Int} (h : AB w G X A kk rk t nn) (ht : Turn G w w') (hg : ∀ k, G' k → G k) : AB w' G' X A kk rk t nn := ⟨Blk.turn h.a ht h.g, fun hh => h.g (hg A hh), h.x⟩
theorem AB.ofX {w w' : World} {G G' : Nat → Prop} {X A : Nat} {kk rk : Int} {t : ByteArray} {nn : Int} (h : AB w G X A kk rk t nn) (ht : Turn (fun k => k = X ∨ w.heap.size ≤ k) w w') (hg : ∀ k, G' k → G k) : AB w' G' X A kk rk t nn := ⟨Blk.turn h.a ht fun hh => hh.elim h.x fun e => by have := h.a.lt; omega, fun hh => h.g (hg A hh), h.x⟩
theorem newge {w w' : World} (h : Below w.heap.size w w') : New (w.heap.size ≤ ·) w' := fun _ hk => Nat.le_trans h.size hk
theorem rcv_one {w : World} {F : Nat → Prop} {v : Value} {L : List Rc} (h : OwnR w F v L) : ∃ ad cap, v = .slice ad L.length cap := by
  obtain ⟨ad, cap, e⟩ := OwnK.form h
  rw [List.length_map] at e
  exact ⟨ad, cap, e⟩
theorem appJ_len (j : Jr) (r : Rc) (h : r.body.length ≤ 300) : (appJ j r).1.s.length ≤ j.s.length + 309 ∧ (appJ j r).1.l.length ≤ j.l.length + 1 := by
  unfold appJ
  split
  · exact ⟨by show j.s.length ≤ _; omega, by show j.l.length ≤ _; omega⟩
  · refine ⟨?_, ?_⟩
    · show (j.s ++ enR r).length ≤ _
      rw [List.length_append, enR_len]; omega
    · show (j.l ++ [r]).length ≤ _
      rw [List.length_append, List.length_singleton]; omega
set_option maxHeartbeats 8000000 in
set_option maxRecDepth 100000 in
theorem plays_walk (hI : JnIs T Bk Jn) (s0 : ByteArray) (ad : Option Addr) (n cap : Nat) (K N : Nat → Int) (R : Nat → Rc) (w : World) (hl : n ≤ 9223372036854775807) (hT : T w) (hA : JActs w ad n K N R) :
    Calls Tryd.prog 3 #[.string s0, .slice ad n cap] w fun e w' => e = .returned (.bool true) ∧ Below w.heap.size w w' := by
  have HI := Lib.hid hI
  have HT := Lib.hid hT
  clear hI hT
  by_cases hs5 : (2000 : Int) < (s0.size : Int)
  · have HA := Lib.hid (awake_any HI.out _ HT.out)
    go_enter Tryd.func3, Tryd.ntmps3
    go_wp2_with (go_at_call 6; (with_reducible refine HA.out.mono ?_); rintro e w1 ⟨rfl, hb1⟩)
    go_ret
    exact ⟨rfl, hb1⟩
  have hsl : s0.data.toList.length = s0.size := Array.length_toList
  have HO := Lib.hid fun u => open_ref s0 (by omega) u
  obtain ⟨l0, hl0⟩ : ∃ l, l = s0.data.toList := ⟨_, rfl⟩
  have hbw : [] ++ s0.data.toList = l0 := by rw [hl0]; rfl
  rw [← hl0] at HO hsl
  have HBW := Lib.hid hbw
  obtain ⟨J0, hJ0⟩ : ∃ J, J = openJ l0 := ⟨_, rfl⟩
  obtain ⟨hj1, hj2, hj3⟩ := openJ_len l0
  have hj4 := openJ_recs l0
  rw [← hJ0] at HO hj1 hj2 hj3 hj4
  have HJ0 := Lib.hid hJ0
  unfold jcells at HO
  have hJs : J0.s.length ≤ 2000 := by omega
  have hJl : J0.l.length ≤ 2000 := by omega
  have hsl2 : l0.length ≤ 2000 := by omega
  clear hl0 hbw hJ0 hj1 hj2 hj3 hj4 hsl
  go_enter Tryd.func3, Tryd.ntmps3
  go_wp2_with (first
    | (go_at_call 7; refine (HI.out.bnew _ HT.out).mono ?_; rintro e w1 ⟨b, rfl, hk1, hb1⟩; have K1 := Lib.hid hk1; have B1 := Lib.hid hb1; clear hk1 hb1)
    | (go_at_call 8; (with_reducible refine (HI.out.bwrite (w.heap.size ≤ ·) b [] s0 _ (HI.out.next HT.out B1.out) (newge B1.out) K1.out (by simp; omega)).mono ?_); rintro e w2 ⟨rfl, hk2, ht2⟩; rw [HBW.out] at hk2; have K2 := Lib.hid hk2; have B2 := Lib.hid (B1.out.trans (ht2.below fun _ h => h)); clear hk2 ht2)
    | (go_at_call 9; (with_reducible refine (HI.out.open_ (w.heap.size ≤ ·) b l0 _ (HI.out.next HT.out B2.out) (newge B2.out) K2.out (by omega)).mono ?_); rintro e w3 ⟨p, v7, G0, rfl, hj3, hn3, hg3, hO3, ht3⟩; rw [← HJ0.out] at hj3 hO3; have B3 := Lib.hid (B2.out.trans (ht3.below fun _ h => h)); have S3 := Lib.hid (show Js T Jn w G0 p b J0 w3 from ⟨HI.out.next HT.out B3.out, hn3, hj3, fun k hk => hg3 k hk, B3.out⟩); have O3 := Lib.hid hO3; clear hj3 hn3 hg3 hO3 ht3)
    | (go_at_call 10; (with_reducible refine (HO.out _).mono ?_); rintro e w4 ⟨v4, rfl, hO4, hb4⟩; obtain ⟨ad4, cap4, rfl⟩ := rcv_one hO4; have O4 := Lib.hid hO4; have B4 := Lib.hid hb4; have HX := Lib.hid (Blk.new w4 35 #[.string (oct.tx J0.s), .int .i64 (J0.k : Int), .slice ad4 J0.l.length cap4, .int .i64 (J0.m : Int)]); have S4 := Lib.hid (S3.out.aside HI.out HT.out (F := (w3.heap.size ≤ ·)) (Turn.ofBelow (hb4.alloc hb4.size (.cells #[.string (oct.tx J0.s), .int .i64 (J0.k : Int), .slice ad4 J0.l.length cap4, .int .i64 (J0.m : Int)] 35))) (fun k hk hf => by omega) (fun k hf => Nat.le_trans S3.out.below.size hf)); have HSM := Lib.hid (same_eq (OwnR.rcv (OwnK.next (OwnK.next O3.out hb4) ((Below.refl _ _).alloc (Nat.le_refl _) (.cells #[.string (oct.tx J0.s), .int .i64 (J0.k : Int), .slice ad4 J0.l.length cap4, .int .i64 (J0.m : Int)] 35)))) (OwnR.rcv (OwnK.next O4.out ((Below.refl _ _).alloc (Nat.le_refl _) (.cells #[.string (oct.tx J0.s), .int .i64 (J0.k : Int), .slice ad4 J0.l.length cap4, .int .i64 (J0.m : Int)] 35)))) (by omega)); clear hO4 hb4)
    | (go_at_call 11; (with_reducible refine HSM.out.mono ?_); rintro e w5 ⟨rfl, hb5⟩))
  obtain ⟨G1, hJs4, hG1a, hG1b⟩ := S4.out
  have hz4 := B4.out.size
  have hPJ : PJ T Jn w G1 w4.heap.size p b J0 J0 (.slice ad4 J0.l.length cap4) (w4.alloc (.cells #[.string (oct.tx J0.s), .int .i64 (J0.k : Int), .slice ad4 J0.l.length cap4, .int .i64 (J0.m : Int)] 35)) := by
    have hsz : (w4.alloc (.cells #[.string (oct.tx J0.s), .int .i64 (J0.k : Int), .slice ad4 J0.l.length cap4, .int .i64 (J0.m : Int)] 35)).heap.size = w4.heap.size + 1 := by simp
    have hz3 := S3.out.below.size
    refine ⟨hJs4, HX.out, (OwnK.next O4.out ((Below.refl _ _).alloc (Nat.le_refl _) _)).place fun k hk => ?_, fun hh => ?_, by omega⟩
    · have a := O4.out.2.2 k hk
      have c := OwnK.lt O4.out hk
      refine ⟨Nat.le_trans hz3 a, fun hh => ?_, by omega⟩
      have d := hG1b k hh
      rw [hsz] at d
      simp at a
      omega
    · have d := hG1b _ hh
      rw [hsz] at d
      omega
  have HP := Lib.hid (hPJ.next HI.out hb5)
  obtain ⟨X, hXe⟩ : ∃ X, X = w4.heap.size := ⟨_, rfl⟩
  rw [← hXe] at HP
  rw [← hXe]
  clear hPJ hb5 hXe hJs4 hG1a hG1b hz4 O3 O4 B4 HX S4 HSM S3 B3 B2 B1 K1 K2
  go_loopg [9] 41 (fun gk s9 wr => ∃ (i : Nat) (J : Jr) (G : Nat → Prop) (v : Value), s9 = .int .i64 i ∧ i ≤ n ∧ i ≤ 40 ∧ 41 - i ≤ gk ∧ J.s.length ≤ 2000 + 309 * i ∧ J.l.length ≤ 2000 + 310 * i ∧ Hid (PJ T Jn w G X p b J J v wr))
  case atStart => exact ⟨0, J0, G1, _, rfl, Nat.zero_le _, Nat.zero_le _, by omega, by omega, by omega, HP⟩
  case round =>
    obtain ⟨i, J, G, v, rfl, hi, hi40, hgk, hJsl, hJll, HP2⟩ := hrel
    clear HP
    have i0 : (0 : Int) ≤ (i : Int) := Int.natCast_nonneg _
    by_cases hlt : i < n ∧ i < 40
    · obtain ⟨hin, hi2⟩ := hlt
      obtain ⟨bb, off, rfl, hbl, a0, a1, a2, a3⟩ := hA i hin
      have hbk := HP2.out.js.below
      replace a0 := (hbk.cell (p := ⟨bb, off + i * 4, none⟩) hbl).trans a0
      replace a1 := (hbk.cell (p := ⟨bb, off + i * 4 + 1, none⟩) hbl).trans a1
      replace a2 := (hbk.cell (p := ⟨bb, off + i * 4 + 2, none⟩) hbl).trans a2
      replace a3 := (hbk.cell (p := ⟨bb, off + i * 4 + 3, none⟩) hbl).trans a3
      have i1 : (i : Int) < (n : Int) := by omega
      have i2 : (i : Int) < 40 := by omega
      obtain ⟨r, hr⟩ : ∃ r, r = R i := ⟨_, rfl⟩
      rw [← hr] at a1 a2
      obtain ⟨rk, rb⟩ := r
      simp only at a1 a2
      have htz := oct.tx_size rb
      obtain ⟨t, ht⟩ : ∃ t, t = oct.tx rb := ⟨_, rfl⟩
      rw [← ht] at a2 htz
      obtain ⟨kk, hkk⟩ : ∃ z, z = K i := ⟨_, rfl⟩
      obtain ⟨nn, hnn⟩ : ∃ z, z = N i := ⟨_, rfl⟩
      rw [← hkk] at a0
      rw [← hnn] at a3
      have hal : Below wr.heap.size wr (wr.alloc (.cells #[.int .i64 kk, .int .i64 rk, .string t, .int .i64 nn] 41)) := (Below.refl _ _).alloc (Nat.le_refl _) _
      have HAL := Lib.hid hal
      have HTT := Lib.hid ht
      have HTZ := Lib.hid htz
      clear hbk hr ht hkk hnn hal htz
      by_cases hsz : (300 : Int) < (t.size : Int)
      · go_wp2_with fail
        go_roundg (40 - i)
        case measure => omega
        case rel => exact ⟨i + 1, J, G, v, by go_num, hin, hi2, by omega, by omega, by omega, Lib.hid (HP2.out.next HI.out HAL.out)⟩
      · have hrb : rb.length ≤ 300 := by have := HTZ.out; omega
        obtain ⟨G2, hP3, hg2a, hg2b⟩ := HP2.out.beside HI.out HT.out HAL.out
        have hAB : AB (wr.alloc (.cells #[.int .i64 kk, .int .i64 rk, .string t, .int .i64 nn] 41)) G2 X wr.heap.size kk rk t nn := by
          refine ⟨Blk.new _ _ _, fun hh => ?_, fun e => ?_⟩
          · have := hg2b _ hh; simp at this; omega
          · have := Blk.lt HP2.out.jx; omega
        go_upto_block 2 with fail
        obtain ⟨wA, hwA⟩ : ∃ u, u = wr.alloc (.cells #[.int .i64 kk, .int .i64 rk, .string t, .int .i64 nn] 41) := ⟨_, rfl⟩
        obtain ⟨A, hAe⟩ : ∃ A, A = wr.heap.size := ⟨_, rfl⟩
        rw [← hwA] at hP3
        rw [← hwA, ← hAe] at hAB
        rw [← hwA, ← hAe]
        have HP3 := Lib.hid hP3
        have HAB := Lib.hid hAB
        obtain ⟨c0, c1, c2, c3⟩ := hAB.cells
        clear hwA hAe hP3 hAB hg2a hg2b a0 a1 a2 a3
        have HAPP := Lib.hid fun (G3 : Nat → Prop) u (h : PJ T Jn w G3 X p b J J v u) => HI.out.append G3 p b J ⟨rk, rb⟩ u h.js.t h.js.n h.js.j (by omega) (by exact hrb)
        have HAPX := Lib.hid fun (G3 : Nat → Prop) (J2 : Jr) u (h : PJ T Jn w G3 X p b J2 J v u) => append_ref X J v ⟨rk, rb⟩ u h.jx (OwnR.rcv h.own) (by omega) (by omega) (by show rb.length ≤ _; omega) (fun k hk => (h.own.2.2 k hk).2.2)
        simp only [recv] at HAPP HAPX
        rw [← HTT.out] at HAPP HAPX
        have hapl := appJ_len J ⟨rk, rb⟩ hrb
        have HAL2 := Lib.hid hapl
        have hwf := HI.out.wf HP3.out.js.j
        have HWF := Lib.hid hwf
        clear hapl hwf
        go_cut [11, 12] from 33 to 115 (fun s11 s12 wx => s11 = .bool true ∧ ∃ (J' : Jr) (G' : Nat → Prop) (v' : Value), J'.s.length ≤ 2000 + 309 * (i + 1) ∧ J'.l.length ≤ 2000 + 310 * (i + 1) ∧ Hid (PJ T Jn w G' X p b J' J' v' wx))
        case first =>
          by_cases h0 : kk = 0
          · have d0 : (kk == 0) = true := by simpa using h0
            have q1 : (kk == 1) = false := by rw [h0]; rfl
            clear h0
            have HPD := Lib.hid (HP3.out.next HI.out ((Below.refl _ _).drew))
            have HAD := Lib.hid (show AB wA.drew G2 X A kk rk t nn from ⟨HAB.out.a, HAB.out.g, HAB.out.x⟩)
            go_upto_region 21 with fail
            refine wp_region_held_drew (S := (fun w' => w'.cell? ⟨A, 1, none⟩ = some (.int .i64 rk) ∧ w'.cell? ⟨A, 2, none⟩ = some (.string t))) (by kernel_rfl) ?_ (fun hHeld => ?_)
            · exact ⟨c1, c2⟩
            refine' wpAnyH_take (i := 0) ?hija0 (by kernel_rfl) (by kernel_rfl) (by kernel_rfl) ?hqja0 (Or.inl ⟨?hwja0, ?hyja0⟩) (by assumption) ?hrja0
            case hija0 => (simp only [List.getElem?_toArray, List.getElem?_cons_succ, List.getElem?_cons_zero]; rfl)
            case hqja0 => exact fun _ _ _ h => h
            case hwja0 => rfl
            case hyja0 => (intro w0 hSw; (try dsimp only at hSw); go_simp; try with_reducible rfl)
            (try simp only [Act.put, List.setIfInBounds_toArray, List.set_cons_zero, List.set_cons_succ])
            refine' wpAnyH_take (i := 1) ?hija1 (by kernel_rfl) (by kernel_rfl) (by kernel_rfl) ?hqja1 (Or.inl ⟨?hwja1, ?hyja1⟩) (by assumption) ?hrja1
            case hija1 => (simp only [List.getElem?_toArray, List.getElem?_cons_succ, List.getElem?_cons_zero]; rfl)
            case hqja1 => exact fun _ _ _ h => h
            case hwja1 => rfl
            case hyja1 => (intro w0 hSw; (try dsimp only at hSw); go_simp; try with_reducible rfl)
            (try simp only [Act.put, List.setIfInBounds_toArray, List.set_cons_zero, List.set_cons_succ])
            refine' wpAnyH_take (i := 2) ?hija2 (by kernel_rfl) (by kernel_rfl) (by kernel_rfl) ?hqja2 (Or.inl ⟨?hwja2, ?hyja2⟩) (by assumption) ?hrja2
            case hija2 => (simp only [List.getElem?_toArray, List.getElem?_cons_succ, List.getElem?_cons_zero]; rfl)
            case hqja2 => exact fun _ _ _ h => h
            case hwja2 => rfl
            case hyja2 => (intro w0 hSw; (try dsimp only at hSw); go_simp; try with_reducible rfl)
            (try simp only [Act.put, List.setIfInBounds_toArray, List.set_cons_zero, List.set_cons_succ])
            refine' wpAnyH_take (i := 4) ?hija4 (by kernel_rfl) (by kernel_rfl) (by kernel_rfl) ?hqja4 (Or.inl ⟨?hwja4, ?hyja4⟩) (by assumption) ?hrja4
            case hija4 => (simp only [List.getElem?_toArray, List.getElem?_cons_succ, List.getElem?_cons_zero]; rfl)
            case hqja4 => exact fun _ _ _ h => h
            case hwja4 => rfl
            case hyja4 => (intro w0 hSw; (try dsimp only at hSw); go_simp; try with_reducible rfl)
            (try simp only [Act.put, List.setIfInBounds_toArray, List.set_cons_zero, List.set_cons_succ])
            refine' wpAnyH_take (i := 5) ?hija5 (by kernel_rfl) (by kernel_rfl) (by kernel_rfl) ?hqja5 (Or.inl ⟨?hwja5, ?hyja5⟩) (by assumption) ?hrja5
            case hija5 => (simp only [List.getElem?_toArray, List.getElem?_cons_succ, List.getElem?_cons_zero]; rfl)
            case hqja5 => exact fun _ _ _ h => h
            case hwja5 => rfl
            case hyja5 => (intro w0 hSw; (try dsimp only at hSw); go_simp; try with_reducible rfl)
            (try simp only [Act.put, List.setIfInBounds_toArray, List.set_cons_zero, List.set_cons_succ])
            refine wpAnyH_ready (rs := [3]) (by kernel_rfl) (by simp) ?_
            refine' AllReadyH.cons ?hija3 (fun K hK => ?hrja3) AllReadyH.nil
            case hija3 => (simp only [List.getElem?_toArray, List.getElem?_cons_succ, List.getElem?_cons_zero]; rfl)
            go_simp
            refine (HAPP.out G2 _ HPD.out).mono ?_; rintro e wB ⟨rfl, hjB, htB⟩; have HPB := Lib.hid (HPD.out.ofJ HI.out HT.out hjB (HPD.out.js.n.turn htB) (fun _ h => h) htB); have HBB := Lib.hid (HAD.out.ofJ htB (fun _ h => h)); obtain ⟨-, y1, y2, -⟩ := HBB.out.cells; clear hjB htB
            refine hK.out _ _ ?_ (fun hHeld => ?_)
            · exact ⟨y1, y2⟩
            clear hK K
            (try simp only [Act.put, List.setIfInBounds_toArray, List.set_cons_zero, List.set_cons_succ])
            refine wpAnyH_ready (rs := [6]) (by kernel_rfl) (by simp) ?_
            refine' AllReadyH.cons ?hija6 (fun K hK => ?hrja6) AllReadyH.nil
            case hija6 => (simp only [List.getElem?_toArray, List.getElem?_cons_succ, List.getElem?_cons_zero]; rfl)
            go_simp
            refine (HAPX.out G2 _ _ HPB.out).mono ?_; rintro e wC ⟨v9, rfl, hxC, hvC, htC⟩; obtain ⟨G9, hP9, hg9, -⟩ := HPB.out.ofX HI.out HT.out hxC hvC htC; have HP9 := Lib.hid hP9; have HB9 := Lib.hid (HBB.out.ofX htC hg9); obtain ⟨-, z1, z2, -⟩ := HB9.out.cells; clear hxC hvC htC hP9 hg9
            refine hK.out _ _ ?_ (fun hHeld => ?_)
            · exact ⟨z1, z2⟩
            clear hK K
            (try simp only [Act.put, List.setIfInBounds_toArray, List.set_cons_zero, List.set_cons_succ])
            refine' wpAnyH_take (i := 7) ?hija7 (by kernel_rfl) (by kernel_rfl) (by kernel_rfl) ?hqja7 (Or.inl ⟨?hwja7, ?hyja7⟩) (by assumption) ?hrja7
            case hija7 => (simp only [List.getElem?_toArray, List.getElem?_cons_succ, List.getElem?_cons_zero]; rfl)
            case hqja7 => exact fun _ _ _ h => h
            case hwja7 => rfl
            case hyja7 => (intro w0 hSw; (try dsimp only at hSw); go_simp; try with_reducible rfl)
            (try simp only [Act.put, List.setIfInBounds_toArray, List.set_cons_zero, List.set_cons_succ])
            refine' wpAnyH_take (i := 8) ?hija8 (by kernel_rfl) (by kernel_rfl) (by kernel_rfl) ?hqja8 (Or.inl ⟨?hwja8, ?hyja8⟩) (by assumption) ?hrja8
            case hija8 => (simp only [List.getElem?_toArray, List.getElem?_cons_succ, List.getElem?_cons_zero]; rfl)
            case hqja8 => exact fun _ _ _ h => h
            case hwja8 => rfl
            case hyja8 => (intro w0 hSw; (try dsimp only at hSw); go_simp; try with_reducible rfl)
            (try simp only [Act.put, List.setIfInBounds_toArray, List.set_cons_zero, List.set_cons_succ])
            refine wpAnyH_done (by kernel_rfl) ?_ _
            go_wp2_with fail
            go_meet
            have hb := HAL2.out
            exact ⟨rfl, _, G9, v9, by omega, by omega, HP9⟩
          by_cases h1 : kk = 1
          · have d0 : (kk == 0) = false := by simpa using h0
            have d1' : (kk == 1) = true := by simpa using h1
            clear h0 h1
            have HPD := Lib.hid (HP3.out.next HI.out ((Below.refl _ _).drew))
            have HAD := Lib.hid (show AB wA.drew G2 X A kk rk t nn from ⟨HAB.out.a, HAB.out.g, HAB.out.x⟩)
            go_upto_region 21 with fail
            refine wp_region_held_drew (S := (fun w' => w'.cell? ⟨A, 1, none⟩ = some (.int .i64 rk) ∧ w'.cell? ⟨A, 2, none⟩ = some (.string t))) (by kernel_rfl) ?_ (fun hHeld => ?_)
            · exact ⟨c1, c2⟩
            refine' wpAnyH_take (i := 0) ?hijb0 (by kernel_rfl) (by kernel_rfl) (by kernel_rfl) ?hqjb0 (Or.inl ⟨?hwjb0, ?hyjb0⟩) (by assumption) ?hrjb0
            case hijb0 => (simp only [List.getElem?_toArray, List.getElem?_cons_succ, List.getElem?_cons_zero]; rfl)
            case hqjb0 => exact fun _ _ _ h => h
            case hwjb0 => rfl
            case hyjb0 => (intro w0 hSw; (try dsimp only at hSw); go_simp; try with_reducible rfl)
            (try simp only [Act.put, List.setIfInBounds_toArray, List.set_cons_zero, List.set_cons_succ])
            refine' wpAnyH_take (i := 1) ?hijb1 (by kernel_rfl) (by kernel_rfl) (by kernel_rfl) ?hqjb1 (Or.inl ⟨?hwjb1, ?hyjb1⟩) (by assumption) ?hrjb1
            case hijb1 => (simp only [List.getElem?_toArray, List.getElem?_cons_succ, List.getElem?_cons_zero]; rfl)
            case hqjb1 => exact fun _ _ _ h => h
            case hwjb1 => rfl
            case hyjb1 => (intro w0 hSw; (try dsimp only at hSw); go_simp; try with_reducible rfl)
            (try simp only [Act.put, List.setIfInBounds_toArray, List.set_cons_zero, List.set_cons_succ])
            refine' wpAnyH_take (i := 2) ?hijb2 (by kernel_rfl) (by kernel_rfl) (by kernel_rfl) ?hqjb2 (Or.inl ⟨?hwjb2, ?hyjb2⟩) (by assumption) ?hrjb2
            case hijb2 => (simp only [List.getElem?_toArray, List.getElem?_cons_succ, List.getElem?_cons_zero]; rfl)
            case hqjb2 => exact fun _ _ _ h => h
            case hwjb2 => rfl
            case hyjb2 => (intro w0 hSw; (try dsimp only at hSw); go_simp; try with_reducible rfl)
            (try simp only [Act.put, List.setIfInBounds_toArray, List.set_cons_zero, List.set_cons_succ])
            refine' wpAnyH_take (i := 4) ?hijb4 (by kernel_rfl) (by kernel_rfl) (by kernel_rfl) ?hqjb4 (Or.inl ⟨?hwjb4, ?hyjb4⟩) (by assumption) ?hrjb4
            case hijb4 => (simp only [List.getElem?_toArray, List.getElem?_cons_succ, List.getElem?_cons_zero]; rfl)
            case hqjb4 => exact fun _ _ _ h => h
            case hwjb4 => rfl
            case hyjb4 => (intro w0 hSw; (try dsimp only at hSw); go_simp; try with_reducible rfl)
            (try simp only [Act.put, List.setIfInBounds_toArray, List.set_cons_zero, List.set_cons_succ])
            refine' wpAnyH_take (i := 5) ?hijb5 (by kernel_rfl) (by kernel_rfl) (by kernel_rfl) ?hqjb5 (Or.inl ⟨?hwjb5, ?hyjb5⟩) (by assumption) ?hrjb5
            case hijb5 => (simp only [List.getElem?_toArray, List.getElem?_cons_succ, List.getElem?_cons_zero]; rfl)
            case hqjb5 => exact fun _ _ _ h => h
            case hwjb5 => rfl
            case hyjb5 => (intro w0 hSw; (try dsimp only at hSw); go_simp; try with_reducible rfl)
            (try simp only [Act.put, List.setIfInBounds_toArray, List.set_cons_zero, List.set_cons_succ])
            refine wpAnyH_ready (rs := [3]) (by kernel_rfl) (by simp) ?_
            refine' AllReadyH.cons ?hijb3 (fun K hK => ?hrjb3) AllReadyH.nil
            case hijb3 => (simp only [List.getElem?_toArray, List.getElem?_cons_succ, List.getElem?_cons_zero]; rfl)
            go_simp
            refine (HAPP.out G2 _ HPD.out).mono ?_; rintro e wB ⟨rfl, hjB, htB⟩; have HPB := Lib.hid (HPD.out.ofJ HI.out HT.out hjB (HPD.out.js.n.turn htB) (fun _ h => h) htB); have HBB := Lib.hid (HAD.out.ofJ htB (fun _ h => h)); obtain ⟨-, y1, y2, -⟩ := HBB.out.cells; clear hjB htB
            refine hK.out _ _ ?_ (fun hHeld => ?_)
            · exact ⟨y1, y2⟩
            clear hK K
            (try simp only [Act.put, List.setIfInBounds_toArray, List.set_cons_zero, List.set_cons_succ])
            refine wpAnyH_ready (rs := [6]) (by kernel_rfl) (by simp) ?_
            refine' AllReadyH.cons ?hijb6 (fun K hK => ?hrjb6) AllReadyH.nil
            case hijb6 => (simp only [List.getElem?_toArray, List.getElem?_cons_succ, List.getElem?_cons_zero]; rfl)
            go_simp
            refine (HAPX.out G2 _ _ HPB.out).mono ?_; rintro e wC ⟨v9, rfl, hxC, hvC, htC⟩; obtain ⟨G9, hP9, hg9, -⟩ := HPB.out.ofX HI.out HT.out hxC hvC htC; have HP9 := Lib.hid hP9; have HB9 := Lib.hid (HBB.out.ofX htC hg9); obtain ⟨-, z1, z2, -⟩ := HB9.out.cells; clear hxC hvC htC hP9 hg9
            refine hK.out _ _ ?_ (fun hHeld => ?_)
            · exact ⟨z1, z2⟩
            clear hK K
            (try simp only [Act.put, List.setIfInBounds_toArray, List.set_cons_zero, List.set_cons_succ])
            refine' wpAnyH_take (i := 7) ?hijb7 (by kernel_rfl) (by kernel_rfl) (by kernel_rfl) ?hqjb7 (Or.inl ⟨?hwjb7, ?hyjb7⟩) (by assumption) ?hrjb7
            case hijb7 => (simp only [List.getElem?_toArray, List.getElem?_cons_succ, List.getElem?_cons_zero]; rfl)
            case hqjb7 => exact fun _ _ _ h => h
            case hwjb7 => rfl
            case hyjb7 => (intro w0 hSw; (try dsimp only at hSw); go_simp; try with_reducible rfl)
            (try simp only [Act.put, List.setIfInBounds_toArray, List.set_cons_zero, List.set_cons_succ])
            refine' wpAnyH_take (i := 8) ?hijb8 (by kernel_rfl) (by kernel_rfl) (by kernel_rfl) ?hqjb8 (Or.inl ⟨?hwjb8, ?hyjb8⟩) (by assumption) ?hrjb8
            case hijb8 => (simp only [List.getElem?_toArray, List.getElem?_cons_succ, List.getElem?_cons_zero]; rfl)
            case hqjb8 => exact fun _ _ _ h => h
            case hwjb8 => rfl
            case hyjb8 => (intro w0 hSw; (try dsimp only at hSw); go_simp; try with_reducible rfl)
            (try simp only [Act.put, List.setIfInBounds_toArray, List.set_cons_zero, List.set_cons_succ])
            refine wpAnyH_done (by kernel_rfl) ?_ _
            go_wp2_with fail
            go_meet
            have hb := HAL2.out
            exact ⟨rfl, _, G9, v9, by omega, by omega, HP9⟩
          have d0 : (kk == 0) = false := by simpa using h0
          have d1' : (kk == 1) = false := by simpa using h1
          clear h0 h1
          by_cases h2 : kk = 2
          · have d2' : (kk == 2) = true := by simpa using h2
            clear h2
            have HSY := Lib.hid (HI.out.sync G2 p b J wA HP3.out.js.t HP3.out.js.n HP3.out.js.j)
            go_wp2_with (first
              | (go_at_call 14; (with_reducible refine HSY.out.mono ?_); rintro e wB ⟨rfl, hjB, htB⟩; have HPB := Lib.hid (HP3.out.ofJ HI.out HT.out hjB (HP3.out.js.n.turn htB) (fun _ h => h) htB); have HXS := Lib.hid (sync_ref X J v wB HPB.out.jx (OwnR.rcv HPB.out.own) (by omega) (by omega) HWF.out.m); clear hjB htB)
              | (go_at_call 15; (with_reducible refine HXS.out.mono ?_); rintro e wC ⟨rfl, hxC, htC⟩; have HPC := Lib.hid (HPB.out.ofX HI.out HT.out (x' := (syncJ J).1) hxC (.inl ⟨rfl, rfl⟩) (htC.mono fun k hk => .inl hk)); clear hxC htC))
            go_meet
            obtain ⟨G9, hP9, -, -⟩ := HPC.out
            exact ⟨rfl, _, G9, _, by show J.s.length ≤ _; omega, by show J.l.length ≤ _; omega, Lib.hid hP9⟩
          have d2' : (kk == 2) = false := by simpa using h2
          clear h2
          have HCJ := Lib.hid (HI.out.crash G2 p b J nn wA HP3.out.js.t HP3.out.js.n HP3.out.js.j (by omega))
          have hcl := crashJ_len J nn HWF.out
          have hcr : (crashJ J nn).l.length ≤ J.s.length := by
            have h1 := openJ_recs (bk.crashB J.s J.k nn).1
            have h2 := (bk.crashB_le J.s J.k nn HWF.out.k).2
            show (openJ (bk.crashB J.s J.k nn).1).l.length ≤ _
            omega
          obtain ⟨JC, hJC⟩ : ∃ x, x = crashJ J nn := ⟨_, rfl⟩
          have HXC := Lib.hid fun (G3 : Nat → Prop) (J2 : Jr) u (h : PJ T Jn w G3 X p b J2 J v u) => crash_ref X J v nn u h.jx HWF.out.k (by omega)
          rw [← hJC] at HCJ hcl hcr HXC
          clear hJC
          go_wp2_with (first
            | (go_at_call 16; (with_reducible refine HCJ.out.mono ?_); rintro e wB ⟨v12, GB, rfl, hjB, hnB, hgB, hOB, htB⟩; obtain ⟨ad12, cap12, rfl⟩ := rcv_one hOB; have HPB := Lib.hid (HP3.out.ofJ HI.out HT.out hjB hnB hgB htB); have HBB := Lib.hid (HAB.out.ofJ htB hgB); have y3 := HBB.out.cells.2.2.2; have OB := Lib.hid hOB; clear hjB hnB hOB htB)
            | (go_at_call 17; (with_reducible refine (HXC.out _ _ _ HPB.out).mono ?_); rintro e wC ⟨v9, rfl, hxC, hvC, htC⟩; obtain ⟨ad9, cap9, rfl⟩ := rcv_one hvC; obtain ⟨G9, hP9, hg9, -⟩ := HPB.out.ofX HI.out HT.out hxC (.inr hvC) htC; have HP9 := Lib.hid hP9; have x2 := hP9.cells.2.1; have HSM := Lib.hid (same_eq (OwnR.rcv (OwnK.turn OB.out htC fun k hk hh => by have a := (OB.out.2.2 k hk).1; have c := OwnK.lt OB.out hk; have d := Blk.lt HP3.out.jx; rcases hh with e | e <;> omega)) (OwnR.rcv hvC) (by omega)); clear hxC hvC htC hP9 hg9)
            | (go_at_call 11; (with_reducible refine HSM.out.mono ?_); rintro e wD ⟨rfl, hbD⟩; have HPD := Lib.hid (HP9.out.next HI.out hbD); clear hbD))
          go_meet
          exact ⟨rfl, JC, G9, _, by omega, by omega, HPD⟩
        case rest =>
          obtain ⟨rfl, J', G', v', hJs', hJl', HP4⟩ := hcut
          clear c0 c1 c2 c3 HP3 HAB HAPP HAPX HAL2 HWF
          have HPE := Lib.hid (HP4.out.next HI.out ((Below.refl _ _).drew))
          obtain ⟨adv, capv, rfl⟩ := rcv_one HP4.out.own
          obtain ⟨x0, x2, x3⟩ := HPE.out.cells
          obtain ⟨tt, htt⟩ : ∃ z, z = oct.tx J'.s := ⟨_, rfl⟩
          have htz2 := oct.tx_size J'.s
          rw [← htt] at htz2 x0
          have HTJ := Lib.hid htt
          have HZJ := Lib.hid htz2
          clear htt htz2
          go_upto_region 24 with fail
          refine wp_region_held_drew (S := (fun w' => w'.cell? ⟨X, 0, none⟩ = some (.string tt) ∧ w'.cell? ⟨X, 2, none⟩ = some (.slice adv J'.l.length capv) ∧ w'.cell? ⟨X, 3, none⟩ = some (.int .i64 (J'.m : Int)))) (by kernel_rfl) ?_ (fun hHeld => ?_)
          · exact ⟨x0, x2, x3⟩
          refine' wpAnyH_take (i := 0) ?hijr0 (by kernel_rfl) (by kernel_rfl) (by kernel_rfl) ?hqjr0 (Or.inl ⟨?hwjr0, ?hyjr0⟩) (by assumption) ?hrjr0
          case hijr0 => (simp only [List.getElem?_toArray, List.getElem?_cons_succ, List.getElem?_cons_zero]; rfl)
          case hqjr0 => exact fun _ _ _ h => h
          case hwjr0 => rfl
          case hyjr0 => (intro w0 hSw; (try dsimp only at hSw); go_simp; try with_reducible rfl)
          (try simp only [Act.put, List.setIfInBounds_toArray, List.set_cons_zero, List.set_cons_succ])
          refine' wpAnyH_take (i := 1) ?hijr1 (by kernel_rfl) (by kernel_rfl) (by kernel_rfl) ?hqjr1 (Or.inl ⟨?hwjr1, ?hyjr1⟩) (by assumption) ?hrjr1
          case hijr1 => (simp only [List.getElem?_toArray, List.getElem?_cons_succ, List.getElem?_cons_zero]; rfl)
          case hqjr1 => exact fun _ _ _ h => h
          case hwjr1 => rfl
          case hyjr1 => (intro w0 hSw; (try dsimp only at hSw); go_simp; try with_reducible rfl)
          (try simp only [Act.put, List.setIfInBounds_toArray, List.set_cons_zero, List.set_cons_succ])
          refine' wpAnyH_take (i := 2) ?hijr2 (by kernel_rfl) (by kernel_rfl) (by kernel_rfl) ?hqjr2 (Or.inl ⟨?hwjr2, ?hyjr2⟩) (by assumption) ?hrjr2
          case hijr2 => (simp only [List.getElem?_toArray, List.getElem?_cons_succ, List.getElem?_cons_zero]; rfl)
          case hqjr2 => exact fun _ _ _ h => h
          case hwjr2 => rfl
          case hyjr2 => (intro w0 hSw; (try dsimp only at hSw); go_simp; try with_reducible rfl)
          (try simp only [Act.put, List.setIfInBounds_toArray, List.set_cons_zero, List.set_cons_succ])
          refine' wpAnyH_take (i := 3) ?hijr3 (by kernel_rfl) (by kernel_rfl) (by kernel_rfl) ?hqjr3 (Or.inl ⟨?hwjr3, ?hyjr3⟩) (by assumption) ?hrjr3
          case hijr3 => (simp only [List.getElem?_toArray, List.getElem?_cons_succ, List.getElem?_cons_zero]; rfl)
          case hqjr3 => exact fun _ _ _ h => h
          case hwjr3 => rfl
          case hyjr3 => (intro w0 hSw; (try dsimp only at hSw); go_simp; try with_reducible rfl)
          (try simp only [Act.put, List.setIfInBounds_toArray, List.set_cons_zero, List.set_cons_succ])
          refine' wpAnyH_take (i := 5) ?hijr5 (by kernel_rfl) (by kernel_rfl) (by kernel_rfl) ?hqjr5 (Or.inl ⟨?hwjr5, ?hyjr5⟩) (by assumption) ?hrjr5
          case hijr5 => (simp only [List.getElem?_toArray, List.getElem?_cons_succ, List.getElem?_cons_zero]; rfl)
          case hqjr5 => exact fun _ _ _ h => h
          case hwjr5 => rfl
          case hyjr5 => (intro w0 hSw; (try dsimp only at hSw); go_simp; try with_reducible rfl)
          (try simp only [Act.put, List.setIfInBounds_toArray, List.set_cons_zero, List.set_cons_succ])
          refine' wpAnyH_take (i := 6) ?hijr6 (by kernel_rfl) (by kernel_rfl) (by kernel_rfl) ?hqjr6 (Or.inl ⟨?hwjr6, ?hyjr6⟩) (by assumption) ?hrjr6
          case hijr6 => (simp only [List.getElem?_toArray, List.getElem?_cons_succ, List.getElem?_cons_zero]; rfl)
          case hqjr6 => exact fun _ _ _ h => h
          case hwjr6 => rfl
          case hyjr6 => (intro w0 hSw; (try dsimp only at hSw); go_simp; try with_reducible rfl)
          (try simp only [Act.put, List.setIfInBounds_toArray, List.set_cons_zero, List.set_cons_succ])
          refine' wpAnyH_take (i := 7) ?hijr7 (by kernel_rfl) (by kernel_rfl) (by kernel_rfl) ?hqjr7 (Or.inl ⟨?hwjr7, ?hyjr7⟩) (by assumption) ?hrjr7
          case hijr7 => (simp only [List.getElem?_toArray, List.getElem?_cons_succ, List.getElem?_cons_zero]; rfl)
          case hqjr7 => exact fun _ _ _ h => h
          case hwjr7 => rfl
          case hyjr7 => (intro w0 hSw; (try dsimp only at hSw); go_simp; try with_reducible rfl)
          (try simp only [Act.put, List.setIfInBounds_toArray, List.set_cons_zero, List.set_cons_succ])
          refine wpAnyH_ready (rs := [4]) (by kernel_rfl) (by simp) ?_
          refine' AllReadyH.cons ?hijr4 (fun K hK => ?hrjr4) AllReadyH.nil
          case hijr4 => (simp only [List.getElem?_toArray, List.getElem?_cons_succ, List.getElem?_cons_zero]; rfl)
          go_simp
          refine (HI.out.len _ p b J' _ HPE.out.js.t HPE.out.js.j).mono ?_; rintro e wH4 ⟨rfl, hbH4⟩; have H4 := Lib.hid (HPE.out.next HI.out hbH4); obtain ⟨y0, y2, y3⟩ := H4.out.cells; rw [← HTJ.out] at y0; clear hbH4
          refine hK.out _ _ ?_ (fun hHeld => ?_)
          · exact ⟨y0, y2, y3⟩
          clear hK K
          (try simp only [Act.put, List.setIfInBounds_toArray, List.set_cons_zero, List.set_cons_succ])
          refine' wpAnyH_take (i := 8) ?hijr8 (by kernel_rfl) (by kernel_rfl) (by kernel_rfl) ?hqjr8 (Or.inl ⟨?hwjr8, ?hyjr8⟩) (by assumption) ?hrjr8
          case hijr8 => (simp only [List.getElem?_toArray, List.getElem?_cons_succ, List.getElem?_cons_zero]; rfl)
          case hqjr8 => exact fun _ _ _ h => h
          case hwjr8 => rfl
          case hyjr8 => (intro w0 hSw; (try dsimp only at hSw); go_simp; try with_reducible rfl)
          (try simp only [Act.put, List.setIfInBounds_toArray, List.set_cons_zero, List.set_cons_succ])
          refine' wpAnyH_take (i := 9) ?hijr9 (by kernel_rfl) (by kernel_rfl) (by kernel_rfl) ?hqjr9 (Or.inl ⟨?hwjr9, ?hyjr9⟩) (by assumption) ?hrjr9
          case hijr9 => (simp only [List.getElem?_toArray, List.getElem?_cons_succ, List.getElem?_cons_zero]; rfl)
          case hqjr9 => exact fun _ _ _ h => h
          case hwjr9 => rfl
          case hyjr9 => (intro w0 hSw; (try dsimp only at hSw); go_simp; try with_reducible rfl)
          (try simp only [Act.put, List.setIfInBounds_toArray, List.set_cons_zero, List.set_cons_succ])
          refine' wpAnyH_take (i := 10) ?hijr10 (by kernel_rfl) (by kernel_rfl) (by kernel_rfl) ?hqjr10 (Or.inl ⟨?hwjr10, ?hyjr10⟩) (by assumption) ?hrjr10
          case hijr10 => (simp only [List.getElem?_toArray, List.getElem?_cons_succ, List.getElem?_cons_zero]; rfl)
          case hqjr10 => exact fun _ _ _ h => h
          case hwjr10 => rfl
          case hyjr10 => (intro w0 hSw; (try dsimp only at hSw); go_simp; try with_reducible rfl)
          (try simp only [Act.put, List.setIfInBounds_toArray, List.set_cons_zero, List.set_cons_succ])
          refine' wpAnyH_take (i := 11) ?hijr11 (by kernel_rfl) (by kernel_rfl) (by kernel_rfl) ?hqjr11 (Or.inl ⟨?hwjr11, ?hyjr11⟩) (by assumption) ?hrjr11
          case hijr11 => (simp only [List.getElem?_toArray, List.getElem?_cons_succ, List.getElem?_cons_zero]; rfl)
          case hqjr11 => exact fun _ _ _ h => h
          case hwjr11 => rfl
          case hyjr11 => (intro w0 hSw; (try dsimp only at hSw); go_simp; try with_reducible rfl)
          (try simp only [Act.put, List.setIfInBounds_toArray, List.set_cons_zero, List.set_cons_succ])
          refine' wpAnyH_take (i := 13) ?hijr13 (by kernel_rfl) (by kernel_rfl) (by kernel_rfl) ?hqjr13 (Or.inl ⟨?hwjr13, ?hyjr13⟩) (by assumption) ?hrjr13
          case hijr13 => (simp only [List.getElem?_toArray, List.getElem?_cons_succ, List.getElem?_cons_zero]; rfl)
          case hqjr13 => exact fun _ _ _ h => h
          case hwjr13 => rfl
          case hyjr13 => (intro w0 hSw; (try dsimp only at hSw); go_simp; try with_reducible rfl)
          (try simp only [Act.put, List.setIfInBounds_toArray, List.set_cons_zero, List.set_cons_succ])
          refine' wpAnyH_take (i := 14) ?hijr14 (by kernel_rfl) (by kernel_rfl) (by kernel_rfl) ?hqjr14 (Or.inl ⟨?hwjr14, ?hyjr14⟩) (by assumption) ?hrjr14
          case hijr14 => (simp only [List.getElem?_toArray, List.getElem?_cons_succ, List.getElem?_cons_zero]; rfl)
          case hqjr14 => exact fun _ _ _ h => h
          case hwjr14 => rfl
          case hyjr14 => (intro w0 hSw; (try dsimp only at hSw); go_simp; try with_reducible rfl)
          (try simp only [Act.put, List.setIfInBounds_toArray, List.set_cons_zero, List.set_cons_succ])
          refine wpAnyH_ready (rs := [12]) (by kernel_rfl) (by simp) ?_
          refine' AllReadyH.cons ?hijr12 (fun K hK => ?hrjr12) AllReadyH.nil
          case hijr12 => (simp only [List.getElem?_toArray, List.getElem?_cons_succ, List.getElem?_cons_zero]; rfl)
          go_simp
          refine (HI.out.safe _ p b J' _ H4.out.js.t H4.out.js.j).mono ?_; rintro e wH5 ⟨rfl, hbH5⟩; have H5 := Lib.hid (H4.out.next HI.out hbH5); obtain ⟨y0, y2, y3⟩ := H5.out.cells; rw [← HTJ.out] at y0; clear hbH5
          refine hK.out _ _ ?_ (fun hHeld => ?_)
          · exact ⟨y0, y2, y3⟩
          clear hK K
          (try simp only [Act.put, List.setIfInBounds_toArray, List.set_cons_zero, List.set_cons_succ])
          refine' wpAnyH_take (i := 15) ?hijr15 (by kernel_rfl) (by kernel_rfl) (by kernel_rfl) ?hqjr15 (Or.inl ⟨?hwjr15, ?hyjr15⟩) (by assumption) ?hrjr15
          case hijr15 => (simp only [List.getElem?_toArray, List.getElem?_cons_succ, List.getElem?_cons_zero]; rfl)
          case hqjr15 => exact fun _ _ _ h => h
          case hwjr15 => rfl
          case hyjr15 => (intro w0 hSw; (try dsimp only at hSw); go_simp; try with_reducible rfl)
          (try simp only [Act.put, List.setIfInBounds_toArray, List.set_cons_zero, List.set_cons_succ])
          refine' wpAnyH_take (i := 16) ?hijr16 (by kernel_rfl) (by kernel_rfl) (by kernel_rfl) ?hqjr16 (Or.inl ⟨?hwjr16, ?hyjr16⟩) (by assumption) ?hrjr16
          case hijr16 => (simp only [List.getElem?_toArray, List.getElem?_cons_succ, List.getElem?_cons_zero]; rfl)
          case hqjr16 => exact fun _ _ _ h => h
          case hwjr16 => rfl
          case hyjr16 => (intro w0 hSw; (try dsimp only at hSw); go_simp; try with_reducible rfl)
          (try simp only [Act.put, List.setIfInBounds_toArray, List.set_cons_zero, List.set_cons_succ])
          refine' wpAnyH_take (i := 17) ?hijr17 (by kernel_rfl) (by kernel_rfl) (by kernel_rfl) ?hqjr17 (Or.inl ⟨?hwjr17, ?hyjr17⟩) (by assumption) ?hrjr17
          case hijr17 => (simp only [List.getElem?_toArray, List.getElem?_cons_succ, List.getElem?_cons_zero]; rfl)
          case hqjr17 => exact fun _ _ _ h => h
          case hwjr17 => rfl
          case hyjr17 => (intro w0 hSw; (try dsimp only at hSw); go_simp; try with_reducible rfl)
          (try simp only [Act.put, List.setIfInBounds_toArray, List.set_cons_zero, List.set_cons_succ])
          refine' wpAnyH_take (i := 18) ?hijr18 (by kernel_rfl) (by kernel_rfl) (by kernel_rfl) ?hqjr18 (Or.inl ⟨?hwjr18, ?hyjr18⟩) (by assumption) ?hrjr18
          case hijr18 => (simp only [List.getElem?_toArray, List.getElem?_cons_succ, List.getElem?_cons_zero]; rfl)
          case hqjr18 => exact fun _ _ _ h => h
          case hwjr18 => rfl
          case hyjr18 => (intro w0 hSw; (try dsimp only at hSw); go_simp; try with_reducible rfl)
          (try simp only [Act.put, List.setIfInBounds_toArray, List.set_cons_zero, List.set_cons_succ])
          refine' wpAnyH_take (i := 20) ?hijr20 (by kernel_rfl) (by kernel_rfl) (by kernel_rfl) ?hqjr20 (Or.inl ⟨?hwjr20, ?hyjr20⟩) (by assumption) ?hrjr20
          case hijr20 => (simp only [List.getElem?_toArray, List.getElem?_cons_succ, List.getElem?_cons_zero]; rfl)
          case hqjr20 => exact fun _ _ _ h => h
          case hwjr20 => rfl
          case hyjr20 => (intro w0 hSw; (try dsimp only at hSw); go_simp; try with_reducible rfl)
          (try simp only [Act.put, List.setIfInBounds_toArray, List.set_cons_zero, List.set_cons_succ])
          refine' wpAnyH_take (i := 21) ?hijr21 (by kernel_rfl) (by kernel_rfl) (by kernel_rfl) ?hqjr21 (Or.inl ⟨?hwjr21, ?hyjr21⟩) (by assumption) ?hrjr21
          case hijr21 => (simp only [List.getElem?_toArray, List.getElem?_cons_succ, List.getElem?_cons_zero]; rfl)
          case hqjr21 => exact fun _ _ _ h => h
          case hwjr21 => rfl
          case hyjr21 => (intro w0 hSw; (try dsimp only at hSw); go_simp; try with_reducible rfl)
          (try simp only [Act.put, List.setIfInBounds_toArray, List.set_cons_zero, List.set_cons_succ])
          refine' wpAnyH_take (i := 22) ?hijr22 (by kernel_rfl) (by kernel_rfl) (by kernel_rfl) ?hqjr22 (Or.inl ⟨?hwjr22, ?hyjr22⟩) (by assumption) ?hrjr22
          case hijr22 => (simp only [List.getElem?_toArray, List.getElem?_cons_succ, List.getElem?_cons_zero]; rfl)
          case hqjr22 => exact fun _ _ _ h => h
          case hwjr22 => rfl
          case hyjr22 => (intro w0 hSw; (try dsimp only at hSw); go_simp; try with_reducible rfl)
          (try simp only [Act.put, List.setIfInBounds_toArray, List.set_cons_zero, List.set_cons_succ])
          refine' wpAnyH_take (i := 23) ?hijr23 (by kernel_rfl) (by kernel_rfl) (by kernel_rfl) ?hqjr23 (Or.inl ⟨?hwjr23, ?hyjr23⟩) (by assumption) ?hrjr23
          case hijr23 => (simp only [List.getElem?_toArray, List.getElem?_cons_succ, List.getElem?_cons_zero]; rfl)
          case hqjr23 => exact fun _ _ _ h => h
          case hwjr23 => rfl
          case hyjr23 => (intro w0 hSw; (try dsimp only at hSw); go_simp; try with_reducible rfl)
          (try simp only [Act.put, List.setIfInBounds_toArray, List.set_cons_zero, List.set_cons_succ])
          refine wpAnyH_ready (rs := [19]) (by kernel_rfl) (by simp) ?_
          refine' AllReadyH.cons ?hijr19 (fun K hK => ?hrjr19) AllReadyH.nil
          case hijr19 => (simp only [List.getElem?_toArray, List.getElem?_cons_succ, List.getElem?_cons_zero]; rfl)
          go_simp
          refine (HI.out.size _ p b J' _ H5.out.js.t H5.out.js.j).mono ?_; rw [← HZJ.out]; rintro e wH6 ⟨rfl, hbH6⟩; have H6 := Lib.hid (H5.out.next HI.out hbH6); obtain ⟨y0, y2, y3⟩ := H6.out.cells; rw [← HTJ.out] at y0; clear hbH6
          refine hK.out _ _ ?_ (fun hHeld => ?_)
          · exact ⟨y0, y2, y3⟩
          clear hK K
          (try simp only [Act.put, List.setIfInBounds_toArray, List.set_cons_zero, List.set_cons_succ])
          refine' wpAnyH_take (i := 24) ?hijr24 (by kernel_rfl) (by kernel_rfl) (by kernel_rfl) ?hqjr24 (Or.inl ⟨?hwjr24, ?hyjr24⟩) (by assumption) ?hrjr24
          case hijr24 => (simp only [List.getElem?_toArray, List.getElem?_cons_succ, List.getElem?_cons_zero]; rfl)
          case hqjr24 => exact fun _ _ _ h => h
          case hwjr24 => rfl
          case hyjr24 => (intro w0 hSw; (try dsimp only at hSw); go_simp; try with_reducible rfl)
          (try simp only [Act.put, List.setIfInBounds_toArray, List.set_cons_zero, List.set_cons_succ])
          refine' wpAnyH_take (i := 25) ?hijr25 (by kernel_rfl) (by kernel_rfl) (by kernel_rfl) ?hqjr25 (Or.inl ⟨?hwjr25, ?hyjr25⟩) (by assumption) ?hrjr25
          case hijr25 => (simp only [List.getElem?_toArray, List.getElem?_cons_succ, List.getElem?_cons_zero]; rfl)
          case hqjr25 => exact fun _ _ _ h => h
          case hwjr25 => rfl
          case hyjr25 => (intro w0 hSw; (try dsimp only at hSw); go_simp; try with_reducible rfl)
          (try simp only [Act.put, List.setIfInBounds_toArray, List.set_cons_zero, List.set_cons_succ])
          refine' wpAnyH_take (i := 26) ?hijr26 (by kernel_rfl) (by kernel_rfl) (by kernel_rfl) ?hqjr26 (Or.inl ⟨?hwjr26, ?hyjr26⟩) (by assumption) ?hrjr26
          case hijr26 => (simp only [List.getElem?_toArray, List.getElem?_cons_succ, List.getElem?_cons_zero]; rfl)
          case hqjr26 => exact fun _ _ _ h => h
          case hwjr26 => rfl
          case hyjr26 => (intro w0 hSw; (try dsimp only at hSw); go_simp; try with_reducible rfl)
          (try simp only [Act.put, List.setIfInBounds_toArray, List.set_cons_zero, List.set_cons_succ])
          refine' wpAnyH_take (i := 27) ?hijr27 (by kernel_rfl) (by kernel_rfl) (by kernel_rfl) ?hqjr27 (Or.inl ⟨?hwjr27, ?hyjr27⟩) (by assumption) ?hrjr27
          case hijr27 => (simp only [List.getElem?_toArray, List.getElem?_cons_succ, List.getElem?_cons_zero]; rfl)
          case hqjr27 => exact fun _ _ _ h => h
          case hwjr27 => rfl
          case hyjr27 => (intro w0 hSw; (try dsimp only at hSw); go_simp; try with_reducible rfl)
          (try simp only [Act.put, List.setIfInBounds_toArray, List.set_cons_zero, List.set_cons_succ])
          refine' wpAnyH_take (i := 29) ?hijr29 (by kernel_rfl) (by kernel_rfl) (by kernel_rfl) ?hqjr29 (Or.inl ⟨?hwjr29, ?hyjr29⟩) (by assumption) ?hrjr29
          case hijr29 => (simp only [List.getElem?_toArray, List.getElem?_cons_succ, List.getElem?_cons_zero]; rfl)
          case hqjr29 => exact fun _ _ _ h => h
          case hwjr29 => rfl
          case hyjr29 => (intro w0 hSw; (try dsimp only at hSw); go_simp; try with_reducible rfl)
          (try simp only [Act.put, List.setIfInBounds_toArray, List.set_cons_zero, List.set_cons_succ])
          refine' wpAnyH_take (i := 30) ?hijr30 (by kernel_rfl) (by kernel_rfl) (by kernel_rfl) ?hqjr30 (Or.inl ⟨?hwjr30, ?hyjr30⟩) (by assumption) ?hrjr30
          case hijr30 => (simp only [List.getElem?_toArray, List.getElem?_cons_succ, List.getElem?_cons_zero]; rfl)
          case hqjr30 => exact fun _ _ _ h => h
          case hwjr30 => rfl
          case hyjr30 => (intro w0 hSw; (try dsimp only at hSw); go_simp; try with_reducible rfl)
          (try simp only [Act.put, List.setIfInBounds_toArray, List.set_cons_zero, List.set_cons_succ])
          refine' wpAnyH_take (i := 31) ?hijr31 (by kernel_rfl) (by kernel_rfl) (by kernel_rfl) ?hqjr31 (Or.inl ⟨?hwjr31, ?hyjr31⟩) (by assumption) ?hrjr31
          case hijr31 => (simp only [List.getElem?_toArray, List.getElem?_cons_succ, List.getElem?_cons_zero]; rfl)
          case hqjr31 => exact fun _ _ _ h => h
          case hwjr31 => rfl
          case hyjr31 => (intro w0 hSw; (try dsimp only at hSw); go_simp; try with_reducible rfl)
          (try simp only [Act.put, List.setIfInBounds_toArray, List.set_cons_zero, List.set_cons_succ])
          refine wpAnyH_ready (rs := [28]) (by kernel_rfl) (by simp) ?_
          refine' AllReadyH.cons ?hijr28 (fun K hK => ?hrjr28) AllReadyH.nil
          case hijr28 => (simp only [List.getElem?_toArray, List.getElem?_cons_succ, List.getElem?_cons_zero]; rfl)
          go_simp
          refine (HI.out.data _ p b J' _ H6.out.js.t H6.out.js.j).mono ?_; rw [← HTJ.out]; rintro e wH7 ⟨rfl, hbH7⟩; have H7 := Lib.hid (H6.out.next HI.out hbH7); obtain ⟨y0, y2, y3⟩ := H7.out.cells; rw [← HTJ.out] at y0; clear hbH7
          refine hK.out _ _ ?_ (fun hHeld => ?_)
          · exact ⟨y0, y2, y3⟩
          clear hK K
          (try simp only [Act.put, List.setIfInBounds_toArray, List.set_cons_zero, List.set_cons_succ])
          refine' wpAnyH_take (i := 32) ?hijr32 (by kernel_rfl) (by kernel_rfl) (by kernel_rfl) ?hqjr32 (Or.inl ⟨?hwjr32, ?hyjr32⟩) (by assumption) ?hrjr32
          case hijr32 => (simp only [List.getElem?_toArray, List.getElem?_cons_succ, List.getElem?_cons_zero]; rfl)
          case hqjr32 => exact fun _ _ _ h => h
          case hwjr32 => rfl
          case hyjr32 => (intro w0 hSw; (try dsimp only at hSw); go_simp; try with_reducible rfl)
          (try simp only [Act.put, List.setIfInBounds_toArray, List.set_cons_zero, List.set_cons_succ])
          refine' wpAnyH_take (i := 33) ?hijr33 (by kernel_rfl) (by kernel_rfl) (by kernel_rfl) ?hqjr33 (Or.inl ⟨?hwjr33, ?hyjr33⟩) (by assumption) ?hrjr33
          case hijr33 => (simp only [List.getElem?_toArray, List.getElem?_cons_succ, List.getElem?_cons_zero]; rfl)
          case hqjr33 => exact fun _ _ _ h => h
          case hwjr33 => rfl
          case hyjr33 => (intro w0 hSw; (try dsimp only at hSw); go_simp; try with_reducible rfl)
          (try simp only [Act.put, List.setIfInBounds_toArray, List.set_cons_zero, List.set_cons_succ])
          refine wpAnyH_done (by kernel_rfl) ?_ _
          go_wp2_with fail
          go_roundg (40 - i)
          case measure => omega
          case rel => exact ⟨i + 1, J', G', _, by go_num, hin, hi2, by omega, hJs', hJl', H7⟩
    · by_cases hin : (i : Int) < (n : Int)
      · have hi6 : ¬ (i : Int) < 40 := by omega
        go_wp2_with (go_at_call 6; (with_reducible refine (awake_any HI.out _ HP2.out.js.t).mono ?_); rintro e w6 ⟨rfl, hb6⟩)
        go_ret
        exact ⟨rfl, HP2.out.js.below.trans (hb6.mono HP2.out.js.below.size)⟩
      · skip
        go_wp2_with (go_at_call 6; (with_reducible refine (awake_any HI.out _ HP2.out.js.t).mono ?_); rintro e w6 ⟨rfl, hb6⟩)
        go_ret
        exact ⟨rfl, HP2.out.js.below.trans (hb6.mono HP2.out.js.below.size)⟩
end
end Go.Proofs.YtlnpemnolldooaaDoor.jn
