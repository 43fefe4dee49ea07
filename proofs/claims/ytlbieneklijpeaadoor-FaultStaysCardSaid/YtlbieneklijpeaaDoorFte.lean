/-
  FaultTells.
-/
import Derived.Test.YtlbieneklijpeaaDoorFmd
import Derived.Test.YtlbieneklijpeaaDoorFno
import Derived.Test.YtlbieneklijpeaaDoorFnl
import Derived.Deep.RegionHeld3
namespace Go.Proofs.YtlbieneklijpeaaDoor.fault
open Go.RowKit Go.Proofs.YtlbieneklijpeaaDoor.mem Go.Proofs.YtlbieneklijpeaaDoor.sha Go.Proofs.YtlbieneklijpeaaDoor.ids Go.Proofs.YtlbieneklijpeaaDoor.rows Go.Extern.Stop Go.Stop Go.Extern

theorem made_sl (A : Nat → Stp) (ad : Option Addr) (n cap : Nat) (w : World) (hT : Steps w ad n A) (hn : n ≤ 9223372036854775807) : Calls Tryd.prog 7 #[.slice ad n cap] w fun x w' =>
    ∃ (v : Value) (a1 a2 a3 : Option Addr) (n1 z1 n2 z2 n3 z3 : Nat) (o : Option Tr) (P : Nat → Prop), x = .returned (.tuple #[v, .agg #[.slice a1 n1 z1, .slice a2 n2 z2, .slice a3 n3 z3]]) ∧ Hid (LieO w' P v o) ∧ Hid (FRd w' P (.slice a1 n1 z1) (.slice a2 n2 z2) (.slice a3 n3 z3) (fltO o)) ∧
      Hid (n1 = (fltO o).nums.length ∧ n2 = (fltO o).ops.length ∧ n3 = (fltO o).reps.length) ∧ Hid (wt o ≤ 60) ∧ Hid (∀ k, P k → w.heap.size ≤ k ∧ k < w'.heap.size) ∧ Hid (Below w.heap.size w w') :=
  (made_any A ad n cap w hT hn).mono fun x w' ⟨v, a, b, c, o, P, hx, hl, hF, hwt, hP, hb⟩ => by
    obtain ⟨a1, z1, rfl⟩ := hF.nums.form
    obtain ⟨a2, z2, rfl⟩ := hF.ops.form
    obtain ⟨rv, r1, r2, -⟩ := hF.reps
    obtain ⟨a3, z3, rfl⟩ := r1.form
    exact ⟨v, a1, a2, a3, _, z1, _, z2, _, z3, o, P, hx, Lib.hid hl, Lib.hid hF, Lib.hid ⟨by unfold ints; rw [List.length_map], by unfold texts; rw [List.length_map], r2⟩, Lib.hid hwt, Lib.hid hP, Lib.hid hb⟩

set_option maxHeartbeats 8000000 in
set_option maxRecDepth 100000 in
theorem tells_walk (A : Nat → Stp) (ad : Option Addr) (n cap : Nat) (e : Int) (w : World) (hg : Tab w) (hT : Steps w ad n A) (hn : n ≤ 9223372036854775807) :
    Calls Tryd.prog 3 #[.slice ad n cap, .int .i64 e] w fun x w' => x = .returned (.bool true) ∧ Below w.heap.size w w' := by
  have HG := Lib.hid hg
  clear hg
  go_enter Tryd.func3, Tryd.ntmps3
  go_upto_region 2 with (go_at_call 7; refine (made_sl A ad n cap _ hT hn).mono ?_; rintro x w1 ⟨v, a1, a2, a3, n1, z1, n2, z2, n3, z3, o, P, rfl, HL, HF, HN, HWT, HP, HB1⟩)
  obtain ⟨X, hX⟩ : ∃ X, X = w1.heap.size := ⟨_, rfl⟩
  obtain ⟨w2, hw2⟩ : ∃ u, u = w1.alloc (.cells #[.slice a1 n1 z1, .slice a2 n2 z2, .slice a3 n3 z3] 29) := ⟨_, rfl⟩
  refine wp_at hw2.symm ?_
  rw [← hX]
  have hb2 : Below w1.heap.size w1 w2 := by rw [hw2]; exact (Below.refl _ _).alloc (Nat.le_refl _) _
  have hXB : Blk w2 X 29 #[.slice a1 n1 z1, .slice a2 n2 z2, .slice a3 n3 z3] := by rw [hw2, hX]; exact Blk.new _ _ _
  have HXB := Lib.hid hXB
  have hB2 : Below w.heap.size w w2 := HB1.out.trans (hb2.mono HB1.out.size)
  have HB2 := Lib.hid hB2
  have hl := HL.out.next hb2
  have hF := HF.out.next hb2
  have HL2 := Lib.hid hl
  have HF2 := Lib.hid hF
  have HG2 := Lib.hid (HG.out.next hB2)
  clear hw2 hX hb2 hXB hB2
  obtain ⟨hN1, hN2, hN3⟩ := HN.out
  have hwt : wt o ≤ 60 := HWT.out
  have hsmall : (fltO o).nums.length < 1000000 ∧ (fltO o).ops.length < 1000000 ∧ (fltO o).reps.length < 1000000 := by unfold wt at hwt; omega
  have HSM := Lib.hid hsmall
  have q1 := eql_nil hl
  have q0 := guard_nil hl
  obtain ⟨bn, hbn⟩ : ∃ b, b = o.isNone := ⟨_, rfl⟩
  have hz : ((n1 : Int) == 0) = bn := by
    rw [hbn, hN1]
    cases o with
    | none => rfl
    | some t =>
      have := t.nums_ne
      exact beq_eq_false_iff_ne.2 (by have := List.length_pos_iff.2 this; show (((fltO (some t)).nums.length : Int)) ≠ 0; simp only [fltO, Option.map_some, Option.getD_some]; omega)
  rw [← hbn] at q1
  have c0 : w2.cell? ⟨X, 0, none⟩ = some (.slice a1 n1 z1) := HXB.out.cell 0
  have c1 : w2.cell? ⟨X, 1, none⟩ = some (.slice a2 n2 z2) := HXB.out.cell 1
  have c2 : w2.cell? ⟨X, 2, none⟩ = some (.slice a3 n3 z3) := HXB.out.cell 2
  have hXlt := HXB.out.lt
  have hkeep : ∀ w', Below w2.heap.size w2 w' → w'.cell? ⟨X, 0, none⟩ = some (.slice a1 n1 z1) ∧ w'.cell? ⟨X, 1, none⟩ = some (.slice a2 n2 z2) ∧ w'.cell? ⟨X, 2, none⟩ = some (.slice a3 n3 z3) := fun w' h => ⟨(h.cell (p := ⟨X, 0, none⟩) hXlt).trans c0, (h.cell (p := ⟨X, 1, none⟩) hXlt).trans c1, (h.cell (p := ⟨X, 2, none⟩) hXlt).trans c2⟩
  have hOps := hF.ops
  have hT2 : ∀ (ad3 : Option Addr) (cp3 : Nat) (w3 : World), Below w2.heap.size w2 w3 → RdC w3 (.slice ad3 n2 cp3) (texts (fltO o).ops) → Calls Tryd.prog 8 #[.slice ad3 n2 cp3, .slice a2 n2 z2] w3 fun x w' => x = .returned (.bool true) ∧ ∃ m, w' = w3.drewN m := fun ad3 cp3 w3 h3 hr => by
    rw [hN2] at hr hOps ⊢
    exact texts_any _ _ _ _ _ w3 hr (hOps.next h3)
  have hD : Below w2.heap.size w2 w2.drew := (Below.refl _ _).drew
  have kOps : Calls Tryd.prog 9 #[v] w2.drew fun x w' => ∃ ad3 cp3, x = .returned (.slice ad3 n2 cp3) ∧ Hid (RdC w' (.slice ad3 n2 cp3) (texts (fltO o).ops)) ∧ Hid (Below w2.heap.size w2 w') :=
    (fops_any o P v _ (hl.next hD) hsmall.2.1).mono fun x w' ⟨v3, hx, hO, hb⟩ => by
      have hr := (hO.rdc (by rw [texts_len]; omega)).1
      obtain ⟨ad3, cp3, rfl⟩ := hr.form
      rw [texts_len, ← hN2] at hx hr
      exact ⟨ad3, cp3, hx, Lib.hid hr, Lib.hid (hD.trans (hb.mono (Nat.le_refl _)))⟩
  have kIs : ∀ wx, Below w2.heap.size w2 wx → Calls Tryd.prog 10 #[v, .int .i64 e] wx fun x w' => x = .returned (.bool (isF (fltO o) e)) ∧ Below w2.heap.size w2 w' := fun wx h =>
    (fis_any e o P v wx (hl.next h)).mono fun x w' ⟨hx, hb⟩ => ⟨hx, h.trans (hb.mono h.size)⟩
  have kRf : ∀ wx, Below w2.heap.size w2 wx → Calls Tryd.prog 11 #[.agg #[.slice a1 n1 z1, .slice a2 n2 z2, .slice a3 n3 z3], .int .i64 e] wx fun x w' => x = .returned (.bool (isF (fltO o) e)) ∧ Below w2.heap.size w2 w' := fun wx h =>
    (ris_any (fltO o) e _ _ _ wx (hF.next h) hsmall.1).mono fun x w' ⟨hx, hb⟩ => ⟨hx, h.trans (hb.mono h.size)⟩
  obtain ⟨bi, hbi⟩ : ∃ b, b = isF (fltO o) e := ⟨_, rfl⟩
  rw [← hbi] at kIs kRf
  clear hl hF hwt hsmall hN1 hN2 hN3 hbn hbi hOps
  go_cut [38] from 10 to 79 (fun t wx => t = .bool false ∧ Below w2.heap.size w2 wx)
  case first =>
    refine wp_region_held_drew (S := (fun w' => w'.cell? ⟨X, 0, none⟩ = some (.slice a1 n1 z1) ∧ w'.cell? ⟨X, 1, none⟩ = some (.slice a2 n2 z2) ∧ w'.cell? ⟨X, 2, none⟩ = some (.slice a3 n3 z3))) (by kernel_rfl) ?_ (fun hHeld => ?_)
    · exact ⟨c0, c1, c2⟩
    refine' wpAnyH_take (i := 0) ?hir0 (by kernel_rfl) (by kernel_rfl) (by kernel_rfl) ?hqr0 (Or.inl ⟨?hwr0, ?hyr0⟩) (by assumption) ?hrr0
    case hir0 => (simp only [List.getElem?_toArray, List.getElem?_cons_succ, List.getElem?_cons_zero]; rfl)
    case hqr0 => exact fun _ _ _ h => h
    case hwr0 => rfl
    case hyr0 => (intro w0 hSw; (try dsimp only at hSw); go_simp; try with_reducible rfl)
    (try simp only [Act.put, List.setIfInBounds_toArray, List.set_cons_zero, List.set_cons_succ])
    refine' wpAnyH_take (i := 1) ?hir1 (by kernel_rfl) (by kernel_rfl) (by kernel_rfl) ?hqr1 (Or.inl ⟨?hwr1, ?hyr1⟩) (by assumption) ?hrr1
    case hir1 => (simp only [List.getElem?_toArray, List.getElem?_cons_succ, List.getElem?_cons_zero]; rfl)
    case hqr1 => exact fun _ _ _ h => h
    case hwr1 => rfl
    case hyr1 => (intro w0 hSw; (try dsimp only at hSw); go_simp; try with_reducible rfl)
    (try simp only [Act.put, List.setIfInBounds_toArray, List.set_cons_zero, List.set_cons_succ])
    refine' wpAnyH_take (i := 2) ?hir2 (by kernel_rfl) (by kernel_rfl) (by kernel_rfl) ?hqr2 (Or.inl ⟨?hwr2, ?hyr2⟩) (by assumption) ?hrr2
    case hir2 => (simp only [List.getElem?_toArray, List.getElem?_cons_succ, List.getElem?_cons_zero]; rfl)
    case hqr2 => exact fun _ _ _ h => h
    case hwr2 => rfl
    case hyr2 => (intro w0 hSw; (try dsimp only at hSw); go_simp; try with_reducible rfl)
    (try simp only [Act.put, List.setIfInBounds_toArray, List.set_cons_zero, List.set_cons_succ])
    refine' wpAnyH_take (i := 3) ?hir3 (by kernel_rfl) (by kernel_rfl) (by kernel_rfl) ?hqr3 (Or.inl ⟨?hwr3, ?hyr3⟩) (by assumption) ?hrr3
    case hir3 => (simp only [List.getElem?_toArray, List.getElem?_cons_succ, List.getElem?_cons_zero]; rfl)
    case hqr3 => exact fun _ _ _ h => h
    case hwr3 => rfl
    case hyr3 => (intro w0 hSw; (try dsimp only at hSw); go_simp; try with_reducible rfl)
    (try simp only [Act.put, List.setIfInBounds_toArray, List.set_cons_zero, List.set_cons_succ])
    refine' wpAnyH_take (i := 4) ?hir4 (by kernel_rfl) (by kernel_rfl) (by kernel_rfl) ?hqr4 (Or.inl ⟨?hwr4, ?hyr4⟩) (by assumption) ?hrr4
    case hir4 => (simp only [List.getElem?_toArray, List.getElem?_cons_succ, List.getElem?_cons_zero]; rfl)
    case hqr4 => exact fun _ _ _ h => h
    case hwr4 => rfl
    case hyr4 => (intro w0 hSw; (try dsimp only at hSw); go_simp; try with_reducible rfl)
    (try simp only [Act.put, List.setIfInBounds_toArray, List.set_cons_zero, List.set_cons_succ])
    refine' wpAnyH_take (i := 5) ?hir5 (by kernel_rfl) (by kernel_rfl) (by kernel_rfl) ?hqr5 (Or.inl ⟨?hwr5, ?hyr5⟩) (by assumption) ?hrr5
    case hir5 => (simp only [List.getElem?_toArray, List.getElem?_cons_succ, List.getElem?_cons_zero]; rfl)
    case hqr5 => exact fun _ _ _ h => h
    case hwr5 => rfl
    case hyr5 => (intro w0 hSw; (try dsimp only at hSw); go_simp; try with_reducible rfl)
    (try simp only [Act.put, List.setIfInBounds_toArray, List.set_cons_zero, List.set_cons_succ])
    refine' wpAnyH_take (i := 6) ?hir6 (by kernel_rfl) (by kernel_rfl) (by kernel_rfl) ?hqr6 (Or.inl ⟨?hwr6, ?hyr6⟩) (by assumption) ?hrr6
    case hir6 => (simp only [List.getElem?_toArray, List.getElem?_cons_succ, List.getElem?_cons_zero]; rfl)
    case hqr6 => exact fun _ _ _ h => h
    case hwr6 => rfl
    case hyr6 => (intro w0 hSw; (try dsimp only at hSw); go_simp; try with_reducible rfl)
    (try simp only [Act.put, List.setIfInBounds_toArray, List.set_cons_zero, List.set_cons_succ])
    refine' wpAnyH_take (i := 7) ?hir7 (by kernel_rfl) (by kernel_rfl) (by kernel_rfl) ?hqr7 (Or.inl ⟨?hwr7, ?hyr7⟩) (by assumption) ?hrr7
    case hir7 => (simp only [List.getElem?_toArray, List.getElem?_cons_succ, List.getElem?_cons_zero]; rfl)
    case hqr7 => exact fun _ _ _ h => h
    case hwr7 => rfl
    case hyr7 => (intro w0 hSw; (try dsimp only at hSw); go_simp; try with_reducible rfl)
    (try simp only [Act.put, List.setIfInBounds_toArray, List.set_cons_zero, List.set_cons_succ])
    refine' wpAnyH_take (i := 8) ?hir8 (by kernel_rfl) (by kernel_rfl) (by kernel_rfl) ?hqr8 (Or.inl ⟨?hwr8, ?hyr8⟩) (by assumption) ?hrr8
    case hir8 => (simp only [List.getElem?_toArray, List.getElem?_cons_succ, List.getElem?_cons_zero]; rfl)
    case hqr8 => exact fun _ _ _ h => h
    case hwr8 => rfl
    case hyr8 => (intro w0 hSw; (try dsimp only at hSw); go_simp; try with_reducible rfl)
    (try simp only [Act.put, List.setIfInBounds_toArray, List.set_cons_zero, List.set_cons_succ])
    refine' wpAnyH_take (i := 10) ?hir10 (by kernel_rfl) (by kernel_rfl) (by kernel_rfl) ?hqr10 (Or.inl ⟨?hwr10, ?hyr10⟩) (by assumption) ?hrr10
    case hir10 => (simp only [List.getElem?_toArray, List.getElem?_cons_succ, List.getElem?_cons_zero]; rfl)
    case hqr10 => exact fun _ _ _ h => h
    case hwr10 => rfl
    case hyr10 => (intro w0 hSw; (try dsimp only at hSw); go_simp; try with_reducible rfl)
    (try simp only [Act.put, List.setIfInBounds_toArray, List.set_cons_zero, List.set_cons_succ])
    refine' wpAnyH_take (i := 11) ?hir11 (by kernel_rfl) (by kernel_rfl) (by kernel_rfl) ?hqr11 (Or.inl ⟨?hwr11, ?hyr11⟩) (by assumption) ?hrr11
    case hir11 => (simp only [List.getElem?_toArray, List.getElem?_cons_succ, List.getElem?_cons_zero]; rfl)
    case hqr11 => exact fun _ _ _ h => h
    case hwr11 => rfl
    case hyr11 => (intro w0 hSw; (try dsimp only at hSw); go_simp; try with_reducible rfl)
    (try simp only [Act.put, List.setIfInBounds_toArray, List.set_cons_zero, List.set_cons_succ])
    refine wpAnyH_ready (rs := [9]) (by kernel_rfl) (by simp) ?_
    refine' AllReadyH.cons ?hir9 (fun K hK => ?hrr9) AllReadyH.nil
    case hir9 => (simp only [List.getElem?_toArray, List.getElem?_cons_succ, List.getElem?_cons_zero]; rfl)
    go_simp
    (refine kOps.mono ?_; rintro e1 w3 ⟨ad3, cp3, rfl, hR3, hb3⟩)
    refine hK.out _ _ ?_ (fun hHeld => ?_)
    · exact hkeep _ hb3.out
    clear hK K
    (try simp only [Act.put, List.setIfInBounds_toArray, List.set_cons_zero, List.set_cons_succ])
    refine wpAnyH_ready (rs := [12]) (by kernel_rfl) (by simp) ?_
    refine' AllReadyH.cons ?hir12 (fun K hK => ?hrr12) AllReadyH.nil
    case hir12 => (simp only [List.getElem?_toArray, List.getElem?_cons_succ, List.getElem?_cons_zero]; rfl)
    go_simp
    (refine (hT2 _ _ _ hb3.out hR3.out).mono ?_; rintro e1 w4 ⟨rfl, m4, rfl⟩; have hb4 := Lib.hid (below_drewN hb3.out m4))
    refine hK.out _ _ ?_ (fun hHeld => ?_)
    · exact hkeep _ hb4.out
    clear hK K
    (try simp only [Act.put, List.setIfInBounds_toArray, List.set_cons_zero, List.set_cons_succ])
    refine' wpAnyH_take (i := 13) ?hir13 (by kernel_rfl) (by kernel_rfl) (by kernel_rfl) ?hqr13 (Or.inl ⟨?hwr13, ?hyr13⟩) (by assumption) ?hrr13
    case hir13 => (simp only [List.getElem?_toArray, List.getElem?_cons_succ, List.getElem?_cons_zero]; rfl)
    case hqr13 => exact fun _ _ _ h => h
    case hwr13 => rfl
    case hyr13 => (intro w0 hSw; (try dsimp only at hSw); go_simp; try with_reducible rfl)
    (try simp only [Act.put, List.setIfInBounds_toArray, List.set_cons_zero, List.set_cons_succ])
    refine' wpAnyH_take (i := 14) ?hir14 (by kernel_rfl) (by kernel_rfl) (by kernel_rfl) ?hqr14 (Or.inl ⟨?hwr14, ?hyr14⟩) (by assumption) ?hrr14
    case hir14 => (simp only [List.getElem?_toArray, List.getElem?_cons_succ, List.getElem?_cons_zero]; rfl)
    case hqr14 => exact fun _ _ _ h => h
    case hwr14 => rfl
    case hyr14 => (intro w0 hSw; (try dsimp only at hSw); go_simp; try with_reducible rfl)
    (try simp only [Act.put, List.setIfInBounds_toArray, List.set_cons_zero, List.set_cons_succ])
    refine' wpAnyH_take (i := 15) ?hir15 (by kernel_rfl) (by kernel_rfl) (by kernel_rfl) ?hqr15 (Or.inl ⟨?hwr15, ?hyr15⟩) (by assumption) ?hrr15
    case hir15 => (simp only [List.getElem?_toArray, List.getElem?_cons_succ, List.getElem?_cons_zero]; rfl)
    case hqr15 => exact fun _ _ _ h => h
    case hwr15 => rfl
    case hyr15 => (intro w0 hSw; (try dsimp only at hSw); go_simp; try with_reducible rfl)
    (try simp only [Act.put, List.setIfInBounds_toArray, List.set_cons_zero, List.set_cons_succ])
    refine' wpAnyH_take (i := 16) ?hir16 (by kernel_rfl) (by kernel_rfl) (by kernel_rfl) ?hqr16 (Or.inl ⟨?hwr16, ?hyr16⟩) (by assumption) ?hrr16
    case hir16 => (simp only [List.getElem?_toArray, List.getElem?_cons_succ, List.getElem?_cons_zero]; rfl)
    case hqr16 => exact fun _ _ _ h => h
    case hwr16 => rfl
    case hyr16 => (intro w0 hSw; (try dsimp only at hSw); go_simp; try with_reducible rfl)
    (try simp only [Act.put, List.setIfInBounds_toArray, List.set_cons_zero, List.set_cons_succ])
    refine' wpAnyH_take (i := 17) ?hir17 (by kernel_rfl) (by kernel_rfl) (by kernel_rfl) ?hqr17 (Or.inl ⟨?hwr17, ?hyr17⟩) (by assumption) ?hrr17
    case hir17 => (simp only [List.getElem?_toArray, List.getElem?_cons_succ, List.getElem?_cons_zero]; rfl)
    case hqr17 => exact fun _ _ _ h => h
    case hwr17 => rfl
    case hyr17 => (intro w0 hSw; (try dsimp only at hSw); go_simp; try with_reducible rfl)
    (try simp only [Act.put, List.setIfInBounds_toArray, List.set_cons_zero, List.set_cons_succ])
    refine' wpAnyH_take (i := 19) ?hir19 (by kernel_rfl) (by kernel_rfl) (by kernel_rfl) ?hqr19 (Or.inl ⟨?hwr19, ?hyr19⟩) (by assumption) ?hrr19
    case hir19 => (simp only [List.getElem?_toArray, List.getElem?_cons_succ, List.getElem?_cons_zero]; rfl)
    case hqr19 => exact fun _ _ _ h => h
    case hwr19 => rfl
    case hyr19 => (intro w0 hSw; (try dsimp only at hSw); go_simp; try with_reducible rfl)
    (try simp only [Act.put, List.setIfInBounds_toArray, List.set_cons_zero, List.set_cons_succ])
    refine' wpAnyH_take (i := 20) ?hir20 (by kernel_rfl) (by kernel_rfl) (by kernel_rfl) ?hqr20 (Or.inl ⟨?hwr20, ?hyr20⟩) (by assumption) ?hrr20
    case hir20 => (simp only [List.getElem?_toArray, List.getElem?_cons_succ, List.getElem?_cons_zero]; rfl)
    case hqr20 => exact fun _ _ _ h => h
    case hwr20 => rfl
    case hyr20 => (intro w0 hSw; (try dsimp only at hSw); go_simp; try with_reducible rfl)
    (try simp only [Act.put, List.setIfInBounds_toArray, List.set_cons_zero, List.set_cons_succ])
    refine wpAnyH_ready (rs := [18]) (by kernel_rfl) (by simp) ?_
    refine' AllReadyH.cons ?hiy1 (fun K hK => ?hry1) AllReadyH.nil
    case hiy1 => (simp only [List.getElem?_toArray, List.getElem?_cons_succ, List.getElem?_cons_zero]; rfl)
    go_simp
    (refine (kIs _ hb4.out).mono ?_; rintro e1 w5 ⟨rfl, hB5⟩)
    refine hK.out _ _ ?_ (fun hHeld => ?_)
    · exact hkeep _ hB5
    clear hK K
    (try simp only [Act.put, List.setIfInBounds_toArray, List.set_cons_zero, List.set_cons_succ])
    refine wpAnyH_ready (rs := [21]) (by kernel_rfl) (by simp) ?_
    refine' AllReadyH.cons ?hiy3 (fun K hK => ?hry3) AllReadyH.nil
    case hiy3 => (simp only [List.getElem?_toArray, List.getElem?_cons_succ, List.getElem?_cons_zero]; rfl)
    go_simp
    (refine (kRf _ hB5).mono ?_; rintro e1 w6 ⟨rfl, hB6⟩)
    refine hK.out _ _ ?_ (fun hHeld => ?_)
    · exact hkeep _ hB6
    clear hK K
    (try simp only [Act.put, List.setIfInBounds_toArray, List.set_cons_zero, List.set_cons_succ])
    refine' wpAnyH_take (i := 22) ?hiy522 (by kernel_rfl) (by kernel_rfl) (by kernel_rfl) ?hqy522 (Or.inl ⟨?hwy522, ?hyy522⟩) (by assumption) ?hry522
    case hiy522 => (simp only [List.getElem?_toArray, List.getElem?_cons_succ, List.getElem?_cons_zero]; rfl)
    case hqy522 => exact fun _ _ _ h => h
    case hwy522 => rfl
    case hyy522 => (intro w0 hSw; (try dsimp only at hSw); go_simp; try with_reducible rfl)
    (try simp only [Act.put, List.setIfInBounds_toArray, List.set_cons_zero, List.set_cons_succ])
    refine' wpAnyH_take (i := 23) ?hiy523 (by kernel_rfl) (by kernel_rfl) (by kernel_rfl) ?hqy523 (Or.inl ⟨?hwy523, ?hyy523⟩) (by assumption) ?hry523
    case hiy523 => (simp only [List.getElem?_toArray, List.getElem?_cons_succ, List.getElem?_cons_zero]; rfl)
    case hqy523 => exact fun _ _ _ h => h
    case hwy523 => rfl
    case hyy523 => (intro w0 hSw; (try dsimp only at hSw); go_simp; try with_reducible rfl)
    (try simp only [Act.put, List.setIfInBounds_toArray, List.set_cons_zero, List.set_cons_succ])
    refine wpAnyH_done (by kernel_rfl) ?_ _
    go_wp2_with fail
    go_meet
    exact ⟨rfl, hB6⟩
  case rest =>
    obtain ⟨rfl, hcb⟩ := hcut
    have hF := HF2.out.next hcb
    obtain ⟨d0, d1, d2⟩ := hkeep wc hcb
    obtain ⟨hN1, hN2, hN3⟩ := HN.out
    have hsmall := HSM.out
    have HCB := Lib.hid hcb
    obtain ⟨hd, hhd⟩ : ∃ h, h = (fltO o).nums.headD 0 := ⟨_, rfl⟩
    have hcut6 : n1 = 0 ∧ hd = 0 ∨ (0 : Int) < (n1 : Int) ∧ ∃ b off, a1 = some ⟨b, off, none⟩ ∧ wc.cell? ⟨b, off, none⟩ = some (.int .i64 hd) := by
      cases hnm : (fltO o).nums with
      | nil => left; rw [hN1, hhd, hnm]; exact ⟨rfl, rfl⟩
      | cons y l =>
        right
        have hl : n1 = l.length + 1 := by rw [hN1, hnm, List.length_cons]
        refine ⟨by omega, ?_⟩
        obtain ⟨b, off, hb, _, hc⟩ := hF.nums.cell (i := 0) (by rw [ints_len, hnm]; simp)
        refine ⟨b, off, hb, ?_⟩
        rw [Nat.add_zero] at hc
        rw [hc, hhd, hnm]
        unfold ints
        rfl
    have HHD := Lib.hid hhd
    have HC6 := Lib.hid hcut6
    have HF3 := Lib.hid hF
    have HNN := Lib.hid (And.intro hN1 hN3)
    clear hcut6 hhd hF hN1 hN2 hN3 hsmall hcb hkeep hT2 hD kOps kIs kRf q0 q1 hz c0 c1 c2 hXlt
    go_upto_if 42 with fail
    go_cut [7] from 10 to 79 (fun t wx => t = .int .i64 hd ∧ wx = wc)
    case first =>
      rcases HC6.out with ⟨rfl, rfl⟩ | ⟨hp, b, off, rfl, hc⟩
      · go_wp2_with fail
        go_meet
        exact ⟨rfl, rfl⟩
      · go_wp2_with fail
        go_meet
        exact ⟨rfl, rfl⟩
    case rest =>
      obtain ⟨rfl, rfl⟩ := hcut
      have hl := HL2.out.next HCB.out
      have hgc := HG2.out.next HCB.out
      have kC := fun wx (h : Below wc.heap.size wc wx) => fcode_any o P v wx (hl.next h) (hgc.next h)
      rw [← HHD.out] at kC
      have haw := fun wx (h : Below wc.heap.size wc wx) => awake_any wx (hgc.next h)
      have hk2 : ∀ wx, Below wc.heap.size wc wx → wx.cell? ⟨X, 2, none⟩ = some (.slice a3 n3 z3) := fun wx h => (h.cell (p := ⟨X, 2, none⟩) (block_lt_of_cell d2)).trans d2
      have hhh : (hd != hd) = false := by simp
      cases hrp : (fltO o).reps with
      | nil =>
        have h3 : n3 = 0 := by rw [HNN.out.2, hrp]; rfl
        subst h3
        have kR := freport_none hl hgc hrp
        clear hl hgc hrp
        go_upto_region 8 with (go_at_call 12; refine kR.mono ?_; rintro x1 w5 ⟨rfl, hb5⟩)
        have HB5 := Lib.hid hb5
        clear kR hb5
        go_upto_if 63 with (go_at_call 13; refine (kC _ HB5.out).mono ?_; rintro x1 w6 ⟨rfl, hb6⟩; have HB6 := Lib.hid (HB5.out.trans (hb6.mono HB5.out.size)); have e2 := hk2 _ HB6.out)
        go_wp2_with (go_at_call 15; refine (haw _ HB6.out).mono ?_; rintro x1 w7 ⟨rfl, hb7⟩)
        go_ret
        exact ⟨rfl, (HB2.out.trans (HCB.out.mono HB2.out.size)).trans ((HB6.out.trans (hb7.mono HB6.out.size)).mono (Nat.le_trans HB2.out.size HCB.out.size))⟩
      | cons L M =>
        have h3 : (0 : Int) < (n3 : Int) := by have := HNN.out.2; rw [hrp, List.length_cons] at this; omega
        have h3n : 0 < n3 := by omega
        have kR := freport_some hl hgc hrp
        have hLs : L.length < 1000000 := hl.rep_small L (by rw [hrp]; exact List.mem_cons_self)
        obtain ⟨rv, r1, r2, r3⟩ := HF3.out.reps
        obtain ⟨b, off, ha3, hb3, hc3⟩ := r1.cell (i := 0) (by rw [r2, hrp]; simp)
        rw [Nat.add_zero] at hc3
        have hrL := (r3 0 (by rw [hrp]; simp)).1
        rw [hrp, List.getD_cons_zero] at hrL
        subst ha3
        obtain ⟨r0, hr0⟩ : ∃ r, r = rv.getD 0 undef := ⟨_, rfl⟩
        rw [← hr0] at hc3 hrL
        obtain ⟨ad0, cp0, rfl⟩ := hrL.form
        have HRL := Lib.hid hrL
        have hke : ∀ wx, Below wc.heap.size wc wx → wx.cell? ⟨b, off, none⟩ = some (.slice ad0 L.length cp0) := fun wx h => (h.cell (p := ⟨b, off, none⟩) hb3).trans hc3
        clear hl hgc hrp r1 r2 r3 hrL hr0
        go_upto_region 8 with (go_at_call 12; refine kR.mono ?_; rintro x1 w5 ⟨adR, cpR, rfl, hOR, hb5⟩)
        have HB5 := Lib.hid hb5
        have HOR := Lib.hid hOR
        clear kR hb5 hOR
        go_upto_if 63 with (go_at_call 13; refine (kC _ HB5.out).mono ?_; rintro x1 w6 ⟨rfl, hb6⟩; have HB6 := Lib.hid (HB5.out.trans (hb6.mono HB5.out.size)); have e2 := hk2 _ HB6.out; have HOR6 := Lib.hid (HOR.out.below hb6))
        have e3 := hke _ HB6.out
        have hrdR := HOR6.out.rdv (by omega)
        have kS := rsame_any L L _ _ _ _ _ _ _ hrdR.1 (HRL.out.next HB6.out)
        have hLL : (L == L) = true := beq_self_eq_true L
        rw [hLL] at kS
        clear hLL hrdR
        go_wp2_with (first
          | (go_at_call 14; refine kS.mono ?_; rintro x1 w8 ⟨rfl, m8, rfl⟩; have HB8 := Lib.hid (below_drewN HB6.out m8))
          | (go_at_call 15; refine (haw _ HB8.out).mono ?_; rintro x1 w7 ⟨rfl, hb7⟩))
        go_ret
        exact ⟨rfl, (HB2.out.trans (HCB.out.mono HB2.out.size)).trans ((HB8.out.trans (hb7.mono HB8.out.size)).mono (Nat.le_trans HB2.out.size HCB.out.size))⟩
end Go.Proofs.YtlbieneklijpeaaDoor.fault
