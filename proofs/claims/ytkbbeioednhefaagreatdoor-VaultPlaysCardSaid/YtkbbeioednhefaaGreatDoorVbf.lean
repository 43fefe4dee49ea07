/-
  The landed vault: lay: a snapshot in the place of the other file, what goes wrong recovered.
  The landed vault: loaded again from what its files have; what a snapshot leaves, plainly.
-/
import Derived.Test.YtkbbeioednhefaaGreatDoorVbe
import Derived.Test.YtkbbeioednhefaaGreatDoorVbm
import Derived.Recover
namespace Go.Proofs.YtkbbeioednhefaaGreatDoor.vt
open Go.RowKit Go.Proofs.YtkbbeioednhefaaGreatDoor.mem Go.Proofs.YtkbbeioednhefaaGreatDoor.sha Go.Proofs.YtkbbeioednhefaaGreatDoor.strx Go.Proofs.YtkbbeioednhefaaGreatDoor.rows Go.Proofs.YtkbbeioednhefaaGreatDoor.ids Go.Proofs.YtkbbeioednhefaaGreatDoor.rcd Go.Proofs.YtkbbeioednhefaaGreatDoor.jn Go.Proofs.YtkbbeioednhefaaGreatDoor.txl

/-- a statement that can't panic, ahead of what is deferred -/
theorem wp_only {P : Program} {c : Code} {K : Act → World → Prop} {Q : Exit → Act → World → Prop} {a : Act} {w : World} (h : c.wp P (Exit.then K fun _ _ _ => False) a w) : c.wp P (Exit.then K Q) a w :=
  Go.wp_mono h fun e a w hq => by
    cases e <;> first | exact hq | exact hq.elim
theorem catch_panicking (p : Addr) (x y : Int) (older : List PanicEntry) (w : World) (hc : w.cell? p = some (.int .i64 x)) (hz : w.frozen? p = false) :
    CallsD Tryz.prog 63 #[.pointer (some p)] (.panicking ({ v := .iface 37 (.int .i64 y), recovered := false } :: older)) w fun e u' w' =>
      e = .returned (.tuple #[]) ∧ u' = .panicking ({ v := .iface 37 (.int .i64 y), recovered := true } :: older) ∧ w' = w.setCell p (.int .i64 y) := by
  have hta : ∀ (v : Value) (xT : TypeId) (w : World), (Instr.typeAssert (.iface 37 v) xT 37 false).run Tryz.prog w = .ok v w := fun _ _ _ => by kernel_rfl
  refine callsD_of_wpS Tryz.func63 rfl fun c₀ cs hu => ?_
  apply wpS_seq
  apply wpS_region
  simp [wpOpsS, go_sem, recoverD, hu, Tryz.ntmps63, Exit.thenS]
  apply wpS_seq
  apply wpS_region
  simp [wpOpsS, go_sem, recoverD, hu, Exit.thenS]
  refine wpS_cond (t := true) (by simp [Act.eval, Array.replicate]) ?_
  simp only [if_true]
  apply wpS_region
  simp [wpOpsS, go_sem, hc, hz, hta, bodyPostS, results, Tryz.results63]
theorem catch_idle (p : Addr) (w : World) :
    CallsD Tryz.prog 63 #[.pointer (some p)] .returning w fun e u' w' => e = .returned (.tuple #[]) ∧ u' = .returning ∧ w' = w := by
  refine callsD_of_wpS Tryz.func63 rfl fun c₀ cs hu => ?_
  apply wpS_seq
  apply wpS_region
  simp [wpOpsS, go_sem, recoverD, hu, Tryz.ntmps63, Exit.thenS]
  apply wpS_seq
  apply wpS_region
  simp [wpOpsS, go_sem, recoverD, hu, Exit.thenS]
  refine wpS_cond (t := false) (by simp [Act.eval, Array.replicate]) ?_
  simp only [Bool.false_eq_true, if_false]
  refine wpS_of_wp (wp_skip ?_)
  cases c₀
  simp_all [bodyPostS, results, Tryz.results63]
set_option maxHeartbeats 4000000 in
/-- of a vault that nobody made -/
theorem vlay_no (p lv : Value) (w : World) (h : VtNo w p) : Calls Tryz.prog 37 #[p, lv] w fun e w' => e = .returned (.int .i64 8) ∧ Below w.heap.size w w' := by
  obtain ⟨w1, hw1⟩ : ∃ u, u = w.alloc (.cells #[.int .i64 0] 37) := ⟨_, rfl⟩
  have hB1 : Below w.heap.size w w1 := by rw [hw1]; exact (Below.refl _ w).alloc (Nat.le_refl _) _
  have hR1 : Blk w1 w.heap.size 37 #[.int .i64 0] := by rw [hw1]; exact Blk.new w _ _
  have hN1 : VtNo w1 p := by
    rcases h with h | ⟨g, hp, h⟩
    · exact .inl h
    · exact .inr ⟨g, hp, Blk.below h hB1 (Blk.lt h)⟩
  have HM := Lib.hid (vmade_no p w1 hN1)
  have HB := Lib.hid hB1
  have HR := Lib.hid hR1
  have HW := Lib.hid hw1
  have hmf : ∀ (fn : Fn) (first cap : Array Value) (w : World), (Instr.makeFunc fn first cap).run Tryz.prog w = .ok (.func fn first cap) w := fun _ _ _ _ => rfl
  clear h hB1 hR1 hN1 hw1
  go_enter_defers Tryz.func37, Tryz.ntmps37
  go_upto_region 1 with fail
  refine wp_at HW.out.symm ?_
  clear HW
  go_wp2_with (go_at_call 28; (with_reducible refine HM.out.mono ?_); rintro e w2 ⟨rfl, rfl⟩)
  refine leaves_cons (f := 63) (args := #[.pointer (some ⟨w.heap.size, 0, none⟩)]) (by simp) (by simp [go_sem]) ?_
  refine (catch_panicking ⟨w.heap.size, 0, none⟩ 0 8 [] _ (HR.out.cell 0) (HR.out.frozen 0)).mono ?_
  rintro e u' w'' ⟨rfl, rfl, rfl⟩
  have hc2 : (w1.setCell ⟨w.heap.size, 0, none⟩ (.int .i64 8)).cell? ⟨w.heap.size, 0, none⟩ = some (.int .i64 8) := (HR.out.set_ 0 _).cell 0
  have hfin : Below w.heap.size w (w1.setCell ⟨w.heap.size, 0, none⟩ (.int .i64 8)) := HB.out.setCell (p := ⟨w.heap.size, 0, none⟩) (Nat.le_refl _) _
  simp [Leaves, settle, results, Tryz.results37, go_sem]
  rw [hc2]
  exact ⟨_, rfl, rfl, hfin⟩
section
variable {G : Nat → Prop} {w : World} {g : Nat} {v : Vt} {pc po bc bo : Value} {A B : Nat → Prop}
set_option maxHeartbeats 4000000 in
/-- behind a number too great -/
theorem vlay_big (h : VtOf G w g v pc po bc bo A B) (hno : 2147483647 ≤ v.no) (lv : Value) : Calls Tryz.prog 37 #[.pointer (some ⟨g, 0, none⟩), lv] w fun e w' => e = .returned (.int .i64 3) ∧ Below w.heap.size w w' := by
  obtain ⟨w1, hw1⟩ : ∃ u, u = w.alloc (.cells #[.int .i64 0] 37) := ⟨_, rfl⟩
  have hB1 : Below w.heap.size w w1 := by rw [hw1]; exact (Below.refl _ w).alloc (Nat.le_refl _) _
  have hR1 : Blk w1 w.heap.size 37 #[.int .i64 0] := by rw [hw1]; exact Blk.new w _ _
  have h1 := h.next hB1
  have c4 := h1.blk.c4
  have hn := h.s.no
  obtain ⟨q, hq⟩ : ∃ q, q = v.no := ⟨_, rfl⟩
  rw [← hq] at c4 hno hn
  have wq : IntKind.i64.wrap (q + 1) = q + 1 := by rw [IntKind.wrap_i64]; omega
  have HM := Lib.hid (vmade_ok g w1 h1.blk.c0)
  have HS := Lib.hid (vsnapshot_big (q + 1) (by omega) lv w1)
  have HB := Lib.hid hB1
  have HR := Lib.hid hR1
  have HW := Lib.hid hw1
  have hmf : ∀ (fn : Fn) (first cap : Array Value) (w : World), (Instr.makeFunc fn first cap).run Tryz.prog w = .ok (.func fn first cap) w := fun _ _ _ _ => rfl
  clear h hB1 hR1 h1 hw1 hq hno hn
  go_enter_defers Tryz.func37, Tryz.ntmps37
  go_upto_region 1 with fail
  refine wp_at HW.out.symm ?_
  clear HW
  go_wp2_with (first
    | (go_at_call 28; (with_reducible refine HM.out.mono ?_); rintro e w2 ⟨rfl, rfl⟩)
    | (go_at_call 23; (with_reducible refine HS.out.mono ?_); rintro e w3 ⟨rfl, rfl⟩))
  refine leaves_cons (f := 63) (args := #[.pointer (some ⟨w.heap.size, 0, none⟩)]) (by simp) (by simp [go_sem]) ?_
  refine (catch_panicking ⟨w.heap.size, 0, none⟩ 0 3 [] _ (HR.out.cell 0) (HR.out.frozen 0)).mono ?_
  rintro e u' w'' ⟨rfl, rfl, rfl⟩
  have hc2 : (w1.setCell ⟨w.heap.size, 0, none⟩ (.int .i64 3)).cell? ⟨w.heap.size, 0, none⟩ = some (.int .i64 3) := (HR.out.set_ 0 _).cell 0
  have hfin : Below w.heap.size w (w1.setCell ⟨w.heap.size, 0, none⟩ (.int .i64 3)) := HB.out.setCell (p := ⟨w.heap.size, 0, none⟩) (Nat.le_refl _) _
  simp [Leaves, settle, results, Tryz.results37, go_sem]
  rw [hc2]
  exact ⟨_, rfl, rfl, hfin⟩
set_option maxHeartbeats 8000000 in
theorem vlay_any (hT : crc.Tab w) (hn : New G w) (h : VtOf G w g v pc po bc bo A B) (hno : v.no < 2147483647) (N : Nat → Prop) (lv : Value) (L : List (List UInt8)) (hl : TxA w N lv L) (hL : smallL L) :
    Calls Tryz.prog 37 #[.pointer (some ⟨g, 0, none⟩), lv] w fun e w' => e = .returned (.int .i64 0) ∧ (∃ p b A' B', VtOf G w' g ((syncV v).1.oth (layJ v.no L)) pc p bc b A' B') ∧ Turn G w w' := by
  obtain ⟨w1, hw1⟩ : ∃ u, u = w.alloc (.cells #[.int .i64 0] 37) := ⟨_, rfl⟩
  have hB1 : Below w.heap.size w w1 := by rw [hw1]; exact (Below.refl _ w).alloc (Nat.le_refl _) _
  have hR1 : Blk w1 w.heap.size 37 #[.int .i64 0] := by rw [hw1]; exact Blk.new w _ _
  have h1 := h.next hB1
  have hT1 : crc.Tab w1 := jn_a.next hT hB1
  have c4 := h1.blk.c4
  have hnn := h.s.no
  have HM := Lib.hid (vmade_ok g w1 h1.blk.c0)
  have HS := Lib.hid (vsnapshot_any v.no (by omega) (by omega) N lv L w1 hT1 (hl.next hB1) hL)
  have HSY := Lib.hid fun u (hb : Below w1.heap.size w1 u) => vsync_any (jn_a.next hT1 hb) (hn.of (Nat.le_trans hB1.size hb.size)) (h1.next hb)
  have HSO := Lib.hid (h.s.sync.oth (lay_v v.no L fun s hs => Nat.le_trans (hL.2 s hs) (by decide)))
  have hus : (syncV v).1.use = v.use := use_set _ _
  obtain ⟨v1, hv1⟩ : ∃ x, x = (syncV v).1 := ⟨_, rfl⟩
  obtain ⟨J, hJ⟩ : ∃ x, x = layJ v.no L := ⟨_, rfl⟩
  obtain ⟨z, hz⟩ : ∃ x, x = (syncV v).2 := ⟨_, rfl⟩
  rw [← hJ] at HS HSO ⊢
  rw [← hv1] at HSY HSO hus ⊢
  rw [← hz] at HSY
  obtain ⟨q, hq⟩ : ∃ q, q = v.no := ⟨_, rfl⟩
  rw [← hq] at c4 HS hno hnn
  have wq : IntKind.i64.wrap (q + 1) = q + 1 := by rw [IntKind.wrap_i64]; omega
  have HB := Lib.hid hB1
  have HR := Lib.hid hR1
  have HW := Lib.hid hw1
  have HA := Lib.hid h.a
  have HN := Lib.hid hn
  have HU := Lib.hid h.s.use
  have hmf : ∀ (fn : Fn) (first cap : Array Value) (w : World), (Instr.makeFunc fn first cap).run Tryz.prog w = .ok (.func fn first cap) w := fun _ _ _ _ => rfl
  have HUS := Lib.hid hus
  have HGW := Lib.hid h.lt
  clear h hB1 hR1 h1 hw1 hq hno hnn hT hT1 hl hL hn hv1 hJ hz hus
  go_enter_defers Tryz.func37, Tryz.ntmps37
  go_upto_region 1 with fail
  refine wp_at HW.out.symm ?_
  clear HW
  go_upto_region 6 with (first
    | (go_at_call 28; (with_reducible refine HM.out.mono ?_); rintro e w2 ⟨rfl, rfl⟩)
    | (go_at_call 23; (with_reducible refine HS.out.mono ?_); rintro e w2 ⟨p, b, rfl, hj2, hb2⟩; obtain ⟨gp, rfl, -⟩ := JnL.form hj2; have HJ2 := Lib.hid (jn_a.cap hj2); have HB2 := Lib.hid hb2; clear hj2 hb2)
    | (go_at_call 10; (with_reducible refine (HSY.out _ HB2.out).mono ?_); rintro e w3 ⟨rfl, ⟨A', hv3, hA3⟩, ht3⟩; have HV3 := Lib.hid hv3; have HA3 := Lib.hid hA3; have HT3 := Lib.hid ht3; clear hv3 hA3 ht3))
  have eu : v1.use = 0 ∨ v1.use = 1 := by rw [HUS.out]; exact HU.out
  have hc3 := HV3.out.blk.c3
  have hfz := Blk.frozen HV3.out.blk
  have HO := Lib.hid fun (x : Int) (hx : x = 0 ∨ x = 1) u (h3 : u.cell? ⟨g, 3, none⟩ = some (.int .i64 x)) => vother_any g x u h3 hx
  rcases eu with eu | eu
  · rw [eu] at hc3
    have f2 := hfz 2
    have c2 := HV3.out.blk.c2
    clear hfz
    have HO1 := Lib.hid (HO.out 0 (.inl rfl) w3.drew (((below_drew w3).cell (p := ⟨g, 3, none⟩) HV3.out.lt).trans hc3))
    refine wp_only ?_
    go_region_with (go_at_call 38; (with_reducible refine HO1.out.mono ?_); rintro e w4 ⟨rfl, rfl⟩)
    obtain ⟨u4, hu4⟩ : ∃ z, z = w3.setCell ⟨g, 2, none⟩ (.pointer (some ⟨gp, 0, none⟩)) := ⟨_, rfl⟩
    rw [← hu4]
    have hgR := HR.out.lt
    have hs1 := HB.out.size
    have hs2 := HB2.out.size
    have hs3 := HT3.out.size
    have hgl := HGW.out
    have hrne : w.heap.size ≠ g := fun e => by omega
    have hR3 : Blk w3 w.heap.size 37 #[.int .i64 0] := Blk.turn (Blk.below HR.out HB2.out hgR) HT3.out fun hh => hh.elim (fun x => by have := (HA.out _ x).2.2; omega) fun x => by omega
    have hR4 : Blk u4 w.heap.size 37 #[.int .i64 0] := by rw [hu4]; exact Blk.far hR3 hrne _
    have hJ3 := jn_a.turn HJ2.out HT3.out fun k hk hf hh => hh.elim (fun x => by have := (HA.out _ x).2.2; omega) fun x => by omega
    obtain ⟨hv4, ht4⟩ := HV3.out.put hJ3 (fun k hk => ⟨HN.out k (by omega), fun e => by omega, by omega⟩) (fun k ha hf => (HA3.out k ha).elim (fun x => by have := (HA.out _ x).2.2; omega) fun x => by omega) HSO.out 2 (by rw [eu]; rfl)
    rw [← hu4] at hv4 ht4
    have HR4 := Lib.hid hR4
    have HV4 := Lib.hid hv4
    have HT4 := Lib.hid ht4
    have HNR := Lib.hid (show ∀ k, A' k → ¬ k = w.heap.size from fun k ha e => (HA3.out k ha).elim (fun x => by have := (HA.out _ x).2.2; omega) fun x => by omega)
    have HS2 := Lib.hid (show w.heap.size < w1.heap.size ∧ w.heap.size ≠ g from ⟨hgR, hrne⟩)
    have r0 : u4.cell? ⟨w.heap.size, 0, none⟩ = some (.int .i64 0) := hR4.cell 0
    have rf := hR4.frozen 0
    clear hu4 hR3 hR4 hJ3 hv4 ht4 hgR hs1 hs2 hs3 hgl hrne c2 f2 hc3 eu HO HO1 c4 wq
    go_wp2_with fail
    have hc2 : (u4.setCell ⟨w.heap.size, 0, none⟩ (.int .i64 0)).cell? ⟨w.heap.size, 0, none⟩ = some (.int .i64 0) := (HR4.out.set_ 0 _).cell 0
    have ht5 : Turn (· = w.heap.size) u4 (u4.setCell ⟨w.heap.size, 0, none⟩ (.int .i64 0)) := (Turn.refl (· = w.heap.size) u4).setCell (p := ⟨w.heap.size, 0, none⟩) rfl _
    have hv5 := HV4.out.aside (ht5.drewN 1) HNR.out (fun k hk e => by have := HS2.out.1; omega) fun e => HS2.out.2 e.symm
    have ht6 : Turn G w ((u4.setCell ⟨w.heap.size, 0, none⟩ (.int .i64 0)).drewN 1) :=
      (((Turn.fresh HB.out HN.out).trans (Turn.fresh HB2.out (HN.out.of HB.out.size))).trans (HT3.out.mono fun k hk => hk.elim (fun x => (HA.out k x).1) fun x => HN.out k (Nat.le_trans (Nat.le_trans HB.out.size HB2.out.size) x))).trans (HT4.out.trans ((ht5.drewN 1).mono fun k hk => HN.out k (Nat.le_of_eq hk.symm)))
    refine leaves_cons (f := 63) (args := #[.pointer (some ⟨w.heap.size, 0, none⟩)]) (by simp) (by simp [go_sem]) ?_
    refine (catch_idle ⟨w.heap.size, 0, none⟩ _).mono ?_
    rintro e u' w'' ⟨rfl, rfl, rfl⟩
    simp [Leaves, settle, results, Tryz.results37, go_sem]
    rw [hc2]
    exact ⟨_, rfl, rfl, ⟨_, _, _, _, hv5⟩, ht6⟩
  · rw [eu] at hc3
    have f2 := hfz 1
    have c2 := HV3.out.blk.c1
    clear hfz
    have HO1 := Lib.hid (HO.out 1 (.inr rfl) w3.drew (((below_drew w3).cell (p := ⟨g, 3, none⟩) HV3.out.lt).trans hc3))
    refine wp_only ?_
    go_region_with (go_at_call 38; (with_reducible refine HO1.out.mono ?_); rintro e w4 ⟨rfl, rfl⟩)
    obtain ⟨u4, hu4⟩ : ∃ z, z = w3.setCell ⟨g, 1, none⟩ (.pointer (some ⟨gp, 0, none⟩)) := ⟨_, rfl⟩
    rw [← hu4]
    have hgR := HR.out.lt
    have hs1 := HB.out.size
    have hs2 := HB2.out.size
    have hs3 := HT3.out.size
    have hgl := HGW.out
    have hrne : w.heap.size ≠ g := fun e => by omega
    have hR3 : Blk w3 w.heap.size 37 #[.int .i64 0] := Blk.turn (Blk.below HR.out HB2.out hgR) HT3.out fun hh => hh.elim (fun x => by have := (HA.out _ x).2.2; omega) fun x => by omega
    have hR4 : Blk u4 w.heap.size 37 #[.int .i64 0] := by rw [hu4]; exact Blk.far hR3 hrne _
    have hJ3 := jn_a.turn HJ2.out HT3.out fun k hk hf hh => hh.elim (fun x => by have := (HA.out _ x).2.2; omega) fun x => by omega
    obtain ⟨hv4, ht4⟩ := HV3.out.put hJ3 (fun k hk => ⟨HN.out k (by omega), fun e => by omega, by omega⟩) (fun k ha hf => (HA3.out k ha).elim (fun x => by have := (HA.out _ x).2.2; omega) fun x => by omega) HSO.out 1 (by rw [eu]; rfl)
    rw [← hu4] at hv4 ht4
    have HR4 := Lib.hid hR4
    have HV4 := Lib.hid hv4
    have HT4 := Lib.hid ht4
    have HNR := Lib.hid (show ∀ k, A' k → ¬ k = w.heap.size from fun k ha e => (HA3.out k ha).elim (fun x => by have := (HA.out _ x).2.2; omega) fun x => by omega)
    have HS2 := Lib.hid (show w.heap.size < w1.heap.size ∧ w.heap.size ≠ g from ⟨hgR, hrne⟩)
    have r0 : u4.cell? ⟨w.heap.size, 0, none⟩ = some (.int .i64 0) := hR4.cell 0
    have rf := hR4.frozen 0
    clear hu4 hR3 hR4 hJ3 hv4 ht4 hgR hs1 hs2 hs3 hgl hrne c2 f2 hc3 eu HO HO1 c4 wq
    go_wp2_with fail
    have hc2 : (u4.setCell ⟨w.heap.size, 0, none⟩ (.int .i64 0)).cell? ⟨w.heap.size, 0, none⟩ = some (.int .i64 0) := (HR4.out.set_ 0 _).cell 0
    have ht5 : Turn (· = w.heap.size) u4 (u4.setCell ⟨w.heap.size, 0, none⟩ (.int .i64 0)) := (Turn.refl (· = w.heap.size) u4).setCell (p := ⟨w.heap.size, 0, none⟩) rfl _
    have hv5 := HV4.out.aside (ht5.drewN 1) HNR.out (fun k hk e => by have := HS2.out.1; omega) fun e => HS2.out.2 e.symm
    have ht6 : Turn G w ((u4.setCell ⟨w.heap.size, 0, none⟩ (.int .i64 0)).drewN 1) :=
      (((Turn.fresh HB.out HN.out).trans (Turn.fresh HB2.out (HN.out.of HB.out.size))).trans (HT3.out.mono fun k hk => hk.elim (fun x => (HA.out k x).1) fun x => HN.out k (Nat.le_trans (Nat.le_trans HB.out.size HB2.out.size) x))).trans (HT4.out.trans ((ht5.drewN 1).mono fun k hk => HN.out k (Nat.le_of_eq hk.symm)))
    refine leaves_cons (f := 63) (args := #[.pointer (some ⟨w.heap.size, 0, none⟩)]) (by simp) (by simp [go_sem]) ?_
    refine (catch_idle ⟨w.heap.size, 0, none⟩ _).mono ?_
    rintro e u' w'' ⟨rfl, rfl, rfl⟩
    simp [Leaves, settle, results, Tryz.results37, go_sem]
    rw [hc2]
    exact ⟨_, rfl, rfl, ⟨_, _, _, _, hv5⟩, ht6⟩
end
end Go.Proofs.YtkbbeioednhefaaGreatDoor.vt

namespace Go.Proofs.YtkbbeioednhefaaGreatDoor.vt
open Go.RowKit Go.Proofs.YtkbbeioednhefaaGreatDoor.mem Go.Proofs.YtkbbeioednhefaaGreatDoor.sha Go.Proofs.YtkbbeioednhefaaGreatDoor.strx Go.Proofs.YtkbbeioednhefaaGreatDoor.rows Go.Proofs.YtkbbeioednhefaaGreatDoor.ids Go.Proofs.YtkbbeioednhefaaGreatDoor.rcd Go.Proofs.YtkbbeioednhefaaGreatDoor.jn Go.Proofs.YtkbbeioednhefaaGreatDoor.txl

theorem Kept.crashed {j : Jr} (h : Kept j) (hj : FileV j) (n : Int) : Kept (crashJ j n) := by
  obtain ⟨G, m, rfl, hG, hm⟩ := hj
  obtain ⟨W, e, h1, h2⟩ := crash_file G hG m hm n
  rw [e]
  show 0 ≤ numV ((G.take W).take W)
  rw [List.take_take, Nat.min_self]
  exact num_take h1 h
theorem Snd.crashed {v : Vt} (h : Snd v) (n : Int) : Snd (v.set (crashJ v.cur n)) := h.set (FileV.crash n) (h.k.crashed h.c n)
theorem oth_oth (v : Vt) (i j : Jr) : (v.oth i).oth j = v.oth j := by
  unfold Vt.oth
  by_cases hu : v.use = 0
  · simp only [if_pos hu]
  · simp only [if_neg hu]
theorem set_len {v : Vt} {j : Jr} (h : smallV v) (hj : j.s.length ≤ 100000) : smallV (v.set j) := by
  unfold Vt.set
  split
  · exact ⟨hj, h.2⟩
  · exact ⟨h.1, hj⟩
theorem oth_len {v : Vt} {j : Jr} (h : smallV v) (hj : j.s.length ≤ 100000) : smallV (v.oth j) := by
  unfold Vt.oth
  split
  · exact ⟨h.1, hj⟩
  · exact ⟨hj, h.2⟩
theorem smallV.cur {v : Vt} (h : smallV v) : v.cur.s.length ≤ 100000 := by
  unfold Vt.cur
  split
  · exact h.1
  · exact h.2
section
variable {G : Nat → Prop} {u : World} {g : Nat} {v : Vt} {pc po bc bo : Value} {A B : Nat → Prop}
/-- load of what the files have -/
theorem again_call (h : VtOf G u g v pc po bc bo A B) (hn : New G u) (hT : crc.Tab u) (hk : 0 ≤ numV (openJ v.cur.s).l) (hs : smallV v) (w4 : World) (hb4 : Below u.heap.size u w4) :
    Calls Tryz.prog 33 #[.pointer (some ⟨g, 0, none⟩), .slice (some ⟨w4.heap.size, 0, none⟩) 2 2] (w4.alloc (.cells #[.string (bt v.a.s), .string (bt v.b.s)] 9)) fun e w' =>
      ∃ m, e = .returned (.tuple #[m, .int .i64 0]) ∧ Left VtL G u (.pointer (some ⟨g, 0, none⟩)) (againV v).1 m (againV v).2 w' := by
  obtain ⟨w5, hw5⟩ : ∃ z, z = w4.alloc (.cells #[.string (bt v.a.s), .string (bt v.b.s)] 9) := ⟨_, rfl⟩
  have hb5 : Below w4.heap.size w4 w5 := by rw [hw5]; exact (Below.refl _ _).alloc (Nat.le_refl _) _
  have hK : Blk w5 w4.heap.size 9 #[.string (bt v.a.s), .string (bt v.b.s)] := by rw [hw5]; exact Blk.new w4 _ _
  rw [← hw5]
  clear hw5
  have hB : Below u.heap.size u w5 := hb4.trans (hb5.mono hb4.size)
  have h5 := h.next hB
  have hgl := h.lt
  have hz4 := hb4.size
  have hz5 := hB.size
  have hL := vload_any g w4.heap.size _ _ _ _ _ (bt v.a.s) (bt v.b.s) (by rw [bt_size]; exact hs.1) (by rw [bt_size]; exact hs.2) w5 (jn_a.next hT hB) h5.blk h.g.2 hK (by omega)
  refine hL.mono ?_
  intro e w' he
  obtain ⟨m, rfl, ht, hr⟩ := he
  rw [bt_list, bt_list] at hr ⊢
  obtain ⟨e1, e2, e3⟩ := Snd.again (v := v) hk
  have htz := ht.size
  have hTG : Turn G u w' := (Turn.fresh hB hn).trans (ht.mono fun k hk => hk.elim (fun e => e ▸ h.g.1) fun e => hn k (by omega))
  rcases hr with ⟨hN, -⟩ | ⟨hN, pa, pb, ba, bb, A2, B2, hb3, ja, jb, ha, hb, hab, hm⟩
  · exact absurd hN (none_of hk)
  refine ⟨m, by rw [e1], fun k => A2 k ∨ B2 k ∨ k = g ∨ w'.heap.size ≤ k, ?_, fun k hk => .inr (.inr (.inr hk)), ?_, ?_, hTG⟩
  · refine VtOf.made (A := A2) (B := B2) (pa := pa) (pb := pb) (ba := ba) (bb := bb) ?_ ?_ ?_ (fun k hk => ⟨.inl hk, by have := (ha k hk).1; omega, (ha k hk).2⟩) (fun k hk => ⟨.inr (.inl hk), by have := (hb k hk).1; omega, (hb k hk).2⟩) hab ⟨.inr (.inr (.inl rfl)), h.g.2⟩ e2
    · rw [e3]; exact hb3
    · rw [e3]; show JnL A2 w' pa ba (pickV _ _).a; rw [pick_a]; exact ja
    · rw [e3]; show JnL B2 w' pb bb (pickV _ _).b; rw [pick_b]; exact jb
  · intro k hk
    rcases hk with hk | hk | hk | hk
    · exact hn k (by have := (ha k hk).1; omega)
    · exact hn k (by have := (hb k hk).1; omega)
    · exact hk ▸ h.g.1
    · exact hn k (by omega)
  · rw [e3]
    refine (OwnT.txa hm).mono fun k hk hx => ⟨hn k (by omega), fun hh => ?_⟩
    rcases hh with hh | hh | hh | hh
    · exact hx.2.1 hh
    · exact hx.2.2 hh
    · omega
    · omega
end
/-! A snapshot is the file in use. -/
theorem lay_len (no : Int) (L : List (List UInt8)) (hL : smallL L) : (layJ no L).s.length ≤ 20000 := by
  have h := jat_size no L hL.2 L.length (Nat.le_refl _)
  have h1 := hL.1
  rw [jat_all]
  have := appJ_grow (jat no L L.length) sealR
  have h2 : sealR.body.length = 0 := rfl
  omega
theorem layE_big {v : Vt} (h : 2147483647 ≤ v.no) (L : List (List UInt8)) : layE v L = 3 := by unfold layE; rw [if_pos h]
theorem layE_ok {v : Vt} (h : v.no < 2147483647) {L : List (List UInt8)} (hL : smallL L) : layE v L = 0 := layE_zero h fun s hs => Nat.le_trans (hL.2 s hs) (by decide)
def snapped (v : Vt) (j : Jr) (u n : Int) : Vt := { v.oth j with use := u, no := n }
theorem snap_cur {v : Vt} {j : Jr} {n : Int} (hu : v.use = 0 ∨ v.use = 1) : (snapped v j (1 - v.use) n).cur = j ∧ (snapped v j (1 - v.use) n).othr = v.cur := by
  unfold snapped Vt.oth Vt.cur Vt.othr
  rcases hu with e | e
  · simp [e]
  · simp [e]
theorem snapV_ok {v : Vt} {L : List (List UInt8)} (h : layE v L = 0) : snapV v L = (snapped (syncV v).1 (syncJ (layJ v.no L)).1 (1 - v.use) (v.no + 1), 0) := by
  unfold snapV
  rw [if_neg (by rw [h]; exact fun h => h rfl)]
  rfl
theorem Snd.snap {v : Vt} (h : Snd v) (hno : v.no < 2147483647) {L : List (List UInt8)} (hL : smallL L) : Snd (snapped (syncV v).1 (syncJ (layJ v.no L)).1 (1 - v.use) (v.no + 1)) := by
  have hs : ∀ s ∈ L, s.length ≤ 1048576 := fun s hs => Nat.le_trans (hL.2 s hs) (by decide)
  have hu : (syncV v).1.use = v.use := use_set _ _
  have hc := snap_cur (v := (syncV v).1) (j := (syncJ (layJ v.no L)).1) (n := v.no + 1) h.sync.use
  have hn := h.no
  rw [hu] at hc
  refine ⟨by rw [hc.1]; exact (lay_v v.no L hs).sync, by rw [hc.2]; exact h.sync.c, by rw [hc.1]; exact lay_kept v.no (by omega) (by omega) L hs, ?_, ?_⟩
  · show 1 - v.use = 0 ∨ 1 - v.use = 1
    have := h.use
    omega
  · show 0 ≤ v.no + 1 ∧ v.no + 1 < 4294967296
    omega
end Go.Proofs.YtkbbeioednhefaaGreatDoor.vt
