/-
 What rule's functions answer; awake; much.
-/
import Derived.Test.YtpeneeddfgmjpaaGreatDoorRufa
import Derived.Test.YtpeneeddfgmjpaaGreatDoorHdm
namespace Go.Proofs.YtpeneeddfgmjpaaGreatDoor.rul
open Go.RowKit Go.Proofs.YtpeneeddfgmjpaaGreatDoor.mem Go.Proofs.YtpeneeddfgmjpaaGreatDoor.sha Go.Proofs.YtpeneeddfgmjpaaGreatDoor.ids Go.Proofs.YtpeneeddfgmjpaaGreatDoor.rows Go.Proofs.YtpeneeddfgmjpaaGreatDoor.hdr Go.Proofs.YtpeneeddfgmjpaaGreatDoor.hds
open Go.Proofs.YtpeneeddfgmjpaaGreatDoor.opn (zid)

/-- .. its parents lie in no block that was there -/
def NextNew (w : World) (r : Hd × Int) (e : Ending) (w' : World) : Prop := ∃ u, e = .returned (.tuple #[hdv r.1 u, .int .i64 r.2]) ∧ RdV w' u r.1.parents ∧ Below w.heap.size w w' ∧ (r.1.parents ≠ [] → ∀ b off n c, u = .slice (some ⟨b, off, none⟩) n c → w.heap.size ≤ b)
structure RuIs (T : World → Prop) : Prop where
 next : ∀ {w w' : World}, T w → Below w.heap.size w w' → T w'
 verdict : ∀ (h : Hd) (u v : Value) (P : HP) (w : World), T w → h.commit.length = 32 → RdV w u h.parents → h.parents.length ≤ 1000 → h.topic.length ≤ 140737488351232 → HsV w v P → Few P → P.length ≤ 1000 → Calls Tryz.prog 8 #[hdv h u, v] w fun e w' => e = .returned (.int .i64 (verdictL h (hs P))) ∧ Below w.heap.size w w'
 unknown : ∀ (h : Hd) (u v : Value) (P : HP) (w : World), T w → h.commit.length = 32 → RdV w u h.parents → h.parents.length ≤ 1000 → HsV w v P → Few P → P.length ≤ 1000 → Calls Tryz.prog 11 #[hdv h u, v] w fun e w' => ∃ o, e = .returned o ∧ RdV w' o (unknownR h (hs P)) ∧ Below w.heap.size w w'
 height : ∀ (v : Value) (P : HP) (w : World), T w → HsV w v P → Few P → P.length ≤ 1000 → Calls Tryz.prog 13 #[v] w fun e w' => e = .returned (.int .i64 (heightR (hs P))) ∧ Below w.heap.size w w'
 made : ∀ (v : Value) (P : HP) (t : List UInt8) (a q z : Int) (c : Id) (w : World), T w → HsV w v P → Few P → P.length ≤ 1000 → c.length = 32 → t.length ≤ 140737488351232 → Calls Tryz.prog 15 #[v, .string (oct.tx t), .int .i64 a, .int .i64 q, .int .i64 z, idv c] w fun e w' => NextNew w (nextR (hs P) t a q z c) e w'
def aH : Hd := ⟨[], 1, [99, 97], 1, 1, 1, zid⟩
theorem a_next : nextR [] [99, 97] 1 1 1 zid = (aH, 0) := by kernel_rfl
def bH : Hd := (nextR [aH] [99, 97] 1 2 1 zid).1
theorem pair_eq {α : Type} {p : α × Int} (h : p.2 = 0) : p = (p.1, 0) := by rw [← h]
theorem b_err : (nextR [aH] [99, 97] 1 2 1 zid).2 = 0 := by decide +kernel
theorem b_next : nextR [aH] [99, 97] 1 2 1 zid = (bH, 0) := by
 unfold bH
 exact pair_eq b_err
theorem b_height : bH.height = 2 := by decide +kernel
theorem b_com : bH.commit.length = 32 := by decide +kernel
theorem b_par : bH.parents.length ≤ 1000 := by decide +kernel
theorem b_top : bH.topic.length ≤ 140737488351232 := by decide +kernel
theorem b_v1 : verdictL bH [aH] = 0 := by decide +kernel
theorem b_v2 : verdictL bH [] = 11 := by decide +kernel
theorem ca_lit : oct.tx [99, 97] = ⟨#[99, 97]⟩ := rfl
theorem hs_one (w : World) (h : Hd) (u : Value) (hr : h.commit.length = 32) (hu : RdV w u h.parents) : HsV (w.alloc (.cells (hdc h u).toArray 26)) (.slice (some ⟨w.heap.size, 0, none⟩) 1 1) [(h, u)] := by
 have hb := Blk.new w 26 (hdc h u).toArray
 have hn := hu.next (w' := w.alloc (.cells (hdc h u).toArray 26)) ((Below.refl _ _).alloc (Nat.le_refl _) _)
 refine ⟨⟨?_, ?_, some ⟨w.heap.size, 0, none⟩, 1, rfl, Nat.le_refl _, by decide, (fun h => by cases h), fun a ha _ => ⟨w.heap.size, 0, (Option.some.inj ha).symm⟩, .inr ⟨w.heap.size, 0, rfl, hb.lt, fun k y hy => ?_⟩⟩, fun p hp => by rw [List.mem_singleton.1 hp]; exact ⟨hn, hr⟩⟩
 ·
  intro x hx
  rw [List.mem_singleton.1 hx]
  exact hdc_uni hr (rdv_one hu)
 ·
  show (1 : Nat) ≤ _
  decide
 ·
  rw [Nat.zero_add, hb.cell, List.getElem?_toArray]
  simpa [hcs] using hy
/-- '[]Header{h}' behind a guard that holds -/
theorem step_build1h_w {ops : Array Oper} {rest : List Oper} {o : Oper} {a : Act} {w : World} {Q : Exit → Act → World → Prop} {x : Operand} {h : Hd} {v : Value} (hw : Region.wanted o (yielded ops a.tmps) = true)
  (ho : o.op = .buildSlice 27 1 #[(0, x)]) (hx : a.eval x = hdv h v) (hr : h.commit.length = 32)
  (k : wpList Tryz.prog ops Q rest (a.put o.dst (.slice (some ⟨w.heap.size, 0, none⟩) 1 1)) (w.alloc (.cells (hdc h v).toArray 26))) : wpList Tryz.prog ops Q (o :: rest) a w := by
 unfold wpList
 rw [if_pos hw]
 left
 unfold Oper.wp execOp
 have hrun := run_build1h w h v hr
 simp only [ho, List.map_toArray, List.map_cons, List.map_nil, hx, Sem.run_bind, hrun, Result.andThen_ok, Sem.run_pure]
 exact k
theorem Few.nil : Few [] := fun p hp => (by cases hp)
theorem Few.one {h : Hd} {u : Value} (h1 : h.parents.length ≤ 1000) (h2 : h.topic.length ≤ 140737488351232) : Few [(h, u)] := fun p hp => by rw [List.mem_singleton.1 hp]; exact ⟨h1, h2⟩

set_option maxHeartbeats 8000000 in
set_option maxRecDepth 100000 in
theorem awake_any {T : World → Prop} (hI : RuIs T) (w : World) (hT : T w) : Calls Tryz.prog 7 #[] w fun e w' => e = .returned (.bool true) ∧ Below w.heap.size w w' := by
 have hn1 := hI.made (.slice none 0 0) [] [99, 97] 1 1 1 zid w hT (HsV.nil w) Few.nil (by decide) zid32 (by decide)
 rw [show nextR (hs []) [99, 97] 1 1 1 zid = (aH, 0) from a_next, ca_lit] at hn1
 have HN1 := Lib.hid hn1
 have HI := Lib.hid hI
 have HT := Lib.hid hT
 clear hn1 hI hT
 go_enter Tryz.func7, Tryz.ntmps7
 go_upto_region 2 with (first
  | ((with_reducible refine step_build (t := 24) (parts := #[]) (ps := #[]) (v := ?bvw1) ?bgw1 ?bow1 ?bxw1 ?brw1 ?bhw1); (case bgw1 => rfl); (case bow1 => rfl); (case bxw1 => simp); (case brw1 => exact run_build_zi _))
  | (go_at_call 15; (with_reducible refine HN1.out.mono ?_); rintro e w2 ⟨u1, rfl, hp1, hb2, -⟩; have hh1 := run_hold w2 aH u1 zid32 (rdv_one hp1); have hk1 := held_blk w2 aH u1; have hbb1 := held_below w2 aH u1; obtain ⟨w3, hw3⟩ : ∃ x, x = heldW w2 aH u1 := ⟨_, rfl⟩; rw [← hw3] at hh1 hk1 hbb1; have hl1 := run_load_hd hk1 zid32; have hp3 := hp1.next hbb1; have HH1 := Lib.hid hh1; have HP3 := Lib.hid hp3; have HK1 := Lib.hid hk1; have HB3 := Lib.hid (hb2.trans (hbb1.mono hb2.size)); clear hh1 hp3 hp1 hk1 hbb1 hw3 hb2 HN1)
  | ((with_reducible refine step_store_run (t := 26) (x := .tmp 1) (y := .tmp 8) (p := ?spw2) (v := ?svw2) (w' := ?sww2) ?sgw2 ?sow2 ?sxw2 ?syw2 ?srw2 ?shw2); (case sgw2 => rfl); (case sow2 => rfl); (case sxw2 => rfl); (case syw2 => rfl); (case srw2 => exact HH1.out)))
 clear HH1
 have hs3 := hs_one w3 aH u1 zid32 HP3.out
 have hba : Below w3.heap.size w3 (w3.alloc (.cells (hdc aH u1).toArray 26)) := (Below.refl _ _).alloc (Nat.le_refl _) _
 have hn2 := HI.out.made _ _ [99, 97] 1 2 1 zid _ (HI.out.next (HI.out.next HT.out HB3.out) hba) hs3 (Few.one (by decide) (by decide)) (show (1 : Nat) ≤ 1000 by decide) zid32 (by decide)
 rw [show nextR (hs [(aH, u1)]) [99, 97] 1 2 1 zid = (bH, 0) from b_next, ca_lit] at hn2
 have HN2 := Lib.hid hn2
 have HBA := Lib.hid hba
 clear hs3 hba hn2
 go_upto_region 3 with (first
  | ((with_reducible refine step_load (t := 26) (x := .tmp 1) (p := ?lpx1) (v := ?lvx1) ?lgx1 ?lox1 ?lxx1 ?lrx1 ?lhx1); (case lgx1 => rfl); (case lox1 => rfl); (case lxx1 => rfl); (case lrx1 => exact hl1))
  | ((with_reducible refine hds.step_build1h (x := .tmp 11) (h := ?bhx2) (v := ?bvx2) ?bgx2 ?box2 ?bxx2 ?blx2 ?bkx2); (case bgx2 => rfl); (case box2 => rfl); (case bxx2 => rfl); (case blx2 => exact zid32))
  | ((with_reducible refine step_build (t := 24) (parts := #[]) (ps := #[]) (v := ?bvx3) ?bgx3 ?box3 ?bxx3 ?brx3 ?bhx3); (case bgx3 => rfl); (case box3 => rfl); (case bxx3 => simp); (case brx3 => exact run_build_zi _))
  | (go_at_call 15; (with_reducible refine HN2.out.mono ?_); rintro e w4 ⟨u2, rfl, hp4, hb4, -⟩; have hh2 := run_hold w4 bH u2 b_com (rdv_one hp4); have hk2 := held_blk w4 bH u2; have hbb2 := held_below w4 bH u2; obtain ⟨w5, hw5⟩ : ∃ x, x = heldW w4 bH u2 := ⟨_, rfl⟩; rw [← hw5] at hh2 hk2 hbb2; have hb35 := (HBA.out.trans (hb4.mono HBA.out.size)).trans (hbb2.mono (Nat.le_trans HBA.out.size hb4.size)); have hl2 := run_load_hd hk2 b_com; have hp5 := hp4.next hbb2; have HH2 := Lib.hid hh2; have HP5 := Lib.hid hp5; have HK2 := Lib.hid hk2; have HB35 := Lib.hid hb35; clear hh2 hp4 hp5 hk2 hbb2 hw5 hb4 hb35 HN2 HBA)
  | ((with_reducible refine step_store_run (t := 26) (x := .tmp 3) (y := .tmp 15) (p := ?spx4) (v := ?svx4) (w' := ?swx4) ?sgx4 ?sox4 ?sxx4 ?syx4 ?srx4 ?shx4); (case sgx4 => rfl); (case sox4 => rfl); (case sxx4 => rfl); (case syx4 => rfl); (case srx4 => exact HH2.out)))
 clear HH2 hl1
 have hk1 := HK1.out.below HB35.out HK1.out.lt
 have hl1 := run_load_hd hk1 zid32
 have c1 : w5.cell? ⟨w2.heap.size, 1, none⟩ = some (.int .i64 1) := (HdBlk.of hk1 zid32).height
 have c2 : w5.cell? ⟨w4.heap.size, 1, none⟩ = some (.int .i64 2) := by rw [← b_height]; exact (HdBlk.of HK2.out b_com).height
 have HB05 := Lib.hid (HB3.out.trans (HB35.out.mono HB3.out.size))
 have hba : Below w5.heap.size w5 (w5.alloc (.cells (hdc aH u1).toArray 26)) := (Below.refl _ _).alloc (Nat.le_refl _) _
 have hv1 := HI.out.verdict bH u2 _ _ _ (HI.out.next (HI.out.next HT.out HB05.out) hba) b_com (HP5.out.next hba) b_par b_top (hs_one w5 aH u1 zid32 (HP3.out.next HB35.out)) (Few.one (by decide) (by decide)) (show (1 : Nat) ≤ 1000 by decide)
 rw [show verdictL bH (hs [(aH, u1)]) = 0 from b_v1] at hv1
 have HV1 := Lib.hid hv1
 have HBA := Lib.hid hba
 clear hv1 hba hk1
 go_wp2_with (first
  | ((with_reducible refine step_load_w (t := 26) (x := .tmp 3) (p := ?lpy1) (v := ?lvy1) ?lgy1 ?loy1 ?lxy1 ?lry1 ?lhy1); (case loy1 => rfl); (case lgy1 => rfl); (case lxy1 => rfl); (case lry1 => exact hl2))
  | ((with_reducible refine step_load_w (t := 26) (x := .tmp 1) (p := ?lpy2) (v := ?lvy2) ?lgy2 ?loy2 ?lxy2 ?lry2 ?lhy2); (case loy2 => rfl); (case lgy2 => rfl); (case lxy2 => rfl); (case lry2 => exact hl1))
  | ((with_reducible refine step_build1h_w (x := .tmp 35) (h := ?bhy3) (v := ?bvy3) ?bgy3 ?boy3 ?bxy3 ?bly3 ?bky3); (case boy3 => rfl); (case bgy3 => rfl); (case bxy3 => rfl); (case bly3 => exact zid32))
  | (go_at_call 8; (with_reducible refine HV1.out.mono ?_); rintro e w6 ⟨rfl, hb6⟩; have hb56 := HBA.out.trans (hb6.mono HBA.out.size); have hl3 := run_load_hd (HK2.out.below hb56 HK2.out.lt) b_com; have hv2 := HI.out.verdict bH u2 (.slice none 0 0) [] w6 (HI.out.next (HI.out.next HT.out HB05.out) hb56) b_com (HP5.out.next hb56) b_par b_top (HsV.nil _) Few.nil (by decide); rw [show verdictL bH (hs []) = 11 from b_v2] at hv2; have HV2 := Lib.hid hv2; have HB6 := Lib.hid (HB05.out.trans (hb56.mono HB05.out.size)); clear hb6 hb56 hv2 HV1)
  | ((with_reducible refine step_load_w (t := 26) (x := .tmp 3) (p := ?lpy4) (v := ?lvy4) ?lgy4 ?loy4 ?lxy4 ?lry4 ?lhy4); (case loy4 => rfl); (case lgy4 => rfl); (case lxy4 => rfl); (case lry4 => exact hl3))
  | (go_at_call 8; (with_reducible refine HV2.out.mono ?_); rintro e w7 ⟨rfl, hb7⟩))
 go_ret
 exact ⟨rfl, HB6.out.trans (hb7.mono HB6.out.size)⟩
end Go.Proofs.YtpeneeddfgmjpaaGreatDoor.rul
