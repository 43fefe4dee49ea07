/-
  petrelref13's Append, Sync, Crash: the plain Vault in block X.
-/
import Derived.Test.YtkbbeioednhefaaGreatDoorVfc
namespace Go.Proofs.YtkbbeioednhefaaGreatDoor.vt
open Go.RowKit Go.Proofs.YtkbbeioednhefaaGreatDoor.mem Go.Proofs.YtkbbeioednhefaaGreatDoor.sha Go.Proofs.YtkbbeioednhefaaGreatDoor.strx Go.Proofs.YtkbbeioednhefaaGreatDoor.rows Go.Proofs.YtkbbeioednhefaaGreatDoor.ids Go.Proofs.YtkbbeioednhefaaGreatDoor.rcd Go.Proofs.YtkbbeioednhefaaGreatDoor.jn Go.Proofs.YtkbbeioednhefaaGreatDoor.txl

/-- what a call leaves: the plain Vault as v', its lists where they were or in new blocks -/
def VXR (w : World) (F : Nat → Prop) (X : Nat) (v' : Vt) (w' : World) : Prop := ∃ la lb, VX w' (fun k => F k ∨ w.heap.size ≤ k) X v' la lb ∧ Turn (fun k => k = X ∨ w.heap.size ≤ k) w w'
def CA (v : Vt) (lb : Value) (a b c d : Value) : Array Value := #[a, b, c, d, .string (oct.tx v.b.s), .int .i64 (v.b.k : Int), lb, .int .i64 (v.b.m : Int), .int .i64 v.use, .int .i64 v.no]
def CB (v : Vt) (la : Value) (a b c d : Value) : Array Value := #[.string (oct.tx v.a.s), .int .i64 (v.a.k : Int), la, .int .i64 (v.a.m : Int), a, b, c, d, .int .i64 v.use, .int .i64 v.no]
theorem slotA (v : Vt) (lb : Value) : Slot 0 (CA v lb) := ⟨fun _ _ _ _ => rfl, fun _ _ _ _ => rfl, fun _ _ _ _ => rfl, fun _ _ _ _ => rfl, fun _ _ _ _ _ => rfl, fun _ _ _ _ _ => rfl, fun _ _ _ _ _ => rfl, fun _ _ _ _ _ => rfl⟩
theorem slotB (v : Vt) (la : Value) : Slot 4 (CB v la) := ⟨fun _ _ _ _ => rfl, fun _ _ _ _ => rfl, fun _ _ _ _ => rfl, fun _ _ _ _ => rfl, fun _ _ _ _ _ => rfl, fun _ _ _ _ _ => rfl, fun _ _ _ _ _ => rfl, fun _ _ _ _ _ => rfl⟩
section
variable {w w' : World} {F : Nat → Prop} {X : Nat} {v : Vt} {la lb la' lb' : Value} {j' : Jr}
theorem VX.joa (h : VX w F X v la lb) : JO w X 31 (CA v lb) v.a la := h.blk
theorem VX.job (h : VX w F X v la lb) : JO w X 31 (CB v la) v.b lb := h.blk
theorem VX.xa (h : VX w F X v la lb) : ∀ k, la.ownBlock = some k → k ≠ X := fun k hk e => h.x (e ▸ h.a.2.2 k hk)
theorem VX.xb (h : VX w F X v la lb) : ∀ k, lb.ownBlock = some k → k ≠ X := fun k hk e => h.x (e ▸ h.b.2.2 k hk)
theorem VX.keep {L : List Rc} {l : Value} (h : VX w F X v la lb) (hl : OwnR w F l L) (ht : Turn (fun k => k = X ∨ w.heap.size ≤ k) w w') : OwnR w' (fun k => F k ∨ w.heap.size ≤ k) l L :=
  ornp (ornt hl ht fun k hk hlt hh => hh.elim (fun e => h.x (e ▸ hk)) fun e => by omega) fun k hk => .inl hk
theorem VX.newx (h : VX w F X v la lb) : ¬ (F X ∨ w.heap.size ≤ X) := fun hh => hh.elim h.x fun e => by have := h.blk.lt; omega
/-- file 0 is another journal -/
theorem VX.setA (h : VX w F X v la lb) (hj : JO w' X 31 (CA v lb) j' la') (hl : (la' = la ∧ j'.l = v.a.l) ∨ OwnR w' (w.heap.size ≤ ·) la' j'.l) (ht : Turn (fun k => k = X ∨ w.heap.size ≤ k) w w') : VXR w F X { v with a := j' } w' := by
  refine ⟨la', lb, ⟨hj, ?_, h.keep h.b ht, h.newx⟩, ht⟩
  rcases hl with ⟨e1, e2⟩ | hO
  · show OwnR _ _ _ j'.l
    rw [e1, e2]
    exact h.keep h.a ht
  · exact ornp hO fun k hk => .inr hk
theorem VX.setB (h : VX w F X v la lb) (hj : JO w' X 31 (CB v la) j' lb') (hl : (lb' = lb ∧ j'.l = v.b.l) ∨ OwnR w' (w.heap.size ≤ ·) lb' j'.l) (ht : Turn (fun k => k = X ∨ w.heap.size ≤ k) w w') : VXR w F X { v with b := j' } w' := by
  refine ⟨la, lb', ⟨hj, h.keep h.a ht, ?_, h.newx⟩, ht⟩
  rcases hl with ⟨e1, e2⟩ | hO
  · show OwnR _ _ _ j'.l
    rw [e1, e2]
    exact h.keep h.b ht
  · exact ornp hO fun k hk => .inr hk
theorem VX.same (h : VX w F X v la lb) (hb : Below w.heap.size w w') : VXR w F X v w' :=
  ⟨la, lb, ⟨h.blk.below hb h.blk.lt, ornp (ornx h.a hb) fun k hk => .inl hk, ornp (ornx h.b hb) fun k hk => .inl hk, h.newx⟩, (Turn.ofBelow hb).mono fun k hk => .inr hk⟩
/-- what was laid ahead of it -/
theorem VXR.behind {w0 : World} {v' : Vt} (h0 : VX w0 F X v la lb) (hb : Below w0.heap.size w0 w) (h : VXR w F X v' w') : VXR w0 F X v' w' := by
  obtain ⟨la, lb, ⟨h1, h2, h3, h4⟩, ht⟩ := h
  have hs := hb.size
  refine ⟨la, lb, ⟨h1, ornp h2 fun k hk => hk.imp id fun e => by omega, ornp h3 fun k hk => hk.imp id fun e => by omega, fun hh => hh.elim (fun e => h4 (.inl e)) fun e => ?_⟩, ((Turn.ofBelow hb).mono fun k hk => .inr hk).trans (ht.mono fun k hk => hk.imp id fun e => by omega)⟩
  have := h0.blk.lt
  omega
end
set_option maxHeartbeats 8000000 in
set_option maxRecDepth 100000 in
theorem vapp_ref (F : Nat → Prop) (X : Nat) (v : Vt) (la lb : Value) (t : ByteArray) (w : World) (h : VX w F X v la lb) (hu : v.use = 0 ∨ v.use = 1) (hl1 : v.a.l.length ≤ 30000) (hs1 : v.a.s.length ≤ 1000000) (hl2 : v.b.l.length ≤ 30000) (hs2 : v.b.s.length ≤ 1000000) (htz : t.size ≤ 140737488355328) :
    Calls Tryz.prog 9 #[.pointer (some ⟨X, 0, none⟩), .string t] w fun e w' => e = .returned (.int .i64 (appV v t.data.toList).2) ∧ VXR w F X (appV v t.data.toList).1 w' := by
  have htl : t.data.toList.length = t.size := (size_list t).symm
  have htx : oct.tx t.data.toList = t := oct.tx_eta t
  have hX := h.blk.lt
  have c8 : w.cell? ⟨X, 8, none⟩ = some (.int .i64 v.use) := h.blk.cell 8
  have HXR := Lib.hid fun w' => h.same (w' := w')
  unfold appV
  by_cases hz : 1048576 < t.data.toList.length
  · rw [if_pos hz]
    have hz' : (1048576 : Int) < (t.size : Int) := by omega
    clear h hz htl htx
    go_enter Tryz.func9, Tryz.ntmps9
    go_wp2_with fail
    go_ret
    exact ⟨rfl, HXR.out _ (Below.refl _ _)⟩
  rw [if_neg hz]
  have hz' : ¬ (1048576 : Int) < (t.size : Int) := by omega
  have hb1 : Below w.heap.size w (w.alloc (.cells #[.int .i64 3, .string t] 66)) := (Below.refl _ _).alloc (Nat.le_refl _) _
  have hBr := Blk.new w 66 #[.int .i64 3, .string t]
  obtain ⟨w1, hw1⟩ : ∃ u, u = w.alloc (.cells #[.int .i64 3, .string t] 66) := ⟨_, rfl⟩
  rw [← hw1] at hb1 hBr
  have HW1 := Lib.hid hw1
  have h1 := h.next hb1
  have hbd : Below w1.heap.size w1 w1.drew := (Below.refl _ _).drew
  obtain ⟨u, hu1⟩ : ∃ u, u = w1.drew := ⟨_, rfl⟩
  rw [← hu1] at hbd
  have hub := hb1.trans (hbd.mono hb1.size)
  have h2 := h.next hub
  have hBu := hBr.below hbd hBr.lt
  have b0 : u.cell? ⟨w.heap.size, 0, none⟩ = some (.int .i64 3) := hBu.cell 0
  have b1 : u.cell? ⟨w.heap.size, 1, none⟩ = some (.string t) := hBu.cell 1
  have d8 : w1.cell? ⟨X, 8, none⟩ = some (.int .i64 v.use) := h1.blk.cell 8
  have HFIN : Hid (∀ v' w', VXR u F X v' w' → VXR w F X v' w') := Lib.hid fun v' w' hx => VXR.behind h hub hx
  have H2 := Lib.hid h2
  have hAA := append_o (slotA v lb) X v.a la ⟨3, t.data.toList⟩ u h2.joa (OwnR.rcv h2.a) hl1 hs1 (by show t.data.toList.length ≤ _; omega) h2.xa
  have hBB := append_o (slotB v la) X v.b lb ⟨3, t.data.toList⟩ u h2.job (OwnR.rcv h2.b) hl2 hs2 (by show t.data.toList.length ≤ _; omega) h2.xb
  simp only [recv, htx] at hAA hBB
  have HAA := Lib.hid hAA
  have HBB := Lib.hid hBB
  have hsetA : v.use = 0 → ∀ j', v.set j' = { v with a := j' } := fun e j' => by unfold Vt.set; rw [if_pos e]
  have hsetB : v.use = 1 → ∀ j', v.set j' = { v with b := j' } := fun e j' => by unfold Vt.set; rw [if_neg (by omega)]
  have hcurA : v.use = 0 → v.cur = v.a := fun e => by unfold Vt.cur; rw [if_pos e]
  have hcurB : v.use = 1 → v.cur = v.b := fun e => by unfold Vt.cur; rw [if_neg (by omega)]
  have HU1 := Lib.hid hu1
  rcases hu with hu | hu
  · rw [hsetA hu, hcurA hu]
    rw [hu] at c8 d8
    obtain ⟨r, hr⟩ : ∃ r : Rc, r = entR t.data.toList := ⟨_, rfl⟩
    have hr' : (⟨3, t.data.toList⟩ : Rc) = r := hr.symm
    rw [hr'] at HAA
    rw [← hr]
    clear h hz htl htx hb1 hBr hw1 h1 hbd hu1 hub h2 hBu hAA hBB hsetA hsetB hcurA hcurB hr hr' HBB hu
    go_enter Tryz.func9, Tryz.ntmps9
    go_upto_region 4 with fail
    rw [← HW1.out]
    go_upto_region 5 with fail
    refine wp_region_any (by kernel_rfl) (show wpAny Tryz.prog _ _ _ _ _ _ w1.drew from ?_)
    rw [← HU1.out]
    refine' wpAny_take (i := 0) ?hivd1 (by kernel_rfl) (by kernel_rfl) (by kernel_rfl) ?hqvd1 (Or.inl ⟨?hwvd1, ?hyvd1⟩) ?hrvd1
    case hivd1 => (simp only [List.getElem?_toArray, List.getElem?_cons_succ, List.getElem?_cons_zero]; rfl)
    case hqvd1 => exact fun _ _ _ h => h
    case hwvd1 => rfl
    case hyvd1 => (intro w0; go_simp; try with_reducible rfl)
    (try simp only [Act.put, List.setIfInBounds_toArray, List.set_cons_zero, List.set_cons_succ])
    refine' wpAny_take (i := 1) ?hivd2 (by kernel_rfl) (by kernel_rfl) (by kernel_rfl) ?hqvd2 (Or.inl ⟨?hwvd2, ?hyvd2⟩) ?hrvd2
    case hivd2 => (simp only [List.getElem?_toArray, List.getElem?_cons_succ, List.getElem?_cons_zero]; rfl)
    case hqvd2 => exact fun _ _ _ h => h
    case hwvd2 => rfl
    case hyvd2 => (intro w0; go_simp; try with_reducible rfl)
    (try simp only [Act.put, List.setIfInBounds_toArray, List.set_cons_zero, List.set_cons_succ])
    refine' wpAny_take (i := 2) ?hivd3 (by kernel_rfl) (by kernel_rfl) (by kernel_rfl) ?hqvd3 (Or.inl ⟨?hwvd3, ?hyvd3⟩) ?hrvd3
    case hivd3 => (simp only [List.getElem?_toArray, List.getElem?_cons_succ, List.getElem?_cons_zero]; rfl)
    case hqvd3 => exact fun _ _ _ h => h
    case hwvd3 => rfl
    case hyvd3 => (intro w0; go_simp; try with_reducible rfl)
    (try simp only [Act.put, List.setIfInBounds_toArray, List.set_cons_zero, List.set_cons_succ])
    refine wpAny_ready (rs := [3]) (by kernel_rfl) (by simp) ?_
    refine' AllReady.cons ?hivd4 (fun K hK => ?hrvd4) AllReady.nil
    case hivd4 => (simp only [List.getElem?_toArray, List.getElem?_cons_succ, List.getElem?_cons_zero]; rfl)
    go_simp
    refine hK _ _ ?_
    clear hK K
    (try simp only [Act.put, List.setIfInBounds_toArray, List.set_cons_zero, List.set_cons_succ])
    refine wpAny_ready (rs := [4]) (by kernel_rfl) (by simp) ?_
    refine' AllReady.cons ?hivd5 (fun K hK => ?hrvd5) AllReady.nil
    case hivd5 => (simp only [List.getElem?_toArray, List.getElem?_cons_succ, List.getElem?_cons_zero]; rfl)
    go_simp
    (refine HAA.out.mono ?_; rintro e w2 ⟨v2, rfl, hj2, hl2, ht2⟩)
    refine hK _ _ ?_
    clear hK K
    (try simp only [Act.put, List.setIfInBounds_toArray, List.set_cons_zero, List.set_cons_succ])
    refine' wpAny_take (i := 5) ?hivd6 (by kernel_rfl) (by kernel_rfl) (by kernel_rfl) ?hqvd6 (Or.inl ⟨?hwvd6, ?hyvd6⟩) ?hrvd6
    case hivd6 => (simp only [List.getElem?_toArray, List.getElem?_cons_succ, List.getElem?_cons_zero]; rfl)
    case hqvd6 => exact fun _ _ _ h => h
    case hwvd6 => rfl
    case hyvd6 => (intro w0; go_simp; try with_reducible rfl)
    (try simp only [Act.put, List.setIfInBounds_toArray, List.set_cons_zero, List.set_cons_succ])
    refine wpAny_done (by kernel_rfl) ?_ _
    go_wp2_with fail
    go_ret
    exact ⟨rfl, HFIN.out _ _ (H2.out.setA hj2 hl2 ht2)⟩
  · rw [hsetB hu, hcurB hu]
    rw [hu] at c8 d8
    obtain ⟨r, hr⟩ : ∃ r : Rc, r = entR t.data.toList := ⟨_, rfl⟩
    have hr' : (⟨3, t.data.toList⟩ : Rc) = r := hr.symm
    rw [hr'] at HBB
    rw [← hr]
    clear h hz htl htx hb1 hBr hw1 h1 hbd hu1 hub h2 hBu hAA hBB hsetA hsetB hcurA hcurB hr hr' HAA hu
    go_enter Tryz.func9, Tryz.ntmps9
    go_upto_region 4 with fail
    rw [← HW1.out]
    go_upto_region 6 with fail
    refine wp_region_any (by kernel_rfl) (show wpAny Tryz.prog _ _ _ _ _ _ w1.drew from ?_)
    rw [← HU1.out]
    refine' wpAny_take (i := 0) ?hivd7 (by kernel_rfl) (by kernel_rfl) (by kernel_rfl) ?hqvd7 (Or.inl ⟨?hwvd7, ?hyvd7⟩) ?hrvd7
    case hivd7 => (simp only [List.getElem?_toArray, List.getElem?_cons_succ, List.getElem?_cons_zero]; rfl)
    case hqvd7 => exact fun _ _ _ h => h
    case hwvd7 => rfl
    case hyvd7 => (intro w0; go_simp; try with_reducible rfl)
    (try simp only [Act.put, List.setIfInBounds_toArray, List.set_cons_zero, List.set_cons_succ])
    refine' wpAny_take (i := 1) ?hivd8 (by kernel_rfl) (by kernel_rfl) (by kernel_rfl) ?hqvd8 (Or.inl ⟨?hwvd8, ?hyvd8⟩) ?hrvd8
    case hivd8 => (simp only [List.getElem?_toArray, List.getElem?_cons_succ, List.getElem?_cons_zero]; rfl)
    case hqvd8 => exact fun _ _ _ h => h
    case hwvd8 => rfl
    case hyvd8 => (intro w0; go_simp; try with_reducible rfl)
    (try simp only [Act.put, List.setIfInBounds_toArray, List.set_cons_zero, List.set_cons_succ])
    refine' wpAny_take (i := 2) ?hivd9 (by kernel_rfl) (by kernel_rfl) (by kernel_rfl) ?hqvd9 (Or.inl ⟨?hwvd9, ?hyvd9⟩) ?hrvd9
    case hivd9 => (simp only [List.getElem?_toArray, List.getElem?_cons_succ, List.getElem?_cons_zero]; rfl)
    case hqvd9 => exact fun _ _ _ h => h
    case hwvd9 => rfl
    case hyvd9 => (intro w0; go_simp; try with_reducible rfl)
    (try simp only [Act.put, List.setIfInBounds_toArray, List.set_cons_zero, List.set_cons_succ])
    refine wpAny_ready (rs := [3]) (by kernel_rfl) (by simp) ?_
    refine' AllReady.cons ?hivd10 (fun K hK => ?hrvd10) AllReady.nil
    case hivd10 => (simp only [List.getElem?_toArray, List.getElem?_cons_succ, List.getElem?_cons_zero]; rfl)
    go_simp
    refine hK _ _ ?_
    clear hK K
    (try simp only [Act.put, List.setIfInBounds_toArray, List.set_cons_zero, List.set_cons_succ])
    refine wpAny_ready (rs := [4]) (by kernel_rfl) (by simp) ?_
    refine' AllReady.cons ?hivd11 (fun K hK => ?hrvd11) AllReady.nil
    case hivd11 => (simp only [List.getElem?_toArray, List.getElem?_cons_succ, List.getElem?_cons_zero]; rfl)
    go_simp
    (refine HBB.out.mono ?_; rintro e w2 ⟨v2, rfl, hj2, hl2, ht2⟩)
    refine hK _ _ ?_
    clear hK K
    (try simp only [Act.put, List.setIfInBounds_toArray, List.set_cons_zero, List.set_cons_succ])
    refine' wpAny_take (i := 5) ?hivd12 (by kernel_rfl) (by kernel_rfl) (by kernel_rfl) ?hqvd12 (Or.inl ⟨?hwvd12, ?hyvd12⟩) ?hrvd12
    case hivd12 => (simp only [List.getElem?_toArray, List.getElem?_cons_succ, List.getElem?_cons_zero]; rfl)
    case hqvd12 => exact fun _ _ _ h => h
    case hwvd12 => rfl
    case hyvd12 => (intro w0; go_simp; try with_reducible rfl)
    (try simp only [Act.put, List.setIfInBounds_toArray, List.set_cons_zero, List.set_cons_succ])
    refine wpAny_done (by kernel_rfl) ?_ _
    go_wp2_with fail
    go_ret
    exact ⟨rfl, HFIN.out _ _ (H2.out.setB hj2 hl2 ht2)⟩
set_option maxHeartbeats 8000000 in
set_option maxRecDepth 100000 in
theorem vsync_ref (F : Nat → Prop) (X : Nat) (v : Vt) (la lb : Value) (w : World) (h : VX w F X v la lb) (hw : Wf v.a ∧ Wf v.b) (hu : v.use = 0 ∨ v.use = 1) (hl1 : v.a.l.length ≤ 30000) (hs1 : v.a.s.length ≤ 1000000) (hl2 : v.b.l.length ≤ 30000) (hs2 : v.b.s.length ≤ 1000000) :
    Calls Tryz.prog 11 #[.pointer (some ⟨X, 0, none⟩)] w fun e w' => e = .returned (.int .i64 (syncV v).2) ∧ VXR w F X (syncV v).1 w' := by
  have c8 : w.cell? ⟨X, 8, none⟩ = some (.int .i64 v.use) := h.blk.cell 8
  have H := Lib.hid h
  have HA := Lib.hid (sync_o (slotA v lb) X v.a la w h.joa (OwnR.rcv h.a) (by omega) (by omega) hw.1.m)
  have HB := Lib.hid (sync_o (slotB v la) X v.b lb w h.job (OwnR.rcv h.b) (by omega) (by omega) hw.2.m)
  unfold syncV
  rcases hu with hu | hu
  · have e1 : v.set (syncJ v.cur).1 = { v with a := (syncJ v.a).1 } := by unfold Vt.set Vt.cur; rw [if_pos hu, if_pos hu]
    have e2 : v.cur = v.a := by unfold Vt.cur; rw [if_pos hu]
    rw [e1, e2]
    rw [hu] at c8
    clear h hw hu e1 e2 HB hl1 hl2 hs1 hs2
    go_enter Tryz.func11, Tryz.ntmps11
    go_wp2_with (go_at_call 27; (with_reducible refine HA.out.mono ?_); rintro e w1 ⟨rfl, hj, ht⟩)
    go_ret
    exact ⟨rfl, H.out.setA hj (.inl ⟨rfl, rfl⟩) (ht.mono fun k hk => .inl hk)⟩
  · have e1 : v.set (syncJ v.cur).1 = { v with b := (syncJ v.b).1 } := by unfold Vt.set Vt.cur; rw [if_neg (by omega), if_neg (by omega)]
    have e2 : v.cur = v.b := by unfold Vt.cur; rw [if_neg (by omega)]
    rw [e1, e2]
    rw [hu] at c8
    clear h hw hu e1 e2 HA hl1 hl2 hs1 hs2
    go_enter Tryz.func11, Tryz.ntmps11
    go_wp2_with (go_at_call 27; (with_reducible refine HB.out.mono ?_); rintro e w1 ⟨rfl, hj, ht⟩)
    go_ret
    exact ⟨rfl, H.out.setB hj (.inl ⟨rfl, rfl⟩) (ht.mono fun k hk => .inl hk)⟩
/-- behind again: what it leaves, seen from w on -/
theorem VXR.again {w w1 w2 : World} {F : Nat → Prop} {X : Nat} {v v1 v2 : Vt} {la lb la2 lb2 : Value} (h0 : VX w F X v la lb) (h1 : VXR w F X v1 w1) (h2 : VX w2 (w1.heap.size ≤ ·) X v2 la2 lb2) (ht : Turn (fun k => k = X ∨ w1.heap.size ≤ k) w1 w2) : VXR w F X v2 w2 := by
  obtain ⟨_, _, _, ht1⟩ := h1
  have hs := ht1.size
  exact ⟨la2, lb2, ⟨h2.blk, ornp h2.a fun k hk => .inr (Nat.le_trans hs hk), ornp h2.b fun k hk => .inr (Nat.le_trans hs hk), h0.newx⟩, ht1.trans (ht.mono fun k hk => hk.imp id fun e => Nat.le_trans hs e)⟩
set_option maxHeartbeats 8000000 in
set_option maxRecDepth 100000 in
theorem vcrash_ref (F : Nat → Prop) (X : Nat) (v : Vt) (la lb : Value) (n : Int) (w : World) (h : VX w F X v la lb) (hw : Wf v.a ∧ Wf v.b) (hu : v.use = 0 ∨ v.use = 1) (hs1 : v.a.s.length ≤ 800000) (hs2 : v.b.s.length ≤ 800000) :
    Calls Tryz.prog 14 #[.pointer (some ⟨X, 0, none⟩), .int .i64 n] w fun e w' => ∃ m, e = .returned m ∧ VXR w F X (crashV v n).1 w' ∧ OwnT w' (w.heap.size ≤ ·) m (crashV v n).2 := by
  have c8 : w.cell? ⟨X, 8, none⟩ = some (.int .i64 v.use) := h.blk.cell 8
  have H := Lib.hid h
  have HA := Lib.hid (crash_o (slotA v lb) X v.a la n w h.joa hw.1.k (by omega))
  have HB := Lib.hid (crash_o (slotB v la) X v.b lb n w h.job hw.2.k (by omega))
  have hla := crashJ_len v.a n hw.1
  have hlb := crashJ_len v.b n hw.2
  unfold crashV
  rcases hu with hu | hu
  · have e1 : v.set (crashJ v.cur n) = { v with a := crashJ v.a n } := by unfold Vt.set Vt.cur; rw [if_pos hu, if_pos hu]
    rw [e1]
    rw [hu] at c8
    have HAG := Lib.hid fun (G : Nat → Prop) l1 l2 u (hx : VX u G X { v with a := crashJ v.a n } l1 l2) => again_ref G X _ l1 l2 u hx (by show (crashJ v.a n).s.length ≤ _; omega) hs2
    clear h hw hu e1 HB hla hlb hs1 hs2
    go_enter Tryz.func14, Tryz.ntmps14
    go_wp2_with (first
      | (go_at_call 35; (with_reducible refine HA.out.mono ?_); rintro e w1 ⟨v1, rfl, hj, hO, ht⟩; have h1 := H.out.setA hj (.inr hO) ht; have H1 := Lib.hid h1; obtain ⟨l1, l2, hx1, ht1⟩ := h1; have HX1 := Lib.hid hx1; clear hj hO ht hx1 ht1)
      | (go_at_call 36; (with_reducible refine (HAG.out _ _ _ _ HX1.out).mono ?_); rintro e w2 ⟨m, l3, l4, rfl, hx2, hm2, ht2⟩))
    go_ret
    refine ⟨_, rfl, VXR.again H.out H1.out hx2 ht2, OwnK.place hm2 fun k hk => ?_⟩
    have := hm2.2.2 k hk
    obtain ⟨_, _, _, hq⟩ := H1.out
    have := hq.size
    simp only at *
    omega
  · have e1 : v.set (crashJ v.cur n) = { v with b := crashJ v.b n } := by unfold Vt.set Vt.cur; rw [if_neg (by omega), if_neg (by omega)]
    rw [e1]
    rw [hu] at c8
    have HAG := Lib.hid fun (G : Nat → Prop) l1 l2 u (hx : VX u G X { v with b := crashJ v.b n } l1 l2) => again_ref G X _ l1 l2 u hx hs1 (by show (crashJ v.b n).s.length ≤ _; omega)
    clear h hw hu e1 HA hla hlb hs1 hs2
    go_enter Tryz.func14, Tryz.ntmps14
    go_wp2_with (first
      | (go_at_call 35; (with_reducible refine HB.out.mono ?_); rintro e w1 ⟨v1, rfl, hj, hO, ht⟩; have h1 := H.out.setB hj (.inr hO) ht; have H1 := Lib.hid h1; obtain ⟨l1, l2, hx1, ht1⟩ := h1; have HX1 := Lib.hid hx1; clear hj hO ht hx1 ht1)
      | (go_at_call 36; (with_reducible refine (HAG.out _ _ _ _ HX1.out).mono ?_); rintro e w2 ⟨m, l3, l4, rfl, hx2, hm2, ht2⟩))
    go_ret
    refine ⟨_, rfl, VXR.again H.out H1.out hx2 ht2, OwnK.place hm2 fun k hk => ?_⟩
    have := hm2.2.2 k hk
    obtain ⟨_, _, _, hq⟩ := H1.out
    have := hq.size
    simp only at *
    omega
end Go.Proofs.YtkbbeioednhefaaGreatDoor.vt
