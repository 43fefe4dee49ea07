/-
  fault.appendOps, Ops.
-/
import Derived.Test.YtlbieneklijpeaaDoorFcr
import Derived.Test.YtlbieneklijpeaaDoorFreg
import Derived.Deep.RegionHeld3
namespace Go.Proofs.YtlbieneklijpeaaDoor.fault
open Go.RowKit Go.Proofs.YtlbieneklijpeaaDoor.mem Go.Proofs.YtlbieneklijpeaaDoor.sha Go.Proofs.YtlbieneklijpeaaDoor.ids Go.Proofs.YtlbieneklijpeaaDoor.rows Go.Extern.Stop Go.Stop Go.Extern

theorem opwp_append {P : Program} {ops : Array Oper} {a : Act} {w w' : World} {K : Act → World → Prop} {Q : Exit → Act → World → Prop} {o : Oper} {s x : Operand} {t : TypeId} {vs vx v' : Value} (hw : Region.wanted o (yielded ops a.tmps) = true)
    (ho : o.op = .call { callee := .builtin .append, args := #[s, x], argTypes := #[t, t] }) (hs : a.eval s = vs) (hx : a.eval x = vx) (hr : (Builtin.append_ #[t, t] o.type #[vs, vx]).run P w = .ok v' w') (h : K (a.put o.dst v') w') :
    if Region.wanted o (yielded ops a.tmps) = true then Oper.wp P o a w K Q else K (a.put o.dst undef) w := by
  rw [if_pos hw]
  unfold Oper.wp
  simp [execOp, ho, resolve, invoke, builtin, hs, hx, hr, Result.andThen]
  exact h
theorem Lie.drew {w : World} {F : Nat → Prop} {t : Tr} {v : Value} (h : Lie w F v t) : Lie w.drew F v t := h.next ((Below.refl _ _).drew)
theorem drewC {w : World} {F : Nat → Prop} {e : TypeId} {v : Value} {xs : List Value} (h : OwnC w F e v xs) : OwnC w.drew F e v xs := h.below ((Below.refl _ _).drew)
theorem aops_nil (w : World) : Calls Tryd.prog 24 #[.slice none 0 0, .nilIface] w fun x w' => x = .returned (.slice none 0 0) ∧ w = w' := by
  have qW := cNW
  have qB := cNB
  go_enter Tryd.func24, Tryd.ntmps24
  go_wp2_with fail
  go_ret
  exact ⟨rfl, rfl⟩
set_option maxHeartbeats 2000000 in
set_option maxRecDepth 100000 in
theorem aops : ∀ (t : Tr) (F : Nat → Prop) (S : Nat) (v vs : Value) (xs : List ByteArray) (w : World), Lie w F v t → (∀ k, F k → k < S) → S ≤ w.heap.size → OwnC w (S ≤ ·) 9 vs (texts xs) → xs.length + t.flt.ops.length < 1000000 →
    Calls Tryd.prog 24 #[vs, v] w fun x w' => ∃ v', x = .returned v' ∧ OwnC w' (S ≤ ·) 9 v' (texts (xs ++ t.flt.ops)) ∧ Below S w w'
  | .num e, F, S, v, vs, xs, w, h, hF, hS, hO, hn => by
    obtain ⟨rfl, he⟩ := h
    have qW := cEW
    have qB := cEB
    have HO := Lib.hid hO
    clear he hO
    go_enter Tryd.func24, Tryd.ntmps24
    go_wp2_with fail
    go_ret
    exact ⟨_, rfl, by simpa [Tr.flt] using HO.out, Below.refl _ _⟩
  | .rep L, F, S, v, vs, xs, w, h, hF, hS, hO, hn => by
    obtain ⟨b, ad, cap, rfl, _⟩ := h
    have qW := cRW
    have qB := cRB
    have HO := Lib.hid hO
    clear hO
    go_enter Tryd.func24, Tryd.ntmps24
    go_wp2_with fail
    go_ret
    exact ⟨_, rfl, by simpa [Tr.flt] using HO.out, Below.refl _ _⟩
  | .wr op u, F, S, v, vs, xs, w, h, hF, hS, hO, hn => by
    obtain ⟨b, v', rfl, hFb, hB, hl⟩ := h
    obtain ⟨ty, x, rfl⟩ := hl.form
    have ih := aops u F S
    have qW := cWW
    have hb := hF b hFb
    have hnew : New (S ≤ ·) w := fun k hk => Nat.le_trans hS hk
    have c0 : w.cell? ⟨b, 0, none⟩ = some (.string op) := hB.cell 0
    have c1 : w.cell? ⟨b, 1, none⟩ = some (.iface ty x) := hB.cell 1
    have hkeep : ∀ w', Below S w w' → w'.cell? ⟨b, 0, none⟩ = some (.string op) ∧ w'.cell? ⟨b, 1, none⟩ = some (.iface ty x) := fun w' h => ⟨(h.cell (p := ⟨b, 0, none⟩) hb).trans c0, (h.cell (p := ⟨b, 1, none⟩) hb).trans c1⟩
    obtain ⟨w1, hw1⟩ : ∃ u, u = (w.alloc (.cells #[.string op] 9)).drew := ⟨_, rfl⟩
    have hb1 : Below w.heap.size w w1 := by rw [hw1]; exact below_drewN ((Below.refl _ _).alloc (Nat.le_refl _) _) 1
    have hL1 : OwnC w1 (fun _ => True) 9 (.slice (some ⟨w.heap.size, 0, none⟩) 1 1) [.string op] := by rw [hw1]; exact OwnC.laid1 w.drew _ _ _ (fun _ _ => trivial)
    have hO1 := hO.below hb1
    have hn' : xs.length + (u.flt.ops.length + 1) < 1000000 := by simpa [Tr.flt] using hn
    obtain ⟨v2, w2, hrun, hO2, ht2⟩ := run_append_c eStr hO1 (hL1.rdc (by simp)).1 (by simp [Value.oneCell']) (by rw [texts_len]; simp; omega) (by rw [texts_len]; simp; omega) (hnew.of hb1.size) 26
    have hb2 : Below S w w2 := (hb1.mono hS).trans ((app_turn hO1.2 (hnew.of hb1.size) ht2).below fun k hk => hk)
    have hO2' : OwnC w2 (S ≤ ·) 9 v2 (texts (xs ++ [op])) := by rw [texts_app]; exact hO2
    have hl2 : Lie w2 F (.iface ty x) u := hl.turn (Turn.ofBelow hb2) fun k hk _ => by have := hF k hk; omega
    have k := ih (.iface ty x) v2 (xs ++ [op]) w2 hl2 hF (Nat.le_trans hS hb2.size) hO2' (by simp; omega)
    rw [hw1] at hrun
    have hkb1 : Below S w ((w.alloc (.cells #[.string op] 9)).drew) := by rw [← hw1]; exact hb1.mono hS
    have HB2 := Lib.hid hb2
    clear hO hl hb1 hL1 hO1 hO2 ht2 hb2 hO2' hl2 ih hw1 hB
    go_enter Tryd.func24, Tryd.ntmps24
    go_upto_region 4 with fail
    refine wp_region_held_drew (S := (fun w' => w'.cell? ⟨b, 0, none⟩ = some (.string op) ∧ w'.cell? ⟨b, 1, none⟩ = some (.iface ty x))) (by kernel_rfl) ?_ (fun hHeld => ?_)
    · exact ⟨c0, c1⟩
    refine' wpAnyH_take (i := 0) ?hif0 (by kernel_rfl) (by kernel_rfl) (by kernel_rfl) ?hqf0 (Or.inl ⟨?hwf0, ?hyf0⟩) (by assumption) ?hrf0
    case hif0 => (simp only [List.getElem?_toArray, List.getElem?_cons_succ, List.getElem?_cons_zero]; rfl)
    case hqf0 => exact fun _ _ _ h => h
    case hwf0 => rfl
    case hyf0 => (intro w0 hSw; (try dsimp only at hSw); go_simp; try with_reducible rfl)
    (try simp only [Act.put, List.setIfInBounds_toArray, List.set_cons_zero, List.set_cons_succ])
    refine' wpAnyH_take (i := 1) ?hif1 (by kernel_rfl) (by kernel_rfl) (by kernel_rfl) ?hqf1 (Or.inl ⟨?hwf1, ?hyf1⟩) (by assumption) ?hrf1
    case hif1 => (simp only [List.getElem?_toArray, List.getElem?_cons_succ, List.getElem?_cons_zero]; rfl)
    case hqf1 => exact fun _ _ _ h => h
    case hwf1 => rfl
    case hyf1 => (intro w0 hSw; (try dsimp only at hSw); go_simp; try with_reducible rfl)
    (try simp only [Act.put, List.setIfInBounds_toArray, List.set_cons_zero, List.set_cons_succ])
    refine' wpAnyH_take (i := 2) ?hif2 (by kernel_rfl) (by kernel_rfl) (by kernel_rfl) ?hqf2 (Or.inl ⟨?hwf2, ?hyf2⟩) (by assumption) ?hrf2
    case hif2 => (simp only [List.getElem?_toArray, List.getElem?_cons_succ, List.getElem?_cons_zero]; rfl)
    case hqf2 => exact fun _ _ _ h => h
    case hwf2 => rfl
    case hyf2 => (intro w0 hSw; (try dsimp only at hSw); go_simp; try with_reducible rfl)
    (try simp only [Act.put, List.setIfInBounds_toArray, List.set_cons_zero, List.set_cons_succ])
    refine' wpAnyH_take (i := 3) ?hif3 (by kernel_rfl) (by kernel_rfl) (by kernel_rfl) ?hqf3 (Or.inl ⟨?hwf3, ?hyf3⟩) (by assumption) ?hrf3
    case hif3 => (simp only [List.getElem?_toArray, List.getElem?_cons_succ, List.getElem?_cons_zero]; rfl)
    case hqf3 => exact fun _ _ _ h => h
    case hwf3 => rfl
    case hyf3 => (intro w0 hSw; (try dsimp only at hSw); go_simp; try with_reducible rfl)
    (try simp only [Act.put, List.setIfInBounds_toArray, List.set_cons_zero, List.set_cons_succ])
    refine' wpAnyH_take (i := 4) ?hif4 (by kernel_rfl) (by kernel_rfl) (by kernel_rfl) ?hqf4 (Or.inl ⟨?hwf4, ?hyf4⟩) (by assumption) ?hrf4
    case hif4 => (simp only [List.getElem?_toArray, List.getElem?_cons_succ, List.getElem?_cons_zero]; rfl)
    case hqf4 => exact fun _ _ _ h => h
    case hwf4 => rfl
    case hyf4 => (intro w0 hSw; (try dsimp only at hSw); go_simp; try with_reducible rfl)
    (try simp only [Act.put, List.setIfInBounds_toArray, List.set_cons_zero, List.set_cons_succ])
    refine' wpAnyH_take (i := 7) ?hif7 (by kernel_rfl) (by kernel_rfl) (by kernel_rfl) ?hqf7 (Or.inl ⟨?hwf7, ?hyf7⟩) (by assumption) ?hrf7
    case hif7 => (simp only [List.getElem?_toArray, List.getElem?_cons_succ, List.getElem?_cons_zero]; rfl)
    case hqf7 => exact fun _ _ _ h => h
    case hwf7 => rfl
    case hyf7 => (intro w0 hSw; (try dsimp only at hSw); go_simp; try with_reducible rfl)
    (try simp only [Act.put, List.setIfInBounds_toArray, List.set_cons_zero, List.set_cons_succ])
    refine' wpAnyH_take (i := 8) ?hif8 (by kernel_rfl) (by kernel_rfl) (by kernel_rfl) ?hqf8 (Or.inl ⟨?hwf8, ?hyf8⟩) (by assumption) ?hrf8
    case hif8 => (simp only [List.getElem?_toArray, List.getElem?_cons_succ, List.getElem?_cons_zero]; rfl)
    case hqf8 => exact fun _ _ _ h => h
    case hwf8 => rfl
    case hyf8 => (intro w0 hSw; (try dsimp only at hSw); go_simp; try with_reducible rfl)
    (try simp only [Act.put, List.setIfInBounds_toArray, List.set_cons_zero, List.set_cons_succ])
    refine' wpAnyH_take (i := 9) ?hif9 (by kernel_rfl) (by kernel_rfl) (by kernel_rfl) ?hqf9 (Or.inl ⟨?hwf9, ?hyf9⟩) (by assumption) ?hrf9
    case hif9 => (simp only [List.getElem?_toArray, List.getElem?_cons_succ, List.getElem?_cons_zero]; rfl)
    case hqf9 => exact fun _ _ _ h => h
    case hwf9 => rfl
    case hyf9 => (intro w0 hSw; (try dsimp only at hSw); go_simp; try with_reducible rfl)
    (try simp only [Act.put, List.setIfInBounds_toArray, List.set_cons_zero, List.set_cons_succ])
    refine' wpAnyH_take (i := 10) ?hif10 (by kernel_rfl) (by kernel_rfl) (by kernel_rfl) ?hqf10 (Or.inl ⟨?hwf10, ?hyf10⟩) (by assumption) ?hrf10
    case hif10 => (simp only [List.getElem?_toArray, List.getElem?_cons_succ, List.getElem?_cons_zero]; rfl)
    case hqf10 => exact fun _ _ _ h => h
    case hwf10 => rfl
    case hyf10 => (intro w0 hSw; (try dsimp only at hSw); go_simp; try with_reducible rfl)
    (try simp only [Act.put, List.setIfInBounds_toArray, List.set_cons_zero, List.set_cons_succ])
    refine wpAnyH_ready (rs := [5]) (by kernel_rfl) (by simp) ?_
    refine' AllReadyH.cons ?hif5 (fun K hK => ?hrf5) AllReadyH.nil
    case hif5 => (simp only [List.getElem?_toArray, List.getElem?_cons_succ, List.getElem?_cons_zero]; rfl)
    go_simp
    skip
    refine hK.out _ _ ?_ (fun hHeld => ?_)
    · exact hkeep _ hkb1
    clear hK K
    (try simp only [Act.put, List.setIfInBounds_toArray, List.set_cons_zero, List.set_cons_succ])
    refine wpAnyH_ready (rs := [6]) (by kernel_rfl) (by simp) ?_
    refine' AllReadyH.cons ?hif6 (fun K hK => ?hrf6) AllReadyH.nil
    case hif6 => (simp only [List.getElem?_toArray, List.getElem?_cons_succ, List.getElem?_cons_zero]; rfl)
    refine opwp_append (s := .tmp 11) (x := .tmp 16) (t := 26) rfl rfl rfl rfl hrun ?_
    refine hK.out _ _ ?_ (fun hHeld => ?_)
    · exact hkeep _ HB2.out
    clear hK K
    (try simp only [Act.put, List.setIfInBounds_toArray, List.set_cons_zero, List.set_cons_succ])
    refine wpAnyH_ready (rs := [11]) (by kernel_rfl) (by simp) ?_
    refine' AllReadyH.cons ?hif11 (fun K hK => ?hrf11) AllReadyH.nil
    case hif11 => (simp only [List.getElem?_toArray, List.getElem?_cons_succ, List.getElem?_cons_zero]; rfl)
    go_simp
    (go_at_call 24; refine k.mono ?_; rintro x7 w7 ⟨v7, rfl, hO7, hb7⟩)
    refine hK.out _ _ ?_ (fun hHeld => ?_)
    · exact hkeep _ (HB2.out.trans hb7)
    clear hK K
    (try simp only [Act.put, List.setIfInBounds_toArray, List.set_cons_zero, List.set_cons_succ])
    refine' wpAnyH_take (i := 12) ?hif12 (by kernel_rfl) (by kernel_rfl) (by kernel_rfl) ?hqf12 (Or.inl ⟨?hwf12, ?hyf12⟩) (by assumption) ?hrf12
    case hif12 => (simp only [List.getElem?_toArray, List.getElem?_cons_succ, List.getElem?_cons_zero]; rfl)
    case hqf12 => exact fun _ _ _ h => h
    case hwf12 => rfl
    case hyf12 => (intro w0 hSw; (try dsimp only at hSw); go_simp; try with_reducible rfl)
    (try simp only [Act.put, List.setIfInBounds_toArray, List.set_cons_zero, List.set_cons_succ])
    refine wpAnyH_done (by kernel_rfl) ?_ _
    go_wp2_with fail
    go_ret
    exact ⟨_, rfl, by simpa [Tr.flt] using hO7, HB2.out.trans hb7⟩
  | .two u1 u2, F, S, v, vs, xs, w, h, hF, hS, hO, hn => by
    obtain ⟨b, v1, v2, rfl, hFb, hB, hl1, hl2⟩ := h
    obtain ⟨ty, x, rfl⟩ := hl1.form
    obtain ⟨ty2, x2, rfl⟩ := hl2.form
    have ih1 := aops u1 F S
    have ih2 := aops u2 F S
    have qW := cBW
    have qB := cBB
    have hb := hF b hFb
    have c0 : w.cell? ⟨b, 0, none⟩ = some (.iface ty x) := hB.cell 0
    have c1 : w.cell? ⟨b, 1, none⟩ = some (.iface ty2 x2) := hB.cell 1
    have hkeep : ∀ w', Below S w w' → w'.cell? ⟨b, 0, none⟩ = some (.iface ty x) ∧ w'.cell? ⟨b, 1, none⟩ = some (.iface ty2 x2) := fun w' h => ⟨(h.cell (p := ⟨b, 0, none⟩) hb).trans c0, (h.cell (p := ⟨b, 1, none⟩) hb).trans c1⟩
    have hn' : xs.length + (u1.flt.ops.length + u2.flt.ops.length) < 1000000 := by simpa [Tr.flt, joinF] using hn
    have k1 := ih1 (.iface ty x) vs xs w.drew hl1.drew hF hS (drewC hO) (by omega)
    have k2 := fun (w2 : World) (v2 : Value) (hb2 : Below S w w2) (hO2 : OwnC w2 (S ≤ ·) 9 v2 (texts (xs ++ u1.flt.ops))) => ih2 (.iface ty2 x2) v2 (xs ++ u1.flt.ops) w2 (hl2.turn (Turn.ofBelow hb2) fun k hk _ => by have := hF k hk; omega) hF (Nat.le_trans hS hb2.size) hO2 (by simp; omega)
    clear hO hl1 hl2 ih1 ih2 hB
    go_enter Tryd.func24, Tryd.ntmps24
    go_upto_region 7 with fail
    refine wp_region_held_drew (S := (fun w' => w'.cell? ⟨b, 0, none⟩ = some (.iface ty x) ∧ w'.cell? ⟨b, 1, none⟩ = some (.iface ty2 x2))) (by kernel_rfl) ?_ (fun hHeld => ?_)
    · exact ⟨c0, c1⟩
    refine' wpAnyH_take (i := 0) ?hig0 (by kernel_rfl) (by kernel_rfl) (by kernel_rfl) ?hqg0 (Or.inl ⟨?hwg0, ?hyg0⟩) (by assumption) ?hrg0
    case hig0 => (simp only [List.getElem?_toArray, List.getElem?_cons_succ, List.getElem?_cons_zero]; rfl)
    case hqg0 => exact fun _ _ _ h => h
    case hwg0 => rfl
    case hyg0 => (intro w0 hSw; (try dsimp only at hSw); go_simp; try with_reducible rfl)
    (try simp only [Act.put, List.setIfInBounds_toArray, List.set_cons_zero, List.set_cons_succ])
    refine' wpAnyH_take (i := 1) ?hig1 (by kernel_rfl) (by kernel_rfl) (by kernel_rfl) ?hqg1 (Or.inl ⟨?hwg1, ?hyg1⟩) (by assumption) ?hrg1
    case hig1 => (simp only [List.getElem?_toArray, List.getElem?_cons_succ, List.getElem?_cons_zero]; rfl)
    case hqg1 => exact fun _ _ _ h => h
    case hwg1 => rfl
    case hyg1 => (intro w0 hSw; (try dsimp only at hSw); go_simp; try with_reducible rfl)
    (try simp only [Act.put, List.setIfInBounds_toArray, List.set_cons_zero, List.set_cons_succ])
    refine' wpAnyH_take (i := 2) ?hig2 (by kernel_rfl) (by kernel_rfl) (by kernel_rfl) ?hqg2 (Or.inl ⟨?hwg2, ?hyg2⟩) (by assumption) ?hrg2
    case hig2 => (simp only [List.getElem?_toArray, List.getElem?_cons_succ, List.getElem?_cons_zero]; rfl)
    case hqg2 => exact fun _ _ _ h => h
    case hwg2 => rfl
    case hyg2 => (intro w0 hSw; (try dsimp only at hSw); go_simp; try with_reducible rfl)
    (try simp only [Act.put, List.setIfInBounds_toArray, List.set_cons_zero, List.set_cons_succ])
    refine' wpAnyH_take (i := 3) ?hig3 (by kernel_rfl) (by kernel_rfl) (by kernel_rfl) ?hqg3 (Or.inl ⟨?hwg3, ?hyg3⟩) (by assumption) ?hrg3
    case hig3 => (simp only [List.getElem?_toArray, List.getElem?_cons_succ, List.getElem?_cons_zero]; rfl)
    case hqg3 => exact fun _ _ _ h => h
    case hwg3 => rfl
    case hyg3 => (intro w0 hSw; (try dsimp only at hSw); go_simp; try with_reducible rfl)
    (try simp only [Act.put, List.setIfInBounds_toArray, List.set_cons_zero, List.set_cons_succ])
    refine' wpAnyH_take (i := 4) ?hig4 (by kernel_rfl) (by kernel_rfl) (by kernel_rfl) ?hqg4 (Or.inl ⟨?hwg4, ?hyg4⟩) (by assumption) ?hrg4
    case hig4 => (simp only [List.getElem?_toArray, List.getElem?_cons_succ, List.getElem?_cons_zero]; rfl)
    case hqg4 => exact fun _ _ _ h => h
    case hwg4 => rfl
    case hyg4 => (intro w0 hSw; (try dsimp only at hSw); go_simp; try with_reducible rfl)
    (try simp only [Act.put, List.setIfInBounds_toArray, List.set_cons_zero, List.set_cons_succ])
    refine' wpAnyH_take (i := 6) ?hig6 (by kernel_rfl) (by kernel_rfl) (by kernel_rfl) ?hqg6 (Or.inl ⟨?hwg6, ?hyg6⟩) (by assumption) ?hrg6
    case hig6 => (simp only [List.getElem?_toArray, List.getElem?_cons_succ, List.getElem?_cons_zero]; rfl)
    case hqg6 => exact fun _ _ _ h => h
    case hwg6 => rfl
    case hyg6 => (intro w0 hSw; (try dsimp only at hSw); go_simp; try with_reducible rfl)
    (try simp only [Act.put, List.setIfInBounds_toArray, List.set_cons_zero, List.set_cons_succ])
    refine' wpAnyH_take (i := 7) ?hig7 (by kernel_rfl) (by kernel_rfl) (by kernel_rfl) ?hqg7 (Or.inl ⟨?hwg7, ?hyg7⟩) (by assumption) ?hrg7
    case hig7 => (simp only [List.getElem?_toArray, List.getElem?_cons_succ, List.getElem?_cons_zero]; rfl)
    case hqg7 => exact fun _ _ _ h => h
    case hwg7 => rfl
    case hyg7 => (intro w0 hSw; (try dsimp only at hSw); go_simp; try with_reducible rfl)
    (try simp only [Act.put, List.setIfInBounds_toArray, List.set_cons_zero, List.set_cons_succ])
    refine' wpAnyH_take (i := 8) ?hig8 (by kernel_rfl) (by kernel_rfl) (by kernel_rfl) ?hqg8 (Or.inl ⟨?hwg8, ?hyg8⟩) (by assumption) ?hrg8
    case hig8 => (simp only [List.getElem?_toArray, List.getElem?_cons_succ, List.getElem?_cons_zero]; rfl)
    case hqg8 => exact fun _ _ _ h => h
    case hwg8 => rfl
    case hyg8 => (intro w0 hSw; (try dsimp only at hSw); go_simp; try with_reducible rfl)
    (try simp only [Act.put, List.setIfInBounds_toArray, List.set_cons_zero, List.set_cons_succ])
    refine' wpAnyH_take (i := 9) ?hig9 (by kernel_rfl) (by kernel_rfl) (by kernel_rfl) ?hqg9 (Or.inl ⟨?hwg9, ?hyg9⟩) (by assumption) ?hrg9
    case hig9 => (simp only [List.getElem?_toArray, List.getElem?_cons_succ, List.getElem?_cons_zero]; rfl)
    case hqg9 => exact fun _ _ _ h => h
    case hwg9 => rfl
    case hyg9 => (intro w0 hSw; (try dsimp only at hSw); go_simp; try with_reducible rfl)
    (try simp only [Act.put, List.setIfInBounds_toArray, List.set_cons_zero, List.set_cons_succ])
    refine wpAnyH_ready (rs := [5]) (by kernel_rfl) (by simp) ?_
    refine' AllReadyH.cons ?hig5 (fun K hK => ?hrg5) AllReadyH.nil
    case hig5 => (simp only [List.getElem?_toArray, List.getElem?_cons_succ, List.getElem?_cons_zero]; rfl)
    go_simp
    (go_at_call 24; refine k1.mono ?_; rintro x7 w7 ⟨v7, rfl, hO7, hb7⟩); have hb7 : Below S w w7 := (Below.drew (Below.refl S w)).trans hb7
    refine hK.out _ _ ?_ (fun hHeld => ?_)
    · exact hkeep _ hb7
    clear hK K
    (try simp only [Act.put, List.setIfInBounds_toArray, List.set_cons_zero, List.set_cons_succ])
    refine wpAnyH_ready (rs := [10]) (by kernel_rfl) (by simp) ?_
    refine' AllReadyH.cons ?hig10 (fun K hK => ?hrg10) AllReadyH.nil
    case hig10 => (simp only [List.getElem?_toArray, List.getElem?_cons_succ, List.getElem?_cons_zero]; rfl)
    go_simp
    (go_at_call 24; refine (k2 _ _ hb7 hO7).mono ?_; rintro x8 w8 ⟨v8, rfl, hO8, hb8⟩)
    refine hK.out _ _ ?_ (fun hHeld => ?_)
    · exact hkeep _ (hb7.trans hb8)
    clear hK K
    (try simp only [Act.put, List.setIfInBounds_toArray, List.set_cons_zero, List.set_cons_succ])
    refine' wpAnyH_take (i := 11) ?hig11 (by kernel_rfl) (by kernel_rfl) (by kernel_rfl) ?hqg11 (Or.inl ⟨?hwg11, ?hyg11⟩) (by assumption) ?hrg11
    case hig11 => (simp only [List.getElem?_toArray, List.getElem?_cons_succ, List.getElem?_cons_zero]; rfl)
    case hqg11 => exact fun _ _ _ h => h
    case hwg11 => rfl
    case hyg11 => (intro w0 hSw; (try dsimp only at hSw); go_simp; try with_reducible rfl)
    (try simp only [Act.put, List.setIfInBounds_toArray, List.set_cons_zero, List.set_cons_succ])
    refine wpAnyH_done (by kernel_rfl) ?_ _
    go_wp2_with fail
    go_ret
    exact ⟨_, rfl, by simpa [Tr.flt, joinF] using hO8, hb7.trans hb8⟩

/-- Ops -/
theorem fops_any (o : Option Tr) (F : Nat → Prop) (v : Value) (w : World) (h : LieO w F v o) (hn : (fltO o).ops.length < 1000000) : Calls Tryd.prog 9 #[v] w fun x w' => ∃ v', x = .returned v' ∧ OwnC w' (w.heap.size ≤ ·) 9 v' (texts (fltO o).ops) ∧ Below w.heap.size w w' := by
  cases o with
  | none =>
    cases h
    have k := aops_nil w
    go_enter Tryd.func9, Tryd.ntmps9
    go_wp2_with (go_at_call 24; refine k.mono ?_; rintro x7 w7 ⟨rfl, rfl⟩)
    go_ret
    exact ⟨_, rfl, OwnC.nil _ _ _, Below.refl _ _⟩
  | some t =>
    have k := aops t _ w.heap.size v (.slice none 0 0) [] w (Lie.cap h) (fun k hk => hk.2) (Nat.le_refl _) (OwnC.nil _ _ _) (by simpa [fltO] using hn)
    clear h
    go_enter Tryd.func9, Tryd.ntmps9
    go_wp2_with (go_at_call 24; refine k.mono ?_; rintro x7 w7 ⟨v7, rfl, hO7, hb7⟩)
    go_ret
    exact ⟨_, rfl, by simpa [fltO] using hO7, hb7⟩
end Go.Proofs.YtlbieneklijpeaaDoor.fault
