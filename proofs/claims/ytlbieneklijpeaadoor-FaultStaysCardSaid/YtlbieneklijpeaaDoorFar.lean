/-
  errors.as: the first report.
-/
import Derived.Test.YtlbieneklijpeaaDoorFat
namespace Go.Proofs.YtlbieneklijpeaaDoor.fault
open Go.RowKit Go.Proofs.YtlbieneklijpeaaDoor.mem Go.Proofs.YtlbieneklijpeaaDoor.sha Go.Proofs.YtlbieneklijpeaaDoor.ids Go.Proofs.YtlbieneklijpeaaDoor.rows Go.Extern.Stop Go.Stop Go.Extern

/-- what errors.as leaves for a report -/
def RepOut (w w' : World) (F : Nat → Prop) (g : Nat) (reps : List (List Id)) : Prop :=
  (reps = [] ∧ Below w.heap.size w w') ∨ ∃ L M p, reps = L :: M ∧ Lie w' F (.iface 64 p) (.rep L) ∧ Blk w' g 64 #[p] ∧ Turn (fun k => k = g ∨ w.heap.size ≤ k) w w'
set_option maxHeartbeats 4000000 in
set_option maxRecDepth 100000 in
theorem as_rep : ∀ (n : Nat) (t : Tr) (F : Nat → Prop) (v : Value) (w : World) (a : Addr) (g : Nat), t.size ≤ n → Lie w F v t → w.cell? a = some (.pointer (some ⟨g, 0, none⟩)) → (∃ old, Blk w g 64 #[old]) → ¬ F g →
    Calls Tryd.prog 35 #[v, .iface 66 (.pointer (some ⟨g, 0, none⟩)), .agg #[.pointer (some ⟨1, 66, none⟩), .pointer (some a), .int .u64 150], .iface 98 (.agg #[.pointer (some ⟨1, 64, none⟩)])] w fun x w' =>
      x = .returned (.bool (!t.flt.reps.isEmpty)) ∧ RepOut w w' F g t.flt.reps
  | 0, t, F, v, w, a, g, hn, h, ha, ho, hFg => by cases t <;> simp [Tr.size] at hn
  | n + 1, t, F, v, w, a, g, hn, h, ha, ho, hFg => by
    have ih := as_rep n
    have hT := @run_callFunc_extern Tryd.prog 30 _ Extern.ReflectliteType.typeOf Tryd.func30 (by kernel_rfl) (by kernel_rfl) (by kernel_rfl) (by kernel_rfl)
    have hV := @run_callFunc_extern Tryd.prog 32 _ (fun args => ReflectliteValue.unpack (args.getD 0 (.tuple #[]))) Tryd.func32 (by kernel_rfl) (by kernel_rfl) (by kernel_rfl) (by kernel_rfl)
    have hA := @run_callFunc_extern Tryd.prog 67 _ (ReflectliteType.relation "AssignableTo" ReflectliteType.assignableTo) Tryd.func67 (by kernel_rfl) (by kernel_rfl) (by kernel_rfl) (by kernel_rfl)
    have hE := @run_callFunc_extern Tryd.prog 37 _ (ReflectliteValue.method (ReflectliteValue.valueError "reflectlite.Value.Elem" 0) ReflectliteValue.elem) Tryd.func37 (by kernel_rfl) (by kernel_rfl) (by kernel_rfl) (by kernel_rfl)
    have hS := @run_callFunc_extern Tryd.prog 38 _ ReflectliteValue.set Tryd.func38 (by kernel_rfl) (by kernel_rfl) (by kernel_rfl) (by kernel_rfl)
    have hJ0 : AsAt w w.heap.size 66 a g 64 (w.alloc (.cells #[.pointer (some ⟨1, 66, none⟩), .pointer (some a), .int .u64 150] 90)) := by
      obtain ⟨old, ho⟩ := ho
      have hb := (Below.refl w.heap.size w).alloc (Nat.le_refl _) (.cells #[.pointer (some ⟨1, 66, none⟩), .pointer (some a), .int .u64 150] 90)
      exact ⟨Blk.new w _ _, (hb.cell (block_lt_of_cell ha)).trans ha, ⟨old, ho.alloc _⟩, hb⟩
    have hl0 := h.next hJ0.below
    have HJ0 := Lib.hid hJ0
    have HL0 := Lib.hid hl0
    clear hJ0 hl0 h ha ho
    go_enter Tryd.func35, Tryd.ntmps35
    go_wp2_with fail
    obtain ⟨S, hSS⟩ : ∃ S, S = w.heap.size := ⟨_, rfl⟩
    rw [← hSS]
    rw [← hSS] at HJ0
    have HS := Lib.hid hSS
    clear hSS
    go_loopg [0] (n + 1) (fun k p wr => ∃ s : Tr, k ≤ n + 1 ∧ s.size ≤ k ∧ Lie wr F p s ∧ s.flt.reps = t.flt.reps ∧ AsAt w S 66 a g 64 wr)
    case atStart => exact ⟨t, Nat.le_refl _, hn, HL0.out, rfl, HJ0.out⟩
    case round =>
      obtain ⟨s, hk, hs, hl, hc, hj⟩ := hrel
      have hc' := Lib.hid hc
      clear hc HJ0 HL0
      have HJ := Lib.hid hj
      have d0 : wr.cell? ⟨S, 0, none⟩ = some (.pointer (some ⟨1, 66, none⟩)) := hj.box.cell 0
      have d1 : wr.cell? ⟨S, 1, none⟩ = some (.pointer (some a)) := hj.box.cell 1
      have d2 : wr.cell? ⟨S, 2, none⟩ = some (.int .u64 150) := hj.box.cell 2
      obtain ⟨old, ho⟩ := hj.tgt
      have hval := hj.val
      clear hj
      have m1 := mAs
      cases s with
      | num m =>
        obtain ⟨rfl, hm⟩ := hl
        have t1 := tyE
        have t2 := asgER
        have q1 := nAsE
        have q2 := nUnE
        have q3 := nUsE
        clear hm
        go_wp2_with fail
        go_ret
        rw [← hc'.out]
        exact ⟨rfl, .inl ⟨rfl, HJ.out.below⟩⟩
      | rep L =>
        have HL := Lib.hid hl
        obtain ⟨b, ad, cap, rfl, -⟩ := hl
        have t1 := tyR
        have t2 := asgRR
        have t3 := voR ⟨b, 0, none⟩
        have t5 := elemPR a ⟨g, 0, none⟩ wr hval
        have t6 := setR ⟨g, 0, none⟩ ⟨wr.heap.size, 0, none⟩ ⟨b, 0, none⟩ old (wr.alloc (.cells #[.pointer (some ⟨b, 0, none⟩)] 64)) ((Blk.new wr _ _).cell 0) ((ho.alloc _).cell 0) ((ho.alloc _).frozen 0)
        have HO := Lib.hid ho
        have HFG := Lib.hid hFg
        clear ho hFg
        go_wp2_with fail
        go_ret
        rw [← hc'.out]
        have hnew : New (fun k => k = g ∨ wr.heap.size ≤ k) wr := fun k hk => .inr hk
        have hT : Turn (fun k => k = g ∨ wr.heap.size ≤ k) wr _ := ((Turn.refl _ wr).alloc hnew (.cells #[.pointer (some ⟨b, 0, none⟩)] 64)).setCell (p := ⟨g, 0, none⟩) (.inl rfl) (.pointer (some ⟨b, 0, none⟩))
        refine ⟨rfl, .inr ⟨L, [], .pointer (some ⟨b, 0, none⟩), rfl, ?_, (HO.out.alloc _).set_ 0 _, ?_⟩⟩
        · exact HL.out.turn hT fun k hk hlt h => h.elim (fun e => HFG.out (e ▸ hk)) (by omega)
        · exact (Turn.fresh HJ.out.below fun k hk => .inr hk).trans (hT.mono fun k hk => hk.elim .inl fun h => .inr (Nat.le_trans HJ.out.below.size h))
      | wr op u =>
        obtain ⟨b, v', rfl, hF, hB, hl2⟩ := hl
        obtain ⟨ty, x, rfl⟩ := hl2.form
        have t1 := tyW
        have t2 := asgWR
        have p1 := nAsW
        have p2 := hUnW
        have p4 := mUnW
        clear hF
        go_wp2_with (go_at_call 59; refine (unW hB).mono ?_; rintro x w' ⟨rfl, rfl⟩)
        go_roundg u.size
        case measure => simp [Tr.size] at hs; omega
        case rel => exact ⟨u, by simp [Tr.size] at hs; omega, Nat.le_refl _, hl2, hc'.out, HJ.out⟩
      | two u1 u2 =>
        obtain ⟨b, v1, v2, rfl, hF, hB, hl1, hl2⟩ := hl
        obtain ⟨ty1, x1, rfl⟩ := hl1.form
        obtain ⟨ty2, x2, rfl⟩ := hl2.form
        have t1 := tyB
        have t2 := asgBR
        have b1 := nAsB
        have b2 := nUnB
        have b3 := hUsB
        have b4 := mUsB
        have hs1 : u1.size ≤ n := by simp [Tr.size] at hs; omega
        have hs2 : u2.size ≤ n := by simp [Tr.size] at hs; omega
        have HH : Hid (u1.flt.reps ++ u2.flt.reps = t.flt.reps) := Lib.hid (by rw [← hc'.out]; rfl)
        clear hF
        go_wp2_with (go_at_call 60; refine (unB hB).mono ?_; rintro x w' ⟨rfl, rfl⟩)
        obtain ⟨g2, hg⟩ : ∃ g, g = wr.heap.size := ⟨_, rfl⟩
        obtain ⟨w1, hw1⟩ : ∃ u, u = (wr.alloc (Obj.cells #[Value.iface ty1 x1, Value.iface ty2 x2] 24)).drew := ⟨_, rfl⟩
        have hB1 : Blk w1 g2 24 #[.iface ty1 x1, .iface ty2 x2] := by rw [hw1, hg]; exact Blk.new _ _ _
        have hb1 : Below wr.heap.size wr w1 := by rw [hw1]; exact below_drewN ((Below.refl _ _).alloc (Nat.le_refl _) _) 1
        refine wp_at hw1.symm ?_
        rw [← hg]
        have c0 : w1.cell? ⟨g2, 0, none⟩ = some (.iface ty1 x1) := hB1.cell 0
        have hj1 := HJ.out.next hb1
        have e0 : w1.cell? ⟨S, 0, none⟩ = some (.pointer (some ⟨1, 66, none⟩)) := hj1.box.cell 0
        have e1 : w1.cell? ⟨S, 1, none⟩ = some (.pointer (some a)) := hj1.box.cell 1
        have e2 : w1.cell? ⟨S, 2, none⟩ = some (.int .u64 150) := hj1.box.cell 2
        have k1 := ih u1 F _ _ a g hs1 (hl1.next hb1) hj1.val hj1.tgt hFg
        have HJ1 := Lib.hid hj1
        have HW := Lib.hid hw1
        have HG := Lib.hid hg
        have HL2 := Lib.hid (hl2.next hb1)
        have HB1 := Lib.hid hB1
        have HFG := Lib.hid hFg
        clear hw1 hg hB t1 t2 b1 b2 b3 b4 hj1 d0 d1 d2 ho hval hl1 hl2 hB1 hFg
        cases h1 : u1.flt.reps with
        | cons L M =>
          have k1' : Calls Tryd.prog 35 #[.iface ty1 x1, .iface 66 (.pointer (some ⟨g, 0, none⟩)), .agg #[.pointer (some ⟨1, 66, none⟩), .pointer (some a), .int .u64 150], .iface 98 (.agg #[.pointer (some ⟨1, 64, none⟩)])] w1 fun x w' =>
              x = .returned (.bool true) ∧ RepOut w1 w' F g (L :: M) := by rw [h1] at k1; exact k1
          have H1 := Lib.hid h1
          clear h1 k1
          refine wp_loop_rounds 1 ?_
          rw [rounds_succ]
          go_wp2_with (go_at_call 35; refine k1'.mono ?_; rintro x w2 ⟨rfl, ho2⟩)
          go_ret
          rw [← HH.out, H1.out]
          refine ⟨rfl, .inr ?_⟩
          rcases ho2 with ⟨he, -⟩ | ⟨L', M', p, he, hp, hb, ht⟩
          · cases he
          · cases he
            exact ⟨L, M ++ u2.flt.reps, p, rfl, hp, hb, (Turn.fresh HJ1.out.below fun k hk => .inr hk).trans (ht.mono fun k hk => hk.elim .inl fun h => .inr (Nat.le_trans HJ1.out.below.size h))⟩
        | nil =>
          have k1' : Calls Tryd.prog 35 #[.iface ty1 x1, .iface 66 (.pointer (some ⟨g, 0, none⟩)), .agg #[.pointer (some ⟨1, 66, none⟩), .pointer (some a), .int .u64 150], .iface 98 (.agg #[.pointer (some ⟨1, 64, none⟩)])] w1 fun x w' =>
              x = .returned (.bool false) ∧ Below w1.heap.size w1 w' := by
            rw [h1] at k1
            refine k1.mono ?_
            rintro x w' ⟨rfl, ⟨-, hb⟩ | ⟨L', M', p, he, _⟩⟩
            · exact ⟨rfl, hb⟩
            · cases he
          have H1 := Lib.hid h1
          have k2 := fun w2 (hb2 : Below w1.heap.size w1 w2) => ih u2 F (.iface ty2 x2) w2 a g hs2 (HL2.out.next hb2) (HJ1.out.next hb2).val (HJ1.out.next hb2).tgt HFG.out
          obtain ⟨bb, hbb⟩ : ∃ b, b = !u2.flt.reps.isEmpty := ⟨_, rfl⟩
          rw [← hbb] at k2
          have HBB := Lib.hid hbb
          clear h1 k1 hbb
          refine wp_loop_rounds 3 ?_
          rw [rounds_succ]
          go_wp2_with (go_at_call 35; refine k1'.mono ?_; rintro x w2 ⟨rfl, hb2⟩)
          have c1 : w2.cell? ⟨g2, 1, none⟩ = some (.iface ty2 x2) := (HB1.out.below hb2 HB1.out.lt).cell 1
          have hj2 := HJ1.out.next hb2
          have f0 : w2.cell? ⟨S, 0, none⟩ = some (.pointer (some ⟨1, 66, none⟩)) := hj2.box.cell 0
          have f1 : w2.cell? ⟨S, 1, none⟩ = some (.pointer (some a)) := hj2.box.cell 1
          have f2 : w2.cell? ⟨S, 2, none⟩ = some (.int .u64 150) := hj2.box.cell 2
          have HJ2 := Lib.hid hj2
          have HB2 := Lib.hid hb2
          clear hj2 e0 e1 e2 c0
          cases bb with
          | true =>
            rw [rounds_succ]
            go_wp2_with (go_at_call 35; refine (k2 _ HB2.out).mono ?_; rintro x w3 ⟨rfl, ho3⟩)
            go_ret
            rw [← HH.out, H1.out, List.nil_append]
            refine ⟨by rw [← HBB.out]; rfl, ?_⟩
            rcases ho3 with ⟨he, hb⟩ | ⟨L', M', p, he, hp, hb, ht⟩
            · exact .inl ⟨he, HJ2.out.below.trans (hb.mono HJ2.out.below.size)⟩
            · exact .inr ⟨L', M', p, he, hp, hb, (Turn.fresh HJ2.out.below fun k hk => .inr hk).trans (ht.mono fun k hk => hk.elim .inl fun h => .inr (Nat.le_trans HJ2.out.below.size h))⟩
          | false =>
            rw [rounds_succ]
            go_wp2_with (go_at_call 35; refine (k2 _ HB2.out).mono ?_; rintro x w3 ⟨rfl, ho3⟩)
            rw [rounds_succ]
            go_wp2_with fail
            go_ret
            rw [← HH.out, H1.out, List.nil_append]
            refine ⟨by rw [← HBB.out]; rfl, ?_⟩
            rcases ho3 with ⟨he, hb⟩ | ⟨L', M', p, he, hp, hb, ht⟩
            · exact .inl ⟨he, HJ2.out.below.trans (hb.mono HJ2.out.below.size)⟩
            · exact .inr ⟨L', M', p, he, hp, hb, (Turn.fresh HJ2.out.below fun k hk => .inr hk).trans (ht.mono fun k hk => hk.elim .inl fun h => .inr (Nat.le_trans HJ2.out.below.size h))⟩
end Go.Proofs.YtlbieneklijpeaaDoor.fault
