/-
  errors.as: the first number; the first report.
-/
import Derived.Test.YtlbieneklijpeaaDoorFas
namespace Go.Proofs.YtlbieneklijpeaaDoor.fault
open Go.RowKit Go.Proofs.YtlbieneklijpeaaDoor.mem Go.Proofs.YtlbieneklijpeaaDoor.sha Go.Proofs.YtlbieneklijpeaaDoor.ids Go.Proofs.YtlbieneklijpeaaDoor.rows Go.Extern.Stop Go.Stop Go.Extern

/-- what errors.as keeps: its own box, the target's Value, the target -/
structure AsAt (w0 : World) (S : Nat) (pt : Nat) (a : Addr) (g : Nat) (te : Nat) (w : World) : Prop where
  box : Blk w S 90 #[.pointer (some ⟨1, pt, none⟩), .pointer (some a), .int .u64 150]
  val : w.cell? a = some (.pointer (some ⟨g, 0, none⟩))
  tgt : ∃ old, Blk w g te #[old]
  below : Below w0.heap.size w0 w
theorem AsAt.next {w0 w w' : World} {S pt : Nat} {a : Addr} {g te : Nat} (h : AsAt w0 S pt a g te w) (hb : Below w.heap.size w w') : AsAt w0 S pt a g te w' := by
  obtain ⟨old, ho⟩ := h.tgt
  exact ⟨h.box.below hb h.box.lt, (hb.cell (block_lt_of_cell h.val)).trans h.val, ⟨old, ho.below hb ho.lt⟩, h.below.trans (hb.mono h.below.size)⟩

set_option maxHeartbeats 4000000 in
set_option maxRecDepth 100000 in
theorem as_num : ∀ (n : Nat) (t : Tr) (F : Nat → Prop) (v : Value) (w : World) (a : Addr) (g : Nat), t.size ≤ n → Lie w F v t → w.cell? a = some (.pointer (some ⟨g, 0, none⟩)) → (∃ old, Blk w g 35 #[old]) →
    Calls Tryd.prog 35 #[v, .iface 72 (.pointer (some ⟨g, 0, none⟩)), .agg #[.pointer (some ⟨1, 72, none⟩), .pointer (some a), .int .u64 150], .iface 98 (.agg #[.pointer (some ⟨1, 35, none⟩)])] w fun x w' =>
      x = .returned (.bool true) ∧ Blk w' g 35 #[.int .i64 (t.flt.nums.headD 0)] ∧ Turn (fun k => k = g ∨ w.heap.size ≤ k) w w'
  | 0, t, F, v, w, a, g, hn, h, ha, ho => by cases t <;> simp [Tr.size] at hn
  | n + 1, t, F, v, w, a, g, hn, h, ha, ho => by
    have ih := as_num n
    have hT := @run_callFunc_extern Tryd.prog 30 _ Extern.ReflectliteType.typeOf Tryd.func30 (by kernel_rfl) (by kernel_rfl) (by kernel_rfl) (by kernel_rfl)
    have hV := @run_callFunc_extern Tryd.prog 32 _ (fun args => ReflectliteValue.unpack (args.getD 0 (.tuple #[]))) Tryd.func32 (by kernel_rfl) (by kernel_rfl) (by kernel_rfl) (by kernel_rfl)
    have hA := @run_callFunc_extern Tryd.prog 67 _ (ReflectliteType.relation "AssignableTo" ReflectliteType.assignableTo) Tryd.func67 (by kernel_rfl) (by kernel_rfl) (by kernel_rfl) (by kernel_rfl)
    have hE := @run_callFunc_extern Tryd.prog 37 _ (ReflectliteValue.method (ReflectliteValue.valueError "reflectlite.Value.Elem" 0) ReflectliteValue.elem) Tryd.func37 (by kernel_rfl) (by kernel_rfl) (by kernel_rfl) (by kernel_rfl)
    have hS := @run_callFunc_extern Tryd.prog 38 _ ReflectliteValue.set Tryd.func38 (by kernel_rfl) (by kernel_rfl) (by kernel_rfl) (by kernel_rfl)
    have hJ0 : AsAt w w.heap.size 72 a g 35 (w.alloc (.cells #[.pointer (some ⟨1, 72, none⟩), .pointer (some a), .int .u64 150] 90)) := by
      obtain ⟨old, ho⟩ := ho
      have hb := (Below.refl w.heap.size w).alloc (Nat.le_refl _) (.cells #[.pointer (some ⟨1, 72, none⟩), .pointer (some a), .int .u64 150] 90)
      exact ⟨Blk.new w _ _, (hb.cell (block_lt_of_cell ha)).trans ha, ⟨old, ho.alloc _⟩, hb⟩
    have hl0 := h.next hJ0.below
    have HJ0 := Lib.hid hJ0
    have HL0 := Lib.hid hl0
    clear hJ0 hl0 h ha ho
    go_enter Tryd.func35, Tryd.ntmps35
    go_wp2_with fail
    obtain ⟨S, hSS⟩ : ∃ S, S = w.heap.size := ⟨_, rfl⟩
    rw [← hSS]
    rw [← hSS] at HJ0
    have HS := Lib.hid hSS
    clear hSS
    go_loopg [0] (n + 1) (fun k p wr => ∃ s : Tr, k ≤ n + 1 ∧ s.size ≤ k ∧ Lie wr F p s ∧ s.flt.nums.headD 0 = t.flt.nums.headD 0 ∧ AsAt w S 72 a g 35 wr)
    case atStart => exact ⟨t, Nat.le_refl _, hn, HL0.out, rfl, HJ0.out⟩
    case round =>
      obtain ⟨s, hk, hs, hl, hc, hj⟩ := hrel
      have hc' := Lib.hid hc
      clear hc HJ0 HL0
      have HJ := Lib.hid hj
      have d0 : wr.cell? ⟨S, 0, none⟩ = some (.pointer (some ⟨1, 72, none⟩)) := hj.box.cell 0
      have d1 : wr.cell? ⟨S, 1, none⟩ = some (.pointer (some a)) := hj.box.cell 1
      have d2 : wr.cell? ⟨S, 2, none⟩ = some (.int .u64 150) := hj.box.cell 2
      obtain ⟨old, ho⟩ := hj.tgt
      have hval := hj.val
      clear hj
      have m1 := mAs
      cases s with
      | num m =>
        obtain ⟨rfl, hm⟩ := hl
        have t1 := tyE
        have t2 := asgEE
        have t3 := voE m
        have t4 := fun W h => elemPE a ⟨g, 0, none⟩ W h
        have t5 := elemPE a ⟨g, 0, none⟩ wr hval
        have hbb : Below wr.heap.size wr (wr.alloc (.cells #[.int .i64 m] 35)) := (Below.refl _ _).alloc (Nat.le_refl _) _
        have t6 := setE ⟨g, 0, none⟩ ⟨wr.heap.size, 0, none⟩ m old (wr.alloc (.cells #[.int .i64 m] 35)) ((Blk.new wr _ _).cell 0) ((ho.alloc _).cell 0) ((ho.alloc _).frozen 0)
        clear t4
        have HO := Lib.hid ho
        clear ho hm
        go_wp2_with fail
        go_ret
        refine ⟨rfl, ?_, ?_⟩
        · have := ((HO.out.alloc (.cells #[.int .i64 m] 35)).set_ 0 (.int .i64 m))
          rw [← hc'.out]
          exact this
        · have hnew : New (fun k => k = g ∨ w.heap.size ≤ k) w := fun k hk => .inr hk
          exact ((Turn.fresh HJ.out.below hnew).alloc hnew _).setCell (p := ⟨g, 0, none⟩) (.inl rfl) _
      | rep L =>
        obtain ⟨b, ad, cap, rfl, hF, hB, hR, hG, hne, hmx⟩ := hl
        have t1 := tyR
        have t2 := asgRE
        have r1 := nAsR
        have r2 := hUnR
        have r4 := mUnR
        clear hF hG hne hmx
        go_wp2_with (go_at_call 58; refine (unR _ _).mono ?_; rintro x w' ⟨rfl, rfl⟩)
        go_roundg 1
        case measure => simp [Tr.size] at hs; omega
        case rel => exact ⟨.num 16, by omega, Nat.le_refl _, ⟨rfl, by decide⟩, hc'.out, HJ.out⟩
      | wr op u =>
        obtain ⟨b, v', rfl, hF, hB, hl2⟩ := hl
        obtain ⟨ty, x, rfl⟩ := hl2.form
        have t1 := tyW
        have t2 := asgWE
        have p1 := nAsW
        have p2 := hUnW
        have p4 := mUnW
        clear hF
        go_wp2_with (go_at_call 59; refine (unW hB).mono ?_; rintro x w' ⟨rfl, rfl⟩)
        go_roundg u.size
        case measure => simp [Tr.size] at hs; omega
        case rel => exact ⟨u, by simp [Tr.size] at hs; omega, Nat.le_refl _, hl2, hc'.out, HJ.out⟩
      | two u1 u2 =>
        obtain ⟨b, v1, v2, rfl, hF, hB, hl1, hl2⟩ := hl
        obtain ⟨ty1, x1, rfl⟩ := hl1.form
        obtain ⟨ty2, x2, rfl⟩ := hl2.form
        have t1 := tyB
        have t2 := asgBE
        have b1 := nAsB
        have b2 := nUnB
        have b3 := hUsB
        have b4 := mUsB
        have hs1 : u1.size ≤ n := by simp [Tr.size] at hs; omega
        have HH : Hid (u1.flt.nums.headD 0 = t.flt.nums.headD 0) := Lib.hid (by
          rw [← hc'.out]
          have := u1.nums_ne
          simp only [Tr.flt, joinF]
          cases hq : u1.flt.nums with
          | nil => exact absurd hq this
          | cons c l => rfl)
        clear hF hl2
        go_wp2_with (go_at_call 60; refine (unB hB).mono ?_; rintro x w' ⟨rfl, rfl⟩)
        obtain ⟨g2, hg⟩ : ∃ g, g = wr.heap.size := ⟨_, rfl⟩
        obtain ⟨w1, hw1⟩ : ∃ u, u = (wr.alloc (Obj.cells #[Value.iface ty1 x1, Value.iface ty2 x2] 24)).drew := ⟨_, rfl⟩
        have hB1 : Blk w1 g2 24 #[.iface ty1 x1, .iface ty2 x2] := by rw [hw1, hg]; exact Blk.new _ _ _
        have hb1 : Below wr.heap.size wr w1 := by rw [hw1]; exact below_drewN ((Below.refl _ _).alloc (Nat.le_refl _) _) 1
        refine wp_at hw1.symm ?_
        rw [← hg]
        have c0 : w1.cell? ⟨g2, 0, none⟩ = some (.iface ty1 x1) := hB1.cell 0
        have hj1 := HJ.out.next hb1
        have e0 : w1.cell? ⟨S, 0, none⟩ = some (.pointer (some ⟨1, 72, none⟩)) := hj1.box.cell 0
        have e1 : w1.cell? ⟨S, 1, none⟩ = some (.pointer (some a)) := hj1.box.cell 1
        have e2 : w1.cell? ⟨S, 2, none⟩ = some (.int .u64 150) := hj1.box.cell 2
        have k1 := ih u1 F _ _ a g hs1 (hl1.next hb1) hj1.val hj1.tgt
        have HJ1 := Lib.hid hj1
        have HW := Lib.hid hw1
        have HG := Lib.hid hg
        clear hw1 hg hB t1 t2 b1 b2 b3 b4 hj1 d0 d1 d2 ho hval hl1
        refine wp_loop_rounds 1 ?_
        rw [rounds_succ]
        go_wp2_with (go_at_call 35; refine k1.mono ?_; rintro x w2 ⟨rfl, hbk, ht2⟩)
        go_ret
        rw [HH.out] at hbk
        refine ⟨rfl, hbk, (Turn.fresh HJ1.out.below fun k hk => .inr hk).trans (ht2.mono fun k hk => hk.elim .inl fun h => .inr (Nat.le_trans HJ1.out.below.size h))⟩
end Go.Proofs.YtlbieneklijpeaaDoor.fault
