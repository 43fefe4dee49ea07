/-
  errors.Is of an error of package fault and a number.
-/
import Derived.Test.YtlbieneklijpeaaDoorFtr
import Derived.Deep.LoopGhost
import Derived.LaidEql
import Derived.Stop.Asserts
import Derived.RowKitTokens
namespace Go.Proofs.YtlbieneklijpeaaDoor.fault
open Go.RowKit Go.Proofs.YtlbieneklijpeaaDoor.mem Go.Proofs.YtlbieneklijpeaaDoor.sha Go.Proofs.YtlbieneklijpeaaDoor.ids Go.Proofs.YtlbieneklijpeaaDoor.rows Go.Extern.Stop Go.Stop Go.Extern

/-! What the assertions find. -/
theorem nIsE (v : Value) (xT : TypeId) (w : World) : (Instr.typeAssert (.iface 35 v) xT 100 true).run Tryd.prog w = .ok (.tuple #[.nilIface, .bool false]) w := run_typeAssert_lacksB Tryd.underlying100 (by kernel_rfl) (by kernel_rfl) v xT w
theorem nIsR (v : Value) (xT : TypeId) (w : World) : (Instr.typeAssert (.iface 64 v) xT 100 true).run Tryd.prog w = .ok (.tuple #[.nilIface, .bool false]) w := run_typeAssert_lacksB Tryd.underlying100 (by kernel_rfl) (by kernel_rfl) v xT w
theorem nIsW (v : Value) (xT : TypeId) (w : World) : (Instr.typeAssert (.iface 73 v) xT 100 true).run Tryd.prog w = .ok (.tuple #[.nilIface, .bool false]) w := run_typeAssert_lacksB Tryd.underlying100 (by kernel_rfl) (by kernel_rfl) v xT w
theorem nIsB (v : Value) (xT : TypeId) (w : World) : (Instr.typeAssert (.iface 77 v) xT 100 true).run Tryd.prog w = .ok (.tuple #[.nilIface, .bool false]) w := run_typeAssert_lacksB Tryd.underlying100 (by kernel_rfl) (by kernel_rfl) v xT w
theorem nAsE (v : Value) (xT : TypeId) (w : World) : (Instr.typeAssert (.iface 35 v) xT 109 true).run Tryd.prog w = .ok (.tuple #[.nilIface, .bool false]) w := run_typeAssert_lacksB Tryd.underlying109 (by kernel_rfl) (by kernel_rfl) v xT w
theorem nAsR (v : Value) (xT : TypeId) (w : World) : (Instr.typeAssert (.iface 64 v) xT 109 true).run Tryd.prog w = .ok (.tuple #[.nilIface, .bool false]) w := run_typeAssert_lacksB Tryd.underlying109 (by kernel_rfl) (by kernel_rfl) v xT w
theorem nAsW (v : Value) (xT : TypeId) (w : World) : (Instr.typeAssert (.iface 73 v) xT 109 true).run Tryd.prog w = .ok (.tuple #[.nilIface, .bool false]) w := run_typeAssert_lacksB Tryd.underlying109 (by kernel_rfl) (by kernel_rfl) v xT w
theorem nAsB (v : Value) (xT : TypeId) (w : World) : (Instr.typeAssert (.iface 77 v) xT 109 true).run Tryd.prog w = .ok (.tuple #[.nilIface, .bool false]) w := run_typeAssert_lacksB Tryd.underlying109 (by kernel_rfl) (by kernel_rfl) v xT w
theorem nUnE (v : Value) (xT : TypeId) (w : World) : (Instr.typeAssert (.iface 35 v) xT 103 true).run Tryd.prog w = .ok (.tuple #[.nilIface, .bool false]) w := run_typeAssert_lacksB Tryd.underlying103 (by kernel_rfl) (by kernel_rfl) v xT w
theorem nUnB (v : Value) (xT : TypeId) (w : World) : (Instr.typeAssert (.iface 77 v) xT 103 true).run Tryd.prog w = .ok (.tuple #[.nilIface, .bool false]) w := run_typeAssert_lacksB Tryd.underlying103 (by kernel_rfl) (by kernel_rfl) v xT w
theorem hUnR (v : Value) (xT : TypeId) (w : World) : (Instr.typeAssert (.iface 64 v) xT 103 true).run Tryd.prog w = .ok (.tuple #[.iface 64 v, .bool true]) w := run_typeAssert_hasB Tryd.underlying103 (by kernel_rfl) v xT w
theorem hUnW (v : Value) (xT : TypeId) (w : World) : (Instr.typeAssert (.iface 73 v) xT 103 true).run Tryd.prog w = .ok (.tuple #[.iface 73 v, .bool true]) w := run_typeAssert_hasB Tryd.underlying103 (by kernel_rfl) v xT w
theorem nUsE (v : Value) (xT : TypeId) (w : World) : (Instr.typeAssert (.iface 35 v) xT 105 true).run Tryd.prog w = .ok (.tuple #[.nilIface, .bool false]) w := run_typeAssert_lacksB Tryd.underlying105 (by kernel_rfl) (by kernel_rfl) v xT w
theorem hUsB (v : Value) (xT : TypeId) (w : World) : (Instr.typeAssert (.iface 77 v) xT 105 true).run Tryd.prog w = .ok (.tuple #[.iface 77 v, .bool true]) w := run_typeAssert_hasB Tryd.underlying105 (by kernel_rfl) v xT w

/-! The methods Unwrap. -/
theorem unR (p : Value) (w : World) : Calls Tryd.prog 58 #[p] w fun e w' => e = .returned (.iface 35 (.int .i64 16)) ∧ w = w' := by
  go_enter Tryd.func58, Tryd.ntmps58
  go_wp2_with fail
  go_ret
  exact ⟨rfl, rfl⟩
theorem unW {w : World} {b : Nat} {op v : Value} (h : Blk w b 76 #[op, v]) : Calls Tryd.prog 59 #[.pointer (some ⟨b, 0, none⟩)] w fun e w' => e = .returned v ∧ w = w' := by
  have h1 : w.cell? ⟨b, 1, none⟩ = some v := h.cell 1
  clear h
  go_enter Tryd.func59, Tryd.ntmps59
  go_wp2_with fail
  go_ret
  exact ⟨rfl, rfl⟩
theorem unB {w : World} {b : Nat} {t1 t2 : TypeId} {x1 x2 : Value} (h : Blk w b 79 #[.iface t1 x1, .iface t2 x2]) : Calls Tryd.prog 60 #[.pointer (some ⟨b, 0, none⟩)] w fun e w' =>
    e = .returned (.slice (some ⟨w.heap.size, 0, none⟩) 2 2) ∧ w.drew.alloc (.cells #[.iface t1 x1, .iface t2 x2] 24) = w' := by
  have c0 : w.cell? ⟨b, 0, none⟩ = some (.iface t1 x1) := h.cell 0
  have c1 : w.cell? ⟨b, 1, none⟩ = some (.iface t2 x2) := h.cell 1
  go_enter Tryd.func60, Tryd.ntmps60
  go_wp2_with fail
  go_region
  all_goals go_wp2_with fail
  all_goals go_ret
  all_goals exact ⟨rfl, rfl⟩
theorem Lie.form {w : World} {F : Nat → Prop} : ∀ {t : Tr} {v : Value}, Lie w F v t → ∃ ty x, v = .iface ty x
  | .num e, v, h => ⟨_, _, h.1⟩
  | .rep L, v, ⟨b, ad, cap, h1, _⟩ => ⟨_, _, h1⟩
  | .wr op t, v, ⟨b, v', h1, _⟩ => ⟨_, _, h1⟩
  | .two t u, v, ⟨b, v1, v2, h1, _⟩ => ⟨_, _, h1⟩
theorem eql_num (e n : Int) (w : World) : (binOp .eql 24 (.iface 35 (.int .i64 e)) (.iface 35 (.int .i64 n))).run Tryd.prog w = .ok (.bool (e == n)) w := by
  kernel_rfl

theorem mUnR (v : Value) (w : World) : (Go.method 244 64 v "Unwrap").run Tryd.prog w = .ok (58, v) w := by kernel_rfl
theorem mUnW (v : Value) (w : World) : (Go.method 244 73 v "Unwrap").run Tryd.prog w = .ok (59, v) w := by kernel_rfl
theorem mUsB (v : Value) (w : World) : (Go.method 244 77 v "Unwrap").run Tryd.prog w = .ok (60, v) w := by kernel_rfl
set_option maxHeartbeats 2000000 in
set_option maxRecDepth 100000 in
theorem is_tr (e : Int) : ∀ (n : Nat) (t : Tr) (F : Nat → Prop) (v : Value) (w : World), t.size ≤ n → Lie w F v t → Calls Tryd.prog 31 #[v, .iface 35 (.int .i64 e), .bool true] w fun x w' =>
    x = .returned (.bool (t.flt.nums.contains e)) ∧ Below w.heap.size w w'
  | 0, t, F, v, w, hn, h => by cases t <;> simp [Tr.size] at hn
  | n + 1, t, F, v, w, hn, h => by
    have ih := is_tr e n
    go_enter Tryd.func31, Tryd.ntmps31
    go_wp2_with fail
    go_loopg [0] (n + 1) (fun k p wr => ∃ s : Tr, k ≤ n + 1 ∧ s.size ≤ k ∧ Lie wr F p s ∧ s.flt.nums.contains e = t.flt.nums.contains e ∧ Below w.heap.size w wr)
    case atStart => exact ⟨t, Nat.le_refl _, hn, h, rfl, Below.refl _ _⟩
    case round =>
      obtain ⟨s, hk, hs, hl, hc, hb⟩ := hrel
      have hc' := Lib.hid hc
      clear hc h
      have q1 := nIsE
      have q2 := nUnE
      have q3 := nUsE
      have r1 := nIsR
      have r2 := hUnR
      have r4 := mUnR
      have p1 := nIsW
      have p2 := hUnW
      have p4 := mUnW
      have b1 := nIsB
      have b2 := nUnB
      have b3 := hUsB
      have b4 := mUsB
      cases s with
      | num m =>
        obtain ⟨rfl, hm⟩ := hl
        have q := eql_num m e
        clear hm
        by_cases hme : m = e
        · have hq : (m == e) = true := by simpa using hme
          have HH : Hid (t.flt.nums.contains e = true) := Lib.hid (by rw [← hc'.out, hme]; simp [Tr.flt])
          clear hme
          go_wp2_with fail
          go_ret
          exact ⟨by rw [HH.out]; rfl, hb⟩
        · have hq : (m == e) = false := by simpa using hme
          have HH : Hid (t.flt.nums.contains e = false) := Lib.hid (by rw [← hc'.out]; simpa [Tr.flt] using fun h => hme h.symm)
          clear hme
          go_wp2_with fail
          go_ret
          exact ⟨by rw [HH.out]; rfl, hb⟩
      | rep L =>
        obtain ⟨b, ad, cap, rfl, hF, hB, hR, hG, hne, hmx⟩ := hl
        have q := fun w => run_eql_iface_types (P := Tryd.prog) 64 35 (.pointer (some ⟨b, 0, none⟩)) (.int .i64 e) Tryd.underlying24 (by decide) w
        clear hF hG hne hmx
        go_wp2_with (go_at_call 58; refine (unR _ _).mono ?_; rintro x w' ⟨rfl, rfl⟩)
        go_roundg 1
        case measure => simp [Tr.size] at hs; omega
        case rel => exact ⟨.num 16, by omega, Nat.le_refl _, ⟨rfl, by decide⟩, hc'.out, hb⟩
      | wr op u =>
        obtain ⟨b, v', rfl, hF, hB, hl2⟩ := hl
        obtain ⟨ty, x, rfl⟩ := hl2.form
        have q := fun w => run_eql_iface_types (P := Tryd.prog) 73 35 (.pointer (some ⟨b, 0, none⟩)) (.int .i64 e) Tryd.underlying24 (by decide) w
        clear hF
        go_wp2_with (go_at_call 59; refine (unW hB).mono ?_; rintro x w' ⟨rfl, rfl⟩)
        go_roundg u.size
        case measure => simp [Tr.size] at hs; omega
        case rel => exact ⟨u, by simp [Tr.size] at hs; omega, Nat.le_refl _, hl2, hc'.out, hb⟩
      | two u1 u2 =>
        obtain ⟨b, v1, v2, rfl, hF, hB, hl1, hl2⟩ := hl
        obtain ⟨ty1, x1, rfl⟩ := hl1.form
        obtain ⟨ty2, x2, rfl⟩ := hl2.form
        have q := fun w => run_eql_iface_types (P := Tryd.prog) 77 35 (.pointer (some ⟨b, 0, none⟩)) (.int .i64 e) Tryd.underlying24 (by decide) w
        clear hF
        have hs1 : u1.size ≤ n := by simp [Tr.size] at hs; omega
        have hs2 : u2.size ≤ n := by simp [Tr.size] at hs; omega
        have HH : Hid ((u1.flt.nums.contains e || u2.flt.nums.contains e) = t.flt.nums.contains e) := Lib.hid (by rw [← hc'.out]; simp [Tr.flt, joinF])
        go_wp2_with (go_at_call 60; refine (unB hB).mono ?_; rintro x w' ⟨rfl, rfl⟩)
        obtain ⟨g, hg⟩ : ∃ g, g = wr.heap.size := ⟨_, rfl⟩
        obtain ⟨w1, hw1⟩ : ∃ u, u = (wr.alloc (Obj.cells #[Value.iface ty1 x1, Value.iface ty2 x2] 24)).drew := ⟨_, rfl⟩
        have hB1 : Blk w1 g 24 #[.iface ty1 x1, .iface ty2 x2] := by rw [hw1, hg]; exact Blk.new _ _ _
        have hb1 : Below wr.heap.size wr w1 := by rw [hw1]; exact below_drewN ((Below.refl _ _).alloc (Nat.le_refl _) _) 1
        refine wp_at hw1.symm ?_
        rw [← hg]
        have c0 : w1.cell? ⟨g, 0, none⟩ = some (.iface ty1 x1) := hB1.cell 0
        have hl1' := hl1.next hb1
        have hb1' := hb.trans (hb1.mono hb.size)
        have HW := Lib.hid hw1
        have HG := Lib.hid hg
        clear hw1 hg hB q q1 q2 q3 r1 r2 r4 p1 p2 p4 b1 b2 b3 b4
        have k1 := ih u1 F _ _ hs1 hl1'
        cases h1 : u1.flt.nums.contains e with
        | true =>
          rw [h1] at HH k1
          clear h1
          refine wp_loop_rounds 1 ?_
          rw [rounds_succ]
          go_wp2_with (go_at_call 31; refine k1.mono ?_; rintro x w2 ⟨rfl, hb2⟩)
          go_ret
          exact ⟨by rw [← HH.out]; rfl, hb1'.trans (hb2.mono hb1'.size)⟩
        | false =>
          rw [h1] at HH k1
          clear h1
          have k2 := fun w2 (hb2 : Below w1.heap.size w1 w2) => ih u2 F (.iface ty2 x2) w2 hs2 ((hl2.next hb1).next hb2)
          have hcell := fun w2 (hb2 : Below w1.heap.size w1 w2) => (hB1.below hb2 hB1.lt).cell 1
          cases h2 : u2.flt.nums.contains e with
          | true =>
            rw [h2] at HH k2
            clear h2
            refine wp_loop_rounds 2 ?_
            rw [rounds_succ]
            go_wp2_with (go_at_call 31; refine k1.mono ?_; rintro x w2 ⟨rfl, hb2⟩)
            have c1 : w2.cell? ⟨g, 1, none⟩ = some (.iface ty2 x2) := hcell w2 hb2
            rw [rounds_succ]
            go_wp2_with (go_at_call 31; refine (k2 _ hb2).mono ?_; rintro x w3 ⟨rfl, hb3⟩)
            go_ret
            exact ⟨by rw [← HH.out]; rfl, (hb1'.trans (hb2.mono hb1'.size)).trans (hb3.mono (Nat.le_trans hb1'.size hb2.size))⟩
          | false =>
            rw [h2] at HH k2
            clear h2
            refine wp_loop_rounds 3 ?_
            rw [rounds_succ]
            go_wp2_with (go_at_call 31; refine k1.mono ?_; rintro x w2 ⟨rfl, hb2⟩)
            have c1 : w2.cell? ⟨g, 1, none⟩ = some (.iface ty2 x2) := hcell w2 hb2
            rw [rounds_succ]
            go_wp2_with (go_at_call 31; refine (k2 _ hb2).mono ?_; rintro x w3 ⟨rfl, hb3⟩)
            rw [rounds_succ]
            go_wp2_with fail
            go_ret
            exact ⟨by rw [← HH.out]; rfl, (hb1'.trans (hb2.mono hb1'.size)).trans (hb3.mono (Nat.le_trans hb1'.size hb2.size))⟩
end Go.Proofs.YtlbieneklijpeaaDoor.fault
