/-
  errors.Is, fault.ours, fault.Is.
-/
import Derived.Test.YtlbieneklijpeaaDoorFis
namespace Go.Proofs.YtlbieneklijpeaaDoor.fault
open Go.RowKit Go.Proofs.YtlbieneklijpeaaDoor.mem Go.Proofs.YtlbieneklijpeaaDoor.sha Go.Proofs.YtlbieneklijpeaaDoor.ids Go.Proofs.YtlbieneklijpeaaDoor.rows Go.Extern.Stop Go.Stop Go.Extern

theorem tyE (v : Value) (w : World) : (Extern.ReflectliteType.typeOf #[.iface 35 v]).run Tryd.prog w = .ok (.iface 98 (.agg #[.pointer (some ⟨1, 35, none⟩)])) w := by kernel_rfl
theorem cmpE (w : World) : ((Extern.ReflectliteType.method fun t => do Extern.Rtype.noPackHeld "Comparable" t; (fun a => Value.bool a.comparable) <$> typeInfo t) #[.agg #[.pointer (some ⟨1, 35, none⟩)]]).run Tryd.prog w = .ok (.bool true) w := by kernel_rfl
theorem mCmp (v : Value) (w : World) : (Go.method 244 98 v "Comparable").run Tryd.prog w = .ok (68, v) w := by kernel_rfl

set_option maxRecDepth 100000 in
theorem Is_tr (e : Int) (t : Tr) (F : Nat → Prop) (v : Value) (w : World) (h : Lie w F v t) : Calls Tryd.prog 25 #[v, .iface 35 (.int .i64 e)] w fun x w' =>
    x = .returned (.bool (t.flt.nums.contains e)) ∧ Below w.heap.size w w' := by
  have k := is_tr e t.size t F v w (Nat.le_refl _) h
  obtain ⟨bb, hbb⟩ : ∃ b, b = t.flt.nums.contains e := ⟨_, rfl⟩
  rw [← hbb] at k ⊢
  obtain ⟨ty, x, rfl⟩ := h.form
  clear h hbb
  have hT := @run_callFunc_extern Tryd.prog 30 _ Extern.ReflectliteType.typeOf Tryd.func30 (by kernel_rfl) (by kernel_rfl) (by kernel_rfl) (by kernel_rfl)
  have hC := @run_callFunc_extern Tryd.prog 68 _ (Extern.ReflectliteType.method fun t => do Extern.Rtype.noPackHeld "Comparable" t; pure (.bool (← typeInfo t).comparable)) Tryd.func68 (by kernel_rfl) (by kernel_rfl) (by kernel_rfl) (by kernel_rfl)
  have tT := tyE
  have cT := cmpE
  have mR := mCmp
  go_enter Tryd.func25, Tryd.ntmps25
  go_wp2_with (go_at_call 31; refine k.mono ?_; rintro x w2 ⟨rfl, hb2⟩)
  go_ret
  exact ⟨rfl, hb2⟩
theorem Is_nil (e : Int) (w : World) : Calls Tryd.prog 25 #[.nilIface, .iface 35 (.int .i64 e)] w fun x w' => x = .returned (.bool false) ∧ w = w' := by
  have hn := fun w => run_eql_iface_nil_left (P := Tryd.prog) w 35 (.int .i64 e) Tryd.underlying24
  go_enter Tryd.func25, Tryd.ntmps25
  go_wp2_with fail
  go_ret
  exact ⟨rfl, rfl⟩

theorem cEW (v : Value) (xT : TypeId) (w : World) : (Instr.typeAssert (.iface 35 v) xT 73 true).run Tryd.prog w = .ok (.tuple #[.pointer none, .bool false]) w := by kernel_rfl
theorem cEB (v : Value) (xT : TypeId) (w : World) : (Instr.typeAssert (.iface 35 v) xT 77 true).run Tryd.prog w = .ok (.tuple #[.pointer none, .bool false]) w := by kernel_rfl
theorem cER (v : Value) (xT : TypeId) (w : World) : (Instr.typeAssert (.iface 35 v) xT 64 true).run Tryd.prog w = .ok (.tuple #[.pointer none, .bool false]) w := by kernel_rfl
theorem cES (v : Value) (xT : TypeId) (w : World) : (Instr.typeAssert (.iface 35 v) xT 84 true).run Tryd.prog w = .ok (.tuple #[.pointer none, .bool false]) w := by kernel_rfl
theorem cEE (v : Value) (xT : TypeId) (w : World) : (Instr.typeAssert (.iface 35 v) xT 35 true).run Tryd.prog w = .ok (.tuple #[v, .bool true]) w := by kernel_rfl
theorem cRW (v : Value) (xT : TypeId) (w : World) : (Instr.typeAssert (.iface 64 v) xT 73 true).run Tryd.prog w = .ok (.tuple #[.pointer none, .bool false]) w := by kernel_rfl
theorem cRB (v : Value) (xT : TypeId) (w : World) : (Instr.typeAssert (.iface 64 v) xT 77 true).run Tryd.prog w = .ok (.tuple #[.pointer none, .bool false]) w := by kernel_rfl
theorem cRR (v : Value) (xT : TypeId) (w : World) : (Instr.typeAssert (.iface 64 v) xT 64 true).run Tryd.prog w = .ok (.tuple #[v, .bool true]) w := by kernel_rfl
theorem cRS (v : Value) (xT : TypeId) (w : World) : (Instr.typeAssert (.iface 64 v) xT 84 true).run Tryd.prog w = .ok (.tuple #[.pointer none, .bool false]) w := by kernel_rfl
theorem cRE (v : Value) (xT : TypeId) (w : World) : (Instr.typeAssert (.iface 64 v) xT 35 true).run Tryd.prog w = .ok (.tuple #[.int .i64 0, .bool false]) w := by kernel_rfl
theorem cWW (v : Value) (xT : TypeId) (w : World) : (Instr.typeAssert (.iface 73 v) xT 73 true).run Tryd.prog w = .ok (.tuple #[v, .bool true]) w := by kernel_rfl
theorem cWB (v : Value) (xT : TypeId) (w : World) : (Instr.typeAssert (.iface 73 v) xT 77 true).run Tryd.prog w = .ok (.tuple #[.pointer none, .bool false]) w := by kernel_rfl
theorem cWR (v : Value) (xT : TypeId) (w : World) : (Instr.typeAssert (.iface 73 v) xT 64 true).run Tryd.prog w = .ok (.tuple #[.pointer none, .bool false]) w := by kernel_rfl
theorem cWS (v : Value) (xT : TypeId) (w : World) : (Instr.typeAssert (.iface 73 v) xT 84 true).run Tryd.prog w = .ok (.tuple #[.pointer none, .bool false]) w := by kernel_rfl
theorem cWE (v : Value) (xT : TypeId) (w : World) : (Instr.typeAssert (.iface 73 v) xT 35 true).run Tryd.prog w = .ok (.tuple #[.int .i64 0, .bool false]) w := by kernel_rfl
theorem cBW (v : Value) (xT : TypeId) (w : World) : (Instr.typeAssert (.iface 77 v) xT 73 true).run Tryd.prog w = .ok (.tuple #[.pointer none, .bool false]) w := by kernel_rfl
theorem cBB (v : Value) (xT : TypeId) (w : World) : (Instr.typeAssert (.iface 77 v) xT 77 true).run Tryd.prog w = .ok (.tuple #[v, .bool true]) w := by kernel_rfl
theorem cBR (v : Value) (xT : TypeId) (w : World) : (Instr.typeAssert (.iface 77 v) xT 64 true).run Tryd.prog w = .ok (.tuple #[.pointer none, .bool false]) w := by kernel_rfl
theorem cBS (v : Value) (xT : TypeId) (w : World) : (Instr.typeAssert (.iface 77 v) xT 84 true).run Tryd.prog w = .ok (.tuple #[.pointer none, .bool false]) w := by kernel_rfl
theorem cBE (v : Value) (xT : TypeId) (w : World) : (Instr.typeAssert (.iface 77 v) xT 35 true).run Tryd.prog w = .ok (.tuple #[.int .i64 0, .bool false]) w := by kernel_rfl
theorem cNW (xT : TypeId) (w : World) : (Instr.typeAssert .nilIface xT 73 true).run Tryd.prog w = .ok (.tuple #[.pointer none, .bool false]) w := by kernel_rfl
theorem cNB (xT : TypeId) (w : World) : (Instr.typeAssert .nilIface xT 77 true).run Tryd.prog w = .ok (.tuple #[.pointer none, .bool false]) w := by kernel_rfl
theorem cNR (xT : TypeId) (w : World) : (Instr.typeAssert .nilIface xT 64 true).run Tryd.prog w = .ok (.tuple #[.pointer none, .bool false]) w := by kernel_rfl
theorem cNS (xT : TypeId) (w : World) : (Instr.typeAssert .nilIface xT 84 true).run Tryd.prog w = .ok (.tuple #[.pointer none, .bool false]) w := by kernel_rfl
theorem cNE (xT : TypeId) (w : World) : (Instr.typeAssert .nilIface xT 35 true).run Tryd.prog w = .ok (.tuple #[.int .i64 0, .bool false]) w := by kernel_rfl
set_option maxRecDepth 100000 in
theorem ours_tr {t : Tr} {F : Nat → Prop} {v : Value} {w : World} (h : Lie w F v t) : Calls Tryd.prog 26 #[v] w fun x w' => x = .returned v ∧ w = w' := by
  cases t with
  | num e =>
    obtain ⟨rfl, he⟩ := h
    have hn : (e != 0) = true := bne_iff_ne.2 he
    clear he
    have qW := cEW
    have qB := cEB
    have qR := cER
    have qS := cES
    have qE := cEE
    go_enter Tryd.func26, Tryd.ntmps26
    go_wp2_with fail
    go_ret
    exact ⟨rfl, rfl⟩
  | rep L =>
    obtain ⟨b, ad, cap, rfl, _⟩ := h
    have qW := cRW
    have qB := cRB
    have qR := cRR
    have qS := cRS
    have qE := cRE
    go_enter Tryd.func26, Tryd.ntmps26
    go_wp2_with fail
    go_ret
    exact ⟨rfl, rfl⟩
  | wr op u =>
    obtain ⟨b, v', rfl, _⟩ := h
    have qW := cWW
    have qB := cWB
    have qR := cWR
    have qS := cWS
    have qE := cWE
    go_enter Tryd.func26, Tryd.ntmps26
    go_wp2_with fail
    go_ret
    exact ⟨rfl, rfl⟩
  | two u1 u2 =>
    obtain ⟨b, v1, v2, rfl, _⟩ := h
    have qW := cBW
    have qB := cBB
    have qR := cBR
    have qS := cBS
    have qE := cBE
    go_enter Tryd.func26, Tryd.ntmps26
    go_wp2_with fail
    go_ret
    exact ⟨rfl, rfl⟩
set_option maxRecDepth 100000 in
theorem ours_nil (w : World) : Calls Tryd.prog 26 #[.nilIface] w fun x w' => x = .returned .nilIface ∧ w = w' := by
  have qW := cNW
  have qB := cNB
  have qR := cNR
  have qS := cNS
  have qE := cNE
  go_enter Tryd.func26, Tryd.ntmps26
  go_wp2_with fail
  go_ret
  exact ⟨rfl, rfl⟩
theorem ours_any {o : Option Tr} {F : Nat → Prop} {v : Value} {w : World} (h : LieO w F v o) : Calls Tryd.prog 26 #[v] w fun x w' => x = .returned v ∧ w = w' := by
  cases o with
  | none => cases h; exact ours_nil w
  | some t => exact ours_tr h

/-- fault.Is -/
theorem fis_any (e : Int) (o : Option Tr) (F : Nat → Prop) (v : Value) (w : World) (h : LieO w F v o) : Calls Tryd.prog 10 #[v, .int .i64 e] w fun x w' => x = .returned (.bool (isF (fltO o) e)) ∧ Below w.heap.size w w' := by
  cases o with
  | none =>
    cases h
    by_cases he : e = 0
    · subst he
      go_enter Tryd.func10, Tryd.ntmps10
      go_wp2_with fail
      go_ret
      exact ⟨rfl, Below.refl _ _⟩
    · have hn : (e == 0) = false := beq_eq_false_iff_ne.2 he
      have HE := Lib.hid he
      clear he
      go_enter Tryd.func10, Tryd.ntmps10
      go_wp2_with (first
        | (go_at_call 26; refine (ours_nil _).mono ?_; rintro x w2 ⟨rfl, rfl⟩)
        | (go_at_call 25; refine (Is_nil e _).mono ?_; rintro x w2 ⟨rfl, rfl⟩))
      go_ret
      exact ⟨by unfold isF; rw [if_neg HE.out]; rfl, Below.refl _ _⟩
  | some t =>
    have hne := t.nums_ne
    have HO := Lib.hid h
    obtain ⟨ty, x, rfl⟩ := Lie.form h
    clear h
    by_cases he : e = 0
    · subst he
      have HN := Lib.hid hne
      clear hne
      go_enter Tryd.func10, Tryd.ntmps10
      go_wp2_with fail
      go_ret
      refine ⟨?_, Below.refl _ _⟩
      have := HN.out
      unfold isF fltO
      rw [if_pos rfl]
      cases hl : t.flt.nums with
      | nil => exact absurd hl this
      | cons a l => simp [hl]
    · have hn : (e == 0) = false := beq_eq_false_iff_ne.2 he
      have HE := Lib.hid he
      have k := fun w => Is_tr e t F (.iface ty x) w
      obtain ⟨bb, hbb⟩ : ∃ b, b = t.flt.nums.contains e := ⟨_, rfl⟩
      rw [← hbb] at k
      have HBB : Hid (bb = t.flt.nums.contains e) := Lib.hid hbb
      clear he hne hbb
      go_enter Tryd.func10, Tryd.ntmps10
      go_wp2_with (first
        | (go_at_call 26; refine (ours_any HO.out).mono ?_; rintro x w2 ⟨rfl, rfl⟩)
        | (go_at_call 25; refine (k _ HO.out).mono ?_; rintro x w2 ⟨rfl, hb⟩))
      go_ret
      exact ⟨by unfold isF fltO; rw [if_neg HE.out]; show _ = Ending.returned (Value.bool (t.flt.nums.contains e)); rw [← HBB.out]; rfl, hb⟩
end Go.Proofs.YtlbieneklijpeaaDoor.fault
