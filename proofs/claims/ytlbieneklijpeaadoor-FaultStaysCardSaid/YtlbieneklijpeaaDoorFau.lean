/-
  errors.As at a number, at a report; fault.Code, fault.Report.
-/
import Derived.Test.YtlbieneklijpeaaDoorFar
import Derived.Deep.CutRange
import Derived.Deep.CutBlock
import Derived.Deep.RegionHeld3
namespace Go.Proofs.YtlbieneklijpeaaDoor.fault
open Go.RowKit Go.Proofs.YtlbieneklijpeaaDoor.mem Go.Proofs.YtlbieneklijpeaaDoor.sha Go.Proofs.YtlbieneklijpeaaDoor.ids Go.Proofs.YtlbieneklijpeaaDoor.rows Go.Extern.Stop Go.Stop Go.Extern

/-- what the variable errors.errorType holds -/
def Tab (w : World) : Prop := w.cell? ⟨0, 0, none⟩ = some (.iface 98 (.agg #[.pointer (some ⟨1, 24, none⟩)]))
theorem Tab.lt {w : World} (h : Tab w) : 0 < w.heap.size := block_lt_of_cell h
theorem Tab.below {w w' : World} (h : Tab w) {B : Nat} (hb : Below B w w') (hB : w.heap.size ≤ B) : Tab w' := (hb.cell (p := ⟨0, 0, none⟩) (Nat.lt_of_lt_of_le h.lt hB)).trans h
theorem Tab.next {w w' : World} (h : Tab w) (hb : Below w.heap.size w w') : Tab w' := h.below hb (Nat.le_refl _)
theorem mKind (h : Value) (w : World) : (Go.method 244 98 (.agg #[h]) "Kind").run Tryd.prog w = .ok (53, h) w := by kernel_rfl
theorem mElem (h : Value) (w : World) : (Go.method 244 98 (.agg #[h]) "Elem").run Tryd.prog w = .ok (69, .agg #[h]) w := by kernel_rfl
theorem mImpl (h : Value) (w : World) : (Go.method 244 98 (.agg #[h]) "Implements").run Tryd.prog w = .ok (70, .agg #[h]) w := by kernel_rfl
theorem As_nil (t : Value) (w : World) : Calls Tryd.prog 27 #[.nilIface, t] w fun e w' => e = .returned (.bool false) ∧ w = w' := by
  go_enter Tryd.func27, Tryd.ntmps27
  go_wp2_with fail
  go_ret
  exact ⟨rfl, rfl⟩
theorem voPE (t : Addr) (w : World) : (ReflectliteValue.unpack (.iface 72 (.pointer (some t)))).run Tryd.prog w
    = .ok (.agg #[.pointer (some ⟨1, 72, none⟩), .pointer (some ⟨w.heap.size, 0, none⟩), .int .u64 150]) (w.alloc (.cells #[.pointer (some t)] 72)) := by kernel_rfl
theorem typePE (a : Addr) (w : World) : (ReflectliteValue.methodAny (ReflectliteValue.valueError "reflectlite.Value.Type" 0) (fun t _ _ _ => ReflectliteType.toType t) #[.agg #[.pointer (some ⟨1, 72, none⟩), .pointer (some a), .int .u64 150]]).run Tryd.prog w
    = .ok (.iface 98 (.agg #[.pointer (some ⟨1, 72, none⟩)])) w := by kernel_rfl
theorem kindPE (w : World) : ((ReflectliteType.abiMethod fun t => (fun a : Nat => Value.int IntKind.u8 (a : Int)) <$> Rtype.kind t) #[.pointer (some ⟨1, 72, none⟩)]).run Tryd.prog w = .ok (.int .u8 22) w := by kernel_rfl
theorem kindE (w : World) : ((ReflectliteType.abiMethod fun t => (fun a : Nat => Value.int IntKind.u8 (a : Int)) <$> Rtype.kind t) #[.pointer (some ⟨1, 35, none⟩)]).run Tryd.prog w = .ok (.int .u8 2) w := by kernel_rfl
theorem elemTE (w : World) : (ReflectliteType.method ReflectliteType.elem #[.agg #[.pointer (some ⟨1, 72, none⟩)]]).run Tryd.prog w = .ok (.iface 98 (.agg #[.pointer (some ⟨1, 35, none⟩)])) w := by kernel_rfl
theorem implE (w : World) : (ReflectliteType.relation "Implements" ReflectliteType.implements_ #[.agg #[.pointer (some ⟨1, 35, none⟩)], .iface 98 (.agg #[.pointer (some ⟨1, 24, none⟩)])]).run Tryd.prog w = .ok (.bool true) w := by kernel_rfl
theorem voPR (t : Addr) (w : World) : (ReflectliteValue.unpack (.iface 66 (.pointer (some t)))).run Tryd.prog w
    = .ok (.agg #[.pointer (some ⟨1, 66, none⟩), .pointer (some ⟨w.heap.size, 0, none⟩), .int .u64 150]) (w.alloc (.cells #[.pointer (some t)] 66)) := by kernel_rfl
theorem typePR (a : Addr) (w : World) : (ReflectliteValue.methodAny (ReflectliteValue.valueError "reflectlite.Value.Type" 0) (fun t _ _ _ => ReflectliteType.toType t) #[.agg #[.pointer (some ⟨1, 66, none⟩), .pointer (some a), .int .u64 150]]).run Tryd.prog w
    = .ok (.iface 98 (.agg #[.pointer (some ⟨1, 66, none⟩)])) w := by kernel_rfl
theorem kindPR (w : World) : ((ReflectliteType.abiMethod fun t => (fun a : Nat => Value.int IntKind.u8 (a : Int)) <$> Rtype.kind t) #[.pointer (some ⟨1, 66, none⟩)]).run Tryd.prog w = .ok (.int .u8 22) w := by kernel_rfl
theorem kindR (w : World) : ((ReflectliteType.abiMethod fun t => (fun a : Nat => Value.int IntKind.u8 (a : Int)) <$> Rtype.kind t) #[.pointer (some ⟨1, 64, none⟩)]).run Tryd.prog w = .ok (.int .u8 22) w := by kernel_rfl
theorem elemTR (w : World) : (ReflectliteType.method ReflectliteType.elem #[.agg #[.pointer (some ⟨1, 66, none⟩)]]).run Tryd.prog w = .ok (.iface 98 (.agg #[.pointer (some ⟨1, 64, none⟩)])) w := by kernel_rfl
theorem implR (w : World) : (ReflectliteType.relation "Implements" ReflectliteType.implements_ #[.agg #[.pointer (some ⟨1, 64, none⟩)], .iface 98 (.agg #[.pointer (some ⟨1, 24, none⟩)])]).run Tryd.prog w = .ok (.bool true) w := by kernel_rfl

set_option maxHeartbeats 4000000 in
set_option maxRecDepth 100000 in
theorem As_num (t : Tr) (F : Nat → Prop) (v : Value) (w : World) (g : Nat) (old : Value) (h : Lie w F v t) (ho : Blk w g 35 #[old]) (hg : Tab w) :
    Calls Tryd.prog 27 #[v, .iface 72 (.pointer (some ⟨g, 0, none⟩))] w fun x w' => x = .returned (.bool true) ∧ Blk w' g 35 #[.int .i64 (t.flt.nums.headD 0)] ∧ Turn (fun k => k = g ∨ w.heap.size ≤ k) w w' := by
  have hV := @run_callFunc_extern Tryd.prog 32 _ (fun args => ReflectliteValue.unpack (args.getD 0 (.tuple #[]))) Tryd.func32 (by kernel_rfl) (by kernel_rfl) (by kernel_rfl) (by kernel_rfl)
  have hTy := @run_callFunc_extern Tryd.prog 33 _ (ReflectliteValue.methodAny (ReflectliteValue.valueError "reflectlite.Value.Type" 0) (fun t _ _ _ => ReflectliteType.toType t)) Tryd.func33 (by kernel_rfl) (by kernel_rfl) (by kernel_rfl) (by kernel_rfl)
  have hNil := @run_callFunc_extern Tryd.prog 34 _ (ReflectliteValue.method (ReflectliteValue.valueError "reflectlite.Value.IsNil" 0) ReflectliteValue.isNil) Tryd.func34 (by kernel_rfl) (by kernel_rfl) (by kernel_rfl) (by kernel_rfl)
  have hKind := @run_callFunc_extern Tryd.prog 53 _ (ReflectliteType.abiMethod fun t => do pure (.int .u8 (← Rtype.kind t))) Tryd.func53 (by kernel_rfl) (by kernel_rfl) (by kernel_rfl) (by kernel_rfl)
  have hElem := @run_callFunc_extern Tryd.prog 69 _ (ReflectliteType.method ReflectliteType.elem) Tryd.func69 (by kernel_rfl) (by kernel_rfl) (by kernel_rfl) (by kernel_rfl)
  have hImpl := @run_callFunc_extern Tryd.prog 70 _ (ReflectliteType.relation "Implements" ReflectliteType.implements_) Tryd.func70 (by kernel_rfl) (by kernel_rfl) (by kernel_rfl) (by kernel_rfl)
  obtain ⟨ty, x, rfl⟩ := h.form
  have f1 := voPE
  have f2 := typePE
  have f3 := mKind
  have f4 := kindPE
  have f5 := mElem
  have f6 := elemTE
  have f7 := kindE
  have f8 := mImpl
  have f9 := implE
  obtain ⟨S, hS⟩ : ∃ S, S = w.heap.size := ⟨_, rfl⟩
  obtain ⟨w2, hw2⟩ : ∃ u, u = (w.alloc (.cells #[.pointer (some ⟨g, 0, none⟩)] 72)).alloc (.cells #[.pointer (some ⟨1, 72, none⟩), .pointer (some ⟨w.heap.size, 0, none⟩), .int .u64 150] 90) := ⟨_, rfl⟩
  have hb2 : Below w.heap.size w w2 := by rw [hw2]; exact ((Below.refl _ _).alloc (Nat.le_refl _) _).alloc (by simp) _
  have hA : Blk w2 S 72 #[.pointer (some ⟨g, 0, none⟩)] := by rw [hw2, hS]; exact (Blk.new w _ _).alloc _
  have hB : Blk w2 (S + 1) 90 #[.pointer (some ⟨1, 72, none⟩), .pointer (some ⟨S, 0, none⟩), .int .u64 150] := by rw [hw2, hS]; exact Blk.at_ (by simp) _ _
  have hg2 : w2.cell? ⟨0, 0, none⟩ = some (.iface 98 (.agg #[.pointer (some ⟨1, 24, none⟩)])) := hg.next hb2
  have n0 := isNilPE ⟨S, 0, none⟩ ⟨g, 0, none⟩ w2 (hA.cell 0)
  have d0 : w2.cell? ⟨S + 1, 0, none⟩ = some (.pointer (some ⟨1, 72, none⟩)) := hB.cell 0
  have d1 : w2.cell? ⟨S + 1, 1, none⟩ = some (.pointer (some ⟨S, 0, none⟩)) := hB.cell 1
  have d2 : w2.cell? ⟨S + 1, 2, none⟩ = some (.int .u64 150) := hB.cell 2
  have k := as_num t.size t F (.iface ty x) w2 ⟨S, 0, none⟩ g (Nat.le_refl _) (h.next hb2) (hA.cell 0) ⟨old, ho.below hb2 ho.lt⟩
  have HW := Lib.hid hw2
  have HS := Lib.hid hS
  have HB := Lib.hid hb2
  clear hA hB hw2 hS h ho hg hb2
  go_enter Tryd.func27, Tryd.ntmps27
  go_upto_region 6 with fail
  refine wp_at HW.out.symm ?_
  rw [← HS.out]
  clear HW
  go_wp2_with (go_at_call 35; refine k.mono ?_; rintro x w3 ⟨rfl, hk⟩)
  go_ret
  exact ⟨rfl, hk.1, (Turn.fresh HB.out fun k hk => .inr hk).trans (hk.2.mono fun k h => h.elim .inl fun h => .inr (Nat.le_trans HB.out.size h))⟩

set_option maxHeartbeats 4000000 in
set_option maxRecDepth 100000 in
theorem As_rep (t : Tr) (F : Nat → Prop) (v : Value) (w : World) (g : Nat) (old : Value) (h : Lie w F v t) (ho : Blk w g 64 #[old]) (hg : Tab w) (hFg : ¬ F g) :
    Calls Tryd.prog 27 #[v, .iface 66 (.pointer (some ⟨g, 0, none⟩))] w fun x w' => x = .returned (.bool (!t.flt.reps.isEmpty)) ∧ RepOut w w' F g t.flt.reps := by
  have hV := @run_callFunc_extern Tryd.prog 32 _ (fun args => ReflectliteValue.unpack (args.getD 0 (.tuple #[]))) Tryd.func32 (by kernel_rfl) (by kernel_rfl) (by kernel_rfl) (by kernel_rfl)
  have hTy := @run_callFunc_extern Tryd.prog 33 _ (ReflectliteValue.methodAny (ReflectliteValue.valueError "reflectlite.Value.Type" 0) (fun t _ _ _ => ReflectliteType.toType t)) Tryd.func33 (by kernel_rfl) (by kernel_rfl) (by kernel_rfl) (by kernel_rfl)
  have hNil := @run_callFunc_extern Tryd.prog 34 _ (ReflectliteValue.method (ReflectliteValue.valueError "reflectlite.Value.IsNil" 0) ReflectliteValue.isNil) Tryd.func34 (by kernel_rfl) (by kernel_rfl) (by kernel_rfl) (by kernel_rfl)
  have hKind := @run_callFunc_extern Tryd.prog 53 _ (ReflectliteType.abiMethod fun t => do pure (.int .u8 (← Rtype.kind t))) Tryd.func53 (by kernel_rfl) (by kernel_rfl) (by kernel_rfl) (by kernel_rfl)
  have hElem := @run_callFunc_extern Tryd.prog 69 _ (ReflectliteType.method ReflectliteType.elem) Tryd.func69 (by kernel_rfl) (by kernel_rfl) (by kernel_rfl) (by kernel_rfl)
  have hImpl := @run_callFunc_extern Tryd.prog 70 _ (ReflectliteType.relation "Implements" ReflectliteType.implements_) Tryd.func70 (by kernel_rfl) (by kernel_rfl) (by kernel_rfl) (by kernel_rfl)
  obtain ⟨ty, x, rfl⟩ := h.form
  have f1 := voPR
  have f2 := typePR
  have f3 := mKind
  have f4 := kindPR
  have f5 := mElem
  have f6 := elemTR
  have f7 := kindR
  have f8 := mImpl
  have f9 := implR
  obtain ⟨S, hS⟩ : ∃ S, S = w.heap.size := ⟨_, rfl⟩
  obtain ⟨w2, hw2⟩ : ∃ u, u = (w.alloc (.cells #[.pointer (some ⟨g, 0, none⟩)] 66)).alloc (.cells #[.pointer (some ⟨1, 66, none⟩), .pointer (some ⟨w.heap.size, 0, none⟩), .int .u64 150] 90) := ⟨_, rfl⟩
  have hb2 : Below w.heap.size w w2 := by rw [hw2]; exact ((Below.refl _ _).alloc (Nat.le_refl _) _).alloc (by simp) _
  have hA : Blk w2 S 66 #[.pointer (some ⟨g, 0, none⟩)] := by rw [hw2, hS]; exact (Blk.new w _ _).alloc _
  have hB : Blk w2 (S + 1) 90 #[.pointer (some ⟨1, 66, none⟩), .pointer (some ⟨S, 0, none⟩), .int .u64 150] := by rw [hw2, hS]; exact Blk.at_ (by simp) _ _
  have hg2 : w2.cell? ⟨0, 0, none⟩ = some (.iface 98 (.agg #[.pointer (some ⟨1, 24, none⟩)])) := hg.next hb2
  have n0 := isNilPR ⟨S, 0, none⟩ ⟨g, 0, none⟩ w2 (hA.cell 0)
  have d0 : w2.cell? ⟨S + 1, 0, none⟩ = some (.pointer (some ⟨1, 66, none⟩)) := hB.cell 0
  have d1 : w2.cell? ⟨S + 1, 1, none⟩ = some (.pointer (some ⟨S, 0, none⟩)) := hB.cell 1
  have d2 : w2.cell? ⟨S + 1, 2, none⟩ = some (.int .u64 150) := hB.cell 2
  have k := as_rep t.size t F (.iface ty x) w2 ⟨S, 0, none⟩ g (Nat.le_refl _) (h.next hb2) (hA.cell 0) ⟨old, ho.below hb2 ho.lt⟩ hFg
  have HW := Lib.hid hw2
  have HS := Lib.hid hS
  have HB := Lib.hid hb2
  clear hA hB hw2 hS h ho hg hb2 hFg
  go_enter Tryd.func27, Tryd.ntmps27
  go_upto_region 6 with fail
  refine wp_at HW.out.symm ?_
  rw [← HS.out]
  clear HW
  go_wp2_with (go_at_call 35; refine k.mono ?_; rintro x w3 ⟨rfl, hk⟩)
  go_ret
  refine ⟨rfl, ?_⟩
  rcases hk with ⟨he, hb⟩ | ⟨L', M', p, he, hp, hb, ht⟩
  · exact .inl ⟨he, HB.out.trans (hb.mono HB.out.size)⟩
  · exact .inr ⟨L', M', p, he, hp, hb, (Turn.fresh HB.out fun k hk => .inr hk).trans (ht.mono fun k hk => hk.elim .inl fun h => .inr (Nat.le_trans HB.out.size h))⟩
end Go.Proofs.YtlbieneklijpeaaDoor.fault
