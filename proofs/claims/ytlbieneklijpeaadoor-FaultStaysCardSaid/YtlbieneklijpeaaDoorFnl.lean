/-
  An error held against nil.
-/
import Derived.Test.YtlbieneklijpeaaDoorFis
import Derived.WalkKit
namespace Go.Proofs.YtlbieneklijpeaaDoor.fault
open Go.RowKit Go.Proofs.YtlbieneklijpeaaDoor.mem Go.Proofs.YtlbieneklijpeaaDoor.sha Go.Proofs.YtlbieneklijpeaaDoor.ids Go.Proofs.YtlbieneklijpeaaDoor.rows

theorem Lie.rep_small {w : World} {F : Nat → Prop} : ∀ {t : Tr} {v : Value}, Lie w F v t → ∀ L ∈ t.flt.reps, L.length < 1000000
  | .num e, v, h, L, hL => by simp [Tr.flt] at hL
  | .rep L', v, ⟨b, ad, cap, h1, h2, h3, h4, h5, h6, h7⟩, L, hL => by
    simp only [Tr.flt, List.mem_singleton] at hL
    rw [hL]; exact h7
  | .wr op t, v, ⟨b, v', h1, h2, h3, h4⟩, L, hL => h4.rep_small L hL
  | .two t u, v, ⟨b, v1, v2, h1, h2, h3, h4, h5⟩, L, hL => by
    simp only [Tr.flt, joinF, List.mem_append] at hL
    exact hL.elim (h4.rep_small L) (h5.rep_small L)
theorem LieO.rep_small {w : World} {F : Nat → Prop} {o : Option Tr} {v : Value} (h : LieO w F v o) : ∀ L ∈ (fltO o).reps, L.length < 1000000 := by
  cases o with
  | none => intro L hL; simp [fltO, noF] at hL
  | some t => exact Lie.rep_small h
theorem guard_nil {w : World} {F : Nat → Prop} {v : Value} {o : Option Tr} (h : LieO w F v o) (op : BinOp) (t : TypeId) (x : Operand) (u : World) : (eqGuard op t x (.const .nilIface) v .nilIface).run Tryd.prog u = .ok () u := by
  cases o with
  | none =>
    cases h
    unfold eqGuard
    cases op <;> simp
  | some s =>
    obtain ⟨ty, y, rfl⟩ := Lie.form h
    unfold eqGuard
    cases op <;> simp
theorem neq_nil {w : World} {F : Nat → Prop} {v : Value} {o : Option Tr} (h : LieO w F v o) (u : World) : (binOp .neq 24 v .nilIface).run Tryd.prog u = .ok (.bool o.isSome) u := by
  cases o with
  | none => cases h; kernel_rfl
  | some t =>
    obtain ⟨ty, x, rfl⟩ := Lie.form h
    kernel_rfl
theorem eql_nil {w : World} {F : Nat → Prop} {v : Value} {o : Option Tr} (h : LieO w F v o) (u : World) : (binOp .eql 24 v .nilIface).run Tryd.prog u = .ok (.bool o.isNone) u := by
  cases o with
  | none => cases h; kernel_rfl
  | some t =>
    obtain ⟨ty, x, rfl⟩ := Lie.form h
    kernel_rfl
end Go.Proofs.YtlbieneklijpeaaDoor.fault
