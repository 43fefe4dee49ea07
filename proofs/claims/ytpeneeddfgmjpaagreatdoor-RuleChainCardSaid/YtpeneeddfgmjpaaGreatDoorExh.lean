/-
 A slice up to a place, as an operation.
-/
import Derived.Test.YtpeneeddfgmjpaaGreatDoorIda
namespace Go.Proofs.YtpeneeddfgmjpaaGreatDoor.rul
theorem exec_hi {P : Program} {ρ : Operand → Value} {o : Oper} {x y : Operand} {t : TypeId} {u z v : Value} {w : World} (ho : o.op = .slice t x none (some y) none) (hx : ρ x = u) (hy : ρ y = z) (h : (Instr.sliceAt t u none (some z) none).run P w = .ok v w) :
  (execOp ρ o).run P w = .ok (.value v) w := by
 unfold execOp
 simp [ho, hx, hy, h]
end Go.Proofs.YtpeneeddfgmjpaaGreatDoor.rul
