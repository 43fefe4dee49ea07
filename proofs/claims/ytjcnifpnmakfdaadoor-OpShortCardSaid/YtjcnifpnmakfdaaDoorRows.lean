/-
  NARROWER THAN 'FOR EVERY INPUT', by the rows' own cells (each row's printed sentence says how): OpPuts: laid · OpReads: laid · OpBack: laid · OpShort: laid.
  DERIVED. THE GIVEN ROWS OF THIS SEAT. 4 by the template 'for every input the law returns true; each argument reads behind the call as it read before'; 0 by the template 'total and deterministic' (their statements: YtjcnifpnmakfdaaDoorTotals.lean).
  GIVEN WITH THE SEED: the statements are not yours to turn. If you find one false, say at which input.
  Laid BY PROGRAM, IN A SANDBOX (cutbox-rows.mjs): the forced cells as the released guide's own fill.sh prints them over the translation 478c4470e595ff6c… (all of the seat's roots in one cut). By AI agents, Wed Nov 11 2026. No macro, syntax, notation, axiom, sorry.
-/
import Derived.Test.YtjcnifpnmakfdaaDoorChecked
import GoSem.Claim
import GoSem.ClaimJoined
import GoSem.ClaimMapViews
import Derived.JoinedTies
import Derived.KernelRfl
namespace Go.Proofs.YtjcnifpnmakfdaaDoor
/- THE CELL 'sum', in the pinned program and in every row, IS THE sha256 OF THE DUMP (.gsa) THAT YtjcnifpnmakfdaaDoorProg.lean LOADS. Nothing in Lean hashes anything: it is a label: what it is worth is what the hold of that sum in a sandbox is worth. -/
noncomputable def Tryd.pinned : Pinned := { name := "ytjcnifpnmakfdaadoor", sum := "478c4470e595ff6c8b3b2df56d319118e1f1429fdc3edb5d7c42f09ef02021aa", checked := Tryd.checked }
namespace Rows
def none {H : Type} : Left H := { results := [], args := [] }

/- WHAT THE LISTED PACKAGE-LEVEL VARIABLES READ AS WHEN THE CALL BEGINS. Each datum BY PROGRAM (the guide's laid-datum.mjs) off the statement by which the dump's own 'gosem.cut.vars' lays the variable. In a bare row this is a premise. The card (YtjcnifpnmakfdaaDoorCards.lean) ties it to the program's text. -/
def laid_petrel_op_has {H : Type} : DataW H := .agg [.lit (.int .i64 0), .lit (.int .i64 1), .lit (.int .i64 4), .lit (.int .i64 20), .lit (.int .i64 7), .lit (.int .i64 22), .lit (.int .i64 12), .lit (.int .i64 8)]

/-- 'petrellaw07.OpPuts': WHATEVER THE INPUT: true; the input reads as it did. -/
def opPutsSpec : ChangeSpec := { name := "opPuts", fn := fun _ => fun
  | [d1, d2] => { results := [.lit (.bool true)], args := [d1, d2] }
  | _ => none }
def opPutsRow : OpenClaim := { program := "ytjcnifpnmakfdaadoor", sum := "478c4470e595ff6c8b3b2df56d319118e1f1429fdc3edb5d7c42f09ef02021aa", func := "petrel/petrellaw07.OpPuts", spec := "opPuts", inPlace := ["internal/bytealg.Compare"], named := ["petrel/op.has"], apart := false, laid := [("petrel/op.has", laid_petrel_op_has)] }
def OpPutsSaid : Prop := opPutsRow.holds Tryd.pinned (OpenSpec.ofChange opPutsSpec)

/-- ITS FALSE NEIGHBOUR: 'it returns false'. Refute it at one input. -/
def opPutsWrong : ChangeSpec := { name := "opPuts", fn := fun _ => fun
  | [d1, d2] => { results := [.lit (.bool false)], args := [d1, d2] }
  | _ => none }
def OpPutsWrongFalsely : Prop := opPutsRow.holds Tryd.pinned (OpenSpec.ofChange opPutsWrong)

/-- 'petrellaw07.OpReads': WHATEVER THE INPUT: true; the input reads as it did. -/
def opReadsSpec : ChangeSpec := { name := "opReads", fn := fun _ => fun
  | [d] => { results := [.lit (.bool true)], args := [d] }
  | _ => none }
def opReadsRow : OpenClaim := { program := "ytjcnifpnmakfdaadoor", sum := "478c4470e595ff6c8b3b2df56d319118e1f1429fdc3edb5d7c42f09ef02021aa", func := "petrel/petrellaw07.OpReads", spec := "opReads", inPlace := ["internal/bytealg.Compare"], named := ["petrel/op.has"], apart := false, laid := [("petrel/op.has", laid_petrel_op_has)] }
def OpReadsSaid : Prop := opReadsRow.holds Tryd.pinned (OpenSpec.ofChange opReadsSpec)

/-- ITS FALSE NEIGHBOUR: 'it returns false'. Refute it at one input. -/
def opReadsWrong : ChangeSpec := { name := "opReads", fn := fun _ => fun
  | [d] => { results := [.lit (.bool false)], args := [d] }
  | _ => none }
def OpReadsWrongFalsely : Prop := opReadsRow.holds Tryd.pinned (OpenSpec.ofChange opReadsWrong)

/-- 'petrellaw07.OpBack': WHATEVER THE INPUT: true; the input reads as it did. -/
def opBackSpec : ChangeSpec := { name := "opBack", fn := fun _ => fun
  | [d1, d2] => { results := [.lit (.bool true)], args := [d1, d2] }
  | _ => none }
def opBackRow : OpenClaim := { program := "ytjcnifpnmakfdaadoor", sum := "478c4470e595ff6c8b3b2df56d319118e1f1429fdc3edb5d7c42f09ef02021aa", func := "petrel/petrellaw07.OpBack", spec := "opBack", inPlace := ["internal/bytealg.Compare"], named := ["petrel/op.has"], apart := false, laid := [("petrel/op.has", laid_petrel_op_has)] }
def OpBackSaid : Prop := opBackRow.holds Tryd.pinned (OpenSpec.ofChange opBackSpec)

/-- ITS FALSE NEIGHBOUR: 'it returns false'. Refute it at one input. -/
def opBackWrong : ChangeSpec := { name := "opBack", fn := fun _ => fun
  | [d1, d2] => { results := [.lit (.bool false)], args := [d1, d2] }
  | _ => none }
def OpBackWrongFalsely : Prop := opBackRow.holds Tryd.pinned (OpenSpec.ofChange opBackWrong)

/-- 'petrellaw07.OpShort': WHATEVER THE INPUT: true; the input reads as it did. -/
def opShortSpec : ChangeSpec := { name := "opShort", fn := fun _ => fun
  | [d1, d2, d3] => { results := [.lit (.bool true)], args := [d1, d2, d3] }
  | _ => none }
def opShortRow : OpenClaim := { program := "ytjcnifpnmakfdaadoor", sum := "478c4470e595ff6c8b3b2df56d319118e1f1429fdc3edb5d7c42f09ef02021aa", func := "petrel/petrellaw07.OpShort", spec := "opShort", inPlace := ["internal/bytealg.Compare"], named := ["petrel/op.has"], apart := false, laid := [("petrel/op.has", laid_petrel_op_has)] }
def OpShortSaid : Prop := opShortRow.holds Tryd.pinned (OpenSpec.ofChange opShortSpec)

/-- ITS FALSE NEIGHBOUR: 'it returns false'. Refute it at one input. -/
def opShortWrong : ChangeSpec := { name := "opShort", fn := fun _ => fun
  | [d1, d2, d3] => { results := [.lit (.bool false)], args := [d1, d2, d3] }
  | _ => none }
def OpShortWrongFalsely : Prop := opShortRow.holds Tryd.pinned (OpenSpec.ofChange opShortWrong)

/- THE SECOND FORM. 'bulk': how many values and letters a reading holds, each counted each time it is reached (what is shared counts as often as it is met; a slice's spare places count too). A statement '..UptoSaid' is the law's where the arguments, and the package variables that the reading takes, are together of bulk at most 1048576: NARROWER than '..Said'. Prove '..Said' where nothing that the law and all that it calls make is longer than what came in: it says more and counts as full. Else prove '..UptoSaid'. A law counts once. -/
mutual
def uptoBulk {H : Type} : DataW H → Nat
  | .lit (.string bytes) => bytes.length + 1
  | .lit _ => 1
  | .nil => 1
  | .ptr d => uptoBulk d + 1
  | .slice elems spare => uptoBulkAll elems + uptoBulkAll spare + 1
  | .agg parts => uptoBulkAll parts + 1
  | .iface _ d => uptoBulk d + 1
  | .map entries => uptoBulkEntries entries + 1
  | .held _ => 1
def uptoBulkAll {H : Type} : List (DataW H) → Nat
  | [] => 0
  | d :: r => uptoBulk d + uptoBulkAll r
def uptoBulkEntries {H : Type} : List (Lit × DataW H) → Nat
  | [] => 0
  | x :: r => uptoBulkEntry x + uptoBulkEntries r
def uptoBulkEntry {H : Type} : Lit × DataW H → Nat
  | (.string bytes, d) => bytes.length + uptoBulk d + 1
  | (_, d) => uptoBulk d + 1
 end
def uptoSmall : (H : Type) → List (DataW H) → Bool := fun _ ds => decide (uptoBulkAll ds ≤ 1048576)
def OpenSpec.upto (s : _root_.Go.ChangeSpec) : _root_.Go.OpenSpec := { _root_.Go.OpenSpec.ofChange s with cond := some uptoSmall }

/-- 'petrellaw07.OpPuts', WHERE WHAT IT READS IS OF BULK AT MOST 1048576: true; the input reads as it did. -/
def opPutsUptoRow : OpenClaim := { program := "ytjcnifpnmakfdaadoor", sum := "478c4470e595ff6c8b3b2df56d319118e1f1429fdc3edb5d7c42f09ef02021aa", func := "petrel/petrellaw07.OpPuts", spec := "opPuts", inPlace := ["internal/bytealg.Compare"], named := ["petrel/op.has"], apart := false, laid := [("petrel/op.has", laid_petrel_op_has)], narrowed := true }
def OpPutsUptoSaid : Prop := opPutsUptoRow.holds Tryd.pinned (OpenSpec.upto opPutsSpec)

/-- 'petrellaw07.OpReads', WHERE WHAT IT READS IS OF BULK AT MOST 1048576: true; the input reads as it did. -/
def opReadsUptoRow : OpenClaim := { program := "ytjcnifpnmakfdaadoor", sum := "478c4470e595ff6c8b3b2df56d319118e1f1429fdc3edb5d7c42f09ef02021aa", func := "petrel/petrellaw07.OpReads", spec := "opReads", inPlace := ["internal/bytealg.Compare"], named := ["petrel/op.has"], apart := false, laid := [("petrel/op.has", laid_petrel_op_has)], narrowed := true }
def OpReadsUptoSaid : Prop := opReadsUptoRow.holds Tryd.pinned (OpenSpec.upto opReadsSpec)

/-- 'petrellaw07.OpBack', WHERE WHAT IT READS IS OF BULK AT MOST 1048576: true; the input reads as it did. -/
def opBackUptoRow : OpenClaim := { program := "ytjcnifpnmakfdaadoor", sum := "478c4470e595ff6c8b3b2df56d319118e1f1429fdc3edb5d7c42f09ef02021aa", func := "petrel/petrellaw07.OpBack", spec := "opBack", inPlace := ["internal/bytealg.Compare"], named := ["petrel/op.has"], apart := false, laid := [("petrel/op.has", laid_petrel_op_has)], narrowed := true }
def OpBackUptoSaid : Prop := opBackUptoRow.holds Tryd.pinned (OpenSpec.upto opBackSpec)

/-- 'petrellaw07.OpShort', WHERE WHAT IT READS IS OF BULK AT MOST 1048576: true; the input reads as it did. -/
def opShortUptoRow : OpenClaim := { program := "ytjcnifpnmakfdaadoor", sum := "478c4470e595ff6c8b3b2df56d319118e1f1429fdc3edb5d7c42f09ef02021aa", func := "petrel/petrellaw07.OpShort", spec := "opShort", inPlace := ["internal/bytealg.Compare"], named := ["petrel/op.has"], apart := false, laid := [("petrel/op.has", laid_petrel_op_has)], narrowed := true }
def OpShortUptoSaid : Prop := opShortUptoRow.holds Tryd.pinned (OpenSpec.upto opShortSpec)

end Rows
end Go.Proofs.YtjcnifpnmakfdaaDoor
