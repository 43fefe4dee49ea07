/-
  NARROWER THAN 'FOR EVERY INPUT', by the rows' own cells (each row's printed sentence says how): EntryPuts: laid · EntryReads: laid · EntryBack: laid · EntryLimits: laid.
  DERIVED. THE GIVEN ROWS OF THIS SEAT. 4 by the template 'for every input the law returns true; each argument reads behind the call as it read before'; 0 by the template 'total and deterministic' (their statements: YtbhkegdohiekfaaDoorTotals.lean).
  GIVEN WITH THE SEED: the statements are not yours to turn. If you find one false, say at which input.
  Laid BY PROGRAM, IN A SANDBOX (cutbox-rows.mjs): the forced cells as the released guide's own fill.sh prints them over the translation 0844b2205557dfd4… (all of the seat's roots in one cut). By AI agents, Wed Nov 11 2026. No macro, syntax, notation, axiom, sorry.
-/
import Derived.Test.YtbhkegdohiekfaaDoorChecked
import GoSem.Claim
import GoSem.ClaimJoined
import GoSem.ClaimMapViews
import Derived.JoinedTies
import Derived.KernelRfl
namespace Go.Proofs.YtbhkegdohiekfaaDoor
/- THE CELL 'sum', in the pinned program and in every row, IS THE sha256 OF THE DUMP (.gsa) THAT YtbhkegdohiekfaaDoorProg.lean LOADS. Nothing in Lean hashes anything: it is a label: what it is worth is what the hold of that sum in a sandbox is worth. -/
noncomputable def Tryd.pinned : Pinned := { name := "ytbhkegdohiekfaadoor", sum := "0844b2205557dfd4a85db7e4da3e0514adb9112f5a4ae380882ff179181b1267", checked := Tryd.checked }
namespace Rows
def none {H : Type} : Left H := { results := [], args := [] }

/- WHAT THE LISTED PACKAGE-LEVEL VARIABLES READ AS WHEN THE CALL BEGINS. Each datum BY PROGRAM (the guide's laid-datum.mjs) off the statement by which the dump's own 'gosem.cut.vars' lays the variable. In a bare row this is a premise. The card (YtbhkegdohiekfaaDoorCards.lean) ties it to the program's text. -/
def laid_petrel_topic_letters {H : Type} : DataW H := .agg [.lit (.string []), .lit (.string [99]), .lit (.string [115]), .lit (.string [108]), .lit (.string [109]), .lit (.string [114])]

/-- 'petrellaw14.EntryPuts': WHATEVER THE INPUT: true; the input reads as it did. -/
def entryPutsSpec : ChangeSpec := { name := "entryPuts", fn := fun _ => fun
  | [d] => { results := [.lit (.bool true)], args := [d] }
  | _ => none }
def entryPutsRow : OpenClaim := { program := "ytbhkegdohiekfaadoor", sum := "0844b2205557dfd4a85db7e4da3e0514adb9112f5a4ae380882ff179181b1267", func := "petrel/petrellaw14.EntryPuts", spec := "entryPuts", named := ["petrel/topic.letters"], apart := false, laid := [("petrel/topic.letters", laid_petrel_topic_letters)] }
def EntryPutsSaid : Prop := entryPutsRow.holds Tryd.pinned (OpenSpec.ofChange entryPutsSpec)

/-- ITS FALSE NEIGHBOUR: 'it returns false'. Refute it at one input. -/
def entryPutsWrong : ChangeSpec := { name := "entryPuts", fn := fun _ => fun
  | [d] => { results := [.lit (.bool false)], args := [d] }
  | _ => none }
def EntryPutsWrongFalsely : Prop := entryPutsRow.holds Tryd.pinned (OpenSpec.ofChange entryPutsWrong)

/-- 'petrellaw14.EntryReads': WHATEVER THE INPUT: true; the input reads as it did. -/
def entryReadsSpec : ChangeSpec := { name := "entryReads", fn := fun _ => fun
  | [d1, d2] => { results := [.lit (.bool true)], args := [d1, d2] }
  | _ => none }
def entryReadsRow : OpenClaim := { program := "ytbhkegdohiekfaadoor", sum := "0844b2205557dfd4a85db7e4da3e0514adb9112f5a4ae380882ff179181b1267", func := "petrel/petrellaw14.EntryReads", spec := "entryReads", named := ["petrel/topic.letters"], apart := false, laid := [("petrel/topic.letters", laid_petrel_topic_letters)] }
def EntryReadsSaid : Prop := entryReadsRow.holds Tryd.pinned (OpenSpec.ofChange entryReadsSpec)

/-- ITS FALSE NEIGHBOUR: 'it returns false'. Refute it at one input. -/
def entryReadsWrong : ChangeSpec := { name := "entryReads", fn := fun _ => fun
  | [d1, d2] => { results := [.lit (.bool false)], args := [d1, d2] }
  | _ => none }
def EntryReadsWrongFalsely : Prop := entryReadsRow.holds Tryd.pinned (OpenSpec.ofChange entryReadsWrong)

/-- 'petrellaw14.EntryBack': WHATEVER THE INPUT: true; the input reads as it did. -/
def entryBackSpec : ChangeSpec := { name := "entryBack", fn := fun _ => fun
  | [d1, d2] => { results := [.lit (.bool true)], args := [d1, d2] }
  | _ => none }
def entryBackRow : OpenClaim := { program := "ytbhkegdohiekfaadoor", sum := "0844b2205557dfd4a85db7e4da3e0514adb9112f5a4ae380882ff179181b1267", func := "petrel/petrellaw14.EntryBack", spec := "entryBack", named := ["petrel/topic.letters"], apart := false, laid := [("petrel/topic.letters", laid_petrel_topic_letters)] }
def EntryBackSaid : Prop := entryBackRow.holds Tryd.pinned (OpenSpec.ofChange entryBackSpec)

/-- ITS FALSE NEIGHBOUR: 'it returns false'. Refute it at one input. -/
def entryBackWrong : ChangeSpec := { name := "entryBack", fn := fun _ => fun
  | [d1, d2] => { results := [.lit (.bool false)], args := [d1, d2] }
  | _ => none }
def EntryBackWrongFalsely : Prop := entryBackRow.holds Tryd.pinned (OpenSpec.ofChange entryBackWrong)

/-- 'petrellaw14.EntryLimits': WHATEVER THE INPUT: true; the input reads as it did. -/
def entryLimitsSpec : ChangeSpec := { name := "entryLimits", fn := fun _ => fun
  | [d1, d2] => { results := [.lit (.bool true)], args := [d1, d2] }
  | _ => none }
def entryLimitsRow : OpenClaim := { program := "ytbhkegdohiekfaadoor", sum := "0844b2205557dfd4a85db7e4da3e0514adb9112f5a4ae380882ff179181b1267", func := "petrel/petrellaw14.EntryLimits", spec := "entryLimits", named := ["petrel/topic.letters"], apart := false, laid := [("petrel/topic.letters", laid_petrel_topic_letters)] }
def EntryLimitsSaid : Prop := entryLimitsRow.holds Tryd.pinned (OpenSpec.ofChange entryLimitsSpec)

/-- ITS FALSE NEIGHBOUR: 'it returns false'. Refute it at one input. -/
def entryLimitsWrong : ChangeSpec := { name := "entryLimits", fn := fun _ => fun
  | [d1, d2] => { results := [.lit (.bool false)], args := [d1, d2] }
  | _ => none }
def EntryLimitsWrongFalsely : Prop := entryLimitsRow.holds Tryd.pinned (OpenSpec.ofChange entryLimitsWrong)

/- THE SECOND FORM. 'bulk': how many values and letters a reading holds, each counted each time it is reached (what is shared counts as often as it is met; a slice's spare places count too). A statement '..UptoSaid' is the law's where the arguments, and the package variables that the reading takes, are together of bulk at most 1048576: NARROWER than '..Said'. Prove '..Said' where nothing that the law and all that it calls make is longer than what came in: it says more and counts as full. Else prove '..UptoSaid'. A law counts once. -/
mutual
def uptoBulk {H : Type} : DataW H → Nat
  | .lit (.string bytes) => bytes.length + 1
  | .lit _ => 1
  | .nil => 1
  | .ptr d => uptoBulk d + 1
  | .slice elems spare => uptoBulkAll elems + uptoBulkAll spare + 1
  | .agg parts => uptoBulkAll parts + 1
  | .iface _ d => uptoBulk d + 1
  | .map entries => uptoBulkEntries entries + 1
  | .held _ => 1
def uptoBulkAll {H : Type} : List (DataW H) → Nat
  | [] => 0
  | d :: r => uptoBulk d + uptoBulkAll r
def uptoBulkEntries {H : Type} : List (Lit × DataW H) → Nat
  | [] => 0
  | x :: r => uptoBulkEntry x + uptoBulkEntries r
def uptoBulkEntry {H : Type} : Lit × DataW H → Nat
  | (.string bytes, d) => bytes.length + uptoBulk d + 1
  | (_, d) => uptoBulk d + 1
 end
def uptoSmall : (H : Type) → List (DataW H) → Bool := fun _ ds => decide (uptoBulkAll ds ≤ 1048576)
def OpenSpec.upto (s : _root_.Go.ChangeSpec) : _root_.Go.OpenSpec := { _root_.Go.OpenSpec.ofChange s with cond := some uptoSmall }

/-- 'petrellaw14.EntryPuts', WHERE WHAT IT READS IS OF BULK AT MOST 1048576: true; the input reads as it did. -/
def entryPutsUptoRow : OpenClaim := { program := "ytbhkegdohiekfaadoor", sum := "0844b2205557dfd4a85db7e4da3e0514adb9112f5a4ae380882ff179181b1267", func := "petrel/petrellaw14.EntryPuts", spec := "entryPuts", named := ["petrel/topic.letters"], apart := false, laid := [("petrel/topic.letters", laid_petrel_topic_letters)], narrowed := true }
def EntryPutsUptoSaid : Prop := entryPutsUptoRow.holds Tryd.pinned (OpenSpec.upto entryPutsSpec)

/-- 'petrellaw14.EntryReads', WHERE WHAT IT READS IS OF BULK AT MOST 1048576: true; the input reads as it did. -/
def entryReadsUptoRow : OpenClaim := { program := "ytbhkegdohiekfaadoor", sum := "0844b2205557dfd4a85db7e4da3e0514adb9112f5a4ae380882ff179181b1267", func := "petrel/petrellaw14.EntryReads", spec := "entryReads", named := ["petrel/topic.letters"], apart := false, laid := [("petrel/topic.letters", laid_petrel_topic_letters)], narrowed := true }
def EntryReadsUptoSaid : Prop := entryReadsUptoRow.holds Tryd.pinned (OpenSpec.upto entryReadsSpec)

/-- 'petrellaw14.EntryBack', WHERE WHAT IT READS IS OF BULK AT MOST 1048576: true; the input reads as it did. -/
def entryBackUptoRow : OpenClaim := { program := "ytbhkegdohiekfaadoor", sum := "0844b2205557dfd4a85db7e4da3e0514adb9112f5a4ae380882ff179181b1267", func := "petrel/petrellaw14.EntryBack", spec := "entryBack", named := ["petrel/topic.letters"], apart := false, laid := [("petrel/topic.letters", laid_petrel_topic_letters)], narrowed := true }
def EntryBackUptoSaid : Prop := entryBackUptoRow.holds Tryd.pinned (OpenSpec.upto entryBackSpec)

/-- 'petrellaw14.EntryLimits', WHERE WHAT IT READS IS OF BULK AT MOST 1048576: true; the input reads as it did. -/
def entryLimitsUptoRow : OpenClaim := { program := "ytbhkegdohiekfaadoor", sum := "0844b2205557dfd4a85db7e4da3e0514adb9112f5a4ae380882ff179181b1267", func := "petrel/petrellaw14.EntryLimits", spec := "entryLimits", named := ["petrel/topic.letters"], apart := false, laid := [("petrel/topic.letters", laid_petrel_topic_letters)], narrowed := true }
def EntryLimitsUptoSaid : Prop := entryLimitsUptoRow.holds Tryd.pinned (OpenSpec.upto entryLimitsSpec)

end Rows
end Go.Proofs.YtbhkegdohiekfaaDoor
