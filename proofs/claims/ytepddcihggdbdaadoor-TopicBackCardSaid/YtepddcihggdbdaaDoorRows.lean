/-
  NARROWER THAN 'FOR EVERY INPUT', by the rows' own cells (each row's printed sentence says how): TopicPlays: laid · TopicBack: laid · TopicBytes: laid.
  DERIVED. THE GIVEN ROWS OF THIS SEAT. 3 by the template 'for every input the law returns true; each argument reads behind the call as it read before'; 0 by the template 'total and deterministic' (their statements: YtepddcihggdbdaaDoorTotals.lean).
  GIVEN WITH THE SEED: the statements are not yours to turn. If you find one false, say at which input.
  Laid BY PROGRAM, IN A SANDBOX (cutbox-rows.mjs): the forced cells as the released guide's own fill.sh prints them over the translation 97e7fc5cf12913f9… (all of the seat's roots in one cut). By AI agents, Wed Nov 11 2026. No macro, syntax, notation, axiom, sorry.
-/
import Derived.Test.YtepddcihggdbdaaDoorChecked
import GoSem.Claim
import GoSem.ClaimJoined
import GoSem.ClaimMapViews
import Derived.JoinedTies
import Derived.KernelRfl
namespace Go.Proofs.YtepddcihggdbdaaDoor
/- THE CELL 'sum', in the pinned program and in every row, IS THE sha256 OF THE DUMP (.gsa) THAT YtepddcihggdbdaaDoorProg.lean LOADS. Nothing in Lean hashes anything: it is a label: what it is worth is what the hold of that sum in a sandbox is worth. -/
noncomputable def Tryd.pinned : Pinned := { name := "ytepddcihggdbdaadoor", sum := "97e7fc5cf12913f970e636b0e362c5962d2a8313fa3d59de8a4f3c376ac1e949", checked := Tryd.checked }
namespace Rows
def none {H : Type} : Left H := { results := [], args := [] }

/- WHAT THE LISTED PACKAGE-LEVEL VARIABLES READ AS WHEN THE CALL BEGINS. Each datum BY PROGRAM (the guide's laid-datum.mjs) off the statement by which the dump's own 'gosem.cut.vars' lays the variable. In a bare row this is a premise. The card (YtepddcihggdbdaaDoorCards.lean) ties it to the program's text. -/
def laid_petrel_topic_letters {H : Type} : DataW H := .agg [.lit (.string []), .lit (.string [99]), .lit (.string [115]), .lit (.string [108]), .lit (.string [109]), .lit (.string [114])]

/-- 'petrellaw05.TopicPlays': WHATEVER THE INPUT: true; the input reads as it did. -/
def topicPlaysSpec : ChangeSpec := { name := "topicPlays", fn := fun _ => fun
  | [d1, d2, d3] => { results := [.lit (.bool true)], args := [d1, d2, d3] }
  | _ => none }
def topicPlaysRow : OpenClaim := { program := "ytepddcihggdbdaadoor", sum := "97e7fc5cf12913f970e636b0e362c5962d2a8313fa3d59de8a4f3c376ac1e949", func := "petrel/petrellaw05.TopicPlays", spec := "topicPlays", named := ["petrel/topic.letters"], apart := false, laid := [("petrel/topic.letters", laid_petrel_topic_letters)] }
def TopicPlaysSaid : Prop := topicPlaysRow.holds Tryd.pinned (OpenSpec.ofChange topicPlaysSpec)

/-- ITS FALSE NEIGHBOUR: 'it returns false'. Refute it at one input. -/
def topicPlaysWrong : ChangeSpec := { name := "topicPlays", fn := fun _ => fun
  | [d1, d2, d3] => { results := [.lit (.bool false)], args := [d1, d2, d3] }
  | _ => none }
def TopicPlaysWrongFalsely : Prop := topicPlaysRow.holds Tryd.pinned (OpenSpec.ofChange topicPlaysWrong)

/-- 'petrellaw05.TopicBack': WHATEVER THE INPUT: true; the input reads as it did. -/
def topicBackSpec : ChangeSpec := { name := "topicBack", fn := fun _ => fun
  | [d1, d2] => { results := [.lit (.bool true)], args := [d1, d2] }
  | _ => none }
def topicBackRow : OpenClaim := { program := "ytepddcihggdbdaadoor", sum := "97e7fc5cf12913f970e636b0e362c5962d2a8313fa3d59de8a4f3c376ac1e949", func := "petrel/petrellaw05.TopicBack", spec := "topicBack", named := ["petrel/topic.letters"], apart := false, laid := [("petrel/topic.letters", laid_petrel_topic_letters)] }
def TopicBackSaid : Prop := topicBackRow.holds Tryd.pinned (OpenSpec.ofChange topicBackSpec)

/-- ITS FALSE NEIGHBOUR: 'it returns false'. Refute it at one input. -/
def topicBackWrong : ChangeSpec := { name := "topicBack", fn := fun _ => fun
  | [d1, d2] => { results := [.lit (.bool false)], args := [d1, d2] }
  | _ => none }
def TopicBackWrongFalsely : Prop := topicBackRow.holds Tryd.pinned (OpenSpec.ofChange topicBackWrong)

/-- 'petrellaw05.TopicBytes': WHATEVER THE INPUT: true; the input reads as it did. -/
def topicBytesSpec : ChangeSpec := { name := "topicBytes", fn := fun _ => fun
  | [d1, d2, d3] => { results := [.lit (.bool true)], args := [d1, d2, d3] }
  | _ => none }
def topicBytesRow : OpenClaim := { program := "ytepddcihggdbdaadoor", sum := "97e7fc5cf12913f970e636b0e362c5962d2a8313fa3d59de8a4f3c376ac1e949", func := "petrel/petrellaw05.TopicBytes", spec := "topicBytes", named := ["petrel/topic.letters"], apart := false, laid := [("petrel/topic.letters", laid_petrel_topic_letters)] }
def TopicBytesSaid : Prop := topicBytesRow.holds Tryd.pinned (OpenSpec.ofChange topicBytesSpec)

/-- ITS FALSE NEIGHBOUR: 'it returns false'. Refute it at one input. -/
def topicBytesWrong : ChangeSpec := { name := "topicBytes", fn := fun _ => fun
  | [d1, d2, d3] => { results := [.lit (.bool false)], args := [d1, d2, d3] }
  | _ => none }
def TopicBytesWrongFalsely : Prop := topicBytesRow.holds Tryd.pinned (OpenSpec.ofChange topicBytesWrong)

/- THE SECOND FORM. 'bulk': how many values and letters a reading holds, each counted each time it is reached (what is shared counts as often as it is met; a slice's spare places count too). A statement '..UptoSaid' is the law's where the arguments, and the package variables that the reading takes, are together of bulk at most 1048576: NARROWER than '..Said'. Prove '..Said' where nothing that the law and all that it calls make is longer than what came in: it says more and counts as full. Else prove '..UptoSaid'. A law counts once. -/
mutual
def uptoBulk {H : Type} : DataW H → Nat
  | .lit (.string bytes) => bytes.length + 1
  | .lit _ => 1
  | .nil => 1
  | .ptr d => uptoBulk d + 1
  | .slice elems spare => uptoBulkAll elems + uptoBulkAll spare + 1
  | .agg parts => uptoBulkAll parts + 1
  | .iface _ d => uptoBulk d + 1
  | .map entries => uptoBulkEntries entries + 1
  | .held _ => 1
def uptoBulkAll {H : Type} : List (DataW H) → Nat
  | [] => 0
  | d :: r => uptoBulk d + uptoBulkAll r
def uptoBulkEntries {H : Type} : List (Lit × DataW H) → Nat
  | [] => 0
  | x :: r => uptoBulkEntry x + uptoBulkEntries r
def uptoBulkEntry {H : Type} : Lit × DataW H → Nat
  | (.string bytes, d) => bytes.length + uptoBulk d + 1
  | (_, d) => uptoBulk d + 1
 end
def uptoSmall : (H : Type) → List (DataW H) → Bool := fun _ ds => decide (uptoBulkAll ds ≤ 1048576)
def OpenSpec.upto (s : _root_.Go.ChangeSpec) : _root_.Go.OpenSpec := { _root_.Go.OpenSpec.ofChange s with cond := some uptoSmall }

/-- 'petrellaw05.TopicPlays', WHERE WHAT IT READS IS OF BULK AT MOST 1048576: true; the input reads as it did. -/
def topicPlaysUptoRow : OpenClaim := { program := "ytepddcihggdbdaadoor", sum := "97e7fc5cf12913f970e636b0e362c5962d2a8313fa3d59de8a4f3c376ac1e949", func := "petrel/petrellaw05.TopicPlays", spec := "topicPlays", named := ["petrel/topic.letters"], apart := false, laid := [("petrel/topic.letters", laid_petrel_topic_letters)], narrowed := true }
def TopicPlaysUptoSaid : Prop := topicPlaysUptoRow.holds Tryd.pinned (OpenSpec.upto topicPlaysSpec)

/-- 'petrellaw05.TopicBack', WHERE WHAT IT READS IS OF BULK AT MOST 1048576: true; the input reads as it did. -/
def topicBackUptoRow : OpenClaim := { program := "ytepddcihggdbdaadoor", sum := "97e7fc5cf12913f970e636b0e362c5962d2a8313fa3d59de8a4f3c376ac1e949", func := "petrel/petrellaw05.TopicBack", spec := "topicBack", named := ["petrel/topic.letters"], apart := false, laid := [("petrel/topic.letters", laid_petrel_topic_letters)], narrowed := true }
def TopicBackUptoSaid : Prop := topicBackUptoRow.holds Tryd.pinned (OpenSpec.upto topicBackSpec)

/-- 'petrellaw05.TopicBytes', WHERE WHAT IT READS IS OF BULK AT MOST 1048576: true; the input reads as it did. -/
def topicBytesUptoRow : OpenClaim := { program := "ytepddcihggdbdaadoor", sum := "97e7fc5cf12913f970e636b0e362c5962d2a8313fa3d59de8a4f3c376ac1e949", func := "petrel/petrellaw05.TopicBytes", spec := "topicBytes", named := ["petrel/topic.letters"], apart := false, laid := [("petrel/topic.letters", laid_petrel_topic_letters)], narrowed := true }
def TopicBytesUptoSaid : Prop := topicBytesUptoRow.holds Tryd.pinned (OpenSpec.upto topicBytesSpec)

end Rows
end Go.Proofs.YtepddcihggdbdaaDoor
