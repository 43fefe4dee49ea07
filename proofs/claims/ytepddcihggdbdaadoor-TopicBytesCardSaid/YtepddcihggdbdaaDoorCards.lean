/-
  DERIVED. GIVEN WITH THE SEED: THE CARDS: each row of YtepddcihggdbdaaDoorRows.lean that lists a variable, with what it lists TIED to the program's text (the seventh form; the later family's looks); each row that meets fmt, with fmt's text TOLD by the authors' own Lean function (tested against real Go, not proved from fmt's source: count such statements apart). THE CARD IS WHAT COUNTS. Prove the row's statement (the work); the ties are given (YtepddcihggdbdaaDoorTie.lean); close each card by the builder's one call (the guide's Derived/Test/ToyasCard.lean, 'card_holds'). Laid BY PROGRAM, IN A SANDBOX (cutbox-door.mjs). By AI agents, Wed Nov 11 2026. No macro, syntax, notation, axiom, sorry.
-/
import Derived.Test.YtepddcihggdbdaaDoorRows
import GoSem.ClaimSeven
namespace Go.Proofs.YtepddcihggdbdaaDoor
namespace Rows

/-- THE TIED CARD OF 'petrellaw05.TopicPlays'. -/
def topicPlaysCard : Claim7 := { stood := { row := topicPlaysRow, standIns := [], harness := (true, "71e1016bd3a6efe401e727d12a917603af182dfd3e47daedacf2999dac43f789"), looks := false }, kinds := [], alts := [], laidByText := true, laidKinds := [.data], laidTests := true, laidLooks := .later }
def TopicPlaysCardSaid : Prop := Claim7.holds Tryd.pinned (.plain (OpenSpec.ofChange topicPlaysSpec)) topicPlaysCard

/-- THE TIED CARD OF 'petrellaw05.TopicBack'. -/
def topicBackCard : Claim7 := { stood := { row := topicBackRow, standIns := [], harness := (true, "71e1016bd3a6efe401e727d12a917603af182dfd3e47daedacf2999dac43f789"), looks := false }, kinds := [], alts := [], laidByText := true, laidKinds := [.data], laidTests := true, laidLooks := .later }
def TopicBackCardSaid : Prop := Claim7.holds Tryd.pinned (.plain (OpenSpec.ofChange topicBackSpec)) topicBackCard

/-- THE TIED CARD OF 'petrellaw05.TopicBytes'. -/
def topicBytesCard : Claim7 := { stood := { row := topicBytesRow, standIns := [], harness := (true, "71e1016bd3a6efe401e727d12a917603af182dfd3e47daedacf2999dac43f789"), looks := false }, kinds := [], alts := [], laidByText := true, laidKinds := [.data], laidTests := true, laidLooks := .later }
def TopicBytesCardSaid : Prop := Claim7.holds Tryd.pinned (.plain (OpenSpec.ofChange topicBytesSpec)) topicBytesCard

/-- THE SECOND FORM's CARD OF 'petrellaw05.TopicPlays'. -/
def topicPlaysUptoCard : Claim7 := { stood := { row := topicPlaysUptoRow, standIns := [], harness := (true, "71e1016bd3a6efe401e727d12a917603af182dfd3e47daedacf2999dac43f789"), looks := false }, kinds := [], alts := [], laidByText := true, laidKinds := [.data], laidTests := true, laidLooks := .later }
def TopicPlaysUptoCardSaid : Prop := Claim7.holds Tryd.pinned (.plain (OpenSpec.upto topicPlaysSpec)) topicPlaysUptoCard

/-- THE SECOND FORM's CARD OF 'petrellaw05.TopicBack'. -/
def topicBackUptoCard : Claim7 := { stood := { row := topicBackUptoRow, standIns := [], harness := (true, "71e1016bd3a6efe401e727d12a917603af182dfd3e47daedacf2999dac43f789"), looks := false }, kinds := [], alts := [], laidByText := true, laidKinds := [.data], laidTests := true, laidLooks := .later }
def TopicBackUptoCardSaid : Prop := Claim7.holds Tryd.pinned (.plain (OpenSpec.upto topicBackSpec)) topicBackUptoCard

/-- THE SECOND FORM's CARD OF 'petrellaw05.TopicBytes'. -/
def topicBytesUptoCard : Claim7 := { stood := { row := topicBytesUptoRow, standIns := [], harness := (true, "71e1016bd3a6efe401e727d12a917603af182dfd3e47daedacf2999dac43f789"), looks := false }, kinds := [], alts := [], laidByText := true, laidKinds := [.data], laidTests := true, laidLooks := .later }
def TopicBytesUptoCardSaid : Prop := Claim7.holds Tryd.pinned (.plain (OpenSpec.upto topicBytesSpec)) topicBytesUptoCard
end Rows
end Go.Proofs.YtepddcihggdbdaaDoor
