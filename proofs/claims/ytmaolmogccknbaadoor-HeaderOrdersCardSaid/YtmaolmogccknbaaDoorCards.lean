/-
  DERIVED. GIVEN WITH THE SEED: THE CARDS: each row of YtmaolmogccknbaaDoorRows.lean that lists a variable, with what it lists TIED to the program's text (the seventh form; the later family's looks); each row that meets fmt, with fmt's text TOLD by the authors' own Lean function (tested against real Go, not proved from fmt's source: count such statements apart). THE CARD IS WHAT COUNTS. Prove the row's statement (the work); the ties are given (YtmaolmogccknbaaDoorTie.lean); close each card by the builder's one call (the guide's Derived/Test/ToyasCard.lean, 'card_holds'). Laid BY PROGRAM, IN A SANDBOX (cutbox-door.mjs). By AI agents, Wed Nov 11 2026. No macro, syntax, notation, axiom, sorry.
-/
import Derived.Test.YtmaolmogccknbaaDoorRows
import GoSem.ClaimSeven
namespace Go.Proofs.YtmaolmogccknbaaDoor
namespace Rows

/-- THE TIED CARD OF 'petrellaw07.OpPuts'. -/
def opPutsCard : Claim7 := { stood := { row := opPutsRow, standIns := [], harness := (true, "a98ffdb836e9f0d06896b2d9ee73be38b5d6a8f6f183c7ef800eef77fa894126"), looks := false }, kinds := [], alts := [], laidByText := true, laidKinds := [.data], laidTests := true, laidLooks := .later }
def OpPutsCardSaid : Prop := Claim7.holds Tryd.pinned (.plain (OpenSpec.ofChange opPutsSpec)) opPutsCard

/-- THE TIED CARD OF 'petrellaw07.OpReads'. -/
def opReadsCard : Claim7 := { stood := { row := opReadsRow, standIns := [], harness := (true, "a98ffdb836e9f0d06896b2d9ee73be38b5d6a8f6f183c7ef800eef77fa894126"), looks := false }, kinds := [], alts := [], laidByText := true, laidKinds := [.data], laidTests := true, laidLooks := .later }
def OpReadsCardSaid : Prop := Claim7.holds Tryd.pinned (.plain (OpenSpec.ofChange opReadsSpec)) opReadsCard

/-- THE TIED CARD OF 'petrellaw07.OpBack'. -/
def opBackCard : Claim7 := { stood := { row := opBackRow, standIns := [], harness := (true, "a98ffdb836e9f0d06896b2d9ee73be38b5d6a8f6f183c7ef800eef77fa894126"), looks := false }, kinds := [], alts := [], laidByText := true, laidKinds := [.data], laidTests := true, laidLooks := .later }
def OpBackCardSaid : Prop := Claim7.holds Tryd.pinned (.plain (OpenSpec.ofChange opBackSpec)) opBackCard

/-- THE TIED CARD OF 'petrellaw07.OpShort'. -/
def opShortCard : Claim7 := { stood := { row := opShortRow, standIns := [], harness := (true, "a98ffdb836e9f0d06896b2d9ee73be38b5d6a8f6f183c7ef800eef77fa894126"), looks := false }, kinds := [], alts := [], laidByText := true, laidKinds := [.data], laidTests := true, laidLooks := .later }
def OpShortCardSaid : Prop := Claim7.holds Tryd.pinned (.plain (OpenSpec.ofChange opShortSpec)) opShortCard

/-- THE TIED CARD OF 'petrellaw08.HeaderPuts'. -/
def headerPutsCard : Claim7 := { stood := { row := headerPutsRow, standIns := [], harness := (true, "a98ffdb836e9f0d06896b2d9ee73be38b5d6a8f6f183c7ef800eef77fa894126"), looks := false }, kinds := [], alts := [], laidByText := true, laidKinds := [.data, .data, .data], laidTests := true, laidLooks := .later }
def HeaderPutsCardSaid : Prop := Claim7.holds Tryd.pinned (.plain (OpenSpec.ofChange headerPutsSpec)) headerPutsCard

/-- THE TIED CARD OF 'petrellaw08.HeaderReads'. -/
def headerReadsCard : Claim7 := { stood := { row := headerReadsRow, standIns := [], harness := (true, "a98ffdb836e9f0d06896b2d9ee73be38b5d6a8f6f183c7ef800eef77fa894126"), looks := false }, kinds := [], alts := [], laidByText := true, laidKinds := [.data, .data, .data], laidTests := true, laidLooks := .later }
def HeaderReadsCardSaid : Prop := Claim7.holds Tryd.pinned (.plain (OpenSpec.ofChange headerReadsSpec)) headerReadsCard

/-- THE TIED CARD OF 'petrellaw08.HeaderBack'. -/
def headerBackCard : Claim7 := { stood := { row := headerBackRow, standIns := [], harness := (true, "a98ffdb836e9f0d06896b2d9ee73be38b5d6a8f6f183c7ef800eef77fa894126"), looks := false }, kinds := [], alts := [], laidByText := true, laidKinds := [.data, .data, .data], laidTests := true, laidLooks := .later }
def HeaderBackCardSaid : Prop := Claim7.holds Tryd.pinned (.plain (OpenSpec.ofChange headerBackSpec)) headerBackCard

/-- THE TIED CARD OF 'petrellaw08.HeaderOrders'. -/
def headerOrdersCard : Claim7 := { stood := { row := headerOrdersRow, standIns := [], harness := (true, "a98ffdb836e9f0d06896b2d9ee73be38b5d6a8f6f183c7ef800eef77fa894126"), looks := false }, kinds := [], alts := [], laidByText := true, laidKinds := [.data, .data, .data], laidTests := true, laidLooks := .later }
def HeaderOrdersCardSaid : Prop := Claim7.holds Tryd.pinned (.plain (OpenSpec.ofChange headerOrdersSpec)) headerOrdersCard

/-- THE SECOND FORM's CARD OF 'petrellaw07.OpPuts'. -/
def opPutsUptoCard : Claim7 := { stood := { row := opPutsUptoRow, standIns := [], harness := (true, "a98ffdb836e9f0d06896b2d9ee73be38b5d6a8f6f183c7ef800eef77fa894126"), looks := false }, kinds := [], alts := [], laidByText := true, laidKinds := [.data], laidTests := true, laidLooks := .later }
def OpPutsUptoCardSaid : Prop := Claim7.holds Tryd.pinned (.plain (OpenSpec.upto opPutsSpec)) opPutsUptoCard

/-- THE SECOND FORM's CARD OF 'petrellaw07.OpReads'. -/
def opReadsUptoCard : Claim7 := { stood := { row := opReadsUptoRow, standIns := [], harness := (true, "a98ffdb836e9f0d06896b2d9ee73be38b5d6a8f6f183c7ef800eef77fa894126"), looks := false }, kinds := [], alts := [], laidByText := true, laidKinds := [.data], laidTests := true, laidLooks := .later }
def OpReadsUptoCardSaid : Prop := Claim7.holds Tryd.pinned (.plain (OpenSpec.upto opReadsSpec)) opReadsUptoCard

/-- THE SECOND FORM's CARD OF 'petrellaw07.OpBack'. -/
def opBackUptoCard : Claim7 := { stood := { row := opBackUptoRow, standIns := [], harness := (true, "a98ffdb836e9f0d06896b2d9ee73be38b5d6a8f6f183c7ef800eef77fa894126"), looks := false }, kinds := [], alts := [], laidByText := true, laidKinds := [.data], laidTests := true, laidLooks := .later }
def OpBackUptoCardSaid : Prop := Claim7.holds Tryd.pinned (.plain (OpenSpec.upto opBackSpec)) opBackUptoCard

/-- THE SECOND FORM's CARD OF 'petrellaw07.OpShort'. -/
def opShortUptoCard : Claim7 := { stood := { row := opShortUptoRow, standIns := [], harness := (true, "a98ffdb836e9f0d06896b2d9ee73be38b5d6a8f6f183c7ef800eef77fa894126"), looks := false }, kinds := [], alts := [], laidByText := true, laidKinds := [.data], laidTests := true, laidLooks := .later }
def OpShortUptoCardSaid : Prop := Claim7.holds Tryd.pinned (.plain (OpenSpec.upto opShortSpec)) opShortUptoCard

/-- THE SECOND FORM's CARD OF 'petrellaw08.HeaderPuts'. -/
def headerPutsUptoCard : Claim7 := { stood := { row := headerPutsUptoRow, standIns := [], harness := (true, "a98ffdb836e9f0d06896b2d9ee73be38b5d6a8f6f183c7ef800eef77fa894126"), looks := false }, kinds := [], alts := [], laidByText := true, laidKinds := [.data, .data, .data], laidTests := true, laidLooks := .later }
def HeaderPutsUptoCardSaid : Prop := Claim7.holds Tryd.pinned (.plain (OpenSpec.upto headerPutsSpec)) headerPutsUptoCard

/-- THE SECOND FORM's CARD OF 'petrellaw08.HeaderReads'. -/
def headerReadsUptoCard : Claim7 := { stood := { row := headerReadsUptoRow, standIns := [], harness := (true, "a98ffdb836e9f0d06896b2d9ee73be38b5d6a8f6f183c7ef800eef77fa894126"), looks := false }, kinds := [], alts := [], laidByText := true, laidKinds := [.data, .data, .data], laidTests := true, laidLooks := .later }
def HeaderReadsUptoCardSaid : Prop := Claim7.holds Tryd.pinned (.plain (OpenSpec.upto headerReadsSpec)) headerReadsUptoCard

/-- THE SECOND FORM's CARD OF 'petrellaw08.HeaderBack'. -/
def headerBackUptoCard : Claim7 := { stood := { row := headerBackUptoRow, standIns := [], harness := (true, "a98ffdb836e9f0d06896b2d9ee73be38b5d6a8f6f183c7ef800eef77fa894126"), looks := false }, kinds := [], alts := [], laidByText := true, laidKinds := [.data, .data, .data], laidTests := true, laidLooks := .later }
def HeaderBackUptoCardSaid : Prop := Claim7.holds Tryd.pinned (.plain (OpenSpec.upto headerBackSpec)) headerBackUptoCard

/-- THE SECOND FORM's CARD OF 'petrellaw08.HeaderOrders'. -/
def headerOrdersUptoCard : Claim7 := { stood := { row := headerOrdersUptoRow, standIns := [], harness := (true, "a98ffdb836e9f0d06896b2d9ee73be38b5d6a8f6f183c7ef800eef77fa894126"), looks := false }, kinds := [], alts := [], laidByText := true, laidKinds := [.data, .data, .data], laidTests := true, laidLooks := .later }
def HeaderOrdersUptoCardSaid : Prop := Claim7.holds Tryd.pinned (.plain (OpenSpec.upto headerOrdersSpec)) headerOrdersUptoCard
end Rows
end Go.Proofs.YtmaolmogccknbaaDoor
