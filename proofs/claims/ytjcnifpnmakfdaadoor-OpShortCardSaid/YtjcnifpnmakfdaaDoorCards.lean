/-
  DERIVED. GIVEN WITH THE SEED: THE CARDS: each row of YtjcnifpnmakfdaaDoorRows.lean that lists a variable, with what it lists TIED to the program's text (the seventh form; the later family's looks); each row that meets fmt, with fmt's text TOLD by the authors' own Lean function (tested against real Go, not proved from fmt's source: count such statements apart). THE CARD IS WHAT COUNTS. Prove the row's statement (the work); the ties are given (YtjcnifpnmakfdaaDoorTie.lean); close each card by the builder's one call (the guide's Derived/Test/ToyasCard.lean, 'card_holds'). Laid BY PROGRAM, IN A SANDBOX (cutbox-door.mjs). By AI agents, Wed Nov 11 2026. No macro, syntax, notation, axiom, sorry.
-/
import Derived.Test.YtjcnifpnmakfdaaDoorRows
import GoSem.ClaimSeven
namespace Go.Proofs.YtjcnifpnmakfdaaDoor
namespace Rows

/-- THE TIED CARD OF 'petrellaw07.OpPuts'. -/
def opPutsCard : Claim7 := { stood := { row := opPutsRow, standIns := [], harness := (true, "5e4b65a56ffe0d926984f5126a75b3f052cd4345f385b4111110f4c93dfdaf7c"), looks := false }, kinds := [], alts := [], laidByText := true, laidKinds := [.data], laidTests := true, laidLooks := .later }
def OpPutsCardSaid : Prop := Claim7.holds Tryd.pinned (.plain (OpenSpec.ofChange opPutsSpec)) opPutsCard

/-- THE TIED CARD OF 'petrellaw07.OpReads'. -/
def opReadsCard : Claim7 := { stood := { row := opReadsRow, standIns := [], harness := (true, "5e4b65a56ffe0d926984f5126a75b3f052cd4345f385b4111110f4c93dfdaf7c"), looks := false }, kinds := [], alts := [], laidByText := true, laidKinds := [.data], laidTests := true, laidLooks := .later }
def OpReadsCardSaid : Prop := Claim7.holds Tryd.pinned (.plain (OpenSpec.ofChange opReadsSpec)) opReadsCard

/-- THE TIED CARD OF 'petrellaw07.OpBack'. -/
def opBackCard : Claim7 := { stood := { row := opBackRow, standIns := [], harness := (true, "5e4b65a56ffe0d926984f5126a75b3f052cd4345f385b4111110f4c93dfdaf7c"), looks := false }, kinds := [], alts := [], laidByText := true, laidKinds := [.data], laidTests := true, laidLooks := .later }
def OpBackCardSaid : Prop := Claim7.holds Tryd.pinned (.plain (OpenSpec.ofChange opBackSpec)) opBackCard

/-- THE TIED CARD OF 'petrellaw07.OpShort'. -/
def opShortCard : Claim7 := { stood := { row := opShortRow, standIns := [], harness := (true, "5e4b65a56ffe0d926984f5126a75b3f052cd4345f385b4111110f4c93dfdaf7c"), looks := false }, kinds := [], alts := [], laidByText := true, laidKinds := [.data], laidTests := true, laidLooks := .later }
def OpShortCardSaid : Prop := Claim7.holds Tryd.pinned (.plain (OpenSpec.ofChange opShortSpec)) opShortCard

/-- THE SECOND FORM's CARD OF 'petrellaw07.OpPuts'. -/
def opPutsUptoCard : Claim7 := { stood := { row := opPutsUptoRow, standIns := [], harness := (true, "5e4b65a56ffe0d926984f5126a75b3f052cd4345f385b4111110f4c93dfdaf7c"), looks := false }, kinds := [], alts := [], laidByText := true, laidKinds := [.data], laidTests := true, laidLooks := .later }
def OpPutsUptoCardSaid : Prop := Claim7.holds Tryd.pinned (.plain (OpenSpec.upto opPutsSpec)) opPutsUptoCard

/-- THE SECOND FORM's CARD OF 'petrellaw07.OpReads'. -/
def opReadsUptoCard : Claim7 := { stood := { row := opReadsUptoRow, standIns := [], harness := (true, "5e4b65a56ffe0d926984f5126a75b3f052cd4345f385b4111110f4c93dfdaf7c"), looks := false }, kinds := [], alts := [], laidByText := true, laidKinds := [.data], laidTests := true, laidLooks := .later }
def OpReadsUptoCardSaid : Prop := Claim7.holds Tryd.pinned (.plain (OpenSpec.upto opReadsSpec)) opReadsUptoCard

/-- THE SECOND FORM's CARD OF 'petrellaw07.OpBack'. -/
def opBackUptoCard : Claim7 := { stood := { row := opBackUptoRow, standIns := [], harness := (true, "5e4b65a56ffe0d926984f5126a75b3f052cd4345f385b4111110f4c93dfdaf7c"), looks := false }, kinds := [], alts := [], laidByText := true, laidKinds := [.data], laidTests := true, laidLooks := .later }
def OpBackUptoCardSaid : Prop := Claim7.holds Tryd.pinned (.plain (OpenSpec.upto opBackSpec)) opBackUptoCard

/-- THE SECOND FORM's CARD OF 'petrellaw07.OpShort'. -/
def opShortUptoCard : Claim7 := { stood := { row := opShortUptoRow, standIns := [], harness := (true, "5e4b65a56ffe0d926984f5126a75b3f052cd4345f385b4111110f4c93dfdaf7c"), looks := false }, kinds := [], alts := [], laidByText := true, laidKinds := [.data], laidTests := true, laidLooks := .later }
def OpShortUptoCardSaid : Prop := Claim7.holds Tryd.pinned (.plain (OpenSpec.upto opShortSpec)) opShortUptoCard
end Rows
end Go.Proofs.YtjcnifpnmakfdaaDoor
