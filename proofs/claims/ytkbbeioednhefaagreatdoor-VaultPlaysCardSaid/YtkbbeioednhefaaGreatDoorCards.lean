/-
  DERIVED. GIVEN WITH THE SEED: THE CARDS: each row of YtkbbeioednhefaaGreatDoorRows.lean that lists a variable, with what it lists TIED to the program's text (the seventh form; the later family's looks); each row that meets fmt, with fmt's text TOLD by the authors' own Lean function (tested against real Go, not proved from fmt's source: count such statements apart). THE CARD IS WHAT COUNTS. Prove the row's statement (the work); the ties are given (YtkbbeioednhefaaGreatDoorTie.lean); close each card by the builder's one call (the guide's Derived/Test/ToyasCard.lean, 'card_holds'). Laid BY PROGRAM, IN A SANDBOX (cutbox-door.mjs). By AI agents, Wed Nov 11 2026. No macro, syntax, notation, axiom, sorry.
-/
import Derived.Test.YtkbbeioednhefaaGreatDoorRows
import GoSem.ClaimSeven
namespace Go.Proofs.YtkbbeioednhefaaGreatDoor
namespace Rows

/-- THE TIED CARD OF 'petrellaw13.VaultPlays'. -/
def vaultPlaysCard : Claim7 := { stood := { row := vaultPlaysRow, standIns := [], harness := (true, "a01701c6f100c9361ad66c07302d974690abec4a54ad855e31159a7165b9e2e1"), looks := true }, kinds := [], alts := [], laidByText := true, laidKinds := [.data], laidTests := true, laidLooks := .later }
def VaultPlaysCardSaid : Prop := Claim7.holds Tryz.pinned (.plain (OpenSpec.ofChange vaultPlaysSpec)) vaultPlaysCard

/-- THE TIED CARD OF 'petrellaw13.VaultLoads'. -/
def vaultLoadsCard : Claim7 := { stood := { row := vaultLoadsRow, standIns := [], harness := (true, "a01701c6f100c9361ad66c07302d974690abec4a54ad855e31159a7165b9e2e1"), looks := true }, kinds := [], alts := [], laidByText := true, laidKinds := [.data], laidTests := true, laidLooks := .later }
def VaultLoadsCardSaid : Prop := Claim7.holds Tryz.pinned (.plain (OpenSpec.ofChange vaultLoadsSpec)) vaultLoadsCard

/-- THE SECOND FORM's CARD OF 'petrellaw13.VaultPlays'. -/
def vaultPlaysUptoCard : Claim7 := { stood := { row := vaultPlaysUptoRow, standIns := [], harness := (true, "a01701c6f100c9361ad66c07302d974690abec4a54ad855e31159a7165b9e2e1"), looks := true }, kinds := [], alts := [], laidByText := true, laidKinds := [.data], laidTests := true, laidLooks := .later }
def VaultPlaysUptoCardSaid : Prop := Claim7.holds Tryz.pinned (.plain (OpenSpec.upto vaultPlaysSpec)) vaultPlaysUptoCard

/-- THE SECOND FORM's CARD OF 'petrellaw13.VaultLoads'. -/
def vaultLoadsUptoCard : Claim7 := { stood := { row := vaultLoadsUptoRow, standIns := [], harness := (true, "a01701c6f100c9361ad66c07302d974690abec4a54ad855e31159a7165b9e2e1"), looks := true }, kinds := [], alts := [], laidByText := true, laidKinds := [.data], laidTests := true, laidLooks := .later }
def VaultLoadsUptoCardSaid : Prop := Claim7.holds Tryz.pinned (.plain (OpenSpec.upto vaultLoadsSpec)) vaultLoadsUptoCard
end Rows
end Go.Proofs.YtkbbeioednhefaaGreatDoor
