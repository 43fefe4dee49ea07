/-
  DERIVED. GIVEN WITH THE SEED: THE CARDS: each row of YtkbbeioednhefaaDoorRows.lean that lists a variable, with what it lists TIED to the program's text (the seventh form; the later family's looks); each row that meets fmt, with fmt's text TOLD by the authors' own Lean function (tested against real Go, not proved from fmt's source: count such statements apart). THE CARD IS WHAT COUNTS. Prove the row's statement (the work); the ties are given (YtkbbeioednhefaaDoorTie.lean); close each card by the builder's one call (the guide's Derived/Test/ToyasCard.lean, 'card_holds'). Laid BY PROGRAM, IN A SANDBOX (cutbox-door.mjs). By AI agents, Wed Nov 11 2026. No macro, syntax, notation, axiom, sorry.
-/
import Derived.Test.YtkbbeioednhefaaDoorRows
import GoSem.ClaimSeven
namespace Go.Proofs.YtkbbeioednhefaaDoor
namespace Rows

/-- THE TIED CARD OF 'petrellaw12.JournalPlays'. -/
def journalPlaysCard : Claim7 := { stood := { row := journalPlaysRow, standIns := [], harness := (true, "2c3a837c9c5f763ca0419a9a5d0f4f77d7db19a4dc9f0c4d3a9933ca592565ba"), looks := true }, kinds := [], alts := [], laidByText := true, laidKinds := [.data], laidTests := true, laidLooks := .later }
def JournalPlaysCardSaid : Prop := Claim7.holds Tryd.pinned (.plain (OpenSpec.ofChange journalPlaysSpec)) journalPlaysCard

/-- THE TIED CARD OF 'petrellaw12.JournalKeeps'. -/
def journalKeepsCard : Claim7 := { stood := { row := journalKeepsRow, standIns := [], harness := (true, "2c3a837c9c5f763ca0419a9a5d0f4f77d7db19a4dc9f0c4d3a9933ca592565ba"), looks := true }, kinds := [], alts := [], laidByText := true, laidKinds := [.data], laidTests := true, laidLooks := .later }
def JournalKeepsCardSaid : Prop := Claim7.holds Tryd.pinned (.plain (OpenSpec.ofChange journalKeepsSpec)) journalKeepsCard

/-- THE TIED CARD OF 'petrellaw12.JournalZero'. -/
def journalZeroCard : Claim7 := { stood := { row := journalZeroRow, standIns := [], harness := (true, "2c3a837c9c5f763ca0419a9a5d0f4f77d7db19a4dc9f0c4d3a9933ca592565ba"), looks := true }, kinds := [], alts := [], laidByText := true, laidKinds := [.data], laidTests := true, laidLooks := .later }
def JournalZeroCardSaid : Prop := Claim7.holds Tryd.pinned (.plain (OpenSpec.ofChange journalZeroSpec)) journalZeroCard

/-- THE TIED CARD OF 'petrellaw13.VaultKeeps'. -/
def vaultKeepsCard : Claim7 := { stood := { row := vaultKeepsRow, standIns := [], harness := (true, "2c3a837c9c5f763ca0419a9a5d0f4f77d7db19a4dc9f0c4d3a9933ca592565ba"), looks := true }, kinds := [], alts := [], laidByText := true, laidKinds := [.data], laidTests := true, laidLooks := .later }
def VaultKeepsCardSaid : Prop := Claim7.holds Tryd.pinned (.plain (OpenSpec.ofChange vaultKeepsSpec)) vaultKeepsCard

/-- THE TIED CARD OF 'petrellaw13.VaultWhole'. -/
def vaultWholeCard : Claim7 := { stood := { row := vaultWholeRow, standIns := [], harness := (true, "2c3a837c9c5f763ca0419a9a5d0f4f77d7db19a4dc9f0c4d3a9933ca592565ba"), looks := true }, kinds := [], alts := [], laidByText := true, laidKinds := [.data], laidTests := true, laidLooks := .later }
def VaultWholeCardSaid : Prop := Claim7.holds Tryd.pinned (.plain (OpenSpec.ofChange vaultWholeSpec)) vaultWholeCard

/-- THE TIED CARD OF 'petrellaw13.VaultZero'. -/
def vaultZeroCard : Claim7 := { stood := { row := vaultZeroRow, standIns := [], harness := (true, "2c3a837c9c5f763ca0419a9a5d0f4f77d7db19a4dc9f0c4d3a9933ca592565ba"), looks := true }, kinds := [], alts := [], laidByText := true, laidKinds := [.data], laidTests := true, laidLooks := .later }
def VaultZeroCardSaid : Prop := Claim7.holds Tryd.pinned (.plain (OpenSpec.ofChange vaultZeroSpec)) vaultZeroCard

/-- THE SECOND FORM's CARD OF 'petrellaw12.JournalPlays'. -/
def journalPlaysUptoCard : Claim7 := { stood := { row := journalPlaysUptoRow, standIns := [], harness := (true, "2c3a837c9c5f763ca0419a9a5d0f4f77d7db19a4dc9f0c4d3a9933ca592565ba"), looks := true }, kinds := [], alts := [], laidByText := true, laidKinds := [.data], laidTests := true, laidLooks := .later }
def JournalPlaysUptoCardSaid : Prop := Claim7.holds Tryd.pinned (.plain (OpenSpec.upto journalPlaysSpec)) journalPlaysUptoCard

/-- THE SECOND FORM's CARD OF 'petrellaw12.JournalKeeps'. -/
def journalKeepsUptoCard : Claim7 := { stood := { row := journalKeepsUptoRow, standIns := [], harness := (true, "2c3a837c9c5f763ca0419a9a5d0f4f77d7db19a4dc9f0c4d3a9933ca592565ba"), looks := true }, kinds := [], alts := [], laidByText := true, laidKinds := [.data], laidTests := true, laidLooks := .later }
def JournalKeepsUptoCardSaid : Prop := Claim7.holds Tryd.pinned (.plain (OpenSpec.upto journalKeepsSpec)) journalKeepsUptoCard

/-- THE SECOND FORM's CARD OF 'petrellaw12.JournalZero'. -/
def journalZeroUptoCard : Claim7 := { stood := { row := journalZeroUptoRow, standIns := [], harness := (true, "2c3a837c9c5f763ca0419a9a5d0f4f77d7db19a4dc9f0c4d3a9933ca592565ba"), looks := true }, kinds := [], alts := [], laidByText := true, laidKinds := [.data], laidTests := true, laidLooks := .later }
def JournalZeroUptoCardSaid : Prop := Claim7.holds Tryd.pinned (.plain (OpenSpec.upto journalZeroSpec)) journalZeroUptoCard

/-- THE SECOND FORM's CARD OF 'petrellaw13.VaultKeeps'. -/
def vaultKeepsUptoCard : Claim7 := { stood := { row := vaultKeepsUptoRow, standIns := [], harness := (true, "2c3a837c9c5f763ca0419a9a5d0f4f77d7db19a4dc9f0c4d3a9933ca592565ba"), looks := true }, kinds := [], alts := [], laidByText := true, laidKinds := [.data], laidTests := true, laidLooks := .later }
def VaultKeepsUptoCardSaid : Prop := Claim7.holds Tryd.pinned (.plain (OpenSpec.upto vaultKeepsSpec)) vaultKeepsUptoCard

/-- THE SECOND FORM's CARD OF 'petrellaw13.VaultWhole'. -/
def vaultWholeUptoCard : Claim7 := { stood := { row := vaultWholeUptoRow, standIns := [], harness := (true, "2c3a837c9c5f763ca0419a9a5d0f4f77d7db19a4dc9f0c4d3a9933ca592565ba"), looks := true }, kinds := [], alts := [], laidByText := true, laidKinds := [.data], laidTests := true, laidLooks := .later }
def VaultWholeUptoCardSaid : Prop := Claim7.holds Tryd.pinned (.plain (OpenSpec.upto vaultWholeSpec)) vaultWholeUptoCard

/-- THE SECOND FORM's CARD OF 'petrellaw13.VaultZero'. -/
def vaultZeroUptoCard : Claim7 := { stood := { row := vaultZeroUptoRow, standIns := [], harness := (true, "2c3a837c9c5f763ca0419a9a5d0f4f77d7db19a4dc9f0c4d3a9933ca592565ba"), looks := true }, kinds := [], alts := [], laidByText := true, laidKinds := [.data], laidTests := true, laidLooks := .later }
def VaultZeroUptoCardSaid : Prop := Claim7.holds Tryd.pinned (.plain (OpenSpec.upto vaultZeroSpec)) vaultZeroUptoCard
end Rows
end Go.Proofs.YtkbbeioednhefaaDoor
