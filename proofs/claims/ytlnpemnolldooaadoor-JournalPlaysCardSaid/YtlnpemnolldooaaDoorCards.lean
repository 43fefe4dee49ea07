/-
  DERIVED. GIVEN WITH THE SEED: THE CARDS: each row of YtlnpemnolldooaaDoorRows.lean that lists a variable, with what it lists TIED to the program's text (the seventh form; the later family's looks); each row that meets fmt, with fmt's text TOLD by the authors' own Lean function (tested against real Go, not proved from fmt's source: count such statements apart). THE CARD IS WHAT COUNTS. Prove the row's statement (the work); the ties are given (YtlnpemnolldooaaDoorTie.lean); close each card by the builder's one call (the guide's Derived/Test/ToyasCard.lean, 'card_holds'). Laid BY PROGRAM, IN A SANDBOX (cutbox-door.mjs). By AI agents, Wed Nov 11 2026. No macro, syntax, notation, axiom, sorry.
-/
import Derived.Test.YtlnpemnolldooaaDoorRows
import GoSem.ClaimSeven
namespace Go.Proofs.YtlnpemnolldooaaDoor
namespace Rows

/-- THE TIED CARD OF 'petrellaw12.JournalPlays'. -/
def journalPlaysCard : Claim7 := { stood := { row := journalPlaysRow, standIns := [], harness := (true, "58cd2afe9170d694f1c98b4b1eee34c60644cb02f31d749ce20dc99158414041"), looks := false }, kinds := [], alts := [], laidByText := true, laidKinds := [.data], laidTests := true, laidLooks := .later }
def JournalPlaysCardSaid : Prop := Claim7.holds Tryd.pinned (.plain (OpenSpec.ofChange journalPlaysSpec)) journalPlaysCard

/-- THE TIED CARD OF 'petrellaw12.JournalKeeps'. -/
def journalKeepsCard : Claim7 := { stood := { row := journalKeepsRow, standIns := [], harness := (true, "58cd2afe9170d694f1c98b4b1eee34c60644cb02f31d749ce20dc99158414041"), looks := false }, kinds := [], alts := [], laidByText := true, laidKinds := [.data], laidTests := true, laidLooks := .later }
def JournalKeepsCardSaid : Prop := Claim7.holds Tryd.pinned (.plain (OpenSpec.ofChange journalKeepsSpec)) journalKeepsCard

/-- THE TIED CARD OF 'petrellaw12.JournalZero'. -/
def journalZeroCard : Claim7 := { stood := { row := journalZeroRow, standIns := [], harness := (true, "58cd2afe9170d694f1c98b4b1eee34c60644cb02f31d749ce20dc99158414041"), looks := false }, kinds := [], alts := [], laidByText := true, laidKinds := [.data], laidTests := true, laidLooks := .later }
def JournalZeroCardSaid : Prop := Claim7.holds Tryd.pinned (.plain (OpenSpec.ofChange journalZeroSpec)) journalZeroCard

/-- THE SECOND FORM's CARD OF 'petrellaw12.JournalPlays'. -/
def journalPlaysUptoCard : Claim7 := { stood := { row := journalPlaysUptoRow, standIns := [], harness := (true, "58cd2afe9170d694f1c98b4b1eee34c60644cb02f31d749ce20dc99158414041"), looks := false }, kinds := [], alts := [], laidByText := true, laidKinds := [.data], laidTests := true, laidLooks := .later }
def JournalPlaysUptoCardSaid : Prop := Claim7.holds Tryd.pinned (.plain (OpenSpec.upto journalPlaysSpec)) journalPlaysUptoCard

/-- THE SECOND FORM's CARD OF 'petrellaw12.JournalKeeps'. -/
def journalKeepsUptoCard : Claim7 := { stood := { row := journalKeepsUptoRow, standIns := [], harness := (true, "58cd2afe9170d694f1c98b4b1eee34c60644cb02f31d749ce20dc99158414041"), looks := false }, kinds := [], alts := [], laidByText := true, laidKinds := [.data], laidTests := true, laidLooks := .later }
def JournalKeepsUptoCardSaid : Prop := Claim7.holds Tryd.pinned (.plain (OpenSpec.upto journalKeepsSpec)) journalKeepsUptoCard

/-- THE SECOND FORM's CARD OF 'petrellaw12.JournalZero'. -/
def journalZeroUptoCard : Claim7 := { stood := { row := journalZeroUptoRow, standIns := [], harness := (true, "58cd2afe9170d694f1c98b4b1eee34c60644cb02f31d749ce20dc99158414041"), looks := false }, kinds := [], alts := [], laidByText := true, laidKinds := [.data], laidTests := true, laidLooks := .later }
def JournalZeroUptoCardSaid : Prop := Claim7.holds Tryd.pinned (.plain (OpenSpec.upto journalZeroSpec)) journalZeroUptoCard
end Rows
end Go.Proofs.YtlnpemnolldooaaDoor
