/-
  DERIVED. GIVEN WITH THE SEED: THE CARDS: each row of YtpeneeddfgmjpaaGreatDoorRows.lean that lists a variable, with what it lists TIED to the program's text (the seventh form; the later family's looks); each row that meets fmt, with fmt's text TOLD by the authors' own Lean function (tested against real Go, not proved from fmt's source: count such statements apart). THE CARD IS WHAT COUNTS. Prove the row's statement (the work); the ties are given (YtpeneeddfgmjpaaGreatDoorTie.lean); close each card by the builder's one call (the guide's Derived/Test/ToyasCard.lean, 'card_holds'). Laid BY PROGRAM, IN A SANDBOX (cutbox-door.mjs). By AI agents, Wed Nov 11 2026. No macro, syntax, notation, axiom, sorry.
-/
import Derived.Test.YtpeneeddfgmjpaaGreatDoorRows
import GoSem.ClaimSeven
namespace Go.Proofs.YtpeneeddfgmjpaaGreatDoor
namespace Rows

/-- THE TIED CARD OF 'petrellaw15.RuleVerdicts'. -/
def ruleVerdictsCard : Claim7 := { stood := { row := ruleVerdictsRow, standIns := [], harness := (true, "04faddb316c3369a38ed243770ca1f73d422a2c73883785ee69cfd68fd0ae405"), looks := false }, kinds := [], alts := [], laidByText := true, laidKinds := [.data, .data, .data], laidTests := true, laidLooks := .later }
def RuleVerdictsCardSaid : Prop := Claim7.holds Tryz.pinned (.plain (OpenSpec.ofChange ruleVerdictsSpec)) ruleVerdictsCard

/-- THE TIED CARD OF 'petrellaw15.RuleNexts'. -/
def ruleNextsCard : Claim7 := { stood := { row := ruleNextsRow, standIns := [], harness := (true, "04faddb316c3369a38ed243770ca1f73d422a2c73883785ee69cfd68fd0ae405"), looks := false }, kinds := [], alts := [], laidByText := true, laidKinds := [.data, .data, .data], laidTests := true, laidLooks := .later }
def RuleNextsCardSaid : Prop := Claim7.holds Tryz.pinned (.plain (OpenSpec.ofChange ruleNextsSpec)) ruleNextsCard

/-- THE TIED CARD OF 'petrellaw15.RuleChain'. -/
def ruleChainCard : Claim7 := { stood := { row := ruleChainRow, standIns := [], harness := (true, "04faddb316c3369a38ed243770ca1f73d422a2c73883785ee69cfd68fd0ae405"), looks := false }, kinds := [], alts := [], laidByText := true, laidKinds := [.data, .data, .data], laidTests := true, laidLooks := .later }
def RuleChainCardSaid : Prop := Claim7.holds Tryz.pinned (.plain (OpenSpec.ofChange ruleChainSpec)) ruleChainCard

/-- THE SECOND FORM's CARD OF 'petrellaw15.RuleVerdicts'. -/
def ruleVerdictsUptoCard : Claim7 := { stood := { row := ruleVerdictsUptoRow, standIns := [], harness := (true, "04faddb316c3369a38ed243770ca1f73d422a2c73883785ee69cfd68fd0ae405"), looks := false }, kinds := [], alts := [], laidByText := true, laidKinds := [.data, .data, .data], laidTests := true, laidLooks := .later }
def RuleVerdictsUptoCardSaid : Prop := Claim7.holds Tryz.pinned (.plain (OpenSpec.upto ruleVerdictsSpec)) ruleVerdictsUptoCard

/-- THE SECOND FORM's CARD OF 'petrellaw15.RuleNexts'. -/
def ruleNextsUptoCard : Claim7 := { stood := { row := ruleNextsUptoRow, standIns := [], harness := (true, "04faddb316c3369a38ed243770ca1f73d422a2c73883785ee69cfd68fd0ae405"), looks := false }, kinds := [], alts := [], laidByText := true, laidKinds := [.data, .data, .data], laidTests := true, laidLooks := .later }
def RuleNextsUptoCardSaid : Prop := Claim7.holds Tryz.pinned (.plain (OpenSpec.upto ruleNextsSpec)) ruleNextsUptoCard

/-- THE SECOND FORM's CARD OF 'petrellaw15.RuleChain'. -/
def ruleChainUptoCard : Claim7 := { stood := { row := ruleChainUptoRow, standIns := [], harness := (true, "04faddb316c3369a38ed243770ca1f73d422a2c73883785ee69cfd68fd0ae405"), looks := false }, kinds := [], alts := [], laidByText := true, laidKinds := [.data, .data, .data], laidTests := true, laidLooks := .later }
def RuleChainUptoCardSaid : Prop := Claim7.holds Tryz.pinned (.plain (OpenSpec.upto ruleChainSpec)) ruleChainUptoCard
end Rows
end Go.Proofs.YtpeneeddfgmjpaaGreatDoor
