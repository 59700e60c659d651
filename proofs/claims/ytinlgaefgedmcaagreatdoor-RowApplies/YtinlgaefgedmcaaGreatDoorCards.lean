/-
  DERIVED. GIVEN WITH THE SEED: THE CARDS: each row of YtinlgaefgedmcaaGreatDoorRows.lean that lists a variable, with what it lists TIED to the program's text (the seventh form; the later family's looks); each row that meets fmt, with fmt's text TOLD by the authors' own Lean function (tested against real Go, not proved from fmt's source: count such statements apart). THE CARD IS WHAT COUNTS. Prove the row's statement (the work); the ties are given (YtinlgaefgedmcaaGreatDoorTie.lean); close each card by the builder's one call (the guide's Derived/Test/ToyasCard.lean, 'card_holds'). Laid BY PROGRAM, IN A SANDBOX (cutbox-door.mjs). By AI agents, Wed Nov 11 2026. No macro, syntax, notation, axiom, sorry.
-/
import Derived.Test.YtinlgaefgedmcaaGreatDoorRows
import GoSem.ClaimSeven
namespace Go.Proofs.YtinlgaefgedmcaaGreatDoor
namespace Rows

/-- THE TIED CARD OF 'vellumlaw04.RowApplies'. -/
def rowAppliesCard : Claim7 := { stood := { row := rowAppliesRow, standIns := [], harness := (true, "aaa2854341ddf10b3489b00cef9ba91bda99e73fd4b22def371997e22b949dc7"), looks := false }, kinds := [], alts := [], laidByText := true, laidKinds := [.data, .pinned, .pinned], laidTests := true, laidLooks := .later }
def RowAppliesCardSaid : Prop := Claim7.holds Tryz.pinned (.plain (OpenSpec.ofChange rowAppliesSpec)) rowAppliesCard

/-- THE SECOND FORM's CARD OF 'vellumlaw04.RowApplies'. -/
def rowAppliesUptoCard : Claim7 := { stood := { row := rowAppliesUptoRow, standIns := [], harness := (true, "aaa2854341ddf10b3489b00cef9ba91bda99e73fd4b22def371997e22b949dc7"), looks := false }, kinds := [], alts := [], laidByText := true, laidKinds := [.data, .pinned, .pinned], laidTests := true, laidLooks := .later }
def RowAppliesUptoCardSaid : Prop := Claim7.holds Tryz.pinned (.plain (OpenSpec.upto rowAppliesSpec)) rowAppliesUptoCard
end Rows
end Go.Proofs.YtinlgaefgedmcaaGreatDoor
