/-
  DERIVED. GIVEN WITH THE SEED: THE CARDS: each row of YtgnedioggpgeeaaDoorRows.lean that lists a variable, with what it lists TIED to the program's text (the seventh form; the later family's looks); each row that meets fmt, with fmt's text TOLD by the authors' own Lean function (tested against real Go, not proved from fmt's source: count such statements apart). THE CARD IS WHAT COUNTS. Prove the row's statement (the work); the ties are given (YtgnedioggpgeeaaDoorTie.lean); close each card by the builder's one call (the guide's Derived/Test/ToyasCard.lean, 'card_holds'). Laid BY PROGRAM, IN A SANDBOX (cutbox-door.mjs). By AI agents, Wed Nov 11 2026. No macro, syntax, notation, axiom, sorry.
-/
import Derived.Test.YtgnedioggpgeeaaDoorRows
import GoSem.ClaimSeven
namespace Go.Proofs.YtgnedioggpgeeaaDoor
namespace Rows

/-- THE TIED CARD OF 'vellumlaw04.RowEncodes'. -/
def rowEncodesCard : Claim7 := { stood := { row := rowEncodesRow, standIns := [], harness := (true, "a2cc659d45bf12a0cd9faea8c5e5ee67d64f78069ff4fc4aa8b0909fa075dc95"), looks := false }, kinds := [], alts := [], laidByText := true, laidKinds := [.data, .pinned, .pinned], laidTests := true, laidLooks := .later }
def RowEncodesCardSaid : Prop := Claim7.holds Tryd.pinned (.plain (OpenSpec.ofChange rowEncodesSpec)) rowEncodesCard

/-- THE TIED CARD OF 'vellumlaw04.RowDecodes'. -/
def rowDecodesCard : Claim7 := { stood := { row := rowDecodesRow, standIns := [], harness := (true, "a2cc659d45bf12a0cd9faea8c5e5ee67d64f78069ff4fc4aa8b0909fa075dc95"), looks := false }, kinds := [], alts := [], laidByText := true, laidKinds := [.data, .pinned, .pinned], laidTests := true, laidLooks := .later }
def RowDecodesCardSaid : Prop := Claim7.holds Tryd.pinned (.plain (OpenSpec.ofChange rowDecodesSpec)) rowDecodesCard

/-- THE TIED CARD OF 'vellumlaw04.RowChanges'. -/
def rowChangesCard : Claim7 := { stood := { row := rowChangesRow, standIns := [], harness := (true, "a2cc659d45bf12a0cd9faea8c5e5ee67d64f78069ff4fc4aa8b0909fa075dc95"), looks := false }, kinds := [], alts := [], laidByText := true, laidKinds := [.data, .pinned, .pinned], laidTests := true, laidLooks := .later }
def RowChangesCardSaid : Prop := Claim7.holds Tryd.pinned (.plain (OpenSpec.ofChange rowChangesSpec)) rowChangesCard

/-- THE TIED CARD OF 'vellumlaw04.RowBack'. -/
def rowBackCard : Claim7 := { stood := { row := rowBackRow, standIns := [], harness := (true, "a2cc659d45bf12a0cd9faea8c5e5ee67d64f78069ff4fc4aa8b0909fa075dc95"), looks := false }, kinds := [], alts := [], laidByText := true, laidKinds := [.data, .pinned, .pinned], laidTests := true, laidLooks := .later }
def RowBackCardSaid : Prop := Claim7.holds Tryd.pinned (.plain (OpenSpec.ofChange rowBackSpec)) rowBackCard

/-- THE SECOND FORM's CARD OF 'vellumlaw04.RowEncodes'. -/
def rowEncodesUptoCard : Claim7 := { stood := { row := rowEncodesUptoRow, standIns := [], harness := (true, "a2cc659d45bf12a0cd9faea8c5e5ee67d64f78069ff4fc4aa8b0909fa075dc95"), looks := false }, kinds := [], alts := [], laidByText := true, laidKinds := [.data, .pinned, .pinned], laidTests := true, laidLooks := .later }
def RowEncodesUptoCardSaid : Prop := Claim7.holds Tryd.pinned (.plain (OpenSpec.upto rowEncodesSpec)) rowEncodesUptoCard

/-- THE SECOND FORM's CARD OF 'vellumlaw04.RowDecodes'. -/
def rowDecodesUptoCard : Claim7 := { stood := { row := rowDecodesUptoRow, standIns := [], harness := (true, "a2cc659d45bf12a0cd9faea8c5e5ee67d64f78069ff4fc4aa8b0909fa075dc95"), looks := false }, kinds := [], alts := [], laidByText := true, laidKinds := [.data, .pinned, .pinned], laidTests := true, laidLooks := .later }
def RowDecodesUptoCardSaid : Prop := Claim7.holds Tryd.pinned (.plain (OpenSpec.upto rowDecodesSpec)) rowDecodesUptoCard

/-- THE SECOND FORM's CARD OF 'vellumlaw04.RowChanges'. -/
def rowChangesUptoCard : Claim7 := { stood := { row := rowChangesUptoRow, standIns := [], harness := (true, "a2cc659d45bf12a0cd9faea8c5e5ee67d64f78069ff4fc4aa8b0909fa075dc95"), looks := false }, kinds := [], alts := [], laidByText := true, laidKinds := [.data, .pinned, .pinned], laidTests := true, laidLooks := .later }
def RowChangesUptoCardSaid : Prop := Claim7.holds Tryd.pinned (.plain (OpenSpec.upto rowChangesSpec)) rowChangesUptoCard

/-- THE SECOND FORM's CARD OF 'vellumlaw04.RowBack'. -/
def rowBackUptoCard : Claim7 := { stood := { row := rowBackUptoRow, standIns := [], harness := (true, "a2cc659d45bf12a0cd9faea8c5e5ee67d64f78069ff4fc4aa8b0909fa075dc95"), looks := false }, kinds := [], alts := [], laidByText := true, laidKinds := [.data, .pinned, .pinned], laidTests := true, laidLooks := .later }
def RowBackUptoCardSaid : Prop := Claim7.holds Tryd.pinned (.plain (OpenSpec.upto rowBackSpec)) rowBackUptoCard
end Rows
end Go.Proofs.YtgnedioggpgeeaaDoor
