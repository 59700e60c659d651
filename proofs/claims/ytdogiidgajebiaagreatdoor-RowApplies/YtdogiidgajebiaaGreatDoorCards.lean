/-
  DERIVED. GIVEN WITH THE SEED: THE CARDS: each row of YtdogiidgajebiaaGreatDoorRows.lean that lists a variable, with what it lists TIED to the program's text (the seventh form; the later family's looks); each row that meets fmt, with fmt's text TOLD by the authors' own Lean function (tested against real Go, not proved from fmt's source: count such statements apart). THE CARD IS WHAT COUNTS. Prove the row's statement (the work); the ties are given (YtdogiidgajebiaaGreatDoorTie.lean); close each card by the builder's one call (the guide's Derived/Test/ToyasCard.lean, 'card_holds'). Laid BY PROGRAM, IN A SANDBOX (cutbox-door.mjs). By AI agents, Wed Nov 11 2026. No macro, syntax, notation, axiom, sorry.
-/
import Derived.Test.YtdogiidgajebiaaGreatDoorRows
import GoSem.ClaimSeven
namespace Go.Proofs.YtdogiidgajebiaaGreatDoor
namespace Rows

/-- THE TIED CARD OF 'vellumlaw04.RowKeys'. -/
def rowKeysCard : Claim7 := { stood := { row := rowKeysRow, standIns := [], harness := (true, "1d1c1d3b44b79b8a57e5744c2f1bcb3042a342ba7b405cbe8362f0dcc3b22493"), looks := false }, kinds := [], alts := [], laidByText := true, laidKinds := [.data, .pinned, .pinned], laidTests := true, laidLooks := .later }
def RowKeysCardSaid : Prop := Claim7.holds Tryz.pinned (.plain (OpenSpec.ofChange rowKeysSpec)) rowKeysCard

/-- THE TIED CARD OF 'vellumlaw04.RowApplies'. -/
def rowAppliesCard : Claim7 := { stood := { row := rowAppliesRow, standIns := [], harness := (true, "1d1c1d3b44b79b8a57e5744c2f1bcb3042a342ba7b405cbe8362f0dcc3b22493"), looks := false }, kinds := [], alts := [], laidByText := true, laidKinds := [.data, .pinned, .pinned], laidTests := true, laidLooks := .later }
def RowAppliesCardSaid : Prop := Claim7.holds Tryz.pinned (.plain (OpenSpec.ofChange rowAppliesSpec)) rowAppliesCard

/-- THE SECOND FORM's CARD OF 'vellumlaw04.RowKeys'. -/
def rowKeysUptoCard : Claim7 := { stood := { row := rowKeysUptoRow, standIns := [], harness := (true, "1d1c1d3b44b79b8a57e5744c2f1bcb3042a342ba7b405cbe8362f0dcc3b22493"), looks := false }, kinds := [], alts := [], laidByText := true, laidKinds := [.data, .pinned, .pinned], laidTests := true, laidLooks := .later }
def RowKeysUptoCardSaid : Prop := Claim7.holds Tryz.pinned (.plain (OpenSpec.upto rowKeysSpec)) rowKeysUptoCard

/-- THE SECOND FORM's CARD OF 'vellumlaw04.RowApplies'. -/
def rowAppliesUptoCard : Claim7 := { stood := { row := rowAppliesUptoRow, standIns := [], harness := (true, "1d1c1d3b44b79b8a57e5744c2f1bcb3042a342ba7b405cbe8362f0dcc3b22493"), looks := false }, kinds := [], alts := [], laidByText := true, laidKinds := [.data, .pinned, .pinned], laidTests := true, laidLooks := .later }
def RowAppliesUptoCardSaid : Prop := Claim7.holds Tryz.pinned (.plain (OpenSpec.upto rowAppliesSpec)) rowAppliesUptoCard
end Rows
end Go.Proofs.YtdogiidgajebiaaGreatDoor
