/-
  DERIVED. GIVEN WITH THE SEED: THE CARDS: each row of YteadniomgbhecaaGreatDoorRows.lean that lists a variable, with what it lists TIED to the program's text (the seventh form; the later family's looks); each row that meets fmt, with fmt's text TOLD by the authors' own Lean function (tested against real Go, not proved from fmt's source: count such statements apart). THE CARD IS WHAT COUNTS. Prove the row's statement (the work); the ties are given (YteadniomgbhecaaGreatDoorTie.lean); close each card by the builder's one call (the guide's Derived/Test/ToyasCard.lean, 'card_holds'). Laid BY PROGRAM, IN A SANDBOX (cutbox-door.mjs). By AI agents, Wed Nov 11 2026. No macro, syntax, notation, axiom, sorry.
-/
import Derived.Test.YteadniomgbhecaaGreatDoorRows
import GoSem.ClaimSeven
namespace Go.Proofs.YteadniomgbhecaaGreatDoor
namespace Rows

/-- THE TIED CARD OF 'vellumlaw04.RowKeys'. -/
def rowKeysCard : Claim7 := { stood := { row := rowKeysRow, standIns := [], harness := (true, "72520cfd50f7e8e4dafdb7af2b3c7f659d7400f3837dd483152325d2bb8ed258"), looks := false }, kinds := [], alts := [], laidByText := true, laidKinds := [.data, .pinned, .pinned], laidTests := true, laidLooks := .later }
def RowKeysCardSaid : Prop := Claim7.holds Tryz.pinned (.plain (OpenSpec.ofChange rowKeysSpec)) rowKeysCard

/-- THE SECOND FORM's CARD OF 'vellumlaw04.RowKeys'. -/
def rowKeysUptoCard : Claim7 := { stood := { row := rowKeysUptoRow, standIns := [], harness := (true, "72520cfd50f7e8e4dafdb7af2b3c7f659d7400f3837dd483152325d2bb8ed258"), looks := false }, kinds := [], alts := [], laidByText := true, laidKinds := [.data, .pinned, .pinned], laidTests := true, laidLooks := .later }
def RowKeysUptoCardSaid : Prop := Claim7.holds Tryz.pinned (.plain (OpenSpec.upto rowKeysSpec)) rowKeysUptoCard
end Rows
end Go.Proofs.YteadniomgbhecaaGreatDoor
