/-
  DERIVED. GIVEN WITH THE SEED: THE CARDS: each row of YtfknmblobcjapaaDoorRows.lean that lists a variable, with what it lists TIED to the program's text (the seventh form; the later family's looks); each row that meets fmt, with fmt's text TOLD by the authors' own Lean function (tested against real Go, not proved from fmt's source: count such statements apart). THE CARD IS WHAT COUNTS. Prove the row's statement (the work); the ties are given (YtfknmblobcjapaaDoorTie.lean); close each card by the builder's one call (the guide's Derived/Test/ToyasCard.lean, 'card_holds'). Laid BY PROGRAM, IN A SANDBOX (cutbox-door.mjs). By AI agents, Wed Nov 11 2026. No macro, syntax, notation, axiom, sorry.
-/
import Derived.Test.YtfknmblobcjapaaDoorRows
import GoSem.ClaimSeven
namespace Go.Proofs.YtfknmblobcjapaaDoor
namespace Rows

/-- THE TIED CARD OF 'vellumlaw04.RowTurns'. -/
def rowTurnsCard : Claim7 := { stood := { row := rowTurnsRow, standIns := [], harness := (true, "306063293112fdd46f3fe7085750c2439d93c58961975aa419924b77fa9668cc"), looks := false }, kinds := [], alts := [], laidByText := true, laidKinds := [.data, .pinned, .pinned], laidTests := true, laidLooks := .later }
def RowTurnsCardSaid : Prop := Claim7.holds Tryd.pinned (.plain (OpenSpec.ofChange rowTurnsSpec)) rowTurnsCard

/-- THE SECOND FORM's CARD OF 'vellumlaw04.RowTurns'. -/
def rowTurnsUptoCard : Claim7 := { stood := { row := rowTurnsUptoRow, standIns := [], harness := (true, "306063293112fdd46f3fe7085750c2439d93c58961975aa419924b77fa9668cc"), looks := false }, kinds := [], alts := [], laidByText := true, laidKinds := [.data, .pinned, .pinned], laidTests := true, laidLooks := .later }
def RowTurnsUptoCardSaid : Prop := Claim7.holds Tryd.pinned (.plain (OpenSpec.upto rowTurnsSpec)) rowTurnsUptoCard
end Rows
end Go.Proofs.YtfknmblobcjapaaDoor
