/-
  DERIVED. GIVEN WITH THE SEED: THE CARDS: each row of YteffaldahccgiaaDoorRows.lean that lists a variable, with what it lists TIED to the program's text (the seventh form; the later family's looks); each row that meets fmt, with fmt's text TOLD by the authors' own Lean function (tested against real Go, not proved from fmt's source: count such statements apart). THE CARD IS WHAT COUNTS. Prove the row's statement (the work); the ties are given (YteffaldahccgiaaDoorTie.lean); close each card by the builder's one call (the guide's Derived/Test/ToyasCard.lean, 'card_holds'). Laid BY PROGRAM, IN A SANDBOX (cutbox-door.mjs). By AI agents, Wed Nov 11 2026. No macro, syntax, notation, axiom, sorry.
-/
import Derived.Test.YteffaldahccgiaaDoorRows
import GoSem.ClaimSeven
namespace Go.Proofs.YteffaldahccgiaaDoor
namespace Rows

/-- THE TIED CARD OF 'vellumlaw02.CodeEncodes'. -/
def codeEncodesCard : Claim7 := { stood := { row := codeEncodesRow, standIns := [], harness := (true, "7c9eb7aefa0e863c0aef801e1741443a30ec33d304cbaf4183da7745e526eb00"), looks := false }, kinds := [], alts := [], laidByText := true, laidKinds := [.data, .pinned], laidTests := true, laidLooks := .later }
def CodeEncodesCardSaid : Prop := Claim7.holds Tryd.pinned (.plain (OpenSpec.ofChange codeEncodesSpec)) codeEncodesCard

/-- THE TIED CARD OF 'vellumlaw02.CodeDecodes'. -/
def codeDecodesCard : Claim7 := { stood := { row := codeDecodesRow, standIns := [], harness := (true, "7c9eb7aefa0e863c0aef801e1741443a30ec33d304cbaf4183da7745e526eb00"), looks := false }, kinds := [], alts := [], laidByText := true, laidKinds := [.data, .pinned], laidTests := true, laidLooks := .later }
def CodeDecodesCardSaid : Prop := Claim7.holds Tryd.pinned (.plain (OpenSpec.ofChange codeDecodesSpec)) codeDecodesCard

/-- THE TIED CARD OF 'vellumlaw02.CodeRanges'. -/
def codeRangesCard : Claim7 := { stood := { row := codeRangesRow, standIns := [], harness := (true, "7c9eb7aefa0e863c0aef801e1741443a30ec33d304cbaf4183da7745e526eb00"), looks := false }, kinds := [], alts := [], laidByText := true, laidKinds := [.data, .pinned], laidTests := true, laidLooks := .later }
def CodeRangesCardSaid : Prop := Claim7.holds Tryd.pinned (.plain (OpenSpec.ofChange codeRangesSpec)) codeRangesCard

/-- THE TIED CARD OF 'vellumlaw02.CodeMeets'. -/
def codeMeetsCard : Claim7 := { stood := { row := codeMeetsRow, standIns := [], harness := (true, "7c9eb7aefa0e863c0aef801e1741443a30ec33d304cbaf4183da7745e526eb00"), looks := false }, kinds := [], alts := [], laidByText := true, laidKinds := [.data, .pinned], laidTests := true, laidLooks := .later }
def CodeMeetsCardSaid : Prop := Claim7.holds Tryd.pinned (.plain (OpenSpec.ofChange codeMeetsSpec)) codeMeetsCard

/-- THE TIED CARD OF 'vellumlaw02.CodeUnites'. -/
def codeUnitesCard : Claim7 := { stood := { row := codeUnitesRow, standIns := [], harness := (true, "7c9eb7aefa0e863c0aef801e1741443a30ec33d304cbaf4183da7745e526eb00"), looks := false }, kinds := [], alts := [], laidByText := true, laidKinds := [.data, .pinned], laidTests := true, laidLooks := .later }
def CodeUnitesCardSaid : Prop := Claim7.holds Tryd.pinned (.plain (OpenSpec.ofChange codeUnitesSpec)) codeUnitesCard

/-- THE TIED CARD OF 'vellumlaw02.CodeOrders'. -/
def codeOrdersCard : Claim7 := { stood := { row := codeOrdersRow, standIns := [], harness := (true, "7c9eb7aefa0e863c0aef801e1741443a30ec33d304cbaf4183da7745e526eb00"), looks := false }, kinds := [], alts := [], laidByText := true, laidKinds := [.data, .pinned], laidTests := true, laidLooks := .later }
def CodeOrdersCardSaid : Prop := Claim7.holds Tryd.pinned (.plain (OpenSpec.ofChange codeOrdersSpec)) codeOrdersCard

/-- THE SECOND FORM's CARD OF 'vellumlaw02.CodeEncodes'. -/
def codeEncodesUptoCard : Claim7 := { stood := { row := codeEncodesUptoRow, standIns := [], harness := (true, "7c9eb7aefa0e863c0aef801e1741443a30ec33d304cbaf4183da7745e526eb00"), looks := false }, kinds := [], alts := [], laidByText := true, laidKinds := [.data, .pinned], laidTests := true, laidLooks := .later }
def CodeEncodesUptoCardSaid : Prop := Claim7.holds Tryd.pinned (.plain (OpenSpec.upto codeEncodesSpec)) codeEncodesUptoCard

/-- THE SECOND FORM's CARD OF 'vellumlaw02.CodeDecodes'. -/
def codeDecodesUptoCard : Claim7 := { stood := { row := codeDecodesUptoRow, standIns := [], harness := (true, "7c9eb7aefa0e863c0aef801e1741443a30ec33d304cbaf4183da7745e526eb00"), looks := false }, kinds := [], alts := [], laidByText := true, laidKinds := [.data, .pinned], laidTests := true, laidLooks := .later }
def CodeDecodesUptoCardSaid : Prop := Claim7.holds Tryd.pinned (.plain (OpenSpec.upto codeDecodesSpec)) codeDecodesUptoCard

/-- THE SECOND FORM's CARD OF 'vellumlaw02.CodeRanges'. -/
def codeRangesUptoCard : Claim7 := { stood := { row := codeRangesUptoRow, standIns := [], harness := (true, "7c9eb7aefa0e863c0aef801e1741443a30ec33d304cbaf4183da7745e526eb00"), looks := false }, kinds := [], alts := [], laidByText := true, laidKinds := [.data, .pinned], laidTests := true, laidLooks := .later }
def CodeRangesUptoCardSaid : Prop := Claim7.holds Tryd.pinned (.plain (OpenSpec.upto codeRangesSpec)) codeRangesUptoCard

/-- THE SECOND FORM's CARD OF 'vellumlaw02.CodeMeets'. -/
def codeMeetsUptoCard : Claim7 := { stood := { row := codeMeetsUptoRow, standIns := [], harness := (true, "7c9eb7aefa0e863c0aef801e1741443a30ec33d304cbaf4183da7745e526eb00"), looks := false }, kinds := [], alts := [], laidByText := true, laidKinds := [.data, .pinned], laidTests := true, laidLooks := .later }
def CodeMeetsUptoCardSaid : Prop := Claim7.holds Tryd.pinned (.plain (OpenSpec.upto codeMeetsSpec)) codeMeetsUptoCard

/-- THE SECOND FORM's CARD OF 'vellumlaw02.CodeUnites'. -/
def codeUnitesUptoCard : Claim7 := { stood := { row := codeUnitesUptoRow, standIns := [], harness := (true, "7c9eb7aefa0e863c0aef801e1741443a30ec33d304cbaf4183da7745e526eb00"), looks := false }, kinds := [], alts := [], laidByText := true, laidKinds := [.data, .pinned], laidTests := true, laidLooks := .later }
def CodeUnitesUptoCardSaid : Prop := Claim7.holds Tryd.pinned (.plain (OpenSpec.upto codeUnitesSpec)) codeUnitesUptoCard

/-- THE SECOND FORM's CARD OF 'vellumlaw02.CodeOrders'. -/
def codeOrdersUptoCard : Claim7 := { stood := { row := codeOrdersUptoRow, standIns := [], harness := (true, "7c9eb7aefa0e863c0aef801e1741443a30ec33d304cbaf4183da7745e526eb00"), looks := false }, kinds := [], alts := [], laidByText := true, laidKinds := [.data, .pinned], laidTests := true, laidLooks := .later }
def CodeOrdersUptoCardSaid : Prop := Claim7.holds Tryd.pinned (.plain (OpenSpec.upto codeOrdersSpec)) codeOrdersUptoCard
end Rows
end Go.Proofs.YteffaldahccgiaaDoor
