/-
  DERIVED. GIVEN WITH THE SEED: THE CARDS: each row of YtjigmijennbolaaDoorRows.lean that lists a variable, with what it lists TIED to the program's text (the seventh form; the later family's looks); each row that meets fmt, with fmt's text TOLD by the authors' own Lean function (tested against real Go, not proved from fmt's source: count such statements apart). THE CARD IS WHAT COUNTS. Prove the row's statement (the work); the ties are given (YtjigmijennbolaaDoorTie.lean); close each card by the builder's one call (the guide's Derived/Test/ToyasCard.lean, 'card_holds'). Laid BY PROGRAM, IN A SANDBOX (cutbox-door.mjs). By AI agents, Wed Nov 11 2026. No macro, syntax, notation, axiom, sorry.
-/
import Derived.Test.YtjigmijennbolaaDoorRows
import GoSem.ClaimSeven
namespace Go.Proofs.YtjigmijennbolaaDoor
namespace Rows

/-- THE TIED CARD OF 'vellumlaw02.CodeUnites'. -/
def codeUnitesCard : Claim7 := { stood := { row := codeUnitesRow, standIns := [], harness := (true, "2d6f172263f0650fd7798a484f6aa51ab5dc09fb19c7112da4ad9e0db396e847"), looks := false }, kinds := [], alts := [], laidByText := true, laidKinds := [.data, .pinned], laidTests := true, laidLooks := .later }
def CodeUnitesCardSaid : Prop := Claim7.holds Tryd.pinned (.plain (OpenSpec.ofChange codeUnitesSpec)) codeUnitesCard

/-- THE TIED CARD OF 'vellumlaw02.CodeWhole'. -/
def codeWholeCard : Claim7 := { stood := { row := codeWholeRow, standIns := [], harness := (true, "2d6f172263f0650fd7798a484f6aa51ab5dc09fb19c7112da4ad9e0db396e847"), looks := false }, kinds := [], alts := [], laidByText := true, laidKinds := [.data, .pinned], laidTests := true, laidLooks := .later }
def CodeWholeCardSaid : Prop := Claim7.holds Tryd.pinned (.plain (OpenSpec.ofChange codeWholeSpec)) codeWholeCard

/-- THE TIED CARD OF 'vellumlaw02.CodeOwn'. -/
def codeOwnCard : Claim7 := { stood := { row := codeOwnRow, standIns := [], harness := (true, "2d6f172263f0650fd7798a484f6aa51ab5dc09fb19c7112da4ad9e0db396e847"), looks := false }, kinds := [], alts := [], laidByText := true, laidKinds := [.data, .pinned], laidTests := true, laidLooks := .later }
def CodeOwnCardSaid : Prop := Claim7.holds Tryd.pinned (.plain (OpenSpec.ofChange codeOwnSpec)) codeOwnCard

/-- THE SECOND FORM's CARD OF 'vellumlaw02.CodeUnites'. -/
def codeUnitesUptoCard : Claim7 := { stood := { row := codeUnitesUptoRow, standIns := [], harness := (true, "2d6f172263f0650fd7798a484f6aa51ab5dc09fb19c7112da4ad9e0db396e847"), looks := false }, kinds := [], alts := [], laidByText := true, laidKinds := [.data, .pinned], laidTests := true, laidLooks := .later }
def CodeUnitesUptoCardSaid : Prop := Claim7.holds Tryd.pinned (.plain (OpenSpec.upto codeUnitesSpec)) codeUnitesUptoCard

/-- THE SECOND FORM's CARD OF 'vellumlaw02.CodeWhole'. -/
def codeWholeUptoCard : Claim7 := { stood := { row := codeWholeUptoRow, standIns := [], harness := (true, "2d6f172263f0650fd7798a484f6aa51ab5dc09fb19c7112da4ad9e0db396e847"), looks := false }, kinds := [], alts := [], laidByText := true, laidKinds := [.data, .pinned], laidTests := true, laidLooks := .later }
def CodeWholeUptoCardSaid : Prop := Claim7.holds Tryd.pinned (.plain (OpenSpec.upto codeWholeSpec)) codeWholeUptoCard

/-- THE SECOND FORM's CARD OF 'vellumlaw02.CodeOwn'. -/
def codeOwnUptoCard : Claim7 := { stood := { row := codeOwnUptoRow, standIns := [], harness := (true, "2d6f172263f0650fd7798a484f6aa51ab5dc09fb19c7112da4ad9e0db396e847"), looks := false }, kinds := [], alts := [], laidByText := true, laidKinds := [.data, .pinned], laidTests := true, laidLooks := .later }
def CodeOwnUptoCardSaid : Prop := Claim7.holds Tryd.pinned (.plain (OpenSpec.upto codeOwnSpec)) codeOwnUptoCard
end Rows
end Go.Proofs.YtjigmijennbolaaDoor
