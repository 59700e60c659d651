/-
  DERIVED. GIVEN WITH THE SEED: THE CARDS: each row of YtljiokkdaelmpaaGreatDoorRows.lean that lists a variable, with what it lists TIED to the program's text (the seventh form; the later family's looks); each row that meets fmt, with fmt's text TOLD by the authors' own Lean function (tested against real Go, not proved from fmt's source: count such statements apart). THE CARD IS WHAT COUNTS. Prove the row's statement (the work); the ties are given (YtljiokkdaelmpaaGreatDoorTie.lean); close each card by the builder's one call (the guide's Derived/Test/ToyasCard.lean, 'card_holds'). Laid BY PROGRAM, IN A SANDBOX (cutbox-door.mjs). By AI agents, Wed Nov 11 2026. No macro, syntax, notation, axiom, sorry.
-/
import Derived.Test.YtljiokkdaelmpaaGreatDoorRows
import GoSem.ClaimSeven
namespace Go.Proofs.YtljiokkdaelmpaaGreatDoor
namespace Rows

/-- THE TIED CARD OF 'vellumlaw01.ValueBetween'. -/
def valueBetweenCard : Claim7 := { stood := { row := valueBetweenRow, standIns := [], harness := (true, "31ce55dd964e601ae93fb57417da3ca2287cf89b762ad0d82856884831b2d5cf"), looks := true }, kinds := [], alts := [], laidByText := true, laidKinds := [.data, .data, .widerDeep, .widerDeep, .data, .data, .data, .data, .data, .data, .sentinel, .sentinel, .pinned, .pinned, .pinned], laidTests := true, laidLooks := .later }
def ValueBetweenCardSaid : Prop := Claim7.holds Tryz.pinned (.plain (OpenSpec.ofChange valueBetweenSpec)) valueBetweenCard

/-- THE TIED CARD OF 'vellumlaw01.ValueTexts'. -/
def valueTextsCard : Claim7 := { stood := { row := valueTextsRow, standIns := [], harness := (true, "31ce55dd964e601ae93fb57417da3ca2287cf89b762ad0d82856884831b2d5cf"), looks := true }, kinds := [], alts := [], laidByText := true, laidKinds := [.data, .data, .data, .data, .data, .pinned, .pinned, .pinned], laidTests := true, laidLooks := .later }
def ValueTextsCardSaid : Prop := Claim7.holds Tryz.pinned (.plain (OpenSpec.ofChange valueTextsSpec)) valueTextsCard

/-- THE SECOND FORM's CARD OF 'vellumlaw01.ValueBetween'. -/
def valueBetweenUptoCard : Claim7 := { stood := { row := valueBetweenUptoRow, standIns := [], harness := (true, "31ce55dd964e601ae93fb57417da3ca2287cf89b762ad0d82856884831b2d5cf"), looks := true }, kinds := [], alts := [], laidByText := true, laidKinds := [.data, .data, .widerDeep, .widerDeep, .data, .data, .data, .data, .data, .data, .sentinel, .sentinel, .pinned, .pinned, .pinned], laidTests := true, laidLooks := .later }
def ValueBetweenUptoCardSaid : Prop := Claim7.holds Tryz.pinned (.plain (OpenSpec.upto valueBetweenSpec)) valueBetweenUptoCard

/-- THE SECOND FORM's CARD OF 'vellumlaw01.ValueTexts'. -/
def valueTextsUptoCard : Claim7 := { stood := { row := valueTextsUptoRow, standIns := [], harness := (true, "31ce55dd964e601ae93fb57417da3ca2287cf89b762ad0d82856884831b2d5cf"), looks := true }, kinds := [], alts := [], laidByText := true, laidKinds := [.data, .data, .data, .data, .data, .pinned, .pinned, .pinned], laidTests := true, laidLooks := .later }
def ValueTextsUptoCardSaid : Prop := Claim7.holds Tryz.pinned (.plain (OpenSpec.upto valueTextsSpec)) valueTextsUptoCard
end Rows
end Go.Proofs.YtljiokkdaelmpaaGreatDoor
