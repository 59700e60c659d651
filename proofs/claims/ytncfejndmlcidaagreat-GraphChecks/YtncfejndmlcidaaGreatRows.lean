/-
  No cell of these rows narrows 'for every input' (looked for: loops, veiled, ifaces, maps, wideKeys, modest, calm, conditions, laid).
  DERIVED. THE GIVEN ROWS OF THIS SEAT. 6 by the template 'for every input the law returns true; each argument reads behind the call as it read before'; 0 by the template 'total and deterministic' (their statements: YtncfejndmlcidaaGreatTotals.lean).
  GIVEN WITH THE SEED: the statements are not yours to turn. If you find one false, say at which input.
  Laid BY PROGRAM, IN A SANDBOX (cutbox-rows.mjs): the forced cells as the released guide's own fill.sh prints them over the translation 94bbb8def0d8af63… (all of the seat's roots in one cut). By AI agents, Wed Nov 11 2026. No macro, syntax, notation, axiom, sorry.
-/
import Derived.Test.YtncfejndmlcidaaGreatChecked
import GoSem.Claim
import GoSem.ClaimJoined
import GoSem.ClaimMapViews
import Derived.JoinedTies
import Derived.KernelRfl
namespace Go.Proofs.YtncfejndmlcidaaGreat
/- THE CELL 'sum', in the pinned program and in every row, IS THE sha256 OF THE DUMP (.gsa) THAT YtncfejndmlcidaaGreatProg.lean LOADS. Nothing in Lean hashes anything: it is a label: what it is worth is what the hold of that sum in a sandbox is worth. -/
noncomputable def Tryz.pinned : Pinned := { name := "ytncfejndmlcidaagreat", sum := "94bbb8def0d8af63202617cede6be8a3a989dad1325d2921653425c77ef770d2", checked := Tryz.checked }
namespace Rows
def none {H : Type} : Left H := { results := [], args := [] }

/-- 'vellumlaw19.GraphChecks': WHATEVER THE INPUT: true; the input reads as it did. -/
def graphChecksSpec : ChangeSpec := { name := "graphChecks", fn := fun _ => fun
  | [d] => { results := [.lit (.bool true)], args := [d] }
  | _ => none }
def graphChecksRow : OpenClaim := { program := "ytncfejndmlcidaagreat", sum := "94bbb8def0d8af63202617cede6be8a3a989dad1325d2921653425c77ef770d2", func := "vellum/vellumlaw19.GraphChecks", spec := "graphChecks", inPlace := ["slices.overlaps[string]", "slices.overlaps[int]"], unfollowed := true, recurses := true, plainKeys := false, apart := false }
def GraphChecksSaid : Prop := graphChecksRow.holds Tryz.pinned (OpenSpec.ofChange graphChecksSpec)

/-- ITS FALSE NEIGHBOUR: 'it returns false'. Refute it at one input. -/
def graphChecksWrong : ChangeSpec := { name := "graphChecks", fn := fun _ => fun
  | [d] => { results := [.lit (.bool false)], args := [d] }
  | _ => none }
def GraphChecksWrongFalsely : Prop := graphChecksRow.holds Tryz.pinned (OpenSpec.ofChange graphChecksWrong)

/-- 'vellumlaw19.GraphEdges': WHATEVER THE INPUT: true; the input reads as it did. -/
def graphEdgesSpec : ChangeSpec := { name := "graphEdges", fn := fun _ => fun
  | [d] => { results := [.lit (.bool true)], args := [d] }
  | _ => none }
def graphEdgesRow : OpenClaim := { program := "ytncfejndmlcidaagreat", sum := "94bbb8def0d8af63202617cede6be8a3a989dad1325d2921653425c77ef770d2", func := "vellum/vellumlaw19.GraphEdges", spec := "graphEdges", inPlace := ["slices.overlaps[string]", "slices.overlaps[int]"], unfollowed := true, recurses := true, plainKeys := false, apart := false }
def GraphEdgesSaid : Prop := graphEdgesRow.holds Tryz.pinned (OpenSpec.ofChange graphEdgesSpec)

/-- ITS FALSE NEIGHBOUR: 'it returns false'. Refute it at one input. -/
def graphEdgesWrong : ChangeSpec := { name := "graphEdges", fn := fun _ => fun
  | [d] => { results := [.lit (.bool false)], args := [d] }
  | _ => none }
def GraphEdgesWrongFalsely : Prop := graphEdgesRow.holds Tryz.pinned (OpenSpec.ofChange graphEdgesWrong)

/-- 'vellumlaw19.GraphPhenomena': WHATEVER THE INPUT: true; the input reads as it did. -/
def graphPhenomenaSpec : ChangeSpec := { name := "graphPhenomena", fn := fun _ => fun
  | [d] => { results := [.lit (.bool true)], args := [d] }
  | _ => none }
def graphPhenomenaRow : OpenClaim := { program := "ytncfejndmlcidaagreat", sum := "94bbb8def0d8af63202617cede6be8a3a989dad1325d2921653425c77ef770d2", func := "vellum/vellumlaw19.GraphPhenomena", spec := "graphPhenomena", inPlace := ["slices.overlaps[string]", "slices.overlaps[int]"], unfollowed := true, recurses := true, plainKeys := false, apart := false }
def GraphPhenomenaSaid : Prop := graphPhenomenaRow.holds Tryz.pinned (OpenSpec.ofChange graphPhenomenaSpec)

/-- ITS FALSE NEIGHBOUR: 'it returns false'. Refute it at one input. -/
def graphPhenomenaWrong : ChangeSpec := { name := "graphPhenomena", fn := fun _ => fun
  | [d] => { results := [.lit (.bool false)], args := [d] }
  | _ => none }
def GraphPhenomenaWrongFalsely : Prop := graphPhenomenaRow.holds Tryz.pinned (OpenSpec.ofChange graphPhenomenaWrong)

/-- 'vellumlaw19.GraphAdya': WHATEVER THE INPUT: true; the input reads as it did. -/
def graphAdyaSpec : ChangeSpec := { name := "graphAdya", fn := fun _ => fun
  | [d] => { results := [.lit (.bool true)], args := [d] }
  | _ => none }
def graphAdyaRow : OpenClaim := { program := "ytncfejndmlcidaagreat", sum := "94bbb8def0d8af63202617cede6be8a3a989dad1325d2921653425c77ef770d2", func := "vellum/vellumlaw19.GraphAdya", spec := "graphAdya", inPlace := ["slices.overlaps[string]", "slices.overlaps[int]"], unfollowed := true, recurses := true, plainKeys := false, apart := false }
def GraphAdyaSaid : Prop := graphAdyaRow.holds Tryz.pinned (OpenSpec.ofChange graphAdyaSpec)

/-- ITS FALSE NEIGHBOUR: 'it returns false'. Refute it at one input. -/
def graphAdyaWrong : ChangeSpec := { name := "graphAdya", fn := fun _ => fun
  | [d] => { results := [.lit (.bool false)], args := [d] }
  | _ => none }
def GraphAdyaWrongFalsely : Prop := graphAdyaRow.holds Tryz.pinned (OpenSpec.ofChange graphAdyaWrong)

/-- 'vellumlaw19.GraphRounds': WHATEVER THE INPUT: true; the input reads as it did. -/
def graphRoundsSpec : ChangeSpec := { name := "graphRounds", fn := fun _ => fun
  | [d] => { results := [.lit (.bool true)], args := [d] }
  | _ => none }
def graphRoundsRow : OpenClaim := { program := "ytncfejndmlcidaagreat", sum := "94bbb8def0d8af63202617cede6be8a3a989dad1325d2921653425c77ef770d2", func := "vellum/vellumlaw19.GraphRounds", spec := "graphRounds", inPlace := ["slices.overlaps[string]", "slices.overlaps[int]"], unfollowed := true, recurses := true, plainKeys := false, apart := false }
def GraphRoundsSaid : Prop := graphRoundsRow.holds Tryz.pinned (OpenSpec.ofChange graphRoundsSpec)

/-- ITS FALSE NEIGHBOUR: 'it returns false'. Refute it at one input. -/
def graphRoundsWrong : ChangeSpec := { name := "graphRounds", fn := fun _ => fun
  | [d] => { results := [.lit (.bool false)], args := [d] }
  | _ => none }
def GraphRoundsWrongFalsely : Prop := graphRoundsRow.holds Tryz.pinned (OpenSpec.ofChange graphRoundsWrong)

/-- 'vellumlaw19.GraphSerial': WHATEVER THE INPUT: true; the input reads as it did. -/
def graphSerialSpec : ChangeSpec := { name := "graphSerial", fn := fun _ => fun
  | [d] => { results := [.lit (.bool true)], args := [d] }
  | _ => none }
def graphSerialRow : OpenClaim := { program := "ytncfejndmlcidaagreat", sum := "94bbb8def0d8af63202617cede6be8a3a989dad1325d2921653425c77ef770d2", func := "vellum/vellumlaw19.GraphSerial", spec := "graphSerial", inPlace := ["slices.overlaps[string]", "slices.overlaps[int]"], unfollowed := true, recurses := true, plainKeys := false, apart := false }
def GraphSerialSaid : Prop := graphSerialRow.holds Tryz.pinned (OpenSpec.ofChange graphSerialSpec)

/-- ITS FALSE NEIGHBOUR: 'it returns false'. Refute it at one input. -/
def graphSerialWrong : ChangeSpec := { name := "graphSerial", fn := fun _ => fun
  | [d] => { results := [.lit (.bool false)], args := [d] }
  | _ => none }
def GraphSerialWrongFalsely : Prop := graphSerialRow.holds Tryz.pinned (OpenSpec.ofChange graphSerialWrong)

/- THE SECOND FORM. 'bulk': how many values and letters a reading holds, each counted each time it is reached (what is shared counts as often as it is met; a slice's spare places count too). A statement '..UptoSaid' is the law's where the arguments, and the package variables that the reading takes, are together of bulk at most 1048576: NARROWER than '..Said'. Prove '..Said' where nothing that the law and all that it calls make is longer than what came in: it says more and counts as full. Else prove '..UptoSaid'. A law counts once. -/
mutual
def uptoBulk {H : Type} : DataW H → Nat
  | .lit (.string bytes) => bytes.length + 1
  | .lit _ => 1
  | .nil => 1
  | .ptr d => uptoBulk d + 1
  | .slice elems spare => uptoBulkAll elems + uptoBulkAll spare + 1
  | .agg parts => uptoBulkAll parts + 1
  | .iface _ d => uptoBulk d + 1
  | .map entries => uptoBulkEntries entries + 1
  | .held _ => 1
def uptoBulkAll {H : Type} : List (DataW H) → Nat
  | [] => 0
  | d :: r => uptoBulk d + uptoBulkAll r
def uptoBulkEntries {H : Type} : List (Lit × DataW H) → Nat
  | [] => 0
  | x :: r => uptoBulkEntry x + uptoBulkEntries r
def uptoBulkEntry {H : Type} : Lit × DataW H → Nat
  | (.string bytes, d) => bytes.length + uptoBulk d + 1
  | (_, d) => uptoBulk d + 1
 end
def uptoSmall : (H : Type) → List (DataW H) → Bool := fun _ ds => decide (uptoBulkAll ds ≤ 1048576)
def OpenSpec.upto (s : _root_.Go.ChangeSpec) : _root_.Go.OpenSpec := { _root_.Go.OpenSpec.ofChange s with cond := some uptoSmall }

/-- 'vellumlaw19.GraphChecks', WHERE WHAT IT READS IS OF BULK AT MOST 1048576: true; the input reads as it did. -/
def graphChecksUptoRow : OpenClaim := { program := "ytncfejndmlcidaagreat", sum := "94bbb8def0d8af63202617cede6be8a3a989dad1325d2921653425c77ef770d2", func := "vellum/vellumlaw19.GraphChecks", spec := "graphChecks", inPlace := ["slices.overlaps[string]", "slices.overlaps[int]"], unfollowed := true, recurses := true, plainKeys := false, apart := false, narrowed := true }
def GraphChecksUptoSaid : Prop := graphChecksUptoRow.holds Tryz.pinned (OpenSpec.upto graphChecksSpec)

/-- 'vellumlaw19.GraphEdges', WHERE WHAT IT READS IS OF BULK AT MOST 1048576: true; the input reads as it did. -/
def graphEdgesUptoRow : OpenClaim := { program := "ytncfejndmlcidaagreat", sum := "94bbb8def0d8af63202617cede6be8a3a989dad1325d2921653425c77ef770d2", func := "vellum/vellumlaw19.GraphEdges", spec := "graphEdges", inPlace := ["slices.overlaps[string]", "slices.overlaps[int]"], unfollowed := true, recurses := true, plainKeys := false, apart := false, narrowed := true }
def GraphEdgesUptoSaid : Prop := graphEdgesUptoRow.holds Tryz.pinned (OpenSpec.upto graphEdgesSpec)

/-- 'vellumlaw19.GraphPhenomena', WHERE WHAT IT READS IS OF BULK AT MOST 1048576: true; the input reads as it did. -/
def graphPhenomenaUptoRow : OpenClaim := { program := "ytncfejndmlcidaagreat", sum := "94bbb8def0d8af63202617cede6be8a3a989dad1325d2921653425c77ef770d2", func := "vellum/vellumlaw19.GraphPhenomena", spec := "graphPhenomena", inPlace := ["slices.overlaps[string]", "slices.overlaps[int]"], unfollowed := true, recurses := true, plainKeys := false, apart := false, narrowed := true }
def GraphPhenomenaUptoSaid : Prop := graphPhenomenaUptoRow.holds Tryz.pinned (OpenSpec.upto graphPhenomenaSpec)

/-- 'vellumlaw19.GraphAdya', WHERE WHAT IT READS IS OF BULK AT MOST 1048576: true; the input reads as it did. -/
def graphAdyaUptoRow : OpenClaim := { program := "ytncfejndmlcidaagreat", sum := "94bbb8def0d8af63202617cede6be8a3a989dad1325d2921653425c77ef770d2", func := "vellum/vellumlaw19.GraphAdya", spec := "graphAdya", inPlace := ["slices.overlaps[string]", "slices.overlaps[int]"], unfollowed := true, recurses := true, plainKeys := false, apart := false, narrowed := true }
def GraphAdyaUptoSaid : Prop := graphAdyaUptoRow.holds Tryz.pinned (OpenSpec.upto graphAdyaSpec)

/-- 'vellumlaw19.GraphRounds', WHERE WHAT IT READS IS OF BULK AT MOST 1048576: true; the input reads as it did. -/
def graphRoundsUptoRow : OpenClaim := { program := "ytncfejndmlcidaagreat", sum := "94bbb8def0d8af63202617cede6be8a3a989dad1325d2921653425c77ef770d2", func := "vellum/vellumlaw19.GraphRounds", spec := "graphRounds", inPlace := ["slices.overlaps[string]", "slices.overlaps[int]"], unfollowed := true, recurses := true, plainKeys := false, apart := false, narrowed := true }
def GraphRoundsUptoSaid : Prop := graphRoundsUptoRow.holds Tryz.pinned (OpenSpec.upto graphRoundsSpec)

/-- 'vellumlaw19.GraphSerial', WHERE WHAT IT READS IS OF BULK AT MOST 1048576: true; the input reads as it did. -/
def graphSerialUptoRow : OpenClaim := { program := "ytncfejndmlcidaagreat", sum := "94bbb8def0d8af63202617cede6be8a3a989dad1325d2921653425c77ef770d2", func := "vellum/vellumlaw19.GraphSerial", spec := "graphSerial", inPlace := ["slices.overlaps[string]", "slices.overlaps[int]"], unfollowed := true, recurses := true, plainKeys := false, apart := false, narrowed := true }
def GraphSerialUptoSaid : Prop := graphSerialUptoRow.holds Tryz.pinned (OpenSpec.upto graphSerialSpec)

end Rows
end Go.Proofs.YtncfejndmlcidaaGreat
