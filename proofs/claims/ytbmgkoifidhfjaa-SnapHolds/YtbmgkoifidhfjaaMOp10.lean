/- Calls, as they are read. -/
import Derived.Test.YtbmgkoifidhfjaaWSnpP
namespace Go.Proofs.Ytbmgkoifidhfjaa
open Go.RowKit
set_option maxRecDepth 100000

/-- a call -/
structure OpC where
  k : Int
  s : Nat
  n : Int
/-- calls that are read -/
def RdO (w : World) (B : Nat) (q : Option Addr) (L : List OpC) : Prop := ∀ i (hi : i < L.length), ∃ g o, q = some ⟨g, o, none⟩ ∧ g < B ∧ w.cell? ⟨g, o + i * 3, none⟩ = some (.int .i64 L[i].k) ∧ w.cell? ⟨g, o + i * 3 + 1, none⟩ = some (.int .u64 (L[i].s : Nat)) ∧ w.cell? ⟨g, o + i * 3 + 2, none⟩ = some (.int .i64 L[i].n)
end Go.Proofs.Ytbmgkoifidhfjaa
