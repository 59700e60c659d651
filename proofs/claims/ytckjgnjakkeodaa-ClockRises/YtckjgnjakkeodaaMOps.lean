/- Lists of calls, as they are read. -/
import Derived.Test.YtckjgnjakkeodaaWClkE
namespace Go.Proofs.Ytckjgnjakkeodaa
open Go.RowKit

/-- a call: take, or done of the pick-th that is open, else of a stamp -/
structure OpC where
  tk : Bool
  pk : Int
  st : Nat
/-- calls that are read -/
def RdOp (w : World) (B : Nat) (q : Option Addr) (L : List OpC) : Prop := ∀ i (hi : i < L.length), ∃ g o, q = some ⟨g, o, none⟩ ∧ g < B ∧ w.cell? ⟨g, o + i * 3, none⟩ = some (.bool L[i].tk) ∧ w.cell? ⟨g, o + i * 3 + 1, none⟩ = some (.int .i64 L[i].pk) ∧ w.cell? ⟨g, o + i * 3 + 2, none⟩ = some (.int .u64 (L[i].st : Nat))
end Go.Proofs.Ytckjgnjakkeodaa
