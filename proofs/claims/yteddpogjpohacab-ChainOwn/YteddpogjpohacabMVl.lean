/- Values, as they are told. -/
import Derived.Test.YteddpogjpohacabProg
namespace Go.Proofs.Yteddpogjpohacab

structure Vl where
  k : Int
  n : Int
  f : Nat
  s : ByteArray

def Vl.ok (v : Vl) : Prop := (-9223372036854775808 ≤ v.k ∧ v.k ≤ 9223372036854775807) ∧ (-9223372036854775808 ≤ v.n ∧ v.n ≤ 9223372036854775807) ∧ v.f < 18446744073709551616 ∧ v.s.size ≤ 9223372036854775807
end Go.Proofs.Yteddpogjpohacab
