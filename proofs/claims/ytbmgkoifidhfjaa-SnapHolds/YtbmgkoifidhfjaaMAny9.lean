/- Statements that draw their order, taken operation by operation. -/
import Derived.Test.YtbmgkoifidhfjaaWHeld
import Derived.WalkKit
import Derived.RegionTactic
import Derived.Deep.Cut
import Derived.Deep.CutRange
namespace Go.Proofs.Ytbmgkoifidhfjaa
open Go.RowKit
set_option maxRecDepth 100000

section
variable {P : Program} {ops : Array Oper} {Q : Exit → Act → World → Prop}
theorem anyN_take (i : Nat) {oi : Oper} {v : Value} {fuel : Nat} {listed : Array Bool} {a : Act} {w : World} (hi : nthO ops.toList i = some oi)
    (hs : Region.noSelect ops = true) (hf : Region.free .any ops listed i = true) (hr : (Region.ready .any ops listed).contains i = true)
    (hQ : ∀ c a w, Q (.panic c) (a.put oi.dst v) w → Q (.panic c) a w) (hy : Yields P ops oi v a)
    (h : wpAny P .any ops Q fuel (listed.setIfInBounds i true) (a.put oi.dst v) w) : wpAny P .any ops Q (fuel + 1) listed a w := wpAny_take (nthO_at hi) hs hf hr hQ hy h
theorem anyN_cons (i : Nat) {fuel : Nat} {listed : Array Bool} {a : Act} {w : World} {o : Oper} {rs : List Nat} (ho : nthO ops.toList i = some o) (hw : Region.wanted o (yielded ops a.tmps) = true)
    (h : ∀ K' : Act → World → Prop, Hid (∀ a w, wpAny P .any ops Q fuel (listed.setIfInBounds i true) a w → K' a w) → Oper.wp P o a w K' Q)
    (hs : AllReady P .any ops Q fuel listed a w rs) : AllReady P .any ops Q fuel listed a w (i :: rs) :=
  AllReady.cons (nthO_at ho) (fun K hK => by rw [if_pos hw]; exact h K hK) hs
end
end Go.Proofs.Ytbmgkoifidhfjaa
