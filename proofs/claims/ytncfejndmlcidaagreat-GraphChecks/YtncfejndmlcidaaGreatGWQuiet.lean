/- A region that draws its order, whose operations only read, and whose callees may lay blocks of their own: one walk, in the text's order. -/
import Derived.Deep.QuietTactic
import Derived.Below
namespace Go.Proofs.YtncfejndmlcidaaGreat
open Go.RowKit

/-- a world behind w: all blocks of w are as they were -/
structure InB (w : World) where
  w' : World
  h : Below w.heap.size w w'
theorem inB_ne (w : World) : Nonempty (InB w) := ⟨⟨w, Below.refl _ _⟩⟩
theorem InB.size {w : World} (p : InB w) : w.heap.size ≤ p.w'.heap.size := p.h.size
theorem InB.cell {w : World} {b o : Nat} {v : Value} (h : w.cell? ⟨b, o, none⟩ = some v) (hb : b < w.heap.size) (p : InB w) : p.w'.cell? ⟨b, o, none⟩ = some v := (p.h.cell (p := ⟨b, o, none⟩) hb).trans h
theorem wp_region_inB {P : Program} {id : Nat} {Q : Exit → Act → World → Prop} {a : Act} {w : World} {l : List Oper} (hm : P.follows .mixedOrders = true) (hB : Region.lexB .any l.toArray = true)
    (h : wpQuiet P l.toArray (fun w' => ∃ p : InB w, w' = p.w') (fun a' => ∀ w', (∃ p : InB w, w' = p.w') → Q .normal a' w') l a) : (Code.region id l.toArray true).wp P Q a w :=
  wp_region_quiet (C := fun w' => ∃ p : InB w, w' = p.w') hm hB ⟨⟨w.drew, (Below.refl _ _).drew⟩, rfl⟩ (by simpa using h)
theorem Calls.inB {P : Program} {f : FuncId} {args : Array Value} {w : World} {p : InB w} {v : Value} (h : Calls P f args p.w' fun e w' => e = .returned v ∧ Below p.w'.heap.size p.w' w') :
    Calls P f args p.w' fun e w' => e = .returned v ∧ ∃ q : InB w, w' = q.w' :=
  h.mono fun _ w' ⟨he, hb⟩ => ⟨he, ⟨w', p.h.trans (hb.mono p.h.size)⟩, rfl⟩

end Go.Proofs.YtncfejndmlcidaaGreat
