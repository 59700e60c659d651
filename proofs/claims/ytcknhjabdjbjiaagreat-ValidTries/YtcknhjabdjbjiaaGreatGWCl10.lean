/- A foot without a table. -/
import Derived.Test.YtcknhjabdjbjiaaGreatGWCl7
namespace Go.Proofs.YtcknhjabdjbjiaaGreat
open Go.RowKit
set_option maxRecDepth 100000

theorem OwnS.frm {w w' : World} {F : Nat → Prop} {B : Nat} {v : Value} {L : List Sp} (h : OwnS w B v L) (hf : Frm w w' F) (hn : ∀ b, B ≤ b → ¬ F b) : OwnS w' B v L := by
  refine ⟨h.1, ?_⟩
  rcases h.2 with h1 | ⟨g, cap, cur, e, hb', hg, r⟩
  · exact .inl h1
  · exact .inr ⟨g, cap, cur, e, hb', (hf.block g (Array.getElem?_eq_some_iff.1 hg).1 (hn g hb')).trans hg, r⟩







end Go.Proofs.YtcknhjabdjbjiaaGreat
