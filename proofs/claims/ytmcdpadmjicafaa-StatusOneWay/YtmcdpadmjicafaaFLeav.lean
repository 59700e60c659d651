/- A call of one goroutine that may ask for the time: what is proved of it alone serves a row that says 'leaving'. -/
import Derived.Test.YtmcdpadmjicafaaProg
import Derived.Conc.HoldsTime
import Derived.Leaving
import Derived.SizedLaws
namespace Go.Proofs.Ytmcdpadmjicafaa
open Go.ChangeShapes

theorem post_time {H : Type} {enc : TypeId × Value → H} {P : Program} {f : Func} {s : ChangeSpec} {F : Stop.Interp} {apart fresh handsOn : Bool} {w w' : World} {args : Array Value} {v : Value}
    (h : s.post enc P f apart fresh handsOn false w args v w') : (OpenSpec.ofChange s).postWith enc P f F (outsideKept [.timePasses]) apart fresh handsOn w args v w' := by
  have hos : w'.os = w.os := by
    obtain ⟨_, _, _, _, _, _, _, _, _, _, h5, _⟩ := h
    exact h5.1
  have e : ({ w' with os := w.os } : World) = w' := by rw [← hos]
  refine postWith_of_post (by rw [e]; exact h) ?_
  rw [hos]
  exact ⟨0, by cases w.os; rfl⟩

theorem leaving_of_handed {H : Type} {enc : TypeId × Value → H} {a : Assume} {C : Checked} {os : Os} {f : FuncId} {fn : Func} {s : ChangeSpec} {F : Stop.Interp} {Pre : World → Array Value → Prop} {apart fresh handsOn : Bool}
    (h : ReturnsInHanded a C os f .any Pre (s.post enc C.prog fn apart fresh handsOn false)) :
    ReturnsInLeavingWide a C os f .any Pre ((OpenSpec.ofChange s).postWith enc C.prog fn F (outsideKept [.timePasses]) apart fresh handsOn) := fun enter => by
  obtain ⟨h1, h2, h3, h4, runs⟩ := h enter
  refine ⟨h1, h2, h3, h4, fun w tape i hi => ?_⟩
  obtain ⟨n, v, w', r1, r2, r3, hp, ⟨k, last, g1, g2, g3⟩, r5⟩ := runs w tape i hi
  exact ⟨n, v, w', r1, r2, r3, post_time hp, ⟨k, last, g1, g2, g3.2.1, onlyLeaving_of_quiet g3.1, g3.2.2⟩, r5⟩
end Go.Proofs.Ytmcdpadmjicafaa
