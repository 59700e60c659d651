/- What the proofs on ranges share: ranges and lists of ranges opened. -/
import Derived.Test.YtjigmijennbolaaDoorFrameV
import Derived.Test.YtjigmijennbolaaDoorWEqR
import Derived.ChangeMaps5
namespace Go.Proofs.YtjigmijennbolaaDoor
open Go.ChangeShapes Go.WideShapes Go.ChangeAt Go.RowKit Go.Joins Go.Shelf Go.Lib Go.Deep
set_option maxRecDepth 100000

theorem cellsR : Tryd.prog.cellsOf 29 = 3 := by kernel_rfl
theorem bytesR : Tryd.prog.bytesOf 29 = 40 := by kernel_rfl

/-- A RANGE, OPENED. -/
theorem openR {H : Type} {enc : TypeId × Value → H} {W : World} {b0 : Nat} {v : Value} {d : DataW H} {p : List MemPlace}
    (hv : Value.okWide Tryd.prog W .any b0 29 v) (h : DataW.Trod enc Tryd.prog W 0 (fun _ => true) true 29 v d p) :
    ∃ (lo hi : ByteArray) (op : Bool), v = rngV lo hi op ∧ p = [] ∧ lo.size ≤ maxLen ∧ hi.size ≤ maxLen ∧
      ∀ (W' : World) (base : Nat) (spare : Nat → Bool) (held : Bool), DataW.Trod enc Tryd.prog W' base spare held 29 v d [] := by
  obtain ⟨v0, v1, v2, y0, y1, y2, m, rfl, rfl, rfl, h0, h1, h2⟩ := open_agg3 Tryd.underlying29 (by kernel_rfl) cellsR hv h
  obtain ⟨lo, e0, rfl, w0⟩ := DataW.trod_string Tryd.underlying9 h0
  obtain ⟨hi, e1, rfl, w1⟩ := DataW.trod_string Tryd.underlying9 h1
  obtain ⟨op, e2, rfl⟩ := DataW.trod_bool Tryd.underlying4 h2
  simp only [List.cons.injEq, and_true] at e0 e1 e2
  subst e0 e1 e2
  refine ⟨lo, hi, op, rfl, rfl, w0, w1, fun W' base spare held => ?_⟩
  exact shut_agg3 (y0 := (.lit (.string lo.data.toList), [])) (y1 := (.lit (.string hi.data.toList), [])) (y2 := (.lit (.bool op), [])) Tryd.underlying29 (by kernel_rfl) cellsR
    ⟨1, by simp [DataW.trod, Tryd.underlying9, w0]⟩ ⟨1, by simp [DataW.trod, Tryd.underlying9, w1]⟩ ⟨1, by simp [DataW.trod, Tryd.underlying4]⟩
end Go.Proofs.YtjigmijennbolaaDoor
