/- What the proofs of this seat share: numbers and lists of calls, opened. -/
import Derived.Test.YtckjgnjakkeodaaFOpen
import Derived.Test.YtckjgnjakkeodaaWClkE
import Derived.WalkLawsBesides
import Derived.JoinedOf
import Derived.Handed
namespace Go.Proofs.Ytckjgnjakkeodaa
open Go.ChangeShapes Go.WideShapes Go.ChangeAt Go.RowKit Go.Joins Go.Deep
set_option maxRecDepth 100000

theorem own : ownKnob Try.prog.godebug = none := by kernel_rfl
theorem laidOut : laidOutB Try.prog = true := by kernel_rfl
theorem cellsOp : Try.prog.cellsOf 39 = 3 := by kernel_rfl
theorem bytesOp : Try.prog.bytesOf 39 = 24 := by kernel_rfl

/-- A NUMBER WITHOUT SIGN, OPENED. -/
theorem okU64 {H : Type} {enc : TypeId × Value → H} {W : World} {b0 : Nat} {v : Value} {d : DataW H} {p : List MemPlace}
    (hv : Value.okWide Try.prog W .any b0 22 v) (h : DataW.Trod enc Try.prog W 0 (fun _ => true) true 22 v d p) : ∃ n : Nat, v = .int .u64 (n : Int) ∧ n < 18446744073709551616 := by
  obtain ⟨n, rfl⟩ := okWide_int Try.underlying22 hv
  obtain ⟨fuel, hf⟩ := h
  obtain ⟨k, e0, _, hw⟩ := DataW.trod_int Try.underlying22 hf
  simp [Value.cells] at e0
  subst e0
  simp only [Lit.wf, Bool.and_eq_true, decide_eq_true_eq] at hw
  have h1 : (0 : Int) ≤ n := hw.1
  have h2 : n ≤ (18446744073709551615 : Int) := hw.2
  exact ⟨n.toNat, by rw [Int.toNat_of_nonneg h1], by omega⟩
theorem okU16 {H : Type} {enc : TypeId × Value → H} {W : World} {b0 : Nat} {v : Value} {d : DataW H} {p : List MemPlace}
    (hv : Value.okWide Try.prog W .any b0 41 v) (h : DataW.Trod enc Try.prog W 0 (fun _ => true) true 41 v d p) : ∃ n : Nat, v = .int .u16 (n : Int) ∧ n < 65536 := by
  obtain ⟨n, rfl⟩ := okWide_int Try.underlying41 hv
  obtain ⟨fuel, hf⟩ := h
  obtain ⟨k, e0, _, hw⟩ := DataW.trod_int Try.underlying41 hf
  simp [Value.cells] at e0
  subst e0
  simp only [Lit.wf, Bool.and_eq_true, decide_eq_true_eq] at hw
  have h1 : (0 : Int) ≤ n := hw.1
  have h2 : n ≤ (65535 : Int) := hw.2
  exact ⟨n.toNat, by rw [Int.toNat_of_nonneg h1], by omega⟩
end Go.Proofs.Ytckjgnjakkeodaa
