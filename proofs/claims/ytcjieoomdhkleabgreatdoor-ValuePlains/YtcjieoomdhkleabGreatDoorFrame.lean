/- What every proof of this seat shares: a value opened and shut, the table of powers, the witness's world. -/
import Derived.Test.YtcjieoomdhkleabGreatDoorRows
import Derived.WalkKit
import Derived.ProofKit
import Derived.OpenShut
import Derived.Lib.SmallJoins
import Derived.Lib.LaidTab
import Derived.Stop.LaidErr
import Derived.WalkLawsBesides
import Derived.Lay
import Derived.SevenTiedAt
namespace Go.Proofs.YtcjieoomdhkleabGreatDoor
open Go.ChangeShapes Go.WideShapes Go.ChangeAt Go.RowKit Go.Joins
set_option maxRecDepth 100000

theorem own : ownKnob Tryz.prog.godebug = none := by kernel_rfl
theorem cells24 : Tryz.prog.cellsOf 24 = 4 := by kernel_rfl

section
variable {H : Type} {enc : TypeId × Value → H} {P : Program} {w : World} {base : Nat} {spare : Nat → Bool} {held : Bool} {fuel : Nat} {t : TypeId} {cs : List Value} {x : DataW H × List MemPlace}
theorem trod_float {k : FloatKind} (ht : P.underlying t = some (.float k)) (h : DataW.trod enc P w base spare held fuel t cs = some x) : ∃ b, cs = [.float k b] ∧ x = (.lit (.float k b), []) ∧ (Lit.float k b).wf = true := by
  cases fuel with
  | zero => simp [DataW.trod] at h
  | succ n =>
    unfold DataW.trod at h
    rw [ht] at h
    split at h <;> simp_all
end

/-- A VALUE, OPENED: its four fields; it leads to no memory; it reads the same in every world. -/
theorem openV {H : Type} {enc : TypeId × Value → H} {W : World} {b0 : Nat} {v : Value} {d : DataW H} {p : List MemPlace}
    (hv : Value.okWide Tryz.prog W .any b0 24 v) (h : DataW.Trod enc Tryz.prog W 0 (fun _ => true) true 24 v d p) :
    ∃ (k n : Int) (f : Nat) (s : ByteArray), v = .agg #[.int .i64 k, .int .i64 n, .float .f64 f, .string s] ∧ p = [] ∧ (Lit.int .i64 k).wf = true ∧ (Lit.int .i64 n).wf = true ∧ (Lit.float .f64 f).wf = true ∧ s.size ≤ maxLen ∧
      ∀ (W' : World) (base : Nat) (spare : Nat → Bool) (held : Bool), DataW.Trod enc Tryz.prog W' base spare held 24 v d [] := by
  obtain ⟨v0, v1, v2, v3, y0, y1, y2, y3, m, rfl, rfl, rfl, h0, h1, h2, h3⟩ := open_agg4 Tryz.underlying24 (by kernel_rfl) cells24 hv h
  obtain ⟨k, e0, rfl, w0⟩ := DataW.trod_int Tryz.underlying3 h0
  obtain ⟨n, e1, rfl, w1⟩ := DataW.trod_int Tryz.underlying2 h1
  obtain ⟨f, e2, rfl, w2⟩ := trod_float Tryz.underlying22 h2
  obtain ⟨s, e3, rfl, w3⟩ := DataW.trod_string Tryz.underlying9 h3
  simp only [List.cons.injEq, and_true] at e0 e1 e2 e3
  subst e0 e1 e2 e3
  refine ⟨k, n, f, s, rfl, rfl, w0, w1, w2, w3, fun W' base spare held => ?_⟩
  exact shut_agg4 (y0 := (.lit (.int .i64 k), [])) (y1 := (.lit (.int .i64 n), [])) (y2 := (.lit (.float .f64 f), [])) (y3 := (.lit (.string s.data.toList), [])) Tryz.underlying24 (by kernel_rfl) cells24
    ⟨1, by simp [DataW.trod, Tryz.underlying3, w0]⟩ ⟨1, by simp [DataW.trod, Tryz.underlying2, w1]⟩ ⟨1, by simp [DataW.trod, Tryz.underlying22, w2]⟩ ⟨1, by simp [DataW.trod, Tryz.underlying9, w3]⟩

/-- What the five rows list. -/
abbrev laid5 : List (String × DataW Unit) := Rows.valuePlainsRow.laid

theorem pow10_cell {W : World} (h : laidMetH Tryz.prog laid5 W) : 4 < W.heap.size ∧ W.cell? ⟨4, 0, none⟩ = some (.int .u64 1) := by
  rw [MakeChecks.laidMetH_plain _ _ _ (by kernel_rfl)] at h
  have h1 := laidMet.tail (laidMet.tail (laidMet.tail h))
  have hT := Lib.tabIs_of_head (zs := [1, 10, 100, 1000, 10000, 100000, 1000000, 10000000, 100000000, 1000000000, 10000000000, 100000000000, 1000000000000, 10000000000000, 100000000000000, 1000000000000000, 10000000000000000, 100000000000000000, 1000000000000000000, 10000000000000000000])
    (g := 4) (t := 120) (e := 43) (n := 20) (by kernel_rfl) (by kernel_rfl) Tryz.underlying120 Tryz.underlying43 (by kernel_rfl) (by kernel_rfl) h1
  have hc := hT.cell (g := 4) (by kernel_rfl) 0 (by decide)
  refine ⟨?_, hc⟩
  apply Classical.byContradiction
  intro hn
  have : W.heap[4]? = none := Array.getElem?_eq_none (by omega)
  simp [World.cell?, this] at hc
end Go.Proofs.YtcjieoomdhkleabGreatDoor
