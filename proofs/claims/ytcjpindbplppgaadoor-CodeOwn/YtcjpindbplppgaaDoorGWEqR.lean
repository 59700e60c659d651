/- Two ranges held against one another; a range's box. -/
import Derived.Laws.StructEq
import Derived.Test.YtcjpindbplppgaaDoorGFrameV
namespace Go.Proofs.YtcjpindbplppgaaDoor
open Go.RowKit
set_option maxRecDepth 100000

def eqR (a b a' b' : ByteArray) (c c' : Bool) : Bool := (a.toList == a'.toList) && ((b.toList == b'.toList) && (c == c'))
theorem eqR_self (a b : ByteArray) (c : Bool) : eqR a b a b c c = true := by simp [eqR]

set_option maxHeartbeats 1000000 in
theorem run_eqR (a b a' b' : ByteArray) (c c' : Bool) (w : World) : (binOp .eql 35 (rngV a b c) (rngV a' b' c')).run Tryd.prog w = .ok (.bool (eqR a b a' b' c c')) w := by
  have u9 := Tryd.underlying9
  have a9 := Tryd.isAgg9
  have z9 := Tryd.sizeOf9
  have u4 := Tryd.underlying4
  have a4 := Tryd.isAgg4
  have z4 := Tryd.sizeOf4
  have hS : Tryd.prog.underlying 35 = some (.struct (Tryd.prog.fieldsOf 35)) := by kernel_rfl
  have hp : Tryd.prog.stoodInHeld 35 = false := by kernel_rfl
  unfold eqR
  rw [run_eql_struct, show (10000 : Nat) = 9999 + 1 from rfl, run_equalIn_agg w 9999 35 _ _ hS hp]
  simp only [Program.fieldsOf, Tryd.underlying35]
  go_simp
  cases h1 : (a.toList == a'.toList) <;> cases h2 : (b.toList == b'.toList) <;> cases c <;> cases c' <;> simp_all
theorem run_eqG (op : BinOp) (x y : Operand) (a b a' b' : ByteArray) (c c' : Bool) (w : World) : (eqGuard op 35 x y (rngV a b c) (rngV a' b' c')).run Tryd.prog w = .ok () w :=
  run_eqGuard_agg w op 35 x y _ _ (by kernel_rfl)

theorem below2r (w : World) (o p : Obj) : Below w.heap.size w ((w.alloc o).alloc p) := ((Below.refl _ _).alloc (Nat.le_refl _) _).alloc (by simp) _

def BoxR (w : World) (g : Nat) (a b : ByteArray) (c : Bool) : Prop := g < w.heap.size ∧ w.cell? ⟨g, 0, none⟩ = some (.string a) ∧ w.cell? ⟨g, 1, none⟩ = some (.string b) ∧ w.cell? ⟨g, 2, none⟩ = some (.bool c)
theorem BoxR.keep {w w' : World} {g : Nat} {a b : ByteArray} {c : Bool} (h : BoxR w g a b c) (hb : Below w.heap.size w w') : BoxR w' g a b c := by
  obtain ⟨h0, h1, h2, h3⟩ := h
  exact ⟨Nat.lt_of_lt_of_le h0 hb.size, (hb.cell (p := ⟨g, 0, none⟩) h0).trans h1, (hb.cell (p := ⟨g, 1, none⟩) h0).trans h2, (hb.cell (p := ⟨g, 2, none⟩) h0).trans h3⟩
theorem BoxR.alloc {w : World} {g : Nat} {a b : ByteArray} {c : Bool} (h : BoxR w g a b c) (o : Obj) : BoxR (w.alloc o) g a b c := h.keep ((Below.refl _ _).alloc (Nat.le_refl _) o)
theorem BoxR.new (w : World) (a b : ByteArray) (c : Bool) : BoxR (w.alloc (.cells #[.string a, .string b, .bool c] 35)) w.heap.size a b c := by
  refine ⟨by simp, ?_, ?_, ?_⟩ <;> simp [go_sem]

end Go.Proofs.YtcjpindbplppgaaDoor
