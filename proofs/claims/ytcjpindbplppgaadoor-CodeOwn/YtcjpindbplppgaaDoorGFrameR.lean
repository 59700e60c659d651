/- What the proofs on ranges share: ranges and lists of ranges opened. The walks of Has, Empty and Point, and of the document's answers for them. -/
import Derived.ChangeMaps5
import Derived.Test.YtcjpindbplppgaaDoorGFrameV
import Derived.Test.YtcjpindbplppgaaDoorGWEqR
namespace Go.Proofs.YtcjpindbplppgaaDoor
open Go.ChangeShapes Go.WideShapes Go.ChangeAt Go.RowKit Go.Joins Go.Shelf Go.Lib Go.Deep
set_option maxRecDepth 100000

theorem cellsR : Tryd.prog.cellsOf 35 = 3 := by kernel_rfl
theorem bytesR : Tryd.prog.bytesOf 35 = 40 := by kernel_rfl

/-- A RANGE, OPENED. -/
theorem openR {H : Type} {enc : TypeId × Value → H} {W : World} {b0 : Nat} {v : Value} {d : DataW H} {p : List MemPlace}
    (hv : Value.okWide Tryd.prog W .any b0 35 v) (h : DataW.Trod enc Tryd.prog W 0 (fun _ => true) true 35 v d p) :
    ∃ (lo hi : ByteArray) (op : Bool), v = rngV lo hi op ∧ p = [] ∧ lo.size ≤ maxLen ∧ hi.size ≤ maxLen ∧
      ∀ (W' : World) (base : Nat) (spare : Nat → Bool) (held : Bool), DataW.Trod enc Tryd.prog W' base spare held 35 v d [] := by
  obtain ⟨v0, v1, v2, y0, y1, y2, m, rfl, rfl, rfl, h0, h1, h2⟩ := open_agg3 Tryd.underlying35 (by kernel_rfl) cellsR hv h
  obtain ⟨lo, e0, rfl, w0⟩ := DataW.trod_string Tryd.underlying9 h0
  obtain ⟨hi, e1, rfl, w1⟩ := DataW.trod_string Tryd.underlying9 h1
  obtain ⟨op, e2, rfl⟩ := DataW.trod_bool Tryd.underlying4 h2
  simp only [List.cons.injEq, and_true] at e0 e1 e2
  subst e0 e1 e2
  refine ⟨lo, hi, op, rfl, rfl, w0, w1, fun W' base spare held => ?_⟩
  exact shut_agg3 (y0 := (.lit (.string lo.data.toList), [])) (y1 := (.lit (.string hi.data.toList), [])) (y2 := (.lit (.bool op), [])) Tryd.underlying35 (by kernel_rfl) cellsR
    ⟨1, by simp [DataW.trod, Tryd.underlying9, w0]⟩ ⟨1, by simp [DataW.trod, Tryd.underlying9, w1]⟩ ⟨1, by simp [DataW.trod, Tryd.underlying4]⟩

end Go.Proofs.YtcjpindbplppgaaDoor

namespace Go.Proofs.YtcjpindbplppgaaDoor
open Go.RowKit
set_option maxRecDepth 100000

def ltB (a b : ByteArray) : Bool := Op.bytesLess a.toList b.toList
def hasB (lo hi : ByteArray) (op : Bool) (k : ByteArray) : Bool := (!ltB k lo) && (op || ltB k hi)
def emptyB (lo hi : ByteArray) (op : Bool) : Bool := (!op) && (!ltB lo hi)
theorem ltB_cb (a b : ByteArray) : ltB a b = decide (Lib.compareBytes a.data.toList b.data.toList = -1) := by
  unfold ltB; rw [ByteArray.toList_eq, ByteArray.toList_eq, less_cb]
theorem ltB_irrefl (a : ByteArray) : ltB a a = false := by rw [ltB_cb, cb_self]; rfl
theorem hasB_lo (lo hi : ByteArray) (op : Bool) : (!hasB lo hi op lo) = emptyB lo hi op := by
  unfold hasB emptyB; rw [ltB_irrefl]; cases op <;> cases ltB lo hi <;> rfl

set_option maxHeartbeats 1000000 in
theorem has_any (lo hi : ByteArray) (op : Bool) (k : ByteArray) (w : World) :
    Calls Tryd.prog 52 #[rngV lo hi op, .string k] w fun e w' => e = .returned (.bool (hasB lo hi op k)) ∧ Below w.heap.size w w' := by
  unfold hasB ltB
  cases h1 : Op.bytesLess k.toList lo.toList <;> cases op <;> cases h2 : Op.bytesLess k.toList hi.toList
  all_goals
    go_enter Tryd.func52, Tryd.ntmps52
    go_wp2
    go_ret
    exact ⟨rfl, by go_grown⟩



set_option maxHeartbeats 1000000 in
theorem empty_any (lo hi : ByteArray) (op : Bool) (w : World) :
    Calls Tryd.prog 33 #[rngV lo hi op] w fun e w' => e = .returned (.bool (emptyB lo hi op)) ∧ Below w.heap.size w w' := by
  rw [← hasB_lo]
  go_enter Tryd.func33, Tryd.ntmps33
  go_wp2_with (first | (go_at_call 52; refine (has_any _ _ _ _ _).mono ?_; rintro e w1 ⟨rfl, hb1⟩))
  go_ret
  exact ⟨rfl, ((Below.refl _ _).alloc (Nat.le_refl _) _).trans (hb1.mono (by simp))⟩

theorem leq_not (a b : ByteArray) : (Op.bytesLess a.toList b.toList || (a.toList == b.toList)) = !ltB b a := by
  rw [ltB_cb, ByteArray.toList_eq, ByteArray.toList_eq, less_cb, eq_cb, cb_swap a.data.toList b.data.toList]
  rcases cb_range a.data.toList b.data.toList with h | h | h <;> simp [h]







end Go.Proofs.YtcjpindbplppgaaDoor
