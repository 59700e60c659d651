/- The walks of Has, Empty and Point, and of the document's answers for them. -/
import Derived.Test.YtjigmijennbolaaDoorWEqR
namespace Go.Proofs.YtjigmijennbolaaDoor
open Go.RowKit
set_option maxRecDepth 100000

def ltB (a b : ByteArray) : Bool := Op.bytesLess a.toList b.toList
def hasB (lo hi : ByteArray) (op : Bool) (k : ByteArray) : Bool := (!ltB k lo) && (op || ltB k hi)
def emptyB (lo hi : ByteArray) (op : Bool) : Bool := (!op) && (!ltB lo hi)
theorem ltB_cb (a b : ByteArray) : ltB a b = decide (Lib.compareBytes a.data.toList b.data.toList = -1) := by
  unfold ltB; rw [ByteArray.toList_eq, ByteArray.toList_eq, less_cb]
theorem ltB_irrefl (a : ByteArray) : ltB a a = false := by rw [ltB_cb, cb_self]; rfl
theorem hasB_lo (lo hi : ByteArray) (op : Bool) : (!hasB lo hi op lo) = emptyB lo hi op := by
  unfold hasB emptyB; rw [ltB_irrefl]; cases op <;> cases ltB lo hi <;> rfl

set_option maxHeartbeats 1000000 in
theorem has_any (lo hi : ByteArray) (op : Bool) (k : ByteArray) (w : World) :
    Calls Tryd.prog 10 #[rngV lo hi op, .string k] w fun e w' => e = .returned (.bool (hasB lo hi op k)) ∧ Below w.heap.size w w' := by
  unfold hasB ltB
  cases h1 : Op.bytesLess k.toList lo.toList <;> cases op <;> cases h2 : Op.bytesLess k.toList hi.toList
  all_goals
    go_enter Tryd.func10, Tryd.ntmps10
    go_wp2
    go_ret
    exact ⟨rfl, by go_grown⟩



set_option maxHeartbeats 1000000 in
theorem empty_any (lo hi : ByteArray) (op : Bool) (w : World) :
    Calls Tryd.prog 13 #[rngV lo hi op] w fun e w' => e = .returned (.bool (emptyB lo hi op)) ∧ Below w.heap.size w w' := by
  rw [← hasB_lo]
  go_enter Tryd.func13, Tryd.ntmps13
  go_wp2_with (first | (go_at_call 10; refine (has_any _ _ _ _ _).mono ?_; rintro e w1 ⟨rfl, hb1⟩))
  go_ret
  exact ⟨rfl, ((Below.refl _ _).alloc (Nat.le_refl _) _).trans (hb1.mono (by simp))⟩

theorem leq_not (a b : ByteArray) : (Op.bytesLess a.toList b.toList || (a.toList == b.toList)) = !ltB b a := by
  rw [ltB_cb, ByteArray.toList_eq, ByteArray.toList_eq, less_cb, eq_cb, cb_swap a.data.toList b.data.toList]
  rcases cb_range a.data.toList b.data.toList with h | h | h <;> simp [h]

set_option maxHeartbeats 1000000 in
theorem rempty_any (lo hi : ByteArray) (op : Bool) (w : World) :
    Calls Tryd.prog 22 #[rngV lo hi op] w fun e w' => e = .returned (.bool (emptyB lo hi op)) ∧ Below w.heap.size w w' := by
  unfold emptyB
  rw [← leq_not]
  cases op <;> cases h1 : Op.bytesLess hi.toList lo.toList <;> cases h2 : (hi.toList == lo.toList)
  all_goals
    go_enter Tryd.func22, Tryd.ntmps22
    go_wp2
    go_ret
    exact ⟨rfl, by go_grown⟩



