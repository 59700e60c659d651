/- The walk of Meet. -/
import Derived.Test.YtjigmijennbolaaDoorWBoth
namespace Go.Proofs.YtjigmijennbolaaDoor
open Go.RowKit
set_option maxRecDepth 100000

set_option maxHeartbeats 1000000 in
theorem meet_any (lo hi : ByteArray) (op : Bool) (lo' hi' : ByteArray) (op' : Bool) (w : World) :
    Calls Tryd.prog 12 #[rngV lo hi op, rngV lo' hi' op'] w fun e w' => e = .returned (.bool (!emptyB (bothR lo hi op lo' hi' op').1 (bothR lo hi op lo' hi' op').2.1 (bothR lo hi op lo' hi' op').2.2)) ∧ Below w.heap.size w w' := by
  have HB : Hid (∀ w1 : World, Calls _ _ _ _ _) := fun w1 => both_any lo hi op lo' hi' op' w1
  generalize (bothR lo hi op lo' hi' op').1 = a at *
  generalize (bothR lo hi op lo' hi' op').2.1 = b at *
  generalize (bothR lo hi op lo' hi' op').2.2 = c at *
  go_enter Tryd.func12, Tryd.ntmps12
  go_wp2_with (first | (go_at_call 11; refine (HB.out _).mono ?_; rintro e w1 ⟨rfl, hb1⟩) | (go_at_call 13; refine (empty_any _ _ _ _).mono ?_; rintro e w2 ⟨rfl, hb2⟩))
  go_ret
  refine ⟨rfl, ?_⟩
  have hz := hb1.size
  simp at hz
  refine Below.trans ?_ ((hb1.mono (by simp; omega)).trans (hb2.mono (by omega)))
  exact below2r w _ _
end Go.Proofs.YtjigmijennbolaaDoor
