/- The walk of the document's answer for Check. -/
import Derived.Test.YtfknmblobcjapaaDoorGWName2
namespace Go.Proofs.YtfknmblobcjapaaDoor
open Go.RowKit Ieee
set_option maxRecDepth 100000















set_option maxHeartbeats 1000000 in
theorem str_any (k n : Int) (f : Nat) (s : ByteArray) (w : World)
    (hv : ∀ w1 : World, Below w.heap.size w w1 → Calls Tryd.prog 76 #[.string s] w1 fun e w' => e = .returned (.bool (Lib.validD s.data.toList)) ∧ Below w1.heap.size w1 w') :
    Calls Tryd.prog 62 #[.agg #[.int .i64 k, .int .i64 n, .float .f64 f, .string s]] w fun e w' => e = .returned (.bool (strB k s)) ∧ Below w.heap.size w w' := by
  have HV : Hid (∀ w1 : World, Below w.heap.size w w1 → _) := hv
  clear hv
  go_enter Tryd.func62, Tryd.ntmps62
  go_wp2_with (first | (go_at_call 76; refine (HV.out _ (by go_grown)).mono ?_; rintro e w' ⟨rfl, hb9⟩))
  all_goals go_ret
  all_goals (refine ⟨?_, by first | exact Below.trans (by go_grown) (hb9.mono (by simp)) | go_grown⟩)
  all_goals simp [strB, *]



end Go.Proofs.YtfknmblobcjapaaDoor
