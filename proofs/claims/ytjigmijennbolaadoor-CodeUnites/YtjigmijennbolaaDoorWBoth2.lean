/- The walks of the document's answers for Both and Meet, and of Meet. -/
import Derived.Test.YtjigmijennbolaaDoorWBoth
namespace Go.Proofs.YtjigmijennbolaaDoor
open Go.RowKit
set_option maxRecDepth 100000

theorem gtB (a b : ByteArray) : ltB a b = (!Op.bytesLess b.toList a.toList && !(b.toList == a.toList)) := by
  rw [ltB_cb, ByteArray.toList_eq, ByteArray.toList_eq, less_cb, eq_cb, cb_swap a.data.toList b.data.toList]
  rcases cb_range a.data.toList b.data.toList with h | h | h <;> simp [h]























































