/- Layer 12: the law SkipHeights. -/
import Derived.Test.YthpkppfnfbkjoaaDoorGWHgt
import Derived.Test.YthpkppfnfbkjoaaDoorGWSkp36a
namespace Go.Proofs.YthpkppfnfbkjoaaDoor
open Go.RowKit
set_option maxRecDepth 100000

set_option maxHeartbeats 4000000 in
theorem lawHeights (k : ByteArray) (w : World) (hk : k.size ≤ 140737488351232) (hT : Tab w) :
    Calls Tryd.prog 3 #[.string k] w fun e w' => e = .returned (.bool true) ∧ Below w.heap.size w w' := by
  have C1 : Hid (Calls _ _ _ _ _) := height_any k w hk hT
  have C2 : Hid (Calls _ _ _ _ _) := rheight_any k w hk
  have C3 : Hid (Calls _ _ _ _ _) := awake_any w
  clear hT hk
  go_enter Tryd.func3, Tryd.ntmps3
  go_wp2_with fail
  refine C1.out.mono ?_
  rintro e w9 ⟨rfl, hw9⟩
  rw [hw9]
  clear hw9 C1
  go_wp2_with fail
  refine C2.out.mono ?_
  rintro e w9 ⟨rfl, hw9⟩
  rw [hw9]
  clear hw9 C2
  go_wp2_with fail
  refine C3.out.mono ?_
  rintro e w2 ⟨rfl, hb2⟩
  go_wp2_with fail
  go_ret
  exact ⟨rfl, hb2⟩

end Go.Proofs.YthpkppfnfbkjoaaDoor
