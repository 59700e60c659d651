/- The walk of the statement on names: it answers true. -/
import Derived.Test.YtobgdjjicgiefaaGreatDoorWAwake3
namespace Go.Proofs.YtobgdjjicgiefaaGreatDoor
open Go.RowKit
set_option maxRecDepth 100000

set_option maxHeartbeats 2000000 in
theorem lawNames (s : ByteArray) (w : World) (hs : s.size ≤ 140737488351232) (hE : Env w) (hK : KW w) :
    Calls Tryz.prog 3 #[.string s] w fun e w' => e = .returned (.bool true) ∧ Below w.heap.size w w' := by
  have C1 : Hid (∀ w1 : World, Calls Tryz.prog 9 #[.string s] w1 fun e w' => e = .returned (.bool (nameB s.data.toList)) ∧ Below w1.heap.size w1 w') := fun w1 => name_any s w1 hs
  have C2 : Hid (∀ w1 : World, Calls Tryz.prog 10 #[.string s] w1 fun e w' => e = .returned (.bool (nameB s.data.toList)) ∧ Below w1.heap.size w1 w') := fun w1 => rname_any s w1 hs
  have CW : Hid (∀ w1 : World, Below w.heap.size w w1 → Calls Tryz.prog 11 #[] w1 fun e w' => e = .returned (.bool true) ∧ Below w1.heap.size w1 w') := fun w1 hb => awake3 w1 (hE.on hb) (hK.on hb)
  clear hE hK
  generalize nameB s.data.toList = d at *
  go_enter Tryz.func3, Tryz.ntmps3
  go_wp2_with fail
  refine (C1.out _).mono ?_
  rintro e w1 ⟨rfl, hb1⟩
  go_wp2_with fail
  refine (C2.out _).mono ?_
  rintro e w2 ⟨rfl, hb2⟩
  have h02 : Below w.heap.size w w2 := hb1.trans (hb2.mono hb1.size)
  go_wp2_with fail
  refine (CW.out _ h02).mono ?_
  rintro e w3 ⟨rfl, hb3⟩
  go_wp2
  go_ret
  exact ⟨rfl, h02.trans (hb3.mono h02.size)⟩
end Go.Proofs.YtobgdjjicgiefaaGreatDoor
