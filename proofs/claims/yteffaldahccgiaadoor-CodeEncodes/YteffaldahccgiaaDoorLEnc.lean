/- The walk of the statement on Encode: it answers true. -/
import Derived.Test.YteffaldahccgiaaDoorWRef4
import Derived.Test.YteffaldahccgiaaDoorWAwake
namespace Go.Proofs.YteffaldahccgiaaDoor
open Go.RowKit Ieee
set_option maxRecDepth 100000

set_option maxHeartbeats 1000000 in
theorem lawEncodes (L : List Vl) (p : Option Addr) (c : Nat) (w : World) (hR : RowV w w.heap.size p L) (hok : ∀ v ∈ L, v.ok) (hlen : L.length ≤ 3518437208784) (hg : 2 < w.heap.size) (hT : Lib.Utf8Tabs 1 2 w) :
    Calls Tryd.prog 3 #[.slice p L.length c] w fun e w' => e = .returned (.bool true) ∧ Below w.heap.size w w' := by
  have C1 : Hid (∀ w1 : World, Below w.heap.size w w1 → _) := fun w1 hb => encode_any L p c w1 ((hR.keep hb).mono hb.size) hok hlen (by have := hb.size; omega) (tabs_keep hb hg hT)
  have C2 : Hid (∀ w1 : World, Below w.heap.size w w1 → _) := fun w1 hb => rencode_any L p c w1 ((hR.keep hb).mono hb.size) hok hlen (by have := hb.size; omega) (tabs_keep hb hg hT)
  have C3 : Hid (∀ w1 : World, Below w.heap.size w w1 → _) := fun w1 hb => awake_any w1 (by have := hb.size; omega) (tabs_keep hb hg hT)
  generalize (encS L).1.toArray = r1 at *
  generalize (encS L).2 = r2 at *
  generalize L.length = n at *
  clear hR hok hT
  go_enter Tryd.func3, Tryd.ntmps3
  go_wp2_with (first | (go_at_call 9; refine (C1.out _ (Below.refl _ _)).mono ?_; rintro e w1 ⟨rfl, hb1⟩) | (go_at_call 10; refine (C2.out _ hb1).mono ?_; rintro e w2 ⟨rfl, hb2⟩) | (go_at_call 11; refine (C3.out _ (hb1.trans (hb2.mono hb1.size))).mono ?_; rintro e w3 ⟨rfl, hb3⟩))
  go_ret
  exact ⟨rfl, (hb1.trans (hb2.mono hb1.size)).trans (hb3.mono (Nat.le_trans hb1.size hb2.size))⟩
end Go.Proofs.YteffaldahccgiaaDoor
