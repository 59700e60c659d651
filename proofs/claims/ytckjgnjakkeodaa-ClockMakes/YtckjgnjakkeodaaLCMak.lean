/- The law of Makes. -/
import Derived.Test.YtckjgnjakkeodaaWClkE
namespace Go.Proofs.Ytckjgnjakkeodaa
open Go.RowKit
set_option maxRecDepth 100000

set_option maxHeartbeats 4000000 in
theorem lawMakes (n : Nat) (w : World) : Calls Try.prog 3 #[.int .u64 (n : Int)] w fun e w' => e = .returned (.bool true) ∧ Below w.heap.size w w' := by
  by_cases hn : n ≤ 4611686018427387904
  · have C1 : Hid (Calls _ _ _ _ _) := newE n w hn
    go_enter Try.func3, Try.ntmps3
    go_wp2_with fail
    refine C1.out.mono ?_
    rintro e w1 ⟨b, rfl, hC, hb, hB⟩
    have HB : Hid (Below _ _ _) := hB
    have HC : Hid (ClkE _ _ _ _) := hC
    have C2 : Hid (Calls _ _ _ _ _) := rnew_ok n w1 hn
    clear C1 hC hB
    go_wp2_with fail
    refine C2.out.mono ?_
    rintro e w2 ⟨rfl, hB2⟩
    have hbl := HC.out.lt
    have HB2 : Hid (Below w.heap.size w w2) := HB.out.trans (hB2.mono HB.out.size)
    have HC2 : Hid (ClkE w2 b n []) := HC.out.keep hB2 hbl
    have hsz : w1.heap.size ≤ w2.heap.size := hB2.size
    have hsz0 : w.heap.size ≤ w2.heap.size := HB2.out.size
    clear C2 hB2 HC HB
    unfold clkV
    have HC3 : Hid (ClkE (w2.alloc (.cells #[.int .u64 n, .int .u64 n, .slice none 0 0] 29)) b n []) := HC2.out.keep ((Below.refl _ _).alloc (Nat.le_refl _) _) (by omega)
    have C3 : Hid (True → Calls _ _ _ _ _) := fun _ => is_any b n n [] (.slice none 0 0) _ HC3.out (.inl ⟨rfl, rfl⟩)
    have C4 : Hid (∀ w', Calls _ _ _ _ _) := fun w' => awake_any w'
    unfold clkV at C3
    go_wp2_with fail
    refine (C3.out trivial).mono ?_
    rintro e w4 ⟨rfl, _, hG4⟩
    have HB4 : Hid (Below w.heap.size w w4) := below_own (HB2.out.alloc hsz0 _) hG4 hb
    clear hG4
    go_wp2_with fail
    refine (C4.out w4).mono ?_
    rintro e w5 ⟨rfl, hB5⟩
    go_wp2_with fail
    go_ret
    exact ⟨rfl, HB4.out.trans (hB5.mono HB4.out.size)⟩
  · have C1 : Hid (Calls _ _ _ _ _) := new_bad (n : Int) w (by omega)
    have C2 : Hid (Calls _ _ _ _ _) := rnew_bad n w (by omega)
    have C4 : Hid (∀ w', Calls _ _ _ _ _) := fun w' => awake_any w'
    unfold clkV at C2
    clear hn
    go_enter Try.func3, Try.ntmps3
    go_wp2_with fail
    refine C1.out.mono ?_
    rintro e w1 ⟨rfl, hw⟩
    rw [hw]
    clear hw
    go_wp2_with fail
    refine C2.out.mono ?_
    rintro e w2 ⟨rfl, hB2⟩
    have HB2 : Hid (Below _ _ _) := hB2
    clear hB2
    go_wp2_with fail
    have hz := HB2.out.size
    refine (C4.out _).mono ?_
    rintro e w5 ⟨rfl, hB5⟩
    go_wp2_with fail
    go_ret
    have hB3 : Below w.heap.size w (w2.alloc (.cells #[.int .u64 0, .int .u64 0, .slice none 0 0] 29)) := HB2.out.alloc hz _
    exact ⟨rfl, hB3.trans (hB5.mono hB3.size)⟩
end Go.Proofs.Ytckjgnjakkeodaa
