/- ChainAsks: the law's walk. -/
import Derived.Test.YteddpogjpohacaaWAwk8
import Derived.Test.YteddpogjpohacaaWChk8
import Derived.Test.YteddpogjpohacaaWMay8
import Derived.Test.YteddpogjpohacaaWLif8
import Derived.Test.YteddpogjpohacaaWQuiet
namespace Go.Proofs.Yteddpogjpohacaa
open Go.RowKit
set_option maxRecDepth 100000

set_option maxHeartbeats 4000000 in
theorem lawAsks (L : List Rw) (p : Option Addr) (c : Nat) (x s t : Int) (w : World) (hR : RdR .u64 w w.heap.size p L) (hlen : L.length ≤ 17592186043904) :
    Calls Try.prog 3 #[.slice p L.length c, .int .i64 x, .agg #[.int .u64 s, .int .u64 t]] w fun e w' => e = .returned (.bool true) ∧ Below w.heap.size w w' := by
  have HR : Hid (∀ w1, Below w.heap.size w w1 → RdR .u64 w1 w1.heap.size p L) := fun w1 h => hR.on h
  clear hR
  have CA : Hid (∀ w1 : World, Calls Try.prog 12 #[] w1 fun e w' => e = .returned (.bool true) ∧ Below w1.heap.size w1 w') := awake_any
  have C1 : Hid (∀ w1, Below w.heap.size w w1 → Calls Try.prog 9 #[.slice p L.length c] w1 fun e w' => e = .returned (.int .i64 (chkL L)) ∧ Below w1.heap.size w1 w') := fun w1 h => check_any L p c w1 (HR.out w1 h) hlen
  have C2 : Hid (∀ w1, Below w.heap.size w w1 → Calls Try.prog 10 #[.slice p L.length c] w1 fun e w' => e = .returned (.int .i64 (chkL L)) ∧ Below w1.heap.size w1 w') := fun w1 h => rcheck_any L p c w1 (HR.out w1 h) hlen
  have C3 : Hid (∀ w1, Below w.heap.size w w1 → Calls Try.prog 11 #[.slice p L.length c] w1 fun e w' => e = .returned (.bool (mayL L)) ∧ Below w1.heap.size w1 w') := fun w1 h => may_any L p c w1 (HR.out w1 h) hlen
  have C4 : Hid (∀ w1, Below w.heap.size w w1 → Calls Try.prog 13 #[.slice p L.length c, .int .i64 x] w1 fun e w' => e = .returned (.tuple #[.int .u64 (lifeA L x), .int .u64 (lifeB L x), .int .i64 (lifeE L x)]) ∧ Below w1.heap.size w1 w') := fun w1 h => life_any L p c x w1 (HR.out w1 h) hlen
  have C5 : Hid (∀ w1, Below w.heap.size w w1 → Calls Try.prog 14 #[.slice p L.length c, .int .i64 x] w1 fun e w' => e = .returned (.tuple #[.int .u64 (lifeA L x), .int .u64 (lifeB L x), .int .i64 (lifeE L x)]) ∧ Below w1.heap.size w1 w') := fun w1 h => rlife_any L p c x w1 (HR.out w1 h) hlen
  have C6 : Hid (∀ w1, Below w.heap.size w w1 → Calls Try.prog 15 #[.slice p L.length c, .int .u64 s] w1 fun e w' => e = .returned (.int .i64 (atI L s)) ∧ Below w1.heap.size w1 w') := fun w1 h => at_any L p c s w1 (HR.out w1 h) hlen
  have C7 : Hid (∀ w1, Below w.heap.size w w1 → Calls Try.prog 16 #[.slice p L.length c, .int .u64 s] w1 fun e w' => e = .returned (.int .i64 (atI L s)) ∧ Below w1.heap.size w1 w') := fun w1 h => rat_any L p c s w1 (HR.out w1 h) hlen
  have C8 : Hid (∀ w1, Below w.heap.size w w1 → Calls Try.prog 17 #[.slice p L.length c, .int .u64 s, .int .u64 t] w1 fun e w' => e = .returned (.bool (chgdL L s t)) ∧ Below w1.heap.size w1 w') := fun w1 h => changed_any L p c s t w1 (HR.out w1 h) hlen
  have C9 : Hid (∀ w1, Below w.heap.size w w1 → Calls Try.prog 18 #[.slice p L.length c, .int .u64 s, .int .u64 t] w1 fun e w' => e = .returned (.bool (chgdL L s t)) ∧ Below w1.heap.size w1 w') := fun w1 h => rchanged_any L p c s t w1 (HR.out w1 h) hlen
  generalize chkL L = r1 at *
  generalize mayL L = r2 at *
  generalize lifeA L x = r3 at *
  generalize lifeB L x = r4 at *
  generalize lifeE L x = r5 at *
  generalize atI L s = r6 at *
  generalize chgdL L s t = r7 at *
  go_enter Try.func3, Try.ntmps3
  go_wp2_with fail
  have B0 : Hid (Below w.heap.size w (w.alloc (.cells #[.int .u64 s, .int .u64 t] 24))) := by
    show Below _ _ _
    go_grown
  have k0 : (w.alloc (.cells #[.int .u64 s, .int .u64 t] 24)).cell? ⟨w.heap.size, 0, none⟩ = some (.int .u64 s) := by simp [go_sem]
  have k1 : (w.alloc (.cells #[.int .u64 s, .int .u64 t] 24)).cell? ⟨w.heap.size, 1, none⟩ = some (.int .u64 t) := by simp [go_sem]
  have hk : w.heap.size < (w.alloc (.cells #[.int .u64 s, .int .u64 t] 24)).heap.size := by simp [go_sem]
  generalize w.alloc (.cells #[.int .u64 s, .int .u64 t] 24) = wa at *
  refine (C1.out _ B0.out).mono ?_
  rintro e w1 ⟨rfl, hb1⟩
  have B1 : Hid (Below w.heap.size w w1) := B0.out.trans (hb1.mono B0.out.size)
  have HW1 : Hid (Below wa.heap.size wa w1) := hb1
  clear hb1 B0
  go_wp2_with fail
  refine (C2.out _ B1.out).mono ?_
  rintro e w2 ⟨rfl, hb2⟩
  have B2 : Hid (Below w.heap.size w w2) := B1.out.trans (hb2.mono B1.out.size)
  have HW2 : Hid (Below wa.heap.size wa w2) := HW1.out.trans (hb2.mono HW1.out.size)
  clear hb2 B1 HW1
  go_wp2_with fail
  refine (C3.out _ B2.out).mono ?_
  rintro e w3 ⟨rfl, hb3⟩
  have B3 : Hid (Below w.heap.size w w3) := B2.out.trans (hb3.mono B2.out.size)
  have HW3 : Hid (Below wa.heap.size wa w3) := HW2.out.trans (hb3.mono HW2.out.size)
  clear hb3 B2 HW2
  cases r2
  · go_wp2_with fail
    refine (CA.out _).mono ?_
    rintro e w4 ⟨rfl, hb4⟩
    have B4 : Hid (Below w.heap.size w w4) := B3.out.trans (hb4.mono B3.out.size)
    clear hb4
    go_wp2_with fail
    go_ret
    exact ⟨rfl, B4.out⟩
  go_wp2_with fail
  refine (C4.out _ B3.out).mono ?_
  rintro e w4 ⟨rfl, hb4⟩
  have B4 : Hid (Below w.heap.size w w4) := B3.out.trans (hb4.mono B3.out.size)
  have HW4 : Hid (Below wa.heap.size wa w4) := HW3.out.trans (hb4.mono HW3.out.size)
  clear hb4 B3 HW3
  go_wp2_with fail
  refine (C5.out _ B4.out).mono ?_
  rintro e w5 ⟨rfl, hb5⟩
  have B5 : Hid (Below w.heap.size w w5) := B4.out.trans (hb5.mono B4.out.size)
  have HW5 : Hid (Below wa.heap.size wa w5) := HW4.out.trans (hb5.mono HW4.out.size)
  clear hb5 B4 HW4
  have k0' := InB.cell (w := w5) ((HW5.out.cell (p := ⟨w.heap.size, 0, none⟩) hk).trans k0) (Nat.lt_of_lt_of_le hk HW5.out.size)
  have k1' := InB.cell (w := w5) ((HW5.out.cell (p := ⟨w.heap.size, 1, none⟩) hk).trans k1) (Nat.lt_of_lt_of_le hk HW5.out.size)
  have BX : Hid (∀ y : InB w5, Below w.heap.size w y.w') := fun y => B5.out.trans (y.h.mono B5.out.size)
  clear k0 k1 hk HW5
  have ne5 := inB_ne w5
  go_wp2_with fail
  refine wp_region_inB (by kernel_rfl) (by kernel_rfl) ?_
  repeat (go_big_quiet_step (first
    | (go_at_call 15; exact Calls.inB (C6.out _ (BX.out _)))
    | (go_at_call 16; exact Calls.inB (C7.out _ (BX.out _)))
    | (go_at_call 17; exact Calls.inB (C8.out _ (BX.out _)))
    | (go_at_call 18; exact Calls.inB (C9.out _ (BX.out _)))
    | (go_at_call 12; exact Calls.inB (CA.out _))))
  refine wpQuiet_nil ?_
  rintro _ ⟨⟨w6, hb6⟩, rfl⟩
  go_wp2_with fail
  go_ret
  exact ⟨rfl, B5.out.trans (hb6.mono B5.out.size)⟩
end Go.Proofs.Yteddpogjpohacaa
