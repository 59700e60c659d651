/- The walks of values: same, compared, plain. The walks of value.Check and of what it calls. -/
import Derived.Test.YthbjheiogghjnaaGreatDoorProg
import Derived.WalkKit
import Derived.WalkLawsBesides
import Derived.Deep.QuietTactic
import Derived.BigQuiet
import Derived.Deep.RegionHeld3
import Derived.Handy
import Derived.Deep.Light
import Derived.Test.YthbjheiogghjnaaGreatDoorGMVal
namespace Go.Proofs.YthbjheiogghjnaaGreatDoor
open Go.RowKit Ieee
set_option maxRecDepth 100000

/-- two values, bit by bit -/
def sameB (k n k' n' : Int) (f f' : Nat) (s s' : ByteArray) : Bool := (k == k') && ((n == n') && ((((f : Int)) == (f' : Int)) && (s.toList == s'.toList)))

theorem run_fbits (f : Nat) (w : World) : (callFunc 51 #[.float .f64 f]).run Tryz.prog w = .ok (.value (.int .u64 f)) w := by
  rw [run_callFunc_extern (fn := Tryz.f51) (e := Extern.MathFloatBits.float64bits) Tryz.func51 (by kernel_rfl) (by kernel_rfl) (by kernel_rfl) (by kernel_rfl)]
  rfl

set_option maxHeartbeats 400000 in
theorem sameBits_any (f f' : Nat) (w : World) :
    Calls Tryz.prog 86 #[.float .f64 f, .float .f64 f'] w fun e w' => e = .returned (.bool ((f : Int) == (f' : Int))) ∧ w' = w := by
  have hb := run_fbits
  go_enter Tryz.func86, Tryz.ntmps86
  go_wp2
  go_ret
  exact ⟨rfl, rfl⟩

theorem bcell {W w1 : World} (hb : Below W.heap.size W w1) : (∀ b o, b < W.heap.size → w1.cell? ⟨b, o, none⟩ = W.cell? ⟨b, o, none⟩) ∧ (∀ b o, b < W.heap.size → w1.frozen? ⟨b, o, none⟩ = W.frozen? ⟨b, o, none⟩) :=
  ⟨fun b o h => hb.cell (p := ⟨b, o, none⟩) h, fun b o h => hb.frozen (p := ⟨b, o, none⟩) h⟩







set_option maxHeartbeats 400000 in
theorem risNaN_any (f : Nat) (w : World) :
    Calls Tryz.prog 54 #[.float .f64 f] w fun e w' => e = .returned (.bool (nanO f)) ∧ w' = w := by
  go_enter Tryz.func54, Tryz.ntmps54
  go_wp2
  go_ret
  exact ⟨rfl, rfl⟩

set_option maxHeartbeats 400000 in
theorem isNaN_any (f : Nat) (w : World) :
    Calls Tryz.prog 87 #[.float .f64 f] w fun e w' => e = .returned (.bool (nanB f)) ∧ w' = w := by
  have hb := run_fbits
  go_enter Tryz.func87, Tryz.ntmps87
  go_wp2
  go_ret
  exact ⟨rfl, rfl⟩







theorem run_store_float (w : World) (a : Addr) (k : FloatKind) (b : Nat) (m : Mode) : (store a (.float k b) m).run Tryz.prog w = stored Tryz.prog w a (.float k b) m := run_store Tryz.prog w a _ m rfl

theorem old_cell {w w1 : World} {b o : Nat} {v : Option Value} (hb : Below w.heap.size w w1) (hg : b < w.heap.size) (hc : w.cell? ⟨b, o, none⟩ = v) : w1.cell? ⟨b, o, none⟩ = v :=
  (hb.cell (p := ⟨b, o, none⟩) hg).trans hc











end Go.Proofs.YthbjheiogghjnaaGreatDoor

namespace Go.Proofs.YthbjheiogghjnaaGreatDoor
open Go.RowKit Ieee
set_option maxRecDepth 100000

set_option maxHeartbeats 400000 in
theorem kind_any (k : Int) (w : World) :
    Calls Tryz.prog 63 #[.int .i64 k] w fun e w' => e = .returned (.bool (kindB k)) ∧ w' = w := by
  go_enter Tryz.func63, Tryz.ntmps63
  go_wp2
  all_goals go_ret
  all_goals (refine ⟨?_, rfl⟩)
  all_goals (first | (simp [kindB, *]; done) | (simp [kindB]; omega))

set_option maxHeartbeats 400000 in
theorem num_any (k n : Int) (f : Nat) (s : ByteArray) (w : World) :
    Calls Tryz.prog 64 #[.agg #[.int .i64 k, .int .i64 n, .float .f64 f, .string s]] w fun e w' => e = .returned (.bool (numB k n)) ∧ Below w.heap.size w w' := by
  go_enter Tryz.func64, Tryz.ntmps64
  go_wp2
  all_goals go_ret
  all_goals (refine ⟨?_, by go_grown⟩)
  all_goals (simp [numB, *])

set_option maxHeartbeats 400000 in
theorem flo_any (k n : Int) (f : Nat) (s : ByteArray) (w : World) :
    Calls Tryz.prog 65 #[.agg #[.int .i64 k, .int .i64 n, .float .f64 f, .string s]] w fun e w' => e = .returned (.bool (floB k f)) ∧ Below w.heap.size w w' := by
  go_enter Tryz.func65, Tryz.ntmps65
  go_wp2_with (first | (go_at_call 86; refine (sameBits_any _ _ _).mono ?_; rintro e w' ⟨rfl, rfl⟩))
  all_goals go_ret
  all_goals (refine ⟨?_, by go_grown⟩)
  all_goals (simp [floB, *])

/-- one value's box -/
abbrev C1 (b : Nat) (k n : Int) (f : Nat) (s : ByteArray) (w' : World) : Prop :=
  w'.cell? ⟨b, 0, none⟩ = some (.int .i64 k) ∧ w'.cell? ⟨b, 1, none⟩ = some (.int .i64 n) ∧ w'.cell? ⟨b, 2, none⟩ = some (.float .f64 f) ∧ w'.cell? ⟨b, 3, none⟩ = some (.string s)
theorem c1_keep {b : Nat} {k n : Int} {f : Nat} {s : ByteArray} {B : Nat} {wp w' : World} (hb : Below B wp w') (hB : b < B) (h : C1 b k n f s wp) : C1 b k n f s w' := by
  obtain ⟨h1, h2, h3, h4⟩ := h
  have o : ∀ {o : Nat} {v : Option Value}, wp.cell? ⟨b, o, none⟩ = v → w'.cell? ⟨b, o, none⟩ = v := fun {o v} hc => (hb.cell (p := ⟨b, o, none⟩) hB).trans hc
  exact ⟨o h1, o h2, o h3, o h4⟩
theorem c1_new (w : World) (k n : Int) (f : Nat) (s : ByteArray) : C1 w.heap.size k n f s (w.alloc (.cells #[.int .i64 k, .int .i64 n, .float .f64 f, .string s] 38)) := by
  refine ⟨?_, ?_, ?_, ?_⟩ <;> simp [go_sem]

set_option maxHeartbeats 1000000 in
theorem check_any (k n : Int) (f : Nat) (s : ByteArray) (w : World) (hs : s.size ≤ maxLen)
    (hv : ∀ w1 : World, Below w.heap.size w w1 → Calls Tryz.prog 66 #[.agg #[.int .i64 k, .int .i64 n, .float .f64 f, .string s]] w1 fun e w' => e = .returned (.bool (strB k s)) ∧ Below w1.heap.size w1 w') :
    Calls Tryz.prog 43 #[.agg #[.int .i64 k, .int .i64 n, .float .f64 f, .string s]] w fun e w' => e = .returned (.int .i64 (chkV k n f s)) ∧ Below w.heap.size w w' := by
  unfold maxLen at hs
  have HV : Hid (∀ w1 : World, Below w.heap.size w w1 → _) := hv
  clear hv
  cases h1 : kindB k
  · go_enter Tryz.func43, Tryz.ntmps43
    go_wp2_with (first | (go_at_call 63; refine (kind_any _ _).mono ?_; rintro e w' ⟨rfl, rfl⟩))
    go_ret
    exact ⟨by simp [chkV, h1], by go_grown⟩
  cases h2 : numB k n
  · go_enter Tryz.func43, Tryz.ntmps43
    go_wp2_with (first | (go_at_call 63; refine (kind_any _ _).mono ?_; rintro e w' ⟨rfl, rfl⟩))
    refine (num_any _ _ _ _ _).mono ?_
    rintro e w1 ⟨rfl, hb1⟩
    have hz1 := hb1.size
    simp at hz1
    go_wp2
    go_ret
    exact ⟨by simp [chkV, h2], Below.trans (by go_grown) (hb1.mono (by simp))⟩
  cases h3 : floB k f
  · go_enter Tryz.func43, Tryz.ntmps43
    go_wp2_with (first | (go_at_call 63; refine (kind_any _ _).mono ?_; rintro e w' ⟨rfl, rfl⟩))
    refine (num_any _ _ _ _ _).mono ?_
    rintro e w1 ⟨rfl, hb1⟩
    have hz1 := hb1.size
    simp at hz1
    have C := c1_keep hb1 (by simp) (c1_new w k n f s)
    obtain ⟨x1, x2, x3, x4⟩ := C
    go_wp2_with fail
    refine (flo_any _ _ _ _ _).mono ?_
    rintro e w2 ⟨rfl, hb2⟩
    have hz2 := hb2.size
    have B2 : Hid (Below w.heap.size w w2) := Below.trans (Below.trans (by go_grown) (hb1.mono (by simp))) (hb2.mono (by omega))
    go_wp2
    go_ret
    exact ⟨by simp [chkV, h3], B2.out⟩
  cases h4 : strB k s
  · go_enter Tryz.func43, Tryz.ntmps43
    go_wp2_with (first | (go_at_call 63; refine (kind_any _ _).mono ?_; rintro e w' ⟨rfl, rfl⟩))
    refine (num_any _ _ _ _ _).mono ?_
    rintro e w1 ⟨rfl, hb1⟩
    have hz1 := hb1.size
    simp at hz1
    have C := c1_keep hb1 (by simp) (c1_new w k n f s)
    obtain ⟨x1, x2, x3, x4⟩ := C
    go_wp2_with fail
    refine (flo_any _ _ _ _ _).mono ?_
    rintro e w2 ⟨rfl, hb2⟩
    have hz2 := hb2.size
    have B2 : Hid (Below w.heap.size w w2) := Below.trans (Below.trans (by go_grown) (hb1.mono (by simp))) (hb2.mono (by omega))
    obtain ⟨x1, x2, x3, x4⟩ := c1_keep hb2 (by omega) ⟨x1, x2, x3, x4⟩
    go_wp2_with fail
    refine (HV.out _ B2.out).mono ?_
    rintro e w3 ⟨rfl, hb3⟩
    have hz3 := hb3.size
    obtain ⟨x1, x2, x3, x4⟩ := c1_keep hb3 (by omega) ⟨x1, x2, x3, x4⟩
    have B3 : Hid (Below w.heap.size w w3) := B2.out.trans (hb3.mono (by omega))
    go_wp2
    go_ret
    exact ⟨by simp [chkV, h4], B3.out⟩
  by_cases h5 : (65536 : Int) < (s.size : Int)
  · go_enter Tryz.func43, Tryz.ntmps43
    go_wp2_with (first | (go_at_call 63; refine (kind_any _ _).mono ?_; rintro e w' ⟨rfl, rfl⟩))
    refine (num_any _ _ _ _ _).mono ?_
    rintro e w1 ⟨rfl, hb1⟩
    have hz1 := hb1.size
    simp at hz1
    have C := c1_keep hb1 (by simp) (c1_new w k n f s)
    obtain ⟨x1, x2, x3, x4⟩ := C
    go_wp2_with fail
    refine (flo_any _ _ _ _ _).mono ?_
    rintro e w2 ⟨rfl, hb2⟩
    have hz2 := hb2.size
    have B2 : Hid (Below w.heap.size w w2) := Below.trans (Below.trans (by go_grown) (hb1.mono (by simp))) (hb2.mono (by omega))
    obtain ⟨x1, x2, x3, x4⟩ := c1_keep hb2 (by omega) ⟨x1, x2, x3, x4⟩
    go_wp2_with fail
    refine (HV.out _ B2.out).mono ?_
    rintro e w3 ⟨rfl, hb3⟩
    have hz3 := hb3.size
    obtain ⟨x1, x2, x3, x4⟩ := c1_keep hb3 (by omega) ⟨x1, x2, x3, x4⟩
    have B3 : Hid (Below w.heap.size w w3) := B2.out.trans (hb3.mono (by omega))
    go_wp2
    go_ret
    exact ⟨by simp [chkV, h1, h2, h3, h4, h5], B3.out⟩
  · go_enter Tryz.func43, Tryz.ntmps43
    go_wp2_with (first | (go_at_call 63; refine (kind_any _ _).mono ?_; rintro e w' ⟨rfl, rfl⟩))
    refine (num_any _ _ _ _ _).mono ?_
    rintro e w1 ⟨rfl, hb1⟩
    have hz1 := hb1.size
    simp at hz1
    have C := c1_keep hb1 (by simp) (c1_new w k n f s)
    obtain ⟨x1, x2, x3, x4⟩ := C
    go_wp2_with fail
    refine (flo_any _ _ _ _ _).mono ?_
    rintro e w2 ⟨rfl, hb2⟩
    have hz2 := hb2.size
    have B2 : Hid (Below w.heap.size w w2) := Below.trans (Below.trans (by go_grown) (hb1.mono (by simp))) (hb2.mono (by omega))
    obtain ⟨x1, x2, x3, x4⟩ := c1_keep hb2 (by omega) ⟨x1, x2, x3, x4⟩
    go_wp2_with fail
    refine (HV.out _ B2.out).mono ?_
    rintro e w3 ⟨rfl, hb3⟩
    have hz3 := hb3.size
    obtain ⟨x1, x2, x3, x4⟩ := c1_keep hb3 (by omega) ⟨x1, x2, x3, x4⟩
    have B3 : Hid (Below w.heap.size w w3) := B2.out.trans (hb3.mono (by omega))
    go_wp2
    go_ret
    exact ⟨by simp [chkV, h1, h2, h3, h4, h5], B3.out⟩

end Go.Proofs.YthbjheiogghjnaaGreatDoor
