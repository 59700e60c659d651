/- The walk of the look whether the layer answers at all. -/
import Derived.Test.YtcjieoomdhkleabGreatDoorWVal
import Derived.Test.YtcjieoomdhkleabGreatDoorWInt
namespace Go.Proofs.YtcjieoomdhkleabGreatDoor
open Go.RowKit
set_option maxRecDepth 100000

theorem run_store_float (w : World) (a : Addr) (k : FloatKind) (b : Nat) (m : Mode) : (store a (.float k b) m).run Tryz.prog w = stored Tryz.prog w a (.float k b) m := run_store Tryz.prog w a _ m rfl

set_option maxHeartbeats 400000 in
theorem int_any (n : Int) (w : World) :
    Calls Tryz.prog 29 #[.int .i64 n] w fun e w' => e = .returned (.agg #[.int .i64 2, .int .i64 n, .float .f64 0, .string ⟨#[]⟩]) ∧ Below w.heap.size w w' := by
  have hsf := run_store_float
  go_enter Tryz.func29, Tryz.ntmps29
  go_wp2
  go_returns
  exact ⟨rfl, by go_grown⟩

set_option maxHeartbeats 400000 in
theorem float_any (f : Nat) (w : World) :
    Calls Tryz.prog 31 #[.float .f64 f] w fun e w' => e = .returned (.agg #[.int .i64 3, .int .i64 0, .float .f64 f, .string ⟨#[]⟩]) ∧ Below w.heap.size w w' := by
  have hsf := run_store_float
  go_enter Tryz.func31, Tryz.ntmps31
  go_wp2
  go_returns
  exact ⟨rfl, by go_grown⟩

set_option maxHeartbeats 1000000 in
theorem check_int (n : Int) (w : World) :
    Calls Tryz.prog 22 #[.agg #[.int .i64 2, .int .i64 n, .float .f64 0, .string ⟨#[]⟩]] w fun e w' => e = .returned (.int .i64 0) ∧ Below w.heap.size w w' := by
  have hb := run_fbits
  go_enter Tryz.func22, Tryz.ntmps22
  go_wp2
  go_ret
  exact ⟨rfl, by go_grown⟩

set_option maxHeartbeats 1000000 in
theorem textFrom7 (w : World) (hg : 4 < w.heap.size) (hc : w.cell? ⟨4, 0, none⟩ = some (.int .u64 1)) :
    Calls Tryz.prog 40 #[.agg #[.int .i64 2, .int .i64 (-7), .float .f64 0, .string ⟨#[]⟩]] w fun e w' => e = .returned (.string ⟨#[45, 55]⟩) ∧ Below w.heap.size w w' := by
  go_enter Tryz.func40, Tryz.ntmps40
  go_wp2_with (first | (go_at_call 41; go_in))
  refine (formatInt7 _ ?_ ?_).mono ?_
  · simp; omega
  · exact old_cell (by go_grown) hg hc
  rintro e w' ⟨rfl, hb⟩
  go_wp2
  go_ret
  exact ⟨rfl, (Below.trans (by go_grown) (hb.mono (by simp)))⟩

set_option maxHeartbeats 1000000 in
theorem text7 (w : World) (hg : 4 < w.heap.size) (hc : w.cell? ⟨4, 0, none⟩ = some (.int .u64 1)) :
    Calls Tryz.prog 16 #[.agg #[.int .i64 2, .int .i64 (-7), .float .f64 0, .string ⟨#[]⟩]] w fun e w' => e = .returned (.tuple #[.string ⟨#[45, 55]⟩, .int .i64 0]) ∧ Below w.heap.size w w' := by
  go_enter Tryz.func16, Tryz.ntmps16
  go_wp2_with fail
  refine (check_int _ _).mono ?_
  rintro e w1 ⟨rfl, hb1⟩
  obtain ⟨hc1, hf1⟩ := bcell hb1
  have hz1 := hb1.size
  simp at hz1
  go_wp2_with fail
  refine (textFrom7 _ (by omega) ?_).mono ?_
  · exact old_cell hb1 (by simp; omega) (old_cell (by go_grown) hg hc)
  rintro e w2 ⟨rfl, hb2⟩
  go_wp2
  go_ret2
  exact ⟨rfl, (Below.trans (by go_grown) ((hb1.mono (by simp)).trans (hb2.mono (by omega))))⟩


/-- compareIntFloat where the float lies among the ints -/
def cifM (n m : Int) (f : Nat) : Int := if n != m then cmpI n m else cmpG (floatOfInt .f64 m) f

set_option maxHeartbeats 1000000 in
theorem cif_mid (n m : Int) (f : Nat) (w : World) (h1 : nanB f = false) (h2 : FloatKind.f64.format.order f 4890909195324358656 = some .lt) (h3 : (FloatKind.f64.format.order f 14114281232179134464 == some .lt) = false) (h4 : floatToIntVal .f64 f .i64 = some m) :
    Calls Tryz.prog 55 #[.int .i64 n, .float .f64 f] w fun e w' => e = .returned (.int .i64 (cifM n m f)) ∧ w' = w := by
  have hc := fun w : World => run_convert_float_int (P := Tryz.prog) w 22 2 .f64 .i64 f m (by kernel_rfl) Tryz.underlying2 h4
  clear h4
  cases h5 : (n != m)
  all_goals
    go_enter Tryz.func55, Tryz.ntmps55
    go_wp2_with (first | (go_at_call 56; refine (isNaN_any _ _).mono ?_; rintro e w' ⟨rfl, rfl⟩) | (go_at_call 36; refine (cmpInt64_any _ _ _).mono ?_; rintro e w' ⟨rfl, rfl⟩) | (go_at_call 61; refine (cmpG_any _ _ _).mono ?_; rintro e w' ⟨rfl, rfl⟩))
    go_ret
    exact ⟨by simp [cifM, h5], rfl⟩

set_option maxHeartbeats 1000000 in
theorem numbers1 (w : World) :
    Calls Tryz.prog 30 #[.agg #[.int .i64 2, .int .i64 1, .float .f64 0, .string ⟨#[]⟩], .agg #[.int .i64 3, .int .i64 0, .float .f64 4609434218613702656, .string ⟨#[]⟩]] w fun e w' => e = .returned (.tuple #[.int .i64 (-1), .bool true]) ∧ Below w.heap.size w w' := by
  have k : cifM 1 1 4609434218613702656 = -1 := by kernel_rfl
  go_enter Tryz.func30, Tryz.ntmps30
  go_wp2_with (first | (go_at_call 54; go_in) | (go_at_call 55; refine (cif_mid _ 1 _ _ (by kernel_rfl) (by kernel_rfl) (by kernel_rfl) (by kernel_rfl)).mono ?_; rintro e w' ⟨rfl, rfl⟩))
  go_ret2
  exact ⟨rfl, by go_grown⟩
end Go.Proofs.YtcjieoomdhkleabGreatDoor
