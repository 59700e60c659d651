/- The walk of the cast of an int to a float. -/
import Derived.Test.YtcjieoomdhkleaaGreatDoorWAwake
namespace Go.Proofs.YtcjieoomdhkleaaGreatDoor
open Go.RowKit
set_option maxRecDepth 100000

set_option maxHeartbeats 1000000 in
theorem castTo_int (n : Int) (w : World) :
    Calls Tryz.prog 39 #[.agg #[.int .i64 2, .int .i64 n, .float .f64 0, .string ⟨#[]⟩], .int .i64 3] w fun e w' => e = .returned (.tuple #[.agg #[.int .i64 3, .int .i64 0, .float .f64 (floatOfInt .f64 n), .string ⟨#[]⟩], .bool true]) ∧ Below w.heap.size w w' := by
  have hsf := run_store_float
  go_enter Tryz.func39, Tryz.ntmps39
  go_wp2
  go_returns
  exact ⟨rfl, by go_grown⟩

/-- a value's zero cells, and that they can be written -/
abbrev Z4 (b : Nat) (w : World) : Prop :=
  (w.cell? ⟨b, 0, none⟩ = some (.int .i64 0) ∧ w.cell? ⟨b, 1, none⟩ = some (.int .i64 0) ∧ w.cell? ⟨b, 2, none⟩ = some (.float .f64 0) ∧ w.cell? ⟨b, 3, none⟩ = some (.string ⟨#[]⟩)) ∧
  (w.frozen? ⟨b, 0, none⟩ = false ∧ w.frozen? ⟨b, 1, none⟩ = false ∧ w.frozen? ⟨b, 2, none⟩ = false ∧ w.frozen? ⟨b, 3, none⟩ = false)
theorem z4_keep {b B : Nat} {wp w' : World} (hb : Below B wp w') (hB : b < B) (h : Z4 b wp) : Z4 b w' := by
  obtain ⟨⟨h1, h2, h3, h4⟩, ⟨f1, f2, f3, f4⟩⟩ := h
  have o : ∀ {o : Nat} {v : Option Value}, wp.cell? ⟨b, o, none⟩ = v → w'.cell? ⟨b, o, none⟩ = v := fun {o v} hc => (hb.cell (p := ⟨b, o, none⟩) hB).trans hc
  have q : ∀ {o : Nat}, wp.frozen? ⟨b, o, none⟩ = false → w'.frozen? ⟨b, o, none⟩ = false := fun {o} hc => (hb.frozen (p := ⟨b, o, none⟩) hB).trans hc
  exact ⟨⟨o h1, o h2, o h3, o h4⟩, ⟨q f1, q f2, q f3, q f4⟩⟩
theorem z4_new (w : World) : Z4 w.heap.size (w.alloc (.cells #[.int .i64 0, .int .i64 0, .float .f64 0, .string ⟨#[]⟩] 24)) := by
  refine ⟨⟨?_, ?_, ?_, ?_⟩, ⟨?_, ?_, ?_, ?_⟩⟩ <;> simp [go_sem]

set_option maxHeartbeats 1000000 in
theorem cast_int (n : Int) (w : World) :
    Calls Tryz.prog 19 #[.agg #[.int .i64 2, .int .i64 n, .float .f64 0, .string ⟨#[]⟩], .int .i64 3] w fun e w' => e = .returned (.tuple #[.agg #[.int .i64 3, .int .i64 0, .float .f64 (floatOfInt .f64 n), .string ⟨#[]⟩], .int .i64 0]) ∧ Below w.heap.size w w' := by
  have hsf := run_store_float
  go_enter Tryz.func19, Tryz.ntmps19
  go_wp2_with (first | (go_at_call 20; go_in))
  refine (check_int _ _).mono ?_
  rintro e w1 ⟨rfl, hb1⟩
  have hz1 := hb1.size
  simp at hz1
  have zz := z4_keep hb1 (by simp) (z4_new (w.alloc (.cells #[.int .i64 2, .int .i64 n, .float .f64 0, .string ⟨#[]⟩] 24)))
  simp only [World.size_alloc] at zz
  have ZZ : Hid (Z4 (w.heap.size + 1) w1) := zz
  clear zz
  obtain ⟨hc1, hf1⟩ := bcell hb1
  go_wp2_with fail
  refine (castTo_int _ _).mono ?_
  rintro e w2 ⟨rfl, hb2⟩
  have hz2 := hb2.size
  have B2 : Hid (Below w.heap.size w w2) := Below.trans (Below.trans (by go_grown) (hb1.mono (by simp; omega))) (hb2.mono (by omega))
  obtain ⟨⟨h1, h2, h3, h4⟩, ⟨f1, f2, f3, f4⟩⟩ := z4_keep (hb2.trans ((Below.refl w2.heap.size w2).alloc (Nat.le_refl _) (.cells #[.int .i64 3, .int .i64 0, .float .f64 (floatOfInt .f64 n), .string ⟨#[]⟩] 24) |>.mono hz2)) (by omega) ZZ.out
  clear hc1 hf1
  go_wp2
  refine bodyPost_ret (v := .tuple #[.agg #[.int .i64 3, .int .i64 0, .float .f64 (floatOfInt .f64 n), .string ⟨#[]⟩], .int .i64 0]) (by simp [results, Tryz.results19, go_sem, h1, h2, h3, h4]) rfl ⟨rfl, ?_⟩
  refine B2.out.trans ?_
  have zs := B2.out.size
  refine (((Below.setCell ?_ ?_ _).setCell ?_ _).setCell ?_ _).setCell ?_ _
  · exact (Below.refl _ _).alloc zs _
  all_goals show w.heap.size ≤ w.heap.size + 1
  all_goals omega
end Go.Proofs.YtcjieoomdhkleaaGreatDoor
