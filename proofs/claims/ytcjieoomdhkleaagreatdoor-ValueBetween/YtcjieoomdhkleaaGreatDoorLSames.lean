/- The walk of the statement on Same: it answers true. -/
import Derived.Test.YtcjieoomdhkleaaGreatDoorWAwake2
namespace Go.Proofs.YtcjieoomdhkleaaGreatDoor
open Go.RowKit
set_option maxRecDepth 100000

/-- what is held while a law over two values is walked: the two boxes, the table's first number, what was there before -/
abbrev S2 (w : World) (k n k' n' : Int) (f f' : Nat) (s s' : ByteArray) (w' : World) : Prop :=
  w'.cell? ⟨w.heap.size, 0, none⟩ = some (.int .i64 k) ∧ w'.cell? ⟨w.heap.size, 1, none⟩ = some (.int .i64 n) ∧ w'.cell? ⟨w.heap.size, 2, none⟩ = some (.float .f64 f) ∧ w'.cell? ⟨w.heap.size, 3, none⟩ = some (.string s) ∧
  w'.cell? ⟨w.heap.size + 1, 0, none⟩ = some (.int .i64 k') ∧ w'.cell? ⟨w.heap.size + 1, 1, none⟩ = some (.int .i64 n') ∧ w'.cell? ⟨w.heap.size + 1, 2, none⟩ = some (.float .f64 f') ∧ w'.cell? ⟨w.heap.size + 1, 3, none⟩ = some (.string s') ∧
  w'.cell? ⟨4, 0, none⟩ = some (.int .u64 1) ∧ 4 < w.heap.size ∧ w.heap.size + 2 ≤ w'.heap.size ∧ Below w.heap.size w w'

theorem keepS2 {w : World} {k n k' n' : Int} {f f' : Nat} {s s' : ByteArray} {B : Nat} {wp w' : World} (hb : Below B wp w') (h : S2 w k n k' n' f f' s s' wp) (hB : B = wp.heap.size ∨ w.heap.size + 2 ≤ B) : S2 w k n k' n' f f' s s' w' := by
  obtain ⟨h1, h2, h3, h4, h5, h6, h7, h8, h9, hg, hz, hw⟩ := h
  have := hb.size
  have hk : w.heap.size + 2 ≤ B := by omega
  have o : ∀ {b o : Nat} {v : Option Value}, b < w.heap.size + 2 → wp.cell? ⟨b, o, none⟩ = v → w'.cell? ⟨b, o, none⟩ = v := fun {b o v} hb' hc => (hb.cell (p := ⟨b, o, none⟩) (by show b < B; omega)).trans hc
  exact ⟨o (by omega) h1, o (by omega) h2, o (by omega) h3, o (by omega) h4, o (by omega) h5, o (by omega) h6, o (by omega) h7, o (by omega) h8, o (by omega) h9, hg, by omega, hw.trans (hb.mono (by omega))⟩

theorem startS2 (w : World) (k n k' n' : Int) (f f' : Nat) (s s' : ByteArray) (hg : 4 < w.heap.size) (hc : w.cell? ⟨4, 0, none⟩ = some (.int .u64 1)) :
    S2 w k n k' n' f f' s s' ((w.alloc (.cells #[.int .i64 k, .int .i64 n, .float .f64 f, .string s] 24)).alloc (.cells #[.int .i64 k', .int .i64 n', .float .f64 f', .string s'] 24)).drew := by
  refine ⟨?_, ?_, ?_, ?_, ?_, ?_, ?_, ?_, old_cell (by go_grown) hg hc, hg, by simp, by go_grown⟩
  all_goals simp [go_sem]

theorem awakeS2 (w : World) (k n k' n' : Int) (f f' : Nat) (s s' : ByteArray) (wp : World) (h : S2 w k n k' n' f f' s s' wp) :
    Calls Tryz.prog 11 #[] wp fun e w' => e = .returned (.bool true) ∧ Below wp.heap.size wp w' := by
  obtain ⟨h1, h2, h3, h4, h5, h6, h7, h8, h9, hg, hz, hw⟩ := h
  exact awake_any wp (by omega) h9
theorem endS2 {w : World} {k n k' n' : Int} {f f' : Nat} {s s' : ByteArray} {wp : World} (h : S2 w k n k' n' f f' s s' wp) : Below w.heap.size w wp := h.2.2.2.2.2.2.2.2.2.2.2

theorem sb_self (b : Bool) : (b == b) = true := by cases b <;> rfl
theorem sameB_self (k n : Int) (f : Nat) (s : ByteArray) : sameB k n k n f f s s = true := by simp [sameB]

set_option maxHeartbeats 4000000 in
theorem lawSames (k n k' n' : Int) (f f' : Nat) (s s' : ByteArray) (w : World) (hg : 4 < w.heap.size) (hc : w.cell? ⟨4, 0, none⟩ = some (.int .u64 1)) :
    Calls Tryz.prog 6 #[.agg #[.int .i64 k, .int .i64 n, .float .f64 f, .string s], .agg #[.int .i64 k', .int .i64 n', .float .f64 f', .string s']] w fun e w' => e = .returned (.bool true) ∧ Below w.heap.size w w' := by
  have e1 := sb_self (sameB k n k' n' f f' s s')
  have e2 := sameB_self k n f s
  go_enter Tryz.func6, Tryz.ntmps6
  go_wp2_with fail
  go_region_held3 (fun w' => S2 w k n k' n' f f' s s' w') (first | exact startS2 w k n k' n' f f' s s' hg hc | (apply keepS2; assumption; assumption; first | exact Or.inl rfl | exact Or.inr (Nat.le_refl _) | exact Or.inr (by simp))) (first | (go_at_call 14; refine (same_any _ _ _ _ _ _ _ _ _).mono ?_; rintro e w' ⟨rfl, hb⟩) | (go_at_call 15; refine (rsame_any _ _ _ _ _ _ _ _ _).mono ?_; rintro e w' ⟨rfl, hb⟩) | (go_at_call 11; refine (awakeS2 w k n k' n' f f' s s' _ ?_).mono ?_; assumption; rintro e w' ⟨rfl, hb⟩))
  go_wp2
  go_ret
  exact ⟨rfl, endS2 (by assumption)⟩
end Go.Proofs.YtcjieoomdhkleaaGreatDoor
