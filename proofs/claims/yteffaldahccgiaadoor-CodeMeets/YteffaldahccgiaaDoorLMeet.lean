/- The walk of the statement on what is in ranges, and in both of two: it answers true. -/
import Derived.Test.YteffaldahccgiaaDoorWBoth3
import Derived.Deep.RegionHeld3
namespace Go.Proofs.YteffaldahccgiaaDoor
open Go.RowKit
set_option maxRecDepth 100000

/-- what is held while the statement is walked: two ranges' boxes, the library's tables -/
abbrev S2R (w : World) (lo hi lo' hi' : ByteArray) (op op' : Bool) (w' : World) : Prop :=
  w'.cell? ⟨w.heap.size, 0, none⟩ = some (.string lo) ∧ w'.cell? ⟨w.heap.size, 1, none⟩ = some (.string hi) ∧ w'.cell? ⟨w.heap.size, 2, none⟩ = some (.bool op) ∧
  w'.cell? ⟨w.heap.size + 1, 0, none⟩ = some (.string lo') ∧ w'.cell? ⟨w.heap.size + 1, 1, none⟩ = some (.string hi') ∧ w'.cell? ⟨w.heap.size + 1, 2, none⟩ = some (.bool op') ∧
  w.heap.size + 2 ≤ w'.heap.size ∧ Below w.heap.size w w'
theorem keepS2R {w : World} {lo hi lo' hi' : ByteArray} {op op' : Bool} {B : Nat} {wp w' : World} (hb : Below B wp w') (h : S2R w lo hi lo' hi' op op' wp) (hB : B = wp.heap.size ∨ w.heap.size + 2 ≤ B) : S2R w lo hi lo' hi' op op' w' := by
  obtain ⟨h1, h2, h3, h4, h5, h6, hz, hw⟩ := h
  have := hb.size
  have hk : w.heap.size + 2 ≤ B := by omega
  have o : ∀ {b o : Nat} {v : Option Value}, b < w.heap.size + 2 → wp.cell? ⟨b, o, none⟩ = v → w'.cell? ⟨b, o, none⟩ = v := fun {b o v} hb' hc => (hb.cell (p := ⟨b, o, none⟩) (by show b < B; omega)).trans hc
  exact ⟨o (by omega) h1, o (by omega) h2, o (by omega) h3, o (by omega) h4, o (by omega) h5, o (by omega) h6, by omega, hw.trans (hb.mono (by omega))⟩
theorem startS2R (w : World) (lo hi lo' hi' : ByteArray) (op op' : Bool) :
    S2R w lo hi lo' hi' op op' ((w.alloc (.cells #[.string lo, .string hi, .bool op] 33)).alloc (.cells #[.string lo', .string hi', .bool op'] 33)).drew := by
  refine ⟨?_, ?_, ?_, ?_, ?_, ?_, by simp, by go_grown⟩
  all_goals simp [go_sem]
theorem endS2R {w : World} {lo hi lo' hi' : ByteArray} {op op' : Bool} {wp : World} (h : S2R w lo hi lo' hi' op op' wp) : Below w.heap.size w wp := h.2.2.2.2.2.2.2

set_option maxHeartbeats 8000000 in
theorem lawMeets (lo hi lo' hi' k : ByteArray) (op op' : Bool) (w : World) (_h1 : lo.size ≤ maxLen) (_h2 : hi.size ≤ maxLen) (_h3 : lo'.size ≤ maxLen) (_h4 : hi'.size ≤ maxLen) (hk : k.size ≤ 140737488351232) (hg : 2 < w.heap.size) (hT : Lib.Utf8Tabs 1 2 w) :
    Calls Tryd.prog 6 #[rngV lo hi op, rngV lo' hi' op', .string k] w fun e w' => e = .returned (.bool true) ∧ Below w.heap.size w w' := by
  have C1 : Hid (∀ w1 : World, Calls _ _ _ _ _) := fun w1 => point_any k hk w1
  have C2 : Hid (∀ w1 : World, Calls _ _ _ _ _) := fun w1 => rpoint_any k hk w1
  have C3 : Hid (∀ w1 : World, Calls _ _ _ _ _) := fun w1 => has_any lo hi op k w1
  have C4 : Hid (∀ w1 : World, Calls _ _ _ _ _) := fun w1 => rhas_any lo hi op k w1
  have C5 : Hid (∀ w1 : World, Calls _ _ _ _ _) := fun w1 => empty_any lo hi op w1
  have C6 : Hid (∀ w1 : World, Calls _ _ _ _ _) := fun w1 => rempty_any lo hi op w1
  have C7 : Hid (∀ w1 : World, Calls _ _ _ _ _) := fun w1 => both_any lo hi op lo' hi' op' w1
  have C8 : Hid (∀ w1 : World, Calls _ _ _ _ _) := fun w1 => rboth_any lo hi op lo' hi' op' w1
  have C9 : Hid (∀ w1 : World, Calls _ _ _ _ _) := fun w1 => meet_any lo hi op lo' hi' op' w1
  have C10 : Hid (∀ w1 : World, Calls _ _ _ _ _) := fun w1 => rmeet_any lo hi op lo' hi' op' w1
  have C11 : Hid (∀ w1 : World, Below w.heap.size w w1 → Calls _ _ _ _ _) := fun w1 hb => awake_any w1 (by have := hb.size; omega) (tabs_keep hb hg hT)
  have hq := run_eqR
  have hqg := run_eqG
  have hqs := eqR_self
  generalize k ++ ⟨#[0]⟩ = k0 at *
  generalize hasB lo hi op k = x1 at *
  generalize emptyB lo hi op = x2 at *
  generalize (!emptyB (bothR lo hi op lo' hi' op').1 (bothR lo hi op lo' hi' op').2.1 (bothR lo hi op lo' hi' op').2.2) = x3 at *
  generalize (bothR lo hi op lo' hi' op').1 = y1 at *
  generalize (bothR lo hi op lo' hi' op').2.1 = y2 at *
  generalize (bothR lo hi op lo' hi' op').2.2 = y3 at *
  clear hT hk
  go_enter Tryd.func6, Tryd.ntmps6
  go_wp2_with fail
  go_region_held3 (fun w' => S2R w lo hi lo' hi' op op' w') (first | exact startS2R w lo hi lo' hi' op op' | (apply keepS2R; assumption; assumption; first | exact Or.inl rfl | exact Or.inr (Nat.le_refl _) | exact Or.inr (by simp))) (first | (go_at_call 21; refine (C1.out _).mono ?_; rintro e w' ⟨rfl, hb⟩) | (go_at_call 22; refine (C2.out _).mono ?_; rintro e w' ⟨rfl, hb⟩) | (go_at_call 23; refine (C3.out _).mono ?_; rintro e w' ⟨rfl, hb⟩) | (go_at_call 24; refine (C4.out _).mono ?_; rintro e w' ⟨rfl, hb⟩) | (go_at_call 25; refine (C5.out _).mono ?_; rintro e w' ⟨rfl, hb⟩) | (go_at_call 26; refine (C6.out _).mono ?_; rintro e w' ⟨rfl, hb⟩) | (go_at_call 27; refine (C7.out _).mono ?_; rintro e w' ⟨rfl, hb⟩) | (go_at_call 28; refine (C8.out _).mono ?_; rintro e w' ⟨rfl, hb⟩) | (go_at_call 29; refine (C9.out _).mono ?_; rintro e w' ⟨rfl, hb⟩) | (go_at_call 30; refine (C10.out _).mono ?_; rintro e w' ⟨rfl, hb⟩) | (go_at_call 11; refine (C11.out _ (endS2R (by assumption))).mono ?_; rintro e w' ⟨rfl, hb⟩))
  go_wp2
  go_ret
  exact ⟨rfl, endS2R (by assumption)⟩
end Go.Proofs.YteffaldahccgiaaDoor
