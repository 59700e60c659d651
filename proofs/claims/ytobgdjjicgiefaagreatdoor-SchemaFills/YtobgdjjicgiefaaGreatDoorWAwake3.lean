/- The walk of what each statement of layer 3 asks besides: the layer answers. -/
import Derived.Test.YtobgdjjicgiefaaGreatDoorWFill
namespace Go.Proofs.YtobgdjjicgiefaaGreatDoor
open Go.RowKit
set_option maxRecDepth 100000

def fourV : Vl := ⟨2, 4, 0, ⟨#[]⟩⟩
theorem four_ok : fourV.ok := ⟨⟨by decide, by decide⟩, ⟨by decide, by decide⟩, by decide, by decide⟩
theorem four_fill : fillR smallT.cs [0] [fourV] = [fourV] := rfl
theorem four_err : fillE smallT [0] [fourV] = 0 := by
  unfold fillE
  rw [if_pos smallT_check]
  decide +kernel
theorem four_fillO : fillO smallT [0] [fourV] = [fourV] := by
  unfold fillO
  rw [if_pos four_err]
  rfl

set_option maxHeartbeats 2000000 in
theorem rint_any (n : Int) (w : World) : Calls Tryz.prog 32 #[.int .i64 n] w fun e w' => e = .returned (.agg #[.int .i64 2, .int .i64 n, .float .f64 0, .string ⟨#[]⟩]) ∧ Below w.heap.size w w' := by
  have hsf := run_store_float
  go_enter Tryz.func32, Tryz.ntmps32
  go_wp2
  refine bodyPost_ret (v := .agg #[.int .i64 2, .int .i64 n, .float .f64 0, .string ⟨#[]⟩]) (by simp [results, Tryz.results32, go_sem]) rfl ?_
  exact ⟨rfl, by go_grown⟩

set_option maxHeartbeats 4000000 in
theorem awake3 (w : World) (hE : Env w) (hK : KW w) : Calls Tryz.prog 11 #[] w fun e w' => e = .returned (.bool true) ∧ Below w.heap.size w w' := by
  have C1 : Hid (∀ w1 : World, Calls Tryz.prog 31 #[] w1 fun e w' => ∃ a : TabP, e = .returned (a.val smallT) ∧ TabV w' w'.heap.size smallT a ∧ Below w1.heap.size w1 w') := fun w1 => small_any w1
  have C2 : Hid (∀ (a : TabP) (w1 : World), Below w.heap.size w w1 → TabV w1 w1.heap.size smallT a → Calls Tryz.prog 23 #[a.val smallT] w1 fun e w' => e = .returned (.tuple #[.string smallS, .int .i64 0]) ∧ Below w1.heap.size w1 w') := fun a w1 hb h => print_small a w1 h (hE.on hb) (hK.on hb)
  have C3 : Hid (∀ w1 : World, Calls Tryz.prog 32 #[.int .i64 4] w1 fun e w' => e = .returned (.agg #[.int .i64 2, .int .i64 4, .float .f64 0, .string ⟨#[]⟩]) ∧ Below w1.heap.size w1 w') := fun w1 => rint_any 4 w1
  have C4 : Hid (∀ (a : TabP) (pc : Option Addr) (cc : Nat) (pv : Option Addr) (cv : Nat) (w1 : World), Below w.heap.size w w1 → TabV w1 w1.heap.size smallT a → RowI w1 w1.heap.size pc [0] → RowV w1 w1.heap.size pv [fourV] → Calls Tryz.prog 20 #[a.val smallT, .slice pc 1 cc, .slice pv 1 cv] w1 fun e w' => ∃ v, e = .returned (.tuple #[v, .int .i64 0]) ∧ OwnV w' w1.heap.size v [fourV] ∧ Below w1.heap.size w1 w') := fun a pc cc pv cv w1 hb h1 h2 h3 => by
    have h := fill_any smallT a [0] pc cc [fourV] pv cv w1 h1 smallT_ok h2 h3 (by decide) (by decide) (fun v hv => by rw [List.mem_singleton.1 hv]; exact four_ok) (hE.on hb)
    rw [four_err, four_fillO] at h
    exact h
  have C5 : Hid (∀ w1 : World, Below w.heap.size w w1 → Calls Tryz.prog 12 #[.agg #[.string ⟨#[]⟩, .slice none 0 0, .slice none 0 0, .slice none 0 0, .slice none 0 0]] w1 fun e w' => e = .returned (.int .i64 30) ∧ Below w1.heap.size w1 w') := fun w1 hb => by
    have h := check_anyT noT noP w1 (noT_val _ _) noT_ok (hE.on hb)
    rw [noT_check] at h
    exact h
  have hS : (smallS.toList == ([99, 114, 101, 97, 116, 101, 32, 116, 97, 98, 108, 101, 32, 116, 32, 40, 10, 32, 32, 97, 32, 105, 110, 116, 32, 110, 111, 116, 32, 110, 117, 108, 108, 44, 10, 32, 32, 112, 114, 105, 109, 97, 114, 121, 32, 107, 101, 121, 32, 40, 97, 41, 10, 41, 10] : List UInt8)) = true := by decide +kernel
  clear hE hK
  generalize smallS = sS at *
  go_enter Tryz.func11, Tryz.ntmps11
  go_wp2_with fail
  refine (C1.out _).mono ?_
  rintro e w1 ⟨a1, rfl, hV1, hb1⟩
  go_wp2_with fail
  refine (C2.out a1 _ hb1 hV1).mono ?_
  rintro e w2 ⟨rfl, hb2⟩
  have h02 : Below w.heap.size w w2 := hb1.trans (hb2.mono hb1.size)
  clear hV1 hb1 hb2 C2
  go_wp2_with fail
  refine (C1.out _).mono ?_
  rintro e w3 ⟨a3, rfl, hV3, hb3⟩
  have h03 : Below w.heap.size w w3 := h02.trans (hb3.mono h02.size)
  clear hb3 h02 C1
  go_wp2_with fail
  have h34 : Below w3.heap.size w3 (w3.alloc (.cells #[.int .i64 0] 3)) := by go_grown
  refine (C3.out _).mono ?_
  rintro e w4 ⟨rfl, hb4⟩
  have h35 : Below w3.heap.size w3 w4 := h34.trans (hb4.mono h34.size)
  have x0 : w4.cell? ⟨w3.heap.size, 0, none⟩ = some (.int .i64 0) := (hb4.cell (p := ⟨w3.heap.size, 0, none⟩) (by simp)).trans (by simp [go_sem])
  have hz4 : w3.heap.size + 1 ≤ w4.heap.size := by simpa using hb4.size
  clear hb4 h34 C3
  go_wp2_with fail
  have h45 : Below w4.heap.size w4 (w4.alloc (.cells #[.int .i64 2, .int .i64 4, .float .f64 0, .string ⟨#[]⟩] 55)) := by go_grown
  have h3w : Below w3.heap.size w3 (w4.alloc (.cells #[.int .i64 2, .int .i64 4, .float .f64 0, .string ⟨#[]⟩] 55)) := h35.trans (h45.mono h35.size)
  have h0w : Below w.heap.size w (w4.alloc (.cells #[.int .i64 2, .int .i64 4, .float .f64 0, .string ⟨#[]⟩] 55)) := h03.trans (h3w.mono h03.size)
  refine (C4.out a3 (some ⟨w3.heap.size, 0, none⟩) 1 (some ⟨w4.heap.size, 0, none⟩) 1 _ h0w (hV3.on h3w) ?_ ?_).mono ?_
  · intro i hi
    have hi0 : i = 0 := by simpa using hi
    subst hi0
    exact ⟨w3.heap.size, 0, rfl, by simp; omega, (h45.cell (p := ⟨w3.heap.size, 0, none⟩) (by show w3.heap.size < _; omega)).trans x0⟩
  · intro i hi
    have hi0 : i = 0 := by simpa using hi
    subst hi0
    refine ⟨w4.heap.size, 0, rfl, by simp, ?_, ?_, ?_, ?_⟩ <;> simp [go_sem, fourV]
  rintro e w5 ⟨v5, rfl, hO5, hb5⟩
  have h05 : Below w.heap.size w w5 := h0w.trans (hb5.mono h0w.size)
  rcases hO5.form with ⟨_, h0⟩ | ⟨g, cap, rfl, hg1, hg2⟩
  · simp at h0
  have hc := ((hO5.at rfl 0 (by decide)).1).2.1
  have y0 : w5.cell? ⟨g, 1, none⟩ = some (.int .i64 4) := hc
  clear hc hO5 hb5 h0w h3w h45 h35 h03 hV3 C4
  go_wp2_with fail
  refine (C5.out _ h05).mono ?_
  rintro e w6 ⟨rfl, hb6⟩
  go_wp2
  go_ret
  exact ⟨rfl, h05.trans (hb6.mono h05.size)⟩
end Go.Proofs.YtobgdjjicgiefaaGreatDoor
