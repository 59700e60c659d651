/- The walk of what each statement of layer 4 asks besides: the layer answers; and of the statement on Encode. -/
import Derived.Test.YtdogiidgajebiabDoorGWREnc
namespace Go.Proofs.YtdogiidgajebiabDoor
open Go.RowKit
set_option maxRecDepth 100000

def c4a : Cl := ⟨⟨#[97]⟩, 2, false, ⟨0, 0, 0, ⟨#[]⟩⟩⟩
def c4b : Cl := ⟨⟨#[98]⟩, 4, true, ⟨0, 0, 0, ⟨#[]⟩⟩⟩
def T4 : Tb := ⟨⟨#[116]⟩, [c4a, c4b], [0], [], []⟩
def v4a : Vl := ⟨2, 5, 0, ⟨#[]⟩⟩
def v4b : Vl := ⟨4, 0, 0, ⟨#[97]⟩⟩
theorem T4_ok : T4.ok := by
  refine ⟨by decide, by decide, ?_, by decide, by decide, (fun _ h => by cases h), by decide, (fun _ h => by cases h)⟩
  intro c hc
  have e : c = c4a ∨ c = c4b := by simpa [T4] using hc
  rcases e with rfl | rfl
  · exact ⟨by decide, ⟨by decide, by decide⟩, ⟨by decide, by decide⟩, by decide, by decide⟩
  · exact ⟨by decide, ⟨by decide, by decide⟩, ⟨by decide, by decide⟩, by decide, by decide⟩
theorem v4_ok : ∀ v ∈ [v4a, v4b], v.ok := by
  intro v hv
  have e : v = v4a ∨ v = v4b := by simpa using hv
  rcases e with rfl | rfl
  · exact ⟨⟨by decide, by decide⟩, ⟨by decide, by decide⟩, by decide, by decide⟩
  · exact ⟨⟨by decide, by decide⟩, ⟨by decide, by decide⟩, by decide, by decide⟩
theorem enc4 : encR T4 [v4a, v4b] = ([5, 10, 1, 97], 0) := by decide +kernel

set_option maxHeartbeats 4000000 in
theorem small4_any (w : World) : Calls Tryd.prog 21 #[] w fun e w' => ∃ a : TabP, e = .returned (a.val T4) ∧ TabV w' w'.heap.size T4 a ∧ Below w.heap.size w w' := by
  have hsf := run_store_float
  go_enter Tryd.func21, Tryd.ntmps21
  go_wp2
  refine bodyPost_ret (v := (⟨some ⟨w.heap.size + 1, 0, none⟩, 2, some ⟨w.heap.size + 1 + 1, 0, none⟩, 1, none, 0, none, 0⟩ : TabP).val T4) (by simp [results, Tryd.results21, go_sem, TabP.val, T4]) rfl ?_
  refine ⟨_, rfl, ⟨?_, ?_, fun _ h => absurd h (by simp [T4]), fun _ h => absurd h (by simp [T4]), Nat.le_refl 2, Nat.le_refl 0⟩, by go_grown⟩
  · intro i hi
    have hi0 : i = 0 ∨ i = 1 := by
      have : i < 2 := by simpa [T4] using hi
      omega
    rcases hi0 with rfl | rfl
    · refine ⟨w.heap.size + 1, 0, rfl, by simp, ?_, ?_, ?_, ?_, ?_, ?_, ?_⟩ <;> simp [go_sem, T4, c4a]
    · refine ⟨w.heap.size + 1, 0, rfl, by simp, ?_, ?_, ?_, ?_, ?_, ?_, ?_⟩ <;> simp [go_sem, T4, c4b]
  · intro i hi
    have hi0 : i = 0 := by simpa [T4] using hi
    subst hi0
    refine ⟨w.heap.size + 1 + 1, 0, rfl, by simp, ?_⟩
    simp [go_sem, T4]

set_option maxHeartbeats 4000000 in
theorem awake4 (w : World) (hE : Env w) : Calls Tryd.prog 8 #[] w fun e w' => e = .returned (.bool true) ∧ Below w.heap.size w w' := by
  have C1 : Hid (∀ w1 : World, Calls Tryd.prog 21 #[] w1 fun e w' => ∃ a : TabP, e = .returned (a.val T4) ∧ TabV w' w'.heap.size T4 a ∧ Below w1.heap.size w1 w') := fun w1 => small4_any w1
  have C2 : Hid (∀ (a : TabP) (p : Option Addr) (c : Nat) (w1 : World), Below w.heap.size w w1 → TabV w1 w1.heap.size T4 a → RowV w1 w1.heap.size p [v4a, v4b] → Calls Tryd.prog 10 #[a.val T4, .slice p 2 c] w1 fun e w' => e = .returned (.tuple #[.string ⟨#[5, 10, 1, 97]⟩, .int .i64 0]) ∧ Below w1.heap.size w1 w') := fun a p c w1 hb h h2 => by
    have h3 := rowEncode_any T4 a [v4a, v4b] p c w1 h T4_ok h2 v4_ok (by decide) (hE.on hb)
    rw [enc4] at h3
    exact h3
  clear hE
  go_enter Tryd.func8, Tryd.ntmps8
  go_wp2_with fail
  refine (C1.out _).mono ?_
  rintro e w1 ⟨a1, rfl, hV1, hb1⟩
  go_wp2_with fail
  have hba : Below w1.heap.size w1 (w1.alloc (.cells #[.int .i64 2, .int .i64 5, .float .f64 0, .string ⟨#[]⟩, .int .i64 4, .int .i64 0, .float .f64 0, .string ⟨#[97]⟩] 49)) := by go_grown
  have h02 : Below w.heap.size w (w1.alloc (.cells #[.int .i64 2, .int .i64 5, .float .f64 0, .string ⟨#[]⟩, .int .i64 4, .int .i64 0, .float .f64 0, .string ⟨#[97]⟩] 49)) := hb1.trans (hba.mono hb1.size)
  refine (C2.out a1 (some ⟨w1.heap.size, 0, none⟩) 2 _ h02 (hV1.on hba) ?_).mono ?_
  · intro i hi
    have hi0 : i = 0 ∨ i = 1 := by
      have : i < 2 := by simpa using hi
      omega
    rcases hi0 with rfl | rfl
    · refine ⟨w1.heap.size, 0, rfl, by simp, ?_, ?_, ?_, ?_⟩ <;> simp [go_sem, v4a]
    · refine ⟨w1.heap.size, 0, rfl, by simp, ?_, ?_, ?_, ?_⟩ <;> simp [go_sem, v4b]
  rintro e w3 ⟨rfl, hb3⟩
  go_wp2
  go_ret
  exact ⟨rfl, h02.trans (hb3.mono h02.size)⟩



end Go.Proofs.YtdogiidgajebiabDoor
