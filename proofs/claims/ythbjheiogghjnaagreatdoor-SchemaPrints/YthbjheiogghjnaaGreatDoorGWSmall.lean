/- The small table of the statements of layer 3, in memory. -/
import Derived.Test.YthbjheiogghjnaaGreatDoorGWRIx
namespace Go.Proofs.YthbjheiogghjnaaGreatDoor
open Go.RowKit
set_option maxRecDepth 100000

def smallC : Cl := ⟨⟨#[97]⟩, 2, false, ⟨0, 0, 0, ⟨#[]⟩⟩⟩
def smallT : Tb := ⟨⟨#[116]⟩, [smallC], [0], [], []⟩
def noT : Tb := ⟨⟨#[]⟩, [], [], [], []⟩
def noP : TabP := ⟨none, 0, none, 0, none, 0, none, 0⟩
theorem noT_ok : noT.ok := ⟨by decide, by decide, (fun _ h => by cases h), by decide, by decide, (fun _ h => by cases h), by decide, (fun _ h => by cases h)⟩
theorem noT_val (w : World) (B : Nat) : TabV w B noT noP := ⟨fun _ h => absurd h (by simp [noT]), fun _ h => absurd h (by simp [noT]), fun _ h => absurd h (by simp [noT]), fun _ h => absurd h (by simp [noT]), by decide, by decide⟩
theorem noT_check : checkS noT = 30 := by decide +kernel
theorem smallT_check : checkS smallT = 0 := by decide +kernel
theorem smallT_ok : smallT.ok := by
  refine ⟨by decide, by decide, ?_, by decide, by decide, (fun _ h => by cases h), by decide, (fun _ h => by cases h)⟩
  intro c hc
  have e : c = smallC := by simpa [smallT] using hc
  subst e
  exact ⟨by decide, ⟨by decide, by decide⟩, ⟨by decide, by decide⟩, by decide, by decide⟩

set_option maxHeartbeats 4000000 in
theorem small_any (w : World) : Calls Tryz.prog 18 #[] w fun e w' => ∃ a : TabP, e = .returned (a.val smallT) ∧ TabV w' w'.heap.size smallT a ∧ Below w.heap.size w w' := by
  go_enter Tryz.func18, Tryz.ntmps18
  go_wp2
  refine bodyPost_ret (v := (⟨some ⟨w.heap.size + 1, 0, none⟩, 1, some ⟨w.heap.size + 1 + 1, 0, none⟩, 1, none, 0, none, 0⟩ : TabP).val smallT) (by simp [results, Tryz.results18, go_sem, TabP.val, smallT]) rfl ?_
  refine ⟨_, rfl, ⟨?_, ?_, fun _ h => absurd h (by simp [smallT]), fun _ h => absurd h (by simp [smallT]), Nat.le_refl 1, Nat.le_refl 0⟩, by go_grown⟩
  · intro i hi
    have hi0 : i = 0 := by simpa [smallT] using hi
    subst hi0
    refine ⟨w.heap.size + 1, 0, rfl, by simp, ?_, ?_, ?_, ?_, ?_, ?_, ?_⟩ <;> simp [go_sem, smallT, smallC]
  · intro i hi
    have hi0 : i = 0 := by simpa [smallT] using hi
    subst hi0
    refine ⟨w.heap.size + 1 + 1, 0, rfl, by simp, ?_⟩
    simp [go_sem, smallT]

end Go.Proofs.YthbjheiogghjnaaGreatDoor
