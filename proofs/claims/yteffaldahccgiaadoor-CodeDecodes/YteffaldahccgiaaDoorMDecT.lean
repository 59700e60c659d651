/- Plain mathematics: lists whose keys are good. -/
import Derived.Test.YteffaldahccgiaaDoorWDecE
namespace Go.Proofs.YteffaldahccgiaaDoor
open Go.RowKit
set_option maxRecDepth 100000

theorem bytes_eqB {a b : ByteArray} (h : a.data.toList = b.data.toList) : a = b := by
  cases a; cases b; simp at h; rw [h]
theorem encS_ok2 {L : List Vl} (h : (encS L).2 = 0) (hok : ∀ v ∈ L, v.ok) : (encS L).1 = encL L ∧ Fine L ∧ (encL L).length ≤ 1024 := by
  unfold encS at *
  split at h
  · rename_i ha
    split at h
    · rename_i hb
      rw [if_pos ha, if_pos hb]
      refine ⟨rfl, fun v hv => ⟨hok v hv, ?_⟩, hb⟩
      have := List.all_eq_true.1 ha v hv
      simpa using this
    · simp at h
  · simp at h
end Go.Proofs.YteffaldahccgiaaDoor
