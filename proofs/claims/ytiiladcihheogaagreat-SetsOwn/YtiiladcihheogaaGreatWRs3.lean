/- The document's Clash. -/
import Derived.Test.YtiiladcihheogaaGreatWRs2
namespace Go.Proofs.YtiiladcihheogaaGreat
open Go.RowKit
set_option maxRecDepth 100000

theorem own_empty (w : World) : OwnP (w.alloc (.cells #[] 38)) w.heap.size (.slice (some ⟨w.heap.size, 0, none⟩) 0 0) [] := by
  have h := World.ownsRow_lit (e := 38) (size := 3) w #[] 0 (Nat.le_refl _) (Nat.zero_le _) rfl
  exact h
theorem filter_take {α : Type} (f : α → Bool) (L : List α) (j : Nat) (hj : j < L.length) : (L.take (j + 1)).filter f = (L.take j).filter f ++ (if f L[j] then [L[j]] else []) := by
  rw [← List.take_append_getElem hj, List.filter_append]
  congr 1
  cases h : f L[j] <;> simp [h]

