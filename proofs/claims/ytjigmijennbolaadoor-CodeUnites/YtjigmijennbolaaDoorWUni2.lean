/- Towards the walk of Union. -/
import Derived.Test.YtjigmijennbolaaDoorWSorted
namespace Go.Proofs.YtjigmijennbolaaDoor
open Go.RowKit
set_option maxRecDepth 100000

theorem OwnR.mono {w : World} {B C : Nat} {v : Value} {L : List Rg} (h : OwnR w B v L) (hb : C ≤ B) : OwnR w C v L := by
  refine ⟨h.1, ?_⟩
  rcases h.2 with h1 | ⟨g, cap, cur, e, hb', r⟩
  · exact .inl h1
  · exact .inr ⟨g, cap, cur, e, Nat.le_trans hb hb', r⟩
theorem foldU_snoc (R : List Rg) (j : Nat) (hj : j < R.length) : (R.take (j + 1)).foldl stepU [] = stepU ((R.take j).foldl stepU []) R[j] := by
  rw [← List.take_append_getElem hj, List.foldl_append]; rfl
theorem stepU_len (U : List Rg) (r : Rg) : (stepU U r).length ≤ U.length + 1 := by
  rcases List.eq_nil_or_concat U with rfl | ⟨V, a, rfl⟩
  · simp [stepU_nil]
  · simp only [List.concat_eq_append]; rw [stepU_snoc]; split <;> simp
theorem foldU_len : ∀ (R U : List Rg), (R.foldl stepU U).length ≤ U.length + R.length
  | [], U => by simp
  | r :: R, U => by
    have h1 := foldU_len R (stepU U r)
    have h2 := stepU_len U r
    simp only [List.foldl_cons, List.length_cons]
    omega
end Go.Proofs.YtjigmijennbolaaDoor
