/- Plain mathematics: one range more is brought to its place among those in order, by swaps. -/
import Derived.Test.YtjigmijennbolaaDoorWUni2
namespace Go.Proofs.YtjigmijennbolaaDoor
set_option maxRecDepth 100000

/-- T is S with x at the place k, and what stands behind x begins behind it -/
def InsAt (S : List Rg) (x : Rg) (k : Nat) (T : List Rg) : Prop := ∃ A C, S = A ++ C ∧ A.length = k ∧ T = A ++ x :: C ∧ ∀ c ∈ C, ltB x.lo c.lo = true
theorem InsAt.start (S : List Rg) (x : Rg) : InsAt S x S.length (S ++ [x]) := ⟨S, [], by simp, rfl, rfl, fun _ h => by cases h⟩
theorem InsAt.len {S : List Rg} {x : Rg} {k : Nat} {T : List Rg} (h : InsAt S x k T) : T.length = S.length + 1 ∧ k ≤ S.length := by
  obtain ⟨A, C, rfl, rfl, rfl, _⟩ := h
  simp; omega
theorem InsAt.at {S : List Rg} {x : Rg} {k : Nat} {T : List Rg} (h : InsAt S x k T) (hk : k < T.length) : T[k] = x := by
  obtain ⟨A, C, rfl, rfl, rfl, _⟩ := h
  simp
theorem InsAt.swap {S : List Rg} {x : Rg} {k : Nat} {T : List Rg} (h : InsAt S x (k + 1) T) (hk : k + 1 < T.length) (hlt : ltB x.lo (T[k]'(by omega)).lo = true) : InsAt S x k ((T.set (k + 1) (T[k]'(by omega))).set k x) := by
  obtain ⟨A, C, rfl, hA, rfl, hC⟩ := h
  rcases List.eq_nil_or_concat A with rfl | ⟨A', a, rfl⟩
  · simp at hA
  · simp only [List.concat_eq_append, List.length_append, List.length_singleton, Nat.add_right_cancel_iff] at *
    subst hA
    have e : (A' ++ [a] ++ x :: C)[A'.length]'(by simp) = a := by simp
    rw [e] at hlt ⊢
    refine ⟨A', a :: C, by simp, rfl, ?_, ?_⟩
    · simp
    · intro c hc
      rcases List.mem_cons.1 hc with rfl | hc
      · exact hlt
      · exact hC c hc
theorem InsAt.done {S : List Rg} {x : Rg} {k : Nat} {T : List Rg} (h : InsAt S x k T) (hS : Rising S) (he : k = 0 ∨ ∃ a, T[k - 1]? = some a ∧ ltB x.lo a.lo = false) : Rising T ∧ ∀ r, r ∈ T ↔ (r ∈ S ∨ r = x) := by
  obtain ⟨A, C, rfl, rfl, rfl, hC⟩ := h
  obtain ⟨hA, hC2, hAC⟩ := List.pairwise_append.1 hS
  refine ⟨?_, fun r => ?_⟩
  · refine List.pairwise_append.2 ⟨hA, List.pairwise_cons.2 ⟨fun c hc => le_of_lt (hC c hc), hC2⟩, ?_⟩
    intro p hp q hq
    rcases List.mem_cons.1 hq with rfl | hq
    · rcases List.eq_nil_or_concat A with rfl | ⟨A', a, rfl⟩
      · cases hp
      · simp only [List.concat_eq_append] at *
        have hle : ltB q.lo a.lo = false := by
          rcases he with he | ⟨b, hb, hlt⟩
          · simp at he
          · have : b = a := by simpa using hb.symm
            rw [this] at hlt; exact hlt
        rcases List.mem_append.1 hp with h1 | h1
        · exact le_trans' ((List.pairwise_append.1 hA).2.2 p h1 a (by simp)) hle
        · rw [List.mem_singleton.1 h1]; exact hle
    · exact hAC p hp q hq
  · simp only [List.mem_append, List.mem_cons]
    constructor
    · rintro (h | h | h)
      · exact .inl (.inl h)
      · exact .inr h
      · exact .inl (.inr h)
    · rintro ((h | h) | h)
      · exact .inl h
      · exact .inr (.inr h)
      · exact .inr (.inl h)
theorem foldV_snoc (R : List Rg) (j : Nat) (hj : j < R.length) : (R.take (j + 1)).foldl stepV [] = stepV ((R.take j).foldl stepV []) R[j] := by
  rw [← List.take_append_getElem hj, List.foldl_append]; rfl
theorem stepV_len (U : List Rg) (r : Rg) : (stepV U r).length ≤ U.length + 1 := by
  have h := stepU_len (U.map Rg.pl) r
  rw [← stepV_pl] at h
  simpa using h
theorem foldV_len (R : List Rg) : (R.foldl stepV []).length ≤ R.length := by
  have h := foldU_len R []
  have e := foldV_pl R []
  simp only [List.map_nil] at e
  rw [← e] at h
  simpa using h
theorem stepV_snoc (U : List Rg) (a r : Rg) : stepV (U ++ [a]) r = if touchB a r then (if r.op || (!a.op && ltB a.hi r.hi) then U ++ [⟨a.lo, r.hi, r.op⟩] else U ++ [a]) else U ++ [a] ++ [r] := by
  unfold stepV
  simp
end Go.Proofs.YtjigmijennbolaaDoor
