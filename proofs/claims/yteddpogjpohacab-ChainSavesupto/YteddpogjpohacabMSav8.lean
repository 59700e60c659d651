/- Plain mathematics: writes put behind a savepoint. -/
import Derived.Test.YteddpogjpohacabWPut8
import Derived.Test.YteddpogjpohacabWSee8
import Derived.Test.YteddpogjpohacabWMyI8
import Derived.Test.YteddpogjpohacabWSmI8
namespace Go.Proofs.Yteddpogjpohacab
open Go.RowKit

theorem bel_id8 {L : List Rw} {s : Int} (h : ∀ i (hi : i < L.length), L[i].n < s) : belL L s = L := by
  unfold belL
  rw [List.filter_eq_self]
  intro r hr
  obtain ⟨i, hi, rfl⟩ := List.getElem_of_mem hr
  exact decide_eq_true (h i hi)
theorem bel_lt (L : List Rw) (s : Int) : ∀ r ∈ belL L s, r.n < s := fun _r hr => of_decide_eq_true (List.mem_filter.1 hr).2
theorem bel_in (L : List Rw) (s : Int) : ∀ r ∈ belL L s, r ∈ L := fun _r hr => (List.mem_filter.1 hr).1
theorem bel_bel {L : List Rw} {s t : Int} (h : s ≤ t) : belL (belL L t) s = belL L s := by
  unfold belL
  rw [List.filter_filter]
  congr 1
  funext v
  by_cases hv : v.n < s
  · rw [decide_eq_true hv, decide_eq_true (show v.n < t by omega)]
    rfl
  · rw [decide_eq_false hv]
    rfl
/-- how far the writes are: N behind some of them, a: the greatest level so far -/
structure Sv (W : List Rw) (lv : Int) (j : Nat) (N : List Rw) (a : Int) : Prop where
  le : lv ≤ a
  all : ∀ r ∈ N, r.n ≤ a
  bel : belL N lv = belL W lv
  len : N.length ≤ W.length + j
  sh : shortR N
theorem Sv.start {W : List Rw} {lv : Int} (hs : shortR W) : Sv W lv 0 (belL W lv) lv := by
  refine ⟨Int.le_refl _, fun r hr => Int.le_of_lt (bel_lt _ _ r hr), bel_bel (Int.le_refl _), by have := belL_len W lv; omega, ?_⟩
  intro i hi
  obtain ⟨j, hj, e⟩ := List.getElem_of_mem (bel_in _ _ _ (List.getElem_mem hi))
  rw [← e]
  exact hs j hj
/-- the write that is put -/
def topW (a : Int) (r : Rw) : Rw := ⟨if r.n < a then a else r.n, r.gn, if r.gn then [] else r.row⟩
theorem topW_le (a : Int) (r : Rw) : a ≤ (topW a r).n := by
  simp only [topW]
  split <;> omega
theorem Sv.put {W : List Rw} {lv : Int} {j : Nat} {N : List Rw} {a tx : Int} {r : Rw} (h : Sv W lv j N a) (ht : 1 ≤ tx) (hl : 1 ≤ lv) (hr : r.row.length ≤ 3518437208780) :
    (putE tx N (topW a r) = 0 ∧ putT tx N (topW a r) = tx) ∧ Sv W lv (j + 1) (putL tx N (topW a r)) (topW a r).n := by
  have hle := topW_le a r
  have h1 := h.le
  have hb : putB tx N (topW a r) = false := by
    unfold putB
    rw [decide_eq_false (show ¬ (topW a r).n < 0 by omega), abv_false (fun i hi => by have := h.all _ (List.getElem_mem hi); omega), decide_eq_false (show ¬ tx < 1 by omega)]
    cases hg : r.gn <;> simp [topW, hg]
  obtain ⟨e1, e2, e3⟩ := put_ok hb
  refine ⟨⟨e1, e2⟩, ?_⟩
  rw [e3]
  refine ⟨by omega, ?_, ?_, ?_, ?_⟩
  · intro x hx
    rcases List.mem_append.1 hx with hx | hx
    · exact Int.le_of_lt (bel_lt _ _ x hx)
    · rw [List.mem_singleton] at hx
      rw [hx]
      exact Int.le_refl _
  · have : belL (belL N (topW a r).n ++ [topW a r]) lv = belL (belL N (topW a r).n) lv := by
      unfold belL
      rw [List.filter_append]
      have : decide ((topW a r).n < lv) = false := decide_eq_false (by omega)
      simp [this]
    rw [this, bel_bel (by omega)]
    exact h.bel
  · have := belL_len N (topW a r).n
    have := h.len
    simp
    omega
  · intro i hi
    have hm := List.getElem_mem hi
    rcases List.mem_append.1 hm with hx | hx
    · obtain ⟨k, hk, e⟩ := List.getElem_of_mem (bel_in _ _ _ hx)
      rw [← e]
      exact h.sh k hk
    · rw [List.mem_singleton] at hx
      rw [hx]
      simp only [topW]
      split
      · simp
      · exact hr
theorem sav_bak {W : List Rw} {lv : Int} {j : Nat} {N : List Rw} {a tx : Int} (h : Sv W lv j N a) : bakT tx N lv = bakT tx W lv := by
  unfold bakT
  rw [h.bel]
/-- Fold leaves seen what was seen -/
theorem fld_see {N : List Rw} {lv tx : Int} (hl : 1 ≤ lv) (ht : 1 ≤ tx) (hN : 0 < N.length) : shwB (seeR [] (fldL N lv) tx tx 1) = shwB (seeR [] N tx tx 1) ∧ shwL (seeR [] (fldL N lv) tx tx 1) = shwL (seeR [] N tx tx 1) := by
  have e1 : seeR [] N tx tx 1 = N[N.length - 1]? := if_pos ⟨by omega, rfl, hN⟩
  cases hab : abvL N (lv - 1) with
  | false =>
    have hle := abv_le hab
    have : fldL N lv = N := by
      unfold fldL
      rw [if_neg (by omega), hab]
      exact bel_id8 (fun i hi => by have := hle i hi; omega)
    rw [this]
    exact ⟨rfl, rfl⟩
  | true =>
    have e2 : N[N.length - 1]? = some (N[N.length - 1]'(by omega)) := List.getElem?_eq_getElem (by omega)
    have : fldL N lv = belL N (lv - 1) ++ [⟨lv - 1, (N[N.length - 1]'(by omega)).gn, (N[N.length - 1]'(by omega)).row⟩] := by
      unfold fldL
      rw [if_neg (by omega), hab, if_pos rfl, e2]
    rw [this, e1, e2]
    have e3 : seeR [] (belL N (lv - 1) ++ [⟨lv - 1, (N[N.length - 1]'(by omega)).gn, (N[N.length - 1]'(by omega)).row⟩]) tx tx 1 = some ⟨lv - 1, (N[N.length - 1]'(by omega)).gn, (N[N.length - 1]'(by omega)).row⟩ := by
      unfold seeR
      rw [if_pos ⟨by omega, rfl, by simp⟩]
      simp
    rw [e3]
    exact ⟨rfl, rfl⟩
theorem fld_sh {W : List Rw} {s : Int} (h : shortR W) : shortR (fldL W s) ∧ (fldL W s).length ≤ W.length + 1 := by
  have key : ∀ M : List Rw, (∀ r ∈ M, r ∈ W ∨ r.row.length ≤ 3518437208780) → shortR M := fun M hM i hi => by
    rcases hM _ (List.getElem_mem hi) with h1 | h1
    · obtain ⟨j, hj, e⟩ := List.getElem_of_mem h1
      rw [← e]
      exact h j hj
    · exact h1
  unfold fldL
  split
  · exact ⟨fun i hi => absurd hi (by simp), by simp⟩
  split
  · cases hW : W[W.length - 1]? with
    | none => exact ⟨fun i hi => absurd hi (by simp), by simp⟩
    | some v =>
      have hv : v ∈ W := List.mem_of_getElem? hW
      refine ⟨key _ (fun r hr => ?_), by have := belL_len W (s - 1); simp; omega⟩
      rcases List.mem_append.1 hr with h1 | h1
      · exact Or.inl (bel_in _ _ r h1)
      · rw [List.mem_singleton] at h1
        obtain ⟨j, hj, e⟩ := List.getElem_of_mem hv
        refine Or.inr ?_
        rw [h1, ← e]
        exact h j hj
  · exact ⟨key _ (fun r hr => Or.inl (bel_in _ _ r hr)), by have := belL_len W s; omega⟩
theorem see_sh {N : List Rw} {tx : Int} (h : shortR N) : (shwL (seeR [] N tx tx 1)).length ≤ 17592186043904 := by
  unfold seeR
  split
  · by_cases hN : N.length - 1 < N.length
    · rw [List.getElem?_eq_getElem hN]
      have := h _ hN
      simp only [shwL]
      split
      · simp
      · omega
    · rw [List.getElem?_eq_none (by omega)]
      simp [shwL]
  · simp [shwL]
end Go.Proofs.Yteddpogjpohacab
