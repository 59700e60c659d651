/- Plain mathematics: levels. -/
import Derived.Test.YthpkppfnfbkjoaaGMTurn12
namespace Go.Proofs.Ythpkppfnfbkjoaa
set_option maxRecDepth 100000

theorem sel_whole (E : List En) : selE E ⟨#[]⟩ ⟨#[]⟩ true = E := by
  rw [sel_open, List.filter_eq_self]
  intro a _
  rw [lt_nil]
  rfl
theorem topE_le (E : List En) (l : Nat) : topE E l ≤ l := by
  induction l with
  | zero => exact Nat.le_refl _
  | succ l ih =>
    unfold topE
    split
    · exact Nat.le_refl _
    · omega
theorem topE_mono (E : List En) (l : Nat) : topE E l ≤ topE E (l + 1) := by
  conv => rhs; unfold topE
  split
  · rename_i h
    omega
  · exact Nat.le_refl _
/-- each level that is told has a key -/
theorem topE_key (E : List En) : ∀ l n, n < topE E l → keyE n E ≠ []
  | 0, n, h => by simp [topE] at h
  | l + 1, n, h => by
    unfold topE at h
    split at h
    · rename_i h2
      by_cases hn : n < l
      · exact topE_key E l n (by omega)
      · have e : n = l := by omega
        subst e
        exact h2.2
    · exact topE_key E l n h
theorem topE_pos {E : List En} (hh : ∀ e ∈ E, 1 ≤ e.h ∧ e.h ≤ 16) (hE : E ≠ []) : 0 < topE E 16 := by
  have h1 : topE E 1 = 1 := by
    unfold topE
    rw [if_pos]
    refine ⟨rfl, fun hc => ?_⟩
    unfold keyE at hc
    rw [List.map_eq_nil_iff, List.filter_eq_nil_iff] at hc
    obtain ⟨e, l, rfl⟩ : ∃ e l, E = e :: l := by
      cases E with
      | nil => exact absurd rfl hE
      | cons e l => exact ⟨e, l, rfl⟩
    have h2 := hc e List.mem_cons_self
    have h3 := (hh e List.mem_cons_self).1
    simp at h2
    omega
  have h2 : ∀ k, 1 ≤ topE E (1 + k) := by
    intro k
    induction k with
    | zero => exact Nat.le_of_eq h1.symm
    | succ k ih => exact Nat.le_trans ih (topE_mono E (1 + k))
  exact h2 15
theorem topE_nil (l : Nat) : topE [] l = 0 := by
  induction l with
  | zero => rfl
  | succ l ih =>
    unfold topE
    rw [ih, if_neg]
    exact fun h => h.2 rfl
theorem top_iff {E : List En} (hh : ∀ e ∈ E, 1 ≤ e.h ∧ e.h ≤ 16) : 0 < E.length ↔ 0 < topE E 16 := by
  constructor
  · intro h
    exact topE_pos hh (fun hc => by rw [hc] at h; simp at h)
  · intro h
    rcases E with _ | ⟨e, l⟩
    · rw [topE_nil] at h
      omega
    · simp
theorem lvsE_len (E : List En) (l : Nat) : (lvsE E l).length = l := by
  induction l with
  | zero => rfl
  | succ l ih => simp [lvsE, ih]
theorem lvsE_get (E : List En) : ∀ (l n : Nat), n < l → (lvsE E l)[n]? = some (keyE n E)
  | 0, n, h => by omega
  | l + 1, n, h => by
    have hl := lvsE_len E l
    have e : lvsE E (l + 1) = lvsE E l ++ [keyE l E] := rfl
    rw [e]
    by_cases hn : n < l
    · rw [List.getElem?_append_left (by omega)]
      exact lvsE_get E l n hn
    · have h2 : n = l := by omega
      subst h2
      rw [List.getElem?_append_right (by omega), hl]
      simp
theorem lvsE_at (E : List En) (l n : Nat) (h : n < (lvsE E l).length) : (lvsE E l)[n] = keyE n E := by
  have h2 := lvsE_get E l n (by rw [lvsE_len] at h; exact h)
  rw [List.getElem?_eq_getElem h] at h2
  exact Option.some.inj h2
/-- how many are on a level -/
def cntE (n : Nat) (E : List En) (i : Nat) : Nat := ((E.take i).filter (fun e => decide (n < e.h))).length
theorem cntE_le (n : Nat) (E : List En) (i : Nat) : cntE n E i ≤ i := Nat.le_trans (List.length_filter_le _ _) (List.length_take_le _ _)
theorem cntE_on {n : Nat} {E : List En} {i : Nat} (hi : i < E.length) (h : n < E[i].h) : cntE n E (i + 1) = cntE n E i + 1 ∧ ∃ hc : cntE n E i < (keyE n E).length, (keyE n E)[cntE n E i] = E[i].k := by
  have h1 : (E.take (i + 1)).filter (fun e => decide (n < e.h)) = (E.take i).filter (fun e => decide (n < e.h)) ++ [E[i]] := by
    rw [List.take_succ_eq_append_getElem hi, List.filter_append, List.filter_cons_of_pos (by simpa using h), List.filter_nil]
  have h2 : E.filter (fun e => decide (n < e.h)) = (E.take i).filter (fun e => decide (n < e.h)) ++ E[i] :: (E.drop (i + 1)).filter (fun e => decide (n < e.h)) := by
    conv => lhs; rw [← List.take_append_drop (i + 1) E]
    rw [List.filter_append, h1, List.append_assoc]
    rfl
  refine ⟨by unfold cntE; rw [h1]; simp, ?_⟩
  have hk : keyE n E = ((E.take i).filter (fun e => decide (n < e.h))).map En.k ++ E[i].k :: ((E.drop (i + 1)).filter (fun e => decide (n < e.h))).map En.k := by
    unfold keyE
    rw [h2, List.map_append, List.map_cons]
  have hc : cntE n E i < (keyE n E).length := by
    rw [hk]
    unfold cntE
    simp
  refine ⟨hc, ?_⟩
  have h3 : (keyE n E)[cntE n E i]? = some E[i].k := by
    rw [hk]
    unfold cntE
    rw [List.getElem?_append_right (by simp)]
    simp
  rw [List.getElem?_eq_getElem hc] at h3
  exact Option.some.inj h3
theorem cntE_off {n : Nat} {E : List En} {i : Nat} (hi : i < E.length) (h : ¬ n < E[i].h) : cntE n E (i + 1) = cntE n E i := by
  unfold cntE
  rw [List.take_succ_eq_append_getElem hi, List.filter_append, List.filter_cons_of_neg (by simpa using h), List.filter_nil, List.append_nil]
theorem cntE_all (n : Nat) (E : List En) : cntE n E E.length = (keyE n E).length := by
  unfold cntE keyE
  rw [List.take_length, List.length_map]

end Go.Proofs.Ythpkppfnfbkjoaa
