/- Plain mathematics: what SkipTurns and SkipLevels say of a list. Plain mathematics: levels. -/
import Derived.Test.YtojfohpnfciajaaGMMade
namespace Go.Proofs.Ytojfohpnfciajaa
set_option maxRecDepth 100000

theorem scan_all {E : List En} (hr : RiseE E) (lo hi : ByteArray) (op : Bool) : scanM E lo hi op false (E.length : Int) = selE E lo hi op := by
  rw [scan_spec hr, if_neg (by decide), Int.toNat_natCast, List.take_of_length_le (sel_len E lo hi op)]
theorem scan_allB {E : List En} (hr : RiseE E) (lo hi : ByteArray) (op : Bool) : scanM E lo hi op true (E.length : Int) = (selE E lo hi op).reverse := by
  rw [scan_spec hr, if_pos rfl, Int.toNat_natCast, List.take_of_length_le (by rw [List.length_reverse]; exact sel_len E lo hi op)]
theorem sel_open (E : List En) (lo hi : ByteArray) : selE E lo hi true = E.filter (fun e => !ltB e.k lo) := by
  unfold selE
  congr 1
  funext e
  simp [endB]
theorem scan_one {E : List En} (hr : RiseE E) (k hi : ByteArray) : scanM E k hi true false 1 = (seekE E k false).toList := by
  rw [scan_spec hr, if_neg (by decide), sel_open, ← drop_filter hr]
  show List.take 1 _ = _
  unfold seekE
  rw [if_pos rfl, List.take_one, List.head?_drop]
theorem lt_nil (a : ByteArray) : ltB a ⟨#[]⟩ = false := by
  rw [ltB_cb]
  cases h : a.data.toList with
  | nil => simp [Lib.compareBytes]
  | cons x l => simp [Lib.compareBytes]
theorem cb_zero : ∀ (a k : List UInt8), (Lib.compareBytes a (k ++ [0]) = -1) ↔ ¬ Lib.compareBytes k a = -1
  | [], [] => by simp [Lib.compareBytes]
  | [], _ :: _ => by simp [Lib.compareBytes]
  | x :: l, [] => by
    have h : ¬ x < 0 := by rw [UInt8.lt_iff_toNat_lt]; simp
    by_cases h2 : 0 < x
    · simp [Lib.compareBytes, h, h2]
    · simp only [List.nil_append, Lib.compareBytes, h, h2, if_false]
      cases l <;> simp [Lib.compareBytes]
  | x :: l, y :: k => by
    have ih := cb_zero l k
    simp only [List.cons_append, Lib.compareBytes, UInt8.lt_iff_toNat_lt]
    by_cases h1 : x.toNat < y.toNat
    · have h2 : ¬ y.toNat < x.toNat := by omega
      simp [h1, h2]
    · by_cases h2 : y.toNat < x.toNat
      · simp [h1, h2]
      · simp only [h1, h2, if_false]
        exact ih
theorem lt_zero (a k : ByteArray) : ltB a (k ++ ⟨#[0]⟩) = !ltB k a := by
  rw [ltB_cb, ltB_cb]
  have h : (k ++ (⟨#[0]⟩ : ByteArray)).data.toList = k.data.toList ++ [0] := by simp
  rw [h]
  have := cb_zero a.data.toList k.data.toList
  by_cases h1 : Lib.compareBytes k.data.toList a.data.toList = -1
  · simp [h1, this]
  · simp [h1, this]
theorem filter_take {E : List En} {p : En → Bool} {m : Nat} (h1 : ∀ i (hi : i < E.length), i < m → p E[i] = true) (h2 : ∀ i (hi : i < E.length), m ≤ i → p E[i] = false) : E.filter p = E.take m := by
  conv => lhs; rw [← List.take_append_drop m E]
  rw [List.filter_append]
  have e1 : (E.take m).filter p = E.take m := by
    rw [List.filter_eq_self]
    intro a ha
    obtain ⟨i, hi, rfl⟩ := List.getElem_of_mem ha
    rw [List.length_take] at hi
    rw [List.getElem_take]
    exact h1 i (by omega) (by omega)
  have e2 : (E.drop m).filter p = [] := by
    rw [List.filter_eq_nil_iff]
    intro a ha
    obtain ⟨i, hi, rfl⟩ := List.getElem_of_mem ha
    rw [List.length_drop] at hi
    rw [List.getElem_drop, h2 _ (by omega) (by omega)]
    decide
  rw [e1, e2, List.append_nil]
theorem seek_back {E : List En} (hr : RiseE E) (k : ByteArray) : seekE E k true = (E.filter (fun e => !ltB k e.k)).getLast? := by
  unfold seekE
  rw [if_neg (by decide)]
  have hle := fnd_le E k
  cases hg : getE E k with
  | some e =>
    obtain ⟨h1, h2⟩ := getE_some hg
    obtain ⟨hl, h3⟩ := List.getElem?_eq_some_iff.1 h1
    rw [filter_take (m := fnd E k + 1)]
    · dsimp only
      rw [List.getLast?_eq_getElem?, List.length_take, Nat.min_eq_left (by omega), Nat.add_sub_cancel, List.getElem?_take_of_lt (by omega), h1]
    · intro i hi him
      rw [Bool.not_eq_true']
      rcases Nat.lt_or_eq_of_le (Nat.le_of_lt_succ him) with h | rfl
      · exact ltB_asymm (fnd_lt h hi)
      · rw [h3, h2]
        exact ltB_irrefl k
    · intro i hi him
      have h4 := hr.at (i := fnd E k) (j := i) (by omega) hi
      rw [h3, h2] at h4
      rw [h4]
      rfl
  | none =>
    rw [filter_take (m := fnd E k)]
    · dsimp only
      rw [List.getLast?_eq_getElem?, List.length_take, Nat.min_eq_left hle]
      by_cases h0 : fnd E k = 0
      · rw [if_pos h0, h0]
        simp
      · rw [if_neg h0, List.getElem?_take_of_lt (by omega)]
    · intro i hi him
      rw [Bool.not_eq_true']
      exact ltB_asymm (fnd_lt him hi)
    · intro i hi him
      have hl : fnd E k < E.length := by omega
      have h5 : ltB k E[fnd E k].k = true := lt_of_le_ne (fnd_ge hr (Nat.le_refl _) hl) (fun hc => getE_none hg hl hc.symm)
      have h6 : ltB k E[i].k = true := by
        rcases Nat.lt_or_eq_of_le him with h | h
        · exact ltB_trans h5 (hr.at h hi)
        · subst h
          exact h5
      rw [h6]
      rfl
theorem scan_oneB {E : List En} (hr : RiseE E) (k : ByteArray) : scanM E ⟨#[]⟩ (k ++ ⟨#[0]⟩) false true 1 = (seekE E k true).toList := by
  rw [scan_spec hr, if_pos rfl, seek_back hr]
  show List.take 1 _ = _
  rw [List.take_one, List.head?_reverse]
  congr 2
  unfold selE
  congr 1
  funext e
  simp only [endB, lt_nil, lt_zero, Bool.not_false, Bool.true_and, Bool.not_not]

end Go.Proofs.Ytojfohpnfciajaa

namespace Go.Proofs.Ytojfohpnfciajaa
set_option maxRecDepth 100000

theorem sel_whole (E : List En) : selE E ⟨#[]⟩ ⟨#[]⟩ true = E := by
  rw [sel_open, List.filter_eq_self]
  intro a _
  rw [lt_nil]
  rfl
theorem topE_le (E : List En) (l : Nat) : topE E l ≤ l := by
  induction l with
  | zero => exact Nat.le_refl _
  | succ l ih =>
    unfold topE
    split
    · exact Nat.le_refl _
    · omega
theorem topE_mono (E : List En) (l : Nat) : topE E l ≤ topE E (l + 1) := by
  conv => rhs; unfold topE
  split
  · rename_i h
    omega
  · exact Nat.le_refl _
/-- each level that is told has a key -/
theorem topE_key (E : List En) : ∀ l n, n < topE E l → keyE n E ≠ []
  | 0, n, h => by simp [topE] at h
  | l + 1, n, h => by
    unfold topE at h
    split at h
    · rename_i h2
      by_cases hn : n < l
      · exact topE_key E l n (by omega)
      · have e : n = l := by omega
        subst e
        exact h2.2
    · exact topE_key E l n h
theorem topE_pos {E : List En} (hh : ∀ e ∈ E, 1 ≤ e.h ∧ e.h ≤ 16) (hE : E ≠ []) : 0 < topE E 16 := by
  have h1 : topE E 1 = 1 := by
    unfold topE
    rw [if_pos]
    refine ⟨rfl, fun hc => ?_⟩
    unfold keyE at hc
    rw [List.map_eq_nil_iff, List.filter_eq_nil_iff] at hc
    obtain ⟨e, l, rfl⟩ : ∃ e l, E = e :: l := by
      cases E with
      | nil => exact absurd rfl hE
      | cons e l => exact ⟨e, l, rfl⟩
    have h2 := hc e List.mem_cons_self
    have h3 := (hh e List.mem_cons_self).1
    simp at h2
    omega
  have h2 : ∀ k, 1 ≤ topE E (1 + k) := by
    intro k
    induction k with
    | zero => exact Nat.le_of_eq h1.symm
    | succ k ih => exact Nat.le_trans ih (topE_mono E (1 + k))
  exact h2 15
theorem topE_nil (l : Nat) : topE [] l = 0 := by
  induction l with
  | zero => rfl
  | succ l ih =>
    unfold topE
    rw [ih, if_neg]
    exact fun h => h.2 rfl
theorem top_iff {E : List En} (hh : ∀ e ∈ E, 1 ≤ e.h ∧ e.h ≤ 16) : 0 < E.length ↔ 0 < topE E 16 := by
  constructor
  · intro h
    exact topE_pos hh (fun hc => by rw [hc] at h; simp at h)
  · intro h
    rcases E with _ | ⟨e, l⟩
    · rw [topE_nil] at h
      omega
    · simp
theorem lvsE_len (E : List En) (l : Nat) : (lvsE E l).length = l := by
  induction l with
  | zero => rfl
  | succ l ih => simp [lvsE, ih]
theorem lvsE_get (E : List En) : ∀ (l n : Nat), n < l → (lvsE E l)[n]? = some (keyE n E)
  | 0, n, h => by omega
  | l + 1, n, h => by
    have hl := lvsE_len E l
    have e : lvsE E (l + 1) = lvsE E l ++ [keyE l E] := rfl
    rw [e]
    by_cases hn : n < l
    · rw [List.getElem?_append_left (by omega)]
      exact lvsE_get E l n hn
    · have h2 : n = l := by omega
      subst h2
      rw [List.getElem?_append_right (by omega), hl]
      simp
theorem lvsE_at (E : List En) (l n : Nat) (h : n < (lvsE E l).length) : (lvsE E l)[n] = keyE n E := by
  have h2 := lvsE_get E l n (by rw [lvsE_len] at h; exact h)
  rw [List.getElem?_eq_getElem h] at h2
  exact Option.some.inj h2
/-- how many are on a level -/
def cntE (n : Nat) (E : List En) (i : Nat) : Nat := ((E.take i).filter (fun e => decide (n < e.h))).length
theorem cntE_le (n : Nat) (E : List En) (i : Nat) : cntE n E i ≤ i := Nat.le_trans (List.length_filter_le _ _) (List.length_take_le _ _)
theorem cntE_on {n : Nat} {E : List En} {i : Nat} (hi : i < E.length) (h : n < E[i].h) : cntE n E (i + 1) = cntE n E i + 1 ∧ ∃ hc : cntE n E i < (keyE n E).length, (keyE n E)[cntE n E i] = E[i].k := by
  have h1 : (E.take (i + 1)).filter (fun e => decide (n < e.h)) = (E.take i).filter (fun e => decide (n < e.h)) ++ [E[i]] := by
    rw [List.take_succ_eq_append_getElem hi, List.filter_append, List.filter_cons_of_pos (by simpa using h), List.filter_nil]
  have h2 : E.filter (fun e => decide (n < e.h)) = (E.take i).filter (fun e => decide (n < e.h)) ++ E[i] :: (E.drop (i + 1)).filter (fun e => decide (n < e.h)) := by
    conv => lhs; rw [← List.take_append_drop (i + 1) E]
    rw [List.filter_append, h1, List.append_assoc]
    rfl
  refine ⟨by unfold cntE; rw [h1]; simp, ?_⟩
  have hk : keyE n E = ((E.take i).filter (fun e => decide (n < e.h))).map En.k ++ E[i].k :: ((E.drop (i + 1)).filter (fun e => decide (n < e.h))).map En.k := by
    unfold keyE
    rw [h2, List.map_append, List.map_cons]
  have hc : cntE n E i < (keyE n E).length := by
    rw [hk]
    unfold cntE
    simp
  refine ⟨hc, ?_⟩
  have h3 : (keyE n E)[cntE n E i]? = some E[i].k := by
    rw [hk]
    unfold cntE
    rw [List.getElem?_append_right (by simp)]
    simp
  rw [List.getElem?_eq_getElem hc] at h3
  exact Option.some.inj h3
theorem cntE_off {n : Nat} {E : List En} {i : Nat} (hi : i < E.length) (h : ¬ n < E[i].h) : cntE n E (i + 1) = cntE n E i := by
  unfold cntE
  rw [List.take_succ_eq_append_getElem hi, List.filter_append, List.filter_cons_of_neg (by simpa using h), List.filter_nil, List.append_nil]
theorem cntE_all (n : Nat) (E : List En) : cntE n E E.length = (keyE n E).length := by
  unfold cntE keyE
  rw [List.take_length, List.length_map]

end Go.Proofs.Ytojfohpnfciajaa
