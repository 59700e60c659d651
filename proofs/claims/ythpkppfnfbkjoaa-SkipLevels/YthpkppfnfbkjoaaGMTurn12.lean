/- Plain mathematics: what SkipTurns and SkipLevels say of a list. -/
import Derived.Test.YthpkppfnfbkjoaaGMMade
namespace Go.Proofs.Ythpkppfnfbkjoaa
set_option maxRecDepth 100000

theorem scan_all {E : List En} (hr : RiseE E) (lo hi : ByteArray) (op : Bool) : scanM E lo hi op false (E.length : Int) = selE E lo hi op := by
  rw [scan_spec hr, if_neg (by decide), Int.toNat_natCast, List.take_of_length_le (sel_len E lo hi op)]
theorem scan_allB {E : List En} (hr : RiseE E) (lo hi : ByteArray) (op : Bool) : scanM E lo hi op true (E.length : Int) = (selE E lo hi op).reverse := by
  rw [scan_spec hr, if_pos rfl, Int.toNat_natCast, List.take_of_length_le (by rw [List.length_reverse]; exact sel_len E lo hi op)]
theorem sel_open (E : List En) (lo hi : ByteArray) : selE E lo hi true = E.filter (fun e => !ltB e.k lo) := by
  unfold selE
  congr 1
  funext e
  simp [endB]
theorem scan_one {E : List En} (hr : RiseE E) (k hi : ByteArray) : scanM E k hi true false 1 = (seekE E k false).toList := by
  rw [scan_spec hr, if_neg (by decide), sel_open, ← drop_filter hr]
  show List.take 1 _ = _
  unfold seekE
  rw [if_pos rfl, List.take_one, List.head?_drop]
theorem lt_nil (a : ByteArray) : ltB a ⟨#[]⟩ = false := by
  rw [ltB_cb]
  cases h : a.data.toList with
  | nil => simp [Lib.compareBytes]
  | cons x l => simp [Lib.compareBytes]
theorem cb_zero : ∀ (a k : List UInt8), (Lib.compareBytes a (k ++ [0]) = -1) ↔ ¬ Lib.compareBytes k a = -1
  | [], [] => by simp [Lib.compareBytes]
  | [], _ :: _ => by simp [Lib.compareBytes]
  | x :: l, [] => by
    have h : ¬ x < 0 := by rw [UInt8.lt_iff_toNat_lt]; simp
    by_cases h2 : 0 < x
    · simp [Lib.compareBytes, h, h2]
    · simp only [List.nil_append, Lib.compareBytes, h, h2, if_false]
      cases l <;> simp [Lib.compareBytes]
  | x :: l, y :: k => by
    have ih := cb_zero l k
    simp only [List.cons_append, Lib.compareBytes, UInt8.lt_iff_toNat_lt]
    by_cases h1 : x.toNat < y.toNat
    · have h2 : ¬ y.toNat < x.toNat := by omega
      simp [h1, h2]
    · by_cases h2 : y.toNat < x.toNat
      · simp [h1, h2]
      · simp only [h1, h2, if_false]
        exact ih
theorem lt_zero (a k : ByteArray) : ltB a (k ++ ⟨#[0]⟩) = !ltB k a := by
  rw [ltB_cb, ltB_cb]
  have h : (k ++ (⟨#[0]⟩ : ByteArray)).data.toList = k.data.toList ++ [0] := by simp
  rw [h]
  have := cb_zero a.data.toList k.data.toList
  by_cases h1 : Lib.compareBytes k.data.toList a.data.toList = -1
  · simp [h1, this]
  · simp [h1, this]
theorem filter_take {E : List En} {p : En → Bool} {m : Nat} (h1 : ∀ i (hi : i < E.length), i < m → p E[i] = true) (h2 : ∀ i (hi : i < E.length), m ≤ i → p E[i] = false) : E.filter p = E.take m := by
  conv => lhs; rw [← List.take_append_drop m E]
  rw [List.filter_append]
  have e1 : (E.take m).filter p = E.take m := by
    rw [List.filter_eq_self]
    intro a ha
    obtain ⟨i, hi, rfl⟩ := List.getElem_of_mem ha
    rw [List.length_take] at hi
    rw [List.getElem_take]
    exact h1 i (by omega) (by omega)
  have e2 : (E.drop m).filter p = [] := by
    rw [List.filter_eq_nil_iff]
    intro a ha
    obtain ⟨i, hi, rfl⟩ := List.getElem_of_mem ha
    rw [List.length_drop] at hi
    rw [List.getElem_drop, h2 _ (by omega) (by omega)]
    decide
  rw [e1, e2, List.append_nil]
theorem seek_back {E : List En} (hr : RiseE E) (k : ByteArray) : seekE E k true = (E.filter (fun e => !ltB k e.k)).getLast? := by
  unfold seekE
  rw [if_neg (by decide)]
  have hle := fnd_le E k
  cases hg : getE E k with
  | some e =>
    obtain ⟨h1, h2⟩ := getE_some hg
    obtain ⟨hl, h3⟩ := List.getElem?_eq_some_iff.1 h1
    rw [filter_take (m := fnd E k + 1)]
    · dsimp only
      rw [List.getLast?_eq_getElem?, List.length_take, Nat.min_eq_left (by omega), Nat.add_sub_cancel, List.getElem?_take_of_lt (by omega), h1]
    · intro i hi him
      rw [Bool.not_eq_true']
      rcases Nat.lt_or_eq_of_le (Nat.le_of_lt_succ him) with h | rfl
      · exact ltB_asymm (fnd_lt h hi)
      · rw [h3, h2]
        exact ltB_irrefl k
    · intro i hi him
      have h4 := hr.at (i := fnd E k) (j := i) (by omega) hi
      rw [h3, h2] at h4
      rw [h4]
      rfl
  | none =>
    rw [filter_take (m := fnd E k)]
    · dsimp only
      rw [List.getLast?_eq_getElem?, List.length_take, Nat.min_eq_left hle]
      by_cases h0 : fnd E k = 0
      · rw [if_pos h0, h0]
        simp
      · rw [if_neg h0, List.getElem?_take_of_lt (by omega)]
    · intro i hi him
      rw [Bool.not_eq_true']
      exact ltB_asymm (fnd_lt him hi)
    · intro i hi him
      have hl : fnd E k < E.length := by omega
      have h5 : ltB k E[fnd E k].k = true := lt_of_le_ne (fnd_ge hr (Nat.le_refl _) hl) (fun hc => getE_none hg hl hc.symm)
      have h6 : ltB k E[i].k = true := by
        rcases Nat.lt_or_eq_of_le him with h | h
        · exact ltB_trans h5 (hr.at h hi)
        · subst h
          exact h5
      rw [h6]
      rfl
theorem scan_oneB {E : List En} (hr : RiseE E) (k : ByteArray) : scanM E ⟨#[]⟩ (k ++ ⟨#[0]⟩) false true 1 = (seekE E k true).toList := by
  rw [scan_spec hr, if_pos rfl, seek_back hr]
  show List.take 1 _ = _
  rw [List.take_one, List.head?_reverse]
  congr 2
  unfold selE
  congr 1
  funext e
  simp only [endB, lt_nil, lt_zero, Bool.not_false, Bool.true_and, Bool.not_not]

end Go.Proofs.Ythpkppfnfbkjoaa
