/- What an act does; how many transactions are not decided; one goes one way alone. -/
import Derived.Test.YtmcdpadmjicafaaMSta2
namespace Go.Proofs.Ytmcdpadmjicafaa
set_option maxRecDepth 100000

def uN : List Tx → Nat
  | [] => 0
  | x :: t => (if decd x.wd then 0 else 1) + uN t
theorem uN_undI : ∀ (T : List Tx) (k : Nat), (undI k T).length = uN T
  | [], _ => rfl
  | x :: t, k => by
    unfold undI uN
    have := uN_undI t (k + 1)
    split
    · rw [this]; omega
    · rw [List.length_cons, this]; omega
theorem uN_app : ∀ (T : List Tx), uN (T ++ [⟨0, false⟩]) = uN T + 1
  | [] => rfl
  | x :: t => by
    rw [List.cons_append, uN, uN, uN_app t]
    omega
theorem uN_set : ∀ (T : List Tx) (i : Nat) (y : Tx), uN T ≤ uN (T.set i y) + 1
  | [], _, _ => by simp [uN]
  | x :: t, 0, y => by
    rw [List.set_cons_zero, uN, uN]
    split <;> omega
  | x :: t, i + 1, y => by
    rw [List.set_cons_succ, uN, uN]
    have := uN_set t i y
    omega
theorem uN_same : ∀ (T : List Tx) (i : Nat) (x : Tx) (g : Bool), T[i]? = some x → uN (T.set i ⟨x.wd, g⟩) = uN T
  | [], _, _, _, h => by cases h
  | x :: t, 0, _, g, h => by
    cases h
    rfl
  | x :: t, i + 1, z, g, h => by
    rw [List.set_cons_succ, uN, uN, uN_same t i z g h]

/-- what is there behind an act -/
def stepT (k n : Int) (s : Nat) (T : List Tx) : List Tx :=
  if k = 0 then (begT T).1 else if k = 1 then (turnT T n mayU 4611686018427387905).1 else if k = 2 then (turnT T n (mayC s) s).1 else if k = 3 then (turnT T n mayU 4611686018427387906).1 else if k = 4 then (forgT T n).1 else T
theorem turn_un (T : List Tx) (n : Int) (may : Nat → Int) (tw i : Nat) (h : 2 * T.length ≤ i + uN T) : 2 * (turnT T n may tw).1.length ≤ i + 1 + uN (turnT T n may tw).1 := by
  unfold turnT
  split
  · dsimp only; omega
  · split
    · dsimp only; omega
    · split
      · rename_i j _ _ x _ _
        have := uN_set T j ⟨tw, false⟩
        dsimp only
        rw [List.length_set]
        omega
      · dsimp only; omega
theorem step_len (k n : Int) (s : Nat) (T : List Tx) (i : Nat) (h : 2 * T.length ≤ i + uN T) : 2 * (stepT k n s T).length ≤ i + 1 + uN (stepT k n s T) := by
  unfold stepT
  split
  · unfold begT
    split
    · dsimp only; omega
    · dsimp only
      rw [uN_app, List.length_append, List.length_singleton]
      omega
  · split
    · exact turn_un _ _ _ _ _ h
    · split
      · exact turn_un _ _ _ _ _ h
      · split
        · exact turn_un _ _ _ _ _ h
        · split
          · unfold forgT
            split
            · dsimp only; omega
            · split
              · dsimp only; omega
              · split
                · rename_i j _ _ x hx _
                  rw [uN_same T j x true hx, List.length_set]
                  omega
                · dsimp only; omega
          · omega

/-- ONE WAY: what may become of the first -/
def Way (x x' : Tx) : Prop := (x'.gone = true ∧ decd x.wd = true) ∨ (x'.gone = false ∧ stO x.wd ≤ stO x'.wd ∧ (decd x.wd = true → x'.wd = x.wd))
theorem Way.refl {x : Tx} (h : x.gone = false) : Way x x := .inr ⟨h, Int.le_refl _, fun _ => rfl⟩
theorem turn_way (T : List Tx) (n : Int) (may : Nat → Int) (tw : Nat) {x : Tx} (hx : T[0]? = some x) (hg : x.gone = false) (h : ∀ y, may y = 0 → decd y = false ∧ stO y ≤ stO tw) : ∃ x', (turnT T n may tw).1[0]? = some x' ∧ Way x x' := by
  unfold turnT
  split
  · exact ⟨x, hx, .refl hg⟩
  · split
    · exact ⟨x, hx, .refl hg⟩
    · split
      · rename_i j _ _ z hz hm
        obtain ⟨h1, h2⟩ := h _ hm
        cases j with
        | zero =>
          rw [hx] at hz
          cases hz
          refine ⟨⟨tw, false⟩, List.getElem?_set_self (List.getElem?_eq_some_iff.1 hx).1, .inr ⟨rfl, h2, fun h => by rw [h1] at h; cases h⟩⟩
        | succ j => exact ⟨x, by rw [List.getElem?_set_ne (by omega)]; exact hx, .refl hg⟩
      · exact ⟨x, hx, .refl hg⟩
theorem mayU_way {y : Nat} (h : mayU y = 0) : decd y = false := by
  unfold mayU at h
  split at h
  · omega
  · rename_i h1
    simpa using h1
theorem und_two {y : Nat} (h : decd y = false) : y = 0 ∨ y = 4611686018427387905 := by
  unfold decd at h
  by_cases h0 : y = 0
  · exact .inl h0
  · right
    have e0 : (y == 0) = false := by simpa using h0
    rw [e0] at h
    simpa using h
theorem step_way (k n : Int) (s : Nat) (T : List Tx) {x : Tx} (hx : T[0]? = some x) (hg : x.gone = false) : ∃ x', (stepT k n s T)[0]? = some x' ∧ Way x x' := by
  have hU : ∀ tw, (tw = 4611686018427387905 ∨ tw = 4611686018427387906) → ∀ y, mayU y = 0 → decd y = false ∧ stO y ≤ stO tw := fun tw ht y hy => by
    have h1 := mayU_way hy
    refine ⟨h1, ?_⟩
    rcases und_two h1 with rfl | rfl <;> rcases ht with rfl | rfl <;> decide
  unfold stepT
  split
  · unfold begT
    split
    · exact ⟨x, hx, .refl hg⟩
    · exact ⟨x, by rw [List.getElem?_append_left (List.getElem?_eq_some_iff.1 hx).1]; exact hx, .refl hg⟩
  · split
    · exact turn_way _ _ _ _ hx hg (hU _ (.inl rfl))
    · split
      · refine turn_way _ _ _ _ hx hg (fun y hy => ?_)
        unfold mayC at hy
        split at hy
        · omega
        · rename_i h1
          split at hy
          · omega
          · rename_i h2
            split at hy
            · omega
            · have hd : decd y = false := by simpa using h1
              have hs := stO_stamp s (by omega) (by omega)
              refine ⟨hd, ?_⟩
              rw [hs.1]
              rcases und_two hd with rfl | rfl <;> decide
      · split
        · exact turn_way _ _ _ _ hx hg (hU _ (.inr rfl))
        · split
          · unfold forgT
            split
            · exact ⟨x, hx, .refl hg⟩
            · split
              · exact ⟨x, hx, .refl hg⟩
              · split
                · rename_i j _ _ z hz hm
                  cases j with
                  | zero =>
                    rw [hx] at hz
                    cases hz
                    exact ⟨⟨x.wd, true⟩, List.getElem?_set_self (List.getElem?_eq_some_iff.1 hx).1, .inl ⟨rfl, hm⟩⟩
                  | succ j => exact ⟨x, by rw [List.getElem?_set_ne (by omega)]; exact hx, .refl hg⟩
                · exact ⟨x, hx, .refl hg⟩
          · exact ⟨x, hx, .refl hg⟩
theorem tell_one {T : List Tx} {x : Tx} (hx : T[0]? = some x) : tellT T 1 = if x.gone then (0, 0, 90) else (stO x.wd, spO x.wd, 0) := by
  unfold tellT lookT
  have e : ((1 : Int) - 1).toNat = 0 := rfl
  rw [if_pos (by decide), e, hx]
  dsimp only
  split <;> split <;> rename_i h1 h2 <;> simp_all
end Go.Proofs.Ytmcdpadmjicafaa
