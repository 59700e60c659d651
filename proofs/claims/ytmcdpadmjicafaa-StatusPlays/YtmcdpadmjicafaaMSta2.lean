/- Those that are not decided, as places. -/
import Derived.Test.YtmcdpadmjicafaaMSta
namespace Go.Proofs.Ytmcdpadmjicafaa
set_option maxRecDepth 100000

/-- the word at a place -/
def wdT (T : List Tx) (i : Nat) : Nat := match T[i]? with
  | some x => x.wd
  | none => 0
theorem wdT_at {T : List Tx} {i : Nat} {x : Tx} (h : T[i]? = some x) : wdT T i = x.wd := by unfold wdT; rw [h]
def keepO (T : List Tx) (O : List Nat) : List Nat := O.filter fun i => !decd (wdT T i)
theorem keepO_take (T : List Tx) (O : List Nat) (j : Nat) (hj : j < O.length) : keepO T (O.take (j + 1)) = keepO T (O.take j) ++ (if decd (wdT T O[j]) then [] else [O[j]]) := by
  unfold keepO
  rw [← List.take_append_getElem hj, List.filter_append]
  congr 1
  cases hd : decd (wdT T O[j]) <;> simp [List.filter, hd]
theorem keepO_len (T : List Tx) (O : List Nat) : (keepO T O).length ≤ O.length := List.length_filter_le _ _
theorem rise_eq : ∀ {a b : List Nat}, a.Pairwise (· < ·) → b.Pairwise (· < ·) → (∀ x, x ∈ a ↔ x ∈ b) → a = b
  | [], [], _, _, _ => rfl
  | [], y :: b, _, _, h => by have := (h y).2 List.mem_cons_self; simp at this
  | x :: a, [], _, _, h => by have := (h x).1 List.mem_cons_self; simp at this
  | x :: a, y :: b, ha, hb, h => by
    rw [List.pairwise_cons] at ha hb
    have e : x = y := by
      rcases List.mem_cons.1 ((h x).1 List.mem_cons_self) with e | hx
      · exact e
      · rcases List.mem_cons.1 ((h y).2 List.mem_cons_self) with e | hy
        · exact e.symm
        · have h1 := hb.1 x hx
          have h2 := ha.1 y hy
          omega
    subst e
    rw [rise_eq ha.2 hb.2 fun z => ?_]
    constructor
    · intro hz
      rcases List.mem_cons.1 ((h z).1 (List.mem_cons_of_mem _ hz)) with e | hz'
      · have := ha.1 z hz
        omega
      · exact hz'
    · intro hz
      rcases List.mem_cons.1 ((h z).2 (List.mem_cons_of_mem _ hz)) with e | hz'
      · have := hb.1 z hz
        omega
      · exact hz'
/-- the places of those that are not decided -/
def undI (k : Nat) : List Tx → List Nat
  | [] => []
  | x :: t => if decd x.wd then undI (k + 1) t else k :: undI (k + 1) t
theorem open_undI : ∀ (T : List Tx) (k : Nat), openA k T = (undI k T).map (fun (i : Nat) => (i : Int) + 1)
  | [], _ => rfl
  | x :: t, k => by
    unfold openA undI
    rw [open_undI t (k + 1)]
    split <;> rfl
theorem undI_mem : ∀ (T : List Tx) (k i : Nat), i ∈ undI k T ↔ ∃ j x, T[j]? = some x ∧ decd x.wd = false ∧ i = k + j
  | [], k, i => by simp [undI]
  | x :: t, k, i => by
    have ih := undI_mem t (k + 1) i
    unfold undI
    constructor
    · intro h
      have h' : (decd x.wd = false ∧ i = k) ∨ i ∈ undI (k + 1) t := by
        split at h
        · exact .inr h
        · rename_i hd
          rcases List.mem_cons.1 h with e | h
          · exact .inl ⟨by simpa using hd, e⟩
          · exact .inr h
      rcases h' with ⟨hd, e⟩ | h
      · exact ⟨0, x, rfl, hd, by omega⟩
      · obtain ⟨j, y, h1, h2, h3⟩ := ih.1 h
        exact ⟨j + 1, y, h1, h2, by omega⟩
    · rintro ⟨j, y, h1, h2, h3⟩
      cases j with
      | zero =>
        cases h1
        rw [if_neg (by simp [h2])]
        exact List.mem_cons.2 (.inl (by omega))
      | succ j =>
        have := ih.2 ⟨j, y, h1, h2, by omega⟩
        split
        · exact this
        · exact List.mem_cons_of_mem _ this
theorem undI_rise : ∀ (T : List Tx) (k : Nat), (undI k T).Pairwise (· < ·)
  | [], _ => List.Pairwise.nil
  | x :: t, k => by
    unfold undI
    split
    · exact undI_rise t (k + 1)
    · refine List.pairwise_cons.2 ⟨fun i hi => ?_, undI_rise t (k + 1)⟩
      obtain ⟨j, _, _, _, h⟩ := (undI_mem t (k + 1) i).1 hi
      omega
theorem keepO_is {T : List Tx} {O : List Nat} (h1 : O.Pairwise (· < ·)) (h2 : ∀ i ∈ O, i < T.length) (h3 : ∀ i x, T[i]? = some x → decd x.wd = false → i ∈ O) : keepO T O = undI 0 T := by
  refine rise_eq (h1.filter _) (undI_rise T 0) fun i => ?_
  unfold keepO
  rw [List.mem_filter, undI_mem]
  constructor
  · rintro ⟨hi, hd⟩
    have hx := List.getElem?_eq_getElem (h2 i hi)
    refine ⟨i, _, hx, ?_, by omega⟩
    rw [wdT_at hx] at hd
    simpa using hd
  · rintro ⟨j, x, hx, hd, e⟩
    have e' : i = j := by omega
    subst e'
    exact ⟨h3 i x hx hd, by rw [wdT_at hx, hd]; rfl⟩
theorem openA_len (T : List Tx) : (openA 0 T).length = (undI 0 T).length := by rw [open_undI, List.length_map]
end Go.Proofs.Ytmcdpadmjicafaa
