/- Whoever is there holds the floor; so many readers can be there. -/
import Derived.Test.YtbmgkoifidhfjaaWSnpP
namespace Go.Proofs.Ytbmgkoifidhfjaa
open Go.RowKit
set_option maxRecDepth 100000

/-- no reader is below the floor -/
def Hol (fl : Nat) (R : List Rd) : Prop := ∀ r ∈ R, fl ≤ r.st
theorem lstA_le : ∀ (R : List Rd) (m : Nat), lstA R m ≤ m ∧ ∀ r ∈ R, lstA R m ≤ r.st
  | [], m => ⟨Nat.le_refl _, fun r hr => by cases hr⟩
  | x :: t, m => by
    obtain ⟨h1, h2⟩ := lstA_le t (min m x.st)
    refine ⟨?_, fun r hr => ?_⟩
    · show lstA t (min m x.st) ≤ m
      omega
    · show lstA t (min m x.st) ≤ r.st
      rcases List.mem_cons.1 hr with e | e
      · subst e
        omega
      · exact h2 r e
theorem lstR_le {R : List Rd} {r : Rd} (h : r ∈ R) : lstR R ≤ r.st := by
  cases R with
  | nil => cases h
  | cons x t => exact (lstA_le (x :: t) x.st).2 r h
theorem ent_hol {fl s : Nat} {R : List Rd} (h : Hol fl R) : Hol fl (entL fl R s) := by
  unfold entL
  split
  · rename_i he
    intro r hr
    unfold entR at hr
    rcases List.mem_append.1 hr with h1 | h1
    · exact h r (List.mem_of_mem_take h1)
    · rcases List.mem_cons.1 h1 with e | h1
      · subst e
        show fl ≤ s
        unfold entE at he
        split at he
        · omega
        · split at he
          · omega
          · omega
      · exact h r (List.mem_of_mem_drop h1)
  · exact h
theorem go_hol {fl : Nat} {R : List Rd} (h : Hol fl R) (n : Int) : Hol fl (goR R n) := fun r hr => h r (List.mem_filter.1 hr).1
theorem rai_hol {fl s : Nat} {R : List Rd} (h : Hol fl R) : Hol (raiN fl R s) R := fun r hr => by
  have h1 := lstR_le hr
  have h2 := h r hr
  have h3 : somR R = true := by cases R with
    | nil => cases hr
    | cons x t => rfl
  unfold raiN
  rw [h3, if_pos rfl]
  omega
theorem rai_ge (fl s : Nat) (R : List Rd) : fl ≤ raiN fl R s := by
  unfold raiN
  omega
theorem step_hol {k n : Int} {s fl : Nat} {R : List Rd} (h : Hol fl R) : Hol (stepF k s fl R) (stepR k n s fl R) ∧ fl ≤ stepF k s fl R := by
  unfold stepF stepR
  by_cases h1 : k = 1
  · subst h1
    exact ⟨ent_hol h, Nat.le_refl _⟩
  · by_cases h2 : k = 2
    · subst h2
      exact ⟨go_hol h n, Nat.le_refl _⟩
    · by_cases h3 : k = 3
      · subst h3
        exact ⟨rai_hol h, rai_ge _ _ _⟩
      · rw [if_neg h1, if_neg h2, if_neg h3]
        exact ⟨h, Nat.le_refl _⟩
/-- the first i slots, all at one stamp -/
def fulR (s : Nat) : Nat → List Rd
  | 0 => []
  | i + 1 => fulR s i ++ [⟨i, s⟩]
theorem ful_len (s : Nat) : ∀ i, (fulR s i).length = i
  | 0 => rfl
  | i + 1 => by rw [fulR, List.length_append, ful_len s i]; rfl
theorem ful_at (s : Nat) : ∀ (i j : Nat) (hj : j < (fulR s i).length), (fulR s i)[j] = ⟨j, s⟩
  | 0, j, hj => by simp [fulR] at hj
  | i + 1, j, hj => by
    have hl := ful_len s i
    rcases Nat.lt_or_ge j i with h | h
    · have : j < (fulR s i).length := by omega
      simp only [fulR]
      rw [List.getElem_append_left this]
      exact ful_at s i j this
    · have e : j = i := by rw [ful_len] at hj; omega
      subst e
      simp only [fulR]
      rw [List.getElem_append_right (by omega)]
      simp [hl]
theorem ful_free (s i : Nat) (hI : InvR (fulR s i)) : freeN (fulR s i) = i := by
  refine Free.uniq (free_is hI) ⟨by rw [ful_len]; exact Nat.le_refl _, fun j hj _ => by rw [ful_at], fun j hj h => ?_⟩
  rw [ful_len] at hj
  omega
theorem ful_ent (s i : Nat) (hI : InvR (fulR s i)) (hs : s ≤ 4611686018427387904) (hi : i < 256) : entE 0 (fulR s i) s = 0 ∧ entN 0 (fulR s i) s = i ∧ entL 0 (fulR s i) s = fulR s (i + 1) := by
  have h1 : entE 0 (fulR s i) s = 0 := by
    unfold entE
    rw [if_neg (by omega), if_neg (by omega), if_neg (by rw [ful_len]; omega)]
  refine ⟨h1, ?_, ?_⟩
  · unfold entN
    rw [h1, if_pos rfl, ful_free s i hI]
  · unfold entL
    rw [h1, if_pos rfl]
    unfold entR
    rw [ful_free s i hI]
    have e1 : (fulR s i).take i = fulR s i := by
      have := List.take_length (l := fulR s i)
      rw [ful_len] at this
      exact this
    have e2 : (fulR s i).drop i = [] := by
      apply List.drop_eq_nil_of_le
      rw [ful_len]
      exact Nat.le_refl _
    rw [e1, e2]
    rfl
theorem ful_over (s : Nat) (hs : s ≤ 4611686018427387904) : entE 0 (fulR s 256) s = 2 ∧ entL 0 (fulR s 256) s = fulR s 256 ∧ entN 0 (fulR s 256) s = 0 := by
  have h1 : entE 0 (fulR s 256) s = 2 := by
    unfold entE
    rw [if_neg (by omega), if_neg (by omega), if_pos (ful_len s 256)]
  refine ⟨h1, ?_, ?_⟩
  · unfold entL
    rw [h1, if_neg (by decide)]
  · unfold entN
    rw [h1, if_neg (by decide)]
/-- one leaves, and one enters -/
theorem ful_gone (s o : Nat) (ho : o < 256) (hI : InvR (fulR s 256)) : leaE (fulR s 256) (o : Nat) = 0 ∧ goR (fulR s 256) (o : Nat) = (fulR s 256).take o ++ (fulR s 256).drop (o + 1) := by
  have hl : o < (fulR s 256).length := by rw [ful_len]; exact ho
  have e : ((fulR s 256)[o]).sl = o := by rw [ful_at]
  have h1 := has_at hl
  have h2 := go_at hI hl
  rw [e] at h1 h2
  exact ⟨by unfold leaE; rw [h1]; rfl, h2⟩
theorem gone_len (s o : Nat) (ho : o < 256) : ((fulR s 256).take o ++ (fulR s 256).drop (o + 1)).length = 255 := by
  rw [List.length_append, List.length_take, List.length_drop, ful_len]
  omega
theorem gone_no (s o : Nat) (_ho : o < 256) : hasR ((fulR s 256).take o ++ (fulR s 256).drop (o + 1)) (o : Nat) = false := by
  refine List.any_eq_false.2 fun r hr => ?_
  have hr2 : r.sl ≠ o := by
    rcases List.mem_append.1 hr with h | h
    · obtain ⟨i, hi, e⟩ := List.getElem_of_mem h
      rw [List.getElem_take, ful_at] at e
      rw [List.length_take] at hi
      rw [← e]
      show i ≠ o
      omega
    · obtain ⟨i, hi, e⟩ := List.getElem_of_mem h
      rw [List.getElem_drop, ful_at] at e
      rw [← e]
      show o + 1 + i ≠ o
      omega
  simp
  omega
theorem gone_free (s o : Nat) (ho : o < 256) (hI : InvR ((fulR s 256).take o ++ (fulR s 256).drop (o + 1))) : freeN ((fulR s 256).take o ++ (fulR s 256).drop (o + 1)) = o := by
  have hto : ((fulR s 256).take o).length = o := by rw [List.length_take, ful_len]; omega
  refine Free.uniq (free_is hI) ⟨by rw [gone_len s o ho]; omega, fun j hj h => ?_, fun j hj h => ?_⟩
  · rw [List.getElem_append_left (by omega), List.getElem_take, ful_at]
  · rw [List.getElem_append_right (by omega), List.getElem_drop, ful_at]
    show j < o + 1 + (j - ((fulR s 256).take o).length)
    omega
theorem gone_ent (s o : Nat) (ho : o < 256) (hs : s ≤ 4611686018427387904) (hI : InvR ((fulR s 256).take o ++ (fulR s 256).drop (o + 1))) :
    entE 0 ((fulR s 256).take o ++ (fulR s 256).drop (o + 1)) s = 0 ∧ entN 0 ((fulR s 256).take o ++ (fulR s 256).drop (o + 1)) s = o ∧ (entL 0 ((fulR s 256).take o ++ (fulR s 256).drop (o + 1)) s).length = 256 := by
  have h1 : entE 0 ((fulR s 256).take o ++ (fulR s 256).drop (o + 1)) s = 0 := by
    unfold entE
    rw [if_neg (by omega), if_neg (by omega), if_neg (by rw [gone_len s o ho]; omega)]
  refine ⟨h1, ?_, ?_⟩
  · unfold entN
    rw [h1, if_pos rfl, gone_free s o ho hI]
  · unfold entL
    rw [h1, if_pos rfl, ent_len _ _ hI, gone_len s o ho]
end Go.Proofs.Ytbmgkoifidhfjaa
