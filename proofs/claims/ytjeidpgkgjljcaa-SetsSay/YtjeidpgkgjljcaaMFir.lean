/- Lists and tests. -/
import Derived.Test.YtjeidpgkgjljcaaProg
namespace Go.Proofs.Ytjeidpgkgjljcaa

/-- where the first that meets a test stands -/
def firstG {α : Type} (t : α → Bool) : List α → Nat
  | [] => 0
  | r :: L => if t r then 0 else firstG t L + 1
theorem firstG_le {α : Type} (t : α → Bool) : ∀ L : List α, firstG t L ≤ L.length
  | [] => Nat.le_refl _
  | r :: L => by
    have := firstG_le t L
    unfold firstG
    split
    · omega
    · simp only [List.length_cons]; omega
theorem firstG_step {α : Type} (t : α → Bool) : ∀ (L : List α) (j : Nat) (hj : j < L.length), j ≤ firstG t L → (t L[j] = true → firstG t L = j) ∧ (t L[j] = false → j + 1 ≤ firstG t L)
  | [], j, hj, _ => by simp at hj
  | r :: L, 0, _, _ => by
    refine ⟨fun h => ?_, fun h => ?_⟩
    · have h' : t r = true := h
      unfold firstG; rw [if_pos h']
    · have h' : t r = false := h
      unfold firstG; rw [if_neg (by simp [h'])]; omega
  | r :: L, j + 1, hj, hle => by
    unfold firstG at hle ⊢
    split at hle
    · omega
    · rename_i hn
      rw [if_neg hn]
      obtain ⟨h1, h2⟩ := firstG_step t L j (by simpa using hj) (by omega)
      exact ⟨fun h => by rw [h1 h], fun h => by have := h2 h; omega⟩
theorem firstG_iff {α : Type} (t : α → Bool) : ∀ L : List α, firstG t L = L.length ↔ L.any t = false
  | [] => by simp [firstG]
  | r :: L => by
    have ih := firstG_iff t L
    unfold firstG
    cases h : t r
    · simp [h, ih]
    · simp [h]
theorem firstG_any {α : Type} (t : α → Bool) (L : List α) : decide (0 ≤ (if firstG t L = L.length then (-1 : Int) else (firstG t L : Int))) = L.any t := by
  have h := firstG_iff t L
  cases ha : L.any t
  · rw [if_pos (h.2 ha)]; rfl
  · rw [if_neg (fun e => by rw [h.1 e] at ha; cases ha)]; simp
/-- those that do not meet a test -/
def dropG {α : Type} (t : α → Bool) (L : List α) : List α := L.filter (fun r => !t r)
theorem dropG_snoc {α : Type} (t : α → Bool) (L : List α) (j : Nat) (hj : j < L.length) : dropG t (L.take (j + 1)) = if t L[j] then dropG t (L.take j) else dropG t (L.take j) ++ [L[j]] := by
  unfold dropG
  rw [← List.take_append_getElem hj, List.filter_append]
  cases h : t L[j] <;> simp [h]
theorem firstG_take {α : Type} (t : α → Bool) : ∀ (L : List α), firstG t L < L.length → dropG t (L.take (firstG t L + 1)) = L.take (firstG t L)
  | [], h => by simp at h
  | r :: L, h => by
    unfold firstG at h ⊢
    by_cases hr : t r = true
    · rw [if_pos hr]
      simp [dropG, hr]
    · rw [if_neg hr] at h ⊢
      have ih := firstG_take t L (by simpa using h)
      rw [List.take_succ_cons, List.take_succ_cons]
      unfold dropG at ih ⊢
      rw [List.filter_cons, ih]
      simp at hr
      simp [hr]
theorem firstG_none {α : Type} (t : α → Bool) : ∀ (L : List α), firstG t L = L.length → dropG t L = L
  | [], _ => rfl
  | r :: L, h => by
    unfold firstG at h
    by_cases hr : t r = true
    · rw [if_pos hr] at h; simp at h
    · rw [if_neg hr] at h
      have ih := firstG_none t L (by simpa using h)
      unfold dropG at ih ⊢
      rw [List.filter_cons, ih]
      simp at hr
      simp [hr]
theorem take_mem {α : Type} (L : List α) (j : Nat) (hj : j < L.length) (x : α) : x ∈ L.take (j + 1) ↔ x ∈ L.take j ∨ x = L[j] := by
  rw [← List.take_append_getElem hj, List.mem_append, List.mem_singleton]
end Go.Proofs.Ytjeidpgkgjljcaa
