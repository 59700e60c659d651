/- What a change of a row is, as bytes. -/
import Derived.Test.YtgnedioggpgeeaaDoorWSameR
namespace Go.Proofs.YtgnedioggpgeeaaDoor
open Go.RowKit
set_option maxRecDepth 100000

/-- one column of a change -/
def stepC (L M : List Vl) (j : Nat) (s : List UInt8 × Nat) : List UInt8 × Nat :=
  match L[j]?, M[j]? with
  | some a, some b => if sameV a b then s else (s.1 ++ varB (j - s.2) ++ rowB [b], j + 1)
  | _, _ => s
/-- the first columns of a change: its bytes, and the column behind the last one that it tells -/
def chgS (L M : List Vl) : Nat → List UInt8 × Nat
  | 0 => ([], 0)
  | j + 1 => stepC L M j (chgS L M j)
theorem chgS_same {L M : List Vl} {j : Nat} (h1 : j < L.length) (h2 : j < M.length) (h : sameV L[j] M[j] = true) : chgS L M (j + 1) = chgS L M j := by
  show stepC L M j (chgS L M j) = _
  unfold stepC
  rw [List.getElem?_eq_getElem h1, List.getElem?_eq_getElem h2]
  simp [h]
theorem chgS_else {L M : List Vl} {j : Nat} (h1 : j < L.length) (h2 : j < M.length) (h : sameV L[j] M[j] = false) : chgS L M (j + 1) = ((chgS L M j).1 ++ varB (j - (chgS L M j).2) ++ rowB [M[j]], j + 1) := by
  show stepC L M j (chgS L M j) = _
  unfold stepC
  rw [List.getElem?_eq_getElem h1, List.getElem?_eq_getElem h2]
  simp [h]
theorem chgS_le (L M : List Vl) : ∀ j, (chgS L M j).2 ≤ j
  | 0 => Nat.le_refl _
  | j + 1 => by
    have ih := chgS_le L M j
    show (stepC L M j (chgS L M j)).2 ≤ _
    unfold stepC
    split
    · split
      · omega
      · exact Nat.le_refl _
    · omega
theorem row1_len {b : Vl} (h : b.s.size ≤ 65536) : (rowB [b]).length ≤ 65547 := by
  have := flat_len [b] (fun v hv => by rw [List.mem_singleton.1 hv]; exact h)
  unfold rowB
  rw [List.length_append, packK_len]
  simp only [List.length_singleton] at this ⊢
  omega
theorem chgS_len {L M : List Vl} (h : ∀ v ∈ M, v.s.size ≤ 65536) : ∀ j, (chgS L M j).1.length ≤ j * 65557
  | 0 => Nat.zero_le _
  | j + 1 => by
    have ih := chgS_len (L := L) h j
    show (stepC L M j (chgS L M j)).1.length ≤ (j + 1) * 65557
    rw [Nat.succ_mul j 65557]
    generalize j * 65557 = q at ih ⊢
    unfold stepC
    split
    · rename_i a b _ hb
      split
      · omega
      · have h1 := varB_len (j - (chgS L M j).2)
        have h2 := row1_len (h b (List.mem_of_getElem? hb))
        simp only [List.length_append]
        omega
    · omega
theorem chgS_up (L M : List Vl) (j : Nat) : (chgS L M j).1.length ≤ (chgS L M (j + 1)).1.length := by
  show _ ≤ (stepC L M j (chgS L M j)).1.length
  unfold stepC
  split
  · split
    · omega
    · simp only [List.length_append]
      omega
  · omega
theorem chgS_mono (L M : List Vl) (j : Nat) : ∀ d, (chgS L M j).1.length ≤ (chgS L M (j + d)).1.length
  | 0 => Nat.le_refl _
  | d + 1 => Nat.le_trans (chgS_mono L M j d) (chgS_up L M (j + d))
/-- what Change answers -/
def chgR (t : Tb) (L M : List Vl) : List UInt8 × Int :=
  if admS t L = 0 then (if admS t M = 0 then (if (chgS L M M.length).1.length ≤ 65536 then ((chgS L M M.length).1, 0) else ([], 3)) else ([], admS t M)) else ([], admS t L)
theorem admS_len {t : Tb} {l : List Vl} (h : admS t l = 0) : l.length = t.cs.length := by
  unfold admS at h
  by_cases hc : checkS t = 0
  · rw [if_pos hc] at h
    by_cases hl : l.length = t.cs.length
    · exact hl
    · rw [if_neg hl] at h
      omega
  · rw [if_neg hc] at h
    exact absurd h hc
/-- the part of a row that one column is -/
theorem slice_one (b o n c j : Nat) (w : World) (h1 : j < n) (h2 : n ≤ c) :
    (Instr.slice 28 (.slice (some ⟨b, o, none⟩) n c) (some (.int .i64 (j : Int))) (some (.int .i64 ((j : Int) + 1))) none).run Tryd.prog w = .ok (.slice (some ⟨b, o + j * 4, none⟩) 1 (c - j)) w := by
  have e1 : ((j : Int) + 1).toNat = j + 1 := by omega
  have e2 : j + 1 - j = 1 := by omega
  have e3 : ¬ c = j := by omega
  have e4 : (j : Int).toNat = j := by omega
  rw [run_slice_lh w 28 (some ⟨b, o, none⟩) n c Tryd.underlying28 .i64 .i64 (j : Int) ((j : Int) + 1) (by omega) (by omega) (by omega)]
  simp [go_sem, sliced, e1, e2, e3, e4, Addr.add]
theorem RowV.one {w : World} {B b o : Nat} {L : List Vl} (h : RowV w B (some ⟨b, o, none⟩) L) (j : Nat) (hj : j < L.length) : RowV w B (some ⟨b, o + j * 4, none⟩) [L[j]] := by
  intro i hi
  have e : i = 0 := by simp at hi; omega
  subst e
  obtain ⟨b', o', e1, hb, c0, c1, c2, c3⟩ := h j hj
  injection e1 with e2
  injection e2 with e3 e4 _
  subst e3 e4
  exact ⟨b, o + j * 4, rfl, hb, by simpa using c0, by simpa using c1, by simpa using c2, by simpa using c3⟩
end Go.Proofs.YtgnedioggpgeeaaDoor
