/- How points stand. -/
import Derived.Test.YtjeidpgkgjljcaaWPt
namespace Go.Proofs.Ytjeidpgkgjljcaa
open Go.RowKit

def cmpI (a b : Int) : Int := if a < b then -1 else if b < a then 1 else 0
/-- how two points stand -/
def cmpP (a b : Pt) : Int := if cmpI a.t b.t != 0 then cmpI a.t b.t else if cmpI a.i b.i != 0 then cmpI a.i b.i else Lib.compareBytes a.k.data.toList b.k.data.toList
def ltP (a b : Pt) : Bool := decide (cmpP a b < 0)
theorem cmpI_cases (a b : Int) : (a < b ∧ cmpI a b = -1) ∨ (a = b ∧ cmpI a b = 0) ∨ (b < a ∧ cmpI a b = 1) := by
  unfold cmpI
  rcases Int.lt_trichotomy a b with h | h | h
  · exact .inl ⟨h, by rw [if_pos h]⟩
  · subst h; exact .inr (.inl ⟨rfl, by simp⟩)
  · exact .inr (.inr ⟨h, by rw [if_neg (by omega), if_pos h]⟩)
theorem cb_zero {a b : ByteArray} (h : Lib.compareBytes a.data.toList b.data.toList = 0) : a = b := by
  have h1 := eq_cb a.data.toList b.data.toList
  rw [h] at h1
  have h2 : a.data.toList = b.data.toList := by simpa using h1
  exact bytes_eq h2
/-- what a comparison of points says -/
theorem cmpP_spec (a b : Pt) : (cmpP a b = -1 ∧ (a.t < b.t ∨ a.t = b.t ∧ (a.i < b.i ∨ a.i = b.i ∧ ltB a.k b.k = true))) ∨ (cmpP a b = 0 ∧ a = b) ∨ (cmpP a b = 1 ∧ (b.t < a.t ∨ a.t = b.t ∧ (b.i < a.i ∨ a.i = b.i ∧ ltB b.k a.k = true))) := by
  unfold cmpP
  rcases cmpI_cases a.t b.t with ⟨h, e⟩ | ⟨h, e⟩ | ⟨h, e⟩
  · rw [e]; exact .inl ⟨rfl, .inl h⟩
  · rw [e]
    rcases cmpI_cases a.i b.i with ⟨h2, e2⟩ | ⟨h2, e2⟩ | ⟨h2, e2⟩
    · rw [e2]; exact .inl ⟨rfl, .inr ⟨h, .inl h2⟩⟩
    · rw [e2]
      show _ ∨ _ ∨ _
      rcases cb_range a.k.data.toList b.k.data.toList with h3 | h3 | h3
      · refine .inl ⟨h3, .inr ⟨h, .inr ⟨h2, ?_⟩⟩⟩
        rw [ltB_cb, h3]; rfl
      · refine .inr (.inl ⟨h3, ?_⟩)
        obtain ⟨t, i, k⟩ := a
        obtain ⟨t', i', k'⟩ := b
        simp only at h h2 h3
        rw [h, h2, cb_zero h3]
      · refine .inr (.inr ⟨h3, .inr ⟨h, .inr ⟨h2, ?_⟩⟩⟩)
        rw [ltB_cb, cb_swap, h3]; rfl
    · rw [e2]; exact .inr (.inr ⟨rfl, .inr ⟨h, .inl h2⟩⟩)
  · rw [e]; exact .inr (.inr ⟨rfl, .inl h⟩)
theorem ltP_iff (a b : Pt) : ltP a b = true ↔ (a.t < b.t ∨ a.t = b.t ∧ (a.i < b.i ∨ a.i = b.i ∧ ltB a.k b.k = true)) := by
  unfold ltP
  rw [decide_eq_true_eq]
  rcases cmpP_spec a b with ⟨e, h⟩ | ⟨e, h⟩ | ⟨e, h⟩
  · exact ⟨fun _ => h, fun _ => by omega⟩
  · subst h
    refine ⟨fun h => by omega, fun h => ?_⟩
    rcases h with h | ⟨_, h | ⟨_, h⟩⟩
    · omega
    · omega
    · rw [ltB_irrefl] at h; cases h
  · refine ⟨fun h => by omega, fun h' => ?_⟩
    exfalso
    rcases h with h | ⟨h1, h | ⟨h2, h⟩⟩ <;> rcases h' with h' | ⟨h1', h' | ⟨h2', h'⟩⟩ <;> try omega
    have := ltB_asymm h
    rw [h'] at this
    cases this
theorem ltP_irrefl (a : Pt) : ltP a a = false := by
  rcases h : ltP a a with _ | _
  · rfl
  · rw [ltP_iff] at h
    rcases h with h | ⟨_, h | ⟨_, h⟩⟩
    · omega
    · omega
    · rw [ltB_irrefl] at h; cases h
theorem ltP_trans {a b c : Pt} (h1 : ltP a b = true) (h2 : ltP b c = true) : ltP a c = true := by
  rw [ltP_iff] at *
  rcases h1 with h | ⟨e1, h | ⟨e2, h⟩⟩ <;> rcases h2 with h' | ⟨e1', h' | ⟨e2', h'⟩⟩
  all_goals first | (left; omega) | (right; refine ⟨by omega, ?_⟩; first | (left; omega) | (right; exact ⟨by omega, lt_trans' h h'⟩))
theorem ltP_tri (a b : Pt) : ltP a b = true ∨ a = b ∨ ltP b a = true := by
  rcases cmpP_spec a b with ⟨e, h⟩ | ⟨e, h⟩ | ⟨e, h⟩
  · exact .inl ((ltP_iff a b).2 h)
  · exact .inr (.inl h)
  · refine .inr (.inr ((ltP_iff b a).2 ?_))
    rcases h with h | ⟨h1, h | ⟨h2, h⟩⟩
    · exact .inl h
    · exact .inr ⟨h1.symm, .inl h⟩
    · exact .inr ⟨h1.symm, .inr ⟨h2.symm, h⟩⟩
theorem ltP_asymm {a b : Pt} (h : ltP a b = true) : ltP b a = false := by
  rcases h2 : ltP b a with _ | _
  · rfl
  · have := ltP_trans h h2
    rw [ltP_irrefl] at this
    cases this
theorem leP_trans {a b c : Pt} (h1 : ltP b a = false) (h2 : ltP c b = false) : ltP c a = false := by
  rcases h : ltP c a with _ | _
  · rfl
  · rcases ltP_tri a b with h3 | h3 | h3
    · rw [ltP_trans h h3] at h2; cases h2
    · subst h3; rw [h] at h2; cases h2
    · rw [h3] at h1; cases h1
theorem leP_antisymm {a b : Pt} (h1 : ltP b a = false) (h2 : ltP a b = false) : a = b := by
  rcases ltP_tri a b with h | h | h
  · rw [h] at h2; cases h2
  · exact h
  · rw [h] at h1; cases h1
theorem cmpP_lt (a b : Pt) : (cmpP a b < 0) ↔ ltP a b = true := by unfold ltP; rw [decide_eq_true_eq]
theorem cmpP_eq (a b : Pt) : (cmpP a b = 0) ↔ a = b := by
  rcases cmpP_spec a b with ⟨e, h⟩ | ⟨e, h⟩ | ⟨e, h⟩
  · refine ⟨fun h => by omega, fun h' => ?_⟩
    subst h'
    have := (ltP_iff a a).2 h
    rw [ltP_irrefl] at this; cases this
  · exact ⟨fun _ => h, fun _ => e⟩
  · refine ⟨fun h => by omega, fun h' => ?_⟩
    subst h'
    have h9 : ltP a a = true := (ltP_iff a a).2 (by
      rcases h with h | ⟨h1, h | ⟨h2, h⟩⟩
      · exact .inl h
      · exact .inr ⟨rfl, .inl h⟩
      · exact .inr ⟨rfl, .inr ⟨rfl, h⟩⟩)
    rw [ltP_irrefl] at h9; cases h9
/-- points that stand in order, each once -/
def RisP (L : List Pt) : Prop := L.Pairwise (fun a b => ltP a b = true)
/-- points that stand in order -/
def UpP (L : List Pt) : Prop := L.Pairwise (fun a b => ltP b a = false)
theorem RisP.uniq : ∀ {A B : List Pt}, RisP A → RisP B → (∀ x, x ∈ A ↔ x ∈ B) → A = B
  | [], [], _, _, _ => rfl
  | [], b :: B, _, _, h => absurd ((h b).2 (List.mem_cons_self ..)) (by simp)
  | a :: A, [], _, _, h => absurd ((h a).1 (List.mem_cons_self ..)) (by simp)
  | a :: A, b :: B, ha, hb, h => by
    have ha' := List.pairwise_cons.1 ha
    have hb' := List.pairwise_cons.1 hb
    have e : a = b := by
      rcases List.mem_cons.1 ((h a).1 (List.mem_cons_self ..)) with h1 | h1
      · exact h1
      · rcases List.mem_cons.1 ((h b).2 (List.mem_cons_self ..)) with h2 | h2
        · exact h2.symm
        · have h3 := ltP_trans (ha'.1 b h2) (hb'.1 a h1)
          rw [ltP_irrefl] at h3; cases h3
    subst e
    rw [RisP.uniq ha'.2 hb'.2 (fun x => ?_)]
    refine ⟨fun hx => ?_, fun hx => ?_⟩
    · rcases List.mem_cons.1 ((h x).1 (List.mem_cons_of_mem _ hx)) with rfl | h1
      · have := ha'.1 x hx; rw [ltP_irrefl] at this; cases this
      · exact h1
    · rcases List.mem_cons.1 ((h x).2 (List.mem_cons_of_mem _ hx)) with rfl | h1
      · have := hb'.1 x hx; rw [ltP_irrefl] at this; cases this
      · exact h1
end Go.Proofs.Ytjeidpgkgjljcaa
