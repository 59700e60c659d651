/- A row read: what Decode answers, told in two ways. -/
import Derived.Test.YtgnedioggpgeeaaDoorWRvs
import Derived.Test.YtgnedioggpgeeaaDoorWRdR
namespace Go.Proofs.YtgnedioggpgeeaaDoor
open Go.RowKit
set_option maxRecDepth 100000

/-- does each column admit its value? -/
def adAll : List Cl → List Vl → Bool
  | [], _ => true
  | _ :: _, [] => false
  | c :: cs, v :: l => decide (admE c v = 0) && adAll cs l
theorem rowA_K (s : ByteArray) : ∀ (cs : List Cl) (i k : Nat), rowA s cs i k = match rowK s (cs.map Cl.kd) i k with
    | none => none
    | some q => if adAll cs q.1 then some q else none
  | [], i, k => by simp [rowA, rowK, adAll]
  | c :: cs, i, k => by
    unfold rowA
    rw [List.map_cons]
    unfold rowK decA
    cases hd : decV c.kd (pairB s i) (s.extract k s.size) with
    | none => rfl
    | some p =>
      dsimp only
      have ih := rowA_K s cs (i + 1) (k + p.2)
      cases hk : rowK s (cs.map Cl.kd) (i + 1) (k + p.2) with
      | none =>
        rw [hk] at ih
        dsimp only at ih
        by_cases ha : admE c p.1 = 0
        · rw [if_pos ha]
          dsimp only
          rw [ih]
        · rw [if_neg ha]
      | some q =>
        rw [hk] at ih
        dsimp only at ih
        by_cases ha : admE c p.1 = 0
        · rw [if_pos ha]
          dsimp only
          rw [ih]
          cases hq : adAll cs q.1 <;> simp [adAll, ha, hq]
        · rw [if_neg ha]
          simp [adAll, ha]
theorem rowK_ok (s : ByteArray) (hs : s.size ≤ 65536) : ∀ (K : List Int) (i k : Nat) (q : List Vl × Nat), (∀ c ∈ K, 1 ≤ c ∧ c ≤ 5) → k ≤ s.size → rowK s K i k = some q → (∀ v ∈ q.1, v.ok) ∧ q.2 ≤ s.size ∧ q.1.length = K.length
  | [], i, k, q, _, hk, h => by
    unfold rowK at h
    injection h with h
    subst h
    exact ⟨(fun v hv => by cases hv), hk, rfl⟩
  | c :: K, i, k, q, hc, hk, h => by
    unfold rowK at h
    have hxx : (s.extract k s.size).size = s.size - k := by rw [ByteArray.size_extract]; omega
    cases hd : decV c (pairB s i) (s.extract k s.size) with
    | none => rw [hd] at h; cases h
    | some p =>
      rw [hd] at h
      dsimp only at h
      obtain ⟨pv, pk⟩ := p
      have hkc := hc c List.mem_cons_self
      have h1 := decV_ok hd hkc.1 hkc.2 (by rw [hxx]; omega) (pairB_le s i)
      rw [hxx] at h1
      cases hr : rowK s K (i + 1) (k + pk) with
      | none => rw [hr] at h; cases h
      | some q' =>
        rw [hr] at h
        injection h with h
        subst h
        have ih := rowK_ok s hs K (i + 1) (k + pk) q' (fun c hc' => hc c (List.mem_cons_of_mem _ hc')) (by omega) hr
        refine ⟨fun v hv => ?_, ih.2.1, by simp [ih.2.2]⟩
        rcases List.mem_cons.1 hv with rfl | hv
        · exact h1.1
        · exact ih.1 v hv
theorem adAll_iff : ∀ (cs : List Cl) (l : List Vl), l.length = cs.length → (adAll cs l = true ↔ ∀ i, i < cs.length → admsE cs l i = 0)
  | [], l, _ => by simp [adAll]
  | c :: cs, [], h => by simp at h
  | c :: cs, v :: l, h => by
    have ih := adAll_iff cs l (by simpa using h)
    simp only [adAll, Bool.and_eq_true, decide_eq_true_eq, ih]
    constructor
    · rintro ⟨h1, h2⟩ i hi
      cases i with
      | zero => exact h1
      | succ i => exact h2 i (by simpa using hi)
    · intro h2
      exact ⟨h2 0 (by simp), fun i hi => h2 (i + 1) (by simpa using hi)⟩
theorem adm_iff {t : Tb} {l : List Vl} (hc : checkS t = 0) (hl : l.length = t.cs.length) : admS t l = 0 ↔ adAll t.cs l = true := by
  rw [adAll_iff t.cs l hl]
  unfold admS
  rw [if_pos hc, if_pos hl]
  exact ⟨firstE_all, fun h => firstE_zero h⟩
theorem checkS_kd {t : Tb} (h : checkS t = 0) : ∀ c ∈ t.cs, 1 ≤ c.kd ∧ c.kd ≤ 5 := by
  unfold checkS at h
  by_cases h1 : nameB t.nm.data.toList = true
  · rw [if_pos h1] at h
    by_cases h2 : countsB t = true
    · rw [if_pos h2] at h
      by_cases h3 : firstE (colE t.cs) t.cs.length = 0
      · intro c hcm
        obtain ⟨i, hi, rfl⟩ := List.getElem_of_mem hcm
        have h4 := firstE_all h3 i hi
        unfold colE at h4
        rw [List.getElem?_eq_getElem hi] at h4
        dsimp only at h4
        unfold colE1 at h4
        split at h4
        · split at h4
          · omega
          · split at h4
            · rename_i h5
              simp only [Bool.and_eq_true, decide_eq_true_eq] at h5
              exact h5.1
            · omega
        · omega
      · rw [if_neg h3] at h
        exact absurd h h3
    · rw [if_neg h2] at h
      omega
  · rw [if_neg h1] at h
    omega

/-- what Decode answers -/
def decO (t : Tb) (s : ByteArray) : Option (List Vl) := match rowR t.cs s with
  | none => none
  | some q => if q.2 = s.size then some q.1 else none
def decR (t : Tb) (s : ByteArray) : List Vl × Int := if checkS t = 0 then (if s.size ≤ 65536 then (match decO t s with
  | none => ([], 41)
  | some l => (l, 0)) else ([], 3)) else ([], checkS t)
/-- the same, as the document has it -/
theorem decO_K {t : Tb} {s : ByteArray} (hc : checkS t = 0) (hs : s.size ≤ 65536) : decO t s = match rowKR (t.cs.map Cl.kd) s with
    | none => none
    | some q => if q.2 = s.size ∧ admS t q.1 = 0 then some q.1 else none := by
  unfold decO rowR rowKR
  rw [List.length_map]
  by_cases h1 : s.size < (t.cs.length + 3) / 4
  · rw [if_pos h1, if_pos h1]
  rw [if_neg h1, if_neg h1]
  cases h2 : spB s t.cs.length (4 * ((t.cs.length + 3) / 4))
  · rfl
  rw [if_pos rfl, if_pos rfl, rowA_K]
  cases h3 : rowK s (t.cs.map Cl.kd) 0 ((t.cs.length + 3) / 4) with
  | none => rfl
  | some q =>
    have hk := rowK_ok s hs _ _ _ q (fun c hcm => by obtain ⟨c', hc', rfl⟩ := List.mem_map.1 hcm; exact checkS_kd hc c' hc') (by omega) h3
    have hl : q.1.length = t.cs.length := by rw [hk.2.2, List.length_map]
    have hi := adm_iff hc hl
    dsimp only
    cases h4 : adAll t.cs q.1
    · rw [h4] at hi
      have hn : ¬ admS t q.1 = 0 := fun h => by simpa using hi.1 h
      simp [hn]
    · rw [h4] at hi
      have hy : admS t q.1 = 0 := hi.2 rfl
      simp [hy]
end Go.Proofs.YtgnedioggpgeeaaDoor
