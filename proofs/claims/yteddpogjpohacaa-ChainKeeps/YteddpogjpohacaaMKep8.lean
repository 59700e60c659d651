/- Plain mathematics: what Prune leaves. -/
import Derived.Test.YteddpogjpohacaaWIns8
import Derived.Test.YteddpogjpohacaaWSee8
namespace Go.Proofs.Yteddpogjpohacaa

def okR (r : Rw) : Bool := !(decide (r.n < (1 : Int))) && !(decide ((4611686018427387904 : Int) < r.n)) && !(r.gn && decide (0 < r.row.length))
theorem okAt_okR {L : List Rw} {i : Nat} (hi : i < L.length) (h : okAt L i = true) : okR L[i] = true := by
  cases i with
  | zero => rw [okAt_zero hi] at h; exact h
  | succ i =>
    rw [okAt_succ hi] at h
    rw [Bool.and_eq_true] at h
    exact h.1
theorem mayL_iff {L : List Rw} : mayL L = true ↔ (∀ r ∈ L, okR r = true) ∧ L.Pairwise (fun u v => v.n < u.n) := by
  constructor
  · intro h
    refine ⟨fun r hr => ?_, ?_⟩
    · obtain ⟨i, hi, rfl⟩ := List.getElem_of_mem hr
      exact okAt_okR hi (mayL_at h hi)
    · rw [List.pairwise_iff_getElem]
      have step : ∀ i (hi : i + 1 < L.length), L[i + 1].n < (L[i]'(by omega)).n := fun i hi => by
        have := mayL_at h hi
        rw [okAt_succ hi, Bool.and_eq_true] at this
        exact of_decide_eq_true this.2
      intro i j hi hj hij
      obtain ⟨d, rfl⟩ : ∃ d, j = i + 1 + d := ⟨j - (i + 1), by omega⟩
      induction d with
      | zero => exact step i hj
      | succ d ih => exact Int.lt_trans (step (i + 1 + d) hj) (ih (by omega) (by omega))
  · rintro ⟨h1, h2⟩
    rw [List.pairwise_iff_getElem] at h2
    refine mayL_true fun i hi => ?_
    cases i with
    | zero => rw [okAt_zero hi]; exact h1 _ (List.getElem_mem hi)
    | succ i =>
      rw [okAt_succ hi, Bool.and_eq_true]
      exact ⟨h1 _ (List.getElem_mem hi), decide_eq_true (h2 i (i + 1) (by omega) hi (by omega))⟩
theorem mayL_sub {L M : List Rw} (h : mayL L = true) (hs : M.Sublist L) : mayL M = true := by
  rw [mayL_iff] at h ⊢
  exact ⟨fun r hr => h.1 r (hs.subset hr), h.2.sublist hs⟩

/-- what Prune leaves, the versions standing as they may -/
def prD (s : Int) : List Rw → List Rw
  | [] => []
  | v :: l => if s < v.n then v :: prD s l else if v.gn then [] else [v]
theorem prD_sub (s : Int) : ∀ L : List Rw, (prD s L).Sublist L
  | [] => List.Sublist.refl _
  | v :: l => by
    unfold prD
    split
    · exact (prD_sub s l).cons_cons v
    · split
      · exact List.nil_sublist _
      · exact (List.nil_sublist l).cons_cons v
theorem prD_idem (s : Int) : ∀ L : List Rw, prD s (prD s L) = prD s L
  | [] => rfl
  | v :: l => by
    by_cases h : s < v.n
    · rw [prD, if_pos h, prD, if_pos h, prD_idem s l]
    · rw [prD, if_neg h]
      cases hg : v.gn with
      | true => rfl
      | false => simp [prD, h, hg]
theorem prD_cons (s : Int) (v : Rw) (L : List Rw) : prD s (v :: prD s L) = prD s (v :: L) := by
  by_cases h : s < v.n
  · rw [prD, if_pos h, prD, if_pos h, prD_idem]
  · rw [prD, if_neg h, prD, if_neg h]
theorem zip_none {s : Int} {a : Nat} : ∀ {l : List Rw} {k : Nat}, (∀ r ∈ l, r.n ≤ s) → a < k → ((l.zipIdx k).filter (kpR s a)).map Prod.fst = []
  | [], _, _, _ => rfl
  | v :: l, k, h, hk => by
    have h1 : kpR s a (v, k) = false := by
      have := h v (by simp)
      simp only [kpR, Bool.or_eq_false_iff, decide_eq_false_iff_not, Bool.and_eq_false_iff, beq_eq_false_iff_ne]
      exact ⟨by omega, Or.inl (by omega)⟩
    rw [List.zipIdx_cons, List.filter_cons, h1]
    exact zip_none (fun r hr => h r (by simp [hr])) (by omega)
theorem zip_prD {s : Int} : ∀ {l : List Rw} {k : Nat}, l.Pairwise (fun u v => v.n < u.n) → ((l.zipIdx k).filter (kpR s (k + atN l s))).map Prod.fst = prD s l
  | [], _, _ => rfl
  | v :: l, k, h => by
    rw [List.pairwise_cons] at h
    by_cases hv : s < v.n
    · have ea : atN (v :: l) s = atN l s + 1 := by
        unfold atN
        rw [List.findIdx_cons, decide_eq_false (by omega)]
        rfl
      have hk : kpR s (k + atN (v :: l) s) (v, k) = true := by simp [kpR, hv]
      rw [List.zipIdx_cons, List.filter_cons, hk, prD, if_pos hv, ea, show k + (atN l s + 1) = k + 1 + atN l s by omega]
      simp only [if_true, List.map_cons]
      rw [zip_prD h.2]
    · have ea : atN (v :: l) s = 0 := by
        unfold atN
        rw [List.findIdx_cons, decide_eq_true (by omega)]
        rfl
      have hk : kpR s k (v, k) = !v.gn := by simp [kpR, hv]
      rw [List.zipIdx_cons, List.filter_cons, ea, Nat.add_zero, hk, prD, if_neg hv]
      have h0 := zip_none (s := s) (a := k) (l := l) (k := k + 1) (fun r hr => by have := h.1 r hr; omega) (by omega)
      cases v.gn with
      | true => simpa using h0
      | false => simp only [Bool.not_false, if_true, List.map_cons, h0]; rfl
theorem prn_prD {L : List Rw} (h : mayL L = true) (s : Int) : prnL L s = prD s L := by
  unfold prnL prnJ
  rw [List.take_length]
  have := zip_prD (s := s) (l := L) (k := 0) (mayL_iff.1 h).2
  rw [Nat.zero_add] at this
  exact this
theorem may_prn {L : List Rw} (h : mayL L = true) (s : Int) : mayL (prnL L s) = true := by
  rw [prn_prD h]
  exact mayL_sub h (prD_sub s L)
theorem prn_again {L : List Rw} (h : mayL L = true) (s : Int) : prnL (prnL L s) s = prnL L s := by
  rw [prn_prD (may_prn h s), prn_prD h, prD_idem]
theorem at_find (L : List Rw) (s : Int) : L[atN L s]? = L.find? (fun v => decide (v.n ≤ s)) := by
  induction L with
  | nil => rfl
  | cons v l ih =>
    unfold atN at ih ⊢
    rw [List.findIdx_cons, List.find?_cons]
    cases h : decide (v.n ≤ s) with
    | true => rfl
    | false => simpa using ih
theorem seen_prD {s t : Int} (hst : s ≤ t) : ∀ L : List Rw, shwB ((prD s L).find? (fun v => decide (v.n ≤ t))) = shwB (L.find? (fun v => decide (v.n ≤ t))) ∧ shwL ((prD s L).find? (fun v => decide (v.n ≤ t))) = shwL (L.find? (fun v => decide (v.n ≤ t)))
  | [] => ⟨rfl, rfl⟩
  | v :: l => by
    by_cases hv : s < v.n
    · rw [prD, if_pos hv, List.find?_cons, List.find?_cons]
      cases h : decide (v.n ≤ t) with
      | true => exact ⟨rfl, rfl⟩
      | false => exact seen_prD hst l
    · rw [prD, if_neg hv, List.find?_cons, decide_eq_true (show v.n ≤ t by omega)]
      cases hg : v.gn with
      | true => simp [shwB, shwL, hg]
      | false =>
        have : decide (v.n ≤ t) = true := decide_eq_true (by omega)
        simp [this]
theorem seen_prn {L : List Rw} (h : mayL L = true) {s t : Int} (hst : s ≤ t) : shwB (seeR (prnL L s) [] 0 0 t) = shwB (seeR L [] 0 0 t) ∧ shwL (seeR (prnL L s) [] 0 0 t) = shwL (seeR L [] 0 0 t) := by
  have e : ∀ M : List Rw, seeR M [] 0 0 t = M.find? (fun v => decide (v.n ≤ t)) := fun M => by
    rw [← at_find]
    exact if_neg (by simp)
  rw [e, e, prn_prD h]
  exact seen_prD hst L
/-- the version that is put on the top -/
def topV : Rw := ⟨4611686018427387904, false, []⟩
theorem may_top : mayL [topV] = true := by decide
theorem ins_top {L : List Rw} (s : Int) (h : mayL L = true) : (insE L topV = 0 ∧ insL L topV = topV :: L ∧ insE (prnL L s) topV = 0 ∧ insL (prnL L s) topV = topV :: prnL L s ∧ prnL (topV :: prnL L s) s = prnL (topV :: L) s) ∨ ((insE L topV = 81 ∧ ∃ hl : 0 < L.length, L[0].n = 4611686018427387904)) := by
  have hb := mayL_iff.1 h
  by_cases hold : ∃ hl : 0 < L.length, (4611686018427387904 : Int) ≤ L[0].n
  · obtain ⟨hl, h2⟩ := hold
    refine Or.inr ⟨(insE_old (v := topV) (by rw [h, may_top]; rfl) hl h2).1, hl, ?_⟩
    have := hb.1 _ (List.getElem_mem hl)
    unfold okR at this
    simp only [Bool.and_eq_true, Bool.not_eq_true', decide_eq_false_iff_not] at this
    omega
  · have hlt : ∀ r ∈ L, r.n < 4611686018427387904 := by
      intro r hr
      cases L with
      | nil => simp at hr
      | cons u l =>
        have hu : u.n < 4611686018427387904 := Int.not_le.1 (fun hc => hold ⟨by simp, hc⟩)
        rcases List.mem_cons.1 hr with rfl | hr
        · exact hu
        · exact Int.lt_trans ((List.pairwise_cons.1 hb.2).1 r hr) hu
    have hsub : (prnL L s).Sublist L := by rw [prn_prD h]; exact prD_sub s L
    have hok : ∀ M : List Rw, mayL M = true → (∀ r ∈ M, r.n < 4611686018427387904) → insE M topV = 0 ∧ insL M topV = topV :: M := fun M hM hlM =>
      insE_ok (v := topV) (by rw [hM, may_top]; rfl) (fun hl => hlM _ (List.getElem_mem hl))
    have hlt2 : ∀ r ∈ prnL L s, r.n < 4611686018427387904 := fun r hr => hlt r (hsub.subset hr)
    have hmt : ∀ M : List Rw, mayL M = true → (∀ r ∈ M, r.n < 4611686018427387904) → mayL (topV :: M) = true := fun M hM hlM => by
      rw [mayL_iff] at hM ⊢
      refine ⟨fun r hr => ?_, List.pairwise_cons.2 ⟨fun r hr => hlM r hr, hM.2⟩⟩
      rcases List.mem_cons.1 hr with rfl | hr
      · decide
      · exact hM.1 r hr
    obtain ⟨a1, a2⟩ := hok L h hlt
    obtain ⟨b1, b2⟩ := hok _ (may_prn h s) hlt2
    refine Or.inl ⟨a1, a2, b1, b2, ?_⟩
    rw [prn_prD (hmt _ (may_prn h s) hlt2), prn_prD (hmt L h hlt), prn_prD h, prD_cons]
end Go.Proofs.Yteddpogjpohacaa
