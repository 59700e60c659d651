/- Layer 19: commits' stamps rise; counting. -/
import Derived.Test.YtncfejndmlcidaaGreatGWEd2
import Derived.Test.YtncfejndmlcidaaGreatGMGr7
import Derived.Test.YtncfejndmlcidaaGreatGWGr1
namespace Go.Proofs.YtncfejndmlcidaaGreat
set_option maxRecDepth 100000

theorem count_pre {α : Type} (p : α → Bool) : ∀ (L : List α) (r : Nat), r ≤ L.length → (∀ j (h : j < L.length), j < r → p L[j] = true) → (∀ j (h : j < L.length), r ≤ j → p L[j] = false) → L.countP p = r
  | [], r, h, _, _ => by
    have : r = 0 := by simpa using h
    rw [this]; rfl
  | a :: L, 0, _, _, h2 => by
    rw [List.countP_eq_zero]
    intro b hb
    obtain ⟨i, hi, rfl⟩ := List.getElem_of_mem hb
    rw [h2 i hi (Nat.zero_le _)]
    simp
  | a :: L, r + 1, h, h1, h2 => by
    rw [List.countP_cons, count_pre p L r (by simpa using h) (fun j hj hjr => h1 (j + 1) (by simpa using hj) (by omega)) (fun j hj hjr => h2 (j + 1) (by simpa using hj) (by omega))]
    rw [show p a = true from h1 0 (by simp) (by omega)]
    simp
theorem cms_mem {H : List Ac} {t : Int} : t ∈ cms H ↔ ∃ b ∈ H, b.kd = 5 ∧ b.tx = t := by
  unfold cms
  rw [List.mem_map]
  constructor
  · rintro ⟨b, hb, rfl⟩
    obtain ⟨h1, h2⟩ := List.mem_filter.1 hb
    exact ⟨b, h1, by simpa using h2, rfl⟩
  · rintro ⟨b, hb, h1, rfl⟩
    exact ⟨b, List.mem_filter.2 ⟨hb, by simpa using h1⟩, rfl⟩
theorem cm_cms {H : List Ac} {t : Int} (h : 0 < cm H t) : t ∈ cms H := by
  unfold cm stOf at h
  cases e : (H.filter (fun a => a.tx == t && a.kd == 5)).getLast? with
  | none => rw [e] at h; simp at h
  | some b =>
    obtain ⟨h1, h2⟩ := List.mem_filter.1 (List.mem_of_getLast? e)
    simp only [Bool.and_eq_true, beq_iff_eq] at h2
    exact cms_mem.2 ⟨b, h1, h2.2, h2.1⟩
/-- commits stand by their stamps -/
theorem cms_ris (L : List Ac) : ∀ k, k ≤ L.length → okH L k → (cms (L.take k)).Pairwise (fun a b => cm (L.take k) a < cm (L.take k) b) ∧ ∀ t ∈ cms (L.take k), 0 < cm (L.take k) t ∧ cm (L.take k) t ≤ lst (L.take k)
  | 0, _, _ => by
    simp [cms]
  | k + 1, hk, h => by
    obtain ⟨ih1, ih2⟩ := cms_ris L k (by omega) (fun i hi => h i (by omega))
    have h1 := h k (by omega) (by omega)
    rw [List.take_succ_eq_append_getElem (by omega)]
    generalize (L[k]'(by omega)) = a at *
    generalize L.take k = H at *
    unfold okA at h1
    simp only [Bool.and_eq_true] at h1
    have hen : en H a.tx = false := by have := h1.1.1.1.1.2; simpa using this
    rw [cms_snoc, lst_snoc]
    by_cases h5 : a.kd = 5
    · have hlt : lst H < a.st := by
        have h3 := h1.2
        rw [h5] at h3
        simpa using h3
      have hne : ∀ t ∈ cms H, t ≠ a.tx := fun t ht e => by
        obtain ⟨b, hb, h6, h7⟩ := cms_mem.1 ht
        have : en H a.tx = true := List.any_eq_true.2 ⟨b, hb, by simp [h6, h7, e]⟩
        rw [hen] at this
        cases this
      have hcm : ∀ t ∈ cms H, cm (H ++ [a]) t = cm H t := fun t ht => by
        show stOf 5 _ _ = stOf 5 _ _
        rw [stOf_snoc, if_neg (fun e => hne t ht e.1.symm)]
      have hca : cm (H ++ [a]) a.tx = a.st := by show stOf 5 _ _ = _; rw [stOf_snoc, if_pos ⟨rfl, h5⟩]
      rw [if_pos h5, if_pos h5]
      refine ⟨List.pairwise_append.2 ⟨?_, List.pairwise_singleton _ _, fun t ht u hu => ?_⟩, fun t ht => ?_⟩
      · exact List.Pairwise.imp_of_mem (fun {t u} ht hu e => by rw [hcm t ht, hcm u hu]; exact e) ih1
      · rw [List.mem_singleton.1 hu, hca, hcm t ht]
        have := (ih2 t ht).2
        omega
      · rcases List.mem_append.1 ht with ht | ht
        · rw [hcm t ht]
          have := ih2 t ht
          omega
        · rw [List.mem_singleton.1 ht, hca]
          omega
    · rw [if_neg h5, if_neg h5, List.append_nil]
      have hcm : ∀ t, cm (H ++ [a]) t = cm H t := fun t => by
        show stOf 5 _ _ = stOf 5 _ _
        rw [stOf_snoc, if_neg (fun e => h5 e.2)]
      simp only [hcm]
      exact ⟨ih1, ih2⟩
/-- what is known of a history that may be -/
structure OkF (H : List Ac) : Prop where
  ok : okH H H.length
  len : H.length ≤ 4096
  ris : (cms H).Pairwise (fun a b => cm H a < cm H b)
  pos : ∀ t ∈ cms H, 0 < cm H t
theorem OkF.of {H : List Ac} (h : okH H H.length) (hl : H.length ≤ 4096) : OkF H := by
  have h1 := cms_ris H H.length (Nat.le_refl _) h
  rw [List.take_length] at h1
  exact ⟨h, hl, h1.1, fun t ht => (h1.2 t ht).1⟩
theorem OkF.vris {H : List Ac} (h : OkF H) (x : ByteArray) : (vrs H x).Pairwise (fun a b => cm H a < cm H b) := List.Pairwise.sublist List.filter_sublist h.ris
/-- how many versions are not behind a stamp -/
theorem vrN_of {H : List Ac} (s : Sw) (r : Nat) (hr : r ≤ (vrs H s.it).length) (h1 : ∀ k (h : k < (vrs H s.it).length), k < r → decide (cm0 H s.fr < cm H (vrs H s.it)[k]) = false) (h2 : ∀ k (h : k < (vrs H s.it).length), r ≤ k → decide (cm0 H s.fr < cm H (vrs H s.it)[k]) = true) : vrN H s = r := by
  unfold vrN
  refine count_pre _ _ r hr (fun j hj hjr => ?_) (fun j hj hjr => ?_)
  · have := h1 j hj hjr
    simp at this ⊢
    omega
  · have := h2 j hj hjr
    simp at this ⊢
    omega
theorem OkF.mono {H : List Ac} (h : OkF H) (x : ByteArray) (st : Nat) : ∀ i j, i ≤ j → j < (vrs H x).length → decide (st < cm H ((vrs H x).getD i 0)) = true → decide (st < cm H ((vrs H x).getD j 0)) = true := fun i j hij hj h1 => by
  have hi : i < (vrs H x).length := by omega
  simp only [List.getD_eq_getElem?_getD, List.getElem?_eq_getElem hi, List.getElem?_eq_getElem hj, Option.getD_some, decide_eq_true_eq] at h1 ⊢
  by_cases e : i = j
  · subst e; exact h1
  · have := List.pairwise_iff_getElem.1 (h.vris x) i j hi hj (by omega)
    omega
theorem wr_kn {H : List Ac} {t : Int} {x : ByteArray} (h : 0 < wr H t x) : kn H t = true := by
  obtain ⟨b, hb, _, h2, _⟩ := (wr_iff H t x).1 h
  exact List.any_eq_true.2 ⟨b, hb, by simp [h2]⟩
theorem th_kn {H : List Ac} {t : Int} {s : Sw} (ht : kn H t = true) (h : thB H t s = true) : s.fr = 0 ∨ kn H s.fr = true := by
  unfold thB at h
  by_cases h1 : 0 < wr H t s.it
  · rw [if_pos h1] at h
    simp only [Bool.and_eq_true, beq_iff_eq] at h
    exact .inr (by rw [h.1]; exact ht)
  · rw [if_neg h1] at h
    by_cases h2 : s.fr = 0
    · exact .inl h2
    · rw [if_neg h2] at h
      simp only [Bool.and_eq_true, decide_eq_true_eq] at h
      exact .inr (wr_kn (x := s.it) (by omega))
theorem kn_take {H : List Ac} {k : Nat} {t : Int} (h : kn (H.take k) t = true) : kn H t = true := by
  unfold kn at h ⊢
  obtain ⟨b, hb, h1⟩ := List.any_eq_true.1 h
  exact List.any_eq_true.2 ⟨b, List.mem_of_mem_take hb, h1⟩
/-- who is read from is there -/
theorem OkF.rd {H : List Ac} (h : OkF H) {t : Int} {s : Sw} (hs : s ∈ rds H t) : s.fr = 0 ∨ kn H s.fr = true := by
  unfold rds at hs
  obtain ⟨a, ha, rfl⟩ := List.mem_map.1 hs
  obtain ⟨h1, h2⟩ := List.mem_filter.1 ha
  simp only [Bool.and_eq_true, beq_iff_eq] at h2
  obtain ⟨i, hi, rfl⟩ := List.getElem_of_mem h1
  have h3 := h.ok i hi hi
  unfold okA at h3
  simp only [Bool.and_eq_true] at h3
  have h4 := h3.1.1.2
  rw [h2.2] at h4
  have h5 : thB (H.take i) H[i].tx ⟨H[i].it, H[i].fr, H[i].nt⟩ = true := by simpa using h4
  unfold thB at h5
  dsimp only at h5 ⊢
  by_cases h6 : 0 < wr (H.take i) H[i].tx H[i].it
  · rw [if_pos h6] at h5
    simp only [Bool.and_eq_true, beq_iff_eq] at h5
    exact .inr (kn_take (k := i) (by rw [h5.1]; exact wr_kn h6))
  · rw [if_neg h6] at h5
    by_cases h7 : H[i].fr = 0
    · exact .inl h7
    · rw [if_neg h7] at h5
      simp only [Bool.and_eq_true, decide_eq_true_eq] at h5
      exact .inr (kn_take (k := i) (wr_kn (x := H[i].it) (by omega)))
theorem OkF.sc {H : List Ac} (h : OkF H) {t : Int} {a : Ac} (ha : a ∈ scs H t) {s : Sw} (hs : s ∈ a.sn) : s.fr = 0 ∨ kn H s.fr = true := by
  obtain ⟨h1, h2⟩ := List.mem_filter.1 ha
  simp only [Bool.and_eq_true, beq_iff_eq] at h2
  obtain ⟨i, hi, rfl⟩ := List.getElem_of_mem h1
  have h3 := h.ok i hi hi
  unfold okA at h3
  simp only [Bool.and_eq_true] at h3
  have h4 := h3.1.2
  rw [h2.2] at h4
  have h4b : (scB (H.take i) H[i] H[i].sn.length && decide (((its (H.take i) H[i].tx).filter (inR H[i])).length ≤ H[i].sn.countP (fun s => s.fr == H[i].tx))) = true := by simpa using h4
  rw [Bool.and_eq_true] at h4b
  have h5 := h4b.1
  unfold scB at h5
  rw [List.all_eq_true] at h5
  obtain ⟨j, hj, rfl⟩ := List.getElem_of_mem hs
  have h6 := h5 j (List.mem_range.2 hj)
  rw [show H[i].sn.getD j ⟨⟨#[]⟩, 0, 0⟩ = H[i].sn[j] by simp [List.getD, hj]] at h6
  simp only [Bool.and_eq_true] at h6
  have h7 := h6.2
  unfold thB at h7
  by_cases h8 : 0 < wr (H.take i) H[i].tx H[i].sn[j].it
  · rw [if_pos h8] at h7
    simp only [Bool.and_eq_true, beq_iff_eq] at h7
    exact .inr (kn_take (k := i) (by rw [h7.1]; exact wr_kn h8))
  · rw [if_neg h8] at h7
    by_cases h9 : H[i].sn[j].fr = 0
    · exact .inl h9
    · rw [if_neg h9] at h7
      simp only [Bool.and_eq_true, decide_eq_true_eq] at h7
      exact .inr (kn_take (k := i) (wr_kn (x := H[i].sn[j].it) (by omega)))
theorem foldl_take {α β : Type} (f : β → α → β) (b : β) (L : List α) (k : Nat) (hk : k < L.length) : (L.take (k + 1)).foldl f b = f ((L.take k).foldl f b) L[k] := by
  rw [List.take_succ_eq_append_getElem hk, List.foldl_append]
  rfl
theorem snN_mem (L : List Ac) : ∀ a ∈ L, a.kd = 3 → a.sn.length ≤ snN L := by
  unfold snN
  induction L with
  | nil => intro a ha; simp at ha
  | cons b L ih =>
    intro a ha h3
    rw [List.map_cons, List.sum_cons]
    rcases List.mem_cons.1 ha with rfl | ha
    · rw [if_pos h3]; omega
    · have := ih a ha h3
      omega
theorem scM_le (pl : Int → Nat) (H : List Ac) (I : List ByteArray) (t : Int) (m : Nat) : ∀ (L : List Ac) (LL : List (List Ed)) (N : Nat), (∀ a ∈ L, a.sn.length ≤ m) → RowsLe LL N → RowsLe (scM pl H I t LL L) (N + L.length * (2 * m))
  | [], LL, N, _, h => by
    rw [List.length_nil, Nat.zero_mul, Nat.add_zero]
    exact h
  | a :: L, LL, N, hm, h => by
    have h1 := vrMs_le pl H I t 4 a.sn LL N h
    have h2 := hm a (List.mem_cons_self ..)
    have h3 := scM_le pl H I t m L _ _ (fun b hb => hm b (List.mem_cons_of_mem _ hb)) h1
    have e : scM pl H I t LL (a :: L) = scM pl H I t (a.sn.foldl (vrM pl H I t 4) LL) L := rfl
    rw [e]
    refine h3.mono ?_
    rw [List.length_cons, Nat.add_mul, Nat.one_mul]
    generalize L.length * (2 * m) = z at *
    omega

end Go.Proofs.YtncfejndmlcidaaGreat
