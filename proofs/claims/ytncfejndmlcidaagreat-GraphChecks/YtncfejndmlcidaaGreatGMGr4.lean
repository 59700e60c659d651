/- Layer 19: who committed, and the items that have versions; plain mathematics. -/
import Derived.Test.YtncfejndmlcidaaGreatGWGd194
namespace Go.Proofs.YtncfejndmlcidaaGreat
set_option maxRecDepth 100000

theorem cms_kn {H : List Ac} {t : Int} (h : t ∈ cms H) : kn H t = true := by
  unfold cms at h
  obtain ⟨a, ha, e⟩ := List.mem_map.1 h
  unfold kn
  rw [List.any_eq_true]
  exact ⟨a, (List.mem_filter.1 ha).1, by simp [e]⟩
theorem vrs_kn {H : List Ac} {x : ByteArray} {t : Int} (h : t ∈ vrs H x) : kn H t = true := cms_kn (List.mem_filter.1 h).1
/-- nobody commits twice -/
theorem cms_nodup (L : List Ac) : ∀ k, k ≤ L.length → okH L k → (cms (L.take k)).Nodup
  | 0, _, _ => List.Pairwise.nil
  | k + 1, hk, h => by
    have ih := cms_nodup L k (by omega) (fun i hi => h i (by omega))
    have h1 := h k (by omega) (by omega)
    rw [List.take_succ_eq_append_getElem (by omega), cms_snoc]
    by_cases hkd : (L[k]'(by omega)).kd = 5
    · rw [if_pos hkd]
      refine List.nodup_append.2 ⟨ih, by simp, fun a ha b hb e => ?_⟩
      rw [List.mem_singleton.1 hb] at e
      have h2 : en (L.take k) (L[k]'(by omega)).tx = true := cms_en _ (by rw [← e]; exact ha)
      unfold okA at h1
      rw [h2] at h1
      simp at h1
    · rw [if_neg hkd, List.append_nil]
      exact ih
/-- an item that has versions was written -/
theorem vrs_it {H : List Ac} {x : ByteArray} (h : vrs H x ≠ []) : x ∈ H.map (·.it) := by
  obtain ⟨t, ht⟩ := List.exists_mem_of_ne_nil _ h
  have h1 : 0 < wr H t x := by simpa using (List.mem_filter.1 ht).2
  unfold wr at h1
  obtain ⟨a, ha, h2⟩ := List.countP_pos_iff.1 h1
  unfold isW at h2
  simp only [Bool.and_eq_true, decide_eq_true_eq] at h2
  exact List.mem_map.2 ⟨a, ha, h2.2⟩

end Go.Proofs.YtncfejndmlcidaaGreat
