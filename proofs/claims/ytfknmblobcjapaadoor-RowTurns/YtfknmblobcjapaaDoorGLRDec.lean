/- The walk of the statement on Decode: it answers true. Apply of Change, Change of Apply. Changes: Apply of Change, Change of Apply, for tables. -/
import Derived.Test.YtfknmblobcjapaaDoorGMTur
import Derived.Test.YtfknmblobcjapaaDoorGWAppZ
import Derived.Test.YtfknmblobcjapaaDoorGWStp
namespace Go.Proofs.YtfknmblobcjapaaDoor
open Go.RowKit
set_option maxRecDepth 100000

theorem decR_len (t : Tb) (s : ByteArray) : (decR t s).1.length ≤ 64 := by
  unfold decR
  by_cases hc : checkS t = 0
  · rw [if_pos hc]
    by_cases hz : s.size ≤ 65536
    · rw [if_pos hz, decO_K hc hz]
      have h64 := (checkS_counts t hc).2
      unfold rowKR
      rw [List.length_map]
      by_cases h1 : s.size < (t.cs.length + 3) / 4
      · rw [if_pos h1]; simp
      rw [if_neg h1]
      cases h2 : spB s t.cs.length (4 * ((t.cs.length + 3) / 4)) with
      | false => simp
      | true =>
        rw [if_pos rfl]
        cases h3 : rowK s (t.cs.map Cl.kd) 0 ((t.cs.length + 3) / 4) with
        | none => simp
        | some q =>
          have hk := rowK_ok s hz _ _ _ q (fun c hcm => by obtain ⟨c', hc', rfl⟩ := List.mem_map.1 hcm; exact checkS_kd hc c' hc') (by omega) h3
          have hl := hk.2.2
          rw [List.length_map] at hl
          dsimp only
          by_cases h5 : q.2 = s.size ∧ admS t q.1 = 0
          · rw [if_pos h5]
            dsimp only
            omega
          · rw [if_neg h5]
            simp
    · rw [if_neg hz]; simp
  · rw [if_neg hc]; simp
theorem sameL_self : ∀ L : List Vl, sameL L L = true
  | [] => rfl
  | a :: L => by
    unfold sameL
    rw [sameL_self L]
    simp [sameV, sameB]



end Go.Proofs.YtfknmblobcjapaaDoor

namespace Go.Proofs.YtfknmblobcjapaaDoor
open Go.RowKit
set_option maxRecDepth 100000

theorem sameV_self (a : Vl) : sameV a a = true := by
  have h := sameL_self [a]
  simp only [sameL, Bool.and_true] at h
  exact h
theorem varB_pos (n : Nat) : 1 ≤ (varB n).length := by
  unfold varB
  unfold varK
  split
  · simp
  · simp
theorem size_mk (l : List UInt8) : (⟨l.toArray⟩ : ByteArray).size = l.length := by
  show l.toArray.size = _
  simp
theorem ext_tail (a b : List UInt8) : (⟨(a ++ b).toArray⟩ : ByteArray).extract a.length (⟨(a ++ b).toArray⟩ : ByteArray).size = ⟨b.toArray⟩ := by
  apply bytes_eqI
  rw [size_mk, List.length_append, ext_takeI]
  show ((a ++ b).drop a.length).take b.length = b
  simp
theorem step_T {cs : List Cl} {nx j : Nat} {v : Vl} (rest : List UInt8) (hkd : ∀ c ∈ cs, 1 ≤ c.kd ∧ c.kd ≤ 5) (hl : cs.length ≤ 64) (h1 : nx ≤ j) (hj : j < cs.length) (ho : v.ok) (ha : admE cs[j] v = 0) :
    stepA cs nx ⟨(varB (j - nx) ++ (rowB [v] ++ rest)).toArray⟩ = some (j, v, (varB (j - nx)).length + (rowB [v]).length) := by
  have hr := rdV_varB (j - nx) (rowB [v] ++ rest) (by omega)
  have hp := varB_pos (j - nx)
  unfold stepA
  rw [hr]
  dsimp only
  rw [if_neg (by omega), ext_tail]
  have e : cs.getD (nx + (j - nx)) zC = cs[j] := by
    rw [show nx + (j - nx) = j by omega, List.getD_eq_getElem?_getD, List.getElem?_eq_getElem hj]
    rfl
  rw [e, row1_of rest (hkd _ (List.getElem_mem hj)) ho ha]
  dsimp only
  rw [show nx + (j - nx) = j by omega]
  rfl
/-- a row turned -/
def mixT (L M : List Vl) : Nat → Nat → List Vl → List Vl
  | 0, _, acc => acc
  | cnt + 1, j, acc => if sameV (L.getD j zV) (M.getD j zV) then mixT L M cnt (j + 1) acc else mixT L M cnt (j + 1) (acc.set j (M.getD j zV))
theorem app_T {cs : List Cl} {L M : List Vl} (hkd : ∀ c ∈ cs, 1 ≤ c.kd ∧ c.kd ≤ 5) (hl : cs.length ≤ 64) (hok : ∀ j, j < cs.length → (M.getD j zV).ok) (had : ∀ j (hj : j < cs.length), admE cs[j] (M.getD j zV) = 0) :
    ∀ (cnt j nx : Nat) (acc : List Vl) (f : Nat), j + cnt = cs.length → nx ≤ j → (chgT L M cnt j nx).length ≤ f → applyA cs L f acc nx ⟨(chgT L M cnt j nx).toArray⟩ = some (mixT L M cnt j acc)
  | 0, j, nx, acc, f, _, _, _ => by
    have hz : (⟨([] : List UInt8).toArray⟩ : ByteArray).size = 0 := rfl
    cases f with
    | zero =>
      unfold applyA chgT
      rw [if_pos hz]
      rfl
    | succ f =>
      unfold applyA chgT
      rw [if_pos hz]
      rfl
  | cnt + 1, j, nx, acc, f, hj, hn, hf => by
    cases hs : sameV (L.getD j zV) (M.getD j zV) with
    | true =>
      have e1 : chgT L M (cnt + 1) j nx = chgT L M cnt (j + 1) nx := by rw [chgT, if_pos hs]
      have e2 : mixT L M (cnt + 1) j acc = mixT L M cnt (j + 1) acc := by rw [mixT, if_pos hs]
      rw [e1] at hf ⊢
      rw [e2]
      exact app_T hkd hl hok had cnt (j + 1) nx acc f (by omega) (by omega) hf
    | false =>
      have e1 : chgT L M (cnt + 1) j nx = varB (j - nx) ++ (rowB [M.getD j zV] ++ chgT L M cnt (j + 1) (j + 1)) := by rw [chgT, if_neg (by rw [hs]; decide), List.append_assoc]
      have e2 : mixT L M (cnt + 1) j acc = mixT L M cnt (j + 1) (acc.set j (M.getD j zV)) := by rw [mixT, if_neg (by rw [hs]; decide)]
      rw [e1] at hf ⊢
      rw [e2]
      have hp := varB_pos (j - nx)
      rw [List.length_append] at hf
      have hj1 : j < cs.length := by omega
      cases f with
      | zero => omega
      | succ f =>
        unfold applyA
        rw [if_neg (by rw [size_mk, List.length_append]; omega), step_T _ hkd hl hn hj1 (hok j hj1) (had j hj1)]
        dsimp only
        rw [if_neg (by rw [hs]; decide)]
        have e3 : (⟨(varB (j - nx) ++ (rowB [M.getD j zV] ++ chgT L M cnt (j + 1) (j + 1))).toArray⟩ : ByteArray).extract ((varB (j - nx)).length + (rowB [M.getD j zV]).length) (⟨(varB (j - nx) ++ (rowB [M.getD j zV] ++ chgT L M cnt (j + 1) (j + 1))).toArray⟩ : ByteArray).size = ⟨(chgT L M cnt (j + 1) (j + 1)).toArray⟩ := by
          have := ext_tail (varB (j - nx) ++ rowB [M.getD j zV]) (chgT L M cnt (j + 1) (j + 1))
          rw [List.append_assoc, List.length_append] at this
          exact this
        rw [e3]
        refine app_T hkd hl hok had cnt (j + 1) (j + 1) _ f (by omega) (Nat.le_refl _) ?_
        rw [List.length_append] at hf
        omega
theorem getD_set (l : List Vl) (i k : Nat) (v : Vl) (hi : i < l.length) : (l.set i v).getD k zV = if k = i then v else l.getD k zV := by
  rw [List.getD_eq_getElem?_getD, List.getD_eq_getElem?_getD]
  by_cases h : k = i
  · subst h
    rw [if_pos rfl, List.getElem?_set_self hi]
    rfl
  · rw [if_neg h, List.getElem?_set_ne (Ne.symm h)]
theorem mix_len (L M : List Vl) : ∀ (cnt j : Nat) (acc : List Vl), (mixT L M cnt j acc).length = acc.length
  | 0, _, _ => rfl
  | cnt + 1, j, acc => by
    unfold mixT
    split
    · exact mix_len L M cnt (j + 1) acc
    · rw [mix_len L M cnt (j + 1) _, List.length_set]
theorem mix_at (L M : List Vl) : ∀ (cnt j : Nat) (acc : List Vl) (k : Nat), j + cnt ≤ acc.length → (mixT L M cnt j acc).getD k zV = if j ≤ k ∧ k < j + cnt ∧ sameV (L.getD k zV) (M.getD k zV) = false then M.getD k zV else acc.getD k zV
  | 0, j, acc, k, _ => by
    rw [mixT, if_neg (by omega)]
  | cnt + 1, j, acc, k, hl => by
    cases hs : sameV (L.getD j zV) (M.getD j zV) with
    | true =>
      rw [mixT, if_pos hs, mix_at L M cnt (j + 1) acc k (by omega)]
      by_cases h : j = k
      · subst h
        rw [if_neg (by omega), if_neg (by rw [hs]; simp)]
      · by_cases h2 : j + 1 ≤ k ∧ k < j + 1 + cnt ∧ sameV (L.getD k zV) (M.getD k zV) = false
        · rw [if_pos h2, if_pos ⟨by omega, by omega, h2.2.2⟩]
        · rw [if_neg h2, if_neg (fun h3 => h2 ⟨by omega, by omega, h3.2.2⟩)]
    | false =>
      rw [mixT, if_neg (by rw [hs]; decide), mix_at L M cnt (j + 1) _ k (by rw [List.length_set]; omega), getD_set _ _ _ _ (by omega)]
      by_cases h : k = j
      · subst h
        rw [if_neg (by omega), if_pos rfl, if_pos ⟨by omega, by omega, hs⟩]
      · rw [if_neg h]
        by_cases h2 : j + 1 ≤ k ∧ k < j + 1 + cnt ∧ sameV (L.getD k zV) (M.getD k zV) = false
        · rw [if_pos h2, if_pos ⟨by omega, by omega, h2.2.2⟩]
        · rw [if_neg h2, if_neg (fun h3 => h2 ⟨by omega, by omega, h3.2.2⟩)]
theorem sameL_of : ∀ (x y : List Vl), x.length = y.length → (∀ k, k < x.length → sameV (x.getD k zV) (y.getD k zV) = true) → sameL x y = true
  | [], [], _, _ => rfl
  | [], b :: y, h, _ => by simp at h
  | a :: x, [], h, _ => by simp at h
  | a :: x, b :: y, h, hs => by
    have h0 := hs 0 (by simp)
    have ih := sameL_of x y (by simpa using h) (fun k hk => by
      have := hs (k + 1) (by simpa using hk)
      simpa using this)
    show (sameV a b && sameL x y) = true
    rw [ih, Bool.and_true]
    simpa using h0
theorem chgT_none (L M : List Vl) : ∀ (cnt j nx : Nat), (∀ k, j ≤ k → k < j + cnt → M.getD k zV = L.getD k zV) → chgT L M cnt j nx = []
  | 0, _, _, _ => rfl
  | cnt + 1, j, nx, h => by
    rw [chgT, h j (by omega) (by omega), if_pos (sameV_self _)]
    exact chgT_none L M cnt (j + 1) nx (fun k h1 h2 => h k (by omega) (by omega))
theorem chgT_skip (L M : List Vl) : ∀ (d cnt j nx : Nat), (∀ k, j ≤ k → k < j + d → M.getD k zV = L.getD k zV) → chgT L M (d + cnt) j nx = chgT L M cnt (j + d) nx
  | 0, cnt, j, nx, _ => by simp
  | d + 1, cnt, j, nx, h => by
    rw [show d + 1 + cnt = (d + cnt) + 1 by omega, chgT, h j (by omega) (by omega), if_pos (sameV_self _), chgT_skip L M d cnt (j + 1) nx (fun k h1 h2 => h k (by omega) (by omega))]
    rw [show j + 1 + d = j + (d + 1) by omega]
theorem of_step {cs : List Cl} {nx : Nat} {s : ByteArray} {i : Nat} {v : Vl} {k : Nat} (hkd : ∀ c ∈ cs, 1 ≤ c.kd ∧ c.kd ≤ 5) (hs : s.size ≤ 65536) (h : stepA cs nx s = some (i, v, k)) :
    nx ≤ i ∧ i < cs.length ∧ s.data.toList = varB (i - nx) ++ rowB [v] ++ (s.extract k s.size).data.toList ∧ admE (cs.getD i zC) v = 0 ∧ v.ok := by
  unfold stepA at h
  split at h
  · cases h
  · rename_i h1
    have h1' : ¬ (rdV s).2 = 0 ∧ ¬ cs.length - nx ≤ (rdV s).1 := by omega
    obtain ⟨n, k0, hr⟩ : ∃ n k0, rdV s = (n, k0) := ⟨_, _, rfl⟩
    rw [hr] at h h1'
    dsimp only at h h1'
    obtain ⟨hv, hk0⟩ := varB_rdV hr (by omega)
    cases hp : rowR [cs.getD (nx + n) zC] (s.extract k0 s.size) with
    | none => rw [hp] at h; cases h
    | some p =>
      rw [hp] at h
      injection h with h
      injection h with e1 h
      injection h with e2 e3
      have hc : nx + n < cs.length := by omega
      have hcd : cs.getD (nx + n) zC = cs[nx + n] := by rw [List.getD_eq_getElem?_getD, List.getElem?_eq_getElem hc]; rfl
      have hkc : 1 ≤ (cs.getD (nx + n) zC).kd ∧ (cs.getD (nx + n) zC).kd ≤ 5 := by rw [hcd]; exact hkd _ (List.getElem_mem hc)
      obtain ⟨u, hu, ht, hle, ha, ho⟩ := of_row1 (L := p.1) (k := p.2) hkc (by rw [ByteArray.size_extract]; omega) hp
      have huv : u = v := by rw [← e2, hu]; rfl
      subst huv
      subst e1
      have hdl : s.data.toList.length = s.size := by simp
      rw [ByteArray.size_extract] at hle
      have hx0 : (s.extract k0 s.size).data.toList = s.data.toList.drop k0 := by
        rw [show s.size = k0 + (s.size - k0) by omega, ext_takeI, List.take_of_length_le (by rw [List.length_drop]; omega)]
      have hx1 : (s.extract k s.size).data.toList = s.data.toList.drop k := by
        rw [show s.size = k + (s.size - k) by omega, ext_takeI, List.take_of_length_le (by rw [List.length_drop]; omega)]
      refine ⟨by omega, hc, ?_, ha, ho⟩
      rw [show nx + n - nx = n by omega, hx1, ← hv, ← ht, hx0, ← e3]
      rw [← List.drop_drop]
      rw [List.append_assoc, List.take_append_drop, List.take_append_drop]
theorem T_app {cs : List Cl} {L : List Vl} (hkd : ∀ c ∈ cs, 1 ≤ c.kd ∧ c.kd ≤ 5) : ∀ (f : Nat) (acc : List Vl) (nx : Nat) (s : ByteArray) (M : List Vl), s.size ≤ 65536 → acc.length = cs.length → nx ≤ cs.length → (∀ k, nx ≤ k → k < cs.length → acc.getD k zV = L.getD k zV) → applyA cs L f acc nx s = some M →
    M.length = cs.length ∧ (∀ k, k < nx → M.getD k zV = acc.getD k zV) ∧ s.data.toList = chgT L M (cs.length - nx) nx nx ∧ ∀ k, nx ≤ k → k < cs.length → M.getD k zV = L.getD k zV ∨ (admE (cs.getD k zC) (M.getD k zV) = 0 ∧ (M.getD k zV).ok) := by
  intro f
  have base : ∀ (acc : List Vl) (nx : Nat) (s : ByteArray) (M : List Vl), acc.length = cs.length → nx ≤ cs.length → (∀ k, nx ≤ k → k < cs.length → acc.getD k zV = L.getD k zV) → s.size = 0 → acc = M →
      M.length = cs.length ∧ (∀ k, k < nx → M.getD k zV = acc.getD k zV) ∧ s.data.toList = chgT L M (cs.length - nx) nx nx ∧ ∀ k, nx ≤ k → k < cs.length → M.getD k zV = L.getD k zV ∨ (admE (cs.getD k zC) (M.getD k zV) = 0 ∧ (M.getD k zV).ok) := by
    intro acc nx s M hl hn ha hz e
    subst e
    refine ⟨hl, fun _ _ => rfl, ?_, fun k h1 h2 => .inl (ha k h1 h2)⟩
    rw [chgT_none L acc _ nx nx (fun k h1 h2 => ha k h1 (by omega))]
    have hdl : s.data.toList.length = s.size := by simp
    exact List.eq_nil_of_length_eq_zero (by omega)
  induction f with
  | zero =>
    intro acc nx s M hs hl hn ha h
    unfold applyA at h
    split at h
    · rename_i hz
      injection h with h
      exact base acc nx s M hl hn ha hz h
    · cases h
  | succ f ih =>
    intro acc nx s M hs hl hn ha h
    unfold applyA at h
    split at h
    · rename_i hz
      injection h with h
      exact base acc nx s M hl hn ha hz h
    · cases hst : stepA cs nx s with
      | none => rw [hst] at h; cases h
      | some p =>
        obtain ⟨i, v, k⟩ := p
        rw [hst] at h
        dsimp only at h
        obtain ⟨g1, g2, g3, g4, g5⟩ := of_step hkd hs hst
        cases hsm : sameV (L.getD i zV) v with
        | true => rw [if_pos hsm] at h; cases h
        | false =>
          rw [if_neg (by rw [hsm]; decide)] at h
          obtain ⟨i1, i2, i3, i4⟩ := ih (acc.set i v) (i + 1) (s.extract k s.size) M (by rw [ByteArray.size_extract]; omega) (by rw [List.length_set]; exact hl) (by omega) (fun q h1 h2 => by
            rw [getD_set _ _ _ _ (by omega), if_neg (by omega)]
            exact ha q (by omega) h2) h
          have hMi : M.getD i zV = v := by rw [i2 i (by omega), getD_set _ _ _ _ (by omega), if_pos rfl]
          have hMk : ∀ q, q < i → M.getD q zV = acc.getD q zV := fun q hq => by rw [i2 q (by omega), getD_set _ _ _ _ (by omega), if_neg (by omega)]
          refine ⟨i1, fun q hq => hMk q (by omega), ?_, fun q h1 h2 => ?_⟩
          · have e1 : cs.length - nx = (i - nx) + (cs.length - (i + 1) + 1) := by omega
            rw [e1, chgT_skip L M (i - nx) _ nx nx (fun q h1 h2 => by rw [hMk q (by omega)]; exact ha q h1 (by omega)), show nx + (i - nx) = i by omega, chgT, hMi, if_neg (by rw [hsm]; decide), ← i3]
            exact g3
          · rcases Nat.lt_trichotomy q i with hq | hq | hq
            · exact .inl (by rw [hMk q hq]; exact ha q h1 h2)
            · subst hq
              rw [hMi]
              exact .inr ⟨g4, g5⟩
            · exact i4 q (by omega) h2

end Go.Proofs.YtfknmblobcjapaaDoor

namespace Go.Proofs.YtfknmblobcjapaaDoor
open Go.RowKit
set_option maxRecDepth 100000

theorem adAll_at : ∀ (cs : List Cl) (l : List Vl), adAll cs l = true → ∀ j (hj : j < cs.length), admE cs[j] (l.getD j zV) = 0
  | [], _, _, j, hj => by simp at hj
  | _ :: _, [], h, _, _ => by simp [adAll] at h
  | c :: cs, v :: l, h, j, hj => by
    simp only [adAll, Bool.and_eq_true, decide_eq_true_eq] at h
    cases j with
    | zero => exact h.1
    | succ j =>
      have := adAll_at cs l h.2 j (by simpa using hj)
      simpa using this
theorem adAll_of : ∀ (cs : List Cl) (l : List Vl), l.length = cs.length → (∀ j (hj : j < cs.length), admE cs[j] (l.getD j zV) = 0) → adAll cs l = true
  | [], _, _, _ => rfl
  | _ :: _, [], h, _ => by simp at h
  | c :: cs, v :: l, h, ha => by
    simp only [adAll, Bool.and_eq_true, decide_eq_true_eq]
    refine ⟨ha 0 (by simp), adAll_of cs l (by simpa using h) (fun j hj => ?_)⟩
    have := ha (j + 1) (by simpa using hj)
    simpa using this
theorem ok_at {l : List Vl} (h : ∀ v ∈ l, v.ok) (j : Nat) (hj : j < l.length) : (l.getD j zV).ok := by
  rw [getD_at hj]
  exact h _ (List.getElem_mem hj)
/-- a row has no change to itself -/
theorem chg_own {t : Tb} {L : List Vl} (h : admS t L = 0) : chgR t L L = ([], 0) := by
  unfold chgR
  rw [if_pos h, if_pos h, chgT_all L L rfl, chgT_none L L _ 0 0 (fun _ _ _ => rfl), if_pos (by simp)]
/-- Apply of Change is the other row -/
theorem app_chg {t : Tb} {L M : List Vl} {c : List UInt8} (hm : ∀ v ∈ M, v.ok) (h : chgR t L M = (c, 0)) : ∃ M', appR t L ⟨c.toArray⟩ = (some M', 0) ∧ sameL M' M = true ∧ admS t L = 0 := by
  unfold chgR at h
  by_cases h1 : admS t L = 0
  · rw [if_pos h1] at h
    by_cases h2 : admS t M = 0
    · rw [if_pos h2] at h
      obtain ⟨a1, a2, a3, a4⟩ := admS_cols h1
      obtain ⟨b1, b2, b3, b4⟩ := admS_cols h2
      have hlm : L.length = M.length := by omega
      by_cases h3 : (chgS L M M.length).1.length ≤ 65536
      · rw [if_pos h3] at h
        injection h with h _
        rw [chgT_all L M hlm] at h h3
        have had := adAll_at t.cs M (admS_zero h2).2.2
        have hap := app_T (cs := t.cs) (L := L) (M := M) a4 a3 (fun j hj => ok_at hm j (by omega)) had M.length 0 0 L (⟨c.toArray⟩ : ByteArray).size (by omega) (Nat.le_refl _) (by rw [h, size_mk]; exact Nat.le_refl _)
        rw [h] at hap
        refine ⟨mixT L M M.length 0 L, ?_, ?_, h1⟩
        · unfold appR
          rw [if_pos h1, if_pos (by rw [size_mk, ← h]; exact h3), hap]
        · refine sameL_of _ _ (by rw [mix_len]; exact hlm) (fun k hk => ?_)
          rw [mix_len] at hk
          rw [mix_at L M M.length 0 L k (by omega)]
          cases hs : sameV (L.getD k zV) (M.getD k zV) with
          | true => rw [if_neg (by simp)]; exact hs
          | false => rw [if_pos ⟨by omega, by omega, rfl⟩]; exact sameV_self _
      · rw [if_neg h3] at h
        injection h with _ h
        cases h
    · rw [if_neg h2] at h
      injection h with _ h
      exact absurd h h2
  · rw [if_neg h1] at h
    injection h with _ h
    exact absurd h h1
/-- Change to what Apply told is the change -/
theorem chg_app {t : Tb} {L M : List Vl} {s : ByteArray} (hl : ∀ v ∈ L, v.ok) (h : appR t L s = (some M, 0)) : chgR t L M = (s.data.toList, 0) ∧ (∀ v ∈ M, v.ok) ∧ M.length = L.length ∧ M.length ≤ 64 := by
  unfold appR at h
  by_cases h1 : admS t L = 0
  · rw [if_pos h1] at h
    by_cases h2 : s.size ≤ 65536
    · rw [if_pos h2] at h
      cases ha : applyA t.cs L s.size L 0 s with
      | none => rw [ha] at h; injection h with h _; cases h
      | some m =>
        rw [ha] at h
        injection h with h _
        injection h with h
        subst h
        obtain ⟨a1, a2, a3, a4⟩ := admS_cols h1
        obtain ⟨i1, _, i3, i4⟩ := T_app (L := L) a4 s.size L 0 s m h2 a1 (Nat.zero_le _) (fun _ _ _ => rfl) ha
        have hlad := adAll_at t.cs L (admS_zero h1).2.2
        have had : ∀ j (hj : j < t.cs.length), admE t.cs[j] (m.getD j zV) = 0 := fun j hj => by
          have hcd : t.cs.getD j zC = t.cs[j] := by rw [List.getD_eq_getElem?_getD, List.getElem?_eq_getElem hj]; rfl
          rcases i4 j (Nat.zero_le _) hj with e | e
          · rw [e]; exact hlad j hj
          · rw [← hcd]; exact e.1
        have hmok : ∀ v ∈ m, v.ok := fun v hv => by
          obtain ⟨j, hj, e⟩ := List.getElem_of_mem hv
          rw [← e, ← getD_at hj]
          rcases i4 j (Nat.zero_le _) (by omega) with e | e
          · rw [e]; exact ok_at hl j (by omega)
          · exact e.2
        have hadm : admS t m = 0 := (adm_iff (admS_zero h1).1 i1).2 (adAll_of t.cs m i1 had)
        refine ⟨?_, hmok, by omega, by omega⟩
        unfold chgR
        have hdl : s.data.toList.length = s.size := by simp
        rw [if_pos h1, if_pos hadm, chgT_all L m (by omega)]
        have e : chgT L m m.length 0 0 = s.data.toList := by rw [i3, Nat.sub_zero, i1]
        rw [e, if_pos (by omega)]
    · rw [if_neg h2] at h
      injection h with _ h
      cases h
  · rw [if_neg h1] at h
    injection h with h _
    cases h
theorem app_err {t : Tb} {L : List Vl} {s : ByteArray} {o : Option (List Vl)} {e : Int} (h : appR t L s = (o, e)) : (e = 0 → ∃ M, o = some M) ∧ (¬ e = 0 → o = none) := by
  unfold appR at h
  by_cases h1 : admS t L = 0
  · rw [if_pos h1] at h
    by_cases h2 : s.size ≤ 65536
    · rw [if_pos h2] at h
      cases ha : applyA t.cs L s.size L 0 s with
      | none =>
        rw [ha] at h
        injection h with e1 e2
        exact ⟨fun h => by omega, fun _ => e1.symm⟩
      | some m =>
        rw [ha] at h
        injection h with e1 e2
        exact ⟨fun _ => ⟨m, e1.symm⟩, fun h => absurd e2.symm h⟩
    · rw [if_neg h2] at h
      injection h with e1 e2
      exact ⟨fun h => by omega, fun _ => e1.symm⟩
  · rw [if_neg h1] at h
    injection h with e1 e2
    exact ⟨fun h => absurd (by rw [e2]; exact h) h1, fun _ => e1.symm⟩
theorem chg_small {t : Tb} {L M : List Vl} {c : List UInt8} (h : chgR t L M = (c, 0)) : c.length ≤ 65536 := by
  unfold chgR at h
  split at h
  · split at h
    · split at h
      · rename_i h3
        injection h with h _
        rw [← h]
        exact h3
      · injection h with h _
        rw [← h]
        exact Nat.zero_le _
    · injection h with h _
      rw [← h]
      exact Nat.zero_le _
  · injection h with h _
    rw [← h]
    exact Nat.zero_le _
theorem app_cols {t : Tb} {L M : List Vl} {s : ByteArray} (h : appR t L s = (some M, 0)) : 1 ≤ L.length := by
  unfold appR at h
  split at h
  · rename_i h1
    obtain ⟨a1, a2, _⟩ := admS_cols h1
    omega
  · injection h with h _
    cases h

end Go.Proofs.YtfknmblobcjapaaDoor
