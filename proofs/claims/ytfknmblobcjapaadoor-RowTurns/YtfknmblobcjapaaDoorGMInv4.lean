/- Rows there and back. Decode of Encode is the row, Encode of Decode the bytes: as mathematics. A change read: one column behind the other. -/
import Derived.Test.YtfknmblobcjapaaDoorGMInv
import Derived.Test.YtfknmblobcjapaaDoorGWRvs
namespace Go.Proofs.YtfknmblobcjapaaDoor
open Go.RowKit
set_option maxRecDepth 100000

/-- the bytes that are read as a value are the value's -/
theorem told_decV {kd : Int} {bt : Nat} {x : ByteArray} {v : Vl} {k : Nat} (h : decV kd bt x = some (v, k)) (hk1 : 1 ≤ kd) (hk5 : kd ≤ 5) (hbt : bt ≤ 3) : pairN v = bt ∧ toldB v = x.data.toList.take k := by
  unfold decV at h
  by_cases h0 : bt = 0
  · rw [if_pos h0] at h
    injection h with h
    injection h with h1 h2
    subst h1 h2 h0
    simp [pairN, toldB, vNull]
  rw [if_neg h0] at h
  by_cases h1 : kd = 1 ∧ bt < 3
  · rw [if_pos h1] at h
    injection h with h
    injection h with h2 h3
    subst h2 h3
    have hb : bt = 1 ∨ bt = 2 := by omega
    rcases hb with rfl | rfl <;> simp [pairN, toldB]
  rw [if_neg h1] at h
  by_cases h2 : 1 < bt
  · rw [if_pos h2] at h
    cases h
  rw [if_neg h2] at h
  have hb1 : bt = 1 := by omega
  by_cases h3 : kd = 3
  · rw [if_pos h3] at h
    by_cases h4 : x.size < 8
    · rw [if_pos h4] at h
      cases h
    · rw [if_neg h4] at h
      injection h with h
      injection h with h5 h6
      subst h5 h6
      refine ⟨by simp [pairN, vFlo, hb1], ?_⟩
      have : toldB (vFlo (leN x 8)) = loB (leN x 8) 8 := by simp [toldB, vFlo]
      rw [this, loB_leN x (by omega)]
  rw [if_neg h3] at h
  by_cases h4 : (rdV x).2 = 0
  · rw [if_pos h4] at h
    cases h
  rw [if_neg h4] at h
  obtain ⟨n, q, hr⟩ : ∃ n q, rdV x = (n, q) := ⟨_, _, rfl⟩
  rw [hr] at h h4
  dsimp only at h h4
  obtain ⟨hv, hq⟩ := varB_rdV hr (by omega)
  by_cases h5 : kd = 2
  · rw [if_pos h5] at h
    injection h with h
    injection h with h6 h7
    subst h6 h7
    refine ⟨by simp [pairN, vInt, hb1], ?_⟩
    have : toldB (vInt (unz n)) = varB (zig (unz n)) := by simp [toldB, vInt]
    rw [this, zig_unz, hv]
  rw [if_neg h5] at h
  by_cases h6 : x.size - q < n
  · rw [if_pos h6] at h
    cases h
  · rw [if_neg h6] at h
    injection h with h
    injection h with h7 h8
    subst h7 h8
    have k0 : ¬ kd = 0 := by omega
    have k1 : ¬ kd = 1 := by omega
    refine ⟨by simp [pairN, k0, k1, hb1], ?_⟩
    have hsz : (x.extract q (q + n)).size = n := by rw [ByteArray.size_extract]; omega
    have : toldB ⟨kd, 0, 0, x.extract q (q + n)⟩ = varB (x.extract q (q + n)).size ++ (x.extract q (q + n)).data.toList := by
      unfold toldB
      dsimp only
      rw [if_neg h5, if_neg h3, if_pos (by omega)]
    rw [this, hsz, ext_takeI, ← hv, List.take_add]

/-- a row's bytes are read as the row -/
theorem rowA_of (s : ByteArray) : ∀ (cs : List Cl) (l : List Vl) (j k : Nat), l.length = cs.length → (∀ c ∈ cs, 1 ≤ c.kd ∧ c.kd ≤ 5) → (∀ v ∈ l, v.ok) → adAll cs l = true → (∀ i (hi : i < l.length), pairB s (j + i) = pairN l[i]) → k ≤ s.size → s.data.toList.drop k = l.flatMap toldB → rowA s cs j k = some (l, s.size)
  | [], l, j, k, hl, _, _, _, _, hk, hd => by
    have : l = [] := List.eq_nil_of_length_eq_zero hl
    subst this
    have h1 : s.data.toList.length - k = 0 := by
      have := congrArg List.length hd
      simpa using this
    have h2 : s.data.toList.length = s.size := by simp
    have : k = s.size := by omega
    subst this
    rfl
  | c :: cs, [], j, k, hl, _, _, _, _, _, _ => by simp at hl
  | c :: cs, v :: l, j, k, hl, hc, ho, ha, hp, hk, hd => by
    simp only [adAll, Bool.and_eq_true, decide_eq_true_eq] at ha
    have hv := ho v List.mem_cons_self
    have hkc := hc c List.mem_cons_self
    have hp0 := hp 0 (by simp)
    simp only [Nat.add_zero, List.getElem_cons_zero] at hp0
    rw [List.flatMap_cons] at hd
    have h2 : s.data.toList.length = s.size := by simp
    have hx : s.extract k s.size = ⟨(toldB v ++ l.flatMap toldB).toArray⟩ := by
      apply bytes_eqI
      have e : s.size = k + (s.size - k) := by omega
      rw [e, ext_takeI, hd]
      have hlen := congrArg List.length hd
      rw [List.length_drop, h2] at hlen
      rw [List.take_of_length_le (by omega)]
    have hadm : v.chk = 0 ∧ (v.k = 0 ∨ v.k = c.kd) := by
      have h3 := ha.1
      unfold admE at h3
      by_cases h4 : v.chk = 0
      · refine ⟨h4, ?_⟩
        rw [if_pos h4] at h3
        by_cases h5 : v.k = 0
        · exact .inl h5
        · rw [if_neg h5] at h3
          by_cases h6 : v.k = c.kd
          · exact .inr h6
          · rw [if_neg h6] at h3
            omega
      · rw [if_neg h4] at h3
        exact absurd h3 h4
    have hdv := decV_told v c.kd (l.flatMap toldB) hadm.1 hv hadm.2 hkc.1 hkc.2
    have hlen := congrArg List.length hd
    rw [List.length_drop, h2, List.length_append] at hlen
    unfold rowA decA
    rw [hx, hp0, hdv]
    dsimp only
    rw [if_pos ha.1]
    dsimp only
    have ih := rowA_of s cs l (j + 1) (k + (toldB v).length) (by simpa using hl) (fun c' h' => hc c' (List.mem_cons_of_mem _ h')) (fun v' h' => ho v' (List.mem_cons_of_mem _ h')) ha.2
      (fun i hi => by
        have := hp (i + 1) (by simpa using hi)
        rw [show j + 1 + i = j + (i + 1) by omega, this]
        rfl) (by omega) (by rw [← List.drop_drop, hd, List.drop_left])
    rw [ih]

/-- what is read as a row is the row's bytes -/
theorem of_rowA (s : ByteArray) (hs : s.size ≤ 65536) : ∀ (cs : List Cl) (j k : Nat) (L : List Vl) (e : Nat), (∀ c ∈ cs, 1 ≤ c.kd ∧ c.kd ≤ 5) → k ≤ s.size → rowA s cs j k = some (L, e) → k ≤ e ∧ e ≤ s.size ∧ L.length = cs.length ∧ (∀ i (hi : i < L.length), pairN L[i] = pairB s (j + i)) ∧ L.flatMap toldB = (s.data.toList.drop k).take (e - k) ∧ adAll cs L = true
  | [], j, k, L, e, _, hk, h => by
    unfold rowA at h
    injection h with h
    injection h with h1 h2
    subst h1 h2
    exact ⟨Nat.le_refl _, hk, rfl, fun i hi => by simp at hi, by simp, rfl⟩
  | c :: cs, j, k, L, e, hc, hk, h => by
    unfold rowA at h
    have hkc := hc c List.mem_cons_self
    have hxx : (s.extract k s.size).size = s.size - k := by rw [ByteArray.size_extract]; omega
    cases hd : decA c (pairB s j) (s.extract k s.size) with
    | none => rw [hd] at h; cases h
    | some p =>
      rw [hd] at h
      dsimp only at h
      obtain ⟨pv, pk⟩ := p
      obtain ⟨hdv, had⟩ := decA_some hd
      have hok := decV_ok hdv hkc.1 hkc.2 (by rw [hxx]; omega) (pairB_le s j)
      rw [hxx] at hok
      obtain ⟨hp, ht⟩ := told_decV hdv hkc.1 hkc.2 (pairB_le s j)
      cases hr : rowA s cs (j + 1) (k + pk) with
      | none => rw [hr] at h; cases h
      | some q =>
        rw [hr] at h
        dsimp only at h
        injection h with h
        injection h with h1 h2
        subst h1 h2
        obtain ⟨i1, i2, i3, i4, i5, i6⟩ := of_rowA s hs cs (j + 1) (k + pk) q.1 q.2 (fun c' h' => hc c' (List.mem_cons_of_mem _ h')) (by omega) hr
        refine ⟨by omega, i2, by simp [i3], ?_, ?_, ?_⟩
        · intro i hi
          cases i with
          | zero => exact hp
          | succ i =>
            have := i4 i (by simpa using hi)
            rw [show j + (i + 1) = j + 1 + i by omega, ← this]
            rfl
        · rw [List.flatMap_cons, i5, ht]
          have e1 : (s.extract k s.size).data.toList = s.data.toList.drop k := by
            have e2 : s.size = k + (s.size - k) := by omega
            rw [e2, ext_takeI]
            have h2 : s.data.toList.length = s.size := by simp
            rw [List.take_of_length_le (by rw [List.length_drop]; omega)]
          rw [e1, ← List.drop_drop, show q.2 - k = pk + (q.2 - (k + pk)) by omega, List.take_add]
        · simp only [adAll, Bool.and_eq_true, decide_eq_true_eq]
          exact ⟨had, i6⟩

end Go.Proofs.YtfknmblobcjapaaDoor

namespace Go.Proofs.YtfknmblobcjapaaDoor
open Go.RowKit
set_option maxRecDepth 100000

theorem pairB_pr (s : ByteArray) (i : Nat) (h : i / 4 < s.size) : pairB s i = pr s[i / 4] (i % 4) := by
  rw [pairB_at s i h]
  unfold pr
  rw [Nat.pow_mul]
theorem admS_zero {t : Tb} {l : List Vl} (h : admS t l = 0) : checkS t = 0 ∧ l.length = t.cs.length ∧ adAll t.cs l = true := by
  have h0 := h
  unfold admS at h
  by_cases hc : checkS t = 0
  · rw [if_pos hc] at h
    by_cases hl : l.length = t.cs.length
    · exact ⟨hc, hl, (adm_iff hc hl).1 h0⟩
    · rw [if_neg hl] at h
      omega
  · rw [if_neg hc] at h
    exact absurd h hc
theorem rowB_pair (l : List Vl) (i : Nat) (hi : i / 4 < (l.length + 3) / 4) : pairB ⟨(rowB l).toArray⟩ i = if h : i < l.length then pairN l[i] else 0 := by
  have hlen : (packK ((l.length + 3) / 4) l l.length).length = (l.length + 3) / 4 := packK_len _ _ _
  have hsz : ByteArray.size ⟨(rowB l).toArray⟩ = (rowB l).length := by
    show (rowB l).toArray.size = _
    simp
  have hlt : i / 4 < (rowB l).length := by
    unfold rowB
    rw [List.length_append, hlen]
    omega
  rw [pairB_pr _ _ (by rw [hsz]; exact hlt)]
  have e : (⟨(rowB l).toArray⟩ : ByteArray)[i / 4]'(by rw [hsz]; exact hlt) = (packK ((l.length + 3) / 4) l l.length)[i / 4]'(by rw [hlen]; exact hi) := by
    show (rowB l).toArray[i / 4]'(by simpa using hlt) = _
    rw [List.getElem_toArray]
    unfold rowB
    exact List.getElem_append_left (by rw [hlen]; exact hi)
  rw [e, pack_pair _ l (by omega) l.length (Nat.le_refl _) i hi]
theorem dec_enc {t : Tb} {l : List Vl} {bs : List UInt8} (ho : ∀ v ∈ l, v.ok) (h : encR t l = (bs, 0)) : decR t ⟨bs.toArray⟩ = (l, 0) := by
  unfold encR at h
  by_cases ha : admS t l = 0
  · rw [if_pos ha] at h
    by_cases hz : (rowB l).length ≤ 65536
    · rw [if_pos hz] at h
      injection h with h _
      subst h
      obtain ⟨hc, hl, had⟩ := admS_zero ha
      have hlen : (packK ((l.length + 3) / 4) l l.length).length = (l.length + 3) / 4 := packK_len _ _ _
      have hsz : ByteArray.size ⟨(rowB l).toArray⟩ = (rowB l).length := by
        show (rowB l).toArray.size = _
        simp
      have hge : (l.length + 3) / 4 ≤ (rowB l).length := by
        unfold rowB
        rw [List.length_append, hlen]
        omega
      have hrow : rowR t.cs ⟨(rowB l).toArray⟩ = some (l, (rowB l).length) := by
        unfold rowR
        rw [← hl, hsz, if_neg (by omega), if_pos]
        · rw [← hsz]
          refine rowA_of _ t.cs l 0 _ hl (checkS_kd hc) ho had (fun i hi => ?_) (by rw [hsz]; exact hge) ?_
          · rw [Nat.zero_add, rowB_pair l i (by omega), dif_pos hi]
          · show (rowB l).toArray.toList.drop _ = _
            rw [List.toList_toArray]
            conv => lhs; unfold rowB
            exact List.drop_left' hlen
        · apply spB_yes
          intro i h1 h2
          rw [rowB_pair l i (by omega), dif_neg (by omega)]
      unfold decR decO
      rw [if_pos hc, hsz, if_pos hz, hrow]
      simp
    · rw [if_neg hz] at h
      injection h with _ h
      omega
  · rw [if_neg ha] at h
    injection h with _ h
    exact absurd h ha
theorem enc_dec {t : Tb} {s : ByteArray} {L : List Vl} (h : decR t s = (L, 0)) : encR t L = (s.data.toList, 0) := by
  unfold decR at h
  by_cases hc : checkS t = 0
  · rw [if_pos hc] at h
    by_cases hz : s.size ≤ 65536
    · rw [if_pos hz] at h
      unfold decO at h
      cases hr : rowR t.cs s with
      | none =>
        rw [hr] at h
        injection h with _ h
        omega
      | some q =>
        rw [hr] at h
        obtain ⟨Q, e⟩ := q
        dsimp only at h
        by_cases he : e = s.size
        · rw [if_pos he] at h
          injection h with h _
          subst h he
          unfold rowR at hr
          by_cases h1 : s.size < (t.cs.length + 3) / 4
          · rw [if_pos h1] at hr
            cases hr
          rw [if_neg h1] at hr
          cases h2 : spB s t.cs.length (4 * ((t.cs.length + 3) / 4)) with
          | false => rw [h2] at hr; cases hr
          | true =>
            rw [h2, if_pos rfl] at hr
            obtain ⟨_, _, i3, i4, i5, i6⟩ := of_rowA s hz t.cs 0 _ Q s.size (checkS_kd hc) (by omega) hr
            have ha : admS t Q = 0 := (adm_iff hc i3).2 i6
            have hdl : s.data.toList.length = s.size := by simp
            have hfl : Q.flatMap toldB = s.data.toList.drop ((t.cs.length + 3) / 4) := by
              rw [i5, List.take_of_length_le (by rw [List.length_drop]; omega)]
            have hlen : (packK ((Q.length + 3) / 4) Q Q.length).length = (Q.length + 3) / 4 := packK_len _ _ _
            have hpk : packK ((Q.length + 3) / 4) Q Q.length = s.data.toList.take ((t.cs.length + 3) / 4) := by
              apply List.ext_getElem
              · rw [hlen, List.length_take, hdl, i3]
                omega
              · intro q hq1 hq2
                rw [hlen] at hq1
                rw [List.getElem_take]
                apply UInt8.toNat_inj.1
                have hq3 : q < s.size := by omega
                have hb := byte_pairs ⟨((packK ((Q.length + 3) / 4) Q Q.length)[q]'(by rw [hlen]; exact hq1)).toNat, UInt8.toNat_lt _⟩ ⟨(s.data.toList[q]'(by omega)).toNat, UInt8.toNat_lt _⟩ (fun r => ?_)
                · exact congrArg Fin.val hb
                · have hr4 := r.isLt
                  have hi1 : (4 * q + r.val) / 4 = q := by omega
                  have hi2 : (4 * q + r.val) % 4 = r.val := by omega
                  have p1 := pack_pair ((Q.length + 3) / 4) Q (by omega) Q.length (Nat.le_refl _) (4 * q + r.val) (by omega)
                  have p2 := pairB_pr s (4 * q + r.val) (by omega)
                  have p3 : pairB s (4 * q + r.val) = if h : 4 * q + r.val < Q.length then pairN Q[4 * q + r.val] else 0 := by
                    by_cases h : 4 * q + r.val < Q.length
                    · rw [dif_pos h, i4 _ h, Nat.zero_add]
                    · rw [dif_neg h]
                      exact (spB_iff _ _ _).1 h2 _ (by omega) (by omega)
                  simp only [hi1, hi2] at p1 p2
                  rw [← p3, p2] at p1
                  exact p1
            have hrow : rowB Q = s.data.toList := by
              unfold rowB
              rw [hpk, hfl, List.take_append_drop]
            unfold encR
            rw [if_pos ha, hrow, if_pos (by omega)]
        · rw [if_neg he] at h
          injection h with _ h
          omega
    · rw [if_neg hz] at h
      injection h with _ h
      omega
  · rw [if_neg hc] at h
    injection h with _ h
    exact absurd h hc
/-- nothing is told beside an error -/
theorem decR_none {t : Tb} {s : ByteArray} {L : List Vl} {e : Int} (h : decR t s = (L, e)) (he : e ≠ 0) : L = [] := by
  unfold decR at h
  by_cases hc : checkS t = 0
  · rw [if_pos hc] at h
    by_cases hz : s.size ≤ 65536
    · rw [if_pos hz] at h
      cases hd : decO t s with
      | none =>
        rw [hd] at h
        injection h with h _
        exact h.symm
      | some l =>
        rw [hd] at h
        injection h with _ h
        omega
    · rw [if_neg hz] at h
      injection h with h _
      exact h.symm
  · rw [if_neg hc] at h
    injection h with h _
    exact h.symm
theorem decR_ok {t : Tb} {s : ByteArray} : ∀ v ∈ (decR t s).1, v.ok := by
  unfold decR
  by_cases hc : checkS t = 0
  · rw [if_pos hc]
    by_cases hz : s.size ≤ 65536
    · rw [if_pos hz, decO_K hc hz]
      unfold rowKR
      rw [List.length_map]
      by_cases h1 : s.size < (t.cs.length + 3) / 4
      · rw [if_pos h1]
        intro v hv
        cases hv
      rw [if_neg h1]
      cases h2 : spB s t.cs.length (4 * ((t.cs.length + 3) / 4)) with
      | false =>
        intro v hv
        cases hv
      | true =>
        rw [if_pos rfl]
        cases h3 : rowK s (t.cs.map Cl.kd) 0 ((t.cs.length + 3) / 4) with
        | none =>
          intro v hv
          cases hv
        | some q =>
          have hk := rowK_ok s hz _ _ _ q (fun c hcm => by obtain ⟨c', hc', rfl⟩ := List.mem_map.1 hcm; exact checkS_kd hc c' hc') (by omega) h3
          dsimp only
          by_cases h5 : q.2 = s.size ∧ admS t q.1 = 0
          · rw [if_pos h5]
            exact hk.1
          · rw [if_neg h5]
            intro v hv
            cases hv
    · rw [if_neg hz]
      intro v hv
      cases hv
  · rw [if_neg hc]
    intro v hv
    cases hv

end Go.Proofs.YtfknmblobcjapaaDoor

namespace Go.Proofs.YtfknmblobcjapaaDoor
open Go.RowKit
set_option maxRecDepth 100000

/-- a column that is none -/
def zC : Cl := ⟨⟨#[]⟩, 0, false, zV⟩
/-- WHAT A CHANGE TELLS NEXT, from a column on: the column, what it has then, how many bytes say so. -/
def stepA (cs : List Cl) (next : Nat) (s : ByteArray) : Option (Nat × Vl × Nat) :=
  if (rdV s).2 = 0 ∨ cs.length - next ≤ (rdV s).1 then none else
  match rowR [cs.getD (next + (rdV s).1) zC] (s.extract (rdV s).2 s.size) with
  | none => none
  | some p => some (next + (rdV s).1, p.1.headD zV, (rdV s).2 + p.2)
theorem rowR_one {c : Cl} {s : ByteArray} {L : List Vl} {k : Nat} (hc : 1 ≤ c.kd ∧ c.kd ≤ 5) (hs : s.size ≤ 65536) (h : rowR [c] s = some (L, k)) : ∃ v, L = [v] ∧ k ≤ s.size := by
  unfold rowR at h
  have e : ([c].length + 3) / 4 = 1 := by simp
  rw [e] at h
  clear e
  split at h
  · cases h
  · rename_i h1
    split at h
    · have := of_rowA s hs [c] 0 1 L k (fun d hd => by simp at hd; subst hd; exact hc) (by omega) h
      obtain ⟨_, h3, h4, _⟩ := this
      match L, h4 with
      | [v], _ => exact ⟨v, rfl, h3⟩
    · cases h
/-- how readStep ends -/
def StepP (r : Option (Nat × Vl × Nat)) (w : World) (e : Ending) (w' : World) : Prop := ∃ (i : Nat) (v : Vl) (k : Nat) (b : Bool), e = .returned (.tuple #[.int .i64 (i : Int), v.val, .int .i64 (k : Int), .bool b]) ∧ ((b = true ∧ r = some (i, v, k)) ∨ (b = false ∧ r = none)) ∧ Below w.heap.size w w'
theorem StepP.no {r : Option (Nat × Vl × Nat)} {w w' : World} {e : Ending} (he : e = .returned (.tuple #[.int .i64 0, zV.val, .int .i64 0, .bool false])) (h : r = none) (hw : Below w.heap.size w w') : StepP r w e w' := ⟨0, zV, 0, false, he, .inr ⟨rfl, h⟩, hw⟩
theorem RowC.one {w : World} {B : Nat} {p : Option Addr} {cs : List Cl} (h : RowC w B p cs) (i : Nat) (hi : i < cs.length) : ∃ b o, p = some ⟨b, o, none⟩ ∧ RowC w B (some ⟨b, o + i * 7, none⟩) [cs[i]] := by
  obtain ⟨b, o, rfl, hb, hh⟩ := h i hi
  refine ⟨b, o, rfl, fun j hj => ?_⟩
  obtain rfl : j = 0 := by simp at hj; exact hj
  exact ⟨b, o + i * 7, rfl, hb, by simpa using hh⟩

end Go.Proofs.YtfknmblobcjapaaDoor
