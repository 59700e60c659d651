/- A value of a row there and back. Rows there and back. -/
import Derived.Test.YtinlgaefgedmcaaGreatDoorGMInv
namespace Go.Proofs.YtinlgaefgedmcaaGreatDoor
open Go.RowKit
set_option maxRecDepth 100000

theorem bytes_eqI {a b : ByteArray} (h : a.data.toList = b.data.toList) : a = b := by
  obtain ⟨a⟩ := a
  obtain ⟨b⟩ := b
  congr 1
  exact Array.toList_inj.1 h
theorem empty_ofI {s : ByteArray} (h : s.toList.isEmpty = true) : s = ⟨#[]⟩ := by
  rw [ByteArray.toList_eq] at h
  apply bytes_eqI
  simpa using h
theorem ext_takeI (s : ByteArray) (a k : Nat) : (s.extract a (a + k)).data.toList = (s.data.toList.drop a).take k := by
  simp [ByteArray.data_extract]
theorem chk_parts {v : Vl} (h : v.chk = 0) : kindB v.k = true ∧ numB v.k v.n = true ∧ floB v.k v.f = true ∧ strB v.k v.s = true ∧ v.s.size ≤ 65536 := by
  unfold Vl.chk chkV at h
  by_cases h1 : (kindB v.k && numB v.k v.n && floB v.k v.f && strB v.k v.s) = true
  · rw [if_pos h1] at h
    simp only [Bool.and_eq_true] at h1
    by_cases h2 : (65536 : Int) < (v.s.size : Int)
    · rw [if_pos h2] at h
      omega
    · exact ⟨h1.1.1.1, h1.1.1.2, h1.1.2, h1.2, by omega⟩
  · rw [if_neg h1] at h
    omega
/-- the value of a kind that is read is the value -/
theorem decV_told (v : Vl) (kd : Int) (rest : List UInt8) (hc : v.chk = 0) (ho : v.ok) (hk : v.k = 0 ∨ v.k = kd) (hk1 : 1 ≤ kd) (hk5 : kd ≤ 5) : decV kd (pairN v) ⟨(toldB v ++ rest).toArray⟩ = some (v, (toldB v).length) := by
  obtain ⟨_, h2, h3, h4, h5⟩ := chk_parts hc
  obtain ⟨_, ⟨n1, n2⟩, hf, _⟩ := ho
  obtain ⟨k, n, f, s⟩ := v
  dsimp only at *
  have hfl : k ≠ 3 → f = 0 := by
    intro h
    simp [floB, h] at h3
    omega
  have hst : k ≠ 4 → k ≠ 5 → s = ⟨#[]⟩ := by
    intro h h'
    simp only [strB, beq_iff_eq, h, h', if_false] at h4
    exact empty_ofI h4
  have hnu : k ≠ 1 → k ≠ 2 → n = 0 := by
    intro h h'
    simp [numB, h, h'] at h2
    exact h2
  by_cases k0 : k = 0
  · subst k0
    have e1 := hfl (by decide)
    have e2 := hst (by decide) (by decide)
    have e3 := hnu (by decide) (by decide)
    subst e1 e2 e3
    simp [pairN, decV, toldB, vNull]
  have kk : k = kd := by omega
  subst kk
  by_cases k1 : k = 1
  · subst k1
    have e1 := hfl (by decide)
    have e2 := hst (by decide) (by decide)
    subst e1 e2
    have hn : n = 0 ∨ n = 1 := by simpa [numB] using h2
    rcases hn with rfl | rfl <;> simp [pairN, decV, toldB]
  have hp : pairN ⟨k, n, f, s⟩ = 1 := by
    unfold pairN
    dsimp only
    rw [if_neg k0, if_neg (fun h => k1 h.1)]
  rw [hp]
  unfold decV
  rw [if_neg (by decide), if_neg (fun h => k1 h.1), if_neg (by decide)]
  by_cases k3 : k = 3
  · subst k3
    have e2 := hst (by decide) (by decide)
    have e3 := hnu (by decide) (by decide)
    subst e2 e3
    have ht : toldB ⟨3, 0, f, ⟨#[]⟩⟩ = loB f 8 := by simp [toldB]
    rw [ht, loB_len, if_pos rfl]
    have hsz : ByteArray.size ⟨(loB f 8 ++ rest).toArray⟩ = 8 + rest.length := by
      show (loB f 8 ++ rest).toArray.size = _
      simp [loB_len]
    rw [if_neg (by rw [hsz]; omega)]
    have hl : leN ⟨(loB f 8 ++ rest).toArray⟩ 8 = f := by
      rw [leN_loB _ f 8 (fun i hi => ?_) 8 (Nat.le_refl _)]
      · exact Nat.mod_eq_of_lt (by simpa using hf)
      · simp only [List.getD_eq_getElem?_getD]
        rw [List.getElem?_append_left (by rw [loB_len]; exact hi)]
        simp [loB, hi]
    rw [hl]
    rfl
  rw [if_neg k3]
  have e1 := hfl k3
  subst e1
  by_cases k2 : k = 2
  · subst k2
    have e2 := hst (by decide) (by decide)
    subst e2
    have ht : toldB ⟨2, n, 0, ⟨#[]⟩⟩ = varB (zig n) := by simp [toldB]
    have hz := zig_lt n1 n2
    rw [ht, rdV_varB _ _ hz]
    have hpos : (varB (zig n)).length ≠ 0 := by
      unfold varB
      rw [varK]
      split <;> simp
    rw [if_neg hpos, if_pos rfl]
    dsimp only
    rw [unz_zig]
    rfl
  have k45 : k = 4 ∨ k = 5 := by omega
  have e3 := hnu k1 k2
  subst e3
  have ht : toldB ⟨k, 0, 0, s⟩ = varB s.size ++ s.data.toList := by
    unfold toldB
    dsimp only
    rw [if_neg k2, if_neg k3, if_pos k45]
  rw [ht, List.append_assoc, rdV_varB _ _ (by omega)]
  have hpos : (varB s.size).length ≠ 0 := by
    unfold varB
    rw [varK]
    split <;> simp
  have hsz : ByteArray.size ⟨(varB s.size ++ (s.data.toList ++ rest)).toArray⟩ = (varB s.size).length + (s.size + rest.length) := by
    show (varB s.size ++ (s.data.toList ++ rest)).toArray.size = _
    have : s.data.toList.length = s.size := by simp
    simp
  dsimp only
  rw [if_neg hpos, if_neg k2, if_neg (by rw [hsz]; omega)]
  have hx : ByteArray.extract ⟨(varB s.size ++ (s.data.toList ++ rest)).toArray⟩ (varB s.size).length ((varB s.size).length + s.size) = s := by
    apply bytes_eqI
    rw [ext_takeI]
    have : s.data.toList.length = s.size := by simp
    simp
  rw [hx, List.length_append]
  have : s.data.toList.length = s.size := by simp
  rw [this]

end Go.Proofs.YtinlgaefgedmcaaGreatDoor

namespace Go.Proofs.YtinlgaefgedmcaaGreatDoor
open Go.RowKit
set_option maxRecDepth 100000

/-- the bytes that are read as a value are the value's -/
theorem told_decV {kd : Int} {bt : Nat} {x : ByteArray} {v : Vl} {k : Nat} (h : decV kd bt x = some (v, k)) (hk1 : 1 ≤ kd) (hk5 : kd ≤ 5) (hbt : bt ≤ 3) : pairN v = bt ∧ toldB v = x.data.toList.take k := by
  unfold decV at h
  by_cases h0 : bt = 0
  · rw [if_pos h0] at h
    injection h with h
    injection h with h1 h2
    subst h1 h2 h0
    simp [pairN, toldB, vNull]
  rw [if_neg h0] at h
  by_cases h1 : kd = 1 ∧ bt < 3
  · rw [if_pos h1] at h
    injection h with h
    injection h with h2 h3
    subst h2 h3
    have hb : bt = 1 ∨ bt = 2 := by omega
    rcases hb with rfl | rfl <;> simp [pairN, toldB]
  rw [if_neg h1] at h
  by_cases h2 : 1 < bt
  · rw [if_pos h2] at h
    cases h
  rw [if_neg h2] at h
  have hb1 : bt = 1 := by omega
  by_cases h3 : kd = 3
  · rw [if_pos h3] at h
    by_cases h4 : x.size < 8
    · rw [if_pos h4] at h
      cases h
    · rw [if_neg h4] at h
      injection h with h
      injection h with h5 h6
      subst h5 h6
      refine ⟨by simp [pairN, vFlo, hb1], ?_⟩
      have : toldB (vFlo (leN x 8)) = loB (leN x 8) 8 := by simp [toldB, vFlo]
      rw [this, loB_leN x (by omega)]
  rw [if_neg h3] at h
  by_cases h4 : (rdV x).2 = 0
  · rw [if_pos h4] at h
    cases h
  rw [if_neg h4] at h
  obtain ⟨n, q, hr⟩ : ∃ n q, rdV x = (n, q) := ⟨_, _, rfl⟩
  rw [hr] at h h4
  dsimp only at h h4
  obtain ⟨hv, hq⟩ := varB_rdV hr (by omega)
  by_cases h5 : kd = 2
  · rw [if_pos h5] at h
    injection h with h
    injection h with h6 h7
    subst h6 h7
    refine ⟨by simp [pairN, vInt, hb1], ?_⟩
    have : toldB (vInt (unz n)) = varB (zig (unz n)) := by simp [toldB, vInt]
    rw [this, zig_unz, hv]
  rw [if_neg h5] at h
  by_cases h6 : x.size - q < n
  · rw [if_pos h6] at h
    cases h
  · rw [if_neg h6] at h
    injection h with h
    injection h with h7 h8
    subst h7 h8
    have k0 : ¬ kd = 0 := by omega
    have k1 : ¬ kd = 1 := by omega
    refine ⟨by simp [pairN, k0, k1, hb1], ?_⟩
    have hsz : (x.extract q (q + n)).size = n := by rw [ByteArray.size_extract]; omega
    have : toldB ⟨kd, 0, 0, x.extract q (q + n)⟩ = varB (x.extract q (q + n)).size ++ (x.extract q (q + n)).data.toList := by
      unfold toldB
      dsimp only
      rw [if_neg h5, if_neg h3, if_pos (by omega)]
    rw [this, hsz, ext_takeI, ← hv, List.take_add]

/-- a row's bytes are read as the row -/
theorem rowA_of (s : ByteArray) : ∀ (cs : List Cl) (l : List Vl) (j k : Nat), l.length = cs.length → (∀ c ∈ cs, 1 ≤ c.kd ∧ c.kd ≤ 5) → (∀ v ∈ l, v.ok) → adAll cs l = true → (∀ i (hi : i < l.length), pairB s (j + i) = pairN l[i]) → k ≤ s.size → s.data.toList.drop k = l.flatMap toldB → rowA s cs j k = some (l, s.size)
  | [], l, j, k, hl, _, _, _, _, hk, hd => by
    have : l = [] := List.eq_nil_of_length_eq_zero hl
    subst this
    have h1 : s.data.toList.length - k = 0 := by
      have := congrArg List.length hd
      simpa using this
    have h2 : s.data.toList.length = s.size := by simp
    have : k = s.size := by omega
    subst this
    rfl
  | c :: cs, [], j, k, hl, _, _, _, _, _, _ => by simp at hl
  | c :: cs, v :: l, j, k, hl, hc, ho, ha, hp, hk, hd => by
    simp only [adAll, Bool.and_eq_true, decide_eq_true_eq] at ha
    have hv := ho v List.mem_cons_self
    have hkc := hc c List.mem_cons_self
    have hp0 := hp 0 (by simp)
    simp only [Nat.add_zero, List.getElem_cons_zero] at hp0
    rw [List.flatMap_cons] at hd
    have h2 : s.data.toList.length = s.size := by simp
    have hx : s.extract k s.size = ⟨(toldB v ++ l.flatMap toldB).toArray⟩ := by
      apply bytes_eqI
      have e : s.size = k + (s.size - k) := by omega
      rw [e, ext_takeI, hd]
      have hlen := congrArg List.length hd
      rw [List.length_drop, h2] at hlen
      rw [List.take_of_length_le (by omega)]
    have hadm : v.chk = 0 ∧ (v.k = 0 ∨ v.k = c.kd) := by
      have h3 := ha.1
      unfold admE at h3
      by_cases h4 : v.chk = 0
      · refine ⟨h4, ?_⟩
        rw [if_pos h4] at h3
        by_cases h5 : v.k = 0
        · exact .inl h5
        · rw [if_neg h5] at h3
          by_cases h6 : v.k = c.kd
          · exact .inr h6
          · rw [if_neg h6] at h3
            omega
      · rw [if_neg h4] at h3
        exact absurd h3 h4
    have hdv := decV_told v c.kd (l.flatMap toldB) hadm.1 hv hadm.2 hkc.1 hkc.2
    have hlen := congrArg List.length hd
    rw [List.length_drop, h2, List.length_append] at hlen
    unfold rowA decA
    rw [hx, hp0, hdv]
    dsimp only
    rw [if_pos ha.1]
    dsimp only
    have ih := rowA_of s cs l (j + 1) (k + (toldB v).length) (by simpa using hl) (fun c' h' => hc c' (List.mem_cons_of_mem _ h')) (fun v' h' => ho v' (List.mem_cons_of_mem _ h')) ha.2
      (fun i hi => by
        have := hp (i + 1) (by simpa using hi)
        rw [show j + 1 + i = j + (i + 1) by omega, this]
        rfl) (by omega) (by rw [← List.drop_drop, hd, List.drop_left])
    rw [ih]

/-- what is read as a row is the row's bytes -/
theorem of_rowA (s : ByteArray) (hs : s.size ≤ 65536) : ∀ (cs : List Cl) (j k : Nat) (L : List Vl) (e : Nat), (∀ c ∈ cs, 1 ≤ c.kd ∧ c.kd ≤ 5) → k ≤ s.size → rowA s cs j k = some (L, e) → k ≤ e ∧ e ≤ s.size ∧ L.length = cs.length ∧ (∀ i (hi : i < L.length), pairN L[i] = pairB s (j + i)) ∧ L.flatMap toldB = (s.data.toList.drop k).take (e - k) ∧ adAll cs L = true
  | [], j, k, L, e, _, hk, h => by
    unfold rowA at h
    injection h with h
    injection h with h1 h2
    subst h1 h2
    exact ⟨Nat.le_refl _, hk, rfl, fun i hi => by simp at hi, by simp, rfl⟩
  | c :: cs, j, k, L, e, hc, hk, h => by
    unfold rowA at h
    have hkc := hc c List.mem_cons_self
    have hxx : (s.extract k s.size).size = s.size - k := by rw [ByteArray.size_extract]; omega
    cases hd : decA c (pairB s j) (s.extract k s.size) with
    | none => rw [hd] at h; cases h
    | some p =>
      rw [hd] at h
      dsimp only at h
      obtain ⟨pv, pk⟩ := p
      obtain ⟨hdv, had⟩ := decA_some hd
      have hok := decV_ok hdv hkc.1 hkc.2 (by rw [hxx]; omega) (pairB_le s j)
      rw [hxx] at hok
      obtain ⟨hp, ht⟩ := told_decV hdv hkc.1 hkc.2 (pairB_le s j)
      cases hr : rowA s cs (j + 1) (k + pk) with
      | none => rw [hr] at h; cases h
      | some q =>
        rw [hr] at h
        dsimp only at h
        injection h with h
        injection h with h1 h2
        subst h1 h2
        obtain ⟨i1, i2, i3, i4, i5, i6⟩ := of_rowA s hs cs (j + 1) (k + pk) q.1 q.2 (fun c' h' => hc c' (List.mem_cons_of_mem _ h')) (by omega) hr
        refine ⟨by omega, i2, by simp [i3], ?_, ?_, ?_⟩
        · intro i hi
          cases i with
          | zero => exact hp
          | succ i =>
            have := i4 i (by simpa using hi)
            rw [show j + (i + 1) = j + 1 + i by omega, ← this]
            rfl
        · rw [List.flatMap_cons, i5, ht]
          have e1 : (s.extract k s.size).data.toList = s.data.toList.drop k := by
            have e2 : s.size = k + (s.size - k) := by omega
            rw [e2, ext_takeI]
            have h2 : s.data.toList.length = s.size := by simp
            rw [List.take_of_length_le (by rw [List.length_drop]; omega)]
          rw [e1, ← List.drop_drop, show q.2 - k = pk + (q.2 - (k + pk)) by omega, List.take_add]
        · simp only [adAll, Bool.and_eq_true, decide_eq_true_eq]
          exact ⟨had, i6⟩

end Go.Proofs.YtinlgaefgedmcaaGreatDoor
