/- Numbers of rows there and back. Floats and pairs of rows there and back. A value of a row there and back. -/
import Derived.Test.YtfknmblobcjapaaDoorGWRvs
namespace Go.Proofs.YtfknmblobcjapaaDoor
open Go.RowKit
set_option maxRecDepth 100000

theorem u8_of (n : Nat) (h : n < 256) : (UInt8.ofNat n).toNat = n := by simp [Nat.mod_eq_of_lt h]
theorem pow128_9 : (128 : Nat) ^ 9 = 9223372036854775808 := by decide
/-- a number's bytes are read as the number -/
theorem rdK_varK : ∀ (m i n acc : Nat) (rest : List UInt8), i + m = 9 → n * 128 ^ i < 18446744073709551616 → (i = 0 ∨ n ≠ 0) → rdK (varK m n ++ rest) i acc = (acc + n * 128 ^ i, i + (varK m n).length)
  | m, i, n, acc, rest, him, hn, h0 => by
    by_cases hs : n < 128
    · rw [varK_small hs]
      simp only [List.singleton_append, List.length_singleton]
      unfold rdK
      rw [if_neg (by omega), u8_of n (by omega), if_pos hs]
      rw [if_neg]
      rintro (⟨h1, h2⟩ | ⟨h1, h2⟩)
      · subst h1
        rw [pow128_9] at hn
        omega
      · omega
    · cases m with
      | zero =>
        have h9 : i = 9 := by omega
        subst h9
        rw [pow128_9] at hn
        omega
      | succ m =>
        rw [varK_big hs]
        have hc : (UInt8.ofNat (n % 128 + 128)).toNat = n % 128 + 128 := u8_of _ (by omega)
        rw [List.cons_append]
        unfold rdK
        rw [if_neg (by omega), hc, if_neg (by omega)]
        have hm : (n / 128) * 128 ^ (i + 1) ≤ n * 128 ^ i := by
          rw [Nat.pow_succ, Nat.mul_comm (128 ^ i) 128, ← Nat.mul_assoc]
          exact Nat.mul_le_mul_right _ (Nat.div_mul_le_self n 128)
        have ih := rdK_varK m (i + 1) (n / 128) (acc + (n % 128 + 128) % 128 * 128 ^ i) rest (by omega) (by omega) (.inr (by omega))
        rw [ih]
        have e1 : (n % 128 + 128) % 128 = n % 128 := by omega
        have e2 : n % 128 * 128 ^ i + n / 128 * 128 ^ (i + 1) = n * 128 ^ i := by
          rw [Nat.pow_succ, Nat.mul_comm (128 ^ i) 128, ← Nat.mul_assoc, ← Nat.add_mul]
          congr 1
          omega
        rw [e1]
        simp only [List.length_cons, Prod.mk.injEq]
        constructor
        · omega
        · omega
theorem rdV_varB (n : Nat) (rest : List UInt8) (h : n < 18446744073709551616) : rdV ⟨(varB n ++ rest).toArray⟩ = (n, (varB n).length) := by
  unfold rdV varB
  have := rdK_varK 9 0 n 0 rest rfl (by simpa using h) (.inl rfl)
  simpa using this
/-- bytes that are read as a number are the number's -/
theorem varK_rdK : ∀ (l : List UInt8) (i acc N k : Nat), i ≤ 9 → rdK l i acc = (N, k) → 0 < k → ∃ n, N = acc + n * 128 ^ i ∧ i < k ∧ k ≤ i + l.length ∧ l.take (k - i) = varK (9 - i) n ∧ (i = 0 ∨ n ≠ 0) ∧ (i = 9 → n < 2)
  | [], i, acc, N, k, _, h, hk => by
    simp [rdK] at h
    omega
  | c :: l, i, acc, N, k, hi, h, hk => by
    unfold rdK at h
    rw [if_neg (by omega)] at h
    have hc := c.toNat_lt
    by_cases h1 : c.toNat < 128
    · rw [if_pos h1] at h
      by_cases h2 : (i = 9 ∧ 1 < c.toNat) ∨ (0 < i ∧ c.toNat = 0)
      · rw [if_pos h2] at h
        injection h with _ h3
        omega
      · rw [if_neg h2] at h
        injection h with h3 h4
        subst h3 h4
        refine ⟨c.toNat, rfl, by omega, by simp, ?_, by omega, by omega⟩
        rw [varK_small h1, show i + 1 - i = 1 by omega]
        simp
    · rw [if_neg h1] at h
      by_cases h9 : i = 9
      · subst h9
        rw [rdK_ten] at h
        injection h with _ h3
        omega
      · obtain ⟨n, hN, h2, h3, h4, h5, h6⟩ := varK_rdK l (i + 1) _ N k (by omega) h hk
        have hn0 : n ≠ 0 := by omega
        refine ⟨c.toNat % 128 + 128 * n, ?_, by omega, by simp only [List.length_cons]; omega, ?_, .inr (by omega), by omega⟩
        · rw [hN, Nat.pow_succ, Nat.add_mul, Nat.mul_comm 128 n, Nat.mul_assoc, Nat.mul_comm 128 (128 ^ i)]
          omega
        · have e : k - i = (k - (i + 1)) + 1 := by omega
          have e2 : 9 - i = (9 - (i + 1)) + 1 := by omega
          rw [e, List.take_succ_cons, h4, e2, varK_big (by omega)]
          have e3 : (c.toNat % 128 + 128 * n) / 128 = n := by omega
          have e4 : (c.toNat % 128 + 128 * n) % 128 + 128 = c.toNat := by omega
          rw [e3, e4]
          congr 1
          simp
theorem varB_rdV {s : ByteArray} {n k : Nat} (h : rdV s = (n, k)) (hk : 0 < k) : s.data.toList.take k = varB n ∧ k ≤ s.size := by
  unfold rdV at h
  obtain ⟨m, h1, h2, h3, h4, _⟩ := varK_rdK _ 0 0 n k (by omega) h hk
  rw [Nat.pow_zero, Nat.mul_one, Nat.zero_add] at h1
  subst h1
  exact ⟨h4, by simpa using h3⟩
theorem unz_zig (n : Int) : unz (zig n) = n := by unfold unz zig; split <;> split <;> omega
theorem zig_unz (n : Nat) : zig (unz n) = n := by unfold unz zig; split <;> split <;> omega

end Go.Proofs.YtfknmblobcjapaaDoor

namespace Go.Proofs.YtfknmblobcjapaaDoor
open Go.RowKit
set_option maxRecDepth 100000

theorem leN_loB (s : ByteArray) (f : Nat) (n : Nat) (h : ∀ i, i < n → s.data.toList.getD i 0 = UInt8.ofNat (f / 256 ^ i)) : ∀ j, j ≤ n → leN s j = f % 256 ^ j
  | 0, _ => by simp [leN, Nat.mod_one]
  | j + 1, hj => by
    rw [leN, leN_loB s f n h j (by omega), h j (by omega), Nat.mod_pow_succ]
    have e : (UInt8.ofNat (f / 256 ^ j)).toNat = f / 256 ^ j % 256 := by simp
    rw [e, Nat.mul_comm]
theorem leN_digit (s : ByteArray) : ∀ (j i : Nat), i < j → leN s j / 256 ^ i % 256 = (s.data.toList.getD i 0).toNat
  | 0, i, h => by omega
  | j + 1, i, h => by
    have hb : (s.data.toList.getD j 0).toNat < 256 := UInt8.toNat_lt _
    have hl := leN_lt s j
    rw [leN]
    by_cases he : i = j
    · subst he
      rw [Nat.add_mul_div_right _ _ (Nat.pow_pos (by decide)), Nat.div_eq_of_lt hl, Nat.zero_add, Nat.mod_eq_of_lt hb]
    · have ih := leN_digit s j i (by omega)
      obtain ⟨d, hd⟩ : ∃ d, j = i + 1 + d := ⟨j - i - 1, by omega⟩
      have e : (s.data.toList.getD j 0).toNat * 256 ^ j = ((s.data.toList.getD j 0).toNat * 256 ^ d * 256) * 256 ^ i := by
        rw [hd, Nat.pow_add, Nat.pow_add, Nat.pow_one]
        ac_rfl
      rw [e, Nat.add_mul_div_right _ _ (Nat.pow_pos (by decide)), Nat.add_mul_mod_self_right]
      exact ih
theorem loB_leN (s : ByteArray) (h : 8 ≤ s.size) : loB (leN s 8) 8 = s.data.toList.take 8 := by
  apply List.ext_getElem
  · rw [loB_len, List.length_take]
    have : s.data.toList.length = s.size := by simp
    omega
  · intro i h1 h2
    have hi : i < 8 := by rwa [loB_len] at h1
    have hs : i < s.data.toList.length := by have : s.data.toList.length = s.size := by simp
                                             omega
    have hd := leN_digit s 8 i hi
    rw [List.getD_eq_getElem?_getD, List.getElem?_eq_getElem hs, Option.getD_some] at hd
    simp only [loB, List.getElem_map, List.getElem_range, List.getElem_take]
    apply UInt8.toNat_inj.1
    rw [← hd]
    simp

theorem or_digit : ∀ (b : Fin 256) (p : Fin 3) (q r : Fin 4), (b.val ||| p.val * 4 ^ q.val) / 4 ^ r.val % 4 = if r = q then (b.val / 4 ^ r.val % 4) ||| p.val else b.val / 4 ^ r.val % 4 := by decide +kernel
/-- a pair of a byte -/
def pr (b : UInt8) (r : Nat) : Nat := b.toNat / 4 ^ r % 4
theorem pr_or (b : UInt8) (p q r : Nat) (hp : p < 3) (hq : q < 4) (hr : r < 4) : pr (b ||| UInt8.ofNat (p * 4 ^ q)) r = if r = q then pr b r ||| p else pr b r := by
  have h4 := pow4 q hq
  have hm : p * 4 ^ q ≤ 2 * 64 := Nat.mul_le_mul (by omega) h4
  have h := or_digit ⟨b.toNat, b.toNat_lt⟩ ⟨p, hp⟩ ⟨q, hq⟩ ⟨r, hr⟩
  unfold pr
  rw [UInt8.toNat_or, u8_of _ (by omega)]
  rw [h]
  simp only [Fin.mk.injEq]
theorem pack_pair (m : Nat) (l : List Vl) (hm : l.length ≤ 4 * m) : ∀ (j : Nat) (hj : j ≤ l.length) (i : Nat) (hi : i / 4 < m), pr ((packK m l j)[i / 4]'(by rw [packK_len]; exact hi)) (i % 4) = if h : i < j then pairN (l[i]'(by omega)) else 0
  | 0, _, i, hi => by
    simp [packK, pr]
  | j + 1, hj, i, hi => by
    have ih := pack_pair m l hm j (by omega) i hi
    have hp := pairN_lt l[j]
    have e := packK_succ (n := m) (l := l) (j := j) (by omega) (by omega)
    simp only [e, List.getElem_set]
    by_cases hq : j / 4 = i / 4
    · rw [if_pos hq]
      have e2 : (packK m l j)[j / 4]'(by rw [packK_len]; omega) = (packK m l j)[i / 4]'(by rw [packK_len]; exact hi) := by congr 1
      rw [e2, pr_or _ _ _ _ hp (Nat.mod_lt _ (by decide)) (Nat.mod_lt _ (by decide)), ih]
      by_cases hr : i % 4 = j % 4
      · have hij : i = j := by omega
        subst hij
        simp
      · rw [if_neg hr]
        by_cases h1 : i < j
        · rw [dif_pos h1, dif_pos (by omega)]
        · rw [dif_neg h1, dif_neg (by omega)]
    · rw [if_neg hq, ih]
      by_cases h1 : i < j
      · rw [dif_pos h1, dif_pos (by omega)]
      · rw [dif_neg h1, dif_neg (by omega)]
theorem byte_pairs : ∀ (a b : Fin 256), (∀ r : Fin 4, a.val / 4 ^ r.val % 4 = b.val / 4 ^ r.val % 4) → a = b := by
  intro a b h
  have h0 : a.val / 1 % 4 = b.val / 1 % 4 := h 0
  have h1 : a.val / 4 % 4 = b.val / 4 % 4 := h 1
  have h2 : a.val / 16 % 4 = b.val / 16 % 4 := h 2
  have h3 : a.val / 64 % 4 = b.val / 64 % 4 := h 3
  apply Fin.ext
  have ha := a.isLt
  have hb := b.isLt
  omega

end Go.Proofs.YtfknmblobcjapaaDoor

namespace Go.Proofs.YtfknmblobcjapaaDoor
open Go.RowKit
set_option maxRecDepth 100000

theorem bytes_eqI {a b : ByteArray} (h : a.data.toList = b.data.toList) : a = b := by
  obtain ⟨a⟩ := a
  obtain ⟨b⟩ := b
  congr 1
  exact Array.toList_inj.1 h
theorem empty_ofI {s : ByteArray} (h : s.toList.isEmpty = true) : s = ⟨#[]⟩ := by
  rw [ByteArray.toList_eq] at h
  apply bytes_eqI
  simpa using h
theorem ext_takeI (s : ByteArray) (a k : Nat) : (s.extract a (a + k)).data.toList = (s.data.toList.drop a).take k := by
  simp [ByteArray.data_extract]
theorem chk_parts {v : Vl} (h : v.chk = 0) : kindB v.k = true ∧ numB v.k v.n = true ∧ floB v.k v.f = true ∧ strB v.k v.s = true ∧ v.s.size ≤ 65536 := by
  unfold Vl.chk chkV at h
  by_cases h1 : (kindB v.k && numB v.k v.n && floB v.k v.f && strB v.k v.s) = true
  · rw [if_pos h1] at h
    simp only [Bool.and_eq_true] at h1
    by_cases h2 : (65536 : Int) < (v.s.size : Int)
    · rw [if_pos h2] at h
      omega
    · exact ⟨h1.1.1.1, h1.1.1.2, h1.1.2, h1.2, by omega⟩
  · rw [if_neg h1] at h
    omega
/-- the value of a kind that is read is the value -/
theorem decV_told (v : Vl) (kd : Int) (rest : List UInt8) (hc : v.chk = 0) (ho : v.ok) (hk : v.k = 0 ∨ v.k = kd) (hk1 : 1 ≤ kd) (hk5 : kd ≤ 5) : decV kd (pairN v) ⟨(toldB v ++ rest).toArray⟩ = some (v, (toldB v).length) := by
  obtain ⟨_, h2, h3, h4, h5⟩ := chk_parts hc
  obtain ⟨_, ⟨n1, n2⟩, hf, _⟩ := ho
  obtain ⟨k, n, f, s⟩ := v
  dsimp only at *
  have hfl : k ≠ 3 → f = 0 := by
    intro h
    simp [floB, h] at h3
    omega
  have hst : k ≠ 4 → k ≠ 5 → s = ⟨#[]⟩ := by
    intro h h'
    simp only [strB, beq_iff_eq, h, h', if_false] at h4
    exact empty_ofI h4
  have hnu : k ≠ 1 → k ≠ 2 → n = 0 := by
    intro h h'
    simp [numB, h, h'] at h2
    exact h2
  by_cases k0 : k = 0
  · subst k0
    have e1 := hfl (by decide)
    have e2 := hst (by decide) (by decide)
    have e3 := hnu (by decide) (by decide)
    subst e1 e2 e3
    simp [pairN, decV, toldB, vNull]
  have kk : k = kd := by omega
  subst kk
  by_cases k1 : k = 1
  · subst k1
    have e1 := hfl (by decide)
    have e2 := hst (by decide) (by decide)
    subst e1 e2
    have hn : n = 0 ∨ n = 1 := by simpa [numB] using h2
    rcases hn with rfl | rfl <;> simp [pairN, decV, toldB]
  have hp : pairN ⟨k, n, f, s⟩ = 1 := by
    unfold pairN
    dsimp only
    rw [if_neg k0, if_neg (fun h => k1 h.1)]
  rw [hp]
  unfold decV
  rw [if_neg (by decide), if_neg (fun h => k1 h.1), if_neg (by decide)]
  by_cases k3 : k = 3
  · subst k3
    have e2 := hst (by decide) (by decide)
    have e3 := hnu (by decide) (by decide)
    subst e2 e3
    have ht : toldB ⟨3, 0, f, ⟨#[]⟩⟩ = loB f 8 := by simp [toldB]
    rw [ht, loB_len, if_pos rfl]
    have hsz : ByteArray.size ⟨(loB f 8 ++ rest).toArray⟩ = 8 + rest.length := by
      show (loB f 8 ++ rest).toArray.size = _
      simp [loB_len]
    rw [if_neg (by rw [hsz]; omega)]
    have hl : leN ⟨(loB f 8 ++ rest).toArray⟩ 8 = f := by
      rw [leN_loB _ f 8 (fun i hi => ?_) 8 (Nat.le_refl _)]
      · exact Nat.mod_eq_of_lt (by simpa using hf)
      · simp only [List.getD_eq_getElem?_getD]
        rw [List.getElem?_append_left (by rw [loB_len]; exact hi)]
        simp [loB, hi]
    rw [hl]
    rfl
  rw [if_neg k3]
  have e1 := hfl k3
  subst e1
  by_cases k2 : k = 2
  · subst k2
    have e2 := hst (by decide) (by decide)
    subst e2
    have ht : toldB ⟨2, n, 0, ⟨#[]⟩⟩ = varB (zig n) := by simp [toldB]
    have hz := zig_lt n1 n2
    rw [ht, rdV_varB _ _ hz]
    have hpos : (varB (zig n)).length ≠ 0 := by
      unfold varB
      rw [varK]
      split <;> simp
    rw [if_neg hpos, if_pos rfl]
    dsimp only
    rw [unz_zig]
    rfl
  have k45 : k = 4 ∨ k = 5 := by omega
  have e3 := hnu k1 k2
  subst e3
  have ht : toldB ⟨k, 0, 0, s⟩ = varB s.size ++ s.data.toList := by
    unfold toldB
    dsimp only
    rw [if_neg k2, if_neg k3, if_pos k45]
  rw [ht, List.append_assoc, rdV_varB _ _ (by omega)]
  have hpos : (varB s.size).length ≠ 0 := by
    unfold varB
    rw [varK]
    split <;> simp
  have hsz : ByteArray.size ⟨(varB s.size ++ (s.data.toList ++ rest)).toArray⟩ = (varB s.size).length + (s.size + rest.length) := by
    show (varB s.size ++ (s.data.toList ++ rest)).toArray.size = _
    have : s.data.toList.length = s.size := by simp
    simp
  dsimp only
  rw [if_neg hpos, if_neg k2, if_neg (by rw [hsz]; omega)]
  have hx : ByteArray.extract ⟨(varB s.size ++ (s.data.toList ++ rest)).toArray⟩ (varB s.size).length ((varB s.size).length + s.size) = s := by
    apply bytes_eqI
    rw [ext_takeI]
    have : s.data.toList.length = s.size := by simp
    simp
  rw [hx, List.length_append]
  have : s.data.toList.length = s.size := by simp
  rw [this]

end Go.Proofs.YtfknmblobcjapaaDoor
