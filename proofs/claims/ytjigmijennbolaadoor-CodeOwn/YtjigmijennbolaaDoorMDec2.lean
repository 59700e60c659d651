/- Plain mathematics: reading a code and writing it lead back to one another. -/
import Derived.Test.YtjigmijennbolaaDoorMDec
namespace Go.Proofs.YtjigmijennbolaaDoor
open Ieee
set_option maxRecDepth 100000

/-- a value as its key tells it -/
def Vl.plain (v : Vl) : Vl := { v with f := pf v.k v.f }
theorem chk_parts {v : Vl} (h : v.chk = 0) : kindB v.k = true ∧ numB v.k v.n = true ∧ floB v.k v.f = true ∧ strB v.k v.s = true ∧ v.s.size ≤ 65536 := by
  unfold Vl.chk chkV at h
  split at h
  · rename_i c
    simp only [Bool.and_eq_true] at c
    obtain ⟨⟨⟨c1, c2⟩, c3⟩, c4⟩ := c
    split at h
    · simp at h
    · exact ⟨c1, c2, c3, c4, by omega⟩
  · simp at h
theorem empty_of {s : ByteArray} (h : s.toList.isEmpty = true) : s = ⟨#[]⟩ := by
  rw [ByteArray.toList_eq] at h
  obtain ⟨⟨l⟩⟩ := s
  simp at h
  rw [h]

theorem gK_unG {b : Nat} (hb : b < 18446744073709551616) : gK (unG b) = b := by
  unfold gK unG; split <;> split <;> omega
theorem unG_gK {b : Nat} (hb : b < 18446744073709551616) : unG (gK b) = b := by
  unfold gK unG; split <;> split <;> omega
theorem unG_lt (b : Nat) (hb : b < 18446744073709551616) : unG b < 18446744073709551616 := by unfold unG; split <;> omega
theorem pow256_8 : (256 : Nat) ^ 8 = 18446744073709551616 := by decide

/-- D1: the code of a value is read as the value, floats as the key tells them -/
theorem rd_code {v : Vl} (ov : v.ok) (hc : v.chk = 0) {rest : List UInt8} (hr : okT rest) : rdV (UInt8.ofNat (v.k + 1).toNat) (v.body ++ rest) = some (v.plain, v.body.length) := by
  obtain ⟨h0, h5, h1⟩ := chk_kind hc
  obtain ⟨_, p2, p3, p4, p5⟩ := chk_parts hc
  obtain ⟨k, n, f, s⟩ := v
  obtain ⟨_, ⟨n1, n2⟩, hf, _⟩ := ov
  dsimp only at *
  have h6 : k = 0 ∨ k = 1 ∨ k = 2 ∨ k = 3 ∨ k = 4 ∨ k = 5 := by omega
  rcases h6 with rfl | rfl | rfl | rfl | rfl | rfl
  · have e1 : n = 0 := by simpa [numB] using p2
    have e2 : f = 0 := by have : (f : Int) = 0 := by simpa [floB] using p3
                          omega
    have e3 := empty_of (by simpa [strB] using p4)
    subst e1 e2 e3
    rfl
  · have e2 : f = 0 := by have : (f : Int) = 0 := by simpa [floB] using p3
                          omega
    have e3 := empty_of (by simpa [strB] using p4)
    subst e2 e3
    rcases h1 rfl with rfl | rfl <;> rfl
  · have e2 : f = 0 := by have : (f : Int) = 0 := by simpa [floB] using p3
                          omega
    have e3 := empty_of (by simpa [strB] using p4)
    subst e2 e3
    have hb : (Vl.body ⟨2, n, 0, ⟨#[]⟩⟩) = wholeC n := rfl
    rw [hb]
    have ht : rdV (UInt8.ofNat ((2 : Int) + 1).toNat) (wholeC n ++ rest) = rdInt (wholeC n ++ rest) := rfl
    rw [ht]
    by_cases hn : 0 ≤ n
    · obtain ⟨m, rfl⟩ : ∃ m : Nat, n = (m : Int) := ⟨n.toNat, by omega⟩
      have h8 := sz_le m
      have hlt := sz_lt (m := m) (by omega)
      have ew : wholeC (m : Int) = UInt8.ofNat (128 + sz m) :: hiB m (sz m) := by unfold wholeC; rw [if_pos hn]; simp
      rw [ew]
      have eh : (UInt8.ofNat (128 + sz m)).toNat = 128 + sz m := by rw [ofNat_toNat8]; omega
      have et : ((hiB m (sz m)) ++ rest).take (sz m) = hiB m (sz m) := by rw [List.take_left' (hiB_len m (sz m))]
      have en : num (hiB m (sz m)) = m := by rw [num_hiB, Nat.mod_eq_of_lt hlt]
      simp only [List.cons_append, rdInt, eh]
      rw [if_pos (by omega), if_neg (by rw [List.length_append, hiB_len]; omega)]
      have e128 : 128 + sz m - 128 = sz m := by omega
      rw [e128, et, en, if_neg (by omega)]
      simp only [vInt, Vl.plain, List.length_cons, hiB_len]
      rw [Nat.add_comm]; rfl
    · obtain ⟨m, rfl⟩ : ∃ m : Nat, n = -(m : Int) - 1 := ⟨(-n - 1).toNat, by omega⟩
      have h8 := sz_le m
      obtain ⟨t, ht⟩ : ∃ t, t = max (sz m) 1 := ⟨_, rfl⟩
      have hlt : m < 256 ^ t := Nat.lt_of_lt_of_le (sz_lt (m := m) (by omega)) (Nat.pow_le_pow_right (by decide) (by omega))
      have ew : wholeC (-(m : Int) - 1) = UInt8.ofNat (128 - t) :: hiB (18446744073709551615 - m) t := by
        unfold wholeC
        rw [if_neg hn]
        have e : (-(-(m : Int) - 1 + 1)).toNat = m := by omega
        rw [e, ← ht]
      rw [ew]
      have eh : (UInt8.ofNat (128 - t)).toNat = 128 - t := by rw [ofNat_toNat8]; omega
      have et : ((hiB (18446744073709551615 - m) t) ++ rest).take t = hiB (18446744073709551615 - m) t := by rw [List.take_left' (hiB_len _ t)]
      have en : num (hiB (18446744073709551615 - m) t) = 256 ^ t - 1 - m := by rw [num_hiB, low_turned (by omega) hlt]
      have e128 : 128 - (128 - t) = t := by omega
      have em : 256 ^ t - 1 - (256 ^ t - 1 - m) = m := by generalize 256 ^ t = q at *; omega
      simp only [List.cons_append, rdInt, eh]
      rw [if_neg (by omega), e128, if_neg (by rw [List.length_append, hiB_len]; omega), et, en, em, if_neg (by omega)]
      simp only [vInt, Vl.plain, List.length_cons, hiB_len]
      rw [Nat.add_comm]; rfl
  · have e1 : n = 0 := by simpa [numB] using p2
    have e3 := empty_of (by simpa [strB] using p4)
    subst e1 e3
    have hb : (Vl.body ⟨3, 0, f, ⟨#[]⟩⟩) = hiB (gK (plainF f)) 8 := rfl
    rw [hb]
    have ht : rdV (UInt8.ofNat ((3 : Int) + 1).toNat) (hiB (gK (plainF f)) 8 ++ rest) = rdFlo (hiB (gK (plainF f)) 8 ++ rest) := rfl
    rw [ht]
    have et : (hiB (gK (plainF f)) 8 ++ rest).take 8 = hiB (gK (plainF f)) 8 := by rw [List.take_left' (hiB_len _ 8)]
    have en : num (hiB (gK (plainF f)) 8) = gK (plainF f) := by rw [num_hiB, pow256_8, Nat.mod_eq_of_lt (gK_lt _)]
    unfold rdFlo
    rw [if_neg (by rw [List.length_append, hiB_len]; omega), et, en, unG_gK (plainF_lt hf), if_pos (plainF_idem f), hiB_len]
    rfl
  · have e1 : n = 0 := by simpa [numB] using p2
    have e2 : f = 0 := by have : (f : Int) = 0 := by simpa [floB] using p3
                          omega
    subst e1 e2
    have hb : (Vl.body ⟨4, 0, 0, s⟩) = esc s.data.toList ++ [0] := rfl
    rw [hb]
    have ht : rdV (UInt8.ofNat ((4 : Int) + 1).toNat) ((esc s.data.toList ++ [0]) ++ rest) = rdTxt 4 ((esc s.data.toList ++ [0]) ++ rest) := rfl
    rw [ht, List.append_assoc, List.singleton_append]
    unfold rdTxt
    rw [rdStr_ended _ _ hr]
    have ev : vStr 4 s.data.toList = ⟨4, 0, 0, s⟩ := by unfold vStr; simp
    dsimp only
    rw [ev, if_pos hc]
    simp [Vl.plain, pf]
  · have e1 : n = 0 := by simpa [numB] using p2
    have e2 : f = 0 := by have : (f : Int) = 0 := by simpa [floB] using p3
                          omega
    subst e1 e2
    have hb : (Vl.body ⟨5, 0, 0, s⟩) = esc s.data.toList ++ [0] := rfl
    rw [hb]
    have ht : rdV (UInt8.ofNat ((5 : Int) + 1).toNat) ((esc s.data.toList ++ [0]) ++ rest) = rdTxt 5 ((esc s.data.toList ++ [0]) ++ rest) := rfl
    rw [ht, List.append_assoc, List.singleton_append]
    unfold rdTxt
    rw [rdStr_ended _ _ hr]
    have ev : vStr 5 s.data.toList = ⟨5, 0, 0, s⟩ := by unfold vStr; simp
    dsimp only
    rw [ev, if_pos hc]
    simp [Vl.plain, pf]
end Go.Proofs.YtjigmijennbolaaDoor
