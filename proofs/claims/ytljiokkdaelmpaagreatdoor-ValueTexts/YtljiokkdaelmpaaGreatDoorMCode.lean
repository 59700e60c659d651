/- Plain mathematics: the bytes of a list of values, and their order. -/
import Derived.Lib.Bytealg
import Derived.Lib.ItoaNum
import Derived.Test.YtljiokkdaelmpaaGreatDoorMVal
import Derived.Test.YtljiokkdaelmpaaGreatDoorMPlain
namespace Go.Proofs.YtljiokkdaelmpaaGreatDoor
open Ieee
set_option maxRecDepth 100000

/-! strictly below, whatever stands behind -/
def SLt : List UInt8 → List UInt8 → Prop
  | a :: x, b :: y => a.toNat < b.toNat ∨ (a = b ∧ SLt x y)
  | [], _ => False
  | _ :: _, [] => False

theorem slt_append : ∀ {u v : List UInt8}, SLt u v → ∀ a b, SLt (u ++ a) (v ++ b)
  | [], _, h, _, _ => by simp [SLt] at h
  | _ :: _, [], h, _, _ => by simp [SLt] at h
  | x :: u, y :: v, h, a, b => by
    simp only [List.cons_append, SLt] at h ⊢
    rcases h with h | ⟨e, h⟩
    · exact .inl h
    · exact .inr ⟨e, slt_append h a b⟩
theorem slt_pre (p : List UInt8) {u v : List UInt8} (h : SLt u v) : SLt (p ++ u) (p ++ v) := by
  induction p with
  | nil => exact h
  | cons a p ih => exact .inr ⟨rfl, ih⟩
theorem cb_slt : ∀ {u v : List UInt8}, SLt u v → Lib.compareBytes u v = -1
  | [], _, h => by simp [SLt] at h
  | _ :: _, [], h => by simp [SLt] at h
  | x :: u, y :: v, h => by
    simp only [SLt] at h
    simp only [Lib.compareBytes, UInt8.lt_iff_toNat_lt]
    rcases h with h | ⟨e, h⟩
    · simp [h]
    · subst e; simp [cb_slt h]
theorem cb_pre (p u v : List UInt8) : Lib.compareBytes (p ++ u) (p ++ v) = Lib.compareBytes u v := by
  induction p with
  | nil => rfl
  | cons a p ih => simp [Lib.compareBytes, ih]

def Lt2 (u v : List UInt8) : Prop := SLt u v ∨ ∃ r, r ≠ [] ∧ v = u ++ 255 :: r
theorem lt2_pre (p : List UInt8) {u v : List UInt8} (h : Lt2 u v) : Lt2 (p ++ u) (p ++ v) := by
  rcases h with h | ⟨r, hr, rfl⟩
  · exact .inl (slt_pre p h)
  · exact .inr ⟨r, hr, by simp⟩
/-- what may stand behind a code -/
def okT (a : List UInt8) : Prop := ∀ x r, a = x :: r → x.toNat < 255
theorem lt2_cb {u v : List UInt8} (h : Lt2 u v) {a : List UInt8} (ha : okT a) (b : List UInt8) : Lib.compareBytes (u ++ a) (v ++ b) = -1 := by
  rcases h with h | ⟨r, hr, rfl⟩
  · exact cb_slt (slt_append h a b)
  · rw [List.append_assoc, cb_pre]
    cases a with
    | nil => simp [Lib.compareBytes]
    | cons x a =>
      have hx := ha x a rfl
      have h255 : (255 : UInt8).toNat = 255 := rfl
      simp only [List.cons_append, Lib.compareBytes, UInt8.lt_iff_toNat_lt, h255]
      simp [hx]
theorem lt2_cb255 {u v : List UInt8} (h : Lt2 u v) {a : List UInt8} (ha : okT a) (b : List UInt8) : Lib.compareBytes (u ++ (a ++ [255])) (v ++ b) = -1 := by
  rcases h with h | ⟨r, hr, rfl⟩
  · exact cb_slt (slt_append h _ b)
  · rw [List.append_assoc, cb_pre]
    cases a with
    | nil =>
      cases r with
      | nil => exact absurd rfl hr
      | cons y r => simp [Lib.compareBytes]
    | cons x a =>
      have hx := ha x a rfl
      have h255 : (255 : UInt8).toNat = 255 := rfl
      simp only [List.cons_append, Lib.compareBytes, UInt8.lt_iff_toNat_lt, h255]
      simp [hx]

/-! numbers in k bytes -/
def hiB (n : Nat) : Nat → List UInt8
  | 0 => []
  | k + 1 => UInt8.ofNat (n / 256 ^ k) :: hiB n k
theorem hiB_len (n : Nat) : ∀ k, (hiB n k).length = k
  | 0 => rfl
  | k + 1 => by simp [hiB, hiB_len n k]
theorem ofNat_toNat8 (n : Nat) : (UInt8.ofNat n).toNat = n % 256 := by simp
theorem hiB_lt : ∀ (k a b : Nat), a % 256 ^ k < b % 256 ^ k → SLt (hiB a k) (hiB b k)
  | 0, a, b, h => by simp [Nat.mod_one] at h
  | k + 1, a, b, h => by
    simp only [hiB, SLt]
    have key : ∀ x : Nat, x % 256 ^ (k + 1) = (x / 256 ^ k % 256) * 256 ^ k + x % 256 ^ k := by
      intro x
      rw [Nat.pow_succ, Nat.mod_mul, Nat.mul_comm, Nat.add_comm]
    rw [key a, key b] at h
    rw [ofNat_toNat8, ofNat_toNat8]
    have hp : 0 < 256 ^ k := Nat.pow_pos (by decide)
    have ha := Nat.mod_lt a hp
    have hb := Nat.mod_lt b hp
    rcases Nat.lt_trichotomy (a / 256 ^ k % 256) (b / 256 ^ k % 256) with h1 | h1 | h1
    · exact .inl h1
    · refine .inr ⟨?_, ?_⟩
      · apply UInt8.toNat_inj.1; rw [ofNat_toNat8, ofNat_toNat8]; exact h1
      · rw [h1] at h
        exact hiB_lt k a b (by omega)
    · exfalso
      have h2 : (b / 256 ^ k % 256 + 1) * 256 ^ k ≤ (a / 256 ^ k % 256) * 256 ^ k := Nat.mul_le_mul_right _ h1
      rw [Nat.add_mul] at h2
      generalize 256 ^ k = P at *
      generalize b / P % 256 * P = x at *
      generalize a / P % 256 * P = y at *
      omega
theorem hiB_mod : ∀ (k a b : Nat), a % 256 ^ k = b % 256 ^ k → hiB a k = hiB b k
  | 0, _, _, _ => rfl
  | k + 1, a, b, h => by
    have key : ∀ x : Nat, x % 256 ^ (k + 1) = x % 256 ^ k + 256 ^ k * (x / 256 ^ k % 256) := by
      intro x
      rw [Nat.pow_succ, Nat.mod_mul]
    have h1 : a % 256 ^ k = b % 256 ^ k := by
      have := congrArg (· % 256 ^ k) h
      simpa [Nat.pow_succ, Nat.mod_mul_right_mod] using this
    have h2 : a / 256 ^ k % 256 = b / 256 ^ k % 256 := by
      rw [key a, key b, h1] at h
      have hp : 0 < 256 ^ k := Nat.pow_pos (by decide)
      exact Nat.eq_of_mul_eq_mul_left hp (by omega)
    simp only [hiB]
    rw [hiB_mod k a b h1]
    congr 1
    apply UInt8.toNat_inj.1; rw [ofNat_toNat8, ofNat_toNat8]; exact h2

/-- in how few bytes a number is held -/
def sz (m : Nat) : Nat :=
  if m = 0 then 0 else if m < 256 then 1 else if m < 65536 then 2 else if m < 16777216 then 3 else if m < 4294967296 then 4 else if m < 1099511627776 then 5
  else if m < 281474976710656 then 6 else if m < 72057594037927936 then 7 else 8
theorem sz_le (m : Nat) : sz m ≤ 8 := by unfold sz; (repeat' split) <;> omega
theorem sz_lt {m : Nat} (h : m < 18446744073709551616) : m < 256 ^ sz m := by
  unfold sz
  repeat' split
  all_goals (simp; try omega)
theorem sz_least {m k : Nat} (h : m < 256 ^ k) : sz m ≤ k := by
  have h2 : 8 ≤ k ∨ k = 0 ∨ k = 1 ∨ k = 2 ∨ k = 3 ∨ k = 4 ∨ k = 5 ∨ k = 6 ∨ k = 7 := by omega
  rcases h2 with h2 | rfl | rfl | rfl | rfl | rfl | rfl | rfl | rfl
  · exact Nat.le_trans (sz_le m) h2
  all_goals (unfold sz; simp at h; (repeat' split) <;> omega)
theorem sz_mono {a b : Nat} (h : a ≤ b) (hb : b < 18446744073709551616) : sz a ≤ sz b := sz_least (Nat.lt_of_le_of_lt h (sz_lt hb))
theorem sz_bitLen {m : Nat} (h : m < 18446744073709551616) : (Lib.bitLen m + 7) / 8 = sz m := by
  by_cases h0 : m = 0
  · subst h0; decide
  · obtain ⟨h1, h2, h3⟩ := Lib.bitLenAux_bounds 64 m h h0
    change 1 ≤ Lib.bitLen m at h1
    change 2 ^ (Lib.bitLen m - 1) ≤ m at h2
    change m < 2 ^ Lib.bitLen m at h3
    have hb : Lib.bitLen m ≤ 64 := Lib.bitLen_le m 64 (by decide) h
    generalize Lib.bitLen m = b at *
    apply Nat.le_antisymm
    · have hs := sz_lt h
      rw [show (256 : Nat) = 2 ^ 8 from rfl, ← Nat.pow_mul] at hs
      have : 2 ^ (b - 1) < 2 ^ (8 * sz m) := Nat.lt_of_le_of_lt h2 hs
      have := (Nat.pow_lt_pow_iff_right (by decide : 1 < 2)).1 this
      omega
    · apply sz_least
      rw [show (256 : Nat) = 2 ^ 8 from rfl, ← Nat.pow_mul]
      exact Nat.lt_of_lt_of_le h3 (Nat.pow_le_pow_right (by decide) (by omega))

/-- what stands behind the tag of an int -/
def wholeC (n : Int) : List UInt8 :=
  if 0 ≤ n then UInt8.ofNat (128 + sz n.toNat) :: hiB n.toNat (sz n.toNat)
  else UInt8.ofNat (128 - max (sz (-(n + 1)).toNat) 1) :: hiB (18446744073709551615 - (-(n + 1)).toNat) (max (sz (-(n + 1)).toNat) 1)

theorem low_turned {k m : Nat} (hk : k ≤ 8) (hm : m < 256 ^ k) : (18446744073709551615 - m) % 256 ^ k = 256 ^ k - 1 - m := by
  have h2 : k = 0 ∨ k = 1 ∨ k = 2 ∨ k = 3 ∨ k = 4 ∨ k = 5 ∨ k = 6 ∨ k = 7 ∨ k = 8 := by omega
  rcases h2 with rfl | rfl | rfl | rfl | rfl | rfl | rfl | rfl | rfl
  all_goals (simp at hm ⊢; try omega)

theorem wholeC_lt {a b : Int} (ha : -9223372036854775808 ≤ a) (_ha' : a ≤ 9223372036854775807) (_hb : -9223372036854775808 ≤ b) (hb' : b ≤ 9223372036854775807) (h : a < b) : SLt (wholeC a) (wholeC b) := by
  unfold wholeC
  by_cases h1 : 0 ≤ a
  · have h2 : 0 ≤ b := by omega
    rw [if_pos h1, if_pos h2]
    have hs := sz_mono (a := a.toNat) (b := b.toNat) (by omega) (by omega)
    have h8 := sz_le b.toNat
    have l1 := sz_lt (m := a.toNat) (by omega)
    have l2 := sz_lt (m := b.toNat) (by omega)
    simp only [SLt, ofNat_toNat8]
    by_cases e : sz a.toNat = sz b.toNat
    · right
      rw [e]
      rw [e] at l1
      refine ⟨rfl, hiB_lt _ _ _ ?_⟩
      rw [Nat.mod_eq_of_lt l1, Nat.mod_eq_of_lt l2]; omega
    · left; omega
  · by_cases h2 : 0 ≤ b
    · rw [if_neg h1, if_pos h2]
      have h8 := sz_le b.toNat
      have h9 := sz_le (-(a + 1)).toNat
      simp only [SLt, ofNat_toNat8]
      left; omega
    · rw [if_neg h1, if_neg h2]
      have hs := sz_mono (a := (-(b + 1)).toNat) (b := (-(a + 1)).toNat) (by omega) (by omega)
      have h8 := sz_le (-(b + 1)).toNat
      have h9 := sz_le (-(a + 1)).toNat
      have l1 := sz_lt (m := (-(a + 1)).toNat) (by omega)
      have l2 := sz_lt (m := (-(b + 1)).toNat) (by omega)
      simp only [SLt, ofNat_toNat8]
      by_cases e : max (sz (-(a + 1)).toNat) 1 = max (sz (-(b + 1)).toNat) 1
      · right
        have m1 : (-(a + 1)).toNat < 256 ^ max (sz (-(b + 1)).toNat) 1 := Nat.lt_of_lt_of_le l1 (Nat.pow_le_pow_right (by decide) (by omega))
        have m2 : (-(b + 1)).toNat < 256 ^ max (sz (-(b + 1)).toNat) 1 := Nat.lt_of_lt_of_le l2 (Nat.pow_le_pow_right (by decide) (by omega))
        rw [e]
        refine ⟨rfl, hiB_lt _ _ _ ?_⟩
        rw [low_turned (by omega) m1, low_turned (by omega) m2]
        omega
      · left; omega

/-- the bytes of a text: each nought with 255 behind it -/
def esc : List UInt8 → List UInt8
  | [] => []
  | c :: s => if c = 0 then 0 :: 255 :: esc s else c :: esc s
def ended (s : List UInt8) : List UInt8 := esc s ++ [0]
theorem ended_ne (s : List UInt8) : ended s ≠ [] := by simp [ended]
theorem ended_lt : ∀ (s t : List UInt8), Lib.compareBytes s t = -1 → Lt2 (ended s) (ended t)
  | [], [], h => by simp [Lib.compareBytes] at h
  | [], c :: t, _ => by
    by_cases hc : c = 0
    · subst hc
      exact .inr ⟨ended t, ended_ne t, by simp [ended, esc]⟩
    · left
      have : 0 < c.toNat := by
        rcases Nat.eq_zero_or_pos c.toNat with h | h
        · exact absurd (UInt8.toNat_inj.1 (h.trans rfl)) hc
        · exact h
      simp [ended, esc, hc, SLt, this]
  | _ :: _, [], h => by simp [Lib.compareBytes] at h
  | a :: s, b :: t, h => by
    simp only [Lib.compareBytes, UInt8.lt_iff_toNat_lt] at h
    by_cases h1 : a.toNat < b.toNat
    · left
      have hb : b ≠ 0 := fun e => by subst e; simp at h1
      by_cases ha : a = 0
      · subst ha
        have h1' : 0 < b.toNat := h1
        simp [ended, esc, hb, SLt, h1']
      · simp [ended, esc, ha, hb, SLt, h1]
    · rw [if_neg h1] at h
      by_cases h2 : b.toNat < a.toNat
      · rw [if_pos h2] at h; simp at h
      · rw [if_neg h2] at h
        have e : a = b := UInt8.toNat_inj.1 (by omega)
        subst e
        have ih := ended_lt s t h
        by_cases ha : a = 0
        · have h3 := lt2_pre [0, 255] ih
          simpa [ended, esc, ha] using h3
        · have h3 := lt2_pre [a] ih
          simpa [ended, esc, ha] using h3
end Go.Proofs.YtljiokkdaelmpaaGreatDoor
