/- Plain mathematics: the bytes of a list of values, and their order. Plain mathematics: keys stand as their lists of values do; what begins with a list. -/
import Derived.Lib.Bytealg
import Derived.Lib.ItoaNum
import Derived.Test.YthbjheiogghjnaaGreatDoorGMVal
namespace Go.Proofs.YthbjheiogghjnaaGreatDoor
open Ieee
set_option maxRecDepth 100000

/-! strictly below, whatever stands behind -/
def SLt : List UInt8 → List UInt8 → Prop
  | a :: x, b :: y => a.toNat < b.toNat ∨ (a = b ∧ SLt x y)
  | [], _ => False
  | _ :: _, [] => False

theorem slt_append : ∀ {u v : List UInt8}, SLt u v → ∀ a b, SLt (u ++ a) (v ++ b)
  | [], _, h, _, _ => by simp [SLt] at h
  | _ :: _, [], h, _, _ => by simp [SLt] at h
  | x :: u, y :: v, h, a, b => by
    simp only [List.cons_append, SLt] at h ⊢
    rcases h with h | ⟨e, h⟩
    · exact .inl h
    · exact .inr ⟨e, slt_append h a b⟩
theorem slt_pre (p : List UInt8) {u v : List UInt8} (h : SLt u v) : SLt (p ++ u) (p ++ v) := by
  induction p with
  | nil => exact h
  | cons a p ih => exact .inr ⟨rfl, ih⟩
theorem cb_slt : ∀ {u v : List UInt8}, SLt u v → Lib.compareBytes u v = -1
  | [], _, h => by simp [SLt] at h
  | _ :: _, [], h => by simp [SLt] at h
  | x :: u, y :: v, h => by
    simp only [SLt] at h
    simp only [Lib.compareBytes, UInt8.lt_iff_toNat_lt]
    rcases h with h | ⟨e, h⟩
    · simp [h]
    · subst e; simp [cb_slt h]
theorem cb_pre (p u v : List UInt8) : Lib.compareBytes (p ++ u) (p ++ v) = Lib.compareBytes u v := by
  induction p with
  | nil => rfl
  | cons a p ih => simp [Lib.compareBytes, ih]

def Lt2 (u v : List UInt8) : Prop := SLt u v ∨ ∃ r, r ≠ [] ∧ v = u ++ 255 :: r
theorem lt2_pre (p : List UInt8) {u v : List UInt8} (h : Lt2 u v) : Lt2 (p ++ u) (p ++ v) := by
  rcases h with h | ⟨r, hr, rfl⟩
  · exact .inl (slt_pre p h)
  · exact .inr ⟨r, hr, by simp⟩
/-- what may stand behind a code -/
def okT (a : List UInt8) : Prop := ∀ x r, a = x :: r → x.toNat < 255
theorem lt2_cb {u v : List UInt8} (h : Lt2 u v) {a : List UInt8} (ha : okT a) (b : List UInt8) : Lib.compareBytes (u ++ a) (v ++ b) = -1 := by
  rcases h with h | ⟨r, hr, rfl⟩
  · exact cb_slt (slt_append h a b)
  · rw [List.append_assoc, cb_pre]
    cases a with
    | nil => simp [Lib.compareBytes]
    | cons x a =>
      have hx := ha x a rfl
      have h255 : (255 : UInt8).toNat = 255 := rfl
      simp only [List.cons_append, Lib.compareBytes, UInt8.lt_iff_toNat_lt, h255]
      simp [hx]
theorem lt2_cb255 {u v : List UInt8} (h : Lt2 u v) {a : List UInt8} (ha : okT a) (b : List UInt8) : Lib.compareBytes (u ++ (a ++ [255])) (v ++ b) = -1 := by
  rcases h with h | ⟨r, hr, rfl⟩
  · exact cb_slt (slt_append h _ b)
  · rw [List.append_assoc, cb_pre]
    cases a with
    | nil =>
      cases r with
      | nil => exact absurd rfl hr
      | cons y r => simp [Lib.compareBytes]
    | cons x a =>
      have hx := ha x a rfl
      have h255 : (255 : UInt8).toNat = 255 := rfl
      simp only [List.cons_append, Lib.compareBytes, UInt8.lt_iff_toNat_lt, h255]
      simp [hx]

/-! numbers in k bytes -/
def hiB (n : Nat) : Nat → List UInt8
  | 0 => []
  | k + 1 => UInt8.ofNat (n / 256 ^ k) :: hiB n k
theorem hiB_len (n : Nat) : ∀ k, (hiB n k).length = k
  | 0 => rfl
  | k + 1 => by simp [hiB, hiB_len n k]
theorem ofNat_toNat8 (n : Nat) : (UInt8.ofNat n).toNat = n % 256 := by simp
theorem hiB_lt : ∀ (k a b : Nat), a % 256 ^ k < b % 256 ^ k → SLt (hiB a k) (hiB b k)
  | 0, a, b, h => by simp [Nat.mod_one] at h
  | k + 1, a, b, h => by
    simp only [hiB, SLt]
    have key : ∀ x : Nat, x % 256 ^ (k + 1) = (x / 256 ^ k % 256) * 256 ^ k + x % 256 ^ k := by
      intro x
      rw [Nat.pow_succ, Nat.mod_mul, Nat.mul_comm, Nat.add_comm]
    rw [key a, key b] at h
    rw [ofNat_toNat8, ofNat_toNat8]
    have hp : 0 < 256 ^ k := Nat.pow_pos (by decide)
    have ha := Nat.mod_lt a hp
    have hb := Nat.mod_lt b hp
    rcases Nat.lt_trichotomy (a / 256 ^ k % 256) (b / 256 ^ k % 256) with h1 | h1 | h1
    · exact .inl h1
    · refine .inr ⟨?_, ?_⟩
      · apply UInt8.toNat_inj.1; rw [ofNat_toNat8, ofNat_toNat8]; exact h1
      · rw [h1] at h
        exact hiB_lt k a b (by omega)
    · exfalso
      have h2 : (b / 256 ^ k % 256 + 1) * 256 ^ k ≤ (a / 256 ^ k % 256) * 256 ^ k := Nat.mul_le_mul_right _ h1
      rw [Nat.add_mul] at h2
      generalize 256 ^ k = P at *
      generalize b / P % 256 * P = x at *
      generalize a / P % 256 * P = y at *
      omega
theorem hiB_mod : ∀ (k a b : Nat), a % 256 ^ k = b % 256 ^ k → hiB a k = hiB b k
  | 0, _, _, _ => rfl
  | k + 1, a, b, h => by
    have key : ∀ x : Nat, x % 256 ^ (k + 1) = x % 256 ^ k + 256 ^ k * (x / 256 ^ k % 256) := by
      intro x
      rw [Nat.pow_succ, Nat.mod_mul]
    have h1 : a % 256 ^ k = b % 256 ^ k := by
      have := congrArg (· % 256 ^ k) h
      simpa [Nat.pow_succ, Nat.mod_mul_right_mod] using this
    have h2 : a / 256 ^ k % 256 = b / 256 ^ k % 256 := by
      rw [key a, key b, h1] at h
      have hp : 0 < 256 ^ k := Nat.pow_pos (by decide)
      exact Nat.eq_of_mul_eq_mul_left hp (by omega)
    simp only [hiB]
    rw [hiB_mod k a b h1]
    congr 1
    apply UInt8.toNat_inj.1; rw [ofNat_toNat8, ofNat_toNat8]; exact h2

/-- in how few bytes a number is held -/
def sz (m : Nat) : Nat :=
  if m = 0 then 0 else if m < 256 then 1 else if m < 65536 then 2 else if m < 16777216 then 3 else if m < 4294967296 then 4 else if m < 1099511627776 then 5
  else if m < 281474976710656 then 6 else if m < 72057594037927936 then 7 else 8
theorem sz_le (m : Nat) : sz m ≤ 8 := by unfold sz; (repeat' split) <;> omega
theorem sz_lt {m : Nat} (h : m < 18446744073709551616) : m < 256 ^ sz m := by
  unfold sz
  repeat' split
  all_goals (simp; try omega)
theorem sz_least {m k : Nat} (h : m < 256 ^ k) : sz m ≤ k := by
  have h2 : 8 ≤ k ∨ k = 0 ∨ k = 1 ∨ k = 2 ∨ k = 3 ∨ k = 4 ∨ k = 5 ∨ k = 6 ∨ k = 7 := by omega
  rcases h2 with h2 | rfl | rfl | rfl | rfl | rfl | rfl | rfl | rfl
  · exact Nat.le_trans (sz_le m) h2
  all_goals (unfold sz; simp at h; (repeat' split) <;> omega)
theorem sz_mono {a b : Nat} (h : a ≤ b) (hb : b < 18446744073709551616) : sz a ≤ sz b := sz_least (Nat.lt_of_le_of_lt h (sz_lt hb))
theorem sz_bitLen {m : Nat} (h : m < 18446744073709551616) : (Lib.bitLen m + 7) / 8 = sz m := by
  by_cases h0 : m = 0
  · subst h0; decide
  · obtain ⟨h1, h2, h3⟩ := Lib.bitLenAux_bounds 64 m h h0
    change 1 ≤ Lib.bitLen m at h1
    change 2 ^ (Lib.bitLen m - 1) ≤ m at h2
    change m < 2 ^ Lib.bitLen m at h3
    have hb : Lib.bitLen m ≤ 64 := Lib.bitLen_le m 64 (by decide) h
    generalize Lib.bitLen m = b at *
    apply Nat.le_antisymm
    · have hs := sz_lt h
      rw [show (256 : Nat) = 2 ^ 8 from rfl, ← Nat.pow_mul] at hs
      have : 2 ^ (b - 1) < 2 ^ (8 * sz m) := Nat.lt_of_le_of_lt h2 hs
      have := (Nat.pow_lt_pow_iff_right (by decide : 1 < 2)).1 this
      omega
    · apply sz_least
      rw [show (256 : Nat) = 2 ^ 8 from rfl, ← Nat.pow_mul]
      exact Nat.lt_of_lt_of_le h3 (Nat.pow_le_pow_right (by decide) (by omega))

/-- what stands behind the tag of an int -/
def wholeC (n : Int) : List UInt8 :=
  if 0 ≤ n then UInt8.ofNat (128 + sz n.toNat) :: hiB n.toNat (sz n.toNat)
  else UInt8.ofNat (128 - max (sz (-(n + 1)).toNat) 1) :: hiB (18446744073709551615 - (-(n + 1)).toNat) (max (sz (-(n + 1)).toNat) 1)

theorem low_turned {k m : Nat} (hk : k ≤ 8) (hm : m < 256 ^ k) : (18446744073709551615 - m) % 256 ^ k = 256 ^ k - 1 - m := by
  have h2 : k = 0 ∨ k = 1 ∨ k = 2 ∨ k = 3 ∨ k = 4 ∨ k = 5 ∨ k = 6 ∨ k = 7 ∨ k = 8 := by omega
  rcases h2 with rfl | rfl | rfl | rfl | rfl | rfl | rfl | rfl | rfl
  all_goals (simp at hm ⊢; try omega)

theorem wholeC_lt {a b : Int} (ha : -9223372036854775808 ≤ a) (_ha' : a ≤ 9223372036854775807) (_hb : -9223372036854775808 ≤ b) (hb' : b ≤ 9223372036854775807) (h : a < b) : SLt (wholeC a) (wholeC b) := by
  unfold wholeC
  by_cases h1 : 0 ≤ a
  · have h2 : 0 ≤ b := by omega
    rw [if_pos h1, if_pos h2]
    have hs := sz_mono (a := a.toNat) (b := b.toNat) (by omega) (by omega)
    have h8 := sz_le b.toNat
    have l1 := sz_lt (m := a.toNat) (by omega)
    have l2 := sz_lt (m := b.toNat) (by omega)
    simp only [SLt, ofNat_toNat8]
    by_cases e : sz a.toNat = sz b.toNat
    · right
      rw [e]
      rw [e] at l1
      refine ⟨rfl, hiB_lt _ _ _ ?_⟩
      rw [Nat.mod_eq_of_lt l1, Nat.mod_eq_of_lt l2]; omega
    · left; omega
  · by_cases h2 : 0 ≤ b
    · rw [if_neg h1, if_pos h2]
      have h8 := sz_le b.toNat
      have h9 := sz_le (-(a + 1)).toNat
      simp only [SLt, ofNat_toNat8]
      left; omega
    · rw [if_neg h1, if_neg h2]
      have hs := sz_mono (a := (-(b + 1)).toNat) (b := (-(a + 1)).toNat) (by omega) (by omega)
      have h8 := sz_le (-(b + 1)).toNat
      have h9 := sz_le (-(a + 1)).toNat
      have l1 := sz_lt (m := (-(a + 1)).toNat) (by omega)
      have l2 := sz_lt (m := (-(b + 1)).toNat) (by omega)
      simp only [SLt, ofNat_toNat8]
      by_cases e : max (sz (-(a + 1)).toNat) 1 = max (sz (-(b + 1)).toNat) 1
      · right
        have m1 : (-(a + 1)).toNat < 256 ^ max (sz (-(b + 1)).toNat) 1 := Nat.lt_of_lt_of_le l1 (Nat.pow_le_pow_right (by decide) (by omega))
        have m2 : (-(b + 1)).toNat < 256 ^ max (sz (-(b + 1)).toNat) 1 := Nat.lt_of_lt_of_le l2 (Nat.pow_le_pow_right (by decide) (by omega))
        rw [e]
        refine ⟨rfl, hiB_lt _ _ _ ?_⟩
        rw [low_turned (by omega) m1, low_turned (by omega) m2]
        omega
      · left; omega

/-- the bytes of a text: each nought with 255 behind it -/
def esc : List UInt8 → List UInt8
  | [] => []
  | c :: s => if c = 0 then 0 :: 255 :: esc s else c :: esc s
def ended (s : List UInt8) : List UInt8 := esc s ++ [0]
theorem ended_ne (s : List UInt8) : ended s ≠ [] := by simp [ended]
theorem ended_lt : ∀ (s t : List UInt8), Lib.compareBytes s t = -1 → Lt2 (ended s) (ended t)
  | [], [], h => by simp [Lib.compareBytes] at h
  | [], c :: t, _ => by
    by_cases hc : c = 0
    · subst hc
      exact .inr ⟨ended t, ended_ne t, by simp [ended, esc]⟩
    · left
      have : 0 < c.toNat := by
        rcases Nat.eq_zero_or_pos c.toNat with h | h
        · exact absurd (UInt8.toNat_inj.1 (h.trans rfl)) hc
        · exact h
      simp [ended, esc, hc, SLt, this]
  | _ :: _, [], h => by simp [Lib.compareBytes] at h
  | a :: s, b :: t, h => by
    simp only [Lib.compareBytes, UInt8.lt_iff_toNat_lt] at h
    by_cases h1 : a.toNat < b.toNat
    · left
      have hb : b ≠ 0 := fun e => by subst e; simp at h1
      by_cases ha : a = 0
      · subst ha
        have h1' : 0 < b.toNat := h1
        simp [ended, esc, hb, SLt, h1']
      · simp [ended, esc, ha, hb, SLt, h1]
    · rw [if_neg h1] at h
      by_cases h2 : b.toNat < a.toNat
      · rw [if_pos h2] at h; simp at h
      · rw [if_neg h2] at h
        have e : a = b := UInt8.toNat_inj.1 (by omega)
        subst e
        have ih := ended_lt s t h
        by_cases ha : a = 0
        · have h3 := lt2_pre [0, 255] ih
          simpa [ended, esc, ha] using h3
        · have h3 := lt2_pre [a] ih
          simpa [ended, esc, ha] using h3

end Go.Proofs.YthbjheiogghjnaaGreatDoor

namespace Go.Proofs.YthbjheiogghjnaaGreatDoor
open Ieee
set_option maxRecDepth 100000

/-! floats -/
def gK (b : Nat) : Nat := if b < 9223372036854775808 then b + 9223372036854775808 else 18446744073709551615 - b
/-- what stands behind the tag of a float -/
def realC (f : Nat) : List UInt8 := hiB (gK (plainF f)) 8
def magN (r : Nat) : Nat := if r < 2 ^ 52 then r else (2 ^ 52 + r % 2 ^ 52) * 2 ^ (r / 2 ^ 52 - 1)
theorem magN_lt {a b : Nat} (h : a < b) : magN a < magN b := by
  have da : a = 2 ^ 52 * (a / 2 ^ 52) + a % 2 ^ 52 := (Nat.div_add_mod _ _).symm
  have db : b = 2 ^ 52 * (b / 2 ^ 52) + b % 2 ^ 52 := (Nat.div_add_mod _ _).symm
  have ma : a % 2 ^ 52 < 2 ^ 52 := Nat.mod_lt _ (by decide)
  have mb : b % 2 ^ 52 < 2 ^ 52 := Nat.mod_lt _ (by decide)
  unfold magN
  by_cases h1 : a < 2 ^ 52
  · rw [if_pos h1]
    by_cases h2 : b < 2 ^ 52
    · rw [if_pos h2]; exact h
    · rw [if_neg h2]
      have hp : 0 < 2 ^ (b / 2 ^ 52 - 1) := Nat.two_pow_pos _
      have := Nat.le_mul_of_pos_right (2 ^ 52 + b % 2 ^ 52) hp
      omega
  · have h2 : ¬ b < 2 ^ 52 := by omega
    rw [if_neg h1, if_neg h2]
    have hq : a / 2 ^ 52 ≤ b / 2 ^ 52 := Nat.div_le_div_right (by omega)
    have hq1 : 1 ≤ a / 2 ^ 52 := by omega
    generalize a / 2 ^ 52 = q at *
    generalize b / 2 ^ 52 = q' at *
    generalize a % 2 ^ 52 = x at *
    generalize b % 2 ^ 52 = x' at *
    by_cases e : q = q'
    · subst e
      have hp : 0 < 2 ^ (q - 1) := Nat.two_pow_pos _
      exact Nat.mul_lt_mul_of_pos_right (by omega) hp
    · have s1 : (2 ^ 52 + x) * 2 ^ (q - 1) < 2 ^ 53 * 2 ^ (q - 1) := Nat.mul_lt_mul_of_pos_right (by omega) (Nat.two_pow_pos _)
      have s2 : 2 ^ 53 * 2 ^ (q - 1) = 2 ^ 52 * 2 ^ q := by
        rw [← Nat.pow_add, ← Nat.pow_add]; congr 1; omega
      have s3 : 2 ^ 52 * 2 ^ q ≤ 2 ^ 52 * 2 ^ (q' - 1) := Nat.mul_le_mul_left _ (Nat.pow_le_pow_right (by decide) (by omega))
      have s4 : 2 ^ 52 * 2 ^ (q' - 1) ≤ (2 ^ 52 + x') * 2 ^ (q' - 1) := Nat.mul_le_mul_right _ (by omega)
      omega
def eK (f : Nat) : Int := if isN f then 9221120237041090560 else if f < 9223372036854775808 then ((f % 2 ^ 63 : Nat) : Int) else -((f % 2 ^ 63 : Nat) : Int)
theorem fK_eq {f : Nat} (hf : f < 18446744073709551616) (hn : isN f = false) : (f % 2 ^ 63 < 9218868437227405312 ∧ fK f = (if f < 9223372036854775808 then (magN (f % 2 ^ 63) : Int) else -(magN (f % 2 ^ 63) : Int))) ∨
    (f % 2 ^ 63 = 9218868437227405312 ∧ fK f = (if f < 9223372036854775808 then big else -big)) := by
  have hn' := isN_iff f
  rw [hn] at hn'
  have hle : ¬ f % 2 ^ 63 > 9218868437227405312 := of_decide_eq_false hn'.symm
  have hs : (f / 2 ^ 63 % 2 == 1) = !decide (f < 9223372036854775808) := by
    by_cases h : f < 9223372036854775808
    · have : f / 2 ^ 63 = 0 := by omega
      simp [h, this]
    · have : f / 2 ^ 63 = 1 := by omega
      simp [h, this]
  have sg : ∀ (m a : Nat), signed (f / 2 ^ 63 % 2 == 1) m a = (if f < 9223372036854775808 then ((m * 2 ^ a : Nat) : Int) else -((m * 2 ^ a : Nat) : Int)) := by
    intro m a
    unfold signed
    rw [hs, shl_mul]
    by_cases h : f < 9223372036854775808 <;> simp [h]
  unfold fK Format.read
  rw [leastPlace_eq, binade_eq, signWeight_eq, infRung_eq]
  dsimp only
  by_cases h1 : f % 2 ^ 63 < 2 ^ 52
  · left
    refine ⟨by omega, ?_⟩
    rw [if_pos h1]
    simp only [dkey]
    rw [sg]
    unfold magN
    rw [if_pos h1]
    simp
  · by_cases h2 : f % 2 ^ 63 < 9218868437227405312
    · left
      refine ⟨h2, ?_⟩
      rw [if_neg h1, if_pos h2]
      simp only [dkey]
      rw [sg]
      unfold magN
      rw [if_neg h1]
      have e : (-1074 + ((f % 2 ^ 63 / 2 ^ 52 - 1 : Nat) : Int) + 1074).toNat = f % 2 ^ 63 / 2 ^ 52 - 1 := by omega
      rw [e]
    · right
      refine ⟨by omega, ?_⟩
      rw [if_neg h1, if_neg h2, if_pos (by omega)]
      simp only [dkey]
      rw [hs]
      by_cases h : f < 9223372036854775808 <;> simp [h]
theorem magN_zero : magN 0 = 0 := by decide
theorem magN_big {r : Nat} (h : r < 9218868437227405312) : magN r < bigN := by
  unfold magN
  split
  · rename_i h1
    exact Nat.lt_of_lt_of_le h1 (Nat.pow_le_pow_right (by decide) (by decide))
  · have hm : r % 2 ^ 52 < 2 ^ 52 := Nat.mod_lt _ (by decide)
    have hd : r / 2 ^ 52 ≤ 2046 := by omega
    exact mul_pow_lt (a := 53) (b := 2045) (by omega) (by omega) (by decide)
def magX (r : Nat) : Nat := if r = 9218868437227405312 then bigN else magN r
theorem magX_lt {a b : Nat} (h : a < b) (hb : b ≤ 9218868437227405312) : magX a < magX b := by
  unfold magX
  rw [if_neg (by omega)]
  split
  · exact magN_big (by omega)
  · exact magN_lt h
theorem magX_zero : magX 0 = 0 := by unfold magX; rw [if_neg (by decide)]; exact magN_zero
theorem fK_eqX {f : Nat} (hf : f < 18446744073709551616) (hn : isN f = false) : f % 2 ^ 63 ≤ 9218868437227405312 ∧ fK f = (if f < 9223372036854775808 then (magX (f % 2 ^ 63) : Int) else -(magX (f % 2 ^ 63) : Int)) := by
  rcases fK_eq hf hn with ⟨h1, h2⟩ | ⟨h1, h2⟩
  · refine ⟨by omega, ?_⟩
    have e : ¬ f % 2 ^ 63 = 9218868437227405312 := by omega
    rw [h2]; unfold magX; rw [if_neg e]
  · refine ⟨by omega, ?_⟩
    rw [h2, h1]; unfold magX; rw [if_pos rfl]; rfl
theorem eK_le {f : Nat} (hf : f < 18446744073709551616) (hn : isN f = false) : eK f ≤ 9218868437227405312 := by
  have := (fK_eqX hf hn).1
  unfold eK; rw [hn]
  simp only [Bool.false_eq_true, if_false]
  split <;> omega
theorem fK_lt {f g : Nat} (hf : f < 18446744073709551616) (hg : g < 18446744073709551616) (h : eK f < eK g) : fK f < fK g := by
  have hp := big_pos
  cases nf : isN f
  · cases ng : isN g
    · obtain ⟨lf, ef⟩ := fK_eqX hf nf
      obtain ⟨lg, eg⟩ := fK_eqX hg ng
      unfold eK at h
      rw [nf, ng] at h
      simp only [Bool.false_eq_true, if_false] at h
      rw [ef, eg]
      have pos : ∀ r : Nat, 0 < r → r ≤ 9218868437227405312 → 0 < magX r := fun r h1 h2 => by have := magX_lt h1 h2; omega
      by_cases h1 : f < 9223372036854775808
      · by_cases h2 : g < 9223372036854775808
        · rw [if_pos h1, if_pos h2] at h
          rw [if_pos h1, if_pos h2]
          have := magX_lt (a := f % 2 ^ 63) (b := g % 2 ^ 63) (by omega) lg
          omega
        · rw [if_pos h1, if_neg h2] at h
          exfalso; omega
      · by_cases h2 : g < 9223372036854775808
        · rw [if_neg h1, if_pos h2] at h
          rw [if_neg h1, if_pos h2]
          rcases Nat.eq_zero_or_pos (f % 2 ^ 63) with z | z
          · have := pos (g % 2 ^ 63) (by omega) lg
            omega
          · have := pos (f % 2 ^ 63) z lf
            omega
        · rw [if_neg h1, if_neg h2] at h
          rw [if_neg h1, if_neg h2]
          have := magX_lt (a := g % 2 ^ 63) (b := f % 2 ^ 63) (by omega) lf
          omega
    · have := fK_num nf; rw [fK_nan ng]; omega
  · exfalso
    have e1 : eK f = 9221120237041090560 := by unfold eK; rw [nf]; rfl
    have e2 : eK g ≤ 9221120237041090560 := by
      cases ng : isN g
      · have := eK_le hg ng; omega
      · unfold eK; rw [ng]; simp
    omega
theorem fK_same {f g : Nat} (hf : f < 18446744073709551616) (hg : g < 18446744073709551616) (h : eK f = eK g) : fK f = fK g := by
  cases nf : isN f
  · cases ng : isN g
    · obtain ⟨lf, ef⟩ := fK_eqX hf nf
      obtain ⟨lg, eg⟩ := fK_eqX hg ng
      unfold eK at h
      rw [nf, ng] at h
      simp only [Bool.false_eq_true, if_false] at h
      rw [ef, eg]
      by_cases h1 : f < 9223372036854775808
      · by_cases h2 : g < 9223372036854775808
        · rw [if_pos h1, if_pos h2] at h
          rw [if_pos h1, if_pos h2]
          have e : f % 2 ^ 63 = g % 2 ^ 63 := by omega
          rw [e]
        · rw [if_pos h1, if_neg h2] at h
          rw [if_pos h1, if_neg h2]
          have e1 : f % 2 ^ 63 = 0 := by omega
          have e2 : g % 2 ^ 63 = 0 := by omega
          rw [e1, e2, magX_zero]; rfl
      · by_cases h2 : g < 9223372036854775808
        · rw [if_neg h1, if_pos h2] at h
          rw [if_neg h1, if_pos h2]
          have e1 : f % 2 ^ 63 = 0 := by omega
          have e2 : g % 2 ^ 63 = 0 := by omega
          rw [e1, e2, magX_zero]; rfl
        · rw [if_neg h1, if_neg h2] at h
          rw [if_neg h1, if_neg h2]
          have e : f % 2 ^ 63 = g % 2 ^ 63 := by omega
          rw [e]
    · exfalso
      have e1 : eK g = 9221120237041090560 := by unfold eK; rw [ng]; rfl
      have := eK_le hf nf
      omega
  · cases ng : isN g
    · exfalso
      have e1 : eK f = 9221120237041090560 := by unfold eK; rw [nf]; rfl
      have := eK_le hg ng
      omega
    · rw [fK_nan nf, fK_nan ng]
/-- the bits that the key tells, as a number, stand as eK -/
theorem gK_eK {f : Nat} (hf : f < 18446744073709551616) : (gK (plainF f) : Int) = (if 0 ≤ eK f then eK f + 9223372036854775808 else eK f + 9223372036854775807) := by
  unfold plainF eK
  rw [nanB_eq hf, zeroB_mod hf]
  cases nf : isN f
  · simp only [Bool.false_eq_true, if_false]
    by_cases z : f % 2 ^ 63 = 0
    · rw [z]
      have : gK 0 = 9223372036854775808 := by decide
      simp [this]
    · simp only [z, decide_false, Bool.false_eq_true, if_false]
      unfold gK
      by_cases h1 : f < 9223372036854775808
      · simp only [h1, if_true]
        rw [if_pos (by omega)]; omega
      · simp only [h1, if_false]
        rw [if_neg (by omega)]; omega
  · simp only [if_true]
    decide
theorem plain_eK {f g : Nat} (hf : f < 18446744073709551616) (hg : g < 18446744073709551616) (h : eK f = eK g) : realC f = realC g := by
  have h1 := gK_eK hf
  have h2 := gK_eK hg
  rw [h] at h1
  have : gK (plainF f) = gK (plainF g) := by omega
  unfold realC; rw [this]
theorem gK_lt (b : Nat) : gK b < 18446744073709551616 := by unfold gK; split <;> omega
theorem realC_lt {f g : Nat} (hf : f < 18446744073709551616) (hg : g < 18446744073709551616) (h : eK f < eK g) : SLt (realC f) (realC g) := by
  have h1 := gK_eK hf
  have h2 := gK_eK hg
  apply hiB_lt
  rw [Nat.mod_eq_of_lt (gK_lt _), Nat.mod_eq_of_lt (gK_lt _)]
  split at h1 <;> split at h2 <;> omega
theorem realC_cmp {f g : Nat} (hf : f < 18446744073709551616) (hg : g < 18446744073709551616) : (cmpI (fK f) (fK g) = -1 → SLt (realC f) (realC g)) ∧ (cmpI (fK f) (fK g) = 0 → realC f = realC g) := by
  have a := @fK_lt f g hf hg
  have b := @fK_lt g f hg hf
  have c := @fK_same f g hf hg
  unfold cmpI
  constructor
  · intro h
    apply realC_lt hf hg
    apply Classical.byContradiction
    intro hn
    rcases Int.lt_trichotomy (eK f) (eK g) with h1 | h1 | h1
    · exact hn h1
    · have := c h1; rw [this] at h; simp at h
    · have := b h1
      rw [if_neg (by omega), if_pos (by omega)] at h; simp at h
  · intro h
    apply plain_eK hf hg
    rcases Int.lt_trichotomy (eK f) (eK g) with h1 | h1 | h1
    · have := a h1; rw [if_pos this] at h; simp at h
    · exact h1
    · have := b h1
      rw [if_neg (by omega), if_pos (by omega)] at h; simp at h

/-! values -/
structure Vl where
  k : Int
  n : Int
  f : Nat
  s : ByteArray
def Vl.ok (v : Vl) : Prop := (-9223372036854775808 ≤ v.k ∧ v.k ≤ 9223372036854775807) ∧ (-9223372036854775808 ≤ v.n ∧ v.n ≤ 9223372036854775807) ∧ v.f < 18446744073709551616 ∧ v.s.size ≤ 9223372036854775807
def Vl.chk (v : Vl) : Int := chkV v.k v.n v.f v.s
def Vl.cmp (u v : Vl) : Int := cmpW u.k u.n v.k v.n u.f v.f u.s v.s
def Vl.body (v : Vl) : List UInt8 := if v.k == 1 then [UInt8.ofNat v.n.toNat] else if v.k == 2 then wholeC v.n else if v.k == 3 then realC v.f else if v.k == 4 || v.k == 5 then ended v.s.data.toList else []
def Vl.code (v : Vl) : List UInt8 := UInt8.ofNat (v.k + 1).toNat :: v.body
theorem chk_kind {v : Vl} (h : v.chk = 0) : 0 ≤ v.k ∧ v.k ≤ 5 ∧ (v.k = 1 → v.n = 0 ∨ v.n = 1) := by
  unfold Vl.chk chkV at h
  split at h
  · rename_i c
    simp only [Bool.and_eq_true] at c
    obtain ⟨⟨⟨c1, c2⟩, _⟩, _⟩ := c
    unfold kindB at c1
    simp only [Bool.and_eq_true, decide_eq_true_eq] at c1
    refine ⟨c1.1, c1.2, fun e => ?_⟩
    unfold numB at c2
    rw [e] at c2
    simpa using c2
  · simp at h
theorem cmpI_m1 {a b : Int} (h : cmpI a b = -1) : a < b := by unfold cmpI at h; split at h; assumption; split at h <;> simp at h
theorem cmpI_0 {a b : Int} (h : cmpI a b = 0) : a = b := by unfold cmpI at h; split at h; simp at h; split at h; simp at h; omega
theorem code_cmp {u v : Vl} (ou : u.ok) (ov : v.ok) (hu : u.chk = 0) (hv : v.chk = 0) : (u.cmp v = -1 → Lt2 u.code v.code) ∧ (u.cmp v = 0 → u.code = v.code) := by
  obtain ⟨u0, u5, u1⟩ := chk_kind hu
  obtain ⟨v0, v5, v1⟩ := chk_kind hv
  obtain ⟨k, n, f, s⟩ := u
  obtain ⟨k', n', f', s'⟩ := v
  obtain ⟨_, ⟨on1, on2⟩, of, _⟩ := ou
  obtain ⟨_, ⟨on1', on2'⟩, of', _⟩ := ov
  dsimp only at *
  clear hu hv
  unfold Vl.cmp Vl.code Vl.body
  dsimp only
  rw [cmpW_eq of of']
  unfold cmpV
  by_cases e : k = k'
  · subst e
    simp only [beq_self_eq_true, if_true]
    have h6 : k = 0 ∨ k = 1 ∨ k = 2 ∨ k = 3 ∨ k = 4 ∨ k = 5 := by omega
    rcases h6 with rfl | rfl | rfl | rfl | rfl | rfl
    · simp
    · have := u1 rfl
      have := v1 rfl
      simp only [beq_self_eq_true, Bool.true_or, if_true]
      constructor
      · intro h
        have := cmpI_m1 h
        refine .inl (slt_pre [_] ?_)
        simp only [SLt, ofNat_toNat8]; left; omega
      · intro h
        have := cmpI_0 h
        subst this; rfl
    · simp only [show ((2 : Int) == 1) = false from rfl, beq_self_eq_true, Bool.false_or, if_true, Bool.false_eq_true, if_false]
      constructor
      · intro h
        exact .inl (slt_pre [_] (wholeC_lt on1 on2 on1' on2' (cmpI_m1 h)))
      · intro h
        have := cmpI_0 h
        subst this; rfl
    · simp only [show ((3 : Int) == 1) = false from rfl, show ((3 : Int) == 2) = false from rfl, beq_self_eq_true, Bool.or_self, if_true, Bool.false_eq_true, if_false]
      rw [cmpF_eq of of']
      have hc := realC_cmp of of'
      exact ⟨fun h => .inl (slt_pre [_] (hc.1 h)), fun h => by rw [hc.2 h]⟩
    · simp only [show ((4 : Int) == 1) = false from rfl, show ((4 : Int) == 2) = false from rfl, show ((4 : Int) == 3) = false from rfl, beq_self_eq_true, Bool.or_self, Bool.true_or, if_true, Bool.false_eq_true, if_false]
      refine ⟨fun h => lt2_pre [_] (ended_lt _ _ h), fun h => ?_⟩
      have := eq_cb s.data.toList s'.data.toList
      rw [h] at this
      rw [beq_iff_eq.1 this]
    · simp only [show ((5 : Int) == 1) = false from rfl, show ((5 : Int) == 2) = false from rfl, show ((5 : Int) == 3) = false from rfl, show ((5 : Int) == 4) = false from rfl, beq_self_eq_true, Bool.or_self, Bool.false_or, if_true, Bool.false_eq_true, if_false]
      refine ⟨fun h => lt2_pre [_] (ended_lt _ _ h), fun h => ?_⟩
      have := eq_cb s.data.toList s'.data.toList
      rw [h] at this
      rw [beq_iff_eq.1 this]
  · rw [beqF e]
    simp only [Bool.false_eq_true, if_false]
    refine ⟨fun h => .inl ?_, fun h => absurd (cmpI_0 h) e⟩
    have := cmpI_m1 h
    simp only [SLt, ofNat_toNat8]; left; omega

/-! lists -/
def encL : List Vl → List UInt8
  | [] => []
  | v :: l => v.code ++ encL l
def cmpL : List Vl → List Vl → Int
  | [], [] => 0
  | [], _ :: _ => -1
  | _ :: _, [] => 1
  | u :: a, v :: b => if u.cmp v == 0 then cmpL a b else u.cmp v
def Fine (l : List Vl) : Prop := ∀ v ∈ l, v.ok ∧ v.chk = 0
theorem Fine.tail {v : Vl} {l : List Vl} (h : Fine (v :: l)) : Fine l := fun x hx => h x (List.mem_cons_of_mem _ hx)
theorem Fine.head {v : Vl} {l : List Vl} (h : Fine (v :: l)) : v.ok ∧ v.chk = 0 := h v List.mem_cons_self
theorem okT_enc {l : List Vl} (h : Fine l) : okT (encL l) := by
  intro x r e
  cases l with
  | nil => simp [encL] at e
  | cons v l =>
    obtain ⟨h0, h5, _⟩ := chk_kind h.head.2
    simp only [encL, Vl.code, List.cons_append, List.cons.injEq] at e
    rw [← e.1, ofNat_toNat8]; omega
theorem cmp_swap {u v : Vl} (ou : u.ok) (ov : v.ok) : v.cmp u = 0 - u.cmp v := by
  unfold Vl.cmp
  rw [cmpW_eq ou.2.2.1 ov.2.2.1, cmpW_eq ov.2.2.1 ou.2.2.1]
  exact cmpV_swap ou.2.2.1 ov.2.2.1 _ _ _ _ _ _
theorem cmp_range {u v : Vl} (ou : u.ok) (ov : v.ok) : u.cmp v = -1 ∨ u.cmp v = 0 ∨ u.cmp v = 1 := by
  unfold Vl.cmp
  rw [cmpW_eq ou.2.2.1 ov.2.2.1]
  exact cmpV_range ou.2.2.1 ov.2.2.1 _ _ _ _ _ _
theorem enc_order : ∀ (a b : List Vl), Fine a → Fine b → Lib.compareBytes (encL a) (encL b) = cmpL a b
  | [], [], _, _ => by simp [encL, Lib.compareBytes, cmpL]
  | [], v :: b, _, _ => by simp [encL, Vl.code, Lib.compareBytes, cmpL]
  | v :: a, [], _, _ => by simp [encL, Vl.code, Lib.compareBytes, cmpL]
  | u :: a, v :: b, fa, fb => by
    have ih := enc_order a b fa.tail fb.tail
    obtain ⟨ou, cu⟩ := fa.head
    obtain ⟨ov, cv⟩ := fb.head
    have hc := code_cmp ou ov cu cv
    have hc' := code_cmp ov ou cv cu
    have hs := cmp_swap ou ov
    simp only [cmpL, encL]
    rcases cmp_range ou ov with h | h | h
    · rw [h]; exact lt2_cb (hc.1 h) (okT_enc fa.tail) _
    · rw [h, hc.2 h, cb_pre]; exact ih
    · rw [h, cb_swap, lt2_cb (hc'.1 (by omega)) (okT_enc fb.tail) _]; rfl
/-- is a list a beginning of another one? -/
def beginsL (a b : List Vl) : Bool := decide (a.length ≤ b.length) && (cmpL a (b.take a.length) == 0)
theorem enc_begins : ∀ (a b : List Vl), Fine a → Fine b → (((Lib.compareBytes (encL b) (encL a) != -1) && (Lib.compareBytes (encL b) (encL a ++ [255]) == -1)) = beginsL a b)
  | [], [], _, _ => by simp [encL, Lib.compareBytes, beginsL, cmpL]
  | [], v :: b, _, fb => by
    obtain ⟨h0, h5, _⟩ := chk_kind fb.head.2
    have h255 : (255 : UInt8).toNat = 255 := rfl
    simp only [encL, Vl.code, List.nil_append, List.cons_append, Lib.compareBytes, UInt8.lt_iff_toNat_lt, ofNat_toNat8, h255]
    rw [if_pos (by omega)]
    simp [beginsL, cmpL]
  | v :: a, [], _, _ => by simp [encL, Vl.code, Lib.compareBytes, beginsL]
  | u :: a, v :: b, fa, fb => by
    have ih := enc_begins a b fa.tail fb.tail
    obtain ⟨ou, cu⟩ := fa.head
    obtain ⟨ov, cv⟩ := fb.head
    have hc := code_cmp ou ov cu cv
    have hc' := code_cmp ov ou cv cu
    have hs := cmp_swap ou ov
    simp only [encL, List.append_assoc]
    rcases cmp_range ou ov with h | h | h
    · have h1 := lt2_cb255 (hc.1 h) (okT_enc fa.tail) (encL b)
      have h2 := cb_swap (u.code ++ (encL a ++ [255])) (v.code ++ encL b)
      rw [h1] at h2
      rw [h2]
      simp [beginsL, cmpL, h]
    · rw [hc.2 h, cb_pre, cb_pre, ih]
      simp [beginsL, cmpL, h]
    · rw [lt2_cb (hc'.1 (by omega)) (okT_enc fb.tail) _]
      simp [beginsL, cmpL, h]

end Go.Proofs.YthbjheiogghjnaaGreatDoor
