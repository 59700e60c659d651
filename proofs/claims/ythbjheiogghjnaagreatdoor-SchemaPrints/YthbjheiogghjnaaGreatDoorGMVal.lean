/- Plain mathematics: the two orders of values are one, and it is an order. Plain mathematics: a float as keys have it. -/
import Derived.Test.YthbjheiogghjnaaGreatDoorGMBase
namespace Go.Proofs.YthbjheiogghjnaaGreatDoor
open Ieee

theorem cmpI_self (a : Int) : cmpI a a = 0 := by unfold cmpI; simp
theorem cmpI_swap (a b : Int) : cmpI b a = 0 - cmpI a b := by unfold cmpI; split <;> split <;> (try split) <;> (try split) <;> omega
theorem cmpI_range (a b : Int) : cmpI a b = -1 ∨ cmpI a b = 0 ∨ cmpI a b = 1 := by unfold cmpI; split <;> (try split) <;> simp
theorem cmpI_le {a b : Int} : cmpI a b ≤ 0 ↔ a ≤ b := by unfold cmpI; split <;> (try split) <;> omega

theorem nanO_eq (f : Nat) : nanO f = isN f := by
  unfold nanO
  cases h : isN f
  · rw [order_fK h h]
    simp [compare, compareOfLessAndEq]
  · rw [order_nan (.inl h)]
    rfl

theorem isN_iff (f : Nat) : isN f = decide (f % 2 ^ 63 > 9218868437227405312) := by
  unfold isN Format.read
  rw [leastPlace_eq, binade_eq, signWeight_eq, infRung_eq]
  dsimp only
  split
  · simp only [Datum.isNaN]; symm; simp only [decide_eq_false_iff_not]; omega
  · split
    · simp only [Datum.isNaN]; symm; simp only [decide_eq_false_iff_not]; omega
    · split
      · simp only [Datum.isNaN]; symm; simp only [decide_eq_false_iff_not]; omega
      · simp only [Datum.isNaN]; symm; simp only [decide_eq_true_eq]; omega

theorem nanB_eq {f : Nat} (hf : f < 18446744073709551616) : nanB f = isN f := by
  rw [isN_iff]
  unfold nanB
  have h := u64_andNot_nat f 9223372036854775808 hf (by decide)
  have e : (18446744073709551615 - 9223372036854775808 : Nat) = 2 ^ 63 - 1 := by decide
  rw [e, Nat.and_two_pow_sub_one_eq_mod] at h
  have h' : bits .andNot .u64 (f : Int) 9223372036854775808 = ((f % 2 ^ 63 : Nat) : Int) := h
  rw [h']
  simp only [decide_eq_decide]
  omega

theorem cmpO_eq {a b : Nat} (ha : isN a = false) (hb : isN b = false) : cmpO a b = cmpI (fK a) (fK b) := by
  unfold cmpO cmpI
  rw [order_fK ha hb]
  simp only [compare, compareOfLessAndEq]
  by_cases h1 : fK a < fK b
  · simp [h1]
  · by_cases h2 : fK a = fK b
    · simp [h2]
    · have h3 : fK b < fK a := by omega
      simp [h1, h2, h3]

theorem cmpR_eq (a b : Nat) : cmpR a b = cmpI (fK a) (fK b) := by
  unfold cmpR
  rw [nanO_eq, nanO_eq]
  cases ha : isN a <;> cases hb : isN b
  · simp [cmpO_eq ha hb]
  · have h1 := fK_num ha; have h2 := fK_nan hb
    simp only [Bool.false_eq_true, if_false, if_true]
    unfold cmpI; rw [if_pos (by omega)]
  · have h1 := fK_num hb; have h2 := fK_nan ha
    simp only [Bool.false_eq_true, if_false, if_true]
    unfold cmpI; rw [if_neg (by omega), if_pos (by omega)]
  · have h1 := fK_nan ha; have h2 := fK_nan hb
    simp only [if_true]
    unfold cmpI; rw [if_neg (by omega), if_neg (by omega)]

theorem cmpF_eq {a b : Nat} (ha : a < 18446744073709551616) (hb : b < 18446744073709551616) : cmpF a b = cmpI (fK a) (fK b) := by
  rw [← cmpR_eq]
  unfold cmpF cmpR cmpG
  rw [nanB_eq ha, nanB_eq hb, nanO_eq, nanO_eq]
  cases isN a <;> cases isN b <;> simp

/-! strings -/
theorem cb_range : ∀ (a b : List UInt8), Lib.compareBytes a b = -1 ∨ Lib.compareBytes a b = 0 ∨ Lib.compareBytes a b = 1
  | [], [] => by simp [Lib.compareBytes]
  | [], _ :: _ => by simp [Lib.compareBytes]
  | _ :: _, [] => by simp [Lib.compareBytes]
  | a :: x, b :: y => by
    unfold Lib.compareBytes
    split
    · simp
    · split
      · simp
      · exact cb_range x y

theorem cb_swap : ∀ (a b : List UInt8), Lib.compareBytes b a = 0 - Lib.compareBytes a b
  | [], [] => by simp [Lib.compareBytes]
  | [], _ :: _ => by simp [Lib.compareBytes]
  | _ :: _, [] => by simp [Lib.compareBytes]
  | a :: x, b :: y => by
    have ih := cb_swap x y
    simp only [Lib.compareBytes, UInt8.lt_iff_toNat_lt]
    by_cases h1 : a.toNat < b.toNat
    · have h2 : ¬ b.toNat < a.toNat := by omega
      simp [h1, h2]
    · by_cases h2 : b.toNat < a.toNat
      · simp [h1, h2]
      · simp [h1, h2, ih]

theorem cb_self (a : List UInt8) : Lib.compareBytes a a = 0 := by have := cb_swap a a; omega

theorem cb_trans : ∀ (a b c : List UInt8), Lib.compareBytes a b ≤ 0 → Lib.compareBytes b c ≤ 0 → Lib.compareBytes a c ≤ 0
  | [], _, [] => by simp [Lib.compareBytes]
  | [], _, _ :: _ => by simp [Lib.compareBytes]
  | _ :: _, [], _ => by simp [Lib.compareBytes]
  | _ :: _, _ :: _, [] => by simp [Lib.compareBytes]
  | a :: x, b :: y, c :: z => by
    have ih := cb_trans x y z
    simp only [Lib.compareBytes, UInt8.lt_iff_toNat_lt]
    intro h1 h2
    by_cases e1 : a.toNat < b.toNat
    · by_cases e2 : b.toNat < c.toNat
      · rw [if_pos (by omega)]; omega
      · by_cases e3 : c.toNat < b.toNat
        · rw [if_neg e2, if_pos e3] at h2; omega
        · rw [if_pos (by omega)]; omega
    · by_cases e1' : b.toNat < a.toNat
      · rw [if_neg e1, if_pos e1'] at h1; omega
      · rw [if_neg e1, if_neg e1'] at h1
        by_cases e2 : b.toNat < c.toNat
        · rw [if_pos (by omega)]; omega
        · by_cases e3 : c.toNat < b.toNat
          · rw [if_neg e2, if_pos e3] at h2; omega
          · rw [if_neg e2, if_neg e3] at h2
            rw [if_neg (by omega), if_neg (by omega)]
            exact ih h1 h2

theorem less_cb : ∀ (a b : List UInt8), Op.bytesLess a b = decide (Lib.compareBytes a b = -1)
  | [], [] => by simp [Op.bytesLess, Lib.compareBytes]
  | [], _ :: _ => by simp [Op.bytesLess, Lib.compareBytes]
  | _ :: _, [] => by simp [Op.bytesLess, Lib.compareBytes]
  | a :: x, b :: y => by
    have ih := less_cb x y
    simp only [Op.bytesLess, Lib.compareBytes, ih]
    by_cases h1 : a < b
    · simp [h1]
    · by_cases h2 : b < a
      · have h3 : ¬ a = b := fun e => by subst e; exact h1 h2
        simp [h1, h2, h3]
      · have h3 : a = b := by
          rw [UInt8.lt_iff_toNat_lt] at h1 h2
          exact UInt8.toNat_inj.1 (by omega)
        simp [h3]

theorem eq_cb : ∀ (a b : List UInt8), (a == b) = decide (Lib.compareBytes a b = 0)
  | [], [] => by simp [Lib.compareBytes]
  | [], _ :: _ => by simp [Lib.compareBytes]
  | _ :: _, [] => by simp [Lib.compareBytes]
  | a :: x, b :: y => by
    have ih := eq_cb x y
    simp only [Lib.compareBytes, List.cons_beq_cons, ih]
    by_cases h1 : a < b
    · have h3 : ¬ a = b := fun e => by subst e; exact absurd h1 (by simp)
      simp [h1, h3]
    · by_cases h2 : b < a
      · have h3 : ¬ a = b := fun e => by subst e; exact h1 h2
        simp [h1, h2, h3]
      · have h3 : a = b := by
          rw [UInt8.lt_iff_toNat_lt] at h1 h2
          exact UInt8.toNat_inj.1 (by omega)
        simp [h3]

theorem cmpS_eq (a b : ByteArray) : cmpS a b = Lib.compareBytes a.data.toList b.data.toList := by
  unfold cmpS
  rw [ByteArray.toList_eq, ByteArray.toList_eq, less_cb, eq_cb]
  rcases cb_range a.data.toList b.data.toList with h | h | h <;> simp [h]

/-! values -/
theorem cmpW_eq {f f' : Nat} (hf : f < 18446744073709551616) (hf' : f' < 18446744073709551616) (k n k' n' : Int) (s s' : ByteArray) : cmpW k n k' n' f f' s s' = cmpV k n k' n' f f' s s' := by
  unfold cmpW cmpV
  rw [cmpS_eq, cmpR_eq, cmpF_eq hf hf']

theorem cmpV_swap {f f' : Nat} (hf : f < 18446744073709551616) (hf' : f' < 18446744073709551616) (k n k' n' : Int) (s s' : ByteArray) : cmpV k' n' k n f' f s' s = 0 - cmpV k n k' n' f f' s s' := by
  unfold cmpV
  rw [cmpF_eq hf hf', cmpF_eq hf' hf, cmpI_swap n n', cmpI_swap (fK f) (fK f'), cb_swap s.data.toList, cmpI_swap k k']
  by_cases hk : k = k'
  · subst hk
    simp only [beq_self_eq_true, if_true]
    split
    · rfl
    · split
      · rfl
      · split <;> rfl
  · have h1 : (k == k') = false := by simp [hk]
    have h2 : (k' == k) = false := by simp; omega
    simp [h1, h2]

theorem cmpV_self {f : Nat} (hf : f < 18446744073709551616) (k n : Int) (s : ByteArray) : cmpV k n k n f f s s = 0 := by
  have := cmpV_swap hf hf k n k n s s
  omega

theorem cmpV_range {f f' : Nat} (hf : f < 18446744073709551616) (hf' : f' < 18446744073709551616) (k n k' n' : Int) (s s' : ByteArray) : cmpV k n k' n' f f' s s' = -1 ∨ cmpV k n k' n' f f' s s' = 0 ∨ cmpV k n k' n' f f' s s' = 1 := by
  unfold cmpV
  rw [cmpF_eq hf hf']
  split
  · split
    · exact cmpI_range _ _
    · split
      · exact cmpI_range _ _
      · split
        · exact cb_range _ _
        · simp
  · exact cmpI_range _ _

theorem cmpV_trans {f f' f'' : Nat} (hf : f < 18446744073709551616) (hf' : f' < 18446744073709551616) (hf'' : f'' < 18446744073709551616) (k n k' n' k'' n'' : Int) (s s' s'' : ByteArray)
    (h1 : cmpV k n k' n' f f' s s' ≤ 0) (h2 : cmpV k' n' k'' n'' f' f'' s' s'' ≤ 0) : cmpV k n k'' n'' f f'' s s'' ≤ 0 := by
  unfold cmpV at *
  rw [cmpF_eq hf hf'] at h1
  rw [cmpF_eq hf' hf''] at h2
  rw [cmpF_eq hf hf'']
  by_cases e1 : k = k'
  · subst e1
    simp only [beq_self_eq_true, if_true] at h1
    by_cases e2 : k = k''
    · subst e2
      simp only [beq_self_eq_true, if_true] at h2 ⊢
      split at h1
      · rename_i c; rw [if_pos c] at h2; rw [if_pos c]; rw [cmpI_le] at *; omega
      · rename_i c; rw [if_neg c] at h2; rw [if_neg c]
        split at h1
        · rename_i c; rw [if_pos c] at h2; rw [if_pos c]; rw [cmpI_le] at *; omega
        · rename_i c; rw [if_neg c] at h2; rw [if_neg c]
          split at h1
          · rename_i c; rw [if_pos c] at h2; rw [if_pos c]; exact cb_trans _ _ _ h1 h2
          · rename_i c; rw [if_neg c]; omega
    · have b : (k == k'') = false := by simp [e2]
      simp only [b, Bool.false_eq_true, if_false] at h2 ⊢
      exact h2
  · have b : (k == k') = false := by simp [e1]
    simp only [b, Bool.false_eq_true, if_false] at h1
    rw [cmpI_le] at h1
    by_cases e2 : k' = k''
    · subst e2
      simp only [b, Bool.false_eq_true, if_false]
      rw [cmpI_le]; omega
    · have b2 : (k' == k'') = false := by simp [e2]
      simp only [b2, Bool.false_eq_true, if_false] at h2
      rw [cmpI_le] at h2
      have b3 : (k == k'') = false := by simp; omega
      simp only [b3, Bool.false_eq_true, if_false]
      rw [cmpI_le]; omega

end Go.Proofs.YthbjheiogghjnaaGreatDoor

namespace Go.Proofs.YthbjheiogghjnaaGreatDoor
open Ieee
set_option maxRecDepth 100000

/-- is a float a nought, by its bits? -/
def zeroB (f : Nat) : Bool := bits .andNot .u64 (f : Int) 9223372036854775808 == 0
/-- a float as keys have it -/
def plainF (f : Nat) : Nat := if nanB f then 9221120237041090560 else if zeroB f then 0 else f
def pf (k : Int) (f : Nat) : Nat := if k == 3 then plainF f else f

theorem zeroB_mod {f : Nat} (hf : f < 18446744073709551616) : zeroB f = decide (f % 2 ^ 63 = 0) := by
  unfold zeroB
  have h := u64_andNot_nat f 9223372036854775808 hf (by decide)
  have e : (18446744073709551615 - 9223372036854775808 : Nat) = 2 ^ 63 - 1 := by decide
  rw [e, Nat.and_two_pow_sub_one_eq_mod] at h
  have h' : bits .andNot .u64 (f : Int) 9223372036854775808 = ((f % 2 ^ 63 : Nat) : Int) := h
  rw [h']
  rw [Bool.eq_iff_iff]
  simp only [beq_iff_eq, decide_eq_true_eq]
  omega

/-- a float's key is nought just where its bits but the sign are -/
theorem fK_nought {f : Nat} (hn : isN f = false) : fK f = 0 ↔ f % 2 ^ 63 = 0 := by
  have hp := big_pos
  have hn' := isN_iff f
  rw [hn] at hn'
  have hle : ¬ f % 2 ^ 63 > 9218868437227405312 := of_decide_eq_false hn'.symm
  unfold fK Format.read
  rw [leastPlace_eq, binade_eq, signWeight_eq, infRung_eq]
  dsimp only
  have key : ∀ (s : Bool) (m : Nat) (i : Int), dkey (.number s m i) = 0 ↔ m = 0 := by
    intro s m i
    have hz : m <<< (i + 1074).toNat = 0 ↔ m = 0 := by
      rw [shl_mul]
      constructor
      · intro h
        rcases Nat.mul_eq_zero.1 h with h | h
        · exact h
        · exact absurd h (Nat.ne_of_gt (Nat.two_pow_pos _))
      · rintro rfl; simp
    rw [← hz]
    cases s <;> simp only [dkey, signed, if_true, Bool.false_eq_true, if_false] <;> omega
  split
  · rw [key]
  · rename_i h1
    split
    · rw [key]
      have : (0 : Nat) < 2 ^ 52 := by decide
      constructor
      · intro h; omega
      · intro h; omega
    · split
      · rename_i h3
        constructor
        · intro h
          simp only [dkey] at h
          split at h <;> omega
        · intro h; omega
      · omega

theorem isN_plainNaN : isN 9221120237041090560 = true := by decide +kernel
theorem nanB_plainNaN : nanB 9221120237041090560 = true := by rw [nanB_eq (by decide)]; exact isN_plainNaN
theorem nanB_zero : nanB 0 = false := by rw [nanB_eq (by decide)]; decide +kernel
theorem zeroB_zero : zeroB 0 = true := by rw [zeroB_mod (by decide)]; decide
theorem isN_zero : isN 0 = false := by decide +kernel

theorem plainF_lt {f : Nat} (hf : f < 18446744073709551616) : plainF f < 18446744073709551616 := by
  unfold plainF
  split
  · decide
  · split
    · decide
    · exact hf

theorem plainF_idem (f : Nat) : plainF (plainF f) = plainF f := by
  cases h1 : nanB f
  · cases h2 : zeroB f
    · simp [plainF, h1, h2]
    · simp [plainF, h1, h2, nanB_zero]
  · simp [plainF, h1, nanB_plainNaN]
theorem pf_idem (k : Int) (f : Nat) : pf k (pf k f) = pf k f := by
  unfold pf
  split
  · exact plainF_idem f
  · rfl
theorem pf_lt {f : Nat} (hf : f < 18446744073709551616) (k : Int) : pf k f < 18446744073709551616 := by
  unfold pf
  split
  · exact plainF_lt hf
  · exact hf

theorem fK_plain {f : Nat} (hf : f < 18446744073709551616) : fK (plainF f) = fK f := by
  have h1 := nanB_eq hf
  unfold plainF
  cases hn : isN f
  · rw [h1, hn]
    simp only [Bool.false_eq_true, if_false]
    have h2 := zeroB_mod hf
    have h3 := fK_nought hn
    split
    · rename_i hz
      rw [hz] at h2
      have := of_decide_eq_true h2.symm
      rw [h3.2 this]
      decide +kernel
    · rfl
  · rw [h1, hn]
    simp only [if_true]
    rw [fK_nan hn, fK_nan isN_plainNaN]

theorem cmpV_plain {f : Nat} (hf : f < 18446744073709551616) (k n : Int) (s : ByteArray) : cmpV k n k n f (pf k f) s s = 0 := by
  by_cases hk : k = 3
  · subst hk
    have e : pf 3 f = plainF f := rfl
    rw [e]
    unfold cmpV
    simp only [beq_self_eq_true, if_true]
    rw [if_neg (by decide), cmpF_eq hf (plainF_lt hf), fK_plain hf]
    exact cmpI_self _
  · have e : pf k f = f := by simp [pf, hk]
    rw [e]
    exact cmpV_self hf k n s

theorem order_zero {f : Nat} (hn : isN f = false) (hf : f < 18446744073709551616) : (FloatKind.f64.format.order f 0 == some .eq) = zeroB f := by
  rw [order_fK hn isN_zero, zeroB_mod hf]
  have e : fK 0 = 0 := by decide +kernel
  rw [e]
  have h := fK_nought hn
  by_cases hz : f % 2 ^ 63 = 0
  · rw [h.2 hz]; simp [compare, compareOfLessAndEq, hz]
  · have h0 : ¬ fK f = 0 := fun h' => hz (h.1 h')
    have : compare (fK f) 0 ≠ Ordering.eq := by
      simp only [compare, compareOfLessAndEq]
      split
      · decide
      · simp
    simp [this, hz]

end Go.Proofs.YthbjheiogghjnaaGreatDoor
