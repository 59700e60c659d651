/- Plain mathematics: a float as keys have it. -/
import Derived.Test.YtljiokkdaelmpaaGreatDoorMVal
namespace Go.Proofs.YtljiokkdaelmpaaGreatDoor
open Ieee
set_option maxRecDepth 100000

/-- is a float a nought, by its bits? -/
def zeroB (f : Nat) : Bool := bits .andNot .u64 (f : Int) 9223372036854775808 == 0
/-- a float as keys have it -/
def plainF (f : Nat) : Nat := if nanB f then 9221120237041090560 else if zeroB f then 0 else f
def pf (k : Int) (f : Nat) : Nat := if k == 3 then plainF f else f

theorem zeroB_mod {f : Nat} (hf : f < 18446744073709551616) : zeroB f = decide (f % 2 ^ 63 = 0) := by
  unfold zeroB
  have h := u64_andNot_nat f 9223372036854775808 hf (by decide)
  have e : (18446744073709551615 - 9223372036854775808 : Nat) = 2 ^ 63 - 1 := by decide
  rw [e, Nat.and_two_pow_sub_one_eq_mod] at h
  have h' : bits .andNot .u64 (f : Int) 9223372036854775808 = ((f % 2 ^ 63 : Nat) : Int) := h
  rw [h']
  rw [Bool.eq_iff_iff]
  simp only [beq_iff_eq, decide_eq_true_eq]
  omega

/-- a float's key is nought just where its bits but the sign are -/
theorem fK_nought {f : Nat} (hn : isN f = false) : fK f = 0 ↔ f % 2 ^ 63 = 0 := by
  have hp := big_pos
  have hn' := isN_iff f
  rw [hn] at hn'
  have hle : ¬ f % 2 ^ 63 > 9218868437227405312 := of_decide_eq_false hn'.symm
  unfold fK Format.read
  rw [leastPlace_eq, binade_eq, signWeight_eq, infRung_eq]
  dsimp only
  have key : ∀ (s : Bool) (m : Nat) (i : Int), dkey (.number s m i) = 0 ↔ m = 0 := by
    intro s m i
    have hz : m <<< (i + 1074).toNat = 0 ↔ m = 0 := by
      rw [shl_mul]
      constructor
      · intro h
        rcases Nat.mul_eq_zero.1 h with h | h
        · exact h
        · exact absurd h (Nat.ne_of_gt (Nat.two_pow_pos _))
      · rintro rfl; simp
    rw [← hz]
    cases s <;> simp only [dkey, signed, if_true, Bool.false_eq_true, if_false] <;> omega
  split
  · rw [key]
  · rename_i h1
    split
    · rw [key]
      have : (0 : Nat) < 2 ^ 52 := by decide
      constructor
      · intro h; omega
      · intro h; omega
    · split
      · rename_i h3
        constructor
        · intro h
          simp only [dkey] at h
          split at h <;> omega
        · intro h; omega
      · omega

theorem isN_plainNaN : isN 9221120237041090560 = true := by decide +kernel
theorem nanB_plainNaN : nanB 9221120237041090560 = true := by rw [nanB_eq (by decide)]; exact isN_plainNaN
theorem nanB_zero : nanB 0 = false := by rw [nanB_eq (by decide)]; decide +kernel
theorem zeroB_zero : zeroB 0 = true := by rw [zeroB_mod (by decide)]; decide
theorem isN_zero : isN 0 = false := by decide +kernel

theorem plainF_lt {f : Nat} (hf : f < 18446744073709551616) : plainF f < 18446744073709551616 := by
  unfold plainF
  split
  · decide
  · split
    · decide
    · exact hf

theorem plainF_idem (f : Nat) : plainF (plainF f) = plainF f := by
  cases h1 : nanB f
  · cases h2 : zeroB f
    · simp [plainF, h1, h2]
    · simp [plainF, h1, h2, nanB_zero]
  · simp [plainF, h1, nanB_plainNaN]
theorem pf_idem (k : Int) (f : Nat) : pf k (pf k f) = pf k f := by
  unfold pf
  split
  · exact plainF_idem f
  · rfl
theorem pf_lt {f : Nat} (hf : f < 18446744073709551616) (k : Int) : pf k f < 18446744073709551616 := by
  unfold pf
  split
  · exact plainF_lt hf
  · exact hf

theorem fK_plain {f : Nat} (hf : f < 18446744073709551616) : fK (plainF f) = fK f := by
  have h1 := nanB_eq hf
  unfold plainF
  cases hn : isN f
  · rw [h1, hn]
    simp only [Bool.false_eq_true, if_false]
    have h2 := zeroB_mod hf
    have h3 := fK_nought hn
    split
    · rename_i hz
      rw [hz] at h2
      have := of_decide_eq_true h2.symm
      rw [h3.2 this]
      decide +kernel
    · rfl
  · rw [h1, hn]
    simp only [if_true]
    rw [fK_nan hn, fK_nan isN_plainNaN]

theorem cmpV_plain {f : Nat} (hf : f < 18446744073709551616) (k n : Int) (s : ByteArray) : cmpV k n k n f (pf k f) s s = 0 := by
  by_cases hk : k = 3
  · subst hk
    have e : pf 3 f = plainF f := rfl
    rw [e]
    unfold cmpV
    simp only [beq_self_eq_true, if_true]
    rw [if_neg (by decide), cmpF_eq hf (plainF_lt hf), fK_plain hf]
    exact cmpI_self _
  · have e : pf k f = f := by simp [pf, hk]
    rw [e]
    exact cmpV_self hf k n s

theorem order_zero {f : Nat} (hn : isN f = false) (hf : f < 18446744073709551616) : (FloatKind.f64.format.order f 0 == some .eq) = zeroB f := by
  rw [order_fK hn isN_zero, zeroB_mod hf]
  have e : fK 0 = 0 := by decide +kernel
  rw [e]
  have h := fK_nought hn
  by_cases hz : f % 2 ^ 63 = 0
  · rw [h.2 hz]; simp [compare, compareOfLessAndEq, hz]
  · have h0 : ¬ fK f = 0 := fun h' => hz (h.1 h')
    have : compare (fK f) 0 ≠ Ordering.eq := by
      simp only [compare, compareOfLessAndEq]
      split
      · decide
      · simp
    simp [this, hz]
end Go.Proofs.YtljiokkdaelmpaaGreatDoor
