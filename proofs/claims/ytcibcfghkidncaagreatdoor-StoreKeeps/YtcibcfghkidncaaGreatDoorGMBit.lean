/- Words of bits: plain mathematics. -/
import Derived.Lib.TrailingZeros
namespace Go.Proofs.YtcibcfghkidncaaGreatDoor
open Go.Lib

def bitT (T:List Nat) (j:Nat):Bool := (T.getD (j / 64) 0).testBit (j % 64)
theorem bitT_at {T:List Nat} {i b:Nat} (hi:i < T.length) (hb:b < 64):bitT T (i * 64 + b) = T[i].testBit b := by
 unfold bitT
 rw [show (i * 64 + b) / 64 = i by omega,show (i * 64 + b) % 64 = b by omega,List.getD_eq_getElem?_getD,List.getElem?_eq_getElem hi]
 rfl
theorem bitT_out {T:List Nat} {j:Nat} (h:T.length * 64 ≤ j):bitT T j = false := by
 unfold bitT
 rw [List.getD_eq_getElem?_getD,List.getElem?_eq_none (by omega)]
 simp
theorem ctz_lt {x:Nat} (h0:x ≠ 0) (hx:x < 18446744073709551616):ctz 64 x < 64 ∧ x.testBit (ctz 64 x) = true ∧ ∀ j,j < ctz 64 x → x.testBit j = false := by
 unfold ctz
 rw [if_neg h0]
 obtain ⟨m,hm,hk⟩ := ctzFrom_spec 64 x (by omega) (by simpa using hx)
 generalize ctzFrom 64 x = k at *
 refine ⟨hk,?_,?_⟩
 ·rw [hm,Nat.testBit_two_pow_mul]
  simp
 ·intro j hj
  rw [hm,Nat.testBit_two_pow_mul]
  simp
  omega
theorem ctz_pos {x:Nat} (h0:x ≠ 0) (hx:x < 18446744073709551616):∃ m,x = 2 ^ ctz 64 x * (2 * m + 1) := by
 unfold ctz
 rw [if_neg h0]
 obtain ⟨m,hm,hk⟩ := ctzFrom_spec 64 x (by omega) (by simpa using hx)
 exact ⟨m,hm⟩
theorem low_off {x:Nat} (h0:x ≠ 0) (hx:x < 18446744073709551616) (j:Nat):(x &&& (x - 1)).testBit j = (x.testBit j && decide (j ≠ ctz 64 x)) := by
 obtain ⟨m,hm⟩ := ctz_pos h0 hx
 generalize ctz 64 x = k at *
 have h1:x - 1 = 2 ^ k * (2 * m) + (2 ^ k - 1) := by
  have:0 < 2 ^ k := Nat.two_pow_pos k
  rw [hm,Nat.mul_add]
  omega
 have hlt:2 ^ k - 1 < 2 ^ k := by have := Nat.two_pow_pos k; omega
 rw [Nat.testBit_and,h1,Nat.testBit_two_pow_mul_add _ hlt]
 rcases Nat.lt_trichotomy j k with h | rfl | h
 ·have e:x.testBit j = false := by
   rw [hm,Nat.testBit_two_pow_mul]
   simp
   omega
  rw [e]
  simp
 ·rw [if_neg (by omega),Nat.sub_self]
  simp
 ·rw [if_neg (by omega)]
  have e:(2 * m).testBit (j - k) = x.testBit j := by
   rw [hm,Nat.testBit_two_pow_mul]
   obtain ⟨d,hd⟩:∃ d,j - k = d + 1 := ⟨j - k - 1,by omega⟩
   rw [hd,Nat.testBit_succ,Nat.testBit_succ,show (2 * m) / 2 = m by omega,show (2 * m + 1) / 2 = m by omega]
   simp
   omega
  rw [e]
  simp
  omega
theorem low_lt {x:Nat} (h0:x ≠ 0):x &&& (x - 1) < x := by
 have:x &&& (x - 1) ≤ x - 1 := Nat.and_le_right
 omega
theorem not_bit {x:Nat} (hx:x < 18446744073709551616) {j:Nat} (hj:j < 64):(18446744073709551615 - x).testBit j = !x.testBit j := by
 have h := Nat.testBit_two_pow_sub_succ (x := x) (n := 64) (by simpa using hx) j
 rw [show (2:Nat) ^ 64 - (x + 1) = 18446744073709551615 - x by omega] at h
 rw [h,decide_eq_true hj]
 rfl
def slotsT (T:List Nat) (N:Nat):List Nat := (List.range N).filter (bitT T)
theorem slots_one {T:List Nat} {N:Nat} (h:bitT T N = true):slotsT T (N + 1) = slotsT T N ++ [N] := by
 unfold slotsT
 rw [List.range_succ,List.filter_append]
 simp [h]
theorem slots_no {T:List Nat} {N:Nat} (h:bitT T N = false):slotsT T (N + 1) = slotsT T N := by
 unfold slotsT
 rw [List.range_succ,List.filter_append]
 simp [h]
theorem slots_skip {T:List Nat} {M:Nat}:∀ d,(∀ b,M ≤ b → b < M + d → bitT T b = false) → slotsT T (M + d) = slotsT T M
 | 0,_ => rfl
 | d + 1,h => by
  rw [show M + (d + 1) = M + d + 1 by omega,slots_no (h (M + d) (by omega) (by omega))]
  exact slots_skip d (fun b h1 h2 => h b h1 (by omega))
theorem slots_len (T:List Nat) (N:Nat):(slotsT T N).length ≤ N := by
 unfold slotsT
 exact Nat.le_trans (List.length_filter_le _ _) (by simp)
def onT (T:List Nat) (s:Nat):List Nat := T.set (s / 64) (T.getD (s / 64) 0 ||| 2 ^ (s % 64))
def offT (T:List Nat) (s:Nat):List Nat := T.set (s / 64) (T.getD (s / 64) 0 &&& (18446744073709551615 - 2 ^ (s % 64)))
theorem onT_bit {T:List Nat} {s:Nat} (hs:s / 64 < T.length) (j:Nat):bitT (onT T s) j = (decide (j = s) || bitT T j) := by
 unfold bitT onT
 simp only [List.getD_eq_getElem?_getD]
 by_cases h:j / 64 = s / 64
 ·rw [h,List.getElem?_set_self hs,List.getElem?_eq_getElem hs]
  simp only [Option.getD_some,Nat.testBit_or,Nat.testBit_two_pow]
  by_cases e:j = s
  ·subst e
   simp
  ·have:s % 64 ≠ j % 64 := by omega
   simp [this,e]
 ·rw [List.getElem?_set_ne (by omega)]
  have e:j ≠ s := fun e => h (by rw [e])
  simp [e]
theorem offT_bit {T:List Nat} {s:Nat} (hs:s / 64 < T.length) (j:Nat):bitT (offT T s) j = (decide (j ≠ s) && bitT T j) := by
 unfold bitT offT
 simp only [List.getD_eq_getElem?_getD]
 have hp:(2:Nat) ^ (s % 64) < 18446744073709551616 := by
  have := Nat.pow_lt_pow_right (a := 2) (by decide) (show s % 64 < 64 by omega)
  simpa using this
 by_cases h:j / 64 = s / 64
 ·rw [h,List.getElem?_set_self hs,List.getElem?_eq_getElem hs]
  simp only [Option.getD_some,Nat.testBit_and,not_bit hp (show j % 64 < 64 by omega),Nat.testBit_two_pow]
  by_cases e:j = s
  ·subst e
   simp
  ·have:s % 64 ≠ j % 64 := by omega
   simp [this,e]
 ·rw [List.getElem?_set_ne (by omega)]
  have e:j ≠ s := fun e => h (by rw [e])
  simp [e]
theorem bitT_app (T:List Nat) (j:Nat):bitT (T ++ [0]) j = bitT T j := by
 unfold bitT
 simp only [List.getD_eq_getElem?_getD]
 rcases Nat.lt_trichotomy (j / 64) T.length with h | h | h
 ·rw [List.getElem?_append_left h]
 ·rw [List.getElem?_append_right (by omega),h]
  simp
 ·rw [List.getElem?_append_right (by omega),List.getElem?_eq_none (by simp; omega),List.getElem?_eq_none (by omega)]

end Go.Proofs.YtcibcfghkidncaaGreatDoor
