/- The words in which the orders of values are said. Plain mathematics: floats by an integer key, strings by their bytes, the order of values. -/
import Derived.Laws.Cover2
import Derived.Laws.FloatArith
import Derived.Lib.Bytealg
import Derived.Laws.BitsAllLaws
import Derived.Lib.ValidU
namespace Go.Proofs.YthbjheiogghjnaaGreatDoor
open Go Ieee

/-- how two numbers stand -/
def cmpI (a b : Int) : Int := if a < b then -1 else if b < a then 1 else 0
/-- is a float a NaN, by its bits? -/
def nanB (f : Nat) : Bool := decide (bits .andNot .u64 (f : Int) 9223372036854775808 > 9218868437227405312)
/-- is a float a NaN, by its order? -/
def nanO (f : Nat) : Bool := FloatKind.f64.format.order f f != some .eq
def cmpO (a b : Nat) : Int := if FloatKind.f64.format.order a b == some .lt then -1 else if FloatKind.f64.format.order a b == some .gt then 1 else 0
/-- cmp.Compare of two floats -/
def cmpG (a b : Nat) : Int := if nanO a then (if nanO b then 0 else -1) else if nanO b then 1 else cmpO a b
/-- value.compareFloats -/
def cmpF (a b : Nat) : Int := if nanB a then (if nanB b then 0 else 1) else if nanB b then -1 else cmpG a b
/-- vellumref01.floats -/
def cmpR (a b : Nat) : Int := if nanO a then (if nanO b then 0 else 1) else if nanO b then -1 else cmpO a b
/-- vellumref01.Strings -/
def cmpS (a b : ByteArray) : Int := if Op.bytesLess a.toList b.toList then -1 else if (!Op.bytesLess a.toList b.toList && !(a.toList == b.toList)) then 1 else 0
/-- value.Compare -/
def cmpV (k n k' n' : Int) (f f' : Nat) (s s' : ByteArray) : Int :=
  if k == k' then (if k == 1 || k == 2 then cmpI n n' else if k == 3 then cmpF f f' else if k == 4 || k == 5 then Lib.compareBytes s.data.toList s'.data.toList else 0) else cmpI k k'
/-- vellumref01.Compare -/
def cmpW (k n k' n' : Int) (f f' : Nat) (s s' : ByteArray) : Int :=
  if k == k' then (if k == 1 || k == 2 then cmpI n n' else if k == 3 then cmpR f f' else if k == 4 || k == 5 then cmpS s s' else 0) else cmpI k k'
theorem beqF {a b : Int} (h : ¬ a = b) : (a == b) = false := by simp [h]
theorem bneT {a b : Int} (h : ¬ a = b) : (a != b) = true := by simp [h]

/-- value.Check, and what it is held against -/
def kindB (k : Int) : Bool := decide (0 ≤ k) && decide (k ≤ 5)
def numB (k n : Int) : Bool := if k == 2 then true else if k == 1 then ((n == 0) || (n == 1)) else (n == 0)
def floB (k : Int) (f : Nat) : Bool := (k == 3) || ((f : Int) == 0)
def strB (k : Int) (s : ByteArray) : Bool := if k == 5 then true else if k == 4 then Lib.validD s.data.toList else s.toList.isEmpty
def chkV (k n : Int) (f : Nat) (s : ByteArray) : Int :=
  if kindB k && numB k n && floB k f && strB k s then (if (65536 : Int) < (s.size : Int) then 3 else 0) else 10

end Go.Proofs.YthbjheiogghjnaaGreatDoor

namespace Go.Proofs.YthbjheiogghjnaaGreatDoor
open Ieee

theorem shl_mul (m a : Nat) : m <<< a = m * 2 ^ a := Nat.shiftLeft_eq m a
theorem signed_add (s : Bool) (m a c : Nat) : signed s m (a + c) = signed s m a * ((2 ^ c : Nat) : Int) := by
  unfold signed
  rw [shl_mul, shl_mul, Nat.pow_add, ← Nat.mul_assoc]
  cases s
  · simp
  · simp [Int.neg_mul]

theorem compare_mul (x y : Int) (c : Nat) : compare (x * ((2 ^ c : Nat) : Int)) (y * ((2 ^ c : Nat) : Int)) = compare x y := by
  have hp : (0 : Int) < ((2 ^ c : Nat) : Int) := by exact_mod_cast Nat.two_pow_pos c
  simp only [compare, compareOfLessAndEq]
  have h1 : x * ((2 ^ c : Nat) : Int) < y * ((2 ^ c : Nat) : Int) ↔ x < y := Int.mul_lt_mul_right hp
  have h2 : x * ((2 ^ c : Nat) : Int) = y * ((2 ^ c : Nat) : Int) ↔ x = y := ⟨fun h => Int.eq_of_mul_eq_mul_right (by omega) h, fun h => by rw [h]⟩
  simp only [h1, h2]

/-- numbers are compared at whatever place lies at or below both -/
theorem order_num (s t : Bool) (m n : Nat) (i j b : Int) (hi : b ≤ i) (hj : b ≤ j) :
    (Datum.number s m i).order (.number t n j) = some (compare (signed s m (i - b).toNat) (signed t n (j - b).toNat)) := by
  simp only [Datum.order]
  have e1 : (i - b).toNat = (i - min i j).toNat + (min i j - b).toNat := by omega
  have e2 : (j - b).toNat = (j - min i j).toNat + (min i j - b).toNat := by omega
  rw [e1, e2, signed_add, signed_add, compare_mul]

/-- greater than every finite float's key -/
def bigE : Nat := 2100
def bigN : Nat := 2 ^ bigE
def big : Int := (bigN : Int)
theorem mul_pow_lt {m a e b c : Nat} (h : m < 2 ^ a) (he : e ≤ b) (hc : a + b ≤ c) : m * 2 ^ e < 2 ^ c := by
  have ha : 2 ^ e ≤ 2 ^ b := Nat.pow_le_pow_right (by decide) he
  have hb : m * 2 ^ e ≤ m * 2 ^ b := Nat.mul_le_mul_left _ ha
  have hc' : m * 2 ^ b < 2 ^ a * 2 ^ b := Nat.mul_lt_mul_of_pos_right h (Nat.two_pow_pos _)
  rw [← Nat.pow_add] at hc'
  exact Nat.lt_of_le_of_lt hb (Nat.lt_of_lt_of_le hc' (Nat.pow_le_pow_right (by decide) hc))

/-- the key of a datum -/
def dkey : Datum → Int
  | .number s m i => signed s m (i + 1074).toNat
  | .infinity s => if s then -big else big
  | .nan _ _ => big + 1

theorem leastPlace_eq : double.leastPlace = -1074 := by decide
theorem binade_eq : double.binade = 2 ^ 52 := rfl
theorem signWeight_eq : double.signWeight = 2 ^ 63 := rfl
theorem infRung_eq : double.infRung = 9218868437227405312 := by decide

/-- what a float can be -/
def Shape : Datum → Prop
  | .number _ m i => -1074 ≤ i ∧ m < 2 ^ 53 ∧ i ≤ 971
  | _ => True

theorem shape (f : Nat) : Shape (double.read f) := by
  unfold Format.read
  rw [leastPlace_eq, binade_eq, signWeight_eq, infRung_eq]
  dsimp only
  split
  · rename_i h
    exact ⟨by omega, by omega, by omega⟩
  · split
    · rename_i h1 h2
      have hm : f % 2 ^ 63 % 2 ^ 52 < 2 ^ 52 := Nat.mod_lt _ (by decide)
      have hd : f % 2 ^ 63 / 2 ^ 52 ≤ 2046 := by
        have : f % 2 ^ 63 / 2 ^ 52 < 2047 := by
          rw [Nat.div_lt_iff_lt_mul (by decide)]
          omega
        omega
      exact ⟨by omega, by omega, by omega⟩
    · split
      · exact trivial
      · exact trivial

theorem key_bound {s : Bool} {m : Nat} {i : Int} (h1 : -1074 ≤ i) (h2 : m < 2 ^ 53) (h3 : i ≤ 971) : -big < signed s m (i + 1074).toNat ∧ signed s m (i + 1074).toNat < big := by
  have hlt : m <<< (i + 1074).toNat < bigN := by
    rw [shl_mul]
    exact mul_pow_lt (b := 2045) h2 (by omega) (by decide)
  have hl : ((m <<< (i + 1074).toNat : Nat) : Int) < big := Int.ofNat_lt.2 hlt
  unfold signed
  generalize m <<< (i + 1074).toNat = z at *
  cases s
  · simp only [Bool.false_eq_true, if_false]
    omega
  · simp only [if_true]
    omega

theorem big_pos : 0 < big := Int.ofNat_lt.2 (Nat.two_pow_pos bigE)

/-- two data that are no NaNs stand as their keys -/
theorem order_key {d e : Datum} (hd : Shape d) (he : Shape e) (nd : d.isNaN = false) (ne : e.isNaN = false) : d.order e = some (compare (dkey d) (dkey e)) := by
  have hp := big_pos
  have lt : ∀ {x y : Int}, x < y → compare x y = Ordering.lt := fun h => by simp [compare, compareOfLessAndEq, h]
  have gt : ∀ {x y : Int}, y < x → compare x y = Ordering.gt := fun {x y} h => by
    have h1 : ¬ x < y := by omega
    have h2 : ¬ x = y := by omega
    simp [compare, compareOfLessAndEq, h1, h2]
  have eqq : ∀ (x : Int), compare x x = Ordering.eq := fun x => by simp [compare, compareOfLessAndEq]
  cases d with
  | nan s t => simp [Datum.isNaN] at nd
  | infinity s =>
    cases e with
    | nan s t => simp [Datum.isNaN] at ne
    | infinity t =>
      cases s <;> cases t <;> simp only [Datum.order, dkey, if_true, Bool.false_eq_true, if_false]
      · rw [eqq]; rfl
      · rw [gt (by omega)]; rfl
      · rw [lt (by omega)]; rfl
      · rw [eqq]; rfl
    | number t n j =>
      obtain ⟨h1, h2, h3⟩ := he
      have hb := key_bound (s := t) h1 h2 h3
      cases s <;> simp only [Datum.order, dkey, if_true, Bool.false_eq_true, if_false]
      · rw [gt (by omega)]
      · rw [lt (by omega)]
  | number s m i =>
    obtain ⟨g1, g2, g3⟩ := hd
    have hb := key_bound (s := s) g1 g2 g3
    cases e with
    | nan s t => simp [Datum.isNaN] at ne
    | infinity t =>
      cases t <;> simp only [Datum.order, dkey, if_true, Bool.false_eq_true, if_false]
      · rw [lt (by omega)]
      · rw [gt (by omega)]
    | number t n j =>
      obtain ⟨h1, h2, h3⟩ := he
      rw [order_num s t m n i j (-1074) g1 h1]
      simp only [dkey, Int.sub_neg]

theorem nan_order {d e : Datum} (h : d.isNaN = true ∨ e.isNaN = true) : d.order e = none := by
  cases d <;> cases e <;> simp [Datum.isNaN, Datum.order] at *

def isN (f : Nat) : Bool := (double.read f).isNaN
/-- the key of a float's bits -/
def fK (f : Nat) : Int := dkey (double.read f)

theorem fK_nan {f : Nat} (h : isN f = true) : fK f = big + 1 := by
  unfold isN at h
  unfold fK
  cases hd : double.read f <;> simp [hd, Datum.isNaN, dkey] at *
theorem fK_num {f : Nat} (h : isN f = false) : -big ≤ fK f ∧ fK f ≤ big := by
  unfold isN at h
  unfold fK
  have hs := shape f
  have hp := big_pos
  generalize double.read f = d at *
  cases d with
  | nan s t => simp [Datum.isNaN] at h
  | infinity s => cases s <;> simp [dkey] <;> omega
  | number s m i =>
    obtain ⟨h1, h2, h3⟩ := hs
    have := key_bound (s := s) h1 h2 h3; simp only [dkey]; omega

theorem order_fK {a b : Nat} (ha : isN a = false) (hb : isN b = false) : FloatKind.f64.format.order a b = some (compare (fK a) (fK b)) := order_key (shape a) (shape b) ha hb
theorem order_nan {a b : Nat} (h : isN a = true ∨ isN b = true) : FloatKind.f64.format.order a b = none := nan_order h

end Go.Proofs.YthbjheiogghjnaaGreatDoor
