/- Rows as bytes: varints, zigzag, pairs of bits. -/
import Derived.Test.YtljiokkdaelmpaaGreatDoorMCode2
namespace Go.Proofs.YtljiokkdaelmpaaGreatDoor
open Go.RowKit
set_option maxRecDepth 100000

/-- a number's varint, of k + 1 bytes at most -/
def varK : Nat → Nat → List UInt8
  | 0, n => [UInt8.ofNat n]
  | k + 1, n => if n < 128 then [UInt8.ofNat n] else UInt8.ofNat (n % 128 + 128) :: varK k (n / 128)
def varB (n : Nat) : List UInt8 := varK 9 n
theorem varK_small {k n : Nat} (h : n < 128) : varK k n = [UInt8.ofNat n] := by
  cases k with
  | zero => rfl
  | succ k => rw [varK, if_pos h]
theorem varK_big {k n : Nat} (h : ¬ n < 128) : varK (k + 1) n = UInt8.ofNat (n % 128 + 128) :: varK k (n / 128) := by rw [varK, if_neg h]
theorem varK_len : ∀ (k n : Nat), (varK k n).length ≤ k + 1
  | 0, _ => by simp [varK]
  | k + 1, n => by
    rw [varK]
    split
    · simp
    · have := varK_len k (n / 128)
      simp only [List.length_cons]
      omega
theorem varB_len (n : Nat) : (varB n).length ≤ 10 := varK_len 9 n
/-- zigzag of an int -/
def zig (n : Int) : Nat := if 0 ≤ n then (2 * n).toNat else (-2 * n - 1).toNat
theorem zig_lt {n : Int} (h1 : -9223372036854775808 ≤ n) (h2 : n ≤ 9223372036854775807) : zig n < 18446744073709551616 := by unfold zig; split <;> omega
/-- the two bits of a value -/
def pairN (v : Vl) : Nat := if v.k = 0 then 0 else if v.k = 1 ∧ v.n = 1 then 2 else 1
theorem pairN_lt (v : Vl) : pairN v < 3 := by unfold pairN; split <;> (try split) <;> omega
/-- eight bytes, the lowest first -/
def loB (f : Nat) (k : Nat) : List UInt8 := (List.range k).map fun i => UInt8.ofNat (f / 256 ^ i)
theorem loB_succ (f k : Nat) : loB f (k + 1) = loB f k ++ [UInt8.ofNat (f / 256 ^ k)] := by simp [loB, List.range_succ]
theorem loB_len (f k : Nat) : (loB f k).length = k := by simp [loB]
/-- what stands of a value behind the bits -/
def toldB (v : Vl) : List UInt8 := if v.k = 2 then varB (zig v.n) else if v.k = 3 then loB v.f 8 else if v.k = 4 ∨ v.k = 5 then varB v.s.size ++ v.s.data.toList else []
theorem toldB_len (v : Vl) : (toldB v).length ≤ 10 + v.s.size := by
  unfold toldB
  have := varB_len (zig v.n)
  have := varB_len v.s.size
  split
  · omega
  · split
    · rw [loB_len]; omega
    · split
      · simp; omega
      · simp
/-- the bits of the first j values, in n bytes -/
def packK (n : Nat) (l : List Vl) : Nat → List UInt8
  | 0 => List.replicate n 0
  | j + 1 => (packK n l j).modify (j / 4) fun b => match l[j]? with
    | some v => b ||| UInt8.ofNat (pairN v * 4 ^ (j % 4))
    | none => b
theorem packK_len (n : Nat) (l : List Vl) : ∀ j, (packK n l j).length = n
  | 0 => by simp [packK]
  | j + 1 => by simp [packK, packK_len n l j]
/-- a row's bytes -/
def rowB (l : List Vl) : List UInt8 := packK ((l.length + 3) / 4) l l.length ++ l.flatMap toldB
theorem packK_succ {n : Nat} {l : List Vl} {j : Nat} (hj : j < l.length) (hn : j / 4 < n) : packK n l (j + 1) = (packK n l j).set (j / 4) ((packK n l j)[j / 4]'(by rw [packK_len]; exact hn) ||| UInt8.ofNat (pairN l[j] * 4 ^ (j % 4))) := by
  rw [packK, List.getElem?_eq_getElem hj]
  apply List.ext_getElem (by simp)
  intro i h1 h2
  rw [List.getElem_modify, List.getElem_set]
  split
  · rename_i e
    subst e
    rfl
  · rfl
end Go.Proofs.YtljiokkdaelmpaaGreatDoor
