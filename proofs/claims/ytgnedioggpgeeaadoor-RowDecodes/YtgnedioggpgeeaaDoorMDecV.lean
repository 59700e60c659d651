/- Reading a value: what stands behind a pair of bits. -/
import Derived.Test.YtgnedioggpgeeaaDoorWLit
import Derived.Test.YtgnedioggpgeeaaDoorWREnc
import Derived.Test.YtgnedioggpgeeaaDoorWCln
namespace Go.Proofs.YtgnedioggpgeeaaDoor
open Go.RowKit
set_option maxRecDepth 100000

/-- the number of the first bytes, the lowest first -/
def leN (s : ByteArray) : Nat → Nat
  | 0 => 0
  | j + 1 => leN s j + (s.data.toList.getD j 0).toNat * 256 ^ j
theorem leN_lt (s : ByteArray) : ∀ j, leN s j < 256 ^ j
  | 0 => by simp [leN]
  | j + 1 => by
    have h := leN_lt s j
    have h2 : (s.data.toList.getD j 0).toNat < 256 := UInt8.toNat_lt _
    have h3 : (s.data.toList.getD j 0).toNat * 256 ^ j ≤ 255 * 256 ^ j := Nat.mul_le_mul_right _ (by omega)
    rw [leN, Nat.pow_succ]
    omega
theorem leN_at (s : ByteArray) (j : Nat) (hj : j < s.size) : leN s (j + 1) = leN s j + s[j].toNat * 256 ^ j := by
  rw [leN]
  have e : s.data.toList.getD j 0 = s[j] := by
    have hj' : j < s.data.toList.length := by simpa using hj
    rw [List.getD_eq_getElem?_getD, List.getElem?_eq_getElem hj']
    rfl
  rw [e]
theorem pow256_two (j : Nat) : (2 : Nat) ^ (8 * j) = 256 ^ j := by rw [show (256 : Nat) = 2 ^ 8 from rfl, ← Nat.pow_mul]
theorem or_high8 {n p j : Nat} (hn : n < 256 ^ j) : n ||| p * 256 ^ j = n + p * 256 ^ j := by
  have h := Nat.shiftLeft_add_eq_or_of_lt (i := 8 * j) (b := n) (by rw [pow256_two]; exact hn) p
  rw [Nat.shiftLeft_eq, pow256_two] at h
  rw [Nat.or_comm, ← h, Nat.add_comm]

theorem rdK_le : ∀ (l : List UInt8) (i n : Nat), (rdK l i n).2 ≤ i + l.length
  | [], i, n => by simp [rdK]
  | c :: r, i, n => by
    unfold rdK
    have ih := rdK_le r (i + 1) (n + c.toNat % 128 * 128 ^ i)
    split
    · simp
    · split
      · split <;> simp
      · simp only [List.length_cons]
        omega
theorem rdV_le (s : ByteArray) : (rdV s).2 ≤ s.size := by
  have h := rdK_le s.data.toList 0 0
  unfold rdV
  simpa using h

/-- the value that stands there, and how many bytes it has behind its pair -/
def decV (kd : Int) (bt : Nat) (s : ByteArray) : Option (Vl × Nat) :=
  if bt = 0 then some (vNull, 0)
  else if kd = 1 ∧ bt < 3 then some (⟨1, (bt : Int) - 1, 0, ⟨#[]⟩⟩, 0)
  else if 1 < bt then none
  else if kd = 3 then (if s.size < 8 then none else some (vFlo (leN s 8), 8))
  else if (rdV s).2 = 0 then none
  else if kd = 2 then some (vInt (unz (rdV s).1), (rdV s).2)
  else if s.size - (rdV s).2 < (rdV s).1 then none
  else some (⟨kd, 0, 0, s.extract (rdV s).2 ((rdV s).2 + (rdV s).1)⟩, (rdV s).2 + (rdV s).1)
/-- the same where a column admits it -/
def decA (c : Cl) (bt : Nat) (s : ByteArray) : Option (Vl × Nat) := match decV c.kd bt s with
  | none => none
  | some p => if admE c p.1 = 0 then some p else none
/-- what a reader tells -/
def RdP (r : Option (Vl × Nat)) (w : World) (e : Ending) (w' : World) : Prop := ∃ (v : Vl) (k : Nat) (b : Bool), e = .returned (.tuple #[v.val, .int .i64 (k : Int), .bool b]) ∧ ((b = true ∧ r = some (v, k)) ∨ (b = false ∧ r = none)) ∧ Below w.heap.size w w'
theorem RdP.yes {r : Option (Vl × Nat)} {w w' : World} {e : Ending} (v : Vl) (k : Nat) (he : e = .returned (.tuple #[v.val, .int .i64 (k : Int), .bool true])) (h : r = some (v, k)) (hw : Below w.heap.size w w') : RdP r w e w' := ⟨v, k, true, he, .inl ⟨rfl, h⟩, hw⟩
theorem RdP.no {r : Option (Vl × Nat)} {w w' : World} {e : Ending} (v : Vl) (k : Nat) (he : e = .returned (.tuple #[v.val, .int .i64 (k : Int), .bool false])) (h : r = none) (hw : Below w.heap.size w w') : RdP r w e w' := ⟨v, k, false, he, .inr ⟨rfl, h⟩, hw⟩
theorem RdP.mk {r : Option (Vl × Nat)} {w w' : World} {e : Ending} (v : Vl) (k : Nat) (b : Bool) (he : e = .returned (.tuple #[v.val, .int .i64 (k : Int), .bool b])) (h : (b = true ∧ r = some (v, k)) ∨ (b = false ∧ r = none)) (hw : Below w.heap.size w w') : RdP r w e w' := ⟨v, k, b, he, h, hw⟩
end Go.Proofs.YtgnedioggpgeeaaDoor
