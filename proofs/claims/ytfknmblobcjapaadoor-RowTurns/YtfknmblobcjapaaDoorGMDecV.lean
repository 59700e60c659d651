/- Reading a value: what stands behind a pair of bits. The walks of readInt, readFloat, readString. -/
import Derived.Test.YtfknmblobcjapaaDoorGWLit
import Derived.Test.YtfknmblobcjapaaDoorGWREnc
import Derived.Test.YtfknmblobcjapaaDoorGWCln
namespace Go.Proofs.YtfknmblobcjapaaDoor
open Go.RowKit
set_option maxRecDepth 100000

/-- the number of the first bytes, the lowest first -/
def leN (s : ByteArray) : Nat → Nat
  | 0 => 0
  | j + 1 => leN s j + (s.data.toList.getD j 0).toNat * 256 ^ j
theorem leN_lt (s : ByteArray) : ∀ j, leN s j < 256 ^ j
  | 0 => by simp [leN]
  | j + 1 => by
    have h := leN_lt s j
    have h2 : (s.data.toList.getD j 0).toNat < 256 := UInt8.toNat_lt _
    have h3 : (s.data.toList.getD j 0).toNat * 256 ^ j ≤ 255 * 256 ^ j := Nat.mul_le_mul_right _ (by omega)
    rw [leN, Nat.pow_succ]
    omega
theorem leN_at (s : ByteArray) (j : Nat) (hj : j < s.size) : leN s (j + 1) = leN s j + s[j].toNat * 256 ^ j := by
  rw [leN]
  have e : s.data.toList.getD j 0 = s[j] := by
    have hj' : j < s.data.toList.length := by simpa using hj
    rw [List.getD_eq_getElem?_getD, List.getElem?_eq_getElem hj']
    rfl
  rw [e]
theorem pow256_two (j : Nat) : (2 : Nat) ^ (8 * j) = 256 ^ j := by rw [show (256 : Nat) = 2 ^ 8 from rfl, ← Nat.pow_mul]
theorem or_high8 {n p j : Nat} (hn : n < 256 ^ j) : n ||| p * 256 ^ j = n + p * 256 ^ j := by
  have h := Nat.shiftLeft_add_eq_or_of_lt (i := 8 * j) (b := n) (by rw [pow256_two]; exact hn) p
  rw [Nat.shiftLeft_eq, pow256_two] at h
  rw [Nat.or_comm, ← h, Nat.add_comm]

theorem rdK_le : ∀ (l : List UInt8) (i n : Nat), (rdK l i n).2 ≤ i + l.length
  | [], i, n => by simp [rdK]
  | c :: r, i, n => by
    unfold rdK
    have ih := rdK_le r (i + 1) (n + c.toNat % 128 * 128 ^ i)
    split
    · simp
    · split
      · split <;> simp
      · simp only [List.length_cons]
        omega
theorem rdV_le (s : ByteArray) : (rdV s).2 ≤ s.size := by
  have h := rdK_le s.data.toList 0 0
  unfold rdV
  simpa using h

/-- the value that stands there, and how many bytes it has behind its pair -/
def decV (kd : Int) (bt : Nat) (s : ByteArray) : Option (Vl × Nat) :=
  if bt = 0 then some (vNull, 0)
  else if kd = 1 ∧ bt < 3 then some (⟨1, (bt : Int) - 1, 0, ⟨#[]⟩⟩, 0)
  else if 1 < bt then none
  else if kd = 3 then (if s.size < 8 then none else some (vFlo (leN s 8), 8))
  else if (rdV s).2 = 0 then none
  else if kd = 2 then some (vInt (unz (rdV s).1), (rdV s).2)
  else if s.size - (rdV s).2 < (rdV s).1 then none
  else some (⟨kd, 0, 0, s.extract (rdV s).2 ((rdV s).2 + (rdV s).1)⟩, (rdV s).2 + (rdV s).1)
/-- the same where a column admits it -/
def decA (c : Cl) (bt : Nat) (s : ByteArray) : Option (Vl × Nat) := match decV c.kd bt s with
  | none => none
  | some p => if admE c p.1 = 0 then some p else none
/-- what a reader tells -/
def RdP (r : Option (Vl × Nat)) (w : World) (e : Ending) (w' : World) : Prop := ∃ (v : Vl) (k : Nat) (b : Bool), e = .returned (.tuple #[v.val, .int .i64 (k : Int), .bool b]) ∧ ((b = true ∧ r = some (v, k)) ∨ (b = false ∧ r = none)) ∧ Below w.heap.size w w'
theorem RdP.yes {r : Option (Vl × Nat)} {w w' : World} {e : Ending} (v : Vl) (k : Nat) (he : e = .returned (.tuple #[v.val, .int .i64 (k : Int), .bool true])) (h : r = some (v, k)) (hw : Below w.heap.size w w') : RdP r w e w' := ⟨v, k, true, he, .inl ⟨rfl, h⟩, hw⟩
theorem RdP.no {r : Option (Vl × Nat)} {w w' : World} {e : Ending} (v : Vl) (k : Nat) (he : e = .returned (.tuple #[v.val, .int .i64 (k : Int), .bool false])) (h : r = none) (hw : Below w.heap.size w w') : RdP r w e w' := ⟨v, k, false, he, .inr ⟨rfl, h⟩, hw⟩
theorem RdP.mk {r : Option (Vl × Nat)} {w w' : World} {e : Ending} (v : Vl) (k : Nat) (b : Bool) (he : e = .returned (.tuple #[v.val, .int .i64 (k : Int), .bool b])) (h : (b = true ∧ r = some (v, k)) ∨ (b = false ∧ r = none)) (hw : Below w.heap.size w w') : RdP r w e w' := ⟨v, k, b, he, h, hw⟩

end Go.Proofs.YtfknmblobcjapaaDoor

namespace Go.Proofs.YtfknmblobcjapaaDoor
open Go.RowKit
set_option maxRecDepth 100000

theorem set4 {w w3 : World} (h : Below w.heap.size w w3) (g : Nat) (hg : w.heap.size ≤ g) (v0 v1 v2 v3 : Value) : Below w.heap.size w ((((w3.setCell ⟨g, 0, none⟩ v0).setCell ⟨g, 1, none⟩ v1).setCell ⟨g, 2, none⟩ v2).setCell ⟨g, 3, none⟩ v3) :=
  (((h.setCell hg _).setCell hg _).setCell hg _).setCell hg _
theorem newV (w w3 : World) (o : Obj) (h : Below (w.alloc o).heap.size (w.alloc o) w3) : Below w.heap.size w w3 := ((Below.refl _ _).alloc (Nat.le_refl _) _).trans (h.mono (by simp))

set_option maxHeartbeats 4000000 in
theorem readInt_any (s : ByteArray) (w : World) (hs : s.size ≤ 140737488351232) :
    Calls Tryd.prog 47 #[.string s] w (RdP (if (rdV s).2 = 0 then none else some (vInt (unz (rdV s).1), (rdV s).2)) w) := by
  have hsf := run_store_float
  have HQ : Hid (∀ (n k : Nat) (b : Bool), ((b = true ∧ rdV s = (n, k) ∧ 0 < k) ∨ (b = false ∧ (rdV s).2 = 0)) → (b = true ∧ (if (rdV s).2 = 0 then none else some (vInt (unz (rdV s).1), (rdV s).2)) = some (vInt (unz n), k)) ∨ (b = false ∧ (if (rdV s).2 = 0 then none else some (vInt (unz (rdV s).1), (rdV s).2)) = none)) := by
    rintro n k b (⟨rfl, h1, h2⟩ | ⟨rfl, h1⟩)
    · rw [h1]
      exact .inl ⟨rfl, if_neg (by simp; omega)⟩
    · exact .inr ⟨rfl, if_pos h1⟩
  generalize (if (rdV s).2 = 0 then none else some (vInt (unz (rdV s).1), (rdV s).2)) = r at *
  have C1 : Hid (∀ w1, Calls _ _ _ _ _) := fun w1 => readVarint_any s w1 hs
  have C2 : Hid (∀ (n : Nat) w1, n < 18446744073709551616 → Calls _ _ _ _ _) := fun n w1 h => unzigzag_any n w1 h
  have C3 : Hid (∀ n w1, Calls _ _ _ _ _) := litInt_any
  go_enter Tryd.func47, Tryd.ntmps47
  go_wp2_with fail
  refine (C1.out _).mono ?_
  rintro e w1 ⟨n, k, b, rfl, hn, hr, hw⟩
  rw [hw]
  clear hw
  have HR : Hid _ := HQ.out n k b hr
  clear hr HQ
  go_wp2_with fail
  refine (C2.out n _ hn).mono ?_
  rintro e w2 ⟨rfl, hw⟩
  rw [hw]
  clear hw
  go_wp2_with fail
  refine (C3.out _ _).mono ?_
  rintro e w3 ⟨rfl, hb3⟩
  obtain ⟨⟨z0, z1, z2, z3⟩, y0, y1, y2, y3⟩ := vz w w3 _ rfl hb3
  go_wp2_with fail
  refine bodyPost_ret (v := .tuple #[(vInt (unz n)).val, .int .i64 (k : Int), .bool b]) (by simp [results, Tryd.results47, go_sem, z0, z1, z2, z3]) rfl ?_
  exact RdP.mk _ _ b rfl HR.out (set4 (newV w w3 _ hb3) _ (Nat.le_refl _) _ _ _ _)

theorem le8 {n c j : Nat} (hn : n < 256 ^ j) (hc : c < 256) (hj : j ≤ 7) : IntKind.u64.wrap ((c : Int) * 2 ^ (8 * (j : Int)).toNat) = ((c * 256 ^ j : Nat) : Int) ∧ n ||| c * 256 ^ j = n + c * 256 ^ j ∧ c * 256 ^ j < 18446744073709551616 ∧ n < 18446744073709551616 := by
  have hp : (256 : Nat) ^ j ≤ 256 ^ 7 := Nat.pow_le_pow_right (by decide) hj
  have h7 : (256 : Nat) ^ 7 = 72057594037927936 := by decide
  have hm : c * 256 ^ j ≤ 255 * 256 ^ j := Nat.mul_le_mul_right _ (by omega)
  refine ⟨?_, or_high8 hn, by omega, by omega⟩
  have e : (8 * (j : Int)).toNat = 8 * j := by omega
  have e2 : (c : Int) * 2 ^ (8 * j) = ((c * 256 ^ j : Nat) : Int) := by
    rw [← pow256_two]
    norm_cast
  rw [e, e2, IntKind.wrap_u64]
  omega

set_option maxHeartbeats 4000000 in
theorem readFloat_any (s : ByteArray) (w : World) (hs : s.size ≤ 140737488351232) :
    Calls Tryd.prog 48 #[.string s] w (RdP (if s.size < 8 then none else some (vFlo (leN s 8), 8)) w) := by
  have hsf := run_store_float
  by_cases h8 : s.size < 8
  · rw [if_pos h8]
    have h8' : (s.size : Int) < 8 := by omega
    go_enter Tryd.func48, Tryd.ntmps48
    go_wp2_with fail
    refine bodyPost_ret (v := .tuple #[vNull.val, .int .i64 ((0 : Nat) : Int), .bool false]) (by simp [results, Tryd.results48, go_sem, vNull]) rfl ?_
    exact RdP.no vNull 0 rfl rfl (by go_grown)
  · rw [if_neg h8]
    have C3 : Hid (∀ (n : Nat) w1, Calls _ _ _ _ _) := litBits_any
    have h8' : ¬ (s.size : Int) < 8 := by omega
    go_enter Tryd.func48, Tryd.ntmps48
    go_wp2_with fail
    go_loopw [5, 6, 11] (fun x _ k wr => ∃ j : Nat, j ≤ 8 ∧ k = .int .i64 (j : Int) ∧ x = .int .u64 ((leN s j : Nat) : Int) ∧ wr = w.alloc (.cells #[.int .i64 0, .int .i64 0, .float .f64 0, .string ⟨#[]⟩] 44)) (fun _ _ k _ => 8 - (intOf k).toNat)
    case atStart => exact ⟨0, Nat.zero_le _, by go_num, by go_num, rfl⟩
    case round =>
      obtain ⟨j, hj, rfl, rfl, rfl⟩ := hrel
      by_cases hj0 : j = 8
      · subst hj0
        generalize leN s 8 = n at *
        go_wp2_with fail
        refine (C3.out n _).mono ?_
        rintro e w3 ⟨rfl, hb3⟩
        obtain ⟨⟨z0, z1, z2, z3⟩, y0, y1, y2, y3⟩ := vz w w3 _ rfl hb3
        go_wp2_with fail
        refine bodyPost_ret (v := .tuple #[(vFlo n).val, .int .i64 ((8 : Nat) : Int), .bool true]) (by simp [results, Tryd.results48, go_sem, z0, z1, z2, z3]) rfl ?_
        exact RdP.yes (vFlo n) 8 rfl rfl (set4 (newV w w3 _ hb3) _ (Nat.le_refl _) _ _ _ _)
      · have hj1 : j < s.size := by omega
        have hix : ∀ w1 : World, (Instr.index 9 (.string s) (.int .i64 (j : Int))).run Tryd.prog w1 = .ok (.int .u8 (s[j].toNat : Int)) w1 := fun w1 => idx_at s j hj1 w1
        have HN : Hid (leN s (j + 1) = _) := leN_at s j hj1
        have hn := leN_lt s j
        have hc : s[j].toNat < 256 := s[j].toNat_lt
        generalize s[j].toNat = c at *
        obtain ⟨hsh, ho, hcl, hnl⟩ := le8 hn hc (by omega)
        have hor := bits_or64 (leN s j) (c * 256 ^ j) hnl hcl
        rw [ho] at hor
        generalize c * 256 ^ j = H at *
        generalize leN s j = n at *
        have hcw : IntKind.u64.wrap (c : Int) = (c : Int) := by rw [IntKind.wrap_u64]; omega
        clear ho hn
        go_wp2_with fail
        go_roundw
        case rel => exact ⟨j + 1, by omega, by go_num, by rw [HN.out]; norm_cast, trivial⟩
        case measure => simp [intOf]; omega

end Go.Proofs.YtfknmblobcjapaaDoor
