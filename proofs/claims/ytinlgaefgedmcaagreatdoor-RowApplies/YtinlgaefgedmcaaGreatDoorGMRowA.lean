/- Reading a row: what readRow and values answer. Small laws for the walks of rows that are read. -/
import Derived.Laws.MakeOwn
import Derived.Test.YtinlgaefgedmcaaGreatDoorGWRdD
namespace Go.Proofs.YtinlgaefgedmcaaGreatDoor
open Go.RowKit
set_option maxRecDepth 100000

def zV : Vl := ⟨0, 0, 0, ⟨#[]⟩⟩
theorem made_cells (n : Nat) : (madeCells #[.int .i64 0, .int .i64 0, .float .f64 0, .string ⟨#[]⟩] (n * 4)).toList = vcells (List.replicate n zV) := by
  apply List.ext_getElem?
  intro j
  by_cases hj : j < n * 4
  · have e := vcell_at (List.replicate n zV) (j / 4) (by simp; omega) (j % 4) (Nat.mod_lt _ (by decide))
    have e2 : j / 4 * 4 + j % 4 = j := by omega
    rw [e2] at e
    rw [e]
    have h4 : j % 4 = 0 ∨ j % 4 = 1 ∨ j % 4 = 2 ∨ j % 4 = 3 := by omega
    rcases h4 with h | h | h | h <;> simp [madeCells, hj, h, vcell, zV]
  · rw [List.getElem?_eq_none (by simp [madeCells]; omega), List.getElem?_eq_none (by rw [vcells_len]; simp; omega)]
theorem OwnV.rowG {w : World} {B g n cap : Nat} {L : List Vl} (h : OwnV w B (.slice (some ⟨g, 0, none⟩) n cap) L) : RowV w w.heap.size (some ⟨g, 0, none⟩) L := by
  obtain ⟨p, c, e, hr⟩ := h.row
  injection e with e1 _ _
  rw [e1]
  exact hr

theorem unz_in (n : Nat) (h : n < 18446744073709551616) : -9223372036854775808 ≤ unz n ∧ unz n ≤ 9223372036854775807 := by unfold unz; split <;> omega
theorem rdK_lt : ∀ (l : List UInt8) (i n : Nat), i ≤ 9 → n < 128 ^ i → (rdK l i n).1 < 18446744073709551616
  | [], i, n, _, _ => by simp [rdK]
  | c :: r, i, n, hi, hn => by
    unfold rdK
    rw [if_neg (by omega)]
    have hp : (128 : Nat) ^ i ≤ 128 ^ 9 := Nat.pow_le_pow_right (by decide) hi
    have h9 : (128 : Nat) ^ 9 = 9223372036854775808 := by decide
    have hc := c.toNat_lt
    by_cases h1 : c.toNat < 128
    · rw [if_pos h1]
      by_cases h2 : (i = 9 ∧ 1 < c.toNat) ∨ (0 < i ∧ c.toNat = 0)
      · rw [if_pos h2]; decide
      · rw [if_neg h2]
        dsimp only
        by_cases h3 : i = 9
        · subst h3
          have : c.toNat ≤ 1 := by omega
          have hm : c.toNat * 128 ^ 9 ≤ 1 * 128 ^ 9 := Nat.mul_le_mul_right _ this
          omega
        · have hp8 : (128 : Nat) ^ i ≤ 128 ^ 8 := Nat.pow_le_pow_right (by decide) (by omega)
          have h8 : (128 : Nat) ^ 8 = 72057594037927936 := by decide
          have hm : c.toNat * 128 ^ i ≤ 127 * 128 ^ i := Nat.mul_le_mul_right _ (by omega)
          omega
    · rw [if_neg h1]
      by_cases h3 : i = 9
      · subst h3
        rw [rdK_ten]
        decide
      · refine rdK_lt r (i + 1) _ (by omega) ?_
        have hm : c.toNat % 128 * 128 ^ i ≤ 127 * 128 ^ i := Nat.mul_le_mul_right _ (by omega)
        rw [Nat.pow_succ]
        omega
theorem rdV_lt (s : ByteArray) : (rdV s).1 < 18446744073709551616 := rdK_lt _ 0 0 (by decide) (by decide)

theorem decV_ok {kd : Int} {bt : Nat} {s : ByteArray} {v : Vl} {k : Nat} (h : decV kd bt s = some (v, k)) (hk1 : 1 ≤ kd) (hk5 : kd ≤ 5) (hs : s.size ≤ 65536) (hbt : bt ≤ 3) : v.ok ∧ k ≤ s.size := by
  have hle := rdV_le s
  have hlt := rdV_lt s
  have e0 : ByteArray.size ⟨#[]⟩ = 0 := rfl
  unfold decV at h
  by_cases h0 : bt = 0
  · rw [if_pos h0] at h
    injection h with h
    injection h with h1 h2
    subst h1 h2
    exact ⟨⟨by decide, by decide, by decide, by decide⟩, Nat.zero_le _⟩
  rw [if_neg h0] at h
  by_cases h1 : kd = 1 ∧ bt < 3
  · rw [if_pos h1] at h
    injection h with h
    injection h with h1 h2
    subst h1 h2
    exact ⟨⟨⟨by dsimp only; omega, by dsimp only; omega⟩, ⟨by dsimp only; omega, by dsimp only; omega⟩, by dsimp only; omega, by dsimp only; omega⟩, Nat.zero_le _⟩
  rw [if_neg h1] at h
  by_cases h2 : 1 < bt
  · rw [if_pos h2] at h
    cases h
  rw [if_neg h2] at h
  by_cases h3 : kd = 3
  · rw [if_pos h3] at h
    by_cases h4 : s.size < 8
    · rw [if_pos h4] at h
      cases h
    · rw [if_neg h4] at h
      injection h with h
      injection h with h1 h2
      subst h1 h2
      have hl := leN_lt s 8
      have h8 : (256 : Nat) ^ 8 = 18446744073709551616 := by decide
      exact ⟨⟨⟨by unfold vFlo; dsimp only; omega, by unfold vFlo; dsimp only; omega⟩, ⟨by unfold vFlo; dsimp only; omega, by unfold vFlo; dsimp only; omega⟩, by unfold vFlo; dsimp only; omega, by unfold vFlo; dsimp only; omega⟩, by omega⟩
  rw [if_neg h3] at h
  by_cases h4 : (rdV s).2 = 0
  · rw [if_pos h4] at h
    cases h
  rw [if_neg h4] at h
  by_cases h5 : kd = 2
  · rw [if_pos h5] at h
    injection h with h
    injection h with h1 h2
    subst h1 h2
    have hu := unz_in _ hlt
    exact ⟨⟨⟨by unfold vInt; dsimp only; omega, by unfold vInt; dsimp only; omega⟩, hu, by unfold vInt; dsimp only; omega, by unfold vInt; dsimp only; omega⟩, hle⟩
  rw [if_neg h5] at h
  by_cases h6 : s.size - (rdV s).2 < (rdV s).1
  · rw [if_pos h6] at h
    cases h
  · rw [if_neg h6] at h
    injection h with h
    injection h with h1 h2
    subst h1 h2
    exact ⟨⟨⟨by dsimp only; omega, by dsimp only; omega⟩, ⟨by dsimp only; omega, by dsimp only; omega⟩, by dsimp only; omega, by dsimp only; rw [ByteArray.size_extract]; omega⟩, by omega⟩
theorem decA_some {c : Cl} {bt : Nat} {s : ByteArray} {p : Vl × Nat} (h : decA c bt s = some p) : decV c.kd bt s = some p ∧ admE c p.1 = 0 := by
  unfold decA at h
  cases hd : decV c.kd bt s with
  | none => rw [hd] at h; cases h
  | some q =>
    rw [hd] at h
    dsimp only at h
    by_cases ha : admE c q.1 = 0
    · rw [if_pos ha] at h
      injection h with h
      subst h
      exact ⟨rfl, ha⟩
    · rw [if_neg ha] at h
      cases h
theorem decA_none {c : Cl} {bt : Nat} {s : ByteArray} (h : decA c bt s = none) : decV c.kd bt s = none ∨ ∃ p, decV c.kd bt s = some p ∧ admE c p.1 ≠ 0 := by
  unfold decA at h
  cases hd : decV c.kd bt s with
  | none => exact .inl rfl
  | some q =>
    rw [hd] at h
    dsimp only at h
    by_cases ha : admE c q.1 = 0
    · rw [if_pos ha] at h
      cases h
    · exact .inr ⟨q, rfl, ha⟩

/-- the values of columns, one behind the other -/
def rowA (s : ByteArray) : List Cl → Nat → Nat → Option (List Vl × Nat)
  | [], _, k => some ([], k)
  | c :: r, i, k => match decA c (pairB s i) (s.extract k s.size) with
    | none => none
    | some p => match rowA s r (i + 1) (k + p.2) with
      | none => none
      | some q => some (p.1 :: q.1, q.2)
/-- the same, whatever the columns admit -/
def rowK (s : ByteArray) : List Int → Nat → Nat → Option (List Vl × Nat)
  | [], _, k => some ([], k)
  | c :: r, i, k => match decV c (pairB s i) (s.extract k s.size) with
    | none => none
    | some p => match rowK s r (i + 1) (k + p.2) with
      | none => none
      | some q => some (p.1 :: q.1, q.2)
/-- values put ahead -/
def ahd (V : List Vl) (o : Option (List Vl × Nat)) : Option (List Vl × Nat) := match o with
  | none => none
  | some q => some (V ++ q.1, q.2)
theorem ahd_nil (o : Option (List Vl × Nat)) : ahd [] o = o := by cases o <;> rfl
theorem rowA_at {s : ByteArray} {cs : List Cl} {j k : Nat} {V : List Vl} (hj : j < cs.length) : ahd V (rowA s (cs.drop j) j k) = match decA cs[j] (pairB s j) (s.extract k s.size) with
    | none => none
    | some p => ahd (V ++ [p.1]) (rowA s (cs.drop (j + 1)) (j + 1) (k + p.2)) := by
  rw [List.drop_eq_getElem_cons hj]
  conv => lhs; unfold rowA
  cases decA cs[j] (pairB s j) (s.extract k s.size) with
  | none => rfl
  | some p =>
    dsimp only
    cases rowA s (cs.drop (j + 1)) (j + 1) (k + p.2) with
    | none => rfl
    | some q => simp [ahd]
theorem rowK_at {s : ByteArray} {cs : List Int} {j k : Nat} {V : List Vl} (hj : j < cs.length) : ahd V (rowK s (cs.drop j) j k) = match decV cs[j] (pairB s j) (s.extract k s.size) with
    | none => none
    | some p => ahd (V ++ [p.1]) (rowK s (cs.drop (j + 1)) (j + 1) (k + p.2)) := by
  rw [List.drop_eq_getElem_cons hj]
  conv => lhs; unfold rowK
  cases decV cs[j] (pairB s j) (s.extract k s.size) with
  | none => rfl
  | some p =>
    dsimp only
    cases rowK s (cs.drop (j + 1)) (j + 1) (k + p.2) with
    | none => rfl
    | some q => simp [ahd]
theorem put_set (V : List Vl) (v : Vl) (m : Nat) : (V ++ List.replicate (m + 1) zV).set V.length v = (V ++ [v]) ++ List.replicate m zV := by
  rw [List.replicate_succ]
  simp

/-- what readRow tells -/
def rowR (cs : List Cl) (s : ByteArray) : Option (List Vl × Nat) := if s.size < (cs.length + 3) / 4 then none else if spB s cs.length (4 * ((cs.length + 3) / 4)) then rowA s cs 0 ((cs.length + 3) / 4) else none
def RowP (r : Option (List Vl × Nat)) (w : World) (e : Ending) (w' : World) : Prop := ∃ (v : Value) (k : Nat) (b : Bool), e = .returned (.tuple #[v, .int .i64 (k : Int), .bool b]) ∧ ((b = true ∧ ∃ L, r = some (L, k) ∧ OwnV w' w.heap.size v L) ∨ (b = false ∧ r = none)) ∧ Below w.heap.size w w'

end Go.Proofs.YtinlgaefgedmcaaGreatDoor

namespace Go.Proofs.YtinlgaefgedmcaaGreatDoor
open Go.RowKit
set_option maxRecDepth 100000

theorem slice_from (s : ByteArray) (k : Nat) (h : k ≤ s.size) (w : World) : (Instr.slice 9 (.string s) (some (.int .i64 (k : Int))) none none).run Tryz.prog w = .ok (.string (s.extract k s.size)) w := by
  rw [run_slice_string_from_if w 9 s .i64 (k : Int) Tryz.underlying9, if_pos ⟨by omega, by omega⟩]
  rfl
theorem slice_to (s : ByteArray) (k : Nat) (h : k ≤ s.size) (w : World) : (Instr.slice 9 (.string s) none (some (.int .i64 (k : Int))) none).run Tryz.prog w = .ok (.string (s.extract 0 k)) w := by
  rw [run_slice_string_to_if w 9 s .i64 (k : Int) Tryz.underlying9, if_pos ⟨by omega, by omega⟩]
  rfl
theorem vzD (w w1 : World) (o : Obj) (ho : o = .cells #[.int .i64 0, .int .i64 0, .float .f64 0, .string ⟨#[]⟩] 39) (hb : Below (w.drew.alloc o).heap.size (w.drew.alloc o) w1) :
    (w1.cell? ⟨w.heap.size, 0, none⟩ = some (.int .i64 0) ∧ w1.cell? ⟨w.heap.size, 1, none⟩ = some (.int .i64 0) ∧ w1.cell? ⟨w.heap.size, 2, none⟩ = some (.float .f64 0) ∧ w1.cell? ⟨w.heap.size, 3, none⟩ = some (.string ⟨#[]⟩)) ∧
    (w1.frozen? ⟨w.heap.size, 0, none⟩ = false ∧ w1.frozen? ⟨w.heap.size, 1, none⟩ = false ∧ w1.frozen? ⟨w.heap.size, 2, none⟩ = false ∧ w1.frozen? ⟨w.heap.size, 3, none⟩ = false) ∧ w.heap.size < w1.heap.size := by
  have h := vz w.drew w1 o ho hb
  have h2 := hb.size
  simp at h2
  exact ⟨h.1, h.2, by omega⟩
theorem use {p G : Prop} (h : p) (k : p → G) : G := k h

end Go.Proofs.YtinlgaefgedmcaaGreatDoor
