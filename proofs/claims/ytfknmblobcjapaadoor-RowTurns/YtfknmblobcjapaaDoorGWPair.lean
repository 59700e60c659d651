/- The walks of pairAt and sparePairsEmpty. Reading a row: what readRow and values answer. The walk of the document's value of a row. -/
import Derived.Laws.MakeOwn
import Derived.Test.YtfknmblobcjapaaDoorGWRdS
import Derived.Test.YtfknmblobcjapaaDoorGWRowA
namespace Go.Proofs.YtfknmblobcjapaaDoor
open Go.RowKit
set_option maxRecDepth 100000

/-- a column's pair of bits -/
def pairB (s : ByteArray) (i : Nat) : Nat := (s.data.toList.getD (i / 4) 0).toNat / 2 ^ (2 * (i % 4)) % 4
theorem pairB_le (s : ByteArray) (i : Nat) : pairB s i ≤ 3 := by unfold pairB; omega
theorem pairB_at (s : ByteArray) (i : Nat) (h : i / 4 < s.size) : pairB s i = s[i / 4].toNat / 2 ^ (2 * (i % 4)) % 4 := by
  unfold pairB
  have e : s.data.toList.getD (i / 4) 0 = s[i / 4] := by
    have hj' : i / 4 < s.data.toList.length := by simpa using h
    rw [List.getD_eq_getElem?_getD, List.getElem?_eq_getElem hj']
    rfl
  rw [e]

set_option maxHeartbeats 4000000 in
theorem pairAt_any (s : ByteArray) (i : Nat) (w : World) (h : i / 4 < s.size) (hi : i ≤ 1024) :
    Calls Tryd.prog 39 #[.string s, .int .i64 (i : Int)] w fun e w' => e = .returned (.int .u8 ((pairB s i : Nat) : Int)) ∧ Below w.heap.size w w' := by
  have C1 : Hid (∀ w1, Calls _ _ _ _ _) := fun w1 => shift_any i w1 (by omega)
  rw [pairB_at s i h]
  have hix : ∀ w1 : World, (Instr.index 9 (.string s) (.int .i64 ((i / 4 : Nat) : Int))).run Tryd.prog w1 = .ok (.int .u8 (s[i / 4].toNat : Int)) w1 := fun w1 => idx_at s (i / 4) h w1
  have htd : (i : Int) / 4 = ((i / 4 : Nat) : Int) := rfl
  generalize hq : i / 4 = q at *
  have hwq : IntKind.i64.wrap (q : Int) = (q : Int) := by rw [IntKind.wrap_i64]; (try unfold wrap64); omega
  have hcl : s[q].toNat < 256 := s[q].toNat_lt
  generalize hc : s[q].toNat = c at *
  have hsh : 2 * (i % 4) ≤ 6 := by omega
  generalize 2 * (i % 4) = sh at *
  go_enter Tryd.func39, Tryd.ntmps39
  go_wp2_with fail
  go_quiet (first | (go_at_call 23; exact Calls.quiet_of_same (C1.out _)))
  go_wp2_with fail
  go_ret
  refine ⟨congrArg Ending.returned (congrArg (Value.int IntKind.u8) ?_), below_drewN _ _⟩
  have e : (c : Int) / 2 ^ sh = ((c / 2 ^ sh : Nat) : Int) := by norm_cast
  have hlt : c / 2 ^ sh < 256 := Nat.lt_of_le_of_lt (Nat.div_le_self _ _) hcl
  have h1 := u8_and_nat (c / 2 ^ sh) 3 hlt (by decide)
  rw [show ((3 : Nat) : Int) = 3 from rfl] at h1
  rw [e, h1]
  congr 1
  exact Nat.and_two_pow_sub_one_eq_mod (c / 2 ^ sh) 2

/-- no pair but those of the columns has a bit -/
def spB (s : ByteArray) (n m : Nat) : Bool := (List.range m).all fun i => decide (i < n) || decide (pairB s i = 0)
theorem spB_yes {s : ByteArray} {n m : Nat} (h : ∀ i, n ≤ i → i < m → pairB s i = 0) : spB s n m = true := by
  unfold spB
  rw [List.all_eq_true]
  intro i hi
  have hi' := List.mem_range.1 hi
  simp only [Bool.or_eq_true, decide_eq_true_eq]
  rcases Nat.lt_or_ge i n with h1 | h1
  · exact .inl h1
  · exact .inr (h i h1 hi')
theorem spB_no {s : ByteArray} {n m i : Nat} (h1 : n ≤ i) (h2 : i < m) (h : pairB s i ≠ 0) : spB s n m = false := by
  rw [← Bool.not_eq_true]
  intro ht
  unfold spB at ht
  rw [List.all_eq_true] at ht
  have := ht i (List.mem_range.2 h2)
  simp only [Bool.or_eq_true, decide_eq_true_eq] at this
  omega
theorem pairB_ext (s : ByteArray) (i m : Nat) (h : i / 4 < m) (hm : m ≤ s.size) : pairB (s.extract 0 m) i = pairB s i := by
  rw [pairB_at _ _ (by rw [ByteArray.size_extract]; omega), pairB_at _ _ (by omega)]
  congr 2
  rw [ByteArray.getElem_extract]
  simp

set_option maxHeartbeats 4000000 in
theorem spare_any (s : ByteArray) (n : Nat) (w : World) (hs : s.size ≤ 64) (hn : n ≤ 4 * s.size) :
    Calls Tryd.prog 37 #[.string s, .int .i64 (n : Int)] w fun e w' => e = .returned (.bool (spB s n (4 * s.size))) ∧ Below w.heap.size w w' := by
  have C1 : Hid (∀ (j : Nat) w1, j < 4 * s.size → Calls _ _ _ _ _) := fun j w1 h => pairAt_any s j w1 (by omega) (by omega)
  have HY : Hid ((∀ i, n ≤ i → i < 4 * s.size → pairB s i = 0) → spB s n (4 * s.size) = true) := spB_yes
  have HN : Hid (∀ i, n ≤ i → i < 4 * s.size → pairB s i ≠ 0 → spB s n (4 * s.size) = false) := fun i h1 h2 h3 => spB_no h1 h2 h3
  generalize spB s n (4 * s.size) = d at *
  go_enter Tryd.func37, Tryd.ntmps37
  go_wp2_with fail
  go_loopw [5] (fun i wr => ∃ j : Nat, n ≤ j ∧ j ≤ 4 * s.size ∧ i = .int .i64 (j : Int) ∧ Hid (∀ i, n ≤ i → i < j → pairB s i = 0) ∧ Hid (Below w.heap.size w wr)) (fun i _ => 4 * s.size - (intOf i).toNat)
  case atStart => exact ⟨n, Nat.le_refl _, hn, rfl, (fun i h1 h2 => by omega), Below.refl _ _⟩
  case round =>
    obtain ⟨j, hj1, hj2, rfl, hI, hB⟩ := hrel
    by_cases hj0 : j = 4 * s.size
    · have hd := HY.out (fun i h1 h2 => hI.out i h1 (by omega))
      subst hd
      have hlt : ¬ ((j : Int) < 4 * (s.size : Int)) := by omega
      go_wp2_with fail
      go_ret
      exact ⟨rfl, hB.out⟩
    · have hlt : ((j : Int) < 4 * (s.size : Int)) := by omega
      have C2 : Hid (Calls _ _ _ _ _) := C1.out j wr (by omega)
      by_cases hp : pairB s j = 0
      · rw [hp] at C2
        have hI2 : Hid (∀ i, n ≤ i → i < j + 1 → pairB s i = 0) := fun i h1 h2 => by
          rcases Nat.lt_or_ge i j with h3 | h3
          · exact hI.out i h1 h3
          · have : i = j := by omega
            rw [this]
            exact hp
        go_wp2_with fail
        refine C2.out.mono ?_
        rintro e w2 ⟨rfl, hb2⟩
        have HB2 : Hid (Below _ _ _) := hB.out.trans (hb2.mono hB.out.size)
        go_wp2_with fail
        go_roundw
        case rel => exact ⟨j + 1, by omega, by omega, by go_num, hI2, HB2⟩
        case measure => simp [intOf]; omega
      · have hd := HN.out j hj1 (by omega) hp
        subst hd
        have hpb : ((pairB s j : Int) != 0) = true := by simp; omega
        generalize pairB s j = pb at *
        go_wp2_with fail
        refine C2.out.mono ?_
        rintro e w2 ⟨rfl, hb2⟩
        have HB2 : Hid (Below _ _ _) := hB.out.trans (hb2.mono hB.out.size)
        go_wp2_with fail
        go_ret
        exact ⟨rfl, HB2.out⟩

end Go.Proofs.YtfknmblobcjapaaDoor

namespace Go.Proofs.YtfknmblobcjapaaDoor
open Go.RowKit
set_option maxRecDepth 100000

def zV : Vl := ⟨0, 0, 0, ⟨#[]⟩⟩
theorem made_cells (n : Nat) : (madeCells #[.int .i64 0, .int .i64 0, .float .f64 0, .string ⟨#[]⟩] (n * 4)).toList = vcells (List.replicate n zV) := by
  apply List.ext_getElem?
  intro j
  by_cases hj : j < n * 4
  · have e := vcell_at (List.replicate n zV) (j / 4) (by simp; omega) (j % 4) (Nat.mod_lt _ (by decide))
    have e2 : j / 4 * 4 + j % 4 = j := by omega
    rw [e2] at e
    rw [e]
    have h4 : j % 4 = 0 ∨ j % 4 = 1 ∨ j % 4 = 2 ∨ j % 4 = 3 := by omega
    rcases h4 with h | h | h | h <;> simp [madeCells, hj, h, vcell, zV]
  · rw [List.getElem?_eq_none (by simp [madeCells]; omega), List.getElem?_eq_none (by rw [vcells_len]; simp; omega)]
theorem OwnV.rowG {w : World} {B g n cap : Nat} {L : List Vl} (h : OwnV w B (.slice (some ⟨g, 0, none⟩) n cap) L) : RowV w w.heap.size (some ⟨g, 0, none⟩) L := by
  obtain ⟨p, c, e, hr⟩ := h.row
  injection e with e1 _ _
  rw [e1]
  exact hr

theorem unz_in (n : Nat) (h : n < 18446744073709551616) : -9223372036854775808 ≤ unz n ∧ unz n ≤ 9223372036854775807 := by unfold unz; split <;> omega
theorem rdK_lt : ∀ (l : List UInt8) (i n : Nat), i ≤ 9 → n < 128 ^ i → (rdK l i n).1 < 18446744073709551616
  | [], i, n, _, _ => by simp [rdK]
  | c :: r, i, n, hi, hn => by
    unfold rdK
    rw [if_neg (by omega)]
    have hp : (128 : Nat) ^ i ≤ 128 ^ 9 := Nat.pow_le_pow_right (by decide) hi
    have h9 : (128 : Nat) ^ 9 = 9223372036854775808 := by decide
    have hc := c.toNat_lt
    by_cases h1 : c.toNat < 128
    · rw [if_pos h1]
      by_cases h2 : (i = 9 ∧ 1 < c.toNat) ∨ (0 < i ∧ c.toNat = 0)
      · rw [if_pos h2]; decide
      · rw [if_neg h2]
        dsimp only
        by_cases h3 : i = 9
        · subst h3
          have : c.toNat ≤ 1 := by omega
          have hm : c.toNat * 128 ^ 9 ≤ 1 * 128 ^ 9 := Nat.mul_le_mul_right _ this
          omega
        · have hp8 : (128 : Nat) ^ i ≤ 128 ^ 8 := Nat.pow_le_pow_right (by decide) (by omega)
          have h8 : (128 : Nat) ^ 8 = 72057594037927936 := by decide
          have hm : c.toNat * 128 ^ i ≤ 127 * 128 ^ i := Nat.mul_le_mul_right _ (by omega)
          omega
    · rw [if_neg h1]
      by_cases h3 : i = 9
      · subst h3
        rw [rdK_ten]
        decide
      · refine rdK_lt r (i + 1) _ (by omega) ?_
        have hm : c.toNat % 128 * 128 ^ i ≤ 127 * 128 ^ i := Nat.mul_le_mul_right _ (by omega)
        rw [Nat.pow_succ]
        omega
theorem rdV_lt (s : ByteArray) : (rdV s).1 < 18446744073709551616 := rdK_lt _ 0 0 (by decide) (by decide)

theorem decV_ok {kd : Int} {bt : Nat} {s : ByteArray} {v : Vl} {k : Nat} (h : decV kd bt s = some (v, k)) (hk1 : 1 ≤ kd) (hk5 : kd ≤ 5) (hs : s.size ≤ 65536) (hbt : bt ≤ 3) : v.ok ∧ k ≤ s.size := by
  have hle := rdV_le s
  have hlt := rdV_lt s
  have e0 : ByteArray.size ⟨#[]⟩ = 0 := rfl
  unfold decV at h
  by_cases h0 : bt = 0
  · rw [if_pos h0] at h
    injection h with h
    injection h with h1 h2
    subst h1 h2
    exact ⟨⟨by decide, by decide, by decide, by decide⟩, Nat.zero_le _⟩
  rw [if_neg h0] at h
  by_cases h1 : kd = 1 ∧ bt < 3
  · rw [if_pos h1] at h
    injection h with h
    injection h with h1 h2
    subst h1 h2
    exact ⟨⟨⟨by dsimp only; omega, by dsimp only; omega⟩, ⟨by dsimp only; omega, by dsimp only; omega⟩, by dsimp only; omega, by dsimp only; omega⟩, Nat.zero_le _⟩
  rw [if_neg h1] at h
  by_cases h2 : 1 < bt
  · rw [if_pos h2] at h
    cases h
  rw [if_neg h2] at h
  by_cases h3 : kd = 3
  · rw [if_pos h3] at h
    by_cases h4 : s.size < 8
    · rw [if_pos h4] at h
      cases h
    · rw [if_neg h4] at h
      injection h with h
      injection h with h1 h2
      subst h1 h2
      have hl := leN_lt s 8
      have h8 : (256 : Nat) ^ 8 = 18446744073709551616 := by decide
      exact ⟨⟨⟨by unfold vFlo; dsimp only; omega, by unfold vFlo; dsimp only; omega⟩, ⟨by unfold vFlo; dsimp only; omega, by unfold vFlo; dsimp only; omega⟩, by unfold vFlo; dsimp only; omega, by unfold vFlo; dsimp only; omega⟩, by omega⟩
  rw [if_neg h3] at h
  by_cases h4 : (rdV s).2 = 0
  · rw [if_pos h4] at h
    cases h
  rw [if_neg h4] at h
  by_cases h5 : kd = 2
  · rw [if_pos h5] at h
    injection h with h
    injection h with h1 h2
    subst h1 h2
    have hu := unz_in _ hlt
    exact ⟨⟨⟨by unfold vInt; dsimp only; omega, by unfold vInt; dsimp only; omega⟩, hu, by unfold vInt; dsimp only; omega, by unfold vInt; dsimp only; omega⟩, hle⟩
  rw [if_neg h5] at h
  by_cases h6 : s.size - (rdV s).2 < (rdV s).1
  · rw [if_pos h6] at h
    cases h
  · rw [if_neg h6] at h
    injection h with h
    injection h with h1 h2
    subst h1 h2
    exact ⟨⟨⟨by dsimp only; omega, by dsimp only; omega⟩, ⟨by dsimp only; omega, by dsimp only; omega⟩, by dsimp only; omega, by dsimp only; rw [ByteArray.size_extract]; omega⟩, by omega⟩
theorem decA_some {c : Cl} {bt : Nat} {s : ByteArray} {p : Vl × Nat} (h : decA c bt s = some p) : decV c.kd bt s = some p ∧ admE c p.1 = 0 := by
  unfold decA at h
  cases hd : decV c.kd bt s with
  | none => rw [hd] at h; cases h
  | some q =>
    rw [hd] at h
    dsimp only at h
    by_cases ha : admE c q.1 = 0
    · rw [if_pos ha] at h
      injection h with h
      subst h
      exact ⟨rfl, ha⟩
    · rw [if_neg ha] at h
      cases h
theorem decA_none {c : Cl} {bt : Nat} {s : ByteArray} (h : decA c bt s = none) : decV c.kd bt s = none ∨ ∃ p, decV c.kd bt s = some p ∧ admE c p.1 ≠ 0 := by
  unfold decA at h
  cases hd : decV c.kd bt s with
  | none => exact .inl rfl
  | some q =>
    rw [hd] at h
    dsimp only at h
    by_cases ha : admE c q.1 = 0
    · rw [if_pos ha] at h
      cases h
    · exact .inr ⟨q, rfl, ha⟩

/-- the values of columns, one behind the other -/
def rowA (s : ByteArray) : List Cl → Nat → Nat → Option (List Vl × Nat)
  | [], _, k => some ([], k)
  | c :: r, i, k => match decA c (pairB s i) (s.extract k s.size) with
    | none => none
    | some p => match rowA s r (i + 1) (k + p.2) with
      | none => none
      | some q => some (p.1 :: q.1, q.2)
/-- the same, whatever the columns admit -/
def rowK (s : ByteArray) : List Int → Nat → Nat → Option (List Vl × Nat)
  | [], _, k => some ([], k)
  | c :: r, i, k => match decV c (pairB s i) (s.extract k s.size) with
    | none => none
    | some p => match rowK s r (i + 1) (k + p.2) with
      | none => none
      | some q => some (p.1 :: q.1, q.2)
/-- values put ahead -/
def ahd (V : List Vl) (o : Option (List Vl × Nat)) : Option (List Vl × Nat) := match o with
  | none => none
  | some q => some (V ++ q.1, q.2)
theorem ahd_nil (o : Option (List Vl × Nat)) : ahd [] o = o := by cases o <;> rfl
theorem rowA_at {s : ByteArray} {cs : List Cl} {j k : Nat} {V : List Vl} (hj : j < cs.length) : ahd V (rowA s (cs.drop j) j k) = match decA cs[j] (pairB s j) (s.extract k s.size) with
    | none => none
    | some p => ahd (V ++ [p.1]) (rowA s (cs.drop (j + 1)) (j + 1) (k + p.2)) := by
  rw [List.drop_eq_getElem_cons hj]
  conv => lhs; unfold rowA
  cases decA cs[j] (pairB s j) (s.extract k s.size) with
  | none => rfl
  | some p =>
    dsimp only
    cases rowA s (cs.drop (j + 1)) (j + 1) (k + p.2) with
    | none => rfl
    | some q => simp [ahd]
theorem rowK_at {s : ByteArray} {cs : List Int} {j k : Nat} {V : List Vl} (hj : j < cs.length) : ahd V (rowK s (cs.drop j) j k) = match decV cs[j] (pairB s j) (s.extract k s.size) with
    | none => none
    | some p => ahd (V ++ [p.1]) (rowK s (cs.drop (j + 1)) (j + 1) (k + p.2)) := by
  rw [List.drop_eq_getElem_cons hj]
  conv => lhs; unfold rowK
  cases decV cs[j] (pairB s j) (s.extract k s.size) with
  | none => rfl
  | some p =>
    dsimp only
    cases rowK s (cs.drop (j + 1)) (j + 1) (k + p.2) with
    | none => rfl
    | some q => simp [ahd]
theorem put_set (V : List Vl) (v : Vl) (m : Nat) : (V ++ List.replicate (m + 1) zV).set V.length v = (V ++ [v]) ++ List.replicate m zV := by
  rw [List.replicate_succ]
  simp

/-- what readRow tells -/
def rowR (cs : List Cl) (s : ByteArray) : Option (List Vl × Nat) := if s.size < (cs.length + 3) / 4 then none else if spB s cs.length (4 * ((cs.length + 3) / 4)) then rowA s cs 0 ((cs.length + 3) / 4) else none
def RowP (r : Option (List Vl × Nat)) (w : World) (e : Ending) (w' : World) : Prop := ∃ (v : Value) (k : Nat) (b : Bool), e = .returned (.tuple #[v, .int .i64 (k : Int), .bool b]) ∧ ((b = true ∧ ∃ L, r = some (L, k) ∧ OwnV w' w.heap.size v L) ∨ (b = false ∧ r = none)) ∧ Below w.heap.size w w'

end Go.Proofs.YtfknmblobcjapaaDoor

namespace Go.Proofs.YtfknmblobcjapaaDoor
open Go.RowKit
set_option maxRecDepth 100000

/-- what the document's reader tells -/
def RvP (r : Option (Vl × Nat)) (w : World) (e : Ending) (w' : World) : Prop := ∃ (v : Vl) (n : Int), e = .returned (.tuple #[v.val, .int .i64 n]) ∧ ((∃ k : Nat, r = some (v, k) ∧ n = (k : Int)) ∨ (r = none ∧ n = -1)) ∧ Below w.heap.size w w'
theorem RvP.yes {r : Option (Vl × Nat)} {w w' : World} {e : Ending} (v : Vl) (k : Nat) (he : e = .returned (.tuple #[v.val, .int .i64 (k : Int)])) (h : r = some (v, k)) (hw : Below w.heap.size w w') : RvP r w e w' := ⟨v, k, he, .inl ⟨k, h, rfl⟩, hw⟩
theorem RvP.no {r : Option (Vl × Nat)} {w w' : World} {e : Ending} (v : Vl) (he : e = .returned (.tuple #[v.val, .int .i64 (-1)])) (h : r = none) (hw : Below w.heap.size w w') : RvP r w e w' := ⟨v, -1, he, .inr ⟨h, rfl⟩, hw⟩



end Go.Proofs.YtfknmblobcjapaaDoor
