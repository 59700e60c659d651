/- The walks of pairAt and sparePairsEmpty. -/
import Derived.Test.YtgnedioggpgeeaaDoorWRdD
import Derived.Test.YtgnedioggpgeeaaDoorWRowA
namespace Go.Proofs.YtgnedioggpgeeaaDoor
open Go.RowKit
set_option maxRecDepth 100000

/-- a column's pair of bits -/
def pairB (s : ByteArray) (i : Nat) : Nat := (s.data.toList.getD (i / 4) 0).toNat / 2 ^ (2 * (i % 4)) % 4
theorem pairB_le (s : ByteArray) (i : Nat) : pairB s i ≤ 3 := by unfold pairB; omega
theorem pairB_at (s : ByteArray) (i : Nat) (h : i / 4 < s.size) : pairB s i = s[i / 4].toNat / 2 ^ (2 * (i % 4)) % 4 := by
  unfold pairB
  have e : s.data.toList.getD (i / 4) 0 = s[i / 4] := by
    have hj' : i / 4 < s.data.toList.length := by simpa using h
    rw [List.getD_eq_getElem?_getD, List.getElem?_eq_getElem hj']
    rfl
  rw [e]

set_option maxHeartbeats 4000000 in
theorem pairAt_any (s : ByteArray) (i : Nat) (w : World) (h : i / 4 < s.size) (hi : i ≤ 1024) :
    Calls Tryd.prog 47 #[.string s, .int .i64 (i : Int)] w fun e w' => e = .returned (.int .u8 ((pairB s i : Nat) : Int)) ∧ Below w.heap.size w w' := by
  have C1 : Hid (∀ w1, Calls _ _ _ _ _) := fun w1 => shift_any i w1 (by omega)
  rw [pairB_at s i h]
  have hix : ∀ w1 : World, (Instr.index 9 (.string s) (.int .i64 ((i / 4 : Nat) : Int))).run Tryd.prog w1 = .ok (.int .u8 (s[i / 4].toNat : Int)) w1 := fun w1 => idx_at s (i / 4) h w1
  have htd : (i : Int) / 4 = ((i / 4 : Nat) : Int) := rfl
  generalize hq : i / 4 = q at *
  have hwq : IntKind.i64.wrap (q : Int) = (q : Int) := by rw [IntKind.wrap_i64]; (try unfold wrap64); omega
  have hcl : s[q].toNat < 256 := s[q].toNat_lt
  generalize hc : s[q].toNat = c at *
  have hsh : 2 * (i % 4) ≤ 6 := by omega
  generalize 2 * (i % 4) = sh at *
  go_enter Tryd.func47, Tryd.ntmps47
  go_wp2_with fail
  go_quiet (first | (go_at_call 34; exact Calls.quiet_of_same (C1.out _)))
  go_wp2_with fail
  go_ret
  refine ⟨congrArg Ending.returned (congrArg (Value.int IntKind.u8) ?_), below_drewN _ _⟩
  have e : (c : Int) / 2 ^ sh = ((c / 2 ^ sh : Nat) : Int) := by norm_cast
  have hlt : c / 2 ^ sh < 256 := Nat.lt_of_le_of_lt (Nat.div_le_self _ _) hcl
  have h1 := u8_and_nat (c / 2 ^ sh) 3 hlt (by decide)
  rw [show ((3 : Nat) : Int) = 3 from rfl] at h1
  rw [e, h1]
  congr 1
  exact Nat.and_two_pow_sub_one_eq_mod (c / 2 ^ sh) 2

/-- no pair but those of the columns has a bit -/
def spB (s : ByteArray) (n m : Nat) : Bool := (List.range m).all fun i => decide (i < n) || decide (pairB s i = 0)
theorem spB_yes {s : ByteArray} {n m : Nat} (h : ∀ i, n ≤ i → i < m → pairB s i = 0) : spB s n m = true := by
  unfold spB
  rw [List.all_eq_true]
  intro i hi
  have hi' := List.mem_range.1 hi
  simp only [Bool.or_eq_true, decide_eq_true_eq]
  rcases Nat.lt_or_ge i n with h1 | h1
  · exact .inl h1
  · exact .inr (h i h1 hi')
theorem spB_no {s : ByteArray} {n m i : Nat} (h1 : n ≤ i) (h2 : i < m) (h : pairB s i ≠ 0) : spB s n m = false := by
  rw [← Bool.not_eq_true]
  intro ht
  unfold spB at ht
  rw [List.all_eq_true] at ht
  have := ht i (List.mem_range.2 h2)
  simp only [Bool.or_eq_true, decide_eq_true_eq] at this
  omega
theorem pairB_ext (s : ByteArray) (i m : Nat) (h : i / 4 < m) (hm : m ≤ s.size) : pairB (s.extract 0 m) i = pairB s i := by
  rw [pairB_at _ _ (by rw [ByteArray.size_extract]; omega), pairB_at _ _ (by omega)]
  congr 2
  rw [ByteArray.getElem_extract]
  simp

set_option maxHeartbeats 4000000 in
theorem spare_any (s : ByteArray) (n : Nat) (w : World) (hs : s.size ≤ 64) (hn : n ≤ 4 * s.size) :
    Calls Tryd.prog 45 #[.string s, .int .i64 (n : Int)] w fun e w' => e = .returned (.bool (spB s n (4 * s.size))) ∧ Below w.heap.size w w' := by
  have C1 : Hid (∀ (j : Nat) w1, j < 4 * s.size → Calls _ _ _ _ _) := fun j w1 h => pairAt_any s j w1 (by omega) (by omega)
  have HY : Hid ((∀ i, n ≤ i → i < 4 * s.size → pairB s i = 0) → spB s n (4 * s.size) = true) := spB_yes
  have HN : Hid (∀ i, n ≤ i → i < 4 * s.size → pairB s i ≠ 0 → spB s n (4 * s.size) = false) := fun i h1 h2 h3 => spB_no h1 h2 h3
  generalize spB s n (4 * s.size) = d at *
  go_enter Tryd.func45, Tryd.ntmps45
  go_wp2_with fail
  go_loopw [5] (fun i wr => ∃ j : Nat, n ≤ j ∧ j ≤ 4 * s.size ∧ i = .int .i64 (j : Int) ∧ Hid (∀ i, n ≤ i → i < j → pairB s i = 0) ∧ Hid (Below w.heap.size w wr)) (fun i _ => 4 * s.size - (intOf i).toNat)
  case atStart => exact ⟨n, Nat.le_refl _, hn, rfl, (fun i h1 h2 => by omega), Below.refl _ _⟩
  case round =>
    obtain ⟨j, hj1, hj2, rfl, hI, hB⟩ := hrel
    by_cases hj0 : j = 4 * s.size
    · have hd := HY.out (fun i h1 h2 => hI.out i h1 (by omega))
      subst hd
      have hlt : ¬ ((j : Int) < 4 * (s.size : Int)) := by omega
      go_wp2_with fail
      go_ret
      exact ⟨rfl, hB.out⟩
    · have hlt : ((j : Int) < 4 * (s.size : Int)) := by omega
      have C2 : Hid (Calls _ _ _ _ _) := C1.out j wr (by omega)
      by_cases hp : pairB s j = 0
      · rw [hp] at C2
        have hI2 : Hid (∀ i, n ≤ i → i < j + 1 → pairB s i = 0) := fun i h1 h2 => by
          rcases Nat.lt_or_ge i j with h3 | h3
          · exact hI.out i h1 h3
          · have : i = j := by omega
            rw [this]
            exact hp
        go_wp2_with fail
        refine C2.out.mono ?_
        rintro e w2 ⟨rfl, hb2⟩
        have HB2 : Hid (Below _ _ _) := hB.out.trans (hb2.mono hB.out.size)
        go_wp2_with fail
        go_roundw
        case rel => exact ⟨j + 1, by omega, by omega, by go_num, hI2, HB2⟩
        case measure => simp [intOf]; omega
      · have hd := HN.out j hj1 (by omega) hp
        subst hd
        have hpb : ((pairB s j : Int) != 0) = true := by simp; omega
        generalize pairB s j = pb at *
        go_wp2_with fail
        refine C2.out.mono ?_
        rintro e w2 ⟨rfl, hb2⟩
        have HB2 : Hid (Below _ _ _) := hB.out.trans (hb2.mono hB.out.size)
        go_wp2_with fail
        go_ret
        exact ⟨rfl, HB2.out⟩
end Go.Proofs.YtgnedioggpgeeaaDoor
