/- Texts in quotes: what strings.ReplaceAll tells, and a loop over bytes. -/
import Derived.Lib.Replace
namespace Go.Proofs.YthbjheiogghjnaaGreatDoor

/-- a text whose quotes are doubled -/
def qesc : List UInt8 → List UInt8
  | [] => []
  | c :: s => (if c = 39 then [39, 39] else [c]) ++ qesc s
theorem qesc_snoc (s : List UInt8) (c : UInt8) : qesc (s ++ [c]) = qesc s ++ (if c = 39 then [39, 39] else [c]) := by
  induction s with
  | nil => simp [qesc]
  | cons a s ih => simp only [List.cons_append, qesc, ih, List.append_assoc]
theorem qesc_take (s : ByteArray) (j : Nat) (hj : j < s.size) : qesc (s.data.toList.take (j + 1)) = qesc (s.data.toList.take j) ++ (if s[j] = 39 then [39, 39] else [s[j]]) := by
  rw [← List.take_append_getElem (by simpa using hj), qesc_snoc]
  rfl
theorem qesc_len (s : List UInt8) : (qesc s).length ≤ 2 * s.length := by
  induction s with
  | nil => simp [qesc]
  | cons a s ih => simp only [qesc]; split <;> simp <;> omega
theorem replK_q (new : List UInt8) : ∀ s : List UInt8, Lib.replaceK [39] new (Lib.count s [39]) s = (s.map (fun c => if c = 39 then new else [c])).flatten
  | [] => by rw [Lib.count_miss (by simp [Lib.index])]; rfl
  | b :: l => by
    have ih := replK_q new l
    by_cases h : b = 39
    · subst h
      have hix : Lib.index (39 :: l) [39] = ((0 : Nat) : Int) := by rw [Lib.index]; simp [List.isPrefixOf]
      rw [Lib.count_cons_eq, Nat.add_comm, Lib.replaceK_hit _ _ _ _ _ hix]
      simp [ih]
    · have hp : ([39] : List UInt8).isPrefixOf (b :: l) = false := by simp [List.isPrefixOf, Ne.symm h]
      have hix : Lib.index (b :: l) [39] = if Lib.index l [39] == -1 then -1 else Lib.index l [39] + 1 := by rw [Lib.index, hp]; simp
      rw [Lib.count_cons_ne _ _ _ h]
      by_cases hm : Lib.index l [39] = -1
      · rw [Lib.count_miss hm] at ih ⊢
        simp only [Lib.replaceK] at ih ⊢
        rw [List.map_cons, List.flatten_cons, if_neg h, ← ih]
        rfl
      · have hge := Lib.index_ge l [39]
        obtain ⟨j, hj⟩ : ∃ j : Nat, Lib.index l [39] = j := ⟨(Lib.index l [39]).toNat, by omega⟩
        have hix' : Lib.index (b :: l) [39] = ((j + 1 : Nat) : Int) := by rw [hix, if_neg (fun e => hm (beq_iff_eq.1 e)), hj]; omega
        rw [Lib.count_hit (by simp) hj, Nat.add_comm] at ih ⊢
        rw [Lib.replaceK_hit _ _ _ _ _ hj] at ih
        rw [Lib.replaceK_hit _ _ _ _ _ hix', List.map_cons, List.flatten_cons, if_neg h, ← ih]
        simp
theorem qesc_flat : ∀ s : List UInt8, (s.map (fun c => if c = 39 then [39, 39] else [c])).flatten = qesc s
  | [] => rfl
  | c :: s => by rw [List.map_cons, List.flatten_cons, qesc, qesc_flat s]
theorem repl_q (s : List UInt8) : Lib.replaceAll s [39] [39, 39] = qesc s := by
  rw [← qesc_flat, ← replK_q]
  rfl
/-- a digit of sixteen -/
def hexD (n : Nat) : UInt8 := if n < 10 then UInt8.ofNat (48 + n) else UInt8.ofNat (87 + n)
/-- bytes as digits -/
def hexL : List UInt8 → List UInt8
  | [] => []
  | c :: s => hexD (c.toNat / 16) :: hexD (c.toNat % 16) :: hexL s
theorem hexL_snoc (s : List UInt8) (c : UInt8) : hexL (s ++ [c]) = hexL s ++ [hexD (c.toNat / 16), hexD (c.toNat % 16)] := by
  induction s with
  | nil => simp [hexL]
  | cons a s ih => simp only [List.cons_append, hexL, ih]
theorem hexL_take (s : ByteArray) (j : Nat) (hj : j < s.size) : hexL (s.data.toList.take (j + 1)) = hexL (s.data.toList.take j) ++ [hexD (s[j].toNat / 16), hexD (s[j].toNat % 16)] := by
  rw [← List.take_append_getElem (by simpa using hj), hexL_snoc]
  rfl
theorem hexL_len (s : List UInt8) : (hexL s).length = 2 * s.length := by
  induction s with
  | nil => rfl
  | cons a s ih => simp only [hexL, List.length_cons, ih]; omega
theorem hexD_val : ∀ n : Nat, n < 16 → (#[48, 49, 50, 51, 52, 53, 54, 55, 56, 57, 97, 98, 99, 100, 101, 102] : Array UInt8)[n]? = some (hexD n) := by decide

end Go.Proofs.YthbjheiogghjnaaGreatDoor
