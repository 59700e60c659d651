/- Plain mathematics: what a key is read as, and that this leads there and back. -/
import Derived.Test.YtjigmijennbolaaDoorMCode2
namespace Go.Proofs.YtjigmijennbolaaDoor
open Ieee
set_option maxRecDepth 100000

def num (l : List UInt8) : Nat := l.foldl (fun n b => n * 256 + b.toNat) 0
theorem num_foldl (l : List UInt8) (a : Nat) : l.foldl (fun n b => n * 256 + b.toNat) a = a * 256 ^ l.length + num l := by
  unfold num
  induction l generalizing a with
  | nil => simp
  | cons c l ih =>
    rw [List.foldl_cons, List.foldl_cons, ih, ih (0 * 256 + c.toNat), List.length_cons, Nat.pow_succ, Nat.add_mul, Nat.mul_assoc, Nat.mul_comm 256, Nat.zero_mul, Nat.zero_add]
    omega
theorem num_cons (c : UInt8) (l : List UInt8) : num (c :: l) = c.toNat * 256 ^ l.length + num l := by
  have := num_foldl l (0 * 256 + c.toNat)
  simp only [Nat.zero_mul, Nat.zero_add] at this
  unfold num
  rw [List.foldl_cons]
  simpa [num] using this
theorem num_snoc (l : List UInt8) (c : UInt8) : num (l ++ [c]) = num l * 256 + c.toNat := by
  unfold num; rw [List.foldl_append]; rfl
theorem num_lt (l : List UInt8) : num l < 256 ^ l.length := by
  induction l with
  | nil => simp [num]
  | cons c l ih =>
    rw [num_cons, List.length_cons, Nat.pow_succ]
    have hc : c.toNat < 256 := c.toNat_lt
    have h1 : (c.toNat + 1) * 256 ^ l.length ≤ 256 * 256 ^ l.length := Nat.mul_le_mul_right _ hc
    rw [Nat.add_mul] at h1
    rw [Nat.mul_comm (256 ^ l.length) 256]
    omega
theorem num_hiB (n : Nat) : ∀ k, num (hiB n k) = n % 256 ^ k
  | 0 => by simp [hiB, num, Nat.mod_one]
  | k + 1 => by
    rw [hiB, num_cons, num_hiB n k, hiB_len, ofNat_toNat8, Nat.pow_succ, Nat.mod_mul, Nat.mul_comm, Nat.add_comm]
theorem hiB_num : ∀ l : List UInt8, hiB (num l) l.length = l
  | [] => rfl
  | c :: l => by
    have hl := num_lt l
    have hc : c.toNat < 256 := c.toNat_lt
    have hp : 0 < 256 ^ l.length := Nat.pow_pos (by decide)
    rw [List.length_cons, hiB, num_cons]
    congr 1
    · apply UInt8.toNat_inj.1
      rw [ofNat_toNat8]
      have : (c.toNat * 256 ^ l.length + num l) / 256 ^ l.length = c.toNat := by
        rw [Nat.mul_comm, Nat.mul_add_div hp, Nat.div_eq_of_lt hl]; rfl
      rw [this, Nat.mod_eq_of_lt hc]
    · rw [← hiB_num l]
      conv => rhs; rw [hiB_num l]
      rw [hiB_len]
      conv => rhs; rw [← hiB_num l]
      apply hiB_mod
      rw [Nat.mul_comm, Nat.mul_add_mod, hiB_num l]

/-- a text, read -/
def rdStr : List UInt8 → Option (List UInt8 × Nat)
  | [] => none
  | c :: r => if c = 0 then (match r with
      | [] => some ([], 1)
      | d :: r' => if d = 255 then (rdStr r').map (fun x => (0 :: x.1, x.2 + 2)) else some ([], 1))
    else (rdStr r).map (fun x => (c :: x.1, x.2 + 1))
theorem rdStr_nz {c : UInt8} {r : List UInt8} (h : c ≠ 0) : rdStr (c :: r) = (rdStr r).map (fun x => (c :: x.1, x.2 + 1)) := by rw [rdStr.eq_def]; simp [h]
theorem rdStr_e : rdStr [0] = some ([], 1) := by rw [rdStr.eq_def]; simp
theorem rdStr_z (d : UInt8) (r : List UInt8) : rdStr (0 :: d :: r) = if d = 255 then (rdStr r).map (fun x => (0 :: x.1, x.2 + 2)) else some ([], 1) := by rw [rdStr.eq_def]; simp
theorem rdStr_n : rdStr [] = none := by rw [rdStr.eq_def]
theorem rdStr_ended : ∀ (s rest : List UInt8), okT rest → rdStr (esc s ++ 0 :: rest) = some (s, (esc s).length + 1)
  | [], rest, h => by
    simp only [esc, List.nil_append]
    cases rest with
    | nil => rw [rdStr_e]; rfl
    | cons d r =>
      have hd := h d r rfl
      have : d ≠ 255 := fun e => by subst e; exact absurd hd (by decide)
      rw [rdStr_z, if_neg this]; rfl
  | c :: s, rest, h => by
    have ih := rdStr_ended s rest h
    by_cases hc : c = 0
    · subst hc
      simp only [esc, if_true, List.cons_append]
      rw [rdStr_z, if_pos rfl, ih]; rfl
    · simp only [esc, hc, if_false, List.cons_append]
      rw [rdStr_nz hc, ih]; rfl
theorem rdStr_back : ∀ (n : Nat) (l t : List UInt8) (m : Nat), l.length ≤ n → rdStr l = some (t, m) → m ≤ l.length ∧ ended t = l.take m ∧ 0 < m
  | 0, l, t, m, hn, h => by
    have : l = [] := List.eq_nil_of_length_eq_zero (by omega)
    subst this
    rw [rdStr_n] at h
    cases h
  | n + 1, [], t, m, hn, h => by rw [rdStr_n] at h; cases h
  | n + 1, c :: r, t, m, hn, h => by
    simp only [List.length_cons] at hn
    by_cases hc : c = 0
    · subst hc
      cases r with
      | nil =>
        rw [rdStr_e] at h
        simp at h
        obtain ⟨rfl, rfl⟩ := h
        simp [ended, esc]
      | cons d r' =>
        rw [rdStr_z] at h
        by_cases hd : d = 255
        · subst hd
          simp only [if_true, Option.map_eq_some_iff] at h
          obtain ⟨⟨t', m'⟩, h1, h2⟩ := h
          simp only [Prod.mk.injEq] at h2
          obtain ⟨rfl, rfl⟩ := h2
          obtain ⟨i1, i2, i3⟩ := rdStr_back n r' t' m' (by simp at hn; omega) h1
          refine ⟨by simp; omega, ?_, by omega⟩
          have : ended (0 :: t') = 0 :: 255 :: ended t' := by simp [ended, esc]
          rw [this, i2]
          rfl
        · simp only [hd, if_false, Option.some.injEq, Prod.mk.injEq] at h
          obtain ⟨rfl, rfl⟩ := h
          simp [ended, esc]
    · rw [rdStr_nz hc] at h
      simp only [Option.map_eq_some_iff] at h
      obtain ⟨⟨t', m'⟩, h1, h2⟩ := h
      simp only [Prod.mk.injEq] at h2
      obtain ⟨rfl, rfl⟩ := h2
      obtain ⟨i1, i2, i3⟩ := rdStr_back n r t' m' (by omega) h1
      refine ⟨by simp; omega, ?_, by omega⟩
      have : ended (c :: t') = c :: ended t' := by simp [ended, esc, hc]
      rw [this, i2]
      rfl

def vNull : Vl := ⟨0, 0, 0, ⟨#[]⟩⟩
def vBool (b : Bool) : Vl := ⟨1, if b then 1 else 0, 0, ⟨#[]⟩⟩
def vInt (n : Int) : Vl := ⟨2, n, 0, ⟨#[]⟩⟩
def vFlo (f : Nat) : Vl := ⟨3, 0, f, ⟨#[]⟩⟩
def vStr (k : Int) (s : List UInt8) : Vl := ⟨k, 0, 0, ⟨s.toArray⟩⟩
/-- an int, read behind its tag -/
def rdInt : List UInt8 → Option (Vl × Nat)
  | [] => none
  | h :: r =>
    if 128 ≤ h.toNat then
      (if 8 < h.toNat - 128 ∨ r.length < h.toNat - 128 then none
       else if 9223372036854775807 < num (r.take (h.toNat - 128)) ∨ sz (num (r.take (h.toNat - 128))) ≠ h.toNat - 128 then none
       else some (vInt (num (r.take (h.toNat - 128))), 1 + (h.toNat - 128)))
    else
      (if 8 < 128 - h.toNat ∨ r.length < 128 - h.toNat then none
       else if 9223372036854775807 < 256 ^ (128 - h.toNat) - 1 - num (r.take (128 - h.toNat)) ∨ max (sz (256 ^ (128 - h.toNat) - 1 - num (r.take (128 - h.toNat)))) 1 ≠ 128 - h.toNat then none
       else some (vInt (-((256 ^ (128 - h.toNat) - 1 - num (r.take (128 - h.toNat)) : Nat) : Int) - 1), 1 + (128 - h.toNat)))
def unG (b : Nat) : Nat := if b < 9223372036854775808 then 18446744073709551615 - b else b - 9223372036854775808
def rdFlo (s : List UInt8) : Option (Vl × Nat) :=
  if s.length < 8 then none else if plainF (unG (num (s.take 8))) = unG (num (s.take 8)) then some (vFlo (unG (num (s.take 8))), 8) else none
def rdTxt (k : Int) (s : List UInt8) : Option (Vl × Nat) :=
  match rdStr s with
  | none => none
  | some x => if (vStr k x.1).chk = 0 then some (vStr k x.1, x.2) else none
def rdBool : List UInt8 → Option (Vl × Nat)
  | [] => none
  | c :: _ => if 1 < c.toNat then none else some (vBool (c == 1), 1)
/-- a value, read behind its tag -/
def rdV (tag : UInt8) (s : List UInt8) : Option (Vl × Nat) :=
  if tag = 1 then some (vNull, 0) else if tag = 2 then rdBool s else if tag = 3 then rdInt s else if tag = 4 then rdFlo s else if tag = 5 then rdTxt 4 s else if tag = 6 then rdTxt 5 s else none
end Go.Proofs.YtjigmijennbolaaDoor
