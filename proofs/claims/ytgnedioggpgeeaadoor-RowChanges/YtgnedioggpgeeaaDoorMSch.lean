/- Plain mathematics: names, tables, and why they may not be. -/
import Derived.Test.YtgnedioggpgeeaaDoorMCode2
namespace Go.Proofs.YtgnedioggpgeeaaDoor
set_option maxRecDepth 100000

def lowC (c : UInt8) : Bool := decide (97 ≤ c.toNat) && decide (c.toNat ≤ 122) || decide (c.toNat = 95)
def upC (c : UInt8) : Bool := decide (65 ≤ c.toNat) && decide (c.toNat ≤ 90)
def digC (c : UInt8) : Bool := decide (48 ≤ c.toNat) && decide (c.toNat ≤ 57)
/-- a letter, a digit or _ -/
def clsC (c : UInt8) : Bool := lowC c || upC c || digC c

/-- what is told first -/
def firstE (f : Nat → Int) : Nat → Int
  | 0 => 0
  | n + 1 => if firstE f n = 0 then f n else firstE f n
theorem firstE_zero {f : Nat → Int} : ∀ {n : Nat}, (∀ i, i < n → f i = 0) → firstE f n = 0
  | 0, _ => rfl
  | n + 1, h => by
    have h1 := firstE_zero (n := n) (fun i hi => h i (by omega))
    unfold firstE
    rw [if_pos h1]
    exact h n (by omega)
theorem firstE_hit {f : Nat → Int} {j : Nat} (hz : ∀ i, i < j → f i = 0) (hj : f j ≠ 0) : ∀ {n : Nat}, j < n → firstE f n = f j
  | 0, h => by omega
  | n + 1, h => by
    unfold firstE
    by_cases e : j = n
    · subst e
      rw [if_pos (firstE_zero hz)]
    · have := firstE_hit hz hj (n := n) (by omega)
      rw [if_neg (by rw [this]; exact hj), this]

/-- a column, an index, a reference, a table -/
structure Cl where
  nm : ByteArray
  kd : Int
  nl : Bool
  df : Vl
structure Ix where
  nm : ByteArray
  cs : List Int
  un : Bool
structure Rf where
  cs : List Int
  tb : ByteArray
structure Tb where
  nm : ByteArray
  cs : List Cl
  key : List Int
  ix : List Ix
  rf : List Rf

/-- all are numbers of n columns, none twice -/
def apartB (n : Nat) (l : List Int) : Bool := l.all (fun x => decide (0 ≤ x) && decide (x < n)) && decide l.Nodup
theorem nodup_len : ∀ (n : Nat) (l : List Int), (∀ x ∈ l, 0 ≤ x ∧ x < n) → l.Nodup → l.length ≤ n
  | 0, l, h, _ => by
    cases l with
    | nil => simp
    | cons a l => have := h a (by simp); omega
  | n + 1, l, h, hn => by
    have h1 := nodup_len n (l.filter (fun x => decide (x ≠ (n : Int)))) (fun x hx => by
      simp only [List.mem_filter, decide_eq_true_eq] at hx
      have := h x hx.1
      omega) (hn.filter _)
    have h2 : l.length ≤ (l.filter (fun x => decide (x ≠ (n : Int)))).length + 1 := by
      clear h h1
      induction l with
      | nil => simp
      | cons a l ih =>
        obtain ⟨ha, hl⟩ := List.nodup_cons.1 hn
        by_cases e : a = (n : Int)
        · subst e
          have : l.filter (fun x => decide (x ≠ (n : Int))) = l := by
            rw [List.filter_eq_self]
            intro x hx
            simp only [decide_eq_true_eq]
            intro h; subst h; exact ha hx
          have e2 : ((n : Int) :: l).filter (fun x => decide (x ≠ (n : Int))) = l := by rw [List.filter_cons, if_neg (by simp), this]
          rw [e2]; simp
        · have := ih hl
          simp only [List.filter_cons, decide_eq_true_eq, if_pos e, List.length_cons]
          omega
    omega
theorem apart_len {n : Nat} {l : List Int} (h : apartB n l = true) : l.length ≤ n := by
  unfold apartB at h
  simp only [Bool.and_eq_true, List.all_eq_true, decide_eq_true_eq] at h
  exact nodup_len n l h.1 h.2
/-- so far -/
theorem apart_take {n : Nat} {l : List Int} (j : Nat) (hj : j < l.length) : apartB n (l.take (j + 1)) = (apartB n (l.take j) && (decide (0 ≤ l[j]) && decide (l[j] < n) && !(l.take j).contains l[j])) := by
  rw [← List.take_append_getElem hj]
  unfold apartB
  rw [List.all_append, Bool.eq_iff_iff]
  simp only [Bool.and_eq_true, List.all_cons, List.all_nil, Bool.and_true, decide_eq_true_eq, List.nodup_append, List.mem_singleton, List.contains_eq_mem, Bool.not_eq_true', decide_eq_false_iff_not]
  constructor
  · rintro ⟨⟨h1, h2⟩, h3, _, h4⟩
    exact ⟨⟨h1, h3⟩, h2, fun hm => h4 _ hm _ rfl rfl⟩
  · rintro ⟨⟨h1, h3⟩, h2, h4⟩
    exact ⟨⟨h1, h2⟩, h3, by simp, fun a ha b hb e => h4 (by rw [← hb, ← e]; exact ha)⟩
theorem apart_no {n : Nat} {l : List Int} {j : Nat} (h : apartB n (l.take j) = false) : apartB n l = false := by
  cases h1 : apartB n l with
  | false => rfl
  | true =>
    rw [← h]
    symm
    unfold apartB at h1 ⊢
    simp only [Bool.and_eq_true, List.all_eq_true, decide_eq_true_eq] at h1 ⊢
    exact ⟨fun x hx => h1.1 x (List.mem_of_mem_take hx), h1.2.sublist (List.take_sublist _ _)⟩
end Go.Proofs.YtgnedioggpgeeaaDoor
