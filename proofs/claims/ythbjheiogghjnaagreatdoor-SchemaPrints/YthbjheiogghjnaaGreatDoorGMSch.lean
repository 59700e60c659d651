/- Plain mathematics: names, tables, and why they may not be. Plain mathematics: the words that are no names; names. -/
import Derived.Test.YthbjheiogghjnaaGreatDoorGMCode
namespace Go.Proofs.YthbjheiogghjnaaGreatDoor
set_option maxRecDepth 100000

def lowC (c : UInt8) : Bool := decide (97 ≤ c.toNat) && decide (c.toNat ≤ 122) || decide (c.toNat = 95)
def upC (c : UInt8) : Bool := decide (65 ≤ c.toNat) && decide (c.toNat ≤ 90)
def digC (c : UInt8) : Bool := decide (48 ≤ c.toNat) && decide (c.toNat ≤ 57)
/-- a letter, a digit or _ -/
def clsC (c : UInt8) : Bool := lowC c || upC c || digC c

/-- what is told first -/
def firstE (f : Nat → Int) : Nat → Int
  | 0 => 0
  | n + 1 => if firstE f n = 0 then f n else firstE f n
theorem firstE_zero {f : Nat → Int} : ∀ {n : Nat}, (∀ i, i < n → f i = 0) → firstE f n = 0
  | 0, _ => rfl
  | n + 1, h => by
    have h1 := firstE_zero (n := n) (fun i hi => h i (by omega))
    unfold firstE
    rw [if_pos h1]
    exact h n (by omega)
theorem firstE_hit {f : Nat → Int} {j : Nat} (hz : ∀ i, i < j → f i = 0) (hj : f j ≠ 0) : ∀ {n : Nat}, j < n → firstE f n = f j
  | 0, h => by omega
  | n + 1, h => by
    unfold firstE
    by_cases e : j = n
    · subst e
      rw [if_pos (firstE_zero hz)]
    · have := firstE_hit hz hj (n := n) (by omega)
      rw [if_neg (by rw [this]; exact hj), this]

/-- a column, an index, a reference, a table -/
structure Cl where
  nm : ByteArray
  kd : Int
  nl : Bool
  df : Vl
structure Ix where
  nm : ByteArray
  cs : List Int
  un : Bool
structure Rf where
  cs : List Int
  tb : ByteArray
structure Tb where
  nm : ByteArray
  cs : List Cl
  key : List Int
  ix : List Ix
  rf : List Rf

/-- all are numbers of n columns, none twice -/
def apartB (n : Nat) (l : List Int) : Bool := l.all (fun x => decide (0 ≤ x) && decide (x < n)) && decide l.Nodup
theorem nodup_len : ∀ (n : Nat) (l : List Int), (∀ x ∈ l, 0 ≤ x ∧ x < n) → l.Nodup → l.length ≤ n
  | 0, l, h, _ => by
    cases l with
    | nil => simp
    | cons a l => have := h a (by simp); omega
  | n + 1, l, h, hn => by
    have h1 := nodup_len n (l.filter (fun x => decide (x ≠ (n : Int)))) (fun x hx => by
      simp only [List.mem_filter, decide_eq_true_eq] at hx
      have := h x hx.1
      omega) (hn.filter _)
    have h2 : l.length ≤ (l.filter (fun x => decide (x ≠ (n : Int)))).length + 1 := by
      clear h h1
      induction l with
      | nil => simp
      | cons a l ih =>
        obtain ⟨ha, hl⟩ := List.nodup_cons.1 hn
        by_cases e : a = (n : Int)
        · subst e
          have : l.filter (fun x => decide (x ≠ (n : Int))) = l := by
            rw [List.filter_eq_self]
            intro x hx
            simp only [decide_eq_true_eq]
            intro h; subst h; exact ha hx
          have e2 : ((n : Int) :: l).filter (fun x => decide (x ≠ (n : Int))) = l := by rw [List.filter_cons, if_neg (by simp), this]
          rw [e2]; simp
        · have := ih hl
          simp only [List.filter_cons, decide_eq_true_eq, if_pos e, List.length_cons]
          omega
    omega
theorem apart_len {n : Nat} {l : List Int} (h : apartB n l = true) : l.length ≤ n := by
  unfold apartB at h
  simp only [Bool.and_eq_true, List.all_eq_true, decide_eq_true_eq] at h
  exact nodup_len n l h.1 h.2
/-- so far -/
theorem apart_take {n : Nat} {l : List Int} (j : Nat) (hj : j < l.length) : apartB n (l.take (j + 1)) = (apartB n (l.take j) && (decide (0 ≤ l[j]) && decide (l[j] < n) && !(l.take j).contains l[j])) := by
  rw [← List.take_append_getElem hj]
  unfold apartB
  rw [List.all_append, Bool.eq_iff_iff]
  simp only [Bool.and_eq_true, List.all_cons, List.all_nil, Bool.and_true, decide_eq_true_eq, List.nodup_append, List.mem_singleton, List.contains_eq_mem, Bool.not_eq_true', decide_eq_false_iff_not]
  constructor
  · rintro ⟨⟨h1, h2⟩, h3, _, h4⟩
    exact ⟨⟨h1, h3⟩, h2, fun hm => h4 _ hm _ rfl rfl⟩
  · rintro ⟨⟨h1, h3⟩, h2, h4⟩
    exact ⟨⟨h1, h2⟩, h3, by simp, fun a ha b hb e => h4 (by rw [← hb, ← e]; exact ha)⟩
theorem apart_no {n : Nat} {l : List Int} {j : Nat} (h : apartB n (l.take j) = false) : apartB n l = false := by
  cases h1 : apartB n l with
  | false => rfl
  | true =>
    rw [← h]
    symm
    unfold apartB at h1 ⊢
    simp only [Bool.and_eq_true, List.all_eq_true, decide_eq_true_eq] at h1 ⊢
    exact ⟨fun x hx => h1.1 x (List.mem_of_mem_take hx), h1.2.sublist (List.take_sublist _ _)⟩

end Go.Proofs.YthbjheiogghjnaaGreatDoor

namespace Go.Proofs.YthbjheiogghjnaaGreatDoor
set_option maxRecDepth 100000

def wordsL : List (List UInt8) := [[97, 110, 100], [98, 111, 111, 108], [98, 121, 116, 101, 115], [99, 114, 101, 97, 116, 101], [100, 101, 102, 97, 117, 108, 116], [102, 97, 108, 115, 101], [102, 108, 111, 97, 116], [102, 111, 114, 101, 105, 103, 110], [105, 110], [105, 110, 100, 101, 120], [105, 110, 116], [105, 115], [107, 101, 121], [110, 111, 116], [110, 117, 108, 108], [111, 114], [112, 114, 105, 109, 97, 114, 121], [114, 101, 102, 101, 114, 101, 110, 99, 101, 115], [116, 97, 98, 108, 101], [116, 101, 120, 116], [116, 114, 117, 101], [117, 110, 105, 113, 117, 101], [97, 98, 111, 114, 116], [97, 115], [97, 115, 99], [97, 116], [97, 118, 103], [98, 101, 103, 105, 110], [98, 101, 116, 119, 101, 101, 110], [98, 121], [99, 111, 109, 109, 105, 116], [99, 111, 117, 110, 116], [100, 101, 108, 101, 116, 101], [100, 101, 115, 99], [100, 114, 111, 112], [102, 114, 111, 109], [103, 114, 111, 117, 112], [105, 110, 115, 101, 114, 116], [105, 110, 116, 111], [108, 105, 109, 105, 116], [109, 97, 120], [109, 105, 110], [111, 102], [111, 114, 100, 101, 114], [114, 101, 108, 101, 97, 115, 101], [114, 111, 108, 108, 98, 97, 99, 107], [115, 97, 118, 101, 112, 111, 105, 110, 116], [115, 101, 108, 101, 99, 116], [115, 101, 116], [115, 117, 109], [116, 111], [117, 112, 100, 97, 116, 101], [118, 97, 108, 117, 101, 115], [119, 104, 101, 114, 101], [119, 105, 116, 104]]
def keptB (l : List UInt8) : Bool := wordsL.contains l
/-- what Fits tells -/
def fitsB (l : List UInt8) : Bool := match l with
  | [] => false
  | c :: _ => !digC c && l.all clsC && !keptB l
/-- how many of the first bytes are letters, digits or _ -/
def runN : List UInt8 → Nat
  | [] => 0
  | c :: l => if clsC c then runN l + 1 else 0
theorem runN_le : ∀ l, runN l ≤ l.length
  | [] => Nat.le_refl _
  | c :: l => by have := runN_le l; unfold runN; split <;> simp <;> omega
theorem runN_all : ∀ l, (decide (runN l = l.length)) = l.all clsC
  | [] => rfl
  | c :: l => by
    have ih := runN_all l
    unfold runN
    cases h : clsC c with
    | true => simp only [if_true, List.length_cons, List.all_cons, h, Bool.true_and]; rw [← ih]; simp
    | false => simp [h]
theorem runN_step : ∀ (l : List UInt8) (j : Nat) (hj : j < l.length), j ≤ runN l → (clsC l[j] = true → j + 1 ≤ runN l) ∧ (clsC l[j] = false → runN l = j)
  | [], j, hj, _ => by simp at hj
  | c :: l, 0, _, _ => by
    refine ⟨fun h => ?_, fun h => ?_⟩
    · have h' : clsC c = true := h
      unfold runN; rw [if_pos h']; omega
    · have h' : clsC c = false := h
      unfold runN; rw [if_neg (by simp [h'])]
  | c :: l, j + 1, hj, hle => by
    unfold runN at hle ⊢
    split at hle
    · rename_i hc
      rw [if_pos hc]
      obtain ⟨h1, h2⟩ := runN_step l j (by simpa using hj) (by omega)
      exact ⟨fun h => by have := h1 h; omega, fun h => by rw [h2 h]⟩
    · omega
/-- a name -/
def nameB (l : List UInt8) : Bool := match l with
  | [] => false
  | c :: _ => decide (l.length ≤ 63) && lowC c && !keptB l && l.all (fun x => lowC x || digC x)
theorem cls_ascii {c : UInt8} (h : clsC c = true) : c.toNat < 128 := by
  unfold clsC lowC upC digC at h
  simp at h
  omega
theorem low_not_up {c : UInt8} : (lowC c || digC c) = (clsC c && !upC c) := by
  unfold clsC lowC upC digC
  rw [Bool.eq_iff_iff]
  simp
  omega
theorem low_cls {c : UInt8} : lowC c = (clsC c && !upC c && !digC c) := by
  unfold clsC lowC upC digC
  rw [Bool.eq_iff_iff]
  simp
  omega
/-- no great letter -/
theorem name_fits (l : List UInt8) : nameB l = (decide (l.length ≤ 63) && fitsB l && l.all (fun c => !upC c)) := by
  cases l with
  | nil => rfl
  | cons c l =>
    have e : (c :: l).all (fun x => lowC x || digC x) = ((c :: l).all clsC && (c :: l).all (fun c => !upC c)) := by
      rw [Bool.eq_iff_iff]
      simp only [List.all_eq_true, Bool.and_eq_true]
      constructor
      · intro h
        exact ⟨fun x hx => by have := h x hx; rw [low_not_up] at this; simp at this; exact this.1, fun x hx => by have := h x hx; rw [low_not_up] at this; simp at this; simp [this.2]⟩
      · rintro ⟨h1, h2⟩ x hx
        rw [low_not_up]
        have a := h1 x hx
        have b := h2 x hx
        simp at b
        simp [a, b]
    unfold nameB fitsB
    simp only []
    rw [e, low_cls]
    generalize keptB (c :: l) = kk
    simp only [List.all_cons]
    cases clsC c <;> cases upC c <;> cases digC c <;> cases kk <;> cases l.all clsC <;> cases l.all (fun c => !upC c) <;> cases decide ((c :: l).length ≤ 63) <;> rfl

end Go.Proofs.YthbjheiogghjnaaGreatDoor
