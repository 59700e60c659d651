/- Plain mathematics: the words that are no names; names. -/
import Derived.Test.YtfknmblobcjapaaDoorGMCode
namespace Go.Proofs.YtfknmblobcjapaaDoor
set_option maxRecDepth 100000

def wordsL : List (List UInt8) := [[97, 110, 100], [98, 111, 111, 108], [98, 121, 116, 101, 115], [99, 114, 101, 97, 116, 101], [100, 101, 102, 97, 117, 108, 116], [102, 97, 108, 115, 101], [102, 108, 111, 97, 116], [102, 111, 114, 101, 105, 103, 110], [105, 110], [105, 110, 100, 101, 120], [105, 110, 116], [105, 115], [107, 101, 121], [110, 111, 116], [110, 117, 108, 108], [111, 114], [112, 114, 105, 109, 97, 114, 121], [114, 101, 102, 101, 114, 101, 110, 99, 101, 115], [116, 97, 98, 108, 101], [116, 101, 120, 116], [116, 114, 117, 101], [117, 110, 105, 113, 117, 101], [97, 98, 111, 114, 116], [97, 115], [97, 115, 99], [97, 116], [97, 118, 103], [98, 101, 103, 105, 110], [98, 101, 116, 119, 101, 101, 110], [98, 121], [99, 111, 109, 109, 105, 116], [99, 111, 117, 110, 116], [100, 101, 108, 101, 116, 101], [100, 101, 115, 99], [100, 114, 111, 112], [102, 114, 111, 109], [103, 114, 111, 117, 112], [105, 110, 115, 101, 114, 116], [105, 110, 116, 111], [108, 105, 109, 105, 116], [109, 97, 120], [109, 105, 110], [111, 102], [111, 114, 100, 101, 114], [114, 101, 108, 101, 97, 115, 101], [114, 111, 108, 108, 98, 97, 99, 107], [115, 97, 118, 101, 112, 111, 105, 110, 116], [115, 101, 108, 101, 99, 116], [115, 101, 116], [115, 117, 109], [116, 111], [117, 112, 100, 97, 116, 101], [118, 97, 108, 117, 101, 115], [119, 104, 101, 114, 101], [119, 105, 116, 104]]
def keptB (l : List UInt8) : Bool := wordsL.contains l
/-- what Fits tells -/
def fitsB (l : List UInt8) : Bool := match l with
  | [] => false
  | c :: _ => !digC c && l.all clsC && !keptB l
/-- how many of the first bytes are letters, digits or _ -/
def runN : List UInt8 → Nat
  | [] => 0
  | c :: l => if clsC c then runN l + 1 else 0
theorem runN_le : ∀ l, runN l ≤ l.length
  | [] => Nat.le_refl _
  | c :: l => by have := runN_le l; unfold runN; split <;> simp <;> omega
theorem runN_all : ∀ l, (decide (runN l = l.length)) = l.all clsC
  | [] => rfl
  | c :: l => by
    have ih := runN_all l
    unfold runN
    cases h : clsC c with
    | true => simp only [if_true, List.length_cons, List.all_cons, h, Bool.true_and]; rw [← ih]; simp
    | false => simp [h]
theorem runN_step : ∀ (l : List UInt8) (j : Nat) (hj : j < l.length), j ≤ runN l → (clsC l[j] = true → j + 1 ≤ runN l) ∧ (clsC l[j] = false → runN l = j)
  | [], j, hj, _ => by simp at hj
  | c :: l, 0, _, _ => by
    refine ⟨fun h => ?_, fun h => ?_⟩
    · have h' : clsC c = true := h
      unfold runN; rw [if_pos h']; omega
    · have h' : clsC c = false := h
      unfold runN; rw [if_neg (by simp [h'])]
  | c :: l, j + 1, hj, hle => by
    unfold runN at hle ⊢
    split at hle
    · rename_i hc
      rw [if_pos hc]
      obtain ⟨h1, h2⟩ := runN_step l j (by simpa using hj) (by omega)
      exact ⟨fun h => by have := h1 h; omega, fun h => by rw [h2 h]⟩
    · omega
/-- a name -/
def nameB (l : List UInt8) : Bool := match l with
  | [] => false
  | c :: _ => decide (l.length ≤ 63) && lowC c && !keptB l && l.all (fun x => lowC x || digC x)
theorem cls_ascii {c : UInt8} (h : clsC c = true) : c.toNat < 128 := by
  unfold clsC lowC upC digC at h
  simp at h
  omega
theorem low_not_up {c : UInt8} : (lowC c || digC c) = (clsC c && !upC c) := by
  unfold clsC lowC upC digC
  rw [Bool.eq_iff_iff]
  simp
  omega
theorem low_cls {c : UInt8} : lowC c = (clsC c && !upC c && !digC c) := by
  unfold clsC lowC upC digC
  rw [Bool.eq_iff_iff]
  simp
  omega
/-- no great letter -/
theorem name_fits (l : List UInt8) : nameB l = (decide (l.length ≤ 63) && fitsB l && l.all (fun c => !upC c)) := by
  cases l with
  | nil => rfl
  | cons c l =>
    have e : (c :: l).all (fun x => lowC x || digC x) = ((c :: l).all clsC && (c :: l).all (fun c => !upC c)) := by
      rw [Bool.eq_iff_iff]
      simp only [List.all_eq_true, Bool.and_eq_true]
      constructor
      · intro h
        exact ⟨fun x hx => by have := h x hx; rw [low_not_up] at this; simp at this; exact this.1, fun x hx => by have := h x hx; rw [low_not_up] at this; simp at this; simp [this.2]⟩
      · rintro ⟨h1, h2⟩ x hx
        rw [low_not_up]
        have a := h1 x hx
        have b := h2 x hx
        simp at b
        simp [a, b]
    unfold nameB fitsB
    simp only []
    rw [e, low_cls]
    generalize keptB (c :: l) = kk
    simp only [List.all_cons]
    cases clsC c <;> cases upC c <;> cases digC c <;> cases kk <;> cases l.all clsC <;> cases l.all (fun c => !upC c) <;> cases decide ((c :: l).length ≤ 63) <;> rfl

end Go.Proofs.YtfknmblobcjapaaDoor
