/- Readers: what Enter, Leave, Raise and Least make of them; where they lie. -/
import Derived.Test.YtbmgkoifidhfjaaMCel
import Derived.Lib.MinMax
import Derived.Lib.AppendZeros
namespace Go.Proofs.Ytbmgkoifidhfjaa
open Go.RowKit
set_option maxRecDepth 100000

/-- a reader -/
structure Rd where
  sl : Nat
  st : Nat
/-- readers stand by their slots -/
def InvR (R : List Rd) : Prop := R.Pairwise (fun a b => a.sl < b.sl) ∧ ∀ r ∈ R, r.sl < 256
theorem InvR.ge {R : List Rd} (h : InvR R) : ∀ i (hi : i < R.length), i ≤ R[i].sl := by
  intro i
  induction i with
  | zero => intro _; exact Nat.zero_le _
  | succ i ih =>
    intro hi
    have h1 := ih (by omega)
    have h2 := (List.pairwise_iff_getElem.1 h.1) i (i + 1) (by omega) hi (by omega)
    omega
theorem InvR.len {R : List Rd} (h : InvR R) : R.length ≤ 256 := by
  rcases Nat.lt_or_ge 256 R.length with hl | hl
  · have h1 := h.ge 256 hl
    have h2 := h.2 R[256] (List.getElem_mem hl)
    omega
  · exact hl
theorem InvR.gap {R : List Rd} (h : InvR R) {i j : Nat} (hij : i ≤ j) (hj : j < R.length) (hi : i < R[i].sl) : j < R[j].sl := by
  induction j with
  | zero =>
    have e : i = 0 := by omega
    subst e
    exact hi
  | succ j ih =>
    by_cases e : i = j + 1
    · subst e
      exact hi
    · have h1 := ih (by omega) (by omega)
      have h2 := (List.pairwise_iff_getElem.1 h.1) j (j + 1) (by omega) hj (by omega)
      omega
/-- k is the least slot that is free -/
def Free (R : List Rd) (k : Nat) : Prop := k ≤ R.length ∧ (∀ i (hi : i < R.length), i < k → R[i].sl = i) ∧ ∀ i (hi : i < R.length), k ≤ i → i < R[i].sl
theorem Free.uniq {R : List Rd} {j k : Nat} (h1 : Free R j) (h2 : Free R k) : j = k := by
  rcases Nat.lt_trichotomy j k with h | h | h
  · have hj : j < R.length := by have := h2.1; omega
    have a := h2.2.1 j hj h
    have b := h1.2.2 j hj (Nat.le_refl _)
    omega
  · exact h
  · have hk : k < R.length := by have := h1.1; omega
    have a := h1.2.1 k hk h
    have b := h2.2.2 k hk (Nat.le_refl _)
    omega
def freeA (k : Nat) : List Rd → Nat
  | [] => k
  | r :: t => if r.sl = k then freeA (k + 1) t else k
def freeN (R : List Rd) : Nat := freeA 0 R
theorem freeA_spec : ∀ (R : List Rd) (k : Nat), k ≤ freeA k R ∧ freeA k R ≤ k + R.length ∧ (∀ i (hi : i < R.length), k + i < freeA k R → R[i].sl = k + i) ∧ ∀ (hi : freeA k R - k < R.length), R[freeA k R - k].sl ≠ freeA k R
  | [], k => ⟨Nat.le_refl _, Nat.le_refl _, fun i hi => absurd hi (by simp), fun hi => absurd hi (by simp)⟩
  | r :: t, k => by
    unfold freeA
    split
    · rename_i hr
      obtain ⟨h1, h2, h3, h4⟩ := freeA_spec t (k + 1)
      refine ⟨by omega, by simp; omega, fun i hi hlt => ?_, fun hi => ?_⟩
      · cases i with
        | zero => exact hr
        | succ i =>
          have h5 := h3 i (by simpa using hi) (by omega)
          have e : k + 1 + i = k + (i + 1) := by omega
          rw [e] at h5
          exact h5
      · have e : freeA (k + 1) t - k = (freeA (k + 1) t - (k + 1)) + 1 := by omega
        have hi' : freeA (k + 1) t - (k + 1) < t.length := by rw [e] at hi; simpa using hi
        have := h4 hi'
        simp only [e, List.getElem_cons_succ]
        exact this
    · rename_i hr
      refine ⟨Nat.le_refl _, by simp, fun i hi hlt => by omega, fun hi => ?_⟩
      simp only [Nat.sub_self, List.getElem_cons_zero]
      exact hr
theorem free_is {R : List Rd} (h : InvR R) : Free R (freeN R) := by
  obtain ⟨_, h2, h3, h4⟩ := freeA_spec R 0
  refine ⟨by unfold freeN; omega, fun i hi hlt => ?_, fun i hi hk => ?_⟩
  · have := h3 i hi (by unfold freeN at hlt; omega)
    omega
  · have hk2 : freeA 0 R - 0 < R.length := by unfold freeN at hk; omega
    have h5 := h4 hk2
    have h6 := h.ge (freeA 0 R - 0) hk2
    refine h.gap (i := freeA 0 R - 0) (by unfold freeN at hk; omega) hi ?_
    omega
/-- one more -/
def entR (R : List Rd) (s : Nat) : List Rd := R.take (freeN R) ++ ⟨freeN R, s⟩ :: R.drop (freeN R)
theorem ent_len (R : List Rd) (s : Nat) (h : InvR R) : (entR R s).length = R.length + 1 := by
  unfold entR
  have := (free_is h).1
  simp
  omega
theorem ent_inv (R : List Rd) (s : Nat) (h : InvR R) (hl : R.length < 256) : InvR (entR R s) := by
  have hf := free_is h
  unfold entR
  generalize freeN R = k at *
  have hk := hf.1
  have hd : ∀ r ∈ R.drop k, k < r.sl := fun r hr => by
    obtain ⟨i, hi, e⟩ := List.getElem_of_mem hr
    rw [List.length_drop] at hi
    rw [List.getElem_drop] at e
    have := hf.2.2 (k + i) (by omega) (by omega)
    rw [e] at this
    omega
  have ht : ∀ r ∈ R.take k, r.sl < k := fun r hr => by
    obtain ⟨i, hi, e⟩ := List.getElem_of_mem hr
    rw [List.length_take] at hi
    rw [List.getElem_take] at e
    have := hf.2.1 i (by omega) (by omega)
    rw [e] at this
    omega
  refine ⟨List.pairwise_append.2 ⟨h.1.sublist (List.take_sublist _ _), List.pairwise_cons.2 ⟨fun r hr => hd r hr, h.1.sublist (List.drop_sublist _ _)⟩, fun a ha b hb => ?_⟩, fun r hr => ?_⟩
  · have h1 := ht a ha
    rcases List.mem_cons.1 hb with rfl | hb
    · exact h1
    · have h2 := hd b hb
      omega
  · rcases List.mem_append.1 hr with hr | hr
    · exact h.2 r (List.mem_of_mem_take hr)
    · rcases List.mem_cons.1 hr with rfl | hr
      · show k < 256
        omega
      · exact h.2 r (List.mem_of_mem_drop hr)
/-- one less -/
def goR (R : List Rd) (n : Int) : List Rd := R.filter fun r => !((r.sl : Int) == n)
def hasR (R : List Rd) (n : Int) : Bool := R.any fun r => (r.sl : Int) == n
theorem go_inv {R : List Rd} (h : InvR R) (n : Int) : InvR (goR R n) := ⟨h.1.sublist List.filter_sublist, fun r hr => h.2 r (List.mem_filter.1 hr).1⟩
theorem go_split {A B : List Rd} {x : Rd} (h : InvR (A ++ x :: B)) : goR (A ++ x :: B) (x.sl : Nat) = A ++ B := by
  unfold goR
  rw [List.filter_append, List.filter_cons]
  simp only [beq_self_eq_true, Bool.not_true]
  have hp2 := List.pairwise_append.1 h.1
  congr 1
  · refine List.filter_eq_self.2 fun r hr => ?_
    have h1 := hp2.2.2 r hr x List.mem_cons_self
    simp
    omega
  · refine List.filter_eq_self.2 fun r hr => ?_
    have h1 := (List.pairwise_cons.1 hp2.2.1).1 r hr
    simp
    omega
theorem go_at {R : List Rd} (h : InvR R) {i : Nat} (hi : i < R.length) : goR R (R[i].sl : Nat) = R.take i ++ R.drop (i + 1) := by
  have e : R.take i ++ R[i] :: R.drop (i + 1) = R := by
    rw [← List.drop_eq_getElem_cons hi, List.take_append_drop]
  have h1 := go_split (A := R.take i) (B := R.drop (i + 1)) (x := R[i]) (by rw [e]; exact h)
  rw [e] at h1
  exact h1
theorem has_at {R : List Rd} {i : Nat} (hi : i < R.length) : hasR R (R[i].sl : Nat) = true := List.any_eq_true.2 ⟨R[i], List.getElem_mem hi, by simp⟩
theorem go_no {R : List Rd} {n : Int} (h : hasR R n = false) : goR R n = R := by
  refine List.filter_eq_self.2 fun r hr => ?_
  have := List.any_eq_false.1 h r hr
  simpa using this
theorem go_len {R : List Rd} {n : Int} : (goR R n).length = R.length ↔ hasR R n = false := by
  constructor
  · intro h
    have h1 := List.length_filter_eq_length_iff.1 h
    refine List.any_eq_false.2 fun r hr => ?_
    have := h1 r hr
    simpa using this
  · intro h
    rw [go_no h]
/-- the least stamp -/
def lstA : List Rd → Nat → Nat
  | [], m => m
  | r :: t, m => lstA t (min m r.st)
def lstR : List Rd → Nat
  | [] => 0
  | r :: t => lstA (r :: t) r.st
def somR (R : List Rd) : Bool := !R.isEmpty
def raiN (fl : Nat) (R : List Rd) (t : Nat) : Nat := max fl (if somR R then min (min t 4611686018427387904) (lstR R) else min t 4611686018427387904)
/-- what Enter tells: the slot, the error -/
def entE (fl : Nat) (R : List Rd) (s : Nat) : Int := if 4611686018427387904 < s then 1 else if s < fl then 101 else if R.length = 256 then 2 else 0
def entL (fl : Nat) (R : List Rd) (s : Nat) : List Rd := if entE fl R s = 0 then entR R s else R
def entN (fl : Nat) (R : List Rd) (s : Nat) : Nat := if entE fl R s = 0 then freeN R else 0
def leaE (R : List Rd) (n : Int) : Int := if hasR R n then 0 else 100
theorem lstA_take (R : List Rd) (j m : Nat) (hj : j < R.length) : lstA (R.take (j + 1)) m = min (lstA (R.take j) m) R[j].st := by
  induction R generalizing j m with
  | nil => simp at hj
  | cons r t ih =>
    cases j with
    | zero => simp [lstA]
    | succ j =>
      simp only [List.take_succ_cons, lstA, List.getElem_cons_succ]
      exact ih j _ (by simpa using hj)
theorem entL_inv {fl : Nat} {R : List Rd} {s : Nat} (h : InvR R) : InvR (entL fl R s) := by
  unfold entL
  split
  · rename_i he
    unfold entE at he
    refine ent_inv R s h ?_
    have := h.len
    split at he
    · omega
    · split at he
      · omega
      · split at he
        · omega
        · omega
  · exact h
end Go.Proofs.Ytbmgkoifidhfjaa
