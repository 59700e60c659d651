/- Plain mathematics: the order of strings by their bytes. Plain mathematics: entries, rising by their keys; which stands behind which on a level. -/
import Derived.Lib.Bytealg
import Derived.Laws.BitsAllLaws
namespace Go.Proofs.Ytojfohpnfciajaa
set_option maxRecDepth 100000

theorem cb_range : ∀ (a b : List UInt8), Lib.compareBytes a b = -1 ∨ Lib.compareBytes a b = 0 ∨ Lib.compareBytes a b = 1
  | [], [] => by simp [Lib.compareBytes]
  | [], _ :: _ => by simp [Lib.compareBytes]
  | _ :: _, [] => by simp [Lib.compareBytes]
  | a :: x, b :: y => by
    unfold Lib.compareBytes
    split
    · simp
    · split
      · simp
      · exact cb_range x y

theorem cb_swap : ∀ (a b : List UInt8), Lib.compareBytes b a = 0 - Lib.compareBytes a b
  | [], [] => by simp [Lib.compareBytes]
  | [], _ :: _ => by simp [Lib.compareBytes]
  | _ :: _, [] => by simp [Lib.compareBytes]
  | a :: x, b :: y => by
    have ih := cb_swap x y
    simp only [Lib.compareBytes, UInt8.lt_iff_toNat_lt]
    by_cases h1 : a.toNat < b.toNat
    · have h2 : ¬ b.toNat < a.toNat := by omega
      simp [h1, h2]
    · by_cases h2 : b.toNat < a.toNat
      · simp [h1, h2]
      · simp [h1, h2, ih]

theorem cb_self (a : List UInt8) : Lib.compareBytes a a = 0 := by have := cb_swap a a; omega

theorem cb_trans : ∀ (a b c : List UInt8), Lib.compareBytes a b ≤ 0 → Lib.compareBytes b c ≤ 0 → Lib.compareBytes a c ≤ 0
  | [], _, [] => by simp [Lib.compareBytes]
  | [], _, _ :: _ => by simp [Lib.compareBytes]
  | _ :: _, [], _ => by simp [Lib.compareBytes]
  | _ :: _, _ :: _, [] => by simp [Lib.compareBytes]
  | a :: x, b :: y, c :: z => by
    have ih := cb_trans x y z
    simp only [Lib.compareBytes, UInt8.lt_iff_toNat_lt]
    intro h1 h2
    by_cases e1 : a.toNat < b.toNat
    · by_cases e2 : b.toNat < c.toNat
      · rw [if_pos (by omega)]; omega
      · by_cases e3 : c.toNat < b.toNat
        · rw [if_neg e2, if_pos e3] at h2; omega
        · rw [if_pos (by omega)]; omega
    · by_cases e1' : b.toNat < a.toNat
      · rw [if_neg e1, if_pos e1'] at h1; omega
      · rw [if_neg e1, if_neg e1'] at h1
        by_cases e2 : b.toNat < c.toNat
        · rw [if_pos (by omega)]; omega
        · by_cases e3 : c.toNat < b.toNat
          · rw [if_neg e2, if_pos e3] at h2; omega
          · rw [if_neg e2, if_neg e3] at h2
            rw [if_neg (by omega), if_neg (by omega)]
            exact ih h1 h2

theorem less_cb : ∀ (a b : List UInt8), Op.bytesLess a b = decide (Lib.compareBytes a b = -1)
  | [], [] => by simp [Op.bytesLess, Lib.compareBytes]
  | [], _ :: _ => by simp [Op.bytesLess, Lib.compareBytes]
  | _ :: _, [] => by simp [Op.bytesLess, Lib.compareBytes]
  | a :: x, b :: y => by
    have ih := less_cb x y
    simp only [Op.bytesLess, Lib.compareBytes, ih]
    by_cases h1 : a < b
    · simp [h1]
    · by_cases h2 : b < a
      · have h3 : ¬ a = b := fun e => by subst e; exact h1 h2
        simp [h1, h2, h3]
      · have h3 : a = b := by
          rw [UInt8.lt_iff_toNat_lt] at h1 h2
          exact UInt8.toNat_inj.1 (by omega)
        simp [h3]

theorem eq_cb : ∀ (a b : List UInt8), (a == b) = decide (Lib.compareBytes a b = 0)
  | [], [] => by simp [Lib.compareBytes]
  | [], _ :: _ => by simp [Lib.compareBytes]
  | _ :: _, [] => by simp [Lib.compareBytes]
  | a :: x, b :: y => by
    have ih := eq_cb x y
    simp only [Lib.compareBytes, List.cons_beq_cons, ih]
    by_cases h1 : a < b
    · have h3 : ¬ a = b := fun e => by subst e; exact absurd h1 (by simp)
      simp [h1, h3]
    · by_cases h2 : b < a
      · have h3 : ¬ a = b := fun e => by subst e; exact h1 h2
        simp [h1, h2, h3]
      · have h3 : a = b := by
          rw [UInt8.lt_iff_toNat_lt] at h1 h2
          exact UInt8.toNat_inj.1 (by omega)
        simp [h3]
def ltB (a b : ByteArray) : Bool := Op.bytesLess a.toList b.toList
theorem ltB_cb (a b : ByteArray) : ltB a b = decide (Lib.compareBytes a.data.toList b.data.toList = -1) := by
  unfold ltB; rw [ByteArray.toList_eq, ByteArray.toList_eq, less_cb]
theorem ltB_irrefl (a : ByteArray) : ltB a a = false := by rw [ltB_cb, cb_self]; rfl
theorem ltB_tri (a b : ByteArray) : ltB a b = true ∨ a = b ∨ ltB b a = true := by
  rw [ltB_cb, ltB_cb, cb_swap a.data.toList b.data.toList]
  rcases cb_range a.data.toList b.data.toList with h | h | h
  · left; simp [h]
  · right; left
    have := eq_cb a.data.toList b.data.toList
    rw [h] at this
    have h2 : a.data.toList = b.data.toList := by simpa using this
    cases a; cases b; simp at h2; rw [h2]
  · right; right; simp [h]
theorem ltB_asymm {a b : ByteArray} (h : ltB a b = true) : ltB b a = false := by
  rw [ltB_cb] at h ⊢
  rw [cb_swap a.data.toList b.data.toList]
  simp at h
  rw [h]
  rfl
theorem le_trans' {a b c : ByteArray} (h1 : ltB b a = false) (h2 : ltB c b = false) : ltB c a = false := by
  rw [ltB_cb] at h1 h2 ⊢
  have s1 := cb_swap a.data.toList b.data.toList
  have s2 := cb_swap b.data.toList c.data.toList
  have s3 := cb_swap a.data.toList c.data.toList
  have r1 := cb_range a.data.toList b.data.toList
  have r2 := cb_range b.data.toList c.data.toList
  have t := cb_trans a.data.toList b.data.toList c.data.toList
  simp at h1 h2 ⊢
  omega
theorem le_of_lt {a b : ByteArray} (h : ltB a b = true) : ltB b a = false := ltB_asymm h
theorem lt_of_le_ne {a b : ByteArray} (h : ltB b a = false) (hn : ¬ a = b) : ltB a b = true := by
  rcases ltB_tri a b with h1 | h1 | h1
  · exact h1
  · exact absurd h1 hn
  · rw [h] at h1; cases h1
theorem le_antisymm' {a b : ByteArray} (h1 : ltB b a = false) (h2 : ltB a b = false) : a = b := by
  rcases ltB_tri a b with h | h | h
  · rw [h2] at h; cases h
  · exact h
  · rw [h1] at h; cases h
theorem lt_of_lt_of_le' {a b c : ByteArray} (h1 : ltB a b = true) (h2 : ltB c b = false) : ltB a c = true := by
  cases h : ltB a c with
  | true => rfl
  | false =>
    have := le_trans' h2 h
    rw [this] at h1; cases h1
theorem ltB_trans {a b c : ByteArray} (h1 : ltB a b = true) (h2 : ltB b c = true) : ltB a c = true := lt_of_lt_of_le' h1 (le_of_lt h2)

end Go.Proofs.Ytojfohpnfciajaa

namespace Go.Proofs.Ytojfohpnfciajaa
set_option maxRecDepth 100000

/-- an entry -/
structure En where
  k : ByteArray
  v : Int
  h : Nat
def RiseE (E : List En) : Prop := E.Pairwise (fun a b => ltB a.k b.k = true)
/-- how many keys are less -/
def fnd (E : List En) (k : ByteArray) : Nat := E.findIdx (fun e => !ltB e.k k)
theorem fnd_le (E : List En) (k : ByteArray) : fnd E k ≤ E.length := List.findIdx_le_length
theorem fnd_lt {E : List En} {k : ByteArray} {i : Nat} (h : i < fnd E k) (hi : i < E.length) : ltB E[i].k k = true := by
  have := List.not_of_lt_findIdx h
  simpa using this
theorem fnd_at {E : List En} {k : ByteArray} (h : fnd E k < E.length) : ltB E[fnd E k].k k = false := by
  have h2 : (!ltB E[fnd E k].k k) = true := List.findIdx_getElem (p := fun e : En => !ltB e.k k) (xs := E) (w := h)
  simpa using h2
theorem RiseE.at {E : List En} (h : RiseE E) {i j : Nat} (hij : i < j) (hj : j < E.length) : ltB E[i].k E[j].k = true := List.pairwise_iff_getElem.1 h i j (by omega) hj hij
theorem fnd_ge {E : List En} (hr : RiseE E) {k : ByteArray} {i : Nat} (h : fnd E k ≤ i) (hi : i < E.length) : ltB E[i].k k = false := by
  have h0 := fnd_at (E := E) (k := k) (by omega)
  rcases Nat.lt_or_ge (fnd E k) i with h1 | h1
  · exact le_trans' h0 (le_of_lt (hr.at h1 hi)) |> fun h => by
      cases hc : ltB E[i].k k with
      | false => rfl
      | true => exact absurd (ltB_trans (hr.at h1 hi) hc) (by rw [h0]; decide)
  · have e : i = fnd E k := by omega
    subst e
    exact h0
theorem fnd_is {E : List En} {k : ByteArray} {m : Nat} (hm : m ≤ E.length) (h1 : ∀ i (hi : i < E.length), i < m → ltB E[i].k k = true) (h2 : ∀ (hi : m < E.length), ltB E[m].k k = false) : fnd E k = m := by
  rcases Nat.lt_trichotomy (fnd E k) m with h | h | h
  · have h3 := fnd_at (E := E) (k := k) (by omega)
    rw [h1 _ (by omega) h] at h3
    cases h3
  · exact h
  · have hl : m < E.length := by have := fnd_le E k; omega
    have h3 := fnd_lt h hl
    rw [h2 hl] at h3
    cases h3
/-- the key's entry -/
def getE (E : List En) (k : ByteArray) : Option En := match E[fnd E k]? with
  | some e => if e.k = k then some e else none
  | none => none
def insE (E : List En) (m : Nat) (e : En) : List En := E.take m ++ e :: E.drop m
def putE (E : List En) (k : ByteArray) (v : Int) (h : Nat) : List En := match getE E k with
  | some e => E.set (fnd E k) ⟨k, v, e.h⟩
  | none => insE E (fnd E k) ⟨k, v, h⟩
def delE (E : List En) (k : ByteArray) : List En := match getE E k with
  | some _ => E.eraseIdx (fnd E k)
  | none => E
theorem getE_some {E : List En} {k : ByteArray} {e : En} (h : getE E k = some e) : E[fnd E k]? = some e ∧ e.k = k := by
  unfold getE at h
  split at h
  · rename_i e' he
    split at h
    · rename_i hk
      injection h with h
      subst h
      exact ⟨he, hk⟩
    · cases h
  · cases h
theorem getE_none {E : List En} {k : ByteArray} (h : getE E k = none) (hl : fnd E k < E.length) : E[fnd E k].k ≠ k := by
  unfold getE at h
  rw [List.getElem?_eq_getElem hl] at h
  dsimp only at h
  intro e
  rw [if_pos e] at h
  cases h
theorem rise_ins {E : List En} (hr : RiseE E) {k : ByteArray} (h : getE E k = none) (v : Int) (ht : Nat) : RiseE (insE E (fnd E k) ⟨k, v, ht⟩) := by
  unfold insE
  refine List.pairwise_append.2 ⟨hr.sublist (List.take_sublist _ _), List.pairwise_cons.2 ⟨fun b hb => ?_, hr.sublist (List.drop_sublist _ _)⟩, fun a ha b hb => ?_⟩
  · obtain ⟨j, hj, rfl⟩ := List.getElem_of_mem hb
    rw [List.length_drop] at hj
    rw [List.getElem_drop]
    have h1 := fnd_ge hr (k := k) (i := fnd E k + j) (by omega) (by omega)
    refine lt_of_le_ne h1 (fun e => ?_)
    rcases Nat.eq_zero_or_pos j with rfl | hp
    · exact getE_none h (by omega) e.symm
    · have h2 := hr.at (i := fnd E k) (j := fnd E k + j) (by omega) (by omega)
      rw [← show k = E[fnd E k + j].k from e] at h2
      rw [fnd_at (by omega)] at h2
      cases h2
  · obtain ⟨i, hi, rfl⟩ := List.getElem_of_mem ha
    rw [List.length_take] at hi
    rw [List.getElem_take]
    have h1 := fnd_lt (E := E) (k := k) (i := i) (by omega) (by omega)
    rcases List.mem_cons.1 hb with rfl | hb
    · exact h1
    · obtain ⟨j, hj, rfl⟩ := List.getElem_of_mem hb
      rw [List.length_drop] at hj
      rw [List.getElem_drop]
      exact hr.at (by omega) (by omega)
theorem rise_set {E : List En} (hr : RiseE E) {m : Nat} {e : En} (hm : ∀ (h : m < E.length), E[m].k = e.k) : RiseE (E.set m e) := by
  refine List.pairwise_iff_getElem.2 (fun i j hi hj hij => ?_)
  rw [List.length_set] at hi hj
  have h1 := hr.at hij hj
  rw [List.getElem_set, List.getElem_set]
  split
  · rename_i e1
    subst e1
    rw [if_neg (by omega), ← hm hi]
    exact h1
  · split
    · rename_i _ e2
      subst e2
      rw [← hm hj]
      exact h1
    · exact h1
theorem rise_put {E : List En} (hr : RiseE E) (k : ByteArray) (v : Int) (h : Nat) : RiseE (putE E k v h) := by
  unfold putE
  split
  · rename_i e he
    obtain ⟨h1, h2⟩ := getE_some he
    refine rise_set hr (fun hl => ?_)
    rw [List.getElem?_eq_getElem hl] at h1
    injection h1 with h1
    rw [h1]
    exact h2
  · rename_i he
    exact rise_ins hr he v h
theorem rise_del {E : List En} (hr : RiseE E) (k : ByteArray) : RiseE (delE E k) := by
  unfold delE
  split
  · exact hr.sublist (List.eraseIdx_sublist _ _)
  · exact hr
/-- the first one that stands on a level -/
def fst (l : Nat) (E : List En) : Option En := E.find? (fun e => decide (l < e.h))
/-- p: behind the last one ahead of m that stands on a level (0: none does) -/
structure LastL (l m : Nat) (E : List En) (p : Nat) : Prop where
  le : p ≤ m
  top : p = 0 ∨ ∃ e, E[p - 1]? = some e ∧ l < e.h
  no : ∀ i e, p ≤ i → i < m → E[i]? = some e → ¬ l < e.h
theorem LastL.one {l m : Nat} {E : List En} {p q : Nat} (_hm : m ≤ E.length) (h : LastL l m E p) (h' : LastL l m E q) : p = q := by
  rcases Nat.lt_trichotomy p q with hh | hh | hh
  · rcases h'.top with e | ⟨e, he, hl⟩
    · omega
    · exact absurd hl (h.no (q - 1) e (by omega) (by have := h'.le; omega) he)
  · exact hh
  · rcases h.top with e | ⟨e, he, hl⟩
    · omega
    · exact absurd hl (h'.no (p - 1) e (by omega) (by have := h.le; omega) he)
theorem LastL.down {l l' m : Nat} {E : List En} {p : Nat} (h : LastL l m E p) (hl : l' ≤ l) : p = 0 ∨ ∃ e, E[p - 1]? = some e ∧ l' < e.h := by
  rcases h.top with e | ⟨e, he, h1⟩
  · exact .inl e
  · exact .inr ⟨e, he, by omega⟩

end Go.Proofs.Ytojfohpnfciajaa
