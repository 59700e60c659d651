/- Versions and writes: plain mathematics. -/
import Derived.Test.YteddpogjpohacabMVl
namespace Go.Proofs.Yteddpogjpohacab

/-- a version (n: its stamp), or a write (n: its level) -/
structure Rw where
  n : Int
  gn : Bool
  row : List Vl

/-- may a version stand at this place? -/
def okAt (L : List Rw) (i : Nat) : Bool := match L[i]? with
  | none => true
  | some v => !(decide (v.n < 1)) && !(decide (4611686018427387904 < v.n)) && !(v.gn && decide (0 < v.row.length)) && (match i with
    | 0 => true
    | j + 1 => match L[j]? with
      | none => true
      | some u => decide (v.n < u.n))
def mayL (L : List Rw) : Bool := (List.range L.length).all (okAt L)
theorem okAt_zero {L : List Rw} (h : 0 < L.length) : okAt L 0 = (!(decide (L[0].n < 1)) && !(decide ((4611686018427387904 : Int) < L[0].n)) && !(L[0].gn && decide (0 < L[0].row.length))) := by
  unfold okAt
  rw [List.getElem?_eq_getElem h]
  simp
theorem okAt_succ {L : List Rw} {j : Nat} (h : j + 1 < L.length) : okAt L (j + 1) = (!(decide (L[j + 1].n < 1)) && !(decide (4611686018427387904 < L[j + 1].n)) && !(L[j + 1].gn && decide (0 < L[j + 1].row.length)) && decide (L[j + 1].n < (L[j]'(by omega)).n)) := by
  unfold okAt
  rw [List.getElem?_eq_getElem h]
  simp only [List.getElem?_eq_getElem (show j < L.length by omega)]
theorem mayL_true {L : List Rw} (h : ∀ i, i < L.length → okAt L i = true) : mayL L = true := by
  unfold mayL
  rw [List.all_eq_true]
  intro i hi
  exact h i (by simpa using hi)
theorem mayL_false {L : List Rw} {i : Nat} (hi : i < L.length) (h : okAt L i = false) : mayL L = false := by
  cases hm : mayL L with
  | false => rfl
  | true =>
    unfold mayL at hm
    rw [List.all_eq_true] at hm
    have := hm i (by simpa using hi)
    rw [h] at this
    cases this
theorem mayL_at {L : List Rw} (h : mayL L = true) {i : Nat} (hi : i < L.length) : okAt L i = true := by
  unfold mayL at h
  rw [List.all_eq_true] at h
  exact h i (by simpa using hi)
/-- what Check tells -/
def chkL (L : List Rw) : Int := if mayL L then 0 else 80

/-- the place of the first version that is not behind the stamp (the list's length: there is none) -/
def atN (L : List Rw) (s : Int) : Nat := L.findIdx (fun v => decide (v.n ≤ s))
def atI (L : List Rw) (s : Int) : Int := if atN L s < L.length then (atN L s : Int) else -1
theorem atN_at {L : List Rw} {s : Int} {j : Nat} (hj : j < L.length) (hb : ∀ i (hi : i < L.length), i < j → s < L[i].n) (h : L[j].n ≤ s) : atN L s = j := by
  unfold atN
  rw [List.findIdx_eq hj]
  exact ⟨by simpa using h, fun i hi => by simpa using hb i (by omega) hi⟩
theorem atN_none {L : List Rw} {s : Int} (hb : ∀ i (hi : i < L.length), s < L[i].n) : atN L s = L.length := by
  unfold atN
  rw [List.findIdx_eq_length]
  intro v hv
  obtain ⟨i, hi, rfl⟩ := List.getElem_of_mem hv
  simpa using hb i hi
theorem atI_at {L : List Rw} {s : Int} {j : Nat} (hj : j < L.length) (hb : ∀ i (hi : i < L.length), i < j → s < L[i].n) (h : L[j].n ≤ s) : atI L s = (j : Int) := by
  unfold atI
  rw [atN_at hj hb h, if_pos hj]
theorem atI_none {L : List Rw} {s : Int} (hb : ∀ i (hi : i < L.length), s < L[i].n) : atI L s = -1 := by
  unfold atI
  rw [atN_none hb, if_neg (by omega)]

def chgdL (L : List Rw) (a b : Int) : Bool := L.any (fun v => decide (a < v.n) && decide (v.n ≤ b))
theorem chgdL_true {L : List Rw} {a b : Int} {j : Nat} (hj : j < L.length) (h1 : a < L[j].n) (h2 : L[j].n ≤ b) : chgdL L a b = true := by
  unfold chgdL
  rw [List.any_eq_true]
  exact ⟨L[j], List.getElem_mem hj, by simp [h1, h2]⟩
theorem chgdL_false {L : List Rw} {a b : Int} (h : ∀ i (hi : i < L.length), ¬ (a < L[i].n ∧ L[i].n ≤ b)) : chgdL L a b = false := by
  unfold chgdL
  rw [List.any_eq_false]
  intro v hv
  obtain ⟨i, hi, rfl⟩ := List.getElem_of_mem hv
  have := h i hi
  simpa using this

/-- what Life tells -/
def lifeA (L : List Rw) (p : Int) : Int := if p < 0 then 0 else match L[p.toNat]? with | none => 0 | some v => v.n
def lifeB (L : List Rw) (p : Int) : Int := if p < 1 then 0 else match L[p.toNat]? with | none => 0 | some _ => match L[p.toNat - 1]? with | none => 0 | some v => v.n
def lifeE (L : List Rw) (p : Int) : Int := if p < 0 ∨ (L.length : Int) ≤ p then 5 else 0

/-- of the first j versions those that stay -/
def kpR (s : Int) (a : Nat) (z : Rw × Nat) : Bool := decide (s < z.1.n) || (z.2 == a && !z.1.gn)
def prnJ (L : List Rw) (s : Int) (j : Nat) : List Rw := ((L.take j).zipIdx.filter (kpR s (atN L s))).map Prod.fst
def prnL (L : List Rw) (s : Int) : List Rw := prnJ L s L.length
theorem prnJ_zero (L : List Rw) (s : Int) : prnJ L s 0 = [] := rfl
theorem prnJ_succ {L : List Rw} {s : Int} {j : Nat} (hj : j < L.length) : prnJ L s (j + 1) = prnJ L s j ++ (if kpR s (atN L s) (L[j], j) then [L[j]] else []) := by
  unfold prnJ
  rw [List.take_add_one, List.getElem?_eq_getElem hj, List.zipIdx_append, List.filter_append, List.map_append]
  have e : (L.take j).length = j := by rw [List.length_take]; omega
  simp only [Option.toList, List.zipIdx_cons, List.zipIdx_nil, e, Nat.zero_add]
  cases h : kpR s (atN L s) (L[j], j) <;> simp [h]
theorem prnJ_len (L : List Rw) (s : Int) (j : Nat) : (prnJ L s j).length ≤ j := by
  unfold prnJ
  rw [List.length_map]
  refine Nat.le_trans (List.length_filter_le _ _) ?_
  simp
  omega
theorem prnL_len (L : List Rw) (s : Int) : (prnL L s).length ≤ L.length := prnJ_len _ _ _

/-- writes below a level; is one above it? -/
def belL (L : List Rw) (s : Int) : List Rw := L.filter (fun v => decide (v.n < s))
def abvL (L : List Rw) (s : Int) : Bool := L.any (fun v => decide (s < v.n))
theorem bel_take {L : List Rw} {s : Int} {j : Nat} (hj : j < L.length) : belL (L.take (j + 1)) s = belL (L.take j) s ++ (if L[j].n < s then [L[j]] else []) := by
  unfold belL
  rw [List.take_add_one, List.getElem?_eq_getElem hj, List.filter_append]
  by_cases h : L[j].n < s <;> simp [h]
theorem bel_all (L : List Rw) (s : Int) : belL (L.take L.length) s = belL L s := by rw [List.take_length]
theorem bel_len (L : List Rw) (s : Int) (j : Nat) : (belL (L.take j) s).length ≤ j := by
  unfold belL
  refine Nat.le_trans (List.length_filter_le _ _) ?_
  simp
  omega
theorem belL_len (L : List Rw) (s : Int) : (belL L s).length ≤ L.length := List.length_filter_le _ _
theorem abv_true {L : List Rw} {s : Int} {j : Nat} (hj : j < L.length) (h1 : s < L[j].n) : abvL L s = true := by
  unfold abvL
  rw [List.any_eq_true]
  exact ⟨L[j], List.getElem_mem hj, by simp [h1]⟩
theorem abv_false {L : List Rw} {s : Int} (h : ∀ i (hi : i < L.length), L[i].n ≤ s) : abvL L s = false := by
  unfold abvL
  rw [List.any_eq_false]
  intro v hv
  obtain ⟨i, hi, rfl⟩ := List.getElem_of_mem hv
  simpa using h i hi
theorem abv_le {L : List Rw} {s : Int} (h : abvL L s = false) : ∀ i (hi : i < L.length), L[i].n ≤ s := by
  unfold abvL at h
  rw [List.any_eq_false] at h
  intro i hi
  have := h _ (List.getElem_mem hi)
  simpa using this
end Go.Proofs.Yteddpogjpohacab
