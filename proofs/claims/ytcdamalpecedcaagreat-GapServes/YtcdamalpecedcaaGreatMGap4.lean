/- Layer 13: who has its holds keeps them. -/
import Derived.Test.YtcdamalpecedcaaGreatWGl5
namespace Go.Proofs.YtcdamalpecedcaaGreat
open Go.RowKit
set_option maxRecDepth 100000

/-- nobody ahead of d is in its way -/
def GrM (D : List Dk) (d : Dk) : Prop := ∀ x ∈ D, x.t < d.t → wayB x.H d.H = false
def HadP (U : List Nat) (D : List Dk) : Prop := ∀ t ∈ U, ∃ d ∈ D, d.t = t ∧ GrM D d
def RisD (D : List Dk) : Prop := D.Pairwise (fun a b => a.t < b.t)
theorem RisD.lt {D : List Dk} (h : RisD D) {i j : Nat} (hi : i < D.length) (hj : j < D.length) (hij : i < j) : D[i].t < D[j].t := List.pairwise_iff_getElem.1 h i j hi hj hij
theorem RisD.lt_of {D : List Dk} (h : RisD D) {i j : Nat} (hi : i < D.length) (hj : j < D.length) (hij : D[i].t < D[j].t) : i < j := by
  rcases Nat.lt_trichotomy i j with h1 | h1 | h1
  · exact h1
  · subst h1; omega
  · have := h.lt hj hi h1
    omega
theorem RisD.same {D : List Dk} (h : RisD D) {x y : Dk} (hx : x ∈ D) (hy : y ∈ D) (e : x.t = y.t) : x = y := by
  obtain ⟨i, hi, rfl⟩ := List.getElem_of_mem hx
  obtain ⟨j, hj, rfl⟩ := List.getElem_of_mem hy
  rcases Nat.lt_trichotomy i j with h1 | h1 | h1
  · have := h.lt hi hj h1
    omega
  · subst h1; rfl
  · have := h.lt hj hi h1
    omega
theorem gr_iff {D : List Dk} (hr : RisD D) (k : Nat) (hk : k < D.length) : (ahD D D[k].H k).length = 0 ↔ GrM D D[k] := by
  unfold ahD GrM
  rw [List.length_map, List.length_eq_zero_iff, List.filter_eq_nil_iff]
  constructor
  · intro h x hx hlt
    obtain ⟨j, hj, rfl⟩ := List.getElem_of_mem hx
    have hjk := hr.lt_of hj hk hlt
    have h1 := h _ (List.mem_take_iff_getElem.2 ⟨j, by omega, rfl⟩)
    simpa using h1
  · intro h x hx
    obtain ⟨j, hj, rfl⟩ := List.mem_take_iff_getElem.1 hx
    have h1 := h D[j] (List.getElem_mem _) (hr.lt (by omega) hk (by omega))
    simp [h1]
theorem gr_zero {D : List Dk} (hr : RisD D) (hk : 0 < D.length) : GrM D D[0] := by
  intro x hx hlt
  obtain ⟨j, hj, rfl⟩ := List.getElem_of_mem hx
  have := hr.lt_of hj hk hlt
  omega
theorem step_new {D D' : List Dk} (h : StpD D D') (hr : RisD D') : ∀ x ∈ D', x ∈ D ∨ ∀ y ∈ D, y.t < x.t := by
  rcases h with rfl | ⟨d, rfl⟩ | ⟨i, hi, rfl⟩
  · exact fun x hx => .inl hx
  · intro x hx
    rcases List.mem_append.1 hx with h1 | h1
    · exact .inl h1
    · simp only [List.mem_cons, List.not_mem_nil, or_false] at h1
      subst h1
      exact .inr (fun y hy => (List.pairwise_append.1 hr).2.2 y hy _ (List.mem_cons_self))
  · exact fun x hx => .inl (List.mem_of_mem_eraseIdx hx)
theorem HadP.step {U : List Nat} {D D' : List Dk} (h : HadP U D) (hs : StpD D D') (hr : RisD D) (hr' : RisD D') : ∀ d ∈ D', d.t ∈ U → GrM D' d := by
  intro d hd hu x hx hlt
  obtain ⟨d0, hd0, e0, hg⟩ := h _ hu
  have hn := step_new hs hr'
  have hdD : d ∈ D := by
    rcases hn d hd with h1 | h1
    · exact h1
    · have := h1 d0 hd0
      omega
  have hxD : x ∈ D := by
    rcases hn x hx with h1 | h1
    · exact h1
    · have := h1 d0 hd0
      omega
  have e1 : d0 = d := hr.same hd0 hdD e0
  subst e1
  exact hg x hxD hlt
theorem HadP.nil (D : List Dk) : HadP [] D := fun t ht => by cases ht
theorem HadP.more {U : List Nat} {D : List Dk} (h : HadP U D) {k : Nat} (hk : k < D.length) (hg : GrM D D[k]) : HadP (U ++ [D[k].t]) D := by
  intro t ht
  rcases List.mem_append.1 ht with h1 | h1
  · exact h t h1
  · simp only [List.mem_cons, List.not_mem_nil, or_false] at h1
    subst h1
    exact ⟨_, List.getElem_mem hk, rfl, hg⟩
/-- the first one has its holds -/
theorem gr_first {w : World} {gb nx : Nat} {Y : List Tkr} (h : Gp w gb nx Y) (h0 : 0 < Y.length) : grT Y Y[0].x = true := by
  have h1 := h.inv.1.way 0 (by rw [List.length_map]; exact h0)
  rw [List.getElem_map] at h1
  have e1 : Y[0].x.A.filter (hasT (zs Y)) = Y[0].x.A.filter (fun a => decide (a ∈ tks (Y.map Tkr.x))) := List.filter_congr (fun a _ => hasT_tks Y a)
  rw [grT_ah, e1, h1]
  simp
end Go.Proofs.YtcdamalpecedcaaGreat
