/- The document's Both. -/
import Derived.Test.YtiiladcihheogaaGreatWRs9
import Derived.Test.YtiiladcihheogaaGreatWCl7
namespace Go.Proofs.YtiiladcihheogaaGreat
open Go.RowKit
set_option maxRecDepth 100000

/-- what two lists have in common, under way -/
structure BthI (T : Pt → Prop) (A B : List Pt) : Prop where
  ra : RisP A
  rb : RisP B
  mem : ∀ z, T z ↔ (z ∈ A ∧ z ∈ B) ∧ (z.i == -1) = true
theorem BthI.nilA {T : Pt → Prop} {B : List Pt} (h : BthI T [] B) : IsMin T none := fun z hz => by
  have := ((h.mem z).1 hz).1.1
  cases this
theorem BthI.nilB {T : Pt → Prop} {A : List Pt} (h : BthI T A []) : IsMin T none := fun z hz => by
  have := ((h.mem z).1 hz).1.2
  cases this
theorem RisP.first {x y : Pt} {B : List Pt} (h : RisP (y :: B)) (hx : ltP x y = true) : ¬ x ∈ y :: B := by
  intro hm
  rcases List.mem_cons.1 hm with rfl | hm
  · rw [ltP_irrefl] at hx; cases hx
  · have := ltP_trans hx ((List.pairwise_cons.1 h).1 x hm)
    rw [ltP_irrefl] at this; cases this
theorem BthI.lt {T : Pt → Prop} {x y : Pt} {A B : List Pt} (h : BthI T (x :: A) (y :: B)) (hc : cmpP x y = -1) : BthI T A (y :: B) := by
  have hl := (cmpP_lt x y).1 (by omega)
  refine ⟨(List.pairwise_cons.1 h.ra).2, h.rb, fun z => ?_⟩
  rw [h.mem z]
  refine and_congr_left' ?_
  constructor
  · rintro ⟨h1, h2⟩
    rcases List.mem_cons.1 h1 with rfl | h1
    · exact absurd h2 (h.rb.first hl)
    · exact ⟨h1, h2⟩
  · rintro ⟨h1, h2⟩
    exact ⟨List.mem_cons_of_mem _ h1, h2⟩
theorem BthI.swap {T : Pt → Prop} {A B : List Pt} (h : BthI T A B) : BthI T B A := ⟨h.rb, h.ra, fun z => by rw [h.mem z]; exact and_congr_left' ⟨And.symm, And.symm⟩⟩
theorem BthI.gt {T : Pt → Prop} {x y : Pt} {A B : List Pt} (h : BthI T (x :: A) (y :: B)) (hc : cmpP x y = 1) : BthI T (x :: A) B := by
  refine (h.swap.lt ?_).swap
  rcases cmpP_spec y x with ⟨h1, -⟩ | ⟨-, h1⟩ | ⟨h1, -⟩
  · exact h1
  · have := (cmpP_eq x y).2 h1.symm; omega
  · have e1 : ltP x y = true := by
      rcases ltP_tri y x with h2 | h2 | h2
      · have := (cmpP_lt y x).2 h2; omega
      · have := (cmpP_eq y x).2 h2; omega
      · exact h2
    have := (cmpP_lt x y).2 e1
    omega
theorem BthI.ne {T : Pt → Prop} {x y : Pt} {A B : List Pt} (h : BthI T (x :: A) (y :: B)) (_hc : cmpP x y = 0) (hx : (x.i == -1) = false) : BthI T A (y :: B) := by
  refine ⟨(List.pairwise_cons.1 h.ra).2, h.rb, fun z => ?_⟩
  rw [h.mem z]
  constructor
  · rintro ⟨⟨h1, h2⟩, h3⟩
    rcases List.mem_cons.1 h1 with rfl | h1
    · rw [hx] at h3; cases h3
    · exact ⟨⟨h1, h2⟩, h3⟩
  · rintro ⟨⟨h1, h2⟩, h3⟩
    exact ⟨⟨List.mem_cons_of_mem _ h1, h2⟩, h3⟩
theorem BthI.found {T : Pt → Prop} {x y : Pt} {A B : List Pt} (h : BthI T (x :: A) (y :: B)) (hc : cmpP x y = 0) (hx : (x.i == -1) = true) : IsMin T (some x) := by
  have e := (cmpP_eq x y).1 hc
  subst e
  refine ⟨(h.mem x).2 ⟨⟨List.mem_cons_self .., List.mem_cons_self ..⟩, hx⟩, fun z hz => ?_⟩
  rcases List.mem_cons.1 ((h.mem z).1 hz).1.1 with rfl | h1
  · exact ltP_irrefl _
  · exact ltP_asymm ((List.pairwise_cons.1 h.ra).1 z h1)

