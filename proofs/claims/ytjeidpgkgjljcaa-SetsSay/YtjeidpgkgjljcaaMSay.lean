/- What follows of normal feet: a normal foot is its own normal foot and may be; it reads what it is made of; feet are merged the same in any grouping. -/
import Derived.Test.YtjeidpgkgjljcaaWMg
namespace Go.Proofs.Ytjeidpgkgjljcaa
open Go.RowKit
set_option maxRecDepth 100000

theorem NrmF.self {f g : Ft} (h : NrmF f g) : NrmF g g :=
  ⟨h.s1, fun _ => rfl, h.p1, fun x => ⟨fun hx => ⟨hx, by rw [h.s2]; exact ((h.p2 x).1 hx).2⟩, fun hx => hx.1⟩, h.w1, fun _ => Iff.rfl, Nat.le_refl _, Nat.le_refl _, Nat.le_refl _⟩
theorem rds_iff (f : Ft) (x : Pt) : f.rds x ↔ x ∈ f.P ∨ anyS f.S x = true := by
  unfold Ft.rds
  rw [anyS_iff]
theorem NrmF.reads {f g : Ft} (h : NrmF f g) (x : Pt) : g.rds x ↔ f.rds x := by
  rw [rds_iff, rds_iff, h.p2, h.s2]
  cases anyS f.S x <;> simp
theorem chk_iff (f : Ft) : chkF f = 0 ↔ f.size ≤ 65536 ∧ (∀ x ∈ f.P, plB x.t x.i = true) ∧ (∀ s ∈ f.S, plB s.t s.i = true) ∧ (∀ x ∈ f.W, plB x.t x.i = true) := by
  unfold chkF
  by_cases h : 65536 < f.size
  · rw [if_pos h]
    constructor
    · intro h1; cases h1
    · rintro ⟨h1, _⟩; omega
  · rw [if_neg h]
    by_cases h2 : (f.P.any (fun y : Pt => !plB y.t y.i) || (f.S.any (fun y : Sp => !plB y.t y.i) || f.W.any (fun y : Pt => !plB y.t y.i))) = true
    · rw [if_pos h2]
      constructor
      · intro h1; cases h1
      · rintro ⟨_, h3, h4, h5⟩
        exfalso
        rw [Bool.or_eq_true, Bool.or_eq_true, List.any_eq_true, List.any_eq_true, List.any_eq_true] at h2
        rcases h2 with ⟨x, hx, e⟩ | ⟨x, hx, e⟩ | ⟨x, hx, e⟩
        · rw [h3 x hx] at e; cases e
        · rw [h4 x hx] at e; cases e
        · rw [h5 x hx] at e; cases e
    · rw [if_neg h2]
      refine ⟨fun _ => ⟨by omega, ?_, ?_, ?_⟩, fun _ => rfl⟩
      all_goals
        intro x hx
        cases hp : plB x.t x.i
        · exfalso
          apply h2
          rw [Bool.or_eq_true, Bool.or_eq_true, List.any_eq_true, List.any_eq_true, List.any_eq_true]
          first | exact .inl ⟨x, hx, by rw [hp]; rfl⟩ | exact .inr (.inl ⟨x, hx, by rw [hp]; rfl⟩) | exact .inr (.inr ⟨x, hx, by rw [hp]; rfl⟩)
        · rfl
/-- a normal foot may be -/
theorem NrmF.chk {f g : Ft} (h : NrmF f g) (hc : chkF f = 0) : chkF g = 0 := by
  obtain ⟨h1, h2, h3, h4⟩ := (chk_iff f).1 hc
  refine (chk_iff g).2 ⟨?_, fun x hx => h2 x ((h.p2 x).1 hx).1, fun s hs => ?_, fun x hx => h4 x ((h.w2 x).1 hx)⟩
  · have k0 := h.lp
    have k1 := h.ls
    have k2 := h.lw
    unfold Ft.size at *
    omega
  · have h5 : anyS f.S (bgn s) = true := by
      rw [← h.s2]
      exact (anyS_iff _ _).2 ⟨s, hs, bgn_in (h.s1.1 s hs)⟩
    obtain ⟨s', hs', hin⟩ := (anyS_iff _ _).1 h5
    obtain ⟨e1, e2, _⟩ := (inS_iff _ _).1 hin
    have e1' : s.t = s'.t := e1
    have e2' : s.i = s'.i := e2
    rw [e1', e2']
    exact h3 s' hs'
theorem anyS_bth (a b : Ft) (x : Pt) : anyS (a.bth b).S x = (anyS a.S x || anyS b.S x) := by
  unfold anyS Ft.bth
  exact List.any_append
theorem mem_bthP (a b : Ft) (x : Pt) : x ∈ (a.bth b).P ↔ x ∈ a.P ∨ x ∈ b.P := List.mem_append
theorem mem_bthW (a b : Ft) (x : Pt) : x ∈ (a.bth b).W ↔ x ∈ a.W ∨ x ∈ b.W := List.mem_append
/-- three are merged the same in any grouping -/
theorem NrmF.assoc {a b c ab bc g h : Ft} (h1 : NrmF (a.bth b) ab) (h2 : NrmF (b.bth c) bc) (h3 : NrmF (ab.bth c) g) (h4 : NrmF (a.bth bc) h) : g = h := by
  refine h3.uniq h4 (fun x => ?_) (fun x hx => ?_) (fun x => ?_)
  · rw [anyS_bth, anyS_bth, h1.s2, h2.s2, anyS_bth, anyS_bth, Bool.or_assoc]
  · rw [anyS_bth, h1.s2, anyS_bth] at hx
    simp only [Bool.or_eq_false_iff] at hx
    obtain ⟨⟨xa, xb⟩, xc⟩ := hx
    rw [mem_bthP, mem_bthP, h1.p2, h2.p2, anyS_bth, anyS_bth, mem_bthP, mem_bthP, xa, xb, xc]
    simp [or_assoc]
  · rw [mem_bthW, mem_bthW, h1.w2, h2.w2, mem_bthW, mem_bthW, or_assoc]
end Go.Proofs.Ytjeidpgkgjljcaa
