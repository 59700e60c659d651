/- Feet as the law of SetsSay sees them. -/
import Derived.Test.YtjeidpgkgjljcaaMSay
import Derived.Test.YtjeidpgkgjljcaaWAw17
namespace Go.Proofs.Ytjeidpgkgjljcaa
open Go.RowKit
set_option maxRecDepth 100000

theorem rcopyF (a : Ft) (va0 va1 va2 : Value) (w : World) (ha : RdF w va0 va1 va2 a) :
    Calls Try.prog 6 #[.agg #[va0, va1, va2]] w fun e w' => ∃ v0 v1 v2, e = .returned (.agg #[v0, v1, v2]) ∧ RdF w' v0 v1 v2 a ∧ Below w.heap.size w w' :=
  (rcopy_any a va0 va1 va2 w ha).mono fun _ _ ⟨v0, v1, v2, e, h0, h1, h2, hb⟩ => ⟨v0, v1, v2, e, ⟨h0.sl, h1.sl, h2.sl, ha.lp, ha.ls, ha.lw⟩, hb⟩

theorem rsameF (a : Ft) (va0 va1 va2 vb0 vb1 vb2 : Value) (w : World) (ha : RdF w va0 va1 va2 a) (hb : RdF w vb0 vb1 vb2 a) :
    Calls Try.prog 12 #[.agg #[va0, va1, va2], .agg #[vb0, vb1, vb2]] w fun e w' => e = .returned (.bool true) ∧ Below w.heap.size w w' := by
  obtain ⟨p0, c0, rfl, _, _, h0⟩ := ha.p.f
  obtain ⟨p1, c1, rfl, _, _, h1⟩ := ha.s.f
  obtain ⟨p2, c2, rfl, _, _, h2⟩ := ha.w.f
  obtain ⟨p3, c3, rfl, _, _, h3⟩ := hb.p.f
  obtain ⟨p4, c4, rfl, _, _, h4⟩ := hb.s.f
  obtain ⟨p5, c5, rfl, _, _, h5⟩ := hb.w.f
  exact rsame_yes a p0 p1 p2 p3 p4 p5 c0 c1 c2 c3 c4 c5 w h0 h1 h2 h3 h4 h5 ha.lp ha.ls ha.lw

/-- what Norm answers -/
def NrO (f g : Ft) : Prop := (chkF f ≠ 0 ∧ g = ⟨[], [], []⟩) ∨ (chkF f = 0 ∧ NrmF f g)

theorem rdNil (w : World) : RdF w (.slice none 0 0) (.slice none 0 0) (.slice none 0 0) ⟨[], [], []⟩ := ⟨(OwnP.nil w 0).sl, (OwnS.nil w 0).sl, (OwnP.nil w 0).sl, by simp, by simp, by simp⟩

theorem chk_size {f : Ft} (h : chkF f = 0) : f.P.length ≤ 65536 ∧ f.S.length ≤ 65536 ∧ f.W.length ≤ 65536 := by
  unfold chkF at h
  by_cases h9 : 65536 < f.size
  · rw [if_pos h9] at h; cases h
  · unfold Ft.size at h9; omega

theorem norm_rd (f : Ft) (va0 va1 va2 : Value) (w : World) (hf : RdF w va0 va1 va2 f) :
    Calls Try.prog 16 #[.agg #[va0, va1, va2]] w fun e w' => ∃ x0 x1 x2 g, e = .returned (.tuple #[.agg #[x0, x1, x2], .int .i64 (chkF f)]) ∧ RdF w' x0 x1 x2 g ∧ NrO f g ∧ Below w.heap.size w w' := by
  refine (norm_any f va0 va1 va2 w hf).mono ?_
  rintro e w' ⟨⟨h1, rfl⟩ | ⟨h1, x0, x1, x2, g, rfl, h2, h3, h4, h5⟩, hb⟩
  · exact ⟨_, _, _, _, rfl, rdNil w', .inl ⟨h1, rfl⟩, hb⟩
  · obtain ⟨l0, l1, l2⟩ := chk_size h1
    refine ⟨x0, x1, x2, g, by rw [h1], ⟨h2.sl, h3.sl, h4.sl, ?_, ?_, ?_⟩, .inr ⟨h1, h5⟩, hb⟩
    · have := h5.lp; omega
    · have := h5.ls; omega
    · have := h5.lw; omega

theorem mr_rd {w : World} {B : Nat} {a b g : Ft} {x0 x1 x2 : Value} (h : MrO a b g) (h0 : OwnP w B x0 g.P) (h1 : OwnS w B x1 g.S) (h2 : OwnP w B x2 g.W) : RdF w x0 x1 x2 g := by
  have hl : g.P.length ≤ 131072 ∧ g.S.length ≤ 131072 ∧ g.W.length ≤ 131072 := by
    rcases h with ⟨_, rfl⟩ | ⟨hc, hN⟩
    · simp
    · have hca : chkF a = 0 := by
        apply Classical.byContradiction
        intro hn
        unfold chkM at hc
        rw [if_pos hn] at hc
        exact hn hc
      have hcb : chkF b = 0 := by
        apply Classical.byContradiction
        intro hn
        unfold chkM at hc
        rw [if_neg (by simpa using hca), if_pos hn] at hc
        exact hn hc
      obtain ⟨a0, a1, a2⟩ := chk_size hca
      obtain ⟨b0, b1, b2⟩ := chk_size hcb
      have k0 := hN.lp
      have k1 := hN.ls
      have k2 := hN.lw
      simp only [Ft.bth, List.length_append] at k0 k1 k2
      omega
  exact ⟨h0.sl, h1.sl, h2.sl, by omega, by omega, by omega⟩

/-- a box that holds a foot -/
structure Bx17 (w : World) (β : Nat) (p0 p1 p2 : Option Addr) (n0 n1 n2 c0 c1 c2 : Nat) (f : Ft) : Prop where
  k : Blk w β #[.slice p0 n0 c0, .slice p1 n1 c1, .slice p2 n2 c2] 25
  r : RdF w (.slice p0 n0 c0) (.slice p1 n1 c1) (.slice p2 n2 c2) f
theorem Bx17.on {w w' : World} {β : Nat} {p0 p1 p2 : Option Addr} {n0 n1 n2 c0 c1 c2 : Nat} {f : Ft} (h : Bx17 w β p0 p1 p2 n0 n1 n2 c0 c1 c2 f) (hb : Below w.heap.size w w') : Bx17 w' β p0 p1 p2 n0 n1 n2 c0 c1 c2 f := ⟨h.k.on hb, h.r.on hb⟩
theorem Bx17.new {w : World} {p0 p1 p2 : Option Addr} {n0 n1 n2 c0 c1 c2 : Nat} {f : Ft} (h : RdF w (.slice p0 n0 c0) (.slice p1 n1 c1) (.slice p2 n2 c2) f) : Bx17 (w.alloc (.cells #[.slice p0 n0 c0, .slice p1 n1 c1, .slice p2 n2 c2] 25)) w.heap.size p0 p1 p2 n0 n1 n2 c0 c1 c2 f :=
  ⟨Blk.new w _ _, h.on ((Below.refl _ _).alloc (Nat.le_refl _) _)⟩
theorem RdF.sls {w : World} {v0 v1 v2 : Value} {f : Ft} (h : RdF w v0 v1 v2 f) : ∃ p0 p1 p2 n0 n1 n2 c0 c1 c2, v0 = .slice p0 n0 c0 ∧ v1 = .slice p1 n1 c1 ∧ v2 = .slice p2 n2 c2 := by
  obtain ⟨q0, d0, e0, _⟩ := h.p.f
  obtain ⟨q1, d1, e1, _⟩ := h.s.f
  obtain ⟨q2, d2, e2, _⟩ := h.w.f
  exact ⟨_, _, _, _, _, _, _, _, _, e0, e1, e2⟩
theorem NrO.ok {f g : Ft} (h : NrO f g) (hc : chkF f = 0) : NrmF f g := by
  rcases h with ⟨h1, _⟩ | ⟨_, h1⟩
  · exact absurd hc h1
  · exact h1
theorem MrO.ok {a b g : Ft} (h : MrO a b g) (hc : chkM a b = 0) : NrmF (a.bth b) g := by
  rcases h with ⟨h1, _⟩ | ⟨_, h1⟩
  · exact absurd hc h1
  · exact h1
/-- Norm of Norm -/
theorem NrO.self {f g h : Ft} (hf : NrO f g) (hc : chkF f = 0) (hg : NrO g h) : chkF g = 0 ∧ h = g := by
  have h1 := hf.ok hc
  have h2 := h1.chk hc
  exact ⟨h2, (hg.ok h2).same h1.self⟩
theorem rdsB_nrm {f g : Ft} (h : NrmF f g) (x : Pt) : rdsB g x = rdsB f x := by
  rw [Bool.eq_iff_iff, rdsB_iff, rdsB_iff]
  exact h.reads x
end Go.Proofs.Ytjeidpgkgjljcaa
