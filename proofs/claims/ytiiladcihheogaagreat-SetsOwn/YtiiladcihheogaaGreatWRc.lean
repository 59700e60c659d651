/- The document's Norm. Feet and their normal feet, as laws see them. -/
import Derived.Test.YtiiladcihheogaaGreatWRn2
import Derived.Test.YtiiladcihheogaaGreatWAw17
namespace Go.Proofs.YtiiladcihheogaaGreat

section
open Go.RowKit
set_option maxRecDepth 100000

theorem rowS_ne {w : World} {p : Option Addr} {L : List Sp} {g : Nat} {cs : Array Value} {T : TypeId} (h : RowS w w.heap.size p L) (hb : Blk w g cs T) (hcs : ∀ (i : Nat) (v : Value), cs[i]? = some v → ∃ a n c, v = Value.slice a n c) : ∀ b o, p = some ⟨b, o, none⟩ → b < w.heap.size → L ≠ [] → ¬ b = g := by
  intro b o e _ hL e2
  subst e2
  obtain ⟨b', o', e', _, c0, _⟩ := h 0 (List.length_pos_iff.2 hL)
  rw [e] at e'
  cases e'
  have h9 : w.cell? ⟨b, o + 0 * 5, none⟩ = cs[o + 0 * 5]? := by
    unfold Blk at hb
    simp [World.cell?, hb]
  rw [h9] at c0
  obtain ⟨a, n, c, e9⟩ := hcs _ _ c0
  cases e9
theorem SlS.frm1 {w w' : World} {v : Value} {L : List Sp} {g : Nat} {cs : Array Value} {T : TypeId} (h : SlS w v L) (hf : Frm w w' (fun k => k = g)) (hb : Blk w g cs T) (hcs : ∀ (i : Nat) (v : Value), cs[i]? = some v → ∃ a n c, v = Value.slice a n c) : SlS w' v L := by
  obtain ⟨p, c, e, h1, h2, h3⟩ := h.f
  exact ⟨p, c, e, h1, h2, h3.frm hf (rowS_ne h3 hb hcs)⟩
theorem RdF.frm1 {w w' : World} {v0 v1 v2 : Value} {f : Ft} {g : Nat} {cs : Array Value} {T : TypeId} (h : RdF w v0 v1 v2 f) (hf : Frm w w' (fun k => k = g)) (hb : Blk w g cs T) (hcs : ∀ (i : Nat) (v : Value), cs[i]? = some v → ∃ a n c, v = Value.slice a n c) : RdF w' v0 v1 v2 f := ⟨h.p.frm1 hf hb hcs, h.s.frm1 hf hb hcs, h.w.frm1 hf hb hcs, h.lp, h.ls, h.lw⟩

set_option maxHeartbeats 8000000 in
theorem rnorm_any (f : Ft) (va0 va1 va2 : Value) (w : World) (hf : RdF w va0 va1 va2 f) :
    Calls Tryz.prog 8 #[.agg #[va0, va1, va2]] w fun e w' => (chkF f ≠ 0 ∧ e = .returned (.tuple #[.agg #[.slice none 0 0, .slice none 0 0, .slice none 0 0], .int .i64 (chkF f)]) ∨ chkF f = 0 ∧ ∃ x0 x1 x2 g, e = .returned (.tuple #[.agg #[x0, x1, x2], .int .i64 0]) ∧ RdF w' x0 x1 x2 g ∧ NrmF f g) ∧ Below w.heap.size w w' := by
  obtain ⟨w3, hw3⟩ : ∃ w3, ((w.alloc (.cells #[va0, va1, va2] 25)).alloc (.cells #[.slice none 0 0, .slice none 0 0, .slice none 0 0] 25)) = w3 := ⟨_, rfl⟩
  have hz3 : w3.heap.size = w.heap.size + 1 + 1 := by rw [← hw3]; simp
  have HB3 : Hid (Below w.heap.size w w3) := by rw [← hw3]; exact ((Below.refl _ _).alloc (Nat.le_refl _) _).alloc (by simp) _
  have HKF : Hid (Blk w3 w.heap.size #[va0, va1, va2] 25) := by rw [← hw3]; exact (Blk.new w #[va0, va1, va2] 25).keep (B := w.heap.size + 1) ((Below.refl _ _).alloc (by simp) _) (by omega)
  have HKR : Hid (Blk w3 (w.heap.size + 1) #[.slice none 0 0, .slice none 0 0, .slice none 0 0] 25) := by
    rw [← hw3]
    have h := Blk.new (w.alloc (.cells #[va0, va1, va2] 25)) #[.slice none 0 0, .slice none 0 0, .slice none 0 0] 25
    rw [World.size_alloc] at h
    exact h
  have HA : Hid (RdF w3 va0 va1 va2 f) := hf.on HB3.out
  have HC : Hid (Calls _ _ _ _ _) := rcheck_any f va0 va1 va2 w3 HA.out
  have g0 := HKF.out.cell (i := 0) rfl
  have g1 := HKF.out.cell (i := 1) rfl
  have g2 := HKF.out.cell (i := 2) rfl
  clear hf
  obtain ⟨p1, n1, c1, ev1⟩ : ∃ p n c, va1 = .slice p n c := by
    obtain ⟨p, c, e, _⟩ := HA.out.s.f
    exact ⟨_, _, _, e⟩
  obtain ⟨p0, n0, c0, ev0⟩ : ∃ p n c, va0 = .slice p n c := by
    obtain ⟨p, c, e, _⟩ := HA.out.p.f
    exact ⟨_, _, _, e⟩
  obtain ⟨p2, n2, c2, ev2⟩ : ∃ p n c, va2 = .slice p n c := by
    obtain ⟨p, c, e, _⟩ := HA.out.w.f
    exact ⟨_, _, _, e⟩
  subst ev0 ev1 ev2
  go_enter Tryz.func8, Tryz.ntmps8
  go_wp2_with fail
  refine HC.out.mono ?_
  rintro e w4 ⟨rfl, hb4⟩
  clear HC g0 g1 g2 hw3
  have HB4 : Hid (Below w3.heap.size w3 w4) := hb4
  have HR4 : Hid (Blk w4 (w.heap.size + 1) #[.slice none 0 0, .slice none 0 0, .slice none 0 0] 25) := HKR.out.on hb4
  have hz4 := hb4.size
  have c0 := HR4.out.cell (i := 0) rfl
  have c1 := HR4.out.cell (i := 1) rfl
  have c2 := HR4.out.cell (i := 2) rfl
  have f0 := HR4.out.frozen 0
  have f1 := HR4.out.frozen 1
  have f2 := HR4.out.frozen 2
  clear hb4
  by_cases hc : chkF f = 0
  · have hsz : f.S.length ≤ 65536 := by
      unfold chkF at hc
      by_cases h9 : 65536 < f.size
      · rw [if_pos h9] at hc; cases hc
      · unfold Ft.size at h9; omega
    rw [hc]
    have HN : Hid (Calls _ _ _ _ _) := rnormal_any f _ _ _ w4 (HA.out.on HB4.out) hsz
    have hK4 := HKF.out.on HB4.out
    have g0 := hK4.cell (i := 0) rfl
    have g1 := hK4.cell (i := 1) rfl
    have g2 := hK4.cell (i := 2) rfl
    clear hK4 c0 c1 c2 f0 f1 f2
    go_wp2_with fail
    refine HN.out.mono ?_
    rintro e w5 ⟨x0, x1, x2, g, rfl, h0, hN, hb5⟩
    clear HN g0 g1 g2
    have HO : Hid (RdF w5 x0 x1 x2 g ∧ NrmF f g ∧ Below w4.heap.size w4 w5) := ⟨h0, hN, hb5⟩
    obtain ⟨q0, m0, d0, ex0⟩ : ∃ p n c, x0 = .slice p n c := by
      obtain ⟨p, c, e, _⟩ := h0.p.f
      exact ⟨_, _, _, e⟩
    obtain ⟨q1, m1, d1, ex1⟩ : ∃ p n c, x1 = .slice p n c := by
      obtain ⟨p, c, e, _⟩ := h0.s.f
      exact ⟨_, _, _, e⟩
    obtain ⟨q2, m2, d2, ex2⟩ : ∃ p n c, x2 = .slice p n c := by
      obtain ⟨p, c, e, _⟩ := h0.w.f
      exact ⟨_, _, _, e⟩
    subst ex0 ex1 ex2
    have HR5 : Hid (Blk w5 (w.heap.size + 1) #[.slice none 0 0, .slice none 0 0, .slice none 0 0] 25) := HR4.out.on hb5
    have hz5 := hb5.size
    clear h0 hN hb5
    have c0 := HR5.out.cell (i := 0) rfl
    have c1 := HR5.out.cell (i := 1) rfl
    have c2 := HR5.out.cell (i := 2) rfl
    have f0 := HR5.out.frozen 0
    have f1 := HR5.out.frozen 1
    have f2 := HR5.out.frozen 2
    obtain ⟨we, hwe⟩ : ∃ we, (((w5.setCell ⟨w.heap.size + 1, 0, none⟩ (.slice q0 m0 d0)).setCell ⟨w.heap.size + 1, 1, none⟩ (.slice q1 m1 d1)).setCell ⟨w.heap.size + 1, 2, none⟩ (.slice q2 m2 d2)) = we := ⟨_, rfl⟩
    have HF : Hid (Frm w5 we (fun k => k = w.heap.size + 1)) := by rw [← hwe]; exact ((frm_set _ _ _ _ (F := fun k => k = w.heap.size + 1) (.inl rfl)).trans (frm_set _ _ _ _ (F := fun k => k = w.heap.size + 1) (.inl rfl)) (fun k hk => .inl hk)).trans (frm_set _ _ _ _ (F := fun k => k = w.heap.size + 1) (.inl rfl)) (fun k hk => .inl hk)
    have HR : Hid (Blk we (w.heap.size + 1) #[.slice q0 m0 d0, .slice q1 m1 d1, .slice q2 m2 d2] 25) := by rw [← hwe]; exact ((HR5.out.set 0 _).set 1 _).set 2 _
    have r0 := HR.out.cell (i := 0) rfl
    have r1 := HR.out.cell (i := 1) rfl
    have r2 := HR.out.cell (i := 2) rfl
    go_wp2_with fail
    refine bodyPost_ret (v := .tuple #[.agg #[.slice q0 m0 d0, .slice q1 m1 d1, .slice q2 m2 d2], .int .i64 0]) (by simp [results, Tryz.results8, go_sem, r0, r1, r2]) rfl ?_
    obtain ⟨h0, hN, hb5⟩ := HO.out
    refine ⟨.inr ⟨hc, _, _, _, g, rfl, h0.frm1 HF.out HR5.out (slices3 _ _ _ _ _ _ _ _ _), hN⟩, ?_⟩
    have h8 : Below w.heap.size w w5 := HB3.out.trans ((HB4.out.mono (by omega)).trans (hb5.mono (by omega)))
    exact h8.trans (HF.out.below (by have := h8.size; omega) (fun k hk => by omega))
  · have hne : (chkF f == 0) = false := by simpa using hc
    have HX : Hid (chkF f ≠ 0) := hc
    clear hc
    obtain ⟨we, hwe⟩ : ∃ we, (((w4.setCell ⟨w.heap.size + 1, 0, none⟩ (.slice none 0 0)).setCell ⟨w.heap.size + 1, 1, none⟩ (.slice none 0 0)).setCell ⟨w.heap.size + 1, 2, none⟩ (.slice none 0 0)) = we := ⟨_, rfl⟩
    have HF : Hid (Frm w4 we (fun k => k = w.heap.size + 1)) := by rw [← hwe]; exact ((frm_set _ _ _ _ (F := fun k => k = w.heap.size + 1) (.inl rfl)).trans (frm_set _ _ _ _ (F := fun k => k = w.heap.size + 1) (.inl rfl)) (fun k hk => .inl hk)).trans (frm_set _ _ _ _ (F := fun k => k = w.heap.size + 1) (.inl rfl)) (fun k hk => .inl hk)
    have HR : Hid (Blk we (w.heap.size + 1) #[.slice none 0 0, .slice none 0 0, .slice none 0 0] 25) := by rw [← hwe]; exact ((HR4.out.set 0 _).set 1 _).set 2 _
    have r0 := HR.out.cell (i := 0) rfl
    have r1 := HR.out.cell (i := 1) rfl
    have r2 := HR.out.cell (i := 2) rfl
    go_wp2_with fail
    refine bodyPost_ret (v := .tuple #[.agg #[.slice none 0 0, .slice none 0 0, .slice none 0 0], .int .i64 (chkF f)]) (by simp [results, Tryz.results8, go_sem, r0, r1, r2]) rfl ?_
    refine ⟨.inl ⟨HX.out, rfl⟩, ?_⟩
    have h8 : Below w.heap.size w w4 := HB3.out.trans (HB4.out.mono (by omega))
    exact h8.trans (HF.out.below (by have := h8.size; omega) (fun k hk => by omega))

end

section
open Go.RowKit
set_option maxRecDepth 100000

theorem rcopyF (a : Ft) (va0 va1 va2 : Value) (w : World) (ha : RdF w va0 va1 va2 a) :
    Calls Tryz.prog 7 #[.agg #[va0, va1, va2]] w fun e w' => ∃ v0 v1 v2, e = .returned (.agg #[v0, v1, v2]) ∧ RdF w' v0 v1 v2 a ∧ Below w.heap.size w w' :=
  (rcopy_any a va0 va1 va2 w ha).mono fun _ _ ⟨v0, v1, v2, e, h0, h1, h2, hb⟩ => ⟨v0, v1, v2, e, ⟨h0.sl, h1.sl, h2.sl, ha.lp, ha.ls, ha.lw⟩, hb⟩

theorem rsameF (a : Ft) (va0 va1 va2 vb0 vb1 vb2 : Value) (w : World) (ha : RdF w va0 va1 va2 a) (hb : RdF w vb0 vb1 vb2 a) :
    Calls Tryz.prog 9 #[.agg #[va0, va1, va2], .agg #[vb0, vb1, vb2]] w fun e w' => e = .returned (.bool true) ∧ Below w.heap.size w w' := by
  obtain ⟨p0, c0, rfl, _, _, h0⟩ := ha.p.f
  obtain ⟨p1, c1, rfl, _, _, h1⟩ := ha.s.f
  obtain ⟨p2, c2, rfl, _, _, h2⟩ := ha.w.f
  obtain ⟨p3, c3, rfl, _, _, h3⟩ := hb.p.f
  obtain ⟨p4, c4, rfl, _, _, h4⟩ := hb.s.f
  obtain ⟨p5, c5, rfl, _, _, h5⟩ := hb.w.f
  exact rsame_yes a p0 p1 p2 p3 p4 p5 c0 c1 c2 c3 c4 c5 w h0 h1 h2 h3 h4 h5 ha.lp ha.ls ha.lw

/-- what Norm answers -/
def NrO (f g : Ft) : Prop := (chkF f ≠ 0 ∧ g = ⟨[], [], []⟩) ∨ (chkF f = 0 ∧ NrmF f g)
theorem NrO.uniq {f g h : Ft} (hg : NrO f g) (hh : NrO f h) : g = h := by
  rcases hg with ⟨h1, rfl⟩ | ⟨h1, hg⟩
  · rcases hh with ⟨_, rfl⟩ | ⟨h2, _⟩
    · rfl
    · exact absurd h2 h1
  · rcases hh with ⟨h2, _⟩ | ⟨_, hh⟩
    · exact absurd h1 h2
    · exact hg.same hh
theorem rdNil (w : World) : RdF w (.slice none 0 0) (.slice none 0 0) (.slice none 0 0) ⟨[], [], []⟩ := ⟨(OwnP.nil w 0).sl, (OwnS.nil w 0).sl, (OwnP.nil w 0).sl, by simp, by simp, by simp⟩
theorem chk_size {f : Ft} (h : chkF f = 0) : f.P.length ≤ 65536 ∧ f.S.length ≤ 65536 ∧ f.W.length ≤ 65536 := by
  unfold chkF at h
  by_cases h9 : 65536 < f.size
  · rw [if_pos h9] at h; cases h
  · unfold Ft.size at h9; omega
theorem norm_rd (f : Ft) (va0 va1 va2 : Value) (w : World) (hf : RdF w va0 va1 va2 f) :
    Calls Tryz.prog 6 #[.agg #[va0, va1, va2]] w fun e w' => ∃ x0 x1 x2 g, e = .returned (.tuple #[.agg #[x0, x1, x2], .int .i64 (chkF f)]) ∧ RdF w' x0 x1 x2 g ∧ NrO f g ∧ Below w.heap.size w w' := by
  refine (norm_any f va0 va1 va2 w hf).mono ?_
  rintro e w' ⟨⟨h1, rfl⟩ | ⟨h1, x0, x1, x2, g, rfl, h2, h3, h4, h5⟩, hb⟩
  · exact ⟨_, _, _, _, rfl, rdNil w', .inl ⟨h1, rfl⟩, hb⟩
  · obtain ⟨l0, l1, l2⟩ := chk_size h1
    refine ⟨x0, x1, x2, g, by rw [h1], ⟨h2.sl, h3.sl, h4.sl, ?_, ?_, ?_⟩, .inr ⟨h1, h5⟩, hb⟩
    · have := h5.lp; omega
    · have := h5.ls; omega
    · have := h5.lw; omega

theorem rnorm_rd (f : Ft) (va0 va1 va2 : Value) (w : World) (hf : RdF w va0 va1 va2 f) :
    Calls Tryz.prog 8 #[.agg #[va0, va1, va2]] w fun e w' => ∃ x0 x1 x2 g, e = .returned (.tuple #[.agg #[x0, x1, x2], .int .i64 (chkF f)]) ∧ RdF w' x0 x1 x2 g ∧ NrO f g ∧ Below w.heap.size w w' := by
  refine (rnorm_any f va0 va1 va2 w hf).mono ?_
  rintro e w' ⟨⟨h1, rfl⟩ | ⟨h1, x0, x1, x2, g, rfl, h2, h5⟩, hb⟩
  · exact ⟨_, _, _, _, rfl, rdNil w', .inl ⟨h1, rfl⟩, hb⟩
  · exact ⟨x0, x1, x2, g, by rw [h1], h2, .inr ⟨h1, h5⟩, hb⟩

end

end Go.Proofs.YtiiladcihheogaaGreat
