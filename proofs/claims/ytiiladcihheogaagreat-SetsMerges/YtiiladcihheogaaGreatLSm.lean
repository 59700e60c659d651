/- Of the document: Merge. The law of SetsMerges. -/
import Derived.Test.YtiiladcihheogaaGreatWMg
import Derived.Test.YtiiladcihheogaaGreatWRc
import Derived.Deep.Cut
import Derived.Deep.CutRange
namespace Go.Proofs.YtiiladcihheogaaGreat

section
open Go.RowKit
set_option maxRecDepth 100000

theorem rbothF (a b : Ft) (va0 va1 va2 vb0 vb1 vb2 : Value) (w : World) (ha : RdF w va0 va1 va2 a) (hb : RdF w vb0 vb1 vb2 b) (hla : a.P.length ≤ 65536 ∧ a.S.length ≤ 65536 ∧ a.W.length ≤ 65536) (hlb : b.P.length ≤ 65536 ∧ b.S.length ≤ 65536 ∧ b.W.length ≤ 65536) :
    Calls Tryz.prog 19 #[.agg #[va0, va1, va2], .agg #[vb0, vb1, vb2]] w fun e w' => ∃ v0 v1 v2, e = .returned (.agg #[v0, v1, v2]) ∧ OwnP w' w.heap.size v0 (a.P ++ b.P) ∧ OwnS w' w.heap.size v1 (a.S ++ b.S) ∧ OwnP w' w.heap.size v2 (a.W ++ b.W) ∧ Below w.heap.size w w' := by
  obtain ⟨p0, c0, rfl, _, _, h0⟩ := ha.p.f
  obtain ⟨p1, c1, rfl, _, _, h1⟩ := ha.s.f
  obtain ⟨p2, c2, rfl, _, _, h2⟩ := ha.w.f
  obtain ⟨p3, c3, rfl, _, _, h3⟩ := hb.p.f
  obtain ⟨p4, c4, rfl, _, _, h4⟩ := hb.s.f
  obtain ⟨p5, c5, rfl, _, _, h5⟩ := hb.w.f
  exact rboth_core a b p0 p1 p2 p3 p4 p5 c0 c1 c2 c3 c4 c5 w h0 h1 h2 h3 h4 h5 (by omega) (by omega) (by omega)

set_option maxHeartbeats 16000000 in
theorem rmerge_any (a b : Ft) (va0 va1 va2 vb0 vb1 vb2 : Value) (w : World) (ha : RdF w va0 va1 va2 a) (hb : RdF w vb0 vb1 vb2 b) :
    Calls Tryz.prog 14 #[.agg #[va0, va1, va2], .agg #[vb0, vb1, vb2]] w fun e w' => ∃ x0 x1 x2 g, e = .returned (.tuple #[.agg #[x0, x1, x2], .int .i64 (chkM a b)]) ∧ RdF w' x0 x1 x2 g ∧ MrO a b g ∧ Below w.heap.size w w' := by
  obtain ⟨pa0, na0, ca0, eva0, ena0⟩ : ∃ p n c, va0 = .slice p n c ∧ n = a.P.length := by
    obtain ⟨p, c, e, _⟩ := ha.p.f
    exact ⟨_, _, _, e, rfl⟩
  obtain ⟨pa1, na1, ca1, eva1, ena1⟩ : ∃ p n c, va1 = .slice p n c ∧ n = a.S.length := by
    obtain ⟨p, c, e, _⟩ := ha.s.f
    exact ⟨_, _, _, e, rfl⟩
  obtain ⟨pa2, na2, ca2, eva2, ena2⟩ : ∃ p n c, va2 = .slice p n c ∧ n = a.W.length := by
    obtain ⟨p, c, e, _⟩ := ha.w.f
    exact ⟨_, _, _, e, rfl⟩
  obtain ⟨pb0, nb0, cb0, evb0, enb0⟩ : ∃ p n c, vb0 = .slice p n c ∧ n = b.P.length := by
    obtain ⟨p, c, e, _⟩ := hb.p.f
    exact ⟨_, _, _, e, rfl⟩
  obtain ⟨pb1, nb1, cb1, evb1, enb1⟩ : ∃ p n c, vb1 = .slice p n c ∧ n = b.S.length := by
    obtain ⟨p, c, e, _⟩ := hb.s.f
    exact ⟨_, _, _, e, rfl⟩
  obtain ⟨pb2, nb2, cb2, evb2, enb2⟩ : ∃ p n c, vb2 = .slice p n c ∧ n = b.W.length := by
    obtain ⟨p, c, e, _⟩ := hb.w.f
    exact ⟨_, _, _, e, rfl⟩
  subst eva0 eva1 eva2 evb0 evb1 evb2
  have HEn : Hid (na0 = a.P.length ∧ na1 = a.S.length ∧ na2 = a.W.length ∧ nb0 = b.P.length ∧ nb1 = b.S.length ∧ nb2 = b.W.length) := ⟨ena0, ena1, ena2, enb0, enb1, enb2⟩
  clear ena0 ena1 ena2 enb0 enb1 enb2
  obtain ⟨w3, hw3⟩ : ∃ w3, (((w.alloc (.cells #[.slice pa0 na0 ca0, .slice pa1 na1 ca1, .slice pa2 na2 ca2] 25)).alloc (.cells #[.slice pb0 nb0 cb0, .slice pb1 nb1 cb1, .slice pb2 nb2 cb2] 25)).alloc (.cells #[.slice none 0 0, .slice none 0 0, .slice none 0 0] 25)) = w3 := ⟨_, rfl⟩
  have hz3 : w3.heap.size = w.heap.size + 1 + 1 + 1 := by rw [← hw3]; simp
  have HB3 : Hid (Below w.heap.size w w3) := by rw [← hw3]; exact (((Below.refl _ _).alloc (Nat.le_refl _) _).alloc (by simp) _).alloc (by simp; omega) _
  have HKA : Hid (Blk w3 w.heap.size #[.slice pa0 na0 ca0, .slice pa1 na1 ca1, .slice pa2 na2 ca2] 25) := by rw [← hw3]; exact (Blk.new w #[.slice pa0 na0 ca0, .slice pa1 na1 ca1, .slice pa2 na2 ca2] 25).keep (B := w.heap.size + 1) (((Below.refl _ _).alloc (by simp) _).alloc (by simp) _) (by omega)
  have HKB : Hid (Blk w3 (w.heap.size + 1) #[.slice pb0 nb0 cb0, .slice pb1 nb1 cb1, .slice pb2 nb2 cb2] 25) := by
    rw [← hw3]
    have h := Blk.new (w.alloc (.cells #[.slice pa0 na0 ca0, .slice pa1 na1 ca1, .slice pa2 na2 ca2] 25)) #[.slice pb0 nb0 cb0, .slice pb1 nb1 cb1, .slice pb2 nb2 cb2] 25
    rw [World.size_alloc] at h
    exact h.keep (B := w.heap.size + 1 + 1) ((Below.refl _ _).alloc (by simp) _) (by omega)
  have HKR : Hid (Blk w3 (w.heap.size + 1 + 1) #[.slice none 0 0, .slice none 0 0, .slice none 0 0] 25) := by
    rw [← hw3]
    have h := Blk.new ((w.alloc (.cells #[.slice pa0 na0 ca0, .slice pa1 na1 ca1, .slice pa2 na2 ca2] 25)).alloc (.cells #[.slice pb0 nb0 cb0, .slice pb1 nb1 cb1, .slice pb2 nb2 cb2] 25)) #[.slice none 0 0, .slice none 0 0, .slice none 0 0] 25
    rw [World.size_alloc, World.size_alloc] at h
    exact h
  have HA : Hid (RdF w _ _ _ a) := ha
  have HBb : Hid (RdF w _ _ _ b) := hb
  have C1 : Hid (Calls _ _ _ _ _) := rcheck_any a _ _ _ w3 (ha.on HB3.out)
  have g0 := HKA.out.cell (i := 0) rfl
  have g1 := HKA.out.cell (i := 1) rfl
  have g2 := HKA.out.cell (i := 2) rfl
  have g3 := HKB.out.cell (i := 0) rfl
  have g4 := HKB.out.cell (i := 1) rfl
  have g5 := HKB.out.cell (i := 2) rfl
  clear ha hb
  go_enter Tryz.func14, Tryz.ntmps14
  go_wp2_with fail
  refine C1.out.mono ?_
  rintro e w4 ⟨rfl, hb4⟩
  clear C1 hw3 g0 g1 g2 g3 g4 g5
  have HB34 : Hid (Below w3.heap.size w3 w4) := hb4
  have HB4 : Hid (Below w.heap.size w w4) := HB3.out.trans (hb4.mono HB3.out.size)
  have HRes : Hid (Blk w4 (w.heap.size + 1 + 1) #[.slice none 0 0, .slice none 0 0, .slice none 0 0] 25) := HKR.out.on hb4
  have HKA4 : Hid (Blk w4 w.heap.size #[.slice pa0 na0 ca0, .slice pa1 na1 ca1, .slice pa2 na2 ca2] 25) := HKA.out.on hb4
  have HKB4 : Hid (Blk w4 (w.heap.size + 1) #[.slice pb0 nb0 cb0, .slice pb1 nb1 cb1, .slice pb2 nb2 cb2] 25) := HKB.out.on hb4
  have hz4 := hb4.size
  clear hb4
  by_cases hca : chkF a = 0
  · rw [hca]
    have C2 : Hid (Calls _ _ _ _ _) := rcheck_any b _ _ _ w4 (HBb.out.on HB4.out)
    have g0 := HKA4.out.cell (i := 0) rfl
    have g1 := HKA4.out.cell (i := 1) rfl
    have g2 := HKA4.out.cell (i := 2) rfl
    have g3 := HKB4.out.cell (i := 0) rfl
    have g4 := HKB4.out.cell (i := 1) rfl
    have g5 := HKB4.out.cell (i := 2) rfl
    go_wp2_with fail
    refine C2.out.mono ?_
    rintro e w5 ⟨rfl, hb5⟩
    clear C2 g0 g1 g2 g3 g4 g5
    have HB5 : Hid (Below w.heap.size w w5) := HB4.out.trans (hb5.mono HB4.out.size)
    have HRes5 : Hid (Blk w5 (w.heap.size + 1 + 1) #[.slice none 0 0, .slice none 0 0, .slice none 0 0] 25) := HRes.out.on hb5
    have HKA5 : Hid (Blk w5 w.heap.size #[.slice pa0 na0 ca0, .slice pa1 na1 ca1, .slice pa2 na2 ca2] 25) := HKA4.out.on hb5
    have HKB5 : Hid (Blk w5 (w.heap.size + 1) #[.slice pb0 nb0 cb0, .slice pb1 nb1 cb1, .slice pb2 nb2 cb2] 25) := HKB4.out.on hb5
    have hz5 := hb5.size
    clear hb5 HRes HKA4 HKB4
    have HRes : Hid (Blk w5 (w.heap.size + 1 + 1) #[.slice none 0 0, .slice none 0 0, .slice none 0 0] 25) := HRes5.out
    clear HRes5
    by_cases hcb : chkF b = 0
    · rw [hcb]
      have HLa : Hid (a.P.length ≤ 65536 ∧ a.S.length ≤ 65536 ∧ a.W.length ≤ 65536) := chk_size17 hca
      have HLb : Hid (b.P.length ≤ 65536 ∧ b.S.length ≤ 65536 ∧ b.W.length ≤ 65536) := chk_size17 hcb
      have hsa : a.size ≤ 65536 := chk_sz hca
      have hsb : b.size ≤ 65536 := chk_sz hcb
      have CSa : Hid (∀ w1 : World, Calls Tryz.prog 25 #[.agg #[.slice pa0 na0 ca0, .slice pa1 na1 ca1, .slice pa2 na2 ca2]] w1 fun e w' => e = .returned (.int .i64 (a.size : Int)) ∧ Below w1.heap.size w1 w') := fun w1 => by rw [HEn.out.1, HEn.out.2.1, HEn.out.2.2.1]; exact rsize_any a _ _ _ _ _ _ w1 HA.out.lp HA.out.ls HA.out.lw
      have CSb : Hid (∀ w1 : World, Calls Tryz.prog 25 #[.agg #[.slice pb0 nb0 cb0, .slice pb1 nb1 cb1, .slice pb2 nb2 cb2]] w1 fun e w' => e = .returned (.int .i64 (b.size : Int)) ∧ Below w1.heap.size w1 w') := fun w1 => by rw [HEn.out.2.2.2.1, HEn.out.2.2.2.2.1, HEn.out.2.2.2.2.2]; exact rsize_any b _ _ _ _ _ _ w1 HBb.out.lp HBb.out.ls HBb.out.lw
      have g0 := InB.cell (w := w5) (HKA5.out.cell (i := 0) rfl) HKA5.out.lt
      have g1 := InB.cell (w := w5) (HKA5.out.cell (i := 1) rfl) HKA5.out.lt
      have g2 := InB.cell (w := w5) (HKA5.out.cell (i := 2) rfl) HKA5.out.lt
      have g3 := InB.cell (w := w5) (HKB5.out.cell (i := 0) rfl) HKB5.out.lt
      have g4 := InB.cell (w := w5) (HKB5.out.cell (i := 1) rfl) HKB5.out.lt
      have g5 := InB.cell (w := w5) (HKB5.out.cell (i := 2) rfl) HKB5.out.lt
      have ne1 := inB_ne w5
      have HCM : Hid (chkM a b = if 65536 < a.size + b.size then 2 else 0) := by
        refine (show _ = _ from ?_)
        unfold chkM
        rw [if_neg (by simpa using hca), if_neg (by simpa using hcb)]
      have HSz : Hid (a.size + b.size = (a.bth b).size) := by
        refine (show _ = _ from ?_)
        unfold Ft.size Ft.bth
        simp only [List.length_append]
        omega
      generalize a.size = sa at *
      generalize b.size = sb at *
      by_cases hsz : 65536 < sa + sb
      · have gl : decide (((sa : Int) + (sb : Int)) > 65536) = true := by simp; omega
        go_wp2_with fail
        refine wp_region_inB (by kernel_rfl) (by kernel_rfl) ?_
        go_big_quiet_step (first | (go_at_call 25; exact Calls.inB (CSa.out _)))
        go_big_quiet_step (first | (go_at_call 25; exact Calls.inB (CSa.out _)))
        repeat (go_big_quiet_step (first | (go_at_call 25; exact Calls.inB (CSb.out _))))
        refine wpQuiet_nil ?_
        rintro w6 ⟨⟨w9, hb6⟩, h9⟩
        obtain rfl : w6 = w9 := h9
        clear g0 g1 g2 g3 g4 g5 ne1 CSa CSb
        have HB6 : Hid (Below w.heap.size w w6) := HB5.out.trans (hb6.mono HB5.out.size)
        have HRes6 : Hid (Blk w6 (w.heap.size + 1 + 1) #[.slice none 0 0, .slice none 0 0, .slice none 0 0] 25) := HRes.out.on hb6
        have HKA6 : Hid (Blk w6 w.heap.size #[.slice pa0 na0 ca0, .slice pa1 na1 ca1, .slice pa2 na2 ca2] 25) := HKA5.out.on hb6
        have HKB6 : Hid (Blk w6 (w.heap.size + 1) #[.slice pb0 nb0 cb0, .slice pb1 nb1 cb1, .slice pb2 nb2 cb2] 25) := HKB5.out.on hb6
        have hz6 := hb6.size
        clear hb6 HRes HKA5 HKB5
        have HRes : Hid (Blk w6 (w.heap.size + 1 + 1) #[.slice none 0 0, .slice none 0 0, .slice none 0 0] 25) := HRes6.out
        clear HRes6
        obtain ⟨we, hwe⟩ : ∃ we, (((w6.setCell ⟨w.heap.size + 1 + 1, 0, none⟩ (.slice none 0 0)).setCell ⟨w.heap.size + 1 + 1, 1, none⟩ (.slice none 0 0)).setCell ⟨w.heap.size + 1 + 1, 2, none⟩ (.slice none 0 0)) = we := ⟨_, rfl⟩
        have HF : Hid (Frm w6 we (fun k => k = w.heap.size + 1 + 1)) := by rw [← hwe]; exact ((frm_set _ _ _ _ (F := fun k => k = w.heap.size + 1 + 1) (.inl rfl)).trans (frm_set _ _ _ _ (F := fun k => k = w.heap.size + 1 + 1) (.inl rfl)) (fun k hk => .inl hk)).trans (frm_set _ _ _ _ (F := fun k => k = w.heap.size + 1 + 1) (.inl rfl)) (fun k hk => .inl hk)
        have HR : Hid (Blk we (w.heap.size + 1 + 1) #[.slice none 0 0, .slice none 0 0, .slice none 0 0] 25) := by rw [← hwe]; exact ((HRes.out.set 0 _).set 1 _).set 2 _
        have c0 := HRes.out.cell (i := 0) rfl
        have c1 := HRes.out.cell (i := 1) rfl
        have c2 := HRes.out.cell (i := 2) rfl
        have f0 := HRes.out.frozen 0
        have f1 := HRes.out.frozen 1
        have f2 := HRes.out.frozen 2
        have r0 := HR.out.cell (i := 0) rfl
        have r1 := HR.out.cell (i := 1) rfl
        have r2 := HR.out.cell (i := 2) rfl
        go_wp2_with fail
        refine bodyPost_ret (v := .tuple #[.agg #[.slice none 0 0, .slice none 0 0, .slice none 0 0], .int .i64 (2)]) (by simp [results, Tryz.results14, go_sem, r0, r1, r2]) rfl ?_
        obtain ⟨e9, n9⟩ : chkM a b = 2 ∧ chkM a b ≠ 0 := ⟨by rw [HCM.out, if_pos hsz], by rw [HCM.out, if_pos hsz]; decide⟩
        exact ⟨_, _, _, ⟨[], [], []⟩, by rw [e9], rdNil _, .inl ⟨n9, rfl⟩, HB6.out.trans (HF.out.below HB6.out.size (fun k hk => by omega))⟩
      · have gl : decide (((sa : Int) + (sb : Int)) > 65536) = false := by simp; omega
        go_wp2_with fail
        refine wp_region_inB (by kernel_rfl) (by kernel_rfl) ?_
        go_big_quiet_step (first | (go_at_call 25; exact Calls.inB (CSa.out _)))
        go_big_quiet_step (first | (go_at_call 25; exact Calls.inB (CSa.out _)))
        repeat (go_big_quiet_step (first | (go_at_call 25; exact Calls.inB (CSb.out _))))
        refine wpQuiet_nil ?_
        rintro w6 ⟨⟨w9, hb6⟩, h9⟩
        obtain rfl : w6 = w9 := h9
        clear g0 g1 g2 g3 g4 g5 ne1 CSa CSb
        have HB6 : Hid (Below w.heap.size w w6) := HB5.out.trans (hb6.mono HB5.out.size)
        have HRes6 : Hid (Blk w6 (w.heap.size + 1 + 1) #[.slice none 0 0, .slice none 0 0, .slice none 0 0] 25) := HRes.out.on hb6
        have HKA6 : Hid (Blk w6 w.heap.size #[.slice pa0 na0 ca0, .slice pa1 na1 ca1, .slice pa2 na2 ca2] 25) := HKA5.out.on hb6
        have HKB6 : Hid (Blk w6 (w.heap.size + 1) #[.slice pb0 nb0 cb0, .slice pb1 nb1 cb1, .slice pb2 nb2 cb2] 25) := HKB5.out.on hb6
        have hz6 := hb6.size
        clear hb6 HRes HKA5 HKB5
        have HRes : Hid (Blk w6 (w.heap.size + 1 + 1) #[.slice none 0 0, .slice none 0 0, .slice none 0 0] 25) := HRes6.out
        clear HRes6
        rw [if_neg hsz] at HCM
        have HLs : Hid ((a.bth b).S.length ≤ 65536) := by
          refine (show _ ≤ _ from ?_)
          have h1 := HSz.out
          unfold Ft.size at h1
          omega
        have g0 := HKA6.out.cell (i := 0) rfl
        have g1 := HKA6.out.cell (i := 1) rfl
        have g2 := HKA6.out.cell (i := 2) rfl
        have g3 := HKB6.out.cell (i := 0) rfl
        have g4 := HKB6.out.cell (i := 1) rfl
        have g5 := HKB6.out.cell (i := 2) rfl
        have CB : Hid (Calls _ _ _ _ _) := rbothF a b _ _ _ _ _ _ w6 (HA.out.on HB6.out) (HBb.out.on HB6.out) HLa.out HLb.out
        go_wp2_with fail
        refine CB.out.mono ?_
        rintro e w7 ⟨v0, v1, v2, rfl, o0, o1, o2, hb7⟩
        clear CB g0 g1 g2 g3 g4 g5
        have CN : Hid (Calls _ _ _ _ _) := rnormal_any (a.bth b) v0 v1 v2 w7 (bth_rd o0 o1 o2 HLa.out HLb.out) HLs.out
        have HB7 : Hid (Below w6.heap.size w6 w7) := hb7
        clear o0 o1 o2 hb7
        go_wp2_with fail
        refine CN.out.mono ?_
        rintro e w8 ⟨y0, y1, y2, g, rfl, hr8, hN8, hb8⟩
        clear CN
        obtain ⟨q0, m0, d0, ey0⟩ : ∃ p n c, y0 = .slice p n c := by
          obtain ⟨p, c, e, _⟩ := hr8.p.f
          exact ⟨_, _, _, e⟩
        obtain ⟨q1, m1, d1, ey1⟩ : ∃ p n c, y1 = .slice p n c := by
          obtain ⟨p, c, e, _⟩ := hr8.s.f
          exact ⟨_, _, _, e⟩
        obtain ⟨q2, m2, d2, ey2⟩ : ∃ p n c, y2 = .slice p n c := by
          obtain ⟨p, c, e, _⟩ := hr8.w.f
          exact ⟨_, _, _, e⟩
        subst ey0 ey1 ey2
        have HB68 : Hid (Below w6.heap.size w6 w8) := HB7.out.trans (hb8.mono HB7.out.size)
        have HRs : Hid (Blk w8 (w.heap.size + 1 + 1) #[.slice none 0 0, .slice none 0 0, .slice none 0 0] 25) := HRes.out.on HB68.out
        have HO : Hid (RdF w8 (.slice q0 m0 d0) (.slice q1 m1 d1) (.slice q2 m2 d2) g ∧ NrmF (a.bth b) g) := ⟨hr8, hN8⟩
        clear hr8 hN8 hb8 HRes
        have c0 := HRs.out.cell (i := 0) rfl
        have c1 := HRs.out.cell (i := 1) rfl
        have c2 := HRs.out.cell (i := 2) rfl
        have f0 := HRs.out.frozen 0
        have f1 := HRs.out.frozen 1
        have f2 := HRs.out.frozen 2
        obtain ⟨we, hwe⟩ : ∃ we, (((w8.setCell ⟨w.heap.size + 1 + 1, 0, none⟩ (.slice q0 m0 d0)).setCell ⟨w.heap.size + 1 + 1, 1, none⟩ (.slice q1 m1 d1)).setCell ⟨w.heap.size + 1 + 1, 2, none⟩ (.slice q2 m2 d2)) = we := ⟨_, rfl⟩
        have HF : Hid (Frm w8 we (fun k => k = w.heap.size + 1 + 1)) := by rw [← hwe]; exact ((frm_set _ _ _ _ (F := fun k => k = w.heap.size + 1 + 1) (.inl rfl)).trans (frm_set _ _ _ _ (F := fun k => k = w.heap.size + 1 + 1) (.inl rfl)) (fun k hk => .inl hk)).trans (frm_set _ _ _ _ (F := fun k => k = w.heap.size + 1 + 1) (.inl rfl)) (fun k hk => .inl hk)
        have HR : Hid (Blk we (w.heap.size + 1 + 1) #[.slice q0 m0 d0, .slice q1 m1 d1, .slice q2 m2 d2] 25) := by rw [← hwe]; exact ((HRs.out.set 0 _).set 1 _).set 2 _
        have r0 := HR.out.cell (i := 0) rfl
        have r1 := HR.out.cell (i := 1) rfl
        have r2 := HR.out.cell (i := 2) rfl
        go_wp2_with fail
        refine bodyPost_ret (v := .tuple #[.agg #[.slice q0 m0 d0, .slice q1 m1 d1, .slice q2 m2 d2], .int .i64 0]) (by simp [results, Tryz.results14, go_sem, r0, r1, r2]) rfl ?_
        have h8 : Below w.heap.size w w8 := HB6.out.trans (HB68.out.mono HB6.out.size)
        exact ⟨_, _, _, g, by rw [HCM.out], HO.out.1.frm1 HF.out HRs.out (slices3 _ _ _ _ _ _ _ _ _), .inr ⟨HCM.out, HO.out.2⟩, h8.trans (HF.out.below h8.size (fun k hk => by omega))⟩
    · have hne : (chkF b == 0) = false := by simpa using hcb
      obtain ⟨we, hwe⟩ : ∃ we, (((w5.setCell ⟨w.heap.size + 1 + 1, 0, none⟩ (.slice none 0 0)).setCell ⟨w.heap.size + 1 + 1, 1, none⟩ (.slice none 0 0)).setCell ⟨w.heap.size + 1 + 1, 2, none⟩ (.slice none 0 0)) = we := ⟨_, rfl⟩
      have HF : Hid (Frm w5 we (fun k => k = w.heap.size + 1 + 1)) := by rw [← hwe]; exact ((frm_set _ _ _ _ (F := fun k => k = w.heap.size + 1 + 1) (.inl rfl)).trans (frm_set _ _ _ _ (F := fun k => k = w.heap.size + 1 + 1) (.inl rfl)) (fun k hk => .inl hk)).trans (frm_set _ _ _ _ (F := fun k => k = w.heap.size + 1 + 1) (.inl rfl)) (fun k hk => .inl hk)
      have HR : Hid (Blk we (w.heap.size + 1 + 1) #[.slice none 0 0, .slice none 0 0, .slice none 0 0] 25) := by rw [← hwe]; exact ((HRes.out.set 0 _).set 1 _).set 2 _
      have c0 := HRes.out.cell (i := 0) rfl
      have c1 := HRes.out.cell (i := 1) rfl
      have c2 := HRes.out.cell (i := 2) rfl
      have f0 := HRes.out.frozen 0
      have f1 := HRes.out.frozen 1
      have f2 := HRes.out.frozen 2
      have r0 := HR.out.cell (i := 0) rfl
      have r1 := HR.out.cell (i := 1) rfl
      have r2 := HR.out.cell (i := 2) rfl
      go_wp2_with fail
      refine bodyPost_ret (v := .tuple #[.agg #[.slice none 0 0, .slice none 0 0, .slice none 0 0], .int .i64 (chkF b)]) (by simp [results, Tryz.results14, go_sem, r0, r1, r2]) rfl ?_
      obtain ⟨e9, n9⟩ : chkM a b = chkF b ∧ chkM a b ≠ 0 := by unfold chkM; rw [if_neg (by simpa using hca), if_pos hcb]; exact ⟨rfl, hcb⟩
      exact ⟨_, _, _, ⟨[], [], []⟩, by rw [e9], rdNil _, .inl ⟨n9, rfl⟩, HB5.out.trans (HF.out.below HB5.out.size (fun k hk => by omega))⟩
  · have hne : (chkF a == 0) = false := by simpa using hca
    obtain ⟨we, hwe⟩ : ∃ we, (((w4.setCell ⟨w.heap.size + 1 + 1, 0, none⟩ (.slice none 0 0)).setCell ⟨w.heap.size + 1 + 1, 1, none⟩ (.slice none 0 0)).setCell ⟨w.heap.size + 1 + 1, 2, none⟩ (.slice none 0 0)) = we := ⟨_, rfl⟩
    have HF : Hid (Frm w4 we (fun k => k = w.heap.size + 1 + 1)) := by rw [← hwe]; exact ((frm_set _ _ _ _ (F := fun k => k = w.heap.size + 1 + 1) (.inl rfl)).trans (frm_set _ _ _ _ (F := fun k => k = w.heap.size + 1 + 1) (.inl rfl)) (fun k hk => .inl hk)).trans (frm_set _ _ _ _ (F := fun k => k = w.heap.size + 1 + 1) (.inl rfl)) (fun k hk => .inl hk)
    have HR : Hid (Blk we (w.heap.size + 1 + 1) #[.slice none 0 0, .slice none 0 0, .slice none 0 0] 25) := by rw [← hwe]; exact ((HRes.out.set 0 _).set 1 _).set 2 _
    have c0 := HRes.out.cell (i := 0) rfl
    have c1 := HRes.out.cell (i := 1) rfl
    have c2 := HRes.out.cell (i := 2) rfl
    have f0 := HRes.out.frozen 0
    have f1 := HRes.out.frozen 1
    have f2 := HRes.out.frozen 2
    have r0 := HR.out.cell (i := 0) rfl
    have r1 := HR.out.cell (i := 1) rfl
    have r2 := HR.out.cell (i := 2) rfl
    go_wp2_with fail
    refine bodyPost_ret (v := .tuple #[.agg #[.slice none 0 0, .slice none 0 0, .slice none 0 0], .int .i64 (chkF a)]) (by simp [results, Tryz.results14, go_sem, r0, r1, r2]) rfl ?_
    obtain ⟨e9, n9⟩ : chkM a b = chkF a ∧ chkM a b ≠ 0 := by unfold chkM; rw [if_pos hca]; exact ⟨rfl, hca⟩
    exact ⟨_, _, _, ⟨[], [], []⟩, by rw [e9], rdNil _, .inl ⟨n9, rfl⟩, HB4.out.trans (HF.out.below HB4.out.size (fun k hk => by omega))⟩

end

section
open Go.RowKit
set_option maxRecDepth 100000

theorem mr_rd {w : World} {B : Nat} {a b g : Ft} {x0 x1 x2 : Value} (h : MrO a b g) (h0 : OwnP w B x0 g.P) (h1 : OwnS w B x1 g.S) (h2 : OwnP w B x2 g.W) : RdF w x0 x1 x2 g := by
  have hl : g.P.length ≤ 131072 ∧ g.S.length ≤ 131072 ∧ g.W.length ≤ 131072 := by
    rcases h with ⟨_, rfl⟩ | ⟨hc, hN⟩
    · simp
    · have hca : chkF a = 0 := by
        apply Classical.byContradiction
        intro hn
        unfold chkM at hc
        rw [if_pos hn] at hc
        exact hn hc
      have hcb : chkF b = 0 := by
        apply Classical.byContradiction
        intro hn
        unfold chkM at hc
        rw [if_neg (by simpa using hca), if_pos hn] at hc
        exact hn hc
      obtain ⟨a0, a1, a2⟩ := chk_size hca
      obtain ⟨b0, b1, b2⟩ := chk_size hcb
      have k0 := hN.lp
      have k1 := hN.ls
      have k2 := hN.lw
      simp only [Ft.bth, List.length_append] at k0 k1 k2
      omega
  exact ⟨h0.sl, h1.sl, h2.sl, by omega, by omega, by omega⟩
theorem MrO.swap {a b g h : Ft} (hg : MrO a b g) (hh : MrO b a h) (hc : chkM a b = 0) : chkM b a = 0 ∧ g = h := by
  have hca : chkF a = 0 := by
    apply Classical.byContradiction
    intro hn
    unfold chkM at hc
    rw [if_pos hn] at hc
    exact hn hc
  have hcb : chkF b = 0 := by
    apply Classical.byContradiction
    intro hn
    unfold chkM at hc
    rw [if_neg (by simpa using hca), if_pos hn] at hc
    exact hn hc
  have hcc : chkM b a = 0 := by
    unfold chkM at hc ⊢
    rw [if_neg (by simpa using hca), if_neg (by simpa using hcb)] at hc
    rw [if_neg (by simpa using hcb), if_neg (by simpa using hca), Nat.add_comm]
    exact hc
  refine ⟨hcc, ?_⟩
  rcases hg with ⟨h1, _⟩ | ⟨_, hg⟩
  · exact absurd hc h1
  · rcases hh with ⟨h1, _⟩ | ⟨_, hh⟩
    · exact absurd hcc h1
    · refine hg.uniq hh (fun x => ?_) (fun x _ => ?_) (fun x => ?_)
      · unfold anyS Ft.bth
        simp only [List.any_append, Bool.or_comm]
      · simp only [Ft.bth, List.mem_append, or_comm]
      · simp only [Ft.bth, List.mem_append, or_comm]

set_option maxHeartbeats 40000000 in
theorem lawMerges (a b : Ft) (va0 va1 va2 vb0 vb1 vb2 : Value) (w : World) (ha : RdF w va0 va1 va2 a) (hb : RdF w vb0 vb1 vb2 b) :
    Calls Tryz.prog 4 #[.agg #[va0, va1, va2], .agg #[vb0, vb1, vb2]] w fun e w' => e = .returned (.bool true) ∧ Below w.heap.size w w' := by
  obtain ⟨pa0, na0, ca0, eva0⟩ : ∃ p n c, va0 = .slice p n c := by
    obtain ⟨p, c, e, _⟩ := ha.p.f
    exact ⟨_, _, _, e⟩
  obtain ⟨pa1, na1, ca1, eva1⟩ : ∃ p n c, va1 = .slice p n c := by
    obtain ⟨p, c, e, _⟩ := ha.s.f
    exact ⟨_, _, _, e⟩
  obtain ⟨pa2, na2, ca2, eva2⟩ : ∃ p n c, va2 = .slice p n c := by
    obtain ⟨p, c, e, _⟩ := ha.w.f
    exact ⟨_, _, _, e⟩
  obtain ⟨pb0, nb0, cb0, evb0⟩ : ∃ p n c, vb0 = .slice p n c := by
    obtain ⟨p, c, e, _⟩ := hb.p.f
    exact ⟨_, _, _, e⟩
  obtain ⟨pb1, nb1, cb1, evb1⟩ : ∃ p n c, vb1 = .slice p n c := by
    obtain ⟨p, c, e, _⟩ := hb.s.f
    exact ⟨_, _, _, e⟩
  obtain ⟨pb2, nb2, cb2, evb2⟩ : ∃ p n c, vb2 = .slice p n c := by
    obtain ⟨p, c, e, _⟩ := hb.w.f
    exact ⟨_, _, _, e⟩
  subst eva0 eva1 eva2 evb0 evb1 evb2
  have hal : Below w.heap.size w ((w.alloc (.cells #[.slice pa0 na0 ca0, .slice pa1 na1 ca1, .slice pa2 na2 ca2] 25)).alloc (.cells #[.slice pb0 nb0 cb0, .slice pb1 nb1 cb1, .slice pb2 nb2 cb2] 25)) := ((Below.refl _ _).alloc (Nat.le_refl _) _).alloc (by simp) _
  have HX : Hid (Blk ((w.alloc (.cells #[.slice pa0 na0 ca0, .slice pa1 na1 ca1, .slice pa2 na2 ca2] 25)).alloc (.cells #[.slice pb0 nb0 cb0, .slice pb1 nb1 cb1, .slice pb2 nb2 cb2] 25)) w.heap.size #[.slice pa0 na0 ca0, .slice pa1 na1 ca1, .slice pa2 na2 ca2] 25 ∧ Blk ((w.alloc (.cells #[.slice pa0 na0 ca0, .slice pa1 na1 ca1, .slice pa2 na2 ca2] 25)).alloc (.cells #[.slice pb0 nb0 cb0, .slice pb1 nb1 cb1, .slice pb2 nb2 cb2] 25)) (w.heap.size + 1) #[.slice pb0 nb0 cb0, .slice pb1 nb1 cb1, .slice pb2 nb2 cb2] 25) := ⟨(Blk.new w #[.slice pa0 na0 ca0, .slice pa1 na1 ca1, .slice pa2 na2 ca2] 25).keep (B := w.heap.size + 1) ((Below.refl _ _).alloc (by simp) _) (by omega), by
    have h := Blk.new (w.alloc (.cells #[.slice pa0 na0 ca0, .slice pa1 na1 ca1, .slice pa2 na2 ca2] 25)) #[.slice pb0 nb0 cb0, .slice pb1 nb1 cb1, .slice pb2 nb2 cb2] 25
    rw [World.size_alloc] at h
    exact h⟩
  have HRd : Hid (RdF ((w.alloc (.cells #[.slice pa0 na0 ca0, .slice pa1 na1 ca1, .slice pa2 na2 ca2] 25)).alloc (.cells #[.slice pb0 nb0 cb0, .slice pb1 nb1 cb1, .slice pb2 nb2 cb2] 25)) _ _ _ a ∧ RdF ((w.alloc (.cells #[.slice pa0 na0 ca0, .slice pa1 na1 ca1, .slice pa2 na2 ca2] 25)).alloc (.cells #[.slice pb0 nb0 cb0, .slice pb1 nb1 cb1, .slice pb2 nb2 cb2] 25)) _ _ _ b) := ⟨ha.on hal, hb.on hal⟩
  have HE : Hid (Below w.heap.size w ((w.alloc (.cells #[.slice pa0 na0 ca0, .slice pa1 na1 ca1, .slice pa2 na2 ca2] 25)).alloc (.cells #[.slice pb0 nb0 cb0, .slice pb1 nb1 cb1, .slice pb2 nb2 cb2] 25))) := hal
  clear ha hb hal
  go_enter Tryz.func4, Tryz.ntmps4
  go_upto_region 1 with fail
  generalize ((w.alloc (.cells #[.slice pa0 na0 ca0, .slice pa1 na1 ca1, .slice pa2 na2 ca2] 25)).alloc (.cells #[.slice pb0 nb0 cb0, .slice pb1 nb1 cb1, .slice pb2 nb2 cb2] 25)) = wB at *
  go_cut [5, 6] from 11 to 18 (fun p5 e6 wx => ∃ (β : Nat) (q0 q1 q2 : Option Addr) (m0 m1 m2 d0 d1 d2 : Nat) (gg : Ft), p5 = .pointer (some ⟨β, 0, none⟩) ∧ e6 = .int .i64 (chkM a b) ∧ wB.heap.size ≤ β ∧ Hid (Blk wx β #[.slice q0 m0 d0, .slice q1 m1 d1, .slice q2 m2 d2] 25 ∧ Below wB.heap.size wB wx ∧ RdF wx (.slice q0 m0 d0) (.slice q1 m1 d1) (.slice q2 m2 d2) gg ∧ MrO a b gg))
  case first =>
    refine wp_region_L (fun w' => Below wB.heap.size wB w') 11 (by kernel_rfl) ?_
    have hdr : Below wB.heap.size wB wB.drew := (Below.refl _ _).drew
    have HBwd : Hid (Below wB.heap.size wB wB.drew) := hdr
    clear hdr
    generalize wB.drew = wd at *
    refine wpL_take (v := ?_) 0 rfl (by kernel_rfl) (fun _ _ _ h => h) (by rfl) ?_ HBwd.out ?_
    rotate_left
    focus
      intro w9 hw9
      have k0 := (HX.out.1.on hw9).cell (i := 0) rfl
      have k1 := (HX.out.1.on hw9).cell (i := 1) rfl
      have k2 := (HX.out.1.on hw9).cell (i := 2) rfl
      have k3 := (HX.out.2.on hw9).cell (i := 0) rfl
      have k4 := (HX.out.2.on hw9).cell (i := 1) rfl
      have k5 := (HX.out.2.on hw9).cell (i := 2) rfl
      go_simp
      try with_reducible rfl
    try simp only [Act.put, List.setIfInBounds_toArray, List.set_cons_zero, List.set_cons_succ]
    refine wpL_take (v := ?_) 2 rfl (by kernel_rfl) (fun _ _ _ h => h) (by rfl) ?_ HBwd.out ?_
    rotate_left
    focus
      intro w9 hw9
      have k0 := (HX.out.1.on hw9).cell (i := 0) rfl
      have k1 := (HX.out.1.on hw9).cell (i := 1) rfl
      have k2 := (HX.out.1.on hw9).cell (i := 2) rfl
      have k3 := (HX.out.2.on hw9).cell (i := 0) rfl
      have k4 := (HX.out.2.on hw9).cell (i := 1) rfl
      have k5 := (HX.out.2.on hw9).cell (i := 2) rfl
      go_simp
      try with_reducible rfl
    try simp only [Act.put, List.setIfInBounds_toArray, List.set_cons_zero, List.set_cons_succ]
    refine wpL_two17 1 8 rfl rfl (by kernel_rfl) (by rfl) (by rfl) ?_ ?_
    · intro K hK
      go_simp
      have CPwu1 : Hid (Calls _ _ _ _ _) := rcopyF a _ _ _ wd (HRd.out.1.on HBwd.out)
      refine CPwu1.out.mono ?_
      rintro e wu1 ⟨cawu10, cawu11, cawu12, rfl, hrwu1, hbwu1⟩
      dsimp only
      have HBwu1 : Hid (Below wB.heap.size wB wu1) := HBwd.out.trans ((hbwu1).mono HBwd.out.size)
      have Cawu1 : Hid (RdF wu1 cawu10 cawu11 cawu12 a) := hrwu1
      clear CPwu1 hrwu1 hbwu1
      refine hK.out _ _ (fun _ => HBwu1.out) ?_
      clear hK K
      try simp only [Act.put, List.setIfInBounds_toArray, List.set_cons_zero, List.set_cons_succ]
      refine wpL_two17 3 8 rfl rfl (by kernel_rfl) (by rfl) (by rfl) ?_ ?_
      · intro K hK
        go_simp
        have CPwu2 : Hid (Calls _ _ _ _ _) := rcopyF b _ _ _ wu1 (HRd.out.2.on HBwu1.out)
        refine CPwu2.out.mono ?_
        rintro e wu2 ⟨cbwu20, cbwu21, cbwu22, rfl, hrwu2, hbwu2⟩
        dsimp only
        have HBwu2 : Hid (Below wB.heap.size wB wu2) := HBwu1.out.trans ((hbwu2).mono HBwu1.out.size)
        have Cawu2 : Hid (RdF wu2 cawu10 cawu11 cawu12 a) := Cawu1.out.on (hbwu2)
        have Cbwu2 : Hid (RdF wu2 cbwu20 cbwu21 cbwu22 b) := hrwu2
        clear CPwu2 hrwu2 hbwu2
        refine hK.out _ _ (fun _ => HBwu2.out) ?_
        clear hK K
        try simp only [Act.put, List.setIfInBounds_toArray, List.set_cons_zero, List.set_cons_succ]
        refine wpL_two17 4 8 rfl rfl (by kernel_rfl) (by rfl) (by rfl) ?_ ?_
        · intro K hK
          go_simp
          have CMwu3 : Hid (Calls _ _ _ _ _) := merge_any a b _ _ _ _ _ _ wu2 Cawu2.out Cbwu2.out
          refine CMwu3.out.mono ?_
          rintro e wu3 ⟨y0, y1, y2, gg, rfl, h0, h1, h2, hN, hbwu3⟩
          dsimp only
          have HBwu3 : Hid (Below wB.heap.size wB wu3) := HBwu2.out.trans ((hbwu3).mono HBwu2.out.size)
          obtain ⟨q0, m0, d0, ey0⟩ : ∃ p n c, y0 = .slice p n c := by
            obtain ⟨p, c, e, _⟩ := h0.row
            exact ⟨_, _, _, e⟩
          obtain ⟨q1, m1, d1, ey1⟩ : ∃ p n c, y1 = .slice p n c := by
            obtain ⟨p, c, e, _⟩ := h1.row
            exact ⟨_, _, _, e⟩
          obtain ⟨q2, m2, d2, ey2⟩ : ∃ p n c, y2 = .slice p n c := by
            obtain ⟨p, c, e, _⟩ := h2.row
            exact ⟨_, _, _, e⟩
          subst ey0 ey1 ey2
          have Mwu3 : Hid (RdF wu3 (.slice q0 m0 d0) (.slice q1 m1 d1) (.slice q2 m2 d2) gg) := mr_rd hN h0 h1 h2
          have HNm : Hid (MrO a b gg) := hN
          clear CMwu3 h0 h1 h2 hN hbwu3 Cawu2 Cbwu2
          refine hK.out _ _ (fun _ => HBwu3.out) ?_
          clear hK K
          try simp only [Act.put, List.setIfInBounds_toArray, List.set_cons_zero, List.set_cons_succ]
          refine wpL_take (v := ?_) 5 rfl (by kernel_rfl) (fun _ _ _ h => h) (by rfl) ?_ HBwu3.out ?_
          rotate_left
          focus
            intro w9 hw9
            have k0 := (HX.out.1.on hw9).cell (i := 0) rfl
            have k1 := (HX.out.1.on hw9).cell (i := 1) rfl
            have k2 := (HX.out.1.on hw9).cell (i := 2) rfl
            have k3 := (HX.out.2.on hw9).cell (i := 0) rfl
            have k4 := (HX.out.2.on hw9).cell (i := 1) rfl
            have k5 := (HX.out.2.on hw9).cell (i := 2) rfl
            go_simp
            try with_reducible rfl
          try simp only [Act.put, List.setIfInBounds_toArray, List.set_cons_zero, List.set_cons_succ]
          refine wpL_take (v := ?_) 6 rfl (by kernel_rfl) (fun _ _ _ h => h) (by rfl) ?_ HBwu3.out ?_
          rotate_left
          focus
            intro w9 hw9
            have k0 := (HX.out.1.on hw9).cell (i := 0) rfl
            have k1 := (HX.out.1.on hw9).cell (i := 1) rfl
            have k2 := (HX.out.1.on hw9).cell (i := 2) rfl
            have k3 := (HX.out.2.on hw9).cell (i := 0) rfl
            have k4 := (HX.out.2.on hw9).cell (i := 1) rfl
            have k5 := (HX.out.2.on hw9).cell (i := 2) rfl
            go_simp
            try with_reducible rfl
          try simp only [Act.put, List.setIfInBounds_toArray, List.set_cons_zero, List.set_cons_succ]
          refine wpL_take (v := ?_) 7 rfl (by kernel_rfl) (fun _ _ _ h => h) (by rfl) ?_ HBwu3.out ?_
          rotate_left
          focus
            intro w9 hw9
            have k0 := (HX.out.1.on hw9).cell (i := 0) rfl
            have k1 := (HX.out.1.on hw9).cell (i := 1) rfl
            have k2 := (HX.out.1.on hw9).cell (i := 2) rfl
            have k3 := (HX.out.2.on hw9).cell (i := 0) rfl
            have k4 := (HX.out.2.on hw9).cell (i := 1) rfl
            have k5 := (HX.out.2.on hw9).cell (i := 2) rfl
            go_simp
            try with_reducible rfl
          try simp only [Act.put, List.setIfInBounds_toArray, List.set_cons_zero, List.set_cons_succ]
          refine wpL_one 8 rfl (by kernel_rfl) (by rfl) ?_
          intro K hK
          go_simp
          have hbwu4 : Below wu3.heap.size wu3 (wu3.alloc (.cells #[.slice none 0 0, .slice none 0 0, .slice none 0 0] 25)) := (Below.refl _ _).alloc (Nat.le_refl _) _
          have hzwu4 : Blk (wu3.alloc (.cells #[.slice none 0 0, .slice none 0 0, .slice none 0 0] 25)) wu3.heap.size #[.slice none 0 0, .slice none 0 0, .slice none 0 0] 25 := Blk.new wu3 _ _
          generalize (wu3.alloc (.cells #[.slice none 0 0, .slice none 0 0, .slice none 0 0] 25)) = wu4 at *
          have HBwu4 : Hid (Below wB.heap.size wB wu4) := HBwu3.out.trans ((hbwu4).mono HBwu3.out.size)
          have Mwu4 : Hid (RdF wu4 (.slice q0 m0 d0) (.slice q1 m1 d1) (.slice q2 m2 d2) gg) := Mwu3.out.on (hbwu4)
          have Zwu4 : Hid (Blk wu4 wu3.heap.size #[.slice none 0 0, .slice none 0 0, .slice none 0 0] 25) := hzwu4
          have HL : Hid (wB.heap.size ≤ wu3.heap.size) := HBwu3.out.size
          clear hbwu4 hzwu4
          refine hK.out _ _ (fun _ => HBwu4.out) ?_
          clear hK K
          try simp only [Act.put, List.setIfInBounds_toArray, List.set_cons_zero, List.set_cons_succ]
          have zz0 := Zwu4.out.cell (i := 0) rfl
          have zz1 := Zwu4.out.cell (i := 1) rfl
          have zz2 := Zwu4.out.cell (i := 2) rfl
          have f0 := Zwu4.out.frozen 0
          have f1 := Zwu4.out.frozen 1
          have f2 := Zwu4.out.frozen 2
          have HF : Hid (Frm wu4 (((wu4.setCell ⟨wu3.heap.size, 0, none⟩ (.slice q0 m0 d0)).setCell ⟨wu3.heap.size, 1, none⟩ (.slice q1 m1 d1)).setCell ⟨wu3.heap.size, 2, none⟩ (.slice q2 m2 d2)) (fun k => k = wu3.heap.size)) := ((frm_set _ _ _ _ (F := fun k => k = wu3.heap.size) (.inl rfl)).trans (frm_set _ _ _ _ (F := fun k => k = wu3.heap.size) (.inl rfl)) (fun k hk => .inl hk)).trans (frm_set _ _ _ _ (F := fun k => k = wu3.heap.size) (.inl rfl)) (fun k hk => .inl hk)
          have HK : Hid (Blk (((wu4.setCell ⟨wu3.heap.size, 0, none⟩ (.slice q0 m0 d0)).setCell ⟨wu3.heap.size, 1, none⟩ (.slice q1 m1 d1)).setCell ⟨wu3.heap.size, 2, none⟩ (.slice q2 m2 d2)) (wu3.heap.size) #[.slice q0 m0 d0, .slice q1 m1 d1, .slice q2 m2 d2] 25) := ((Zwu4.out.set 0 _).set 1 _).set 2 _
          have HRw : Hid (RdF (((wu4.setCell ⟨wu3.heap.size, 0, none⟩ (.slice q0 m0 d0)).setCell ⟨wu3.heap.size, 1, none⟩ (.slice q1 m1 d1)).setCell ⟨wu3.heap.size, 2, none⟩ (.slice q2 m2 d2)) (.slice q0 m0 d0) (.slice q1 m1 d1) (.slice q2 m2 d2) gg) := Mwu4.out.frm1 HF.out Zwu4.out (slices3 _ _ _ _ _ _ _ _ _)
          have HBwe : Hid (Below wB.heap.size wB (((wu4.setCell ⟨wu3.heap.size, 0, none⟩ (.slice q0 m0 d0)).setCell ⟨wu3.heap.size, 1, none⟩ (.slice q1 m1 d1)).setCell ⟨wu3.heap.size, 2, none⟩ (.slice q2 m2 d2))) := HBwu4.out.trans (HF.out.below HBwu4.out.size (fun k hk => by have := HL.out; omega))
          refine wpL_one 9 rfl (by kernel_rfl) (by rfl) ?_
          intro K hK
          go_simp
          refine hK.out _ _ (fun _ => HBwe.out) ?_
          clear hK K zz0 zz1 zz2 f0 f1 f2
          generalize ((wu4.setCell ⟨wu3.heap.size, 0, none⟩ (.slice q0 m0 d0)).setCell ⟨wu3.heap.size, 1, none⟩ (.slice q1 m1 d1)).setCell ⟨wu3.heap.size, 2, none⟩ (.slice q2 m2 d2) = we at *
          try simp only [Act.put, List.setIfInBounds_toArray, List.set_cons_zero, List.set_cons_succ]
          refine wpL_take (v := ?_) 10 rfl (by kernel_rfl) (fun _ _ _ h => h) (by rfl) ?_ HBwe.out ?_
          rotate_left
          focus
            intro w9 hw9
            have k0 := (HX.out.1.on hw9).cell (i := 0) rfl
            have k1 := (HX.out.1.on hw9).cell (i := 1) rfl
            have k2 := (HX.out.1.on hw9).cell (i := 2) rfl
            have k3 := (HX.out.2.on hw9).cell (i := 0) rfl
            have k4 := (HX.out.2.on hw9).cell (i := 1) rfl
            have k5 := (HX.out.2.on hw9).cell (i := 2) rfl
            go_simp
            try with_reducible rfl
          try simp only [Act.put, List.setIfInBounds_toArray, List.set_cons_zero, List.set_cons_succ]
          refine wpL_done (by kernel_rfl) ?_ _
          try simp only [NoPanic]
          go_wp2_with fail
          go_meet
          exact ⟨_, _, _, _, _, _, _, _, _, _, gg, rfl, rfl, HL.out, ⟨HK.out, HBwe.out, HRw.out, HNm.out⟩⟩
        · intro K hK
          go_simp
          have hbwu5 : Below wu2.heap.size wu2 (wu2.alloc (.cells #[.slice none 0 0, .slice none 0 0, .slice none 0 0] 25)) := (Below.refl _ _).alloc (Nat.le_refl _) _
          have hzwu5 : Blk (wu2.alloc (.cells #[.slice none 0 0, .slice none 0 0, .slice none 0 0] 25)) wu2.heap.size #[.slice none 0 0, .slice none 0 0, .slice none 0 0] 25 := Blk.new wu2 _ _
          generalize (wu2.alloc (.cells #[.slice none 0 0, .slice none 0 0, .slice none 0 0] 25)) = wu5 at *
          have HBwu5 : Hid (Below wB.heap.size wB wu5) := HBwu2.out.trans ((hbwu5).mono HBwu2.out.size)
          have Cawu5 : Hid (RdF wu5 cawu10 cawu11 cawu12 a) := Cawu2.out.on (hbwu5)
          have Cbwu5 : Hid (RdF wu5 cbwu20 cbwu21 cbwu22 b) := Cbwu2.out.on (hbwu5)
          have Zwu5 : Hid (Blk wu5 wu2.heap.size #[.slice none 0 0, .slice none 0 0, .slice none 0 0] 25) := hzwu5
          have HL : Hid (wB.heap.size ≤ wu2.heap.size) := HBwu2.out.size
          clear hbwu5 hzwu5
          refine hK.out _ _ (fun _ => HBwu5.out) ?_
          clear hK K
          try simp only [Act.put, List.setIfInBounds_toArray, List.set_cons_zero, List.set_cons_succ]
          refine wpL_one 4 rfl (by kernel_rfl) (by rfl) ?_
          intro K hK
          go_simp
          have CMwu6 : Hid (Calls _ _ _ _ _) := merge_any a b _ _ _ _ _ _ wu5 Cawu5.out Cbwu5.out
          refine CMwu6.out.mono ?_
          rintro e wu6 ⟨y0, y1, y2, gg, rfl, h0, h1, h2, hN, hbwu6⟩
          dsimp only
          have HBwu6 : Hid (Below wB.heap.size wB wu6) := HBwu5.out.trans ((hbwu6).mono HBwu5.out.size)
          have Zwu6 : Hid (Blk wu6 wu2.heap.size #[.slice none 0 0, .slice none 0 0, .slice none 0 0] 25) := Zwu5.out.on (hbwu6)
          obtain ⟨q0, m0, d0, ey0⟩ : ∃ p n c, y0 = .slice p n c := by
            obtain ⟨p, c, e, _⟩ := h0.row
            exact ⟨_, _, _, e⟩
          obtain ⟨q1, m1, d1, ey1⟩ : ∃ p n c, y1 = .slice p n c := by
            obtain ⟨p, c, e, _⟩ := h1.row
            exact ⟨_, _, _, e⟩
          obtain ⟨q2, m2, d2, ey2⟩ : ∃ p n c, y2 = .slice p n c := by
            obtain ⟨p, c, e, _⟩ := h2.row
            exact ⟨_, _, _, e⟩
          subst ey0 ey1 ey2
          have Mwu6 : Hid (RdF wu6 (.slice q0 m0 d0) (.slice q1 m1 d1) (.slice q2 m2 d2) gg) := mr_rd hN h0 h1 h2
          have HNm : Hid (MrO a b gg) := hN
          clear CMwu6 h0 h1 h2 hN hbwu6 Cawu5 Cbwu5
          refine hK.out _ _ (fun _ => HBwu6.out) ?_
          clear hK K
          try simp only [Act.put, List.setIfInBounds_toArray, List.set_cons_zero, List.set_cons_succ]
          refine wpL_take (v := ?_) 5 rfl (by kernel_rfl) (fun _ _ _ h => h) (by rfl) ?_ HBwu6.out ?_
          rotate_left
          focus
            intro w9 hw9
            have k0 := (HX.out.1.on hw9).cell (i := 0) rfl
            have k1 := (HX.out.1.on hw9).cell (i := 1) rfl
            have k2 := (HX.out.1.on hw9).cell (i := 2) rfl
            have k3 := (HX.out.2.on hw9).cell (i := 0) rfl
            have k4 := (HX.out.2.on hw9).cell (i := 1) rfl
            have k5 := (HX.out.2.on hw9).cell (i := 2) rfl
            go_simp
            try with_reducible rfl
          try simp only [Act.put, List.setIfInBounds_toArray, List.set_cons_zero, List.set_cons_succ]
          refine wpL_take (v := ?_) 6 rfl (by kernel_rfl) (fun _ _ _ h => h) (by rfl) ?_ HBwu6.out ?_
          rotate_left
          focus
            intro w9 hw9
            have k0 := (HX.out.1.on hw9).cell (i := 0) rfl
            have k1 := (HX.out.1.on hw9).cell (i := 1) rfl
            have k2 := (HX.out.1.on hw9).cell (i := 2) rfl
            have k3 := (HX.out.2.on hw9).cell (i := 0) rfl
            have k4 := (HX.out.2.on hw9).cell (i := 1) rfl
            have k5 := (HX.out.2.on hw9).cell (i := 2) rfl
            go_simp
            try with_reducible rfl
          try simp only [Act.put, List.setIfInBounds_toArray, List.set_cons_zero, List.set_cons_succ]
          refine wpL_take (v := ?_) 7 rfl (by kernel_rfl) (fun _ _ _ h => h) (by rfl) ?_ HBwu6.out ?_
          rotate_left
          focus
            intro w9 hw9
            have k0 := (HX.out.1.on hw9).cell (i := 0) rfl
            have k1 := (HX.out.1.on hw9).cell (i := 1) rfl
            have k2 := (HX.out.1.on hw9).cell (i := 2) rfl
            have k3 := (HX.out.2.on hw9).cell (i := 0) rfl
            have k4 := (HX.out.2.on hw9).cell (i := 1) rfl
            have k5 := (HX.out.2.on hw9).cell (i := 2) rfl
            go_simp
            try with_reducible rfl
          try simp only [Act.put, List.setIfInBounds_toArray, List.set_cons_zero, List.set_cons_succ]
          have zz0 := Zwu6.out.cell (i := 0) rfl
          have zz1 := Zwu6.out.cell (i := 1) rfl
          have zz2 := Zwu6.out.cell (i := 2) rfl
          have f0 := Zwu6.out.frozen 0
          have f1 := Zwu6.out.frozen 1
          have f2 := Zwu6.out.frozen 2
          have HF : Hid (Frm wu6 (((wu6.setCell ⟨wu2.heap.size, 0, none⟩ (.slice q0 m0 d0)).setCell ⟨wu2.heap.size, 1, none⟩ (.slice q1 m1 d1)).setCell ⟨wu2.heap.size, 2, none⟩ (.slice q2 m2 d2)) (fun k => k = wu2.heap.size)) := ((frm_set _ _ _ _ (F := fun k => k = wu2.heap.size) (.inl rfl)).trans (frm_set _ _ _ _ (F := fun k => k = wu2.heap.size) (.inl rfl)) (fun k hk => .inl hk)).trans (frm_set _ _ _ _ (F := fun k => k = wu2.heap.size) (.inl rfl)) (fun k hk => .inl hk)
          have HK : Hid (Blk (((wu6.setCell ⟨wu2.heap.size, 0, none⟩ (.slice q0 m0 d0)).setCell ⟨wu2.heap.size, 1, none⟩ (.slice q1 m1 d1)).setCell ⟨wu2.heap.size, 2, none⟩ (.slice q2 m2 d2)) (wu2.heap.size) #[.slice q0 m0 d0, .slice q1 m1 d1, .slice q2 m2 d2] 25) := ((Zwu6.out.set 0 _).set 1 _).set 2 _
          have HRw : Hid (RdF (((wu6.setCell ⟨wu2.heap.size, 0, none⟩ (.slice q0 m0 d0)).setCell ⟨wu2.heap.size, 1, none⟩ (.slice q1 m1 d1)).setCell ⟨wu2.heap.size, 2, none⟩ (.slice q2 m2 d2)) (.slice q0 m0 d0) (.slice q1 m1 d1) (.slice q2 m2 d2) gg) := Mwu6.out.frm1 HF.out Zwu6.out (slices3 _ _ _ _ _ _ _ _ _)
          have HBwe : Hid (Below wB.heap.size wB (((wu6.setCell ⟨wu2.heap.size, 0, none⟩ (.slice q0 m0 d0)).setCell ⟨wu2.heap.size, 1, none⟩ (.slice q1 m1 d1)).setCell ⟨wu2.heap.size, 2, none⟩ (.slice q2 m2 d2))) := HBwu6.out.trans (HF.out.below HBwu6.out.size (fun k hk => by have := HL.out; omega))
          refine wpL_one 9 rfl (by kernel_rfl) (by rfl) ?_
          intro K hK
          go_simp
          refine hK.out _ _ (fun _ => HBwe.out) ?_
          clear hK K zz0 zz1 zz2 f0 f1 f2
          generalize ((wu6.setCell ⟨wu2.heap.size, 0, none⟩ (.slice q0 m0 d0)).setCell ⟨wu2.heap.size, 1, none⟩ (.slice q1 m1 d1)).setCell ⟨wu2.heap.size, 2, none⟩ (.slice q2 m2 d2) = we at *
          try simp only [Act.put, List.setIfInBounds_toArray, List.set_cons_zero, List.set_cons_succ]
          refine wpL_take (v := ?_) 10 rfl (by kernel_rfl) (fun _ _ _ h => h) (by rfl) ?_ HBwe.out ?_
          rotate_left
          focus
            intro w9 hw9
            have k0 := (HX.out.1.on hw9).cell (i := 0) rfl
            have k1 := (HX.out.1.on hw9).cell (i := 1) rfl
            have k2 := (HX.out.1.on hw9).cell (i := 2) rfl
            have k3 := (HX.out.2.on hw9).cell (i := 0) rfl
            have k4 := (HX.out.2.on hw9).cell (i := 1) rfl
            have k5 := (HX.out.2.on hw9).cell (i := 2) rfl
            go_simp
            try with_reducible rfl
          try simp only [Act.put, List.setIfInBounds_toArray, List.set_cons_zero, List.set_cons_succ]
          refine wpL_done (by kernel_rfl) ?_ _
          try simp only [NoPanic]
          go_wp2_with fail
          go_meet
          exact ⟨_, _, _, _, _, _, _, _, _, _, gg, rfl, rfl, HL.out, ⟨HK.out, HBwe.out, HRw.out, HNm.out⟩⟩
      · intro K hK
        go_simp
        have hbwu7 : Below wu1.heap.size wu1 (wu1.alloc (.cells #[.slice none 0 0, .slice none 0 0, .slice none 0 0] 25)) := (Below.refl _ _).alloc (Nat.le_refl _) _
        have hzwu7 : Blk (wu1.alloc (.cells #[.slice none 0 0, .slice none 0 0, .slice none 0 0] 25)) wu1.heap.size #[.slice none 0 0, .slice none 0 0, .slice none 0 0] 25 := Blk.new wu1 _ _
        generalize (wu1.alloc (.cells #[.slice none 0 0, .slice none 0 0, .slice none 0 0] 25)) = wu7 at *
        have HBwu7 : Hid (Below wB.heap.size wB wu7) := HBwu1.out.trans ((hbwu7).mono HBwu1.out.size)
        have Cawu7 : Hid (RdF wu7 cawu10 cawu11 cawu12 a) := Cawu1.out.on (hbwu7)
        have Zwu7 : Hid (Blk wu7 wu1.heap.size #[.slice none 0 0, .slice none 0 0, .slice none 0 0] 25) := hzwu7
        have HL : Hid (wB.heap.size ≤ wu1.heap.size) := HBwu1.out.size
        clear hbwu7 hzwu7
        refine hK.out _ _ (fun _ => HBwu7.out) ?_
        clear hK K
        try simp only [Act.put, List.setIfInBounds_toArray, List.set_cons_zero, List.set_cons_succ]
        refine wpL_one 3 rfl (by kernel_rfl) (by rfl) ?_
        intro K hK
        go_simp
        have CPwu8 : Hid (Calls _ _ _ _ _) := rcopyF b _ _ _ wu7 (HRd.out.2.on HBwu7.out)
        refine CPwu8.out.mono ?_
        rintro e wu8 ⟨cbwu80, cbwu81, cbwu82, rfl, hrwu8, hbwu8⟩
        dsimp only
        have HBwu8 : Hid (Below wB.heap.size wB wu8) := HBwu7.out.trans ((hbwu8).mono HBwu7.out.size)
        have Cawu8 : Hid (RdF wu8 cawu10 cawu11 cawu12 a) := Cawu7.out.on (hbwu8)
        have Zwu8 : Hid (Blk wu8 wu1.heap.size #[.slice none 0 0, .slice none 0 0, .slice none 0 0] 25) := Zwu7.out.on (hbwu8)
        have Cbwu8 : Hid (RdF wu8 cbwu80 cbwu81 cbwu82 b) := hrwu8
        clear CPwu8 hrwu8 hbwu8
        refine hK.out _ _ (fun _ => HBwu8.out) ?_
        clear hK K
        try simp only [Act.put, List.setIfInBounds_toArray, List.set_cons_zero, List.set_cons_succ]
        refine wpL_one 4 rfl (by kernel_rfl) (by rfl) ?_
        intro K hK
        go_simp
        have CMwu9 : Hid (Calls _ _ _ _ _) := merge_any a b _ _ _ _ _ _ wu8 Cawu8.out Cbwu8.out
        refine CMwu9.out.mono ?_
        rintro e wu9 ⟨y0, y1, y2, gg, rfl, h0, h1, h2, hN, hbwu9⟩
        dsimp only
        have HBwu9 : Hid (Below wB.heap.size wB wu9) := HBwu8.out.trans ((hbwu9).mono HBwu8.out.size)
        have Zwu9 : Hid (Blk wu9 wu1.heap.size #[.slice none 0 0, .slice none 0 0, .slice none 0 0] 25) := Zwu8.out.on (hbwu9)
        obtain ⟨q0, m0, d0, ey0⟩ : ∃ p n c, y0 = .slice p n c := by
          obtain ⟨p, c, e, _⟩ := h0.row
          exact ⟨_, _, _, e⟩
        obtain ⟨q1, m1, d1, ey1⟩ : ∃ p n c, y1 = .slice p n c := by
          obtain ⟨p, c, e, _⟩ := h1.row
          exact ⟨_, _, _, e⟩
        obtain ⟨q2, m2, d2, ey2⟩ : ∃ p n c, y2 = .slice p n c := by
          obtain ⟨p, c, e, _⟩ := h2.row
          exact ⟨_, _, _, e⟩
        subst ey0 ey1 ey2
        have Mwu9 : Hid (RdF wu9 (.slice q0 m0 d0) (.slice q1 m1 d1) (.slice q2 m2 d2) gg) := mr_rd hN h0 h1 h2
        have HNm : Hid (MrO a b gg) := hN
        clear CMwu9 h0 h1 h2 hN hbwu9 Cawu8 Cbwu8
        refine hK.out _ _ (fun _ => HBwu9.out) ?_
        clear hK K
        try simp only [Act.put, List.setIfInBounds_toArray, List.set_cons_zero, List.set_cons_succ]
        refine wpL_take (v := ?_) 5 rfl (by kernel_rfl) (fun _ _ _ h => h) (by rfl) ?_ HBwu9.out ?_
        rotate_left
        focus
          intro w9 hw9
          have k0 := (HX.out.1.on hw9).cell (i := 0) rfl
          have k1 := (HX.out.1.on hw9).cell (i := 1) rfl
          have k2 := (HX.out.1.on hw9).cell (i := 2) rfl
          have k3 := (HX.out.2.on hw9).cell (i := 0) rfl
          have k4 := (HX.out.2.on hw9).cell (i := 1) rfl
          have k5 := (HX.out.2.on hw9).cell (i := 2) rfl
          go_simp
          try with_reducible rfl
        try simp only [Act.put, List.setIfInBounds_toArray, List.set_cons_zero, List.set_cons_succ]
        refine wpL_take (v := ?_) 6 rfl (by kernel_rfl) (fun _ _ _ h => h) (by rfl) ?_ HBwu9.out ?_
        rotate_left
        focus
          intro w9 hw9
          have k0 := (HX.out.1.on hw9).cell (i := 0) rfl
          have k1 := (HX.out.1.on hw9).cell (i := 1) rfl
          have k2 := (HX.out.1.on hw9).cell (i := 2) rfl
          have k3 := (HX.out.2.on hw9).cell (i := 0) rfl
          have k4 := (HX.out.2.on hw9).cell (i := 1) rfl
          have k5 := (HX.out.2.on hw9).cell (i := 2) rfl
          go_simp
          try with_reducible rfl
        try simp only [Act.put, List.setIfInBounds_toArray, List.set_cons_zero, List.set_cons_succ]
        refine wpL_take (v := ?_) 7 rfl (by kernel_rfl) (fun _ _ _ h => h) (by rfl) ?_ HBwu9.out ?_
        rotate_left
        focus
          intro w9 hw9
          have k0 := (HX.out.1.on hw9).cell (i := 0) rfl
          have k1 := (HX.out.1.on hw9).cell (i := 1) rfl
          have k2 := (HX.out.1.on hw9).cell (i := 2) rfl
          have k3 := (HX.out.2.on hw9).cell (i := 0) rfl
          have k4 := (HX.out.2.on hw9).cell (i := 1) rfl
          have k5 := (HX.out.2.on hw9).cell (i := 2) rfl
          go_simp
          try with_reducible rfl
        try simp only [Act.put, List.setIfInBounds_toArray, List.set_cons_zero, List.set_cons_succ]
        have zz0 := Zwu9.out.cell (i := 0) rfl
        have zz1 := Zwu9.out.cell (i := 1) rfl
        have zz2 := Zwu9.out.cell (i := 2) rfl
        have f0 := Zwu9.out.frozen 0
        have f1 := Zwu9.out.frozen 1
        have f2 := Zwu9.out.frozen 2
        have HF : Hid (Frm wu9 (((wu9.setCell ⟨wu1.heap.size, 0, none⟩ (.slice q0 m0 d0)).setCell ⟨wu1.heap.size, 1, none⟩ (.slice q1 m1 d1)).setCell ⟨wu1.heap.size, 2, none⟩ (.slice q2 m2 d2)) (fun k => k = wu1.heap.size)) := ((frm_set _ _ _ _ (F := fun k => k = wu1.heap.size) (.inl rfl)).trans (frm_set _ _ _ _ (F := fun k => k = wu1.heap.size) (.inl rfl)) (fun k hk => .inl hk)).trans (frm_set _ _ _ _ (F := fun k => k = wu1.heap.size) (.inl rfl)) (fun k hk => .inl hk)
        have HK : Hid (Blk (((wu9.setCell ⟨wu1.heap.size, 0, none⟩ (.slice q0 m0 d0)).setCell ⟨wu1.heap.size, 1, none⟩ (.slice q1 m1 d1)).setCell ⟨wu1.heap.size, 2, none⟩ (.slice q2 m2 d2)) (wu1.heap.size) #[.slice q0 m0 d0, .slice q1 m1 d1, .slice q2 m2 d2] 25) := ((Zwu9.out.set 0 _).set 1 _).set 2 _
        have HRw : Hid (RdF (((wu9.setCell ⟨wu1.heap.size, 0, none⟩ (.slice q0 m0 d0)).setCell ⟨wu1.heap.size, 1, none⟩ (.slice q1 m1 d1)).setCell ⟨wu1.heap.size, 2, none⟩ (.slice q2 m2 d2)) (.slice q0 m0 d0) (.slice q1 m1 d1) (.slice q2 m2 d2) gg) := Mwu9.out.frm1 HF.out Zwu9.out (slices3 _ _ _ _ _ _ _ _ _)
        have HBwe : Hid (Below wB.heap.size wB (((wu9.setCell ⟨wu1.heap.size, 0, none⟩ (.slice q0 m0 d0)).setCell ⟨wu1.heap.size, 1, none⟩ (.slice q1 m1 d1)).setCell ⟨wu1.heap.size, 2, none⟩ (.slice q2 m2 d2))) := HBwu9.out.trans (HF.out.below HBwu9.out.size (fun k hk => by have := HL.out; omega))
        refine wpL_one 9 rfl (by kernel_rfl) (by rfl) ?_
        intro K hK
        go_simp
        refine hK.out _ _ (fun _ => HBwe.out) ?_
        clear hK K zz0 zz1 zz2 f0 f1 f2
        generalize ((wu9.setCell ⟨wu1.heap.size, 0, none⟩ (.slice q0 m0 d0)).setCell ⟨wu1.heap.size, 1, none⟩ (.slice q1 m1 d1)).setCell ⟨wu1.heap.size, 2, none⟩ (.slice q2 m2 d2) = we at *
        try simp only [Act.put, List.setIfInBounds_toArray, List.set_cons_zero, List.set_cons_succ]
        refine wpL_take (v := ?_) 10 rfl (by kernel_rfl) (fun _ _ _ h => h) (by rfl) ?_ HBwe.out ?_
        rotate_left
        focus
          intro w9 hw9
          have k0 := (HX.out.1.on hw9).cell (i := 0) rfl
          have k1 := (HX.out.1.on hw9).cell (i := 1) rfl
          have k2 := (HX.out.1.on hw9).cell (i := 2) rfl
          have k3 := (HX.out.2.on hw9).cell (i := 0) rfl
          have k4 := (HX.out.2.on hw9).cell (i := 1) rfl
          have k5 := (HX.out.2.on hw9).cell (i := 2) rfl
          go_simp
          try with_reducible rfl
        try simp only [Act.put, List.setIfInBounds_toArray, List.set_cons_zero, List.set_cons_succ]
        refine wpL_done (by kernel_rfl) ?_ _
        try simp only [NoPanic]
        go_wp2_with fail
        go_meet
        exact ⟨_, _, _, _, _, _, _, _, _, _, gg, rfl, rfl, HL.out, ⟨HK.out, HBwe.out, HRw.out, HNm.out⟩⟩
    · intro K hK
      go_simp
      have hbwu10 : Below wd.heap.size wd (wd.alloc (.cells #[.slice none 0 0, .slice none 0 0, .slice none 0 0] 25)) := (Below.refl _ _).alloc (Nat.le_refl _) _
      have hzwu10 : Blk (wd.alloc (.cells #[.slice none 0 0, .slice none 0 0, .slice none 0 0] 25)) wd.heap.size #[.slice none 0 0, .slice none 0 0, .slice none 0 0] 25 := Blk.new wd _ _
      generalize (wd.alloc (.cells #[.slice none 0 0, .slice none 0 0, .slice none 0 0] 25)) = wu10 at *
      have HBwu10 : Hid (Below wB.heap.size wB wu10) := HBwd.out.trans ((hbwu10).mono HBwd.out.size)
      have Zwu10 : Hid (Blk wu10 wd.heap.size #[.slice none 0 0, .slice none 0 0, .slice none 0 0] 25) := hzwu10
      have HL : Hid (wB.heap.size ≤ wd.heap.size) := HBwd.out.size
      clear hbwu10 hzwu10
      refine hK.out _ _ (fun _ => HBwu10.out) ?_
      clear hK K
      try simp only [Act.put, List.setIfInBounds_toArray, List.set_cons_zero, List.set_cons_succ]
      refine wpL_one 1 rfl (by kernel_rfl) (by rfl) ?_
      intro K hK
      go_simp
      have CPwu11 : Hid (Calls _ _ _ _ _) := rcopyF a _ _ _ wu10 (HRd.out.1.on HBwu10.out)
      refine CPwu11.out.mono ?_
      rintro e wu11 ⟨cawu110, cawu111, cawu112, rfl, hrwu11, hbwu11⟩
      dsimp only
      have HBwu11 : Hid (Below wB.heap.size wB wu11) := HBwu10.out.trans ((hbwu11).mono HBwu10.out.size)
      have Zwu11 : Hid (Blk wu11 wd.heap.size #[.slice none 0 0, .slice none 0 0, .slice none 0 0] 25) := Zwu10.out.on (hbwu11)
      have Cawu11 : Hid (RdF wu11 cawu110 cawu111 cawu112 a) := hrwu11
      clear CPwu11 hrwu11 hbwu11
      refine hK.out _ _ (fun _ => HBwu11.out) ?_
      clear hK K
      try simp only [Act.put, List.setIfInBounds_toArray, List.set_cons_zero, List.set_cons_succ]
      refine wpL_one 3 rfl (by kernel_rfl) (by rfl) ?_
      intro K hK
      go_simp
      have CPwu12 : Hid (Calls _ _ _ _ _) := rcopyF b _ _ _ wu11 (HRd.out.2.on HBwu11.out)
      refine CPwu12.out.mono ?_
      rintro e wu12 ⟨cbwu120, cbwu121, cbwu122, rfl, hrwu12, hbwu12⟩
      dsimp only
      have HBwu12 : Hid (Below wB.heap.size wB wu12) := HBwu11.out.trans ((hbwu12).mono HBwu11.out.size)
      have Zwu12 : Hid (Blk wu12 wd.heap.size #[.slice none 0 0, .slice none 0 0, .slice none 0 0] 25) := Zwu11.out.on (hbwu12)
      have Cawu12 : Hid (RdF wu12 cawu110 cawu111 cawu112 a) := Cawu11.out.on (hbwu12)
      have Cbwu12 : Hid (RdF wu12 cbwu120 cbwu121 cbwu122 b) := hrwu12
      clear CPwu12 hrwu12 hbwu12
      refine hK.out _ _ (fun _ => HBwu12.out) ?_
      clear hK K
      try simp only [Act.put, List.setIfInBounds_toArray, List.set_cons_zero, List.set_cons_succ]
      refine wpL_one 4 rfl (by kernel_rfl) (by rfl) ?_
      intro K hK
      go_simp
      have CMwu13 : Hid (Calls _ _ _ _ _) := merge_any a b _ _ _ _ _ _ wu12 Cawu12.out Cbwu12.out
      refine CMwu13.out.mono ?_
      rintro e wu13 ⟨y0, y1, y2, gg, rfl, h0, h1, h2, hN, hbwu13⟩
      dsimp only
      have HBwu13 : Hid (Below wB.heap.size wB wu13) := HBwu12.out.trans ((hbwu13).mono HBwu12.out.size)
      have Zwu13 : Hid (Blk wu13 wd.heap.size #[.slice none 0 0, .slice none 0 0, .slice none 0 0] 25) := Zwu12.out.on (hbwu13)
      obtain ⟨q0, m0, d0, ey0⟩ : ∃ p n c, y0 = .slice p n c := by
        obtain ⟨p, c, e, _⟩ := h0.row
        exact ⟨_, _, _, e⟩
      obtain ⟨q1, m1, d1, ey1⟩ : ∃ p n c, y1 = .slice p n c := by
        obtain ⟨p, c, e, _⟩ := h1.row
        exact ⟨_, _, _, e⟩
      obtain ⟨q2, m2, d2, ey2⟩ : ∃ p n c, y2 = .slice p n c := by
        obtain ⟨p, c, e, _⟩ := h2.row
        exact ⟨_, _, _, e⟩
      subst ey0 ey1 ey2
      have Mwu13 : Hid (RdF wu13 (.slice q0 m0 d0) (.slice q1 m1 d1) (.slice q2 m2 d2) gg) := mr_rd hN h0 h1 h2
      have HNm : Hid (MrO a b gg) := hN
      clear CMwu13 h0 h1 h2 hN hbwu13 Cawu12 Cbwu12
      refine hK.out _ _ (fun _ => HBwu13.out) ?_
      clear hK K
      try simp only [Act.put, List.setIfInBounds_toArray, List.set_cons_zero, List.set_cons_succ]
      refine wpL_take (v := ?_) 5 rfl (by kernel_rfl) (fun _ _ _ h => h) (by rfl) ?_ HBwu13.out ?_
      rotate_left
      focus
        intro w9 hw9
        have k0 := (HX.out.1.on hw9).cell (i := 0) rfl
        have k1 := (HX.out.1.on hw9).cell (i := 1) rfl
        have k2 := (HX.out.1.on hw9).cell (i := 2) rfl
        have k3 := (HX.out.2.on hw9).cell (i := 0) rfl
        have k4 := (HX.out.2.on hw9).cell (i := 1) rfl
        have k5 := (HX.out.2.on hw9).cell (i := 2) rfl
        go_simp
        try with_reducible rfl
      try simp only [Act.put, List.setIfInBounds_toArray, List.set_cons_zero, List.set_cons_succ]
      refine wpL_take (v := ?_) 6 rfl (by kernel_rfl) (fun _ _ _ h => h) (by rfl) ?_ HBwu13.out ?_
      rotate_left
      focus
        intro w9 hw9
        have k0 := (HX.out.1.on hw9).cell (i := 0) rfl
        have k1 := (HX.out.1.on hw9).cell (i := 1) rfl
        have k2 := (HX.out.1.on hw9).cell (i := 2) rfl
        have k3 := (HX.out.2.on hw9).cell (i := 0) rfl
        have k4 := (HX.out.2.on hw9).cell (i := 1) rfl
        have k5 := (HX.out.2.on hw9).cell (i := 2) rfl
        go_simp
        try with_reducible rfl
      try simp only [Act.put, List.setIfInBounds_toArray, List.set_cons_zero, List.set_cons_succ]
      refine wpL_take (v := ?_) 7 rfl (by kernel_rfl) (fun _ _ _ h => h) (by rfl) ?_ HBwu13.out ?_
      rotate_left
      focus
        intro w9 hw9
        have k0 := (HX.out.1.on hw9).cell (i := 0) rfl
        have k1 := (HX.out.1.on hw9).cell (i := 1) rfl
        have k2 := (HX.out.1.on hw9).cell (i := 2) rfl
        have k3 := (HX.out.2.on hw9).cell (i := 0) rfl
        have k4 := (HX.out.2.on hw9).cell (i := 1) rfl
        have k5 := (HX.out.2.on hw9).cell (i := 2) rfl
        go_simp
        try with_reducible rfl
      try simp only [Act.put, List.setIfInBounds_toArray, List.set_cons_zero, List.set_cons_succ]
      have zz0 := Zwu13.out.cell (i := 0) rfl
      have zz1 := Zwu13.out.cell (i := 1) rfl
      have zz2 := Zwu13.out.cell (i := 2) rfl
      have f0 := Zwu13.out.frozen 0
      have f1 := Zwu13.out.frozen 1
      have f2 := Zwu13.out.frozen 2
      have HF : Hid (Frm wu13 (((wu13.setCell ⟨wd.heap.size, 0, none⟩ (.slice q0 m0 d0)).setCell ⟨wd.heap.size, 1, none⟩ (.slice q1 m1 d1)).setCell ⟨wd.heap.size, 2, none⟩ (.slice q2 m2 d2)) (fun k => k = wd.heap.size)) := ((frm_set _ _ _ _ (F := fun k => k = wd.heap.size) (.inl rfl)).trans (frm_set _ _ _ _ (F := fun k => k = wd.heap.size) (.inl rfl)) (fun k hk => .inl hk)).trans (frm_set _ _ _ _ (F := fun k => k = wd.heap.size) (.inl rfl)) (fun k hk => .inl hk)
      have HK : Hid (Blk (((wu13.setCell ⟨wd.heap.size, 0, none⟩ (.slice q0 m0 d0)).setCell ⟨wd.heap.size, 1, none⟩ (.slice q1 m1 d1)).setCell ⟨wd.heap.size, 2, none⟩ (.slice q2 m2 d2)) (wd.heap.size) #[.slice q0 m0 d0, .slice q1 m1 d1, .slice q2 m2 d2] 25) := ((Zwu13.out.set 0 _).set 1 _).set 2 _
      have HRw : Hid (RdF (((wu13.setCell ⟨wd.heap.size, 0, none⟩ (.slice q0 m0 d0)).setCell ⟨wd.heap.size, 1, none⟩ (.slice q1 m1 d1)).setCell ⟨wd.heap.size, 2, none⟩ (.slice q2 m2 d2)) (.slice q0 m0 d0) (.slice q1 m1 d1) (.slice q2 m2 d2) gg) := Mwu13.out.frm1 HF.out Zwu13.out (slices3 _ _ _ _ _ _ _ _ _)
      have HBwe : Hid (Below wB.heap.size wB (((wu13.setCell ⟨wd.heap.size, 0, none⟩ (.slice q0 m0 d0)).setCell ⟨wd.heap.size, 1, none⟩ (.slice q1 m1 d1)).setCell ⟨wd.heap.size, 2, none⟩ (.slice q2 m2 d2))) := HBwu13.out.trans (HF.out.below HBwu13.out.size (fun k hk => by have := HL.out; omega))
      refine wpL_one 9 rfl (by kernel_rfl) (by rfl) ?_
      intro K hK
      go_simp
      refine hK.out _ _ (fun _ => HBwe.out) ?_
      clear hK K zz0 zz1 zz2 f0 f1 f2
      generalize ((wu13.setCell ⟨wd.heap.size, 0, none⟩ (.slice q0 m0 d0)).setCell ⟨wd.heap.size, 1, none⟩ (.slice q1 m1 d1)).setCell ⟨wd.heap.size, 2, none⟩ (.slice q2 m2 d2) = we at *
      try simp only [Act.put, List.setIfInBounds_toArray, List.set_cons_zero, List.set_cons_succ]
      refine wpL_take (v := ?_) 10 rfl (by kernel_rfl) (fun _ _ _ h => h) (by rfl) ?_ HBwe.out ?_
      rotate_left
      focus
        intro w9 hw9
        have k0 := (HX.out.1.on hw9).cell (i := 0) rfl
        have k1 := (HX.out.1.on hw9).cell (i := 1) rfl
        have k2 := (HX.out.1.on hw9).cell (i := 2) rfl
        have k3 := (HX.out.2.on hw9).cell (i := 0) rfl
        have k4 := (HX.out.2.on hw9).cell (i := 1) rfl
        have k5 := (HX.out.2.on hw9).cell (i := 2) rfl
        go_simp
        try with_reducible rfl
      try simp only [Act.put, List.setIfInBounds_toArray, List.set_cons_zero, List.set_cons_succ]
      refine wpL_done (by kernel_rfl) ?_ _
      try simp only [NoPanic]
      go_wp2_with fail
      go_meet
      exact ⟨_, _, _, _, _, _, _, _, _, _, gg, rfl, rfl, HL.out, ⟨HK.out, HBwe.out, HRw.out, HNm.out⟩⟩
  case rest =>
    obtain ⟨β, q0, q1, q2, m0, m1, m2, d0, d1, d2, gg, rfl, rfl, hβ, H1⟩ := hcut
    generalize wc = w1 at *
    have HB1 : Hid (Below wB.heap.size wB w1) := H1.out.2.1
    have g0 := (HX.out.1.on HB1.out).cell (i := 0) rfl
    have g1 := (HX.out.1.on HB1.out).cell (i := 1) rfl
    have g2 := (HX.out.1.on HB1.out).cell (i := 2) rfl
    have h0 := (HX.out.2.on HB1.out).cell (i := 0) rfl
    have h1 := (HX.out.2.on HB1.out).cell (i := 1) rfl
    have h2 := (HX.out.2.on HB1.out).cell (i := 2) rfl
    have C2 : Hid (Calls _ _ _ _ _) := rmerge_any a b _ _ _ _ _ _ w1 (HRd.out.1.on HB1.out) (HRd.out.2.on HB1.out)
    go_wp2_with fail
    refine C2.out.mono ?_
    rintro e w2 ⟨y0, y1, y2, gf, rfl, hr2, hm2, hb2⟩
    have e2 := H1.out.2.2.2.uniq hm2
    subst e2
    clear C2 g0 g1 g2 h0 h1 h2 hm2
    obtain ⟨r0, s0, t0, ey0⟩ : ∃ p n c, y0 = .slice p n c := by
      obtain ⟨p, c, e, _⟩ := hr2.p.f
      exact ⟨_, _, _, e⟩
    obtain ⟨r1, s1, t1, ey1⟩ : ∃ p n c, y1 = .slice p n c := by
      obtain ⟨p, c, e, _⟩ := hr2.s.f
      exact ⟨_, _, _, e⟩
    obtain ⟨r2, s2, t2, ey2⟩ : ∃ p n c, y2 = .slice p n c := by
      obtain ⟨p, c, e, _⟩ := hr2.w.f
      exact ⟨_, _, _, e⟩
    subst ey0 ey1 ey2
    have hal3 : Below w2.heap.size w2 (w2.alloc (.cells #[.slice r0 s0 t0, .slice r1 s1 t1, .slice r2 s2 t2] 25)) := (Below.refl _ _).alloc (Nat.le_refl _) _
    have HB3 : Hid (Below wB.heap.size wB (w2.alloc (.cells #[.slice r0 s0 t0, .slice r1 s1 t1, .slice r2 s2 t2] 25))) := (HB1.out.trans (hb2.mono HB1.out.size)).trans (hal3.mono (Nat.le_trans HB1.out.size hb2.size))
    have HK3 : Hid (Blk (w2.alloc (.cells #[.slice r0 s0 t0, .slice r1 s1 t1, .slice r2 s2 t2] 25)) β #[.slice q0 m0 d0, .slice q1 m1 d1, .slice q2 m2 d2] 25) := (H1.out.1.on hb2).on hal3
    have HG3 : Hid (RdF (w2.alloc (.cells #[.slice r0 s0 t0, .slice r1 s1 t1, .slice r2 s2 t2] 25)) (.slice q0 m0 d0) (.slice q1 m1 d1) (.slice q2 m2 d2) gg) := (H1.out.2.2.1.on hb2).on hal3
    have HN : Hid (MrO a b gg) := H1.out.2.2.2
    have hK4 := Blk.new w2 #[.slice r0 s0 t0, .slice r1 s1 t1, .slice r2 s2 t2] 25
    have CS : Hid (Calls _ _ _ _ _) := rsameF gg _ _ _ _ _ _ (w2.alloc (.cells #[.slice r0 s0 t0, .slice r1 s1 t1, .slice r2 s2 t2] 25)) HG3.out (hr2.on hal3)
    have k0 := HK3.out.cell (i := 0) rfl
    have k1 := HK3.out.cell (i := 1) rfl
    have k2 := HK3.out.cell (i := 2) rfl
    have l0 := hK4.cell (i := 0) rfl
    have l1 := hK4.cell (i := 1) rfl
    have l2 := hK4.cell (i := 2) rfl
    clear hr2 hb2 hal3 hK4 H1 HB1
    go_wp2_with fail
    generalize (w2.alloc (.cells #[.slice r0 s0 t0, .slice r1 s1 t1, .slice r2 s2 t2] 25)) = w3 at *
    refine CS.out.mono ?_
    rintro e w4 ⟨rfl, hb4⟩
    clear CS k0 k1 k2 l0 l1 l2
    have HBw4 : Hid (Below wB.heap.size wB w4) := HB3.out.trans (hb4.mono HB3.out.size)
    have HK4 : Hid (Blk w4 β #[.slice q0 m0 d0, .slice q1 m1 d1, .slice q2 m2 d2] 25) := HK3.out.on hb4
    have HG4 : Hid (RdF w4 (.slice q0 m0 d0) (.slice q1 m1 d1) (.slice q2 m2 d2) gg) := HG3.out.on hb4
    clear hb4 HB3 HK3 HG3
    go_upto_region 5 with fail
    go_cut [9, 10] from 34 to 41 (fun p5 e6 wx => ∃ (β2 : Nat) (u0 u1 u2 : Option Addr) (v0 v1 v2 z0 z1 z2 : Nat) (hh : Ft), p5 = .pointer (some ⟨β2, 0, none⟩) ∧ e6 = .int .i64 (chkM b a) ∧ Hid (Blk wx β #[.slice q0 m0 d0, .slice q1 m1 d1, .slice q2 m2 d2] 25 ∧ RdF wx (.slice q0 m0 d0) (.slice q1 m1 d1) (.slice q2 m2 d2) gg) ∧ Hid (Blk wx β2 #[.slice u0 v0 z0, .slice u1 v1 z1, .slice u2 v2 z2] 25 ∧ Below wB.heap.size wB wx ∧ RdF wx (.slice u0 v0 z0) (.slice u1 v1 z1) (.slice u2 v2 z2) hh ∧ MrO b a hh))
    case first =>
      refine wp_region_L (fun w' => Below wB.heap.size wB w') 11 (by kernel_rfl) ?_
      have hdr : Below w4.heap.size w4 w4.drew := (Below.refl _ _).drew
      have HBwd : Hid (Below wB.heap.size wB w4.drew) := HBw4.out.trans (hdr.mono HBw4.out.size)
      have Ewd : Hid (Blk w4.drew β #[.slice q0 m0 d0, .slice q1 m1 d1, .slice q2 m2 d2] 25) := HK4.out.on hdr
      have Dwd : Hid (RdF w4.drew (.slice q0 m0 d0) (.slice q1 m1 d1) (.slice q2 m2 d2) gg) := HG4.out.on hdr
      clear hdr HK4 HG4 HN
      generalize w4.drew = wd at *
      refine wpL_take (v := ?_) 0 rfl (by kernel_rfl) (fun _ _ _ h => h) (by rfl) ?_ HBwd.out ?_
      rotate_left
      focus
        intro w9 hw9
        have k0 := (HX.out.1.on hw9).cell (i := 0) rfl
        have k1 := (HX.out.1.on hw9).cell (i := 1) rfl
        have k2 := (HX.out.1.on hw9).cell (i := 2) rfl
        have k3 := (HX.out.2.on hw9).cell (i := 0) rfl
        have k4 := (HX.out.2.on hw9).cell (i := 1) rfl
        have k5 := (HX.out.2.on hw9).cell (i := 2) rfl
        go_simp
        try with_reducible rfl
      try simp only [Act.put, List.setIfInBounds_toArray, List.set_cons_zero, List.set_cons_succ]
      refine wpL_take (v := ?_) 2 rfl (by kernel_rfl) (fun _ _ _ h => h) (by rfl) ?_ HBwd.out ?_
      rotate_left
      focus
        intro w9 hw9
        have k0 := (HX.out.1.on hw9).cell (i := 0) rfl
        have k1 := (HX.out.1.on hw9).cell (i := 1) rfl
        have k2 := (HX.out.1.on hw9).cell (i := 2) rfl
        have k3 := (HX.out.2.on hw9).cell (i := 0) rfl
        have k4 := (HX.out.2.on hw9).cell (i := 1) rfl
        have k5 := (HX.out.2.on hw9).cell (i := 2) rfl
        go_simp
        try with_reducible rfl
      try simp only [Act.put, List.setIfInBounds_toArray, List.set_cons_zero, List.set_cons_succ]
      refine wpL_two17 1 8 rfl rfl (by kernel_rfl) (by rfl) (by rfl) ?_ ?_
      · intro K hK
        go_simp
        have CPwu14 : Hid (Calls _ _ _ _ _) := rcopyF b _ _ _ wd (HRd.out.2.on HBwd.out)
        refine CPwu14.out.mono ?_
        rintro e wu14 ⟨cbwu140, cbwu141, cbwu142, rfl, hrwu14, hbwu14⟩
        dsimp only
        have HBwu14 : Hid (Below wB.heap.size wB wu14) := HBwd.out.trans ((hbwu14).mono HBwd.out.size)
        have Ewu14 : Hid (Blk wu14 β #[.slice q0 m0 d0, .slice q1 m1 d1, .slice q2 m2 d2] 25) := Ewd.out.on (hbwu14)
        have Dwu14 : Hid (RdF wu14 (.slice q0 m0 d0) (.slice q1 m1 d1) (.slice q2 m2 d2) gg) := Dwd.out.on (hbwu14)
        have Cbwu14 : Hid (RdF wu14 cbwu140 cbwu141 cbwu142 b) := hrwu14
        clear CPwu14 hrwu14 hbwu14
        refine hK.out _ _ (fun _ => HBwu14.out) ?_
        clear hK K
        try simp only [Act.put, List.setIfInBounds_toArray, List.set_cons_zero, List.set_cons_succ]
        refine wpL_two17 3 8 rfl rfl (by kernel_rfl) (by rfl) (by rfl) ?_ ?_
        · intro K hK
          go_simp
          have CPwu15 : Hid (Calls _ _ _ _ _) := rcopyF a _ _ _ wu14 (HRd.out.1.on HBwu14.out)
          refine CPwu15.out.mono ?_
          rintro e wu15 ⟨cawu150, cawu151, cawu152, rfl, hrwu15, hbwu15⟩
          dsimp only
          have HBwu15 : Hid (Below wB.heap.size wB wu15) := HBwu14.out.trans ((hbwu15).mono HBwu14.out.size)
          have Ewu15 : Hid (Blk wu15 β #[.slice q0 m0 d0, .slice q1 m1 d1, .slice q2 m2 d2] 25) := Ewu14.out.on (hbwu15)
          have Dwu15 : Hid (RdF wu15 (.slice q0 m0 d0) (.slice q1 m1 d1) (.slice q2 m2 d2) gg) := Dwu14.out.on (hbwu15)
          have Cbwu15 : Hid (RdF wu15 cbwu140 cbwu141 cbwu142 b) := Cbwu14.out.on (hbwu15)
          have Cawu15 : Hid (RdF wu15 cawu150 cawu151 cawu152 a) := hrwu15
          clear CPwu15 hrwu15 hbwu15
          refine hK.out _ _ (fun _ => HBwu15.out) ?_
          clear hK K
          try simp only [Act.put, List.setIfInBounds_toArray, List.set_cons_zero, List.set_cons_succ]
          refine wpL_two17 4 8 rfl rfl (by kernel_rfl) (by rfl) (by rfl) ?_ ?_
          · intro K hK
            go_simp
            have CMwu16 : Hid (Calls _ _ _ _ _) := merge_any b a _ _ _ _ _ _ wu15 Cbwu15.out Cawu15.out
            refine CMwu16.out.mono ?_
            rintro e wu16 ⟨y0, y1, y2, hh, rfl, h0, h1, h2, hN, hbwu16⟩
            dsimp only
            have HBwu16 : Hid (Below wB.heap.size wB wu16) := HBwu15.out.trans ((hbwu16).mono HBwu15.out.size)
            have Ewu16 : Hid (Blk wu16 β #[.slice q0 m0 d0, .slice q1 m1 d1, .slice q2 m2 d2] 25) := Ewu15.out.on (hbwu16)
            have Dwu16 : Hid (RdF wu16 (.slice q0 m0 d0) (.slice q1 m1 d1) (.slice q2 m2 d2) gg) := Dwu15.out.on (hbwu16)
            obtain ⟨u0, v0, z0, ey0⟩ : ∃ p n c, y0 = .slice p n c := by
              obtain ⟨p, c, e, _⟩ := h0.row
              exact ⟨_, _, _, e⟩
            obtain ⟨u1, v1, z1, ey1⟩ : ∃ p n c, y1 = .slice p n c := by
              obtain ⟨p, c, e, _⟩ := h1.row
              exact ⟨_, _, _, e⟩
            obtain ⟨u2, v2, z2, ey2⟩ : ∃ p n c, y2 = .slice p n c := by
              obtain ⟨p, c, e, _⟩ := h2.row
              exact ⟨_, _, _, e⟩
            subst ey0 ey1 ey2
            have Mwu16 : Hid (RdF wu16 (.slice u0 v0 z0) (.slice u1 v1 z1) (.slice u2 v2 z2) hh) := mr_rd hN h0 h1 h2
            have HNm : Hid (MrO b a hh) := hN
            clear CMwu16 h0 h1 h2 hN hbwu16 Cbwu15 Cawu15
            refine hK.out _ _ (fun _ => HBwu16.out) ?_
            clear hK K
            try simp only [Act.put, List.setIfInBounds_toArray, List.set_cons_zero, List.set_cons_succ]
            refine wpL_take (v := ?_) 5 rfl (by kernel_rfl) (fun _ _ _ h => h) (by rfl) ?_ HBwu16.out ?_
            rotate_left
            focus
              intro w9 hw9
              have k0 := (HX.out.1.on hw9).cell (i := 0) rfl
              have k1 := (HX.out.1.on hw9).cell (i := 1) rfl
              have k2 := (HX.out.1.on hw9).cell (i := 2) rfl
              have k3 := (HX.out.2.on hw9).cell (i := 0) rfl
              have k4 := (HX.out.2.on hw9).cell (i := 1) rfl
              have k5 := (HX.out.2.on hw9).cell (i := 2) rfl
              go_simp
              try with_reducible rfl
            try simp only [Act.put, List.setIfInBounds_toArray, List.set_cons_zero, List.set_cons_succ]
            refine wpL_take (v := ?_) 6 rfl (by kernel_rfl) (fun _ _ _ h => h) (by rfl) ?_ HBwu16.out ?_
            rotate_left
            focus
              intro w9 hw9
              have k0 := (HX.out.1.on hw9).cell (i := 0) rfl
              have k1 := (HX.out.1.on hw9).cell (i := 1) rfl
              have k2 := (HX.out.1.on hw9).cell (i := 2) rfl
              have k3 := (HX.out.2.on hw9).cell (i := 0) rfl
              have k4 := (HX.out.2.on hw9).cell (i := 1) rfl
              have k5 := (HX.out.2.on hw9).cell (i := 2) rfl
              go_simp
              try with_reducible rfl
            try simp only [Act.put, List.setIfInBounds_toArray, List.set_cons_zero, List.set_cons_succ]
            refine wpL_take (v := ?_) 7 rfl (by kernel_rfl) (fun _ _ _ h => h) (by rfl) ?_ HBwu16.out ?_
            rotate_left
            focus
              intro w9 hw9
              have k0 := (HX.out.1.on hw9).cell (i := 0) rfl
              have k1 := (HX.out.1.on hw9).cell (i := 1) rfl
              have k2 := (HX.out.1.on hw9).cell (i := 2) rfl
              have k3 := (HX.out.2.on hw9).cell (i := 0) rfl
              have k4 := (HX.out.2.on hw9).cell (i := 1) rfl
              have k5 := (HX.out.2.on hw9).cell (i := 2) rfl
              go_simp
              try with_reducible rfl
            try simp only [Act.put, List.setIfInBounds_toArray, List.set_cons_zero, List.set_cons_succ]
            refine wpL_one 8 rfl (by kernel_rfl) (by rfl) ?_
            intro K hK
            go_simp
            have hbwu17 : Below wu16.heap.size wu16 (wu16.alloc (.cells #[.slice none 0 0, .slice none 0 0, .slice none 0 0] 25)) := (Below.refl _ _).alloc (Nat.le_refl _) _
            have hzwu17 : Blk (wu16.alloc (.cells #[.slice none 0 0, .slice none 0 0, .slice none 0 0] 25)) wu16.heap.size #[.slice none 0 0, .slice none 0 0, .slice none 0 0] 25 := Blk.new wu16 _ _
            generalize (wu16.alloc (.cells #[.slice none 0 0, .slice none 0 0, .slice none 0 0] 25)) = wu17 at *
            have HBwu17 : Hid (Below wB.heap.size wB wu17) := HBwu16.out.trans ((hbwu17).mono HBwu16.out.size)
            have Ewu17 : Hid (Blk wu17 β #[.slice q0 m0 d0, .slice q1 m1 d1, .slice q2 m2 d2] 25) := Ewu16.out.on (hbwu17)
            have Dwu17 : Hid (RdF wu17 (.slice q0 m0 d0) (.slice q1 m1 d1) (.slice q2 m2 d2) gg) := Dwu16.out.on (hbwu17)
            have Mwu17 : Hid (RdF wu17 (.slice u0 v0 z0) (.slice u1 v1 z1) (.slice u2 v2 z2) hh) := Mwu16.out.on (hbwu17)
            have Zwu17 : Hid (Blk wu17 wu16.heap.size #[.slice none 0 0, .slice none 0 0, .slice none 0 0] 25) := hzwu17
            have HL : Hid (wB.heap.size ≤ wu16.heap.size) := HBwu16.out.size
            clear hbwu17 hzwu17
            have HEl : Hid (β < wu16.heap.size) := Ewu16.out.lt
            refine hK.out _ _ (fun _ => HBwu17.out) ?_
            clear hK K
            try simp only [Act.put, List.setIfInBounds_toArray, List.set_cons_zero, List.set_cons_succ]
            have zz0 := Zwu17.out.cell (i := 0) rfl
            have zz1 := Zwu17.out.cell (i := 1) rfl
            have zz2 := Zwu17.out.cell (i := 2) rfl
            have f0 := Zwu17.out.frozen 0
            have f1 := Zwu17.out.frozen 1
            have f2 := Zwu17.out.frozen 2
            have HF : Hid (Frm wu17 (((wu17.setCell ⟨wu16.heap.size, 0, none⟩ (.slice u0 v0 z0)).setCell ⟨wu16.heap.size, 1, none⟩ (.slice u1 v1 z1)).setCell ⟨wu16.heap.size, 2, none⟩ (.slice u2 v2 z2)) (fun k => k = wu16.heap.size)) := ((frm_set _ _ _ _ (F := fun k => k = wu16.heap.size) (.inl rfl)).trans (frm_set _ _ _ _ (F := fun k => k = wu16.heap.size) (.inl rfl)) (fun k hk => .inl hk)).trans (frm_set _ _ _ _ (F := fun k => k = wu16.heap.size) (.inl rfl)) (fun k hk => .inl hk)
            have HK : Hid (Blk (((wu17.setCell ⟨wu16.heap.size, 0, none⟩ (.slice u0 v0 z0)).setCell ⟨wu16.heap.size, 1, none⟩ (.slice u1 v1 z1)).setCell ⟨wu16.heap.size, 2, none⟩ (.slice u2 v2 z2)) (wu16.heap.size) #[.slice u0 v0 z0, .slice u1 v1 z1, .slice u2 v2 z2] 25) := ((Zwu17.out.set 0 _).set 1 _).set 2 _
            have HRw : Hid (RdF (((wu17.setCell ⟨wu16.heap.size, 0, none⟩ (.slice u0 v0 z0)).setCell ⟨wu16.heap.size, 1, none⟩ (.slice u1 v1 z1)).setCell ⟨wu16.heap.size, 2, none⟩ (.slice u2 v2 z2)) (.slice u0 v0 z0) (.slice u1 v1 z1) (.slice u2 v2 z2) hh) := Mwu17.out.frm1 HF.out Zwu17.out (slices3 _ _ _ _ _ _ _ _ _)
            have HBwe : Hid (Below wB.heap.size wB (((wu17.setCell ⟨wu16.heap.size, 0, none⟩ (.slice u0 v0 z0)).setCell ⟨wu16.heap.size, 1, none⟩ (.slice u1 v1 z1)).setCell ⟨wu16.heap.size, 2, none⟩ (.slice u2 v2 z2))) := HBwu17.out.trans (HF.out.below HBwu17.out.size (fun k hk => by have := HL.out; omega))
            have HEw : Hid (Blk (((wu17.setCell ⟨wu16.heap.size, 0, none⟩ (.slice u0 v0 z0)).setCell ⟨wu16.heap.size, 1, none⟩ (.slice u1 v1 z1)).setCell ⟨wu16.heap.size, 2, none⟩ (.slice u2 v2 z2)) β #[.slice q0 m0 d0, .slice q1 m1 d1, .slice q2 m2 d2] 25 ∧ RdF (((wu17.setCell ⟨wu16.heap.size, 0, none⟩ (.slice u0 v0 z0)).setCell ⟨wu16.heap.size, 1, none⟩ (.slice u1 v1 z1)).setCell ⟨wu16.heap.size, 2, none⟩ (.slice u2 v2 z2)) (.slice q0 m0 d0) (.slice q1 m1 d1) (.slice q2 m2 d2) gg) := ⟨Ewu17.out.frm HF.out (by have := HEl.out; omega), Dwu17.out.frm1 HF.out Zwu17.out (slices3 _ _ _ _ _ _ _ _ _)⟩
            refine wpL_one 9 rfl (by kernel_rfl) (by rfl) ?_
            intro K hK
            go_simp
            refine hK.out _ _ (fun _ => HBwe.out) ?_
            clear hK K zz0 zz1 zz2 f0 f1 f2
            generalize ((wu17.setCell ⟨wu16.heap.size, 0, none⟩ (.slice u0 v0 z0)).setCell ⟨wu16.heap.size, 1, none⟩ (.slice u1 v1 z1)).setCell ⟨wu16.heap.size, 2, none⟩ (.slice u2 v2 z2) = we at *
            try simp only [Act.put, List.setIfInBounds_toArray, List.set_cons_zero, List.set_cons_succ]
            refine wpL_take (v := ?_) 10 rfl (by kernel_rfl) (fun _ _ _ h => h) (by rfl) ?_ HBwe.out ?_
            rotate_left
            focus
              intro w9 hw9
              have k0 := (HX.out.1.on hw9).cell (i := 0) rfl
              have k1 := (HX.out.1.on hw9).cell (i := 1) rfl
              have k2 := (HX.out.1.on hw9).cell (i := 2) rfl
              have k3 := (HX.out.2.on hw9).cell (i := 0) rfl
              have k4 := (HX.out.2.on hw9).cell (i := 1) rfl
              have k5 := (HX.out.2.on hw9).cell (i := 2) rfl
              go_simp
              try with_reducible rfl
            try simp only [Act.put, List.setIfInBounds_toArray, List.set_cons_zero, List.set_cons_succ]
            refine wpL_done (by kernel_rfl) ?_ _
            try simp only [NoPanic]
            go_wp2_with fail
            go_meet
            exact ⟨_, _, _, _, _, _, _, _, _, _, hh, rfl, rfl, HEw.out, ⟨HK.out, HBwe.out, HRw.out, HNm.out⟩⟩
          · intro K hK
            go_simp
            have hbwu18 : Below wu15.heap.size wu15 (wu15.alloc (.cells #[.slice none 0 0, .slice none 0 0, .slice none 0 0] 25)) := (Below.refl _ _).alloc (Nat.le_refl _) _
            have hzwu18 : Blk (wu15.alloc (.cells #[.slice none 0 0, .slice none 0 0, .slice none 0 0] 25)) wu15.heap.size #[.slice none 0 0, .slice none 0 0, .slice none 0 0] 25 := Blk.new wu15 _ _
            generalize (wu15.alloc (.cells #[.slice none 0 0, .slice none 0 0, .slice none 0 0] 25)) = wu18 at *
            have HBwu18 : Hid (Below wB.heap.size wB wu18) := HBwu15.out.trans ((hbwu18).mono HBwu15.out.size)
            have Ewu18 : Hid (Blk wu18 β #[.slice q0 m0 d0, .slice q1 m1 d1, .slice q2 m2 d2] 25) := Ewu15.out.on (hbwu18)
            have Dwu18 : Hid (RdF wu18 (.slice q0 m0 d0) (.slice q1 m1 d1) (.slice q2 m2 d2) gg) := Dwu15.out.on (hbwu18)
            have Cbwu18 : Hid (RdF wu18 cbwu140 cbwu141 cbwu142 b) := Cbwu15.out.on (hbwu18)
            have Cawu18 : Hid (RdF wu18 cawu150 cawu151 cawu152 a) := Cawu15.out.on (hbwu18)
            have Zwu18 : Hid (Blk wu18 wu15.heap.size #[.slice none 0 0, .slice none 0 0, .slice none 0 0] 25) := hzwu18
            have HL : Hid (wB.heap.size ≤ wu15.heap.size) := HBwu15.out.size
            clear hbwu18 hzwu18
            have HEl : Hid (β < wu15.heap.size) := Ewu15.out.lt
            refine hK.out _ _ (fun _ => HBwu18.out) ?_
            clear hK K
            try simp only [Act.put, List.setIfInBounds_toArray, List.set_cons_zero, List.set_cons_succ]
            refine wpL_one 4 rfl (by kernel_rfl) (by rfl) ?_
            intro K hK
            go_simp
            have CMwu19 : Hid (Calls _ _ _ _ _) := merge_any b a _ _ _ _ _ _ wu18 Cbwu18.out Cawu18.out
            refine CMwu19.out.mono ?_
            rintro e wu19 ⟨y0, y1, y2, hh, rfl, h0, h1, h2, hN, hbwu19⟩
            dsimp only
            have HBwu19 : Hid (Below wB.heap.size wB wu19) := HBwu18.out.trans ((hbwu19).mono HBwu18.out.size)
            have Ewu19 : Hid (Blk wu19 β #[.slice q0 m0 d0, .slice q1 m1 d1, .slice q2 m2 d2] 25) := Ewu18.out.on (hbwu19)
            have Dwu19 : Hid (RdF wu19 (.slice q0 m0 d0) (.slice q1 m1 d1) (.slice q2 m2 d2) gg) := Dwu18.out.on (hbwu19)
            have Zwu19 : Hid (Blk wu19 wu15.heap.size #[.slice none 0 0, .slice none 0 0, .slice none 0 0] 25) := Zwu18.out.on (hbwu19)
            obtain ⟨u0, v0, z0, ey0⟩ : ∃ p n c, y0 = .slice p n c := by
              obtain ⟨p, c, e, _⟩ := h0.row
              exact ⟨_, _, _, e⟩
            obtain ⟨u1, v1, z1, ey1⟩ : ∃ p n c, y1 = .slice p n c := by
              obtain ⟨p, c, e, _⟩ := h1.row
              exact ⟨_, _, _, e⟩
            obtain ⟨u2, v2, z2, ey2⟩ : ∃ p n c, y2 = .slice p n c := by
              obtain ⟨p, c, e, _⟩ := h2.row
              exact ⟨_, _, _, e⟩
            subst ey0 ey1 ey2
            have Mwu19 : Hid (RdF wu19 (.slice u0 v0 z0) (.slice u1 v1 z1) (.slice u2 v2 z2) hh) := mr_rd hN h0 h1 h2
            have HNm : Hid (MrO b a hh) := hN
            clear CMwu19 h0 h1 h2 hN hbwu19 Cbwu18 Cawu18
            refine hK.out _ _ (fun _ => HBwu19.out) ?_
            clear hK K
            try simp only [Act.put, List.setIfInBounds_toArray, List.set_cons_zero, List.set_cons_succ]
            refine wpL_take (v := ?_) 5 rfl (by kernel_rfl) (fun _ _ _ h => h) (by rfl) ?_ HBwu19.out ?_
            rotate_left
            focus
              intro w9 hw9
              have k0 := (HX.out.1.on hw9).cell (i := 0) rfl
              have k1 := (HX.out.1.on hw9).cell (i := 1) rfl
              have k2 := (HX.out.1.on hw9).cell (i := 2) rfl
              have k3 := (HX.out.2.on hw9).cell (i := 0) rfl
              have k4 := (HX.out.2.on hw9).cell (i := 1) rfl
              have k5 := (HX.out.2.on hw9).cell (i := 2) rfl
              go_simp
              try with_reducible rfl
            try simp only [Act.put, List.setIfInBounds_toArray, List.set_cons_zero, List.set_cons_succ]
            refine wpL_take (v := ?_) 6 rfl (by kernel_rfl) (fun _ _ _ h => h) (by rfl) ?_ HBwu19.out ?_
            rotate_left
            focus
              intro w9 hw9
              have k0 := (HX.out.1.on hw9).cell (i := 0) rfl
              have k1 := (HX.out.1.on hw9).cell (i := 1) rfl
              have k2 := (HX.out.1.on hw9).cell (i := 2) rfl
              have k3 := (HX.out.2.on hw9).cell (i := 0) rfl
              have k4 := (HX.out.2.on hw9).cell (i := 1) rfl
              have k5 := (HX.out.2.on hw9).cell (i := 2) rfl
              go_simp
              try with_reducible rfl
            try simp only [Act.put, List.setIfInBounds_toArray, List.set_cons_zero, List.set_cons_succ]
            refine wpL_take (v := ?_) 7 rfl (by kernel_rfl) (fun _ _ _ h => h) (by rfl) ?_ HBwu19.out ?_
            rotate_left
            focus
              intro w9 hw9
              have k0 := (HX.out.1.on hw9).cell (i := 0) rfl
              have k1 := (HX.out.1.on hw9).cell (i := 1) rfl
              have k2 := (HX.out.1.on hw9).cell (i := 2) rfl
              have k3 := (HX.out.2.on hw9).cell (i := 0) rfl
              have k4 := (HX.out.2.on hw9).cell (i := 1) rfl
              have k5 := (HX.out.2.on hw9).cell (i := 2) rfl
              go_simp
              try with_reducible rfl
            try simp only [Act.put, List.setIfInBounds_toArray, List.set_cons_zero, List.set_cons_succ]
            have zz0 := Zwu19.out.cell (i := 0) rfl
            have zz1 := Zwu19.out.cell (i := 1) rfl
            have zz2 := Zwu19.out.cell (i := 2) rfl
            have f0 := Zwu19.out.frozen 0
            have f1 := Zwu19.out.frozen 1
            have f2 := Zwu19.out.frozen 2
            have HF : Hid (Frm wu19 (((wu19.setCell ⟨wu15.heap.size, 0, none⟩ (.slice u0 v0 z0)).setCell ⟨wu15.heap.size, 1, none⟩ (.slice u1 v1 z1)).setCell ⟨wu15.heap.size, 2, none⟩ (.slice u2 v2 z2)) (fun k => k = wu15.heap.size)) := ((frm_set _ _ _ _ (F := fun k => k = wu15.heap.size) (.inl rfl)).trans (frm_set _ _ _ _ (F := fun k => k = wu15.heap.size) (.inl rfl)) (fun k hk => .inl hk)).trans (frm_set _ _ _ _ (F := fun k => k = wu15.heap.size) (.inl rfl)) (fun k hk => .inl hk)
            have HK : Hid (Blk (((wu19.setCell ⟨wu15.heap.size, 0, none⟩ (.slice u0 v0 z0)).setCell ⟨wu15.heap.size, 1, none⟩ (.slice u1 v1 z1)).setCell ⟨wu15.heap.size, 2, none⟩ (.slice u2 v2 z2)) (wu15.heap.size) #[.slice u0 v0 z0, .slice u1 v1 z1, .slice u2 v2 z2] 25) := ((Zwu19.out.set 0 _).set 1 _).set 2 _
            have HRw : Hid (RdF (((wu19.setCell ⟨wu15.heap.size, 0, none⟩ (.slice u0 v0 z0)).setCell ⟨wu15.heap.size, 1, none⟩ (.slice u1 v1 z1)).setCell ⟨wu15.heap.size, 2, none⟩ (.slice u2 v2 z2)) (.slice u0 v0 z0) (.slice u1 v1 z1) (.slice u2 v2 z2) hh) := Mwu19.out.frm1 HF.out Zwu19.out (slices3 _ _ _ _ _ _ _ _ _)
            have HBwe : Hid (Below wB.heap.size wB (((wu19.setCell ⟨wu15.heap.size, 0, none⟩ (.slice u0 v0 z0)).setCell ⟨wu15.heap.size, 1, none⟩ (.slice u1 v1 z1)).setCell ⟨wu15.heap.size, 2, none⟩ (.slice u2 v2 z2))) := HBwu19.out.trans (HF.out.below HBwu19.out.size (fun k hk => by have := HL.out; omega))
            have HEw : Hid (Blk (((wu19.setCell ⟨wu15.heap.size, 0, none⟩ (.slice u0 v0 z0)).setCell ⟨wu15.heap.size, 1, none⟩ (.slice u1 v1 z1)).setCell ⟨wu15.heap.size, 2, none⟩ (.slice u2 v2 z2)) β #[.slice q0 m0 d0, .slice q1 m1 d1, .slice q2 m2 d2] 25 ∧ RdF (((wu19.setCell ⟨wu15.heap.size, 0, none⟩ (.slice u0 v0 z0)).setCell ⟨wu15.heap.size, 1, none⟩ (.slice u1 v1 z1)).setCell ⟨wu15.heap.size, 2, none⟩ (.slice u2 v2 z2)) (.slice q0 m0 d0) (.slice q1 m1 d1) (.slice q2 m2 d2) gg) := ⟨Ewu19.out.frm HF.out (by have := HEl.out; omega), Dwu19.out.frm1 HF.out Zwu19.out (slices3 _ _ _ _ _ _ _ _ _)⟩
            refine wpL_one 9 rfl (by kernel_rfl) (by rfl) ?_
            intro K hK
            go_simp
            refine hK.out _ _ (fun _ => HBwe.out) ?_
            clear hK K zz0 zz1 zz2 f0 f1 f2
            generalize ((wu19.setCell ⟨wu15.heap.size, 0, none⟩ (.slice u0 v0 z0)).setCell ⟨wu15.heap.size, 1, none⟩ (.slice u1 v1 z1)).setCell ⟨wu15.heap.size, 2, none⟩ (.slice u2 v2 z2) = we at *
            try simp only [Act.put, List.setIfInBounds_toArray, List.set_cons_zero, List.set_cons_succ]
            refine wpL_take (v := ?_) 10 rfl (by kernel_rfl) (fun _ _ _ h => h) (by rfl) ?_ HBwe.out ?_
            rotate_left
            focus
              intro w9 hw9
              have k0 := (HX.out.1.on hw9).cell (i := 0) rfl
              have k1 := (HX.out.1.on hw9).cell (i := 1) rfl
              have k2 := (HX.out.1.on hw9).cell (i := 2) rfl
              have k3 := (HX.out.2.on hw9).cell (i := 0) rfl
              have k4 := (HX.out.2.on hw9).cell (i := 1) rfl
              have k5 := (HX.out.2.on hw9).cell (i := 2) rfl
              go_simp
              try with_reducible rfl
            try simp only [Act.put, List.setIfInBounds_toArray, List.set_cons_zero, List.set_cons_succ]
            refine wpL_done (by kernel_rfl) ?_ _
            try simp only [NoPanic]
            go_wp2_with fail
            go_meet
            exact ⟨_, _, _, _, _, _, _, _, _, _, hh, rfl, rfl, HEw.out, ⟨HK.out, HBwe.out, HRw.out, HNm.out⟩⟩
        · intro K hK
          go_simp
          have hbwu20 : Below wu14.heap.size wu14 (wu14.alloc (.cells #[.slice none 0 0, .slice none 0 0, .slice none 0 0] 25)) := (Below.refl _ _).alloc (Nat.le_refl _) _
          have hzwu20 : Blk (wu14.alloc (.cells #[.slice none 0 0, .slice none 0 0, .slice none 0 0] 25)) wu14.heap.size #[.slice none 0 0, .slice none 0 0, .slice none 0 0] 25 := Blk.new wu14 _ _
          generalize (wu14.alloc (.cells #[.slice none 0 0, .slice none 0 0, .slice none 0 0] 25)) = wu20 at *
          have HBwu20 : Hid (Below wB.heap.size wB wu20) := HBwu14.out.trans ((hbwu20).mono HBwu14.out.size)
          have Ewu20 : Hid (Blk wu20 β #[.slice q0 m0 d0, .slice q1 m1 d1, .slice q2 m2 d2] 25) := Ewu14.out.on (hbwu20)
          have Dwu20 : Hid (RdF wu20 (.slice q0 m0 d0) (.slice q1 m1 d1) (.slice q2 m2 d2) gg) := Dwu14.out.on (hbwu20)
          have Cbwu20 : Hid (RdF wu20 cbwu140 cbwu141 cbwu142 b) := Cbwu14.out.on (hbwu20)
          have Zwu20 : Hid (Blk wu20 wu14.heap.size #[.slice none 0 0, .slice none 0 0, .slice none 0 0] 25) := hzwu20
          have HL : Hid (wB.heap.size ≤ wu14.heap.size) := HBwu14.out.size
          clear hbwu20 hzwu20
          have HEl : Hid (β < wu14.heap.size) := Ewu14.out.lt
          refine hK.out _ _ (fun _ => HBwu20.out) ?_
          clear hK K
          try simp only [Act.put, List.setIfInBounds_toArray, List.set_cons_zero, List.set_cons_succ]
          refine wpL_one 3 rfl (by kernel_rfl) (by rfl) ?_
          intro K hK
          go_simp
          have CPwu21 : Hid (Calls _ _ _ _ _) := rcopyF a _ _ _ wu20 (HRd.out.1.on HBwu20.out)
          refine CPwu21.out.mono ?_
          rintro e wu21 ⟨cawu210, cawu211, cawu212, rfl, hrwu21, hbwu21⟩
          dsimp only
          have HBwu21 : Hid (Below wB.heap.size wB wu21) := HBwu20.out.trans ((hbwu21).mono HBwu20.out.size)
          have Ewu21 : Hid (Blk wu21 β #[.slice q0 m0 d0, .slice q1 m1 d1, .slice q2 m2 d2] 25) := Ewu20.out.on (hbwu21)
          have Dwu21 : Hid (RdF wu21 (.slice q0 m0 d0) (.slice q1 m1 d1) (.slice q2 m2 d2) gg) := Dwu20.out.on (hbwu21)
          have Cbwu21 : Hid (RdF wu21 cbwu140 cbwu141 cbwu142 b) := Cbwu20.out.on (hbwu21)
          have Zwu21 : Hid (Blk wu21 wu14.heap.size #[.slice none 0 0, .slice none 0 0, .slice none 0 0] 25) := Zwu20.out.on (hbwu21)
          have Cawu21 : Hid (RdF wu21 cawu210 cawu211 cawu212 a) := hrwu21
          clear CPwu21 hrwu21 hbwu21
          refine hK.out _ _ (fun _ => HBwu21.out) ?_
          clear hK K
          try simp only [Act.put, List.setIfInBounds_toArray, List.set_cons_zero, List.set_cons_succ]
          refine wpL_one 4 rfl (by kernel_rfl) (by rfl) ?_
          intro K hK
          go_simp
          have CMwu22 : Hid (Calls _ _ _ _ _) := merge_any b a _ _ _ _ _ _ wu21 Cbwu21.out Cawu21.out
          refine CMwu22.out.mono ?_
          rintro e wu22 ⟨y0, y1, y2, hh, rfl, h0, h1, h2, hN, hbwu22⟩
          dsimp only
          have HBwu22 : Hid (Below wB.heap.size wB wu22) := HBwu21.out.trans ((hbwu22).mono HBwu21.out.size)
          have Ewu22 : Hid (Blk wu22 β #[.slice q0 m0 d0, .slice q1 m1 d1, .slice q2 m2 d2] 25) := Ewu21.out.on (hbwu22)
          have Dwu22 : Hid (RdF wu22 (.slice q0 m0 d0) (.slice q1 m1 d1) (.slice q2 m2 d2) gg) := Dwu21.out.on (hbwu22)
          have Zwu22 : Hid (Blk wu22 wu14.heap.size #[.slice none 0 0, .slice none 0 0, .slice none 0 0] 25) := Zwu21.out.on (hbwu22)
          obtain ⟨u0, v0, z0, ey0⟩ : ∃ p n c, y0 = .slice p n c := by
            obtain ⟨p, c, e, _⟩ := h0.row
            exact ⟨_, _, _, e⟩
          obtain ⟨u1, v1, z1, ey1⟩ : ∃ p n c, y1 = .slice p n c := by
            obtain ⟨p, c, e, _⟩ := h1.row
            exact ⟨_, _, _, e⟩
          obtain ⟨u2, v2, z2, ey2⟩ : ∃ p n c, y2 = .slice p n c := by
            obtain ⟨p, c, e, _⟩ := h2.row
            exact ⟨_, _, _, e⟩
          subst ey0 ey1 ey2
          have Mwu22 : Hid (RdF wu22 (.slice u0 v0 z0) (.slice u1 v1 z1) (.slice u2 v2 z2) hh) := mr_rd hN h0 h1 h2
          have HNm : Hid (MrO b a hh) := hN
          clear CMwu22 h0 h1 h2 hN hbwu22 Cbwu21 Cawu21
          refine hK.out _ _ (fun _ => HBwu22.out) ?_
          clear hK K
          try simp only [Act.put, List.setIfInBounds_toArray, List.set_cons_zero, List.set_cons_succ]
          refine wpL_take (v := ?_) 5 rfl (by kernel_rfl) (fun _ _ _ h => h) (by rfl) ?_ HBwu22.out ?_
          rotate_left
          focus
            intro w9 hw9
            have k0 := (HX.out.1.on hw9).cell (i := 0) rfl
            have k1 := (HX.out.1.on hw9).cell (i := 1) rfl
            have k2 := (HX.out.1.on hw9).cell (i := 2) rfl
            have k3 := (HX.out.2.on hw9).cell (i := 0) rfl
            have k4 := (HX.out.2.on hw9).cell (i := 1) rfl
            have k5 := (HX.out.2.on hw9).cell (i := 2) rfl
            go_simp
            try with_reducible rfl
          try simp only [Act.put, List.setIfInBounds_toArray, List.set_cons_zero, List.set_cons_succ]
          refine wpL_take (v := ?_) 6 rfl (by kernel_rfl) (fun _ _ _ h => h) (by rfl) ?_ HBwu22.out ?_
          rotate_left
          focus
            intro w9 hw9
            have k0 := (HX.out.1.on hw9).cell (i := 0) rfl
            have k1 := (HX.out.1.on hw9).cell (i := 1) rfl
            have k2 := (HX.out.1.on hw9).cell (i := 2) rfl
            have k3 := (HX.out.2.on hw9).cell (i := 0) rfl
            have k4 := (HX.out.2.on hw9).cell (i := 1) rfl
            have k5 := (HX.out.2.on hw9).cell (i := 2) rfl
            go_simp
            try with_reducible rfl
          try simp only [Act.put, List.setIfInBounds_toArray, List.set_cons_zero, List.set_cons_succ]
          refine wpL_take (v := ?_) 7 rfl (by kernel_rfl) (fun _ _ _ h => h) (by rfl) ?_ HBwu22.out ?_
          rotate_left
          focus
            intro w9 hw9
            have k0 := (HX.out.1.on hw9).cell (i := 0) rfl
            have k1 := (HX.out.1.on hw9).cell (i := 1) rfl
            have k2 := (HX.out.1.on hw9).cell (i := 2) rfl
            have k3 := (HX.out.2.on hw9).cell (i := 0) rfl
            have k4 := (HX.out.2.on hw9).cell (i := 1) rfl
            have k5 := (HX.out.2.on hw9).cell (i := 2) rfl
            go_simp
            try with_reducible rfl
          try simp only [Act.put, List.setIfInBounds_toArray, List.set_cons_zero, List.set_cons_succ]
          have zz0 := Zwu22.out.cell (i := 0) rfl
          have zz1 := Zwu22.out.cell (i := 1) rfl
          have zz2 := Zwu22.out.cell (i := 2) rfl
          have f0 := Zwu22.out.frozen 0
          have f1 := Zwu22.out.frozen 1
          have f2 := Zwu22.out.frozen 2
          have HF : Hid (Frm wu22 (((wu22.setCell ⟨wu14.heap.size, 0, none⟩ (.slice u0 v0 z0)).setCell ⟨wu14.heap.size, 1, none⟩ (.slice u1 v1 z1)).setCell ⟨wu14.heap.size, 2, none⟩ (.slice u2 v2 z2)) (fun k => k = wu14.heap.size)) := ((frm_set _ _ _ _ (F := fun k => k = wu14.heap.size) (.inl rfl)).trans (frm_set _ _ _ _ (F := fun k => k = wu14.heap.size) (.inl rfl)) (fun k hk => .inl hk)).trans (frm_set _ _ _ _ (F := fun k => k = wu14.heap.size) (.inl rfl)) (fun k hk => .inl hk)
          have HK : Hid (Blk (((wu22.setCell ⟨wu14.heap.size, 0, none⟩ (.slice u0 v0 z0)).setCell ⟨wu14.heap.size, 1, none⟩ (.slice u1 v1 z1)).setCell ⟨wu14.heap.size, 2, none⟩ (.slice u2 v2 z2)) (wu14.heap.size) #[.slice u0 v0 z0, .slice u1 v1 z1, .slice u2 v2 z2] 25) := ((Zwu22.out.set 0 _).set 1 _).set 2 _
          have HRw : Hid (RdF (((wu22.setCell ⟨wu14.heap.size, 0, none⟩ (.slice u0 v0 z0)).setCell ⟨wu14.heap.size, 1, none⟩ (.slice u1 v1 z1)).setCell ⟨wu14.heap.size, 2, none⟩ (.slice u2 v2 z2)) (.slice u0 v0 z0) (.slice u1 v1 z1) (.slice u2 v2 z2) hh) := Mwu22.out.frm1 HF.out Zwu22.out (slices3 _ _ _ _ _ _ _ _ _)
          have HBwe : Hid (Below wB.heap.size wB (((wu22.setCell ⟨wu14.heap.size, 0, none⟩ (.slice u0 v0 z0)).setCell ⟨wu14.heap.size, 1, none⟩ (.slice u1 v1 z1)).setCell ⟨wu14.heap.size, 2, none⟩ (.slice u2 v2 z2))) := HBwu22.out.trans (HF.out.below HBwu22.out.size (fun k hk => by have := HL.out; omega))
          have HEw : Hid (Blk (((wu22.setCell ⟨wu14.heap.size, 0, none⟩ (.slice u0 v0 z0)).setCell ⟨wu14.heap.size, 1, none⟩ (.slice u1 v1 z1)).setCell ⟨wu14.heap.size, 2, none⟩ (.slice u2 v2 z2)) β #[.slice q0 m0 d0, .slice q1 m1 d1, .slice q2 m2 d2] 25 ∧ RdF (((wu22.setCell ⟨wu14.heap.size, 0, none⟩ (.slice u0 v0 z0)).setCell ⟨wu14.heap.size, 1, none⟩ (.slice u1 v1 z1)).setCell ⟨wu14.heap.size, 2, none⟩ (.slice u2 v2 z2)) (.slice q0 m0 d0) (.slice q1 m1 d1) (.slice q2 m2 d2) gg) := ⟨Ewu22.out.frm HF.out (by have := HEl.out; omega), Dwu22.out.frm1 HF.out Zwu22.out (slices3 _ _ _ _ _ _ _ _ _)⟩
          refine wpL_one 9 rfl (by kernel_rfl) (by rfl) ?_
          intro K hK
          go_simp
          refine hK.out _ _ (fun _ => HBwe.out) ?_
          clear hK K zz0 zz1 zz2 f0 f1 f2
          generalize ((wu22.setCell ⟨wu14.heap.size, 0, none⟩ (.slice u0 v0 z0)).setCell ⟨wu14.heap.size, 1, none⟩ (.slice u1 v1 z1)).setCell ⟨wu14.heap.size, 2, none⟩ (.slice u2 v2 z2) = we at *
          try simp only [Act.put, List.setIfInBounds_toArray, List.set_cons_zero, List.set_cons_succ]
          refine wpL_take (v := ?_) 10 rfl (by kernel_rfl) (fun _ _ _ h => h) (by rfl) ?_ HBwe.out ?_
          rotate_left
          focus
            intro w9 hw9
            have k0 := (HX.out.1.on hw9).cell (i := 0) rfl
            have k1 := (HX.out.1.on hw9).cell (i := 1) rfl
            have k2 := (HX.out.1.on hw9).cell (i := 2) rfl
            have k3 := (HX.out.2.on hw9).cell (i := 0) rfl
            have k4 := (HX.out.2.on hw9).cell (i := 1) rfl
            have k5 := (HX.out.2.on hw9).cell (i := 2) rfl
            go_simp
            try with_reducible rfl
          try simp only [Act.put, List.setIfInBounds_toArray, List.set_cons_zero, List.set_cons_succ]
          refine wpL_done (by kernel_rfl) ?_ _
          try simp only [NoPanic]
          go_wp2_with fail
          go_meet
          exact ⟨_, _, _, _, _, _, _, _, _, _, hh, rfl, rfl, HEw.out, ⟨HK.out, HBwe.out, HRw.out, HNm.out⟩⟩
      · intro K hK
        go_simp
        have hbwu23 : Below wd.heap.size wd (wd.alloc (.cells #[.slice none 0 0, .slice none 0 0, .slice none 0 0] 25)) := (Below.refl _ _).alloc (Nat.le_refl _) _
        have hzwu23 : Blk (wd.alloc (.cells #[.slice none 0 0, .slice none 0 0, .slice none 0 0] 25)) wd.heap.size #[.slice none 0 0, .slice none 0 0, .slice none 0 0] 25 := Blk.new wd _ _
        generalize (wd.alloc (.cells #[.slice none 0 0, .slice none 0 0, .slice none 0 0] 25)) = wu23 at *
        have HBwu23 : Hid (Below wB.heap.size wB wu23) := HBwd.out.trans ((hbwu23).mono HBwd.out.size)
        have Ewu23 : Hid (Blk wu23 β #[.slice q0 m0 d0, .slice q1 m1 d1, .slice q2 m2 d2] 25) := Ewd.out.on (hbwu23)
        have Dwu23 : Hid (RdF wu23 (.slice q0 m0 d0) (.slice q1 m1 d1) (.slice q2 m2 d2) gg) := Dwd.out.on (hbwu23)
        have Zwu23 : Hid (Blk wu23 wd.heap.size #[.slice none 0 0, .slice none 0 0, .slice none 0 0] 25) := hzwu23
        have HL : Hid (wB.heap.size ≤ wd.heap.size) := HBwd.out.size
        clear hbwu23 hzwu23
        have HEl : Hid (β < wd.heap.size) := Ewd.out.lt
        refine hK.out _ _ (fun _ => HBwu23.out) ?_
        clear hK K
        try simp only [Act.put, List.setIfInBounds_toArray, List.set_cons_zero, List.set_cons_succ]
        refine wpL_one 1 rfl (by kernel_rfl) (by rfl) ?_
        intro K hK
        go_simp
        have CPwu24 : Hid (Calls _ _ _ _ _) := rcopyF b _ _ _ wu23 (HRd.out.2.on HBwu23.out)
        refine CPwu24.out.mono ?_
        rintro e wu24 ⟨cbwu240, cbwu241, cbwu242, rfl, hrwu24, hbwu24⟩
        dsimp only
        have HBwu24 : Hid (Below wB.heap.size wB wu24) := HBwu23.out.trans ((hbwu24).mono HBwu23.out.size)
        have Ewu24 : Hid (Blk wu24 β #[.slice q0 m0 d0, .slice q1 m1 d1, .slice q2 m2 d2] 25) := Ewu23.out.on (hbwu24)
        have Dwu24 : Hid (RdF wu24 (.slice q0 m0 d0) (.slice q1 m1 d1) (.slice q2 m2 d2) gg) := Dwu23.out.on (hbwu24)
        have Zwu24 : Hid (Blk wu24 wd.heap.size #[.slice none 0 0, .slice none 0 0, .slice none 0 0] 25) := Zwu23.out.on (hbwu24)
        have Cbwu24 : Hid (RdF wu24 cbwu240 cbwu241 cbwu242 b) := hrwu24
        clear CPwu24 hrwu24 hbwu24
        refine hK.out _ _ (fun _ => HBwu24.out) ?_
        clear hK K
        try simp only [Act.put, List.setIfInBounds_toArray, List.set_cons_zero, List.set_cons_succ]
        refine wpL_one 3 rfl (by kernel_rfl) (by rfl) ?_
        intro K hK
        go_simp
        have CPwu25 : Hid (Calls _ _ _ _ _) := rcopyF a _ _ _ wu24 (HRd.out.1.on HBwu24.out)
        refine CPwu25.out.mono ?_
        rintro e wu25 ⟨cawu250, cawu251, cawu252, rfl, hrwu25, hbwu25⟩
        dsimp only
        have HBwu25 : Hid (Below wB.heap.size wB wu25) := HBwu24.out.trans ((hbwu25).mono HBwu24.out.size)
        have Ewu25 : Hid (Blk wu25 β #[.slice q0 m0 d0, .slice q1 m1 d1, .slice q2 m2 d2] 25) := Ewu24.out.on (hbwu25)
        have Dwu25 : Hid (RdF wu25 (.slice q0 m0 d0) (.slice q1 m1 d1) (.slice q2 m2 d2) gg) := Dwu24.out.on (hbwu25)
        have Zwu25 : Hid (Blk wu25 wd.heap.size #[.slice none 0 0, .slice none 0 0, .slice none 0 0] 25) := Zwu24.out.on (hbwu25)
        have Cbwu25 : Hid (RdF wu25 cbwu240 cbwu241 cbwu242 b) := Cbwu24.out.on (hbwu25)
        have Cawu25 : Hid (RdF wu25 cawu250 cawu251 cawu252 a) := hrwu25
        clear CPwu25 hrwu25 hbwu25
        refine hK.out _ _ (fun _ => HBwu25.out) ?_
        clear hK K
        try simp only [Act.put, List.setIfInBounds_toArray, List.set_cons_zero, List.set_cons_succ]
        refine wpL_one 4 rfl (by kernel_rfl) (by rfl) ?_
        intro K hK
        go_simp
        have CMwu26 : Hid (Calls _ _ _ _ _) := merge_any b a _ _ _ _ _ _ wu25 Cbwu25.out Cawu25.out
        refine CMwu26.out.mono ?_
        rintro e wu26 ⟨y0, y1, y2, hh, rfl, h0, h1, h2, hN, hbwu26⟩
        dsimp only
        have HBwu26 : Hid (Below wB.heap.size wB wu26) := HBwu25.out.trans ((hbwu26).mono HBwu25.out.size)
        have Ewu26 : Hid (Blk wu26 β #[.slice q0 m0 d0, .slice q1 m1 d1, .slice q2 m2 d2] 25) := Ewu25.out.on (hbwu26)
        have Dwu26 : Hid (RdF wu26 (.slice q0 m0 d0) (.slice q1 m1 d1) (.slice q2 m2 d2) gg) := Dwu25.out.on (hbwu26)
        have Zwu26 : Hid (Blk wu26 wd.heap.size #[.slice none 0 0, .slice none 0 0, .slice none 0 0] 25) := Zwu25.out.on (hbwu26)
        obtain ⟨u0, v0, z0, ey0⟩ : ∃ p n c, y0 = .slice p n c := by
          obtain ⟨p, c, e, _⟩ := h0.row
          exact ⟨_, _, _, e⟩
        obtain ⟨u1, v1, z1, ey1⟩ : ∃ p n c, y1 = .slice p n c := by
          obtain ⟨p, c, e, _⟩ := h1.row
          exact ⟨_, _, _, e⟩
        obtain ⟨u2, v2, z2, ey2⟩ : ∃ p n c, y2 = .slice p n c := by
          obtain ⟨p, c, e, _⟩ := h2.row
          exact ⟨_, _, _, e⟩
        subst ey0 ey1 ey2
        have Mwu26 : Hid (RdF wu26 (.slice u0 v0 z0) (.slice u1 v1 z1) (.slice u2 v2 z2) hh) := mr_rd hN h0 h1 h2
        have HNm : Hid (MrO b a hh) := hN
        clear CMwu26 h0 h1 h2 hN hbwu26 Cbwu25 Cawu25
        refine hK.out _ _ (fun _ => HBwu26.out) ?_
        clear hK K
        try simp only [Act.put, List.setIfInBounds_toArray, List.set_cons_zero, List.set_cons_succ]
        refine wpL_take (v := ?_) 5 rfl (by kernel_rfl) (fun _ _ _ h => h) (by rfl) ?_ HBwu26.out ?_
        rotate_left
        focus
          intro w9 hw9
          have k0 := (HX.out.1.on hw9).cell (i := 0) rfl
          have k1 := (HX.out.1.on hw9).cell (i := 1) rfl
          have k2 := (HX.out.1.on hw9).cell (i := 2) rfl
          have k3 := (HX.out.2.on hw9).cell (i := 0) rfl
          have k4 := (HX.out.2.on hw9).cell (i := 1) rfl
          have k5 := (HX.out.2.on hw9).cell (i := 2) rfl
          go_simp
          try with_reducible rfl
        try simp only [Act.put, List.setIfInBounds_toArray, List.set_cons_zero, List.set_cons_succ]
        refine wpL_take (v := ?_) 6 rfl (by kernel_rfl) (fun _ _ _ h => h) (by rfl) ?_ HBwu26.out ?_
        rotate_left
        focus
          intro w9 hw9
          have k0 := (HX.out.1.on hw9).cell (i := 0) rfl
          have k1 := (HX.out.1.on hw9).cell (i := 1) rfl
          have k2 := (HX.out.1.on hw9).cell (i := 2) rfl
          have k3 := (HX.out.2.on hw9).cell (i := 0) rfl
          have k4 := (HX.out.2.on hw9).cell (i := 1) rfl
          have k5 := (HX.out.2.on hw9).cell (i := 2) rfl
          go_simp
          try with_reducible rfl
        try simp only [Act.put, List.setIfInBounds_toArray, List.set_cons_zero, List.set_cons_succ]
        refine wpL_take (v := ?_) 7 rfl (by kernel_rfl) (fun _ _ _ h => h) (by rfl) ?_ HBwu26.out ?_
        rotate_left
        focus
          intro w9 hw9
          have k0 := (HX.out.1.on hw9).cell (i := 0) rfl
          have k1 := (HX.out.1.on hw9).cell (i := 1) rfl
          have k2 := (HX.out.1.on hw9).cell (i := 2) rfl
          have k3 := (HX.out.2.on hw9).cell (i := 0) rfl
          have k4 := (HX.out.2.on hw9).cell (i := 1) rfl
          have k5 := (HX.out.2.on hw9).cell (i := 2) rfl
          go_simp
          try with_reducible rfl
        try simp only [Act.put, List.setIfInBounds_toArray, List.set_cons_zero, List.set_cons_succ]
        have zz0 := Zwu26.out.cell (i := 0) rfl
        have zz1 := Zwu26.out.cell (i := 1) rfl
        have zz2 := Zwu26.out.cell (i := 2) rfl
        have f0 := Zwu26.out.frozen 0
        have f1 := Zwu26.out.frozen 1
        have f2 := Zwu26.out.frozen 2
        have HF : Hid (Frm wu26 (((wu26.setCell ⟨wd.heap.size, 0, none⟩ (.slice u0 v0 z0)).setCell ⟨wd.heap.size, 1, none⟩ (.slice u1 v1 z1)).setCell ⟨wd.heap.size, 2, none⟩ (.slice u2 v2 z2)) (fun k => k = wd.heap.size)) := ((frm_set _ _ _ _ (F := fun k => k = wd.heap.size) (.inl rfl)).trans (frm_set _ _ _ _ (F := fun k => k = wd.heap.size) (.inl rfl)) (fun k hk => .inl hk)).trans (frm_set _ _ _ _ (F := fun k => k = wd.heap.size) (.inl rfl)) (fun k hk => .inl hk)
        have HK : Hid (Blk (((wu26.setCell ⟨wd.heap.size, 0, none⟩ (.slice u0 v0 z0)).setCell ⟨wd.heap.size, 1, none⟩ (.slice u1 v1 z1)).setCell ⟨wd.heap.size, 2, none⟩ (.slice u2 v2 z2)) (wd.heap.size) #[.slice u0 v0 z0, .slice u1 v1 z1, .slice u2 v2 z2] 25) := ((Zwu26.out.set 0 _).set 1 _).set 2 _
        have HRw : Hid (RdF (((wu26.setCell ⟨wd.heap.size, 0, none⟩ (.slice u0 v0 z0)).setCell ⟨wd.heap.size, 1, none⟩ (.slice u1 v1 z1)).setCell ⟨wd.heap.size, 2, none⟩ (.slice u2 v2 z2)) (.slice u0 v0 z0) (.slice u1 v1 z1) (.slice u2 v2 z2) hh) := Mwu26.out.frm1 HF.out Zwu26.out (slices3 _ _ _ _ _ _ _ _ _)
        have HBwe : Hid (Below wB.heap.size wB (((wu26.setCell ⟨wd.heap.size, 0, none⟩ (.slice u0 v0 z0)).setCell ⟨wd.heap.size, 1, none⟩ (.slice u1 v1 z1)).setCell ⟨wd.heap.size, 2, none⟩ (.slice u2 v2 z2))) := HBwu26.out.trans (HF.out.below HBwu26.out.size (fun k hk => by have := HL.out; omega))
        have HEw : Hid (Blk (((wu26.setCell ⟨wd.heap.size, 0, none⟩ (.slice u0 v0 z0)).setCell ⟨wd.heap.size, 1, none⟩ (.slice u1 v1 z1)).setCell ⟨wd.heap.size, 2, none⟩ (.slice u2 v2 z2)) β #[.slice q0 m0 d0, .slice q1 m1 d1, .slice q2 m2 d2] 25 ∧ RdF (((wu26.setCell ⟨wd.heap.size, 0, none⟩ (.slice u0 v0 z0)).setCell ⟨wd.heap.size, 1, none⟩ (.slice u1 v1 z1)).setCell ⟨wd.heap.size, 2, none⟩ (.slice u2 v2 z2)) (.slice q0 m0 d0) (.slice q1 m1 d1) (.slice q2 m2 d2) gg) := ⟨Ewu26.out.frm HF.out (by have := HEl.out; omega), Dwu26.out.frm1 HF.out Zwu26.out (slices3 _ _ _ _ _ _ _ _ _)⟩
        refine wpL_one 9 rfl (by kernel_rfl) (by rfl) ?_
        intro K hK
        go_simp
        refine hK.out _ _ (fun _ => HBwe.out) ?_
        clear hK K zz0 zz1 zz2 f0 f1 f2
        generalize ((wu26.setCell ⟨wd.heap.size, 0, none⟩ (.slice u0 v0 z0)).setCell ⟨wd.heap.size, 1, none⟩ (.slice u1 v1 z1)).setCell ⟨wd.heap.size, 2, none⟩ (.slice u2 v2 z2) = we at *
        try simp only [Act.put, List.setIfInBounds_toArray, List.set_cons_zero, List.set_cons_succ]
        refine wpL_take (v := ?_) 10 rfl (by kernel_rfl) (fun _ _ _ h => h) (by rfl) ?_ HBwe.out ?_
        rotate_left
        focus
          intro w9 hw9
          have k0 := (HX.out.1.on hw9).cell (i := 0) rfl
          have k1 := (HX.out.1.on hw9).cell (i := 1) rfl
          have k2 := (HX.out.1.on hw9).cell (i := 2) rfl
          have k3 := (HX.out.2.on hw9).cell (i := 0) rfl
          have k4 := (HX.out.2.on hw9).cell (i := 1) rfl
          have k5 := (HX.out.2.on hw9).cell (i := 2) rfl
          go_simp
          try with_reducible rfl
        try simp only [Act.put, List.setIfInBounds_toArray, List.set_cons_zero, List.set_cons_succ]
        refine wpL_done (by kernel_rfl) ?_ _
        try simp only [NoPanic]
        go_wp2_with fail
        go_meet
        exact ⟨_, _, _, _, _, _, _, _, _, _, hh, rfl, rfl, HEw.out, ⟨HK.out, HBwe.out, HRw.out, HNm.out⟩⟩
    case rest =>
      obtain ⟨β2, u0, u1, u2, v0, v1, v2, z0, z1, z2, hh, rfl, rfl, H5, H6⟩ := hcut
      generalize wc = w5 at *
      have HEE : Hid (Below w.heap.size w w5) := HE.out.trans (H6.out.2.1.mono HE.out.size)
      by_cases hc : chkM a b = 0
      · obtain ⟨hc2, ehg⟩ := HN.out.swap H6.out.2.2.2 hc
        subst ehg
        rw [hc, hc2]
        have CS : Hid (Calls _ _ _ _ _) := rsameF gg _ _ _ _ _ _ w5 H5.out.2 H6.out.2.2.1
        have k0 := H5.out.1.cell (i := 0) rfl
        have k1 := H5.out.1.cell (i := 1) rfl
        have k2 := H5.out.1.cell (i := 2) rfl
        have l0 := H6.out.1.cell (i := 0) rfl
        have l1 := H6.out.1.cell (i := 1) rfl
        have l2 := H6.out.1.cell (i := 2) rfl
        go_wp2_with fail
        refine CS.out.mono ?_
        rintro e w6 ⟨rfl, hb6⟩
        have CW : Hid (Calls _ _ _ _ _) := awake_any w6
        have HE6 : Hid (Below w.heap.size w w6) := HEE.out.trans (hb6.mono HEE.out.size)
        clear CS k0 k1 k2 l0 l1 l2 hb6
        go_wp2_with fail
        refine CW.out.mono ?_
        rintro e w7 ⟨rfl, hb7⟩
        have HE7 : Hid (Below w.heap.size w w7) := HE6.out.trans (hb7.mono HE6.out.size)
        clear CW hb7
        go_wp2_with fail
        go_ret
        exact ⟨rfl, HE7.out⟩
      · have hne : (chkM a b == 0) = false := by simpa using hc
        have CW : Hid (Calls _ _ _ _ _) := awake_any w5
        go_wp2_with fail
        refine CW.out.mono ?_
        rintro e w7 ⟨rfl, hb7⟩
        have HE7 : Hid (Below w.heap.size w w7) := HEE.out.trans (hb7.mono HEE.out.size)
        clear CW hb7
        go_wp2_with fail
        go_ret
        exact ⟨rfl, HE7.out⟩

end

end Go.Proofs.YtiiladcihheogaaGreat
