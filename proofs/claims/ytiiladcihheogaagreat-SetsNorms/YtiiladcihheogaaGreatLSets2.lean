/- The law of SetsNorms. -/
import Derived.Test.YtiiladcihheogaaGreatWRc
namespace Go.Proofs.YtiiladcihheogaaGreat
open Go.RowKit
set_option maxRecDepth 100000

set_option maxHeartbeats 8000000 in
theorem lawNorms (f : Ft) (va0 va1 va2 : Value) (w : World) (hf : RdF w va0 va1 va2 f) :
    Calls Tryz.prog 3 #[.agg #[va0, va1, va2]] w fun e w' => e = .returned (.bool true) ∧ Below w.heap.size w w' := by
  obtain ⟨p0, n0, c0, ev0⟩ : ∃ p n c, va0 = .slice p n c := by
    obtain ⟨p, c, e, _⟩ := hf.p.f
    exact ⟨_, _, _, e⟩
  obtain ⟨p1, n1, c1, ev1⟩ : ∃ p n c, va1 = .slice p n c := by
    obtain ⟨p, c, e, _⟩ := hf.s.f
    exact ⟨_, _, _, e⟩
  obtain ⟨p2, n2, c2, ev2⟩ : ∃ p n c, va2 = .slice p n c := by
    obtain ⟨p, c, e, _⟩ := hf.w.f
    exact ⟨_, _, _, e⟩
  subst ev0 ev1 ev2
  obtain ⟨w1, hw1⟩ : ∃ w1, w.alloc (.cells #[.slice p0 n0 c0, .slice p1 n1 c1, .slice p2 n2 c2] 25) = w1 := ⟨_, rfl⟩
  have HB1 : Hid (Below w.heap.size w w1) := by rw [← hw1]; exact (Below.refl _ _).alloc (Nat.le_refl _) _
  have HK1 : Hid (Blk w1 w.heap.size #[.slice p0 n0 c0, .slice p1 n1 c1, .slice p2 n2 c2] 25) := by rw [← hw1]; exact Blk.new w _ _
  have HF : Hid (RdF w _ _ _ f) := hf
  have g0 := HK1.out.cell (i := 0) rfl
  have g1 := HK1.out.cell (i := 1) rfl
  have g2 := HK1.out.cell (i := 2) rfl
  have C1 : Hid (Calls _ _ _ _ _) := rcopyF f _ _ _ w1 (hf.on HB1.out)
  clear hf
  go_enter Tryz.func3, Tryz.ntmps3
  go_wp2_with fail
  refine C1.out.mono ?_
  rintro e w2 ⟨u0, u1, u2, rfl, hr2, hb2⟩
  clear C1 g0 g1 g2 hw1
  have C2 : Hid (Calls _ _ _ _ _) := norm_rd f _ _ _ w2 hr2
  have HB2 : Hid (Below w1.heap.size w1 w2) := hb2
  clear hr2 hb2
  go_wp2_with fail
  refine C2.out.mono ?_
  rintro e w3 ⟨x0, x1, x2, g, rfl, hr3, hn3, hb3⟩
  clear C2
  obtain ⟨q0, m0, d0, ex0⟩ : ∃ p n c, x0 = .slice p n c := by
    obtain ⟨p, c, e, _⟩ := hr3.p.f
    exact ⟨_, _, _, e⟩
  obtain ⟨q1, m1, d1, ex1⟩ : ∃ p n c, x1 = .slice p n c := by
    obtain ⟨p, c, e, _⟩ := hr3.s.f
    exact ⟨_, _, _, e⟩
  obtain ⟨q2, m2, d2, ex2⟩ : ∃ p n c, x2 = .slice p n c := by
    obtain ⟨p, c, e, _⟩ := hr3.w.f
    exact ⟨_, _, _, e⟩
  subst ex0 ex1 ex2
  have HB3 : Hid (Below w1.heap.size w1 w3) := HB2.out.trans (hb3.mono HB2.out.size)
  have HN3 : Hid (NrO f g) := hn3
  have HG3 : Hid (RdF w3 (.slice q0 m0 d0) (.slice q1 m1 d1) (.slice q2 m2 d2) g) := hr3
  clear hr3 hn3 hb3 HB2
  have HB4 : Hid (Below w3.heap.size w3 (w3.alloc (.cells #[.slice q0 m0 d0, .slice q1 m1 d1, .slice q2 m2 d2] 25))) := (Below.refl _ _).alloc (Nat.le_refl _) _
  have HK4 : Hid (Blk (w3.alloc (.cells #[.slice q0 m0 d0, .slice q1 m1 d1, .slice q2 m2 d2] 25)) w3.heap.size #[.slice q0 m0 d0, .slice q1 m1 d1, .slice q2 m2 d2] 25) := Blk.new w3 _ _
  have HB14 : Hid (Below w1.heap.size w1 (w3.alloc (.cells #[.slice q0 m0 d0, .slice q1 m1 d1, .slice q2 m2 d2] 25))) := HB3.out.trans (HB4.out.mono HB3.out.size)
  have hk1 := HK1.out.on HB14.out
  have g0 := hk1.cell (i := 0) rfl
  have g1 := hk1.cell (i := 1) rfl
  have g2 := hk1.cell (i := 2) rfl
  have C3 : Hid (Calls _ _ _ _ _) := rnorm_rd f _ _ _ (w3.alloc (.cells #[.slice q0 m0 d0, .slice q1 m1 d1, .slice q2 m2 d2] 25)) ((HF.out.on HB1.out).on HB14.out)
  clear hk1
  go_wp2_with fail
  clear g0 g1 g2
  generalize (w3.alloc (.cells #[.slice q0 m0 d0, .slice q1 m1 d1, .slice q2 m2 d2] 25)) = w4 at *
  refine C3.out.mono ?_
  rintro e w5 ⟨y0, y1, y2, h, rfl, hr5, hn5, hb5⟩
  clear C3
  have ehg := HN3.out.uniq hn5
  subst ehg
  obtain ⟨r0, k0, e0, ey0⟩ : ∃ p n c, y0 = .slice p n c := by
    obtain ⟨p, c, e, _⟩ := hr5.p.f
    exact ⟨_, _, _, e⟩
  obtain ⟨r1, k1, e1, ey1⟩ : ∃ p n c, y1 = .slice p n c := by
    obtain ⟨p, c, e, _⟩ := hr5.s.f
    exact ⟨_, _, _, e⟩
  obtain ⟨r2, k2, e2, ey2⟩ : ∃ p n c, y2 = .slice p n c := by
    obtain ⟨p, c, e, _⟩ := hr5.w.f
    exact ⟨_, _, _, e⟩
  subst ey0 ey1 ey2
  have HB5 : Hid (Below w1.heap.size w1 w5) := HB14.out.trans (hb5.mono HB14.out.size)
  have HB6 : Hid (Below w5.heap.size w5 (w5.alloc (.cells #[.slice r0 k0 e0, .slice r1 k1 e1, .slice r2 k2 e2] 25))) := (Below.refl _ _).alloc (Nat.le_refl _) _
  have HK6 : Hid (Blk (w5.alloc (.cells #[.slice r0 k0 e0, .slice r1 k1 e1, .slice r2 k2 e2] 25)) w5.heap.size #[.slice r0 k0 e0, .slice r1 k1 e1, .slice r2 k2 e2] 25) := Blk.new w5 _ _
  have HX : Hid (Blk (w5.alloc (.cells #[.slice r0 k0 e0, .slice r1 k1 e1, .slice r2 k2 e2] 25)) w.heap.size #[.slice p0 n0 c0, .slice p1 n1 c1, .slice p2 n2 c2] 25 ∧ Blk (w5.alloc (.cells #[.slice r0 k0 e0, .slice r1 k1 e1, .slice r2 k2 e2] 25)) w3.heap.size #[.slice q0 m0 d0, .slice q1 m1 d1, .slice q2 m2 d2] 25 ∧ Blk (w5.alloc (.cells #[.slice r0 k0 e0, .slice r1 k1 e1, .slice r2 k2 e2] 25)) w5.heap.size #[.slice r0 k0 e0, .slice r1 k1 e1, .slice r2 k2 e2] 25) := ⟨(HK1.out.on HB5.out).on HB6.out, (HK4.out.on hb5).on HB6.out, HK6.out⟩
  have HG : Hid (RdF (w5.alloc (.cells #[.slice r0 k0 e0, .slice r1 k1 e1, .slice r2 k2 e2] 25)) (.slice q0 m0 d0) (.slice q1 m1 d1) (.slice q2 m2 d2) g ∧ RdF (w5.alloc (.cells #[.slice r0 k0 e0, .slice r1 k1 e1, .slice r2 k2 e2] 25)) (.slice r0 k0 e0) (.slice r1 k1 e1) (.slice r2 k2 e2) g) := ⟨((HG3.out.on HB4.out).on hb5).on HB6.out, hr5.on HB6.out⟩
  have HE : Hid (Below w.heap.size w (w5.alloc (.cells #[.slice r0 k0 e0, .slice r1 k1 e1, .slice r2 k2 e2] 25))) := (HB1.out.trans (HB5.out.mono HB1.out.size)).trans (HB6.out.mono (Nat.le_trans HB1.out.size HB5.out.size))
  have HRd : Hid (RdF (w5.alloc (.cells #[.slice r0 k0 e0, .slice r1 k1 e1, .slice r2 k2 e2] 25)) (.slice p0 n0 c0) (.slice p1 n1 c1) (.slice p2 n2 c2) f) := HF.out.on HE.out
  clear HK1 HK4 HK6 HG3 HB4 HB14 HB3 HB5 HB6 hr5 hn5 hb5 HF HB1 HN3

  go_wp2_with fail
  generalize (w5.alloc (.cells #[.slice r0 k0 e0, .slice r1 k1 e1, .slice r2 k2 e2] 25)) = wB at *
  refine wp_region_L (fun w' => Below wB.heap.size wB w') 19 (by kernel_rfl) ?_
  have HBwd : Hid (Below wB.heap.size wB wB.drew) := (Below.refl _ _).drew
  generalize wB.drew = wd at *
  refine wpL_take (v := ?_) 0 rfl (by kernel_rfl) (fun _ _ _ h => h) (by rfl) ?_ HBwd.out ?_
  rotate_left
  focus
    intro w9 hw9
    have k0 := (HX.out.1.on hw9).cell (i := 0) rfl
    have k1 := (HX.out.1.on hw9).cell (i := 1) rfl
    have k2 := (HX.out.1.on hw9).cell (i := 2) rfl
    have k3 := (HX.out.2.1.on hw9).cell (i := 0) rfl
    have k4 := (HX.out.2.1.on hw9).cell (i := 1) rfl
    have k5 := (HX.out.2.1.on hw9).cell (i := 2) rfl
    have k6 := (HX.out.2.2.on hw9).cell (i := 0) rfl
    have k7 := (HX.out.2.2.on hw9).cell (i := 1) rfl
    have k8 := (HX.out.2.2.on hw9).cell (i := 2) rfl
    go_simp
    try with_reducible rfl
  try simp only [Act.put, List.setIfInBounds_toArray, List.set_cons_zero, List.set_cons_succ]
  refine wpL_take (v := ?_) 1 rfl (by kernel_rfl) (fun _ _ _ h => h) (by rfl) ?_ HBwd.out ?_
  rotate_left
  focus
    intro w9 hw9
    have k0 := (HX.out.1.on hw9).cell (i := 0) rfl
    have k1 := (HX.out.1.on hw9).cell (i := 1) rfl
    have k2 := (HX.out.1.on hw9).cell (i := 2) rfl
    have k3 := (HX.out.2.1.on hw9).cell (i := 0) rfl
    have k4 := (HX.out.2.1.on hw9).cell (i := 1) rfl
    have k5 := (HX.out.2.1.on hw9).cell (i := 2) rfl
    have k6 := (HX.out.2.2.on hw9).cell (i := 0) rfl
    have k7 := (HX.out.2.2.on hw9).cell (i := 1) rfl
    have k8 := (HX.out.2.2.on hw9).cell (i := 2) rfl
    go_simp
    try with_reducible rfl
  try simp only [Act.put, List.setIfInBounds_toArray, List.set_cons_zero, List.set_cons_succ]
  refine wpL_take (v := ?_) 2 rfl (by kernel_rfl) (fun _ _ _ h => h) (by rfl) ?_ HBwd.out ?_
  rotate_left
  focus
    intro w9 hw9
    have k0 := (HX.out.1.on hw9).cell (i := 0) rfl
    have k1 := (HX.out.1.on hw9).cell (i := 1) rfl
    have k2 := (HX.out.1.on hw9).cell (i := 2) rfl
    have k3 := (HX.out.2.1.on hw9).cell (i := 0) rfl
    have k4 := (HX.out.2.1.on hw9).cell (i := 1) rfl
    have k5 := (HX.out.2.1.on hw9).cell (i := 2) rfl
    have k6 := (HX.out.2.2.on hw9).cell (i := 0) rfl
    have k7 := (HX.out.2.2.on hw9).cell (i := 1) rfl
    have k8 := (HX.out.2.2.on hw9).cell (i := 2) rfl
    go_simp
    try with_reducible rfl
  try simp only [Act.put, List.setIfInBounds_toArray, List.set_cons_zero, List.set_cons_succ]
  refine wpL_take (v := ?_) 3 rfl (by kernel_rfl) (fun _ _ _ h => h) (by rfl) ?_ HBwd.out ?_
  rotate_left
  focus
    intro w9 hw9
    have k0 := (HX.out.1.on hw9).cell (i := 0) rfl
    have k1 := (HX.out.1.on hw9).cell (i := 1) rfl
    have k2 := (HX.out.1.on hw9).cell (i := 2) rfl
    have k3 := (HX.out.2.1.on hw9).cell (i := 0) rfl
    have k4 := (HX.out.2.1.on hw9).cell (i := 1) rfl
    have k5 := (HX.out.2.1.on hw9).cell (i := 2) rfl
    have k6 := (HX.out.2.2.on hw9).cell (i := 0) rfl
    have k7 := (HX.out.2.2.on hw9).cell (i := 1) rfl
    have k8 := (HX.out.2.2.on hw9).cell (i := 2) rfl
    go_simp
    try with_reducible rfl
  try simp only [Act.put, List.setIfInBounds_toArray, List.set_cons_zero, List.set_cons_succ]
  refine wpL_take (v := ?_) 4 rfl (by kernel_rfl) (fun _ _ _ h => h) (by rfl) ?_ HBwd.out ?_
  rotate_left
  focus
    intro w9 hw9
    have k0 := (HX.out.1.on hw9).cell (i := 0) rfl
    have k1 := (HX.out.1.on hw9).cell (i := 1) rfl
    have k2 := (HX.out.1.on hw9).cell (i := 2) rfl
    have k3 := (HX.out.2.1.on hw9).cell (i := 0) rfl
    have k4 := (HX.out.2.1.on hw9).cell (i := 1) rfl
    have k5 := (HX.out.2.1.on hw9).cell (i := 2) rfl
    have k6 := (HX.out.2.2.on hw9).cell (i := 0) rfl
    have k7 := (HX.out.2.2.on hw9).cell (i := 1) rfl
    have k8 := (HX.out.2.2.on hw9).cell (i := 2) rfl
    go_simp
    try with_reducible rfl
  try simp only [Act.put, List.setIfInBounds_toArray, List.set_cons_zero, List.set_cons_succ]
  refine wpL_take (v := ?_) 5 rfl (by kernel_rfl) (fun _ _ _ h => h) (by rfl) ?_ HBwd.out ?_
  rotate_left
  focus
    intro w9 hw9
    have k0 := (HX.out.1.on hw9).cell (i := 0) rfl
    have k1 := (HX.out.1.on hw9).cell (i := 1) rfl
    have k2 := (HX.out.1.on hw9).cell (i := 2) rfl
    have k3 := (HX.out.2.1.on hw9).cell (i := 0) rfl
    have k4 := (HX.out.2.1.on hw9).cell (i := 1) rfl
    have k5 := (HX.out.2.1.on hw9).cell (i := 2) rfl
    have k6 := (HX.out.2.2.on hw9).cell (i := 0) rfl
    have k7 := (HX.out.2.2.on hw9).cell (i := 1) rfl
    have k8 := (HX.out.2.2.on hw9).cell (i := 2) rfl
    go_simp
    try with_reducible rfl
  try simp only [Act.put, List.setIfInBounds_toArray, List.set_cons_zero, List.set_cons_succ]
  refine wpL_one 6 rfl (by kernel_rfl) (by rfl) ?_
  intro K hK
  go_simp
  have Cv1 : Hid (Calls _ _ _ _ _) := rsameF g _ _ _ _ _ _ wd (HG.out.1.on HBwd.out) (HG.out.2.on HBwd.out)
  refine Cv1.out.mono ?_
  rintro e v1 ⟨rfl, hbv1⟩
  dsimp only
  have HBv1 : Hid (Below wB.heap.size wB v1) := HBwd.out.trans (hbv1.mono HBwd.out.size)
  refine hK.out _ _ (fun _ => HBv1.out) ?_
  clear hK K Cv1 hbv1
  try simp only [Act.put, List.setIfInBounds_toArray, List.set_cons_zero, List.set_cons_succ]
  refine wpL_take (v := ?_) 7 rfl (by kernel_rfl) (fun _ _ _ h => h) (by rfl) ?_ HBv1.out ?_
  rotate_left
  focus
    intro w9 hw9
    have k0 := (HX.out.1.on hw9).cell (i := 0) rfl
    have k1 := (HX.out.1.on hw9).cell (i := 1) rfl
    have k2 := (HX.out.1.on hw9).cell (i := 2) rfl
    have k3 := (HX.out.2.1.on hw9).cell (i := 0) rfl
    have k4 := (HX.out.2.1.on hw9).cell (i := 1) rfl
    have k5 := (HX.out.2.1.on hw9).cell (i := 2) rfl
    have k6 := (HX.out.2.2.on hw9).cell (i := 0) rfl
    have k7 := (HX.out.2.2.on hw9).cell (i := 1) rfl
    have k8 := (HX.out.2.2.on hw9).cell (i := 2) rfl
    go_simp
    try with_reducible rfl
  try simp only [Act.put, List.setIfInBounds_toArray, List.set_cons_zero, List.set_cons_succ]
  refine wpL_take (v := ?_) 8 rfl (by kernel_rfl) (fun _ _ _ h => h) (by rfl) ?_ HBv1.out ?_
  rotate_left
  focus
    intro w9 hw9
    have k0 := (HX.out.1.on hw9).cell (i := 0) rfl
    have k1 := (HX.out.1.on hw9).cell (i := 1) rfl
    have k2 := (HX.out.1.on hw9).cell (i := 2) rfl
    have k3 := (HX.out.2.1.on hw9).cell (i := 0) rfl
    have k4 := (HX.out.2.1.on hw9).cell (i := 1) rfl
    have k5 := (HX.out.2.1.on hw9).cell (i := 2) rfl
    have k6 := (HX.out.2.2.on hw9).cell (i := 0) rfl
    have k7 := (HX.out.2.2.on hw9).cell (i := 1) rfl
    have k8 := (HX.out.2.2.on hw9).cell (i := 2) rfl
    go_simp
    try with_reducible rfl
  try simp only [Act.put, List.setIfInBounds_toArray, List.set_cons_zero, List.set_cons_succ]
  refine wpL_take (v := ?_) 9 rfl (by kernel_rfl) (fun _ _ _ h => h) (by rfl) ?_ HBv1.out ?_
  rotate_left
  focus
    intro w9 hw9
    have k0 := (HX.out.1.on hw9).cell (i := 0) rfl
    have k1 := (HX.out.1.on hw9).cell (i := 1) rfl
    have k2 := (HX.out.1.on hw9).cell (i := 2) rfl
    have k3 := (HX.out.2.1.on hw9).cell (i := 0) rfl
    have k4 := (HX.out.2.1.on hw9).cell (i := 1) rfl
    have k5 := (HX.out.2.1.on hw9).cell (i := 2) rfl
    have k6 := (HX.out.2.2.on hw9).cell (i := 0) rfl
    have k7 := (HX.out.2.2.on hw9).cell (i := 1) rfl
    have k8 := (HX.out.2.2.on hw9).cell (i := 2) rfl
    go_simp
    try with_reducible rfl
  try simp only [Act.put, List.setIfInBounds_toArray, List.set_cons_zero, List.set_cons_succ]
  refine wpL_take (v := ?_) 12 rfl (by kernel_rfl) (fun _ _ _ h => h) (by rfl) ?_ HBv1.out ?_
  rotate_left
  focus
    intro w9 hw9
    have k0 := (HX.out.1.on hw9).cell (i := 0) rfl
    have k1 := (HX.out.1.on hw9).cell (i := 1) rfl
    have k2 := (HX.out.1.on hw9).cell (i := 2) rfl
    have k3 := (HX.out.2.1.on hw9).cell (i := 0) rfl
    have k4 := (HX.out.2.1.on hw9).cell (i := 1) rfl
    have k5 := (HX.out.2.1.on hw9).cell (i := 2) rfl
    have k6 := (HX.out.2.2.on hw9).cell (i := 0) rfl
    have k7 := (HX.out.2.2.on hw9).cell (i := 1) rfl
    have k8 := (HX.out.2.2.on hw9).cell (i := 2) rfl
    go_simp
    try with_reducible rfl
  try simp only [Act.put, List.setIfInBounds_toArray, List.set_cons_zero, List.set_cons_succ]
  refine wpL_one 10 rfl (by kernel_rfl) (by rfl) ?_
  intro K hK
  go_simp
  have Cv2 : Hid (Calls _ _ _ _ _) := rcopyF f _ _ _ v1 (HRd.out.on HBv1.out)
  refine Cv2.out.mono ?_
  rintro e v2 ⟨u0, u1, u2, rfl, hr2, hbv2⟩
  dsimp only
  have HBv2 : Hid (Below wB.heap.size wB v2) := HBv1.out.trans (hbv2.mono HBv1.out.size)
  have HC2 : Hid (RdF v2 u0 u1 u2 f) := hr2
  clear hr2
  refine hK.out _ _ (fun _ => HBv2.out) ?_
  clear hK K Cv2 hbv2
  try simp only [Act.put, List.setIfInBounds_toArray, List.set_cons_zero, List.set_cons_succ]
  refine wpL_one 11 rfl (by kernel_rfl) (by rfl) ?_
  intro K hK
  go_simp
  have Cv3 : Hid (Calls _ _ _ _ _) := check_any f _ _ _ v2 HC2.out
  refine Cv3.out.mono ?_
  rintro e v3 ⟨rfl, hbv3⟩
  dsimp only
  have HBv3 : Hid (Below wB.heap.size wB v3) := HBv2.out.trans (hbv3.mono HBv2.out.size)
  refine hK.out _ _ (fun _ => HBv3.out) ?_
  clear hK K Cv3 hbv3
  try simp only [Act.put, List.setIfInBounds_toArray, List.set_cons_zero, List.set_cons_succ]
  refine wpL_one 13 rfl (by kernel_rfl) (by rfl) ?_
  intro K hK
  go_simp
  have Cv4 : Hid (Calls _ _ _ _ _) := rcheck_any f _ _ _ v3 (HRd.out.on HBv3.out)
  refine Cv4.out.mono ?_
  rintro e v4 ⟨rfl, hbv4⟩
  dsimp only
  have HBv4 : Hid (Below wB.heap.size wB v4) := HBv3.out.trans (hbv4.mono HBv3.out.size)
  refine hK.out _ _ (fun _ => HBv4.out) ?_
  clear hK K Cv4 hbv4
  try simp only [Act.put, List.setIfInBounds_toArray, List.set_cons_zero, List.set_cons_succ]
  refine wpL_take (v := ?_) 14 rfl (by kernel_rfl) (fun _ _ _ h => h) (by rfl) ?_ HBv4.out ?_
  rotate_left
  focus
    intro w9 hw9
    have k0 := (HX.out.1.on hw9).cell (i := 0) rfl
    have k1 := (HX.out.1.on hw9).cell (i := 1) rfl
    have k2 := (HX.out.1.on hw9).cell (i := 2) rfl
    have k3 := (HX.out.2.1.on hw9).cell (i := 0) rfl
    have k4 := (HX.out.2.1.on hw9).cell (i := 1) rfl
    have k5 := (HX.out.2.1.on hw9).cell (i := 2) rfl
    have k6 := (HX.out.2.2.on hw9).cell (i := 0) rfl
    have k7 := (HX.out.2.2.on hw9).cell (i := 1) rfl
    have k8 := (HX.out.2.2.on hw9).cell (i := 2) rfl
    go_simp
    try with_reducible rfl
  try simp only [Act.put, List.setIfInBounds_toArray, List.set_cons_zero, List.set_cons_succ]
  refine wpL_take (v := ?_) 15 rfl (by kernel_rfl) (fun _ _ _ h => h) (by rfl) ?_ HBv4.out ?_
  rotate_left
  focus
    intro w9 hw9
    have k0 := (HX.out.1.on hw9).cell (i := 0) rfl
    have k1 := (HX.out.1.on hw9).cell (i := 1) rfl
    have k2 := (HX.out.1.on hw9).cell (i := 2) rfl
    have k3 := (HX.out.2.1.on hw9).cell (i := 0) rfl
    have k4 := (HX.out.2.1.on hw9).cell (i := 1) rfl
    have k5 := (HX.out.2.1.on hw9).cell (i := 2) rfl
    have k6 := (HX.out.2.2.on hw9).cell (i := 0) rfl
    have k7 := (HX.out.2.2.on hw9).cell (i := 1) rfl
    have k8 := (HX.out.2.2.on hw9).cell (i := 2) rfl
    go_simp
    try with_reducible rfl
  try simp only [Act.put, List.setIfInBounds_toArray, List.set_cons_zero, List.set_cons_succ]
  refine wpL_take (v := ?_) 16 rfl (by kernel_rfl) (fun _ _ _ h => h) (by rfl) ?_ HBv4.out ?_
  rotate_left
  focus
    intro w9 hw9
    have k0 := (HX.out.1.on hw9).cell (i := 0) rfl
    have k1 := (HX.out.1.on hw9).cell (i := 1) rfl
    have k2 := (HX.out.1.on hw9).cell (i := 2) rfl
    have k3 := (HX.out.2.1.on hw9).cell (i := 0) rfl
    have k4 := (HX.out.2.1.on hw9).cell (i := 1) rfl
    have k5 := (HX.out.2.1.on hw9).cell (i := 2) rfl
    have k6 := (HX.out.2.2.on hw9).cell (i := 0) rfl
    have k7 := (HX.out.2.2.on hw9).cell (i := 1) rfl
    have k8 := (HX.out.2.2.on hw9).cell (i := 2) rfl
    go_simp
    try with_reducible rfl
  try simp only [Act.put, List.setIfInBounds_toArray, List.set_cons_zero, List.set_cons_succ]
  refine wpL_one 17 rfl (by kernel_rfl) (by rfl) ?_
  intro K hK
  go_simp
  have Cv5 : Hid (Calls _ _ _ _ _) := awake_any v4
  refine Cv5.out.mono ?_
  rintro e v5 ⟨rfl, hbv5⟩
  dsimp only
  have HBv5 : Hid (Below wB.heap.size wB v5) := HBv4.out.trans (hbv5.mono HBv4.out.size)
  refine hK.out _ _ (fun _ => HBv5.out) ?_
  clear hK K Cv5 hbv5
  try simp only [Act.put, List.setIfInBounds_toArray, List.set_cons_zero, List.set_cons_succ]
  refine wpL_take (v := ?_) 18 rfl (by kernel_rfl) (fun _ _ _ h => h) (by rfl) ?_ HBv5.out ?_
  rotate_left
  focus
    intro w9 hw9
    have k0 := (HX.out.1.on hw9).cell (i := 0) rfl
    have k1 := (HX.out.1.on hw9).cell (i := 1) rfl
    have k2 := (HX.out.1.on hw9).cell (i := 2) rfl
    have k3 := (HX.out.2.1.on hw9).cell (i := 0) rfl
    have k4 := (HX.out.2.1.on hw9).cell (i := 1) rfl
    have k5 := (HX.out.2.1.on hw9).cell (i := 2) rfl
    have k6 := (HX.out.2.2.on hw9).cell (i := 0) rfl
    have k7 := (HX.out.2.2.on hw9).cell (i := 1) rfl
    have k8 := (HX.out.2.2.on hw9).cell (i := 2) rfl
    go_simp
    try with_reducible rfl
  try simp only [Act.put, List.setIfInBounds_toArray, List.set_cons_zero, List.set_cons_succ]
  refine wpL_one 19 rfl (by kernel_rfl) (by rfl) ?_
  intro K hK
  go_simp
  refine hK.out _ _ (fun h => absurd rfl h) ?_
  clear hK K
  try simp only [Act.put, List.setIfInBounds_toArray, List.set_cons_zero, List.set_cons_succ]
  refine wpL_done (by kernel_rfl) ?_ _
  try simp only [NoPanic]
  have HEE : Hid (Below w.heap.size w v5) := HE.out.trans (HBv5.out.mono HE.out.size)
  go_wp2_with fail
  go_ret
  exact ⟨rfl, HEE.out⟩
end Go.Proofs.YtiiladcihheogaaGreat
