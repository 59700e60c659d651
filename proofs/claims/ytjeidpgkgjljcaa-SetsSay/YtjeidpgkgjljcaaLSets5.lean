/- The law of SetsSay. -/
import Derived.Test.YtjeidpgkgjljcaaLSay0
namespace Go.Proofs.Ytjeidpgkgjljcaa
open Go.RowKit
set_option maxRecDepth 100000

set_option maxHeartbeats 40000000 in
theorem lawSay (a b c : Ft) (va0 va1 va2 vb0 vb1 vb2 vc0 vc1 vc2 : Value) (w : World) (ha : RdF w va0 va1 va2 a) (hb : RdF w vb0 vb1 vb2 b) (hc : RdF w vc0 vc1 vc2 c) :
    Calls Try.prog 4 #[.agg #[va0, va1, va2], .agg #[vb0, vb1, vb2], .agg #[vc0, vc1, vc2]] w fun e w' => e = .returned (.bool true) ∧ Below w.heap.size w w' := by
  obtain ⟨pa0, pa1, pa2, na0, na1, na2, ca0, ca1, ca2, e0, e1, e2⟩ := ha.sls
  subst e0 e1 e2
  obtain ⟨pb0, pb1, pb2, nb0, nb1, nb2, cb0, cb1, cb2, e0, e1, e2⟩ := hb.sls
  subst e0 e1 e2
  obtain ⟨pc0, pc1, pc2, nc0, nc1, nc2, cc0, cc1, cc2, e0, e1, e2⟩ := hc.sls
  subst e0 e1 e2
  obtain ⟨w3, hw3⟩ : ∃ w3, (((w.alloc (.cells #[.slice pa0 na0 ca0, .slice pa1 na1 ca1, .slice pa2 na2 ca2] 25)).alloc (.cells #[.slice pb0 nb0 cb0, .slice pb1 nb1 cb1, .slice pb2 nb2 cb2] 25)).alloc (.cells #[.slice pc0 nc0 cc0, .slice pc1 nc1 cc1, .slice pc2 nc2 cc2] 25)) = w3 := ⟨_, rfl⟩
  have HE3 : Hid (Below w.heap.size w w3) := by rw [← hw3]; exact (((Below.refl _ _).alloc (Nat.le_refl _) _).alloc (by simp) _).alloc (by simp; omega) _
  have HA3 : Hid (Bx17 w3 w.heap.size pa0 pa1 pa2 na0 na1 na2 ca0 ca1 ca2 a) := ⟨by rw [← hw3]; exact (Blk.new w #[.slice pa0 na0 ca0, .slice pa1 na1 ca1, .slice pa2 na2 ca2] 25).keep (B := w.heap.size + 1) (((Below.refl _ _).alloc (by simp) _).alloc (by simp) _) (by omega), ha.on HE3.out⟩
  have HB3 : Hid (Bx17 w3 (w.heap.size + 1) pb0 pb1 pb2 nb0 nb1 nb2 cb0 cb1 cb2 b) := ⟨by
    rw [← hw3]
    have h := Blk.new (w.alloc (.cells #[.slice pa0 na0 ca0, .slice pa1 na1 ca1, .slice pa2 na2 ca2] 25)) #[.slice pb0 nb0 cb0, .slice pb1 nb1 cb1, .slice pb2 nb2 cb2] 25
    rw [World.size_alloc] at h
    exact h.keep (B := w.heap.size + 1 + 1) ((Below.refl _ _).alloc (by simp) _) (by omega), hb.on HE3.out⟩
  have HC3 : Hid (Bx17 w3 (w.heap.size + 1 + 1) pc0 pc1 pc2 nc0 nc1 nc2 cc0 cc1 cc2 c) := ⟨by
    rw [← hw3]
    have h := Blk.new ((w.alloc (.cells #[.slice pa0 na0 ca0, .slice pa1 na1 ca1, .slice pa2 na2 ca2] 25)).alloc (.cells #[.slice pb0 nb0 cb0, .slice pb1 nb1 cb1, .slice pb2 nb2 cb2] 25)) #[.slice pc0 nc0 cc0, .slice pc1 nc1 cc1, .slice pc2 nc2 cc2] 25
    rw [World.size_alloc, World.size_alloc] at h
    exact h, hc.on HE3.out⟩
  have HNB : Hid (b.W.length ≤ 4398046511104 ∧ nb2 = b.W.length ∧ ∀ w' : World, RdF w' (.slice pb0 nb0 cb0) (.slice pb1 nb1 cb1) (.slice pb2 nb2 cb2) b → RowP w' w'.heap.size pb2 b.W) := ⟨hb.lw, by
    obtain ⟨p, c, e, _⟩ := hb.w.f
    exact (Value.slice.inj e).2.1, fun w' h => by
    obtain ⟨p, c, e, _, _, h⟩ := h.w.f
    obtain rfl := (Value.slice.inj e).1
    exact h⟩
  clear ha hb hc
  go_enter Try.func4, Try.ntmps4
  have kA0 := HA3.out.k.cell (i := 0) rfl
  have kA1 := HA3.out.k.cell (i := 1) rfl
  have kA2 := HA3.out.k.cell (i := 2) rfl
  have CC : Hid (Calls _ _ _ _ _) := rcopyF a _ _ _ w3 HA3.out.r
  go_wp2_with fail
  clear kA0 kA1 kA2
  refine CC.out.mono ?_
  rintro e w4 ⟨u0, u1, u2, rfl, hr4, hb9⟩
  clear CC
  have HEw4 : Hid (Below w.heap.size w w4) := HE3.out.trans ((hb9).mono HE3.out.size)
  have HAw4 : Hid (Bx17 w4 w.heap.size pa0 pa1 pa2 na0 na1 na2 ca0 ca1 ca2 a) := HA3.out.on (hb9)
  have HBw4 : Hid (Bx17 w4 (w.heap.size + 1) pb0 pb1 pb2 nb0 nb1 nb2 cb0 cb1 cb2 b) := HB3.out.on (hb9)
  have HCw4 : Hid (Bx17 w4 (w.heap.size + 1 + 1) pc0 pc1 pc2 nc0 nc1 nc2 cc0 cc1 cc2 c) := HC3.out.on (hb9)
  clear HE3 HA3 HB3 HC3
  clear hb9
  clear hw3
  have kA0 := HAw4.out.k.cell (i := 0) rfl
  have kA1 := HAw4.out.k.cell (i := 1) rfl
  have kA2 := HAw4.out.k.cell (i := 2) rfl
  have CC : Hid (Calls _ _ _ _ _) := norm_rd a _ _ _ w4 hr4
  go_wp2_with fail
  clear kA0 kA1 kA2
  refine CC.out.mono ?_
  rintro e w5 ⟨x0, x1, x2, g, rfl, hr5, hn5, hb9⟩
  clear CC
  have HEw5 : Hid (Below w.heap.size w w5) := HEw4.out.trans ((hb9).mono HEw4.out.size)
  have HAw5 : Hid (Bx17 w5 w.heap.size pa0 pa1 pa2 na0 na1 na2 ca0 ca1 ca2 a) := HAw4.out.on (hb9)
  have HBw5 : Hid (Bx17 w5 (w.heap.size + 1) pb0 pb1 pb2 nb0 nb1 nb2 cb0 cb1 cb2 b) := HBw4.out.on (hb9)
  have HCw5 : Hid (Bx17 w5 (w.heap.size + 1 + 1) pc0 pc1 pc2 nc0 nc1 nc2 cc0 cc1 cc2 c) := HCw4.out.on (hb9)
  clear HEw4 HAw4 HBw4 HCw4
  clear hb9
  clear hr4
  obtain ⟨px0, px1, px2, nx0, nx1, nx2, cx0, cx1, cx2, e0, e1, e2⟩ := hr5.sls
  subst e0 e1 e2
  have HN : Hid (NrO a g) := hn5
  clear hn5
  have hal : Below w5.heap.size w5 (w5.alloc (.cells #[.slice px0 nx0 cx0, .slice px1 nx1 cx1, .slice px2 nx2 cx2] 25)) := (Below.refl _ _).alloc (Nat.le_refl _) _
  have HEw5p : Hid (Below w.heap.size w (w5.alloc (.cells #[.slice px0 nx0 cx0, .slice px1 nx1 cx1, .slice px2 nx2 cx2] 25))) := HEw5.out.trans ((hal).mono HEw5.out.size)
  have HAw5p : Hid (Bx17 (w5.alloc (.cells #[.slice px0 nx0 cx0, .slice px1 nx1 cx1, .slice px2 nx2 cx2] 25)) w.heap.size pa0 pa1 pa2 na0 na1 na2 ca0 ca1 ca2 a) := HAw5.out.on (hal)
  have HBw5p : Hid (Bx17 (w5.alloc (.cells #[.slice px0 nx0 cx0, .slice px1 nx1 cx1, .slice px2 nx2 cx2] 25)) (w.heap.size + 1) pb0 pb1 pb2 nb0 nb1 nb2 cb0 cb1 cb2 b) := HBw5.out.on (hal)
  have HCw5p : Hid (Bx17 (w5.alloc (.cells #[.slice px0 nx0 cx0, .slice px1 nx1 cx1, .slice px2 nx2 cx2] 25)) (w.heap.size + 1 + 1) pc0 pc1 pc2 nc0 nc1 nc2 cc0 cc1 cc2 c) := HCw5.out.on (hal)
  clear HEw5 HAw5 HBw5 HCw5
  have HNw5p : Hid (Bx17 (w5.alloc (.cells #[.slice px0 nx0 cx0, .slice px1 nx1 cx1, .slice px2 nx2 cx2] 25)) w5.heap.size px0 px1 px2 nx0 nx1 nx2 cx0 cx1 cx2 g) := Bx17.new hr5
  clear hal hr5
  by_cases hca : chkF a = 0
  · rw [hca]
    have HS5 : Hid (∀ h, NrO g h → chkF g = 0 ∧ h = g) := fun h hh => HN.out.self hca hh
    have kN0 := HNw5p.out.k.cell (i := 0) rfl
    have kN1 := HNw5p.out.k.cell (i := 1) rfl
    have kN2 := HNw5p.out.k.cell (i := 2) rfl
    have kA0 := HAw5p.out.k.cell (i := 0) rfl
    have kA1 := HAw5p.out.k.cell (i := 1) rfl
    have kA2 := HAw5p.out.k.cell (i := 2) rfl
    have CC : Hid (Calls _ _ _ _ _) := norm_rd g _ _ _ (w5.alloc (.cells #[.slice px0 nx0 cx0, .slice px1 nx1 cx1, .slice px2 nx2 cx2] 25)) HNw5p.out.r
    go_wp2_with fail
    clear kN0 kN1 kN2 kA0 kA1 kA2
    generalize (w5.alloc (.cells #[.slice px0 nx0 cx0, .slice px1 nx1 cx1, .slice px2 nx2 cx2] 25)) = w6 at *
    refine CC.out.mono ?_
    rintro e w7 ⟨y0, y1, y2, g2, rfl, hr7, hn7, hb9⟩
    clear CC
    have HEw7 : Hid (Below w.heap.size w w7) := HEw5p.out.trans ((hb9).mono HEw5p.out.size)
    have HAw7 : Hid (Bx17 w7 w.heap.size pa0 pa1 pa2 na0 na1 na2 ca0 ca1 ca2 a) := HAw5p.out.on (hb9)
    have HBw7 : Hid (Bx17 w7 (w.heap.size + 1) pb0 pb1 pb2 nb0 nb1 nb2 cb0 cb1 cb2 b) := HBw5p.out.on (hb9)
    have HCw7 : Hid (Bx17 w7 (w.heap.size + 1 + 1) pc0 pc1 pc2 nc0 nc1 nc2 cc0 cc1 cc2 c) := HCw5p.out.on (hb9)
    have HNw7 : Hid (Bx17 w7 w5.heap.size px0 px1 px2 nx0 nx1 nx2 cx0 cx1 cx2 g) := HNw5p.out.on (hb9)
    clear HEw5p HAw5p HBw5p HCw5p HNw5p
    clear hb9
    obtain ⟨hcg, eg⟩ := HS5.out g2 hn7
    obtain rfl := eg.symm
    clear HS5 hn7
    rw [hcg]
    obtain ⟨py0, py1, py2, ny0, ny1, ny2, cy0, cy1, cy2, e0, e1, e2⟩ := hr7.sls
    subst e0 e1 e2
    have hal : Below w7.heap.size w7 (w7.alloc (.cells #[.slice py0 ny0 cy0, .slice py1 ny1 cy1, .slice py2 ny2 cy2] 25)) := (Below.refl _ _).alloc (Nat.le_refl _) _
    have HEw7p : Hid (Below w.heap.size w (w7.alloc (.cells #[.slice py0 ny0 cy0, .slice py1 ny1 cy1, .slice py2 ny2 cy2] 25))) := HEw7.out.trans ((hal).mono HEw7.out.size)
    have HAw7p : Hid (Bx17 (w7.alloc (.cells #[.slice py0 ny0 cy0, .slice py1 ny1 cy1, .slice py2 ny2 cy2] 25)) w.heap.size pa0 pa1 pa2 na0 na1 na2 ca0 ca1 ca2 a) := HAw7.out.on (hal)
    have HBw7p : Hid (Bx17 (w7.alloc (.cells #[.slice py0 ny0 cy0, .slice py1 ny1 cy1, .slice py2 ny2 cy2] 25)) (w.heap.size + 1) pb0 pb1 pb2 nb0 nb1 nb2 cb0 cb1 cb2 b) := HBw7.out.on (hal)
    have HCw7p : Hid (Bx17 (w7.alloc (.cells #[.slice py0 ny0 cy0, .slice py1 ny1 cy1, .slice py2 ny2 cy2] 25)) (w.heap.size + 1 + 1) pc0 pc1 pc2 nc0 nc1 nc2 cc0 cc1 cc2 c) := HCw7.out.on (hal)
    have HNw7p : Hid (Bx17 (w7.alloc (.cells #[.slice py0 ny0 cy0, .slice py1 ny1 cy1, .slice py2 ny2 cy2] 25)) w5.heap.size px0 px1 px2 nx0 nx1 nx2 cx0 cx1 cx2 g) := HNw7.out.on (hal)
    clear HEw7 HAw7 HBw7 HCw7 HNw7
    have HMw7p : Hid (Bx17 (w7.alloc (.cells #[.slice py0 ny0 cy0, .slice py1 ny1 cy1, .slice py2 ny2 cy2] 25)) w7.heap.size py0 py1 py2 ny0 ny1 ny2 cy0 cy1 cy2 g) := Bx17.new hr7
    clear hal hr7
    have kM0 := HMw7p.out.k.cell (i := 0) rfl
    have kM1 := HMw7p.out.k.cell (i := 1) rfl
    have kM2 := HMw7p.out.k.cell (i := 2) rfl
    have kN0 := HNw7p.out.k.cell (i := 0) rfl
    have kN1 := HNw7p.out.k.cell (i := 1) rfl
    have kN2 := HNw7p.out.k.cell (i := 2) rfl
    have CC : Hid (Calls _ _ _ _ _) := rsameF g _ _ _ _ _ _ (w7.alloc (.cells #[.slice py0 ny0 cy0, .slice py1 ny1 cy1, .slice py2 ny2 cy2] 25)) HMw7p.out.r HNw7p.out.r
    go_wp2_with fail
    clear kM0 kM1 kM2 kN0 kN1 kN2
    generalize (w7.alloc (.cells #[.slice py0 ny0 cy0, .slice py1 ny1 cy1, .slice py2 ny2 cy2] 25)) = w8 at *
    refine CC.out.mono ?_
    rintro e w9 ⟨rfl, hb9⟩
    clear CC
    have HEw9 : Hid (Below w.heap.size w w9) := HEw7p.out.trans ((hb9).mono HEw7p.out.size)
    have HAw9 : Hid (Bx17 w9 w.heap.size pa0 pa1 pa2 na0 na1 na2 ca0 ca1 ca2 a) := HAw7p.out.on (hb9)
    have HBw9 : Hid (Bx17 w9 (w.heap.size + 1) pb0 pb1 pb2 nb0 nb1 nb2 cb0 cb1 cb2 b) := HBw7p.out.on (hb9)
    have HCw9 : Hid (Bx17 w9 (w.heap.size + 1 + 1) pc0 pc1 pc2 nc0 nc1 nc2 cc0 cc1 cc2 c) := HCw7p.out.on (hb9)
    have HNw9 : Hid (Bx17 w9 w5.heap.size px0 px1 px2 nx0 nx1 nx2 cx0 cx1 cx2 g) := HNw7p.out.on (hb9)
    clear HEw7p HAw7p HBw7p HCw7p HNw7p HMw7p
    clear hb9
    have HNm : Hid (NrmF a g) := HN.out.ok hca
    clear HN hca hcg
    obtain ⟨m, hm⟩ : ∃ m, b.W.length = m := ⟨_, rfl⟩
    have hkb := HBw9.out.k.cell (i := 2) rfl
    obtain rfl : nb2 = m := HNB.out.2.1.trans hm
    go_wp2_with fail
    go_loopw [10] (fun i wr => ∃ j : Nat, j ≤ nb2 ∧ i = .int .i64 (j : Int) ∧ Hid (Below w9.heap.size w9 wr)) (fun i _ => nb2 - (intOf i).toNat)
    case atStart => exact ⟨0, Nat.zero_le _, by go_num, Below.refl _ _⟩
    case round =>
      obtain ⟨j, hj, rfl, HW⟩ := hrel
      clear hkb
      have HEwr : Hid (Below w.heap.size w wr) := HEw9.out.trans ((HW.out).mono HEw9.out.size)
      have HAwr : Hid (Bx17 wr w.heap.size pa0 pa1 pa2 na0 na1 na2 ca0 ca1 ca2 a) := HAw9.out.on (HW.out)
      have HBwr : Hid (Bx17 wr (w.heap.size + 1) pb0 pb1 pb2 nb0 nb1 nb2 cb0 cb1 cb2 b) := HBw9.out.on (HW.out)
      have HCwr : Hid (Bx17 wr (w.heap.size + 1 + 1) pc0 pc1 pc2 nc0 nc1 nc2 cc0 cc1 cc2 c) := HCw9.out.on (HW.out)
      have HNwr : Hid (Bx17 wr w5.heap.size px0 px1 px2 nx0 nx1 nx2 cx0 cx1 cx2 g) := HNw9.out.on (HW.out)
      have HWr : Hid (Below w9.heap.size w9 wr) := HW.out
      clear HW
      have kb2 := HBwr.out.k.cell (i := 2) rfl
      by_cases hj0 : j = nb2
      · obtain rfl := hj0.symm
        clear kb2
        generalize wr = wq at *
        have kN0 := HNwr.out.k.cell (i := 0) rfl
        have kN1 := HNwr.out.k.cell (i := 1) rfl
        have kN2 := HNwr.out.k.cell (i := 2) rfl
        have kB0 := HBwr.out.k.cell (i := 0) rfl
        have kB1 := HBwr.out.k.cell (i := 1) rfl
        have kB2 := HBwr.out.k.cell (i := 2) rfl
        have CC : Hid (Calls _ _ _ _ _) := clash_any g b _ _ _ _ _ _ wq HNwr.out.r HBwr.out.r
        go_wp2_with fail
        clear kN0 kN1 kN2 kB0 kB1 kB2
        refine CC.out.mono ?_
        rintro e v1 ⟨o1, ho1, rfl, hb9⟩
        clear CC
        have HEv1 : Hid (Below w.heap.size w v1) := HEwr.out.trans ((hb9).mono HEwr.out.size)
        have HAv1 : Hid (Bx17 v1 w.heap.size pa0 pa1 pa2 na0 na1 na2 ca0 ca1 ca2 a) := HAwr.out.on (hb9)
        have HBv1 : Hid (Bx17 v1 (w.heap.size + 1) pb0 pb1 pb2 nb0 nb1 nb2 cb0 cb1 cb2 b) := HBwr.out.on (hb9)
        have HCv1 : Hid (Bx17 v1 (w.heap.size + 1 + 1) pc0 pc1 pc2 nc0 nc1 nc2 cc0 cc1 cc2 c) := HCwr.out.on (hb9)
        have HNv1 : Hid (Bx17 v1 w5.heap.size px0 px1 px2 nx0 nx1 nx2 cx0 cx1 cx2 g) := HNwr.out.on (hb9)
        clear HEwr HAwr HBwr HCwr HNwr
        clear hb9
        have hal : Below v1.heap.size v1 (v1.alloc (.cells #[.int .i64 (lP o1).t, .int .i64 (lP o1).i, .string (lP o1).k] 27)) := (Below.refl _ _).alloc (Nat.le_refl _) _
        have HEv1p : Hid (Below w.heap.size w (v1.alloc (.cells #[.int .i64 (lP o1).t, .int .i64 (lP o1).i, .string (lP o1).k] 27))) := HEv1.out.trans ((hal).mono HEv1.out.size)
        have HAv1p : Hid (Bx17 (v1.alloc (.cells #[.int .i64 (lP o1).t, .int .i64 (lP o1).i, .string (lP o1).k] 27)) w.heap.size pa0 pa1 pa2 na0 na1 na2 ca0 ca1 ca2 a) := HAv1.out.on (hal)
        have HBv1p : Hid (Bx17 (v1.alloc (.cells #[.int .i64 (lP o1).t, .int .i64 (lP o1).i, .string (lP o1).k] 27)) (w.heap.size + 1) pb0 pb1 pb2 nb0 nb1 nb2 cb0 cb1 cb2 b) := HBv1.out.on (hal)
        have HCv1p : Hid (Bx17 (v1.alloc (.cells #[.int .i64 (lP o1).t, .int .i64 (lP o1).i, .string (lP o1).k] 27)) (w.heap.size + 1 + 1) pc0 pc1 pc2 nc0 nc1 nc2 cc0 cc1 cc2 c) := HCv1.out.on (hal)
        have HNv1p : Hid (Bx17 (v1.alloc (.cells #[.int .i64 (lP o1).t, .int .i64 (lP o1).i, .string (lP o1).k] 27)) w5.heap.size px0 px1 px2 nx0 nx1 nx2 cx0 cx1 cx2 g) := HNv1.out.on (hal)
        clear HEv1 HAv1 HBv1 HCv1 HNv1
        have HXv1p : Hid (Blk (v1.alloc (.cells #[.int .i64 (lP o1).t, .int .i64 (lP o1).i, .string (lP o1).k] 27)) v1.heap.size #[.int .i64 (lP o1).t, .int .i64 (lP o1).i, .string (lP o1).k] 27) := Blk.new v1 _ _
        clear hal
        have kA0 := HAv1p.out.k.cell (i := 0) rfl
        have kA1 := HAv1p.out.k.cell (i := 1) rfl
        have kA2 := HAv1p.out.k.cell (i := 2) rfl
        have kB0 := HBv1p.out.k.cell (i := 0) rfl
        have kB1 := HBv1p.out.k.cell (i := 1) rfl
        have kB2 := HBv1p.out.k.cell (i := 2) rfl
        have CC : Hid (Calls _ _ _ _ _) := clash_any a b _ _ _ _ _ _ (v1.alloc (.cells #[.int .i64 (lP o1).t, .int .i64 (lP o1).i, .string (lP o1).k] 27)) HAv1p.out.r HBv1p.out.r
        go_wp2_with fail
        clear kA0 kA1 kA2 kB0 kB1 kB2
        generalize (v1.alloc (.cells #[.int .i64 (lP o1).t, .int .i64 (lP o1).i, .string (lP o1).k] 27)) = v2 at *
        refine CC.out.mono ?_
        rintro e v3 ⟨o2, ho2, rfl, hb9⟩
        clear CC
        have HEv3 : Hid (Below w.heap.size w v3) := HEv1p.out.trans ((hb9).mono HEv1p.out.size)
        have HAv3 : Hid (Bx17 v3 w.heap.size pa0 pa1 pa2 na0 na1 na2 ca0 ca1 ca2 a) := HAv1p.out.on (hb9)
        have HBv3 : Hid (Bx17 v3 (w.heap.size + 1) pb0 pb1 pb2 nb0 nb1 nb2 cb0 cb1 cb2 b) := HBv1p.out.on (hb9)
        have HCv3 : Hid (Bx17 v3 (w.heap.size + 1 + 1) pc0 pc1 pc2 nc0 nc1 nc2 cc0 cc1 cc2 c) := HCv1p.out.on (hb9)
        have HNv3 : Hid (Bx17 v3 w5.heap.size px0 px1 px2 nx0 nx1 nx2 cx0 cx1 cx2 g) := HNv1p.out.on (hb9)
        have HXv3 : Hid (Blk v3 v1.heap.size #[.int .i64 (lP o1).t, .int .i64 (lP o1).i, .string (lP o1).k] 27) := HXv1p.out.on (hb9)
        clear HEv1p HAv1p HBv1p HCv1p HNv1p HXv1p
        clear hb9
        have eo := (ho1.ext (fun x => by rw [HNm.out.reads x])).uniq ho2
        subst eo
        clear ho1 ho2
        generalize hlp : lP o1 = lp at *
        generalize o1.isSome = os at *
        clear hlp
        have hal : Below v3.heap.size v3 (v3.alloc (.cells #[.int .i64 lp.t, .int .i64 lp.i, .string lp.k] 27)) := (Below.refl _ _).alloc (Nat.le_refl _) _
        have HEv3p : Hid (Below w.heap.size w (v3.alloc (.cells #[.int .i64 lp.t, .int .i64 lp.i, .string lp.k] 27))) := HEv3.out.trans ((hal).mono HEv3.out.size)
        have HAv3p : Hid (Bx17 (v3.alloc (.cells #[.int .i64 lp.t, .int .i64 lp.i, .string lp.k] 27)) w.heap.size pa0 pa1 pa2 na0 na1 na2 ca0 ca1 ca2 a) := HAv3.out.on (hal)
        have HBv3p : Hid (Bx17 (v3.alloc (.cells #[.int .i64 lp.t, .int .i64 lp.i, .string lp.k] 27)) (w.heap.size + 1) pb0 pb1 pb2 nb0 nb1 nb2 cb0 cb1 cb2 b) := HBv3.out.on (hal)
        have HCv3p : Hid (Bx17 (v3.alloc (.cells #[.int .i64 lp.t, .int .i64 lp.i, .string lp.k] 27)) (w.heap.size + 1 + 1) pc0 pc1 pc2 nc0 nc1 nc2 cc0 cc1 cc2 c) := HCv3.out.on (hal)
        have HNv3p : Hid (Bx17 (v3.alloc (.cells #[.int .i64 lp.t, .int .i64 lp.i, .string lp.k] 27)) w5.heap.size px0 px1 px2 nx0 nx1 nx2 cx0 cx1 cx2 g) := HNv3.out.on (hal)
        have HXv3p : Hid (Blk (v3.alloc (.cells #[.int .i64 lp.t, .int .i64 lp.i, .string lp.k] 27)) v1.heap.size #[.int .i64 lp.t, .int .i64 lp.i, .string lp.k] 27) := HXv3.out.on (hal)
        clear HEv3 HAv3 HBv3 HCv3 HNv3 HXv3
        have HYv3p : Hid (Blk (v3.alloc (.cells #[.int .i64 lp.t, .int .i64 lp.i, .string lp.k] 27)) v3.heap.size #[.int .i64 lp.t, .int .i64 lp.i, .string lp.k] 27) := Blk.new v3 _ _
        clear hal
        have qX0 := HXv3p.out.cell (i := 0) rfl
        have qX1 := HXv3p.out.cell (i := 1) rfl
        have qX2 := HXv3p.out.cell (i := 2) rfl
        have qY0 := HYv3p.out.cell (i := 0) rfl
        have qY1 := HYv3p.out.cell (i := 1) rfl
        have qY2 := HYv3p.out.cell (i := 2) rfl
        have heq := run_eqInP
        have hgd := run_eqGP
        have kA0 := HAv3p.out.k.cell (i := 0) rfl
        have kA1 := HAv3p.out.k.cell (i := 1) rfl
        have kA2 := HAv3p.out.k.cell (i := 2) rfl
        have kB0 := HBv3p.out.k.cell (i := 0) rfl
        have kB1 := HBv3p.out.k.cell (i := 1) rfl
        have kB2 := HBv3p.out.k.cell (i := 2) rfl
        have CC : Hid (Calls _ _ _ _ _) := merge_any a b _ _ _ _ _ _ (v3.alloc (.cells #[.int .i64 lp.t, .int .i64 lp.i, .string lp.k] 27)) HAv3p.out.r HBv3p.out.r
        go_wp2_with fail
        clear qX0 qX1 qX2 qY0 qY1 qY2 heq hgd
        clear kA0 kA1 kA2 kB0 kB1 kB2
        generalize (v3.alloc (.cells #[.int .i64 lp.t, .int .i64 lp.i, .string lp.k] 27)) = v4 at *
        refine CC.out.mono ?_
        rintro e v5 ⟨z0, z1, z2, ab, rfl, h0, h1, h2, hM1, hb9⟩
        clear CC
        have HEv5 : Hid (Below w.heap.size w v5) := HEv3p.out.trans ((hb9).mono HEv3p.out.size)
        have HAv5 : Hid (Bx17 v5 w.heap.size pa0 pa1 pa2 na0 na1 na2 ca0 ca1 ca2 a) := HAv3p.out.on (hb9)
        have HBv5 : Hid (Bx17 v5 (w.heap.size + 1) pb0 pb1 pb2 nb0 nb1 nb2 cb0 cb1 cb2 b) := HBv3p.out.on (hb9)
        have HCv5 : Hid (Bx17 v5 (w.heap.size + 1 + 1) pc0 pc1 pc2 nc0 nc1 nc2 cc0 cc1 cc2 c) := HCv3p.out.on (hb9)
        have HNv5 : Hid (Bx17 v5 w5.heap.size px0 px1 px2 nx0 nx1 nx2 cx0 cx1 cx2 g) := HNv3p.out.on (hb9)
        clear HEv3p HAv3p HBv3p HCv3p HNv3p HXv3p HYv3p
        clear hb9
        have hr5 := mr_rd hM1 h0 h1 h2
        clear h0 h1 h2
        obtain ⟨pd0, pd1, pd2, nd0, nd1, nd2, cd0, cd1, cd2, e0, e1, e2⟩ := hr5.sls
        subst e0 e1 e2
        have hal : Below v5.heap.size v5 (v5.alloc (.cells #[.slice pd0 nd0 cd0, .slice pd1 nd1 cd1, .slice pd2 nd2 cd2] 25)) := (Below.refl _ _).alloc (Nat.le_refl _) _
        have HEv5p : Hid (Below w.heap.size w (v5.alloc (.cells #[.slice pd0 nd0 cd0, .slice pd1 nd1 cd1, .slice pd2 nd2 cd2] 25))) := HEv5.out.trans ((hal).mono HEv5.out.size)
        have HAv5p : Hid (Bx17 (v5.alloc (.cells #[.slice pd0 nd0 cd0, .slice pd1 nd1 cd1, .slice pd2 nd2 cd2] 25)) w.heap.size pa0 pa1 pa2 na0 na1 na2 ca0 ca1 ca2 a) := HAv5.out.on (hal)
        have HBv5p : Hid (Bx17 (v5.alloc (.cells #[.slice pd0 nd0 cd0, .slice pd1 nd1 cd1, .slice pd2 nd2 cd2] 25)) (w.heap.size + 1) pb0 pb1 pb2 nb0 nb1 nb2 cb0 cb1 cb2 b) := HBv5.out.on (hal)
        have HCv5p : Hid (Bx17 (v5.alloc (.cells #[.slice pd0 nd0 cd0, .slice pd1 nd1 cd1, .slice pd2 nd2 cd2] 25)) (w.heap.size + 1 + 1) pc0 pc1 pc2 nc0 nc1 nc2 cc0 cc1 cc2 c) := HCv5.out.on (hal)
        have HNv5p : Hid (Bx17 (v5.alloc (.cells #[.slice pd0 nd0 cd0, .slice pd1 nd1 cd1, .slice pd2 nd2 cd2] 25)) w5.heap.size px0 px1 px2 nx0 nx1 nx2 cx0 cx1 cx2 g) := HNv5.out.on (hal)
        clear HEv5 HAv5 HBv5 HCv5 HNv5
        have HDv5p : Hid (Bx17 (v5.alloc (.cells #[.slice pd0 nd0 cd0, .slice pd1 nd1 cd1, .slice pd2 nd2 cd2] 25)) v5.heap.size pd0 pd1 pd2 nd0 nd1 nd2 cd0 cd1 cd2 ab) := Bx17.new hr5
        clear hal hr5
        have kB0 := HBv5p.out.k.cell (i := 0) rfl
        have kB1 := HBv5p.out.k.cell (i := 1) rfl
        have kB2 := HBv5p.out.k.cell (i := 2) rfl
        have kC0 := HCv5p.out.k.cell (i := 0) rfl
        have kC1 := HCv5p.out.k.cell (i := 1) rfl
        have kC2 := HCv5p.out.k.cell (i := 2) rfl
        have CC : Hid (Calls _ _ _ _ _) := merge_any b c _ _ _ _ _ _ (v5.alloc (.cells #[.slice pd0 nd0 cd0, .slice pd1 nd1 cd1, .slice pd2 nd2 cd2] 25)) HBv5p.out.r HCv5p.out.r
        go_wp2_with fail
        clear kB0 kB1 kB2 kC0 kC1 kC2
        generalize (v5.alloc (.cells #[.slice pd0 nd0 cd0, .slice pd1 nd1 cd1, .slice pd2 nd2 cd2] 25)) = v6 at *
        refine CC.out.mono ?_
        rintro e v7 ⟨z0, z1, z2, bc, rfl, h0, h1, h2, hM2, hb9⟩
        clear CC
        have HEv7 : Hid (Below w.heap.size w v7) := HEv5p.out.trans ((hb9).mono HEv5p.out.size)
        have HAv7 : Hid (Bx17 v7 w.heap.size pa0 pa1 pa2 na0 na1 na2 ca0 ca1 ca2 a) := HAv5p.out.on (hb9)
        have HBv7 : Hid (Bx17 v7 (w.heap.size + 1) pb0 pb1 pb2 nb0 nb1 nb2 cb0 cb1 cb2 b) := HBv5p.out.on (hb9)
        have HCv7 : Hid (Bx17 v7 (w.heap.size + 1 + 1) pc0 pc1 pc2 nc0 nc1 nc2 cc0 cc1 cc2 c) := HCv5p.out.on (hb9)
        have HDv7 : Hid (Bx17 v7 v5.heap.size pd0 pd1 pd2 nd0 nd1 nd2 cd0 cd1 cd2 ab) := HDv5p.out.on (hb9)
        clear HEv5p HAv5p HBv5p HCv5p HNv5p HDv5p
        clear hb9
        have hr7 := mr_rd hM2 h0 h1 h2
        clear h0 h1 h2
        obtain ⟨pf0, pf1, pf2, nf0, nf1, nf2, cf0, cf1, cf2, e0, e1, e2⟩ := hr7.sls
        subst e0 e1 e2
        have hal : Below v7.heap.size v7 (v7.alloc (.cells #[.slice pf0 nf0 cf0, .slice pf1 nf1 cf1, .slice pf2 nf2 cf2] 25)) := (Below.refl _ _).alloc (Nat.le_refl _) _
        have HEv7p : Hid (Below w.heap.size w (v7.alloc (.cells #[.slice pf0 nf0 cf0, .slice pf1 nf1 cf1, .slice pf2 nf2 cf2] 25))) := HEv7.out.trans ((hal).mono HEv7.out.size)
        have HAv7p : Hid (Bx17 (v7.alloc (.cells #[.slice pf0 nf0 cf0, .slice pf1 nf1 cf1, .slice pf2 nf2 cf2] 25)) w.heap.size pa0 pa1 pa2 na0 na1 na2 ca0 ca1 ca2 a) := HAv7.out.on (hal)
        have HBv7p : Hid (Bx17 (v7.alloc (.cells #[.slice pf0 nf0 cf0, .slice pf1 nf1 cf1, .slice pf2 nf2 cf2] 25)) (w.heap.size + 1) pb0 pb1 pb2 nb0 nb1 nb2 cb0 cb1 cb2 b) := HBv7.out.on (hal)
        have HCv7p : Hid (Bx17 (v7.alloc (.cells #[.slice pf0 nf0 cf0, .slice pf1 nf1 cf1, .slice pf2 nf2 cf2] 25)) (w.heap.size + 1 + 1) pc0 pc1 pc2 nc0 nc1 nc2 cc0 cc1 cc2 c) := HCv7.out.on (hal)
        have HDv7p : Hid (Bx17 (v7.alloc (.cells #[.slice pf0 nf0 cf0, .slice pf1 nf1 cf1, .slice pf2 nf2 cf2] 25)) v5.heap.size pd0 pd1 pd2 nd0 nd1 nd2 cd0 cd1 cd2 ab) := HDv7.out.on (hal)
        clear HEv7 HAv7 HBv7 HCv7 HDv7
        have HFv7p : Hid (Bx17 (v7.alloc (.cells #[.slice pf0 nf0 cf0, .slice pf1 nf1 cf1, .slice pf2 nf2 cf2] 25)) v7.heap.size pf0 pf1 pf2 nf0 nf1 nf2 cf0 cf1 cf2 bc) := Bx17.new hr7
        clear hal hr7
        have kD0 := HDv7p.out.k.cell (i := 0) rfl
        have kD1 := HDv7p.out.k.cell (i := 1) rfl
        have kD2 := HDv7p.out.k.cell (i := 2) rfl
        have kC0 := HCv7p.out.k.cell (i := 0) rfl
        have kC1 := HCv7p.out.k.cell (i := 1) rfl
        have kC2 := HCv7p.out.k.cell (i := 2) rfl
        have CC : Hid (Calls _ _ _ _ _) := merge_any ab c _ _ _ _ _ _ (v7.alloc (.cells #[.slice pf0 nf0 cf0, .slice pf1 nf1 cf1, .slice pf2 nf2 cf2] 25)) HDv7p.out.r HCv7p.out.r
        go_wp2_with fail
        clear kD0 kD1 kD2 kC0 kC1 kC2
        generalize (v7.alloc (.cells #[.slice pf0 nf0 cf0, .slice pf1 nf1 cf1, .slice pf2 nf2 cf2] 25)) = v8 at *
        refine CC.out.mono ?_
        rintro e v9 ⟨z0, z1, z2, g1, rfl, h0, h1, h2, hM3, hb9⟩
        clear CC
        have HEv9 : Hid (Below w.heap.size w v9) := HEv7p.out.trans ((hb9).mono HEv7p.out.size)
        have HAv9 : Hid (Bx17 v9 w.heap.size pa0 pa1 pa2 na0 na1 na2 ca0 ca1 ca2 a) := HAv7p.out.on (hb9)
        have HFv9 : Hid (Bx17 v9 v7.heap.size pf0 pf1 pf2 nf0 nf1 nf2 cf0 cf1 cf2 bc) := HFv7p.out.on (hb9)
        clear HEv7p HAv7p HBv7p HCv7p HDv7p HFv7p
        clear hb9
        have hr9 := mr_rd hM3 h0 h1 h2
        clear h0 h1 h2
        obtain ⟨pr0, pr1, pr2, nr0, nr1, nr2, cr0, cr1, cr2, e0, e1, e2⟩ := hr9.sls
        subst e0 e1 e2
        have hal : Below v9.heap.size v9 (v9.alloc (.cells #[.slice pr0 nr0 cr0, .slice pr1 nr1 cr1, .slice pr2 nr2 cr2] 25)) := (Below.refl _ _).alloc (Nat.le_refl _) _
        have HEv9p : Hid (Below w.heap.size w (v9.alloc (.cells #[.slice pr0 nr0 cr0, .slice pr1 nr1 cr1, .slice pr2 nr2 cr2] 25))) := HEv9.out.trans ((hal).mono HEv9.out.size)
        have HAv9p : Hid (Bx17 (v9.alloc (.cells #[.slice pr0 nr0 cr0, .slice pr1 nr1 cr1, .slice pr2 nr2 cr2] 25)) w.heap.size pa0 pa1 pa2 na0 na1 na2 ca0 ca1 ca2 a) := HAv9.out.on (hal)
        have HFv9p : Hid (Bx17 (v9.alloc (.cells #[.slice pr0 nr0 cr0, .slice pr1 nr1 cr1, .slice pr2 nr2 cr2] 25)) v7.heap.size pf0 pf1 pf2 nf0 nf1 nf2 cf0 cf1 cf2 bc) := HFv9.out.on (hal)
        clear HEv9 HAv9 HFv9
        have HRv9p : Hid (Bx17 (v9.alloc (.cells #[.slice pr0 nr0 cr0, .slice pr1 nr1 cr1, .slice pr2 nr2 cr2] 25)) v9.heap.size pr0 pr1 pr2 nr0 nr1 nr2 cr0 cr1 cr2 g1) := Bx17.new hr9
        clear hal hr9
        have kA0 := HAv9p.out.k.cell (i := 0) rfl
        have kA1 := HAv9p.out.k.cell (i := 1) rfl
        have kA2 := HAv9p.out.k.cell (i := 2) rfl
        have kF0 := HFv9p.out.k.cell (i := 0) rfl
        have kF1 := HFv9p.out.k.cell (i := 1) rfl
        have kF2 := HFv9p.out.k.cell (i := 2) rfl
        have CC : Hid (Calls _ _ _ _ _) := merge_any a bc _ _ _ _ _ _ (v9.alloc (.cells #[.slice pr0 nr0 cr0, .slice pr1 nr1 cr1, .slice pr2 nr2 cr2] 25)) HAv9p.out.r HFv9p.out.r
        go_wp2_with fail
        clear kA0 kA1 kA2 kF0 kF1 kF2
        generalize (v9.alloc (.cells #[.slice pr0 nr0 cr0, .slice pr1 nr1 cr1, .slice pr2 nr2 cr2] 25)) = va at *
        refine CC.out.mono ?_
        rintro e vb ⟨z0, z1, z2, g2, rfl, h0, h1, h2, hM4, hb9⟩
        clear CC
        have HEvb : Hid (Below w.heap.size w vb) := HEv9p.out.trans ((hb9).mono HEv9p.out.size)
        have HRvb : Hid (Bx17 vb v9.heap.size pr0 pr1 pr2 nr0 nr1 nr2 cr0 cr1 cr2 g1) := HRv9p.out.on (hb9)
        clear HEv9p HAv9p HFv9p HRv9p
        clear hb9
        have hrb := mr_rd hM4 h0 h1 h2
        clear h0 h1 h2
        obtain ⟨ps0, ps1, ps2, ns0, ns1, ns2, cs0, cs1, cs2, e0, e1, e2⟩ := hrb.sls
        subst e0 e1 e2
        have hal : Below vb.heap.size vb (vb.alloc (.cells #[.slice ps0 ns0 cs0, .slice ps1 ns1 cs1, .slice ps2 ns2 cs2] 25)) := (Below.refl _ _).alloc (Nat.le_refl _) _
        have HEvbp : Hid (Below w.heap.size w (vb.alloc (.cells #[.slice ps0 ns0 cs0, .slice ps1 ns1 cs1, .slice ps2 ns2 cs2] 25))) := HEvb.out.trans ((hal).mono HEvb.out.size)
        have HRvbp : Hid (Bx17 (vb.alloc (.cells #[.slice ps0 ns0 cs0, .slice ps1 ns1 cs1, .slice ps2 ns2 cs2] 25)) v9.heap.size pr0 pr1 pr2 nr0 nr1 nr2 cr0 cr1 cr2 g1) := HRvb.out.on (hal)
        clear HEvb HRvb
        have HSvbp : Hid (Bx17 (vb.alloc (.cells #[.slice ps0 ns0 cs0, .slice ps1 ns1 cs1, .slice ps2 ns2 cs2] 25)) vb.heap.size ps0 ps1 ps2 ns0 ns1 ns2 cs0 cs1 cs2 g2) := Bx17.new hrb
        clear hal hrb
        have HEq : Hid (chkM a b = 0 → chkM b c = 0 → chkM ab c = 0 → chkM a bc = 0 → g1 = g2) := fun e1 e2 e3 e4 => NrmF.assoc (hM1.ok e1) (hM2.ok e2) (hM3.ok e3) (hM4.ok e4)
        clear hM1 hM2 hM3 hM4 HNm
        generalize chkM a b = k1 at *
        generalize chkM b c = k2 at *
        generalize chkM ab c = k3 at *
        generalize chkM a bc = k4 at *
        by_cases hk1 : k1 = 0
        · subst hk1
          by_cases hk2 : k2 = 0
          · subst hk2
            by_cases hk3 : k3 = 0
            · subst hk3
              by_cases hk4 : k4 = 0
              · subst hk4
                obtain rfl := HEq.out rfl rfl rfl rfl
                have kR0 := HRvbp.out.k.cell (i := 0) rfl
                have kR1 := HRvbp.out.k.cell (i := 1) rfl
                have kR2 := HRvbp.out.k.cell (i := 2) rfl
                have kS0 := HSvbp.out.k.cell (i := 0) rfl
                have kS1 := HSvbp.out.k.cell (i := 1) rfl
                have kS2 := HSvbp.out.k.cell (i := 2) rfl
                have CC : Hid (Calls _ _ _ _ _) := rsameF g1 _ _ _ _ _ _ (vb.alloc (.cells #[.slice ps0 ns0 cs0, .slice ps1 ns1 cs1, .slice ps2 ns2 cs2] 25)) HRvbp.out.r HSvbp.out.r
                go_wp2_with fail
                clear kR0 kR1 kR2 kS0 kS1 kS2
                generalize (vb.alloc (.cells #[.slice ps0 ns0 cs0, .slice ps1 ns1 cs1, .slice ps2 ns2 cs2] 25)) = vc at *
                refine CC.out.mono ?_
                rintro e vd ⟨rfl, hb9⟩
                clear CC
                have HEvd : Hid (Below w.heap.size w vd) := HEvbp.out.trans ((hb9).mono HEvbp.out.size)
                clear HEvbp HRvbp HSvbp
                clear hb9
                have CW : Hid (Calls _ _ _ _ _) := awake_any vd
                go_wp2_with fail
                refine CW.out.mono ?_
                rintro e wz ⟨rfl, hbz⟩
                have HEz : Hid (Below w.heap.size w wz) := HEvd.out.trans (hbz.mono HEvd.out.size)
                clear CW hbz
                go_wp2_with fail
                go_ret
                exact ⟨rfl, HEz.out⟩
              · clear HEq
                have CW : Hid (Calls _ _ _ _ _) := awake_any (vb.alloc (.cells #[.slice ps0 ns0 cs0, .slice ps1 ns1 cs1, .slice ps2 ns2 cs2] 25))
                go_wp2_with fail
                generalize (vb.alloc (.cells #[.slice ps0 ns0 cs0, .slice ps1 ns1 cs1, .slice ps2 ns2 cs2] 25)) = vc at *
                refine CW.out.mono ?_
                rintro e wz ⟨rfl, hbz⟩
                have HEz : Hid (Below w.heap.size w wz) := HEvbp.out.trans (hbz.mono HEvbp.out.size)
                clear CW hbz
                go_wp2_with fail
                go_ret
                exact ⟨rfl, HEz.out⟩
            · clear HEq
              have CW : Hid (Calls _ _ _ _ _) := awake_any (vb.alloc (.cells #[.slice ps0 ns0 cs0, .slice ps1 ns1 cs1, .slice ps2 ns2 cs2] 25))
              go_wp2_with fail
              generalize (vb.alloc (.cells #[.slice ps0 ns0 cs0, .slice ps1 ns1 cs1, .slice ps2 ns2 cs2] 25)) = vc at *
              refine CW.out.mono ?_
              rintro e wz ⟨rfl, hbz⟩
              have HEz : Hid (Below w.heap.size w wz) := HEvbp.out.trans (hbz.mono HEvbp.out.size)
              clear CW hbz
              go_wp2_with fail
              go_ret
              exact ⟨rfl, HEz.out⟩
          · clear HEq
            have CW : Hid (Calls _ _ _ _ _) := awake_any (vb.alloc (.cells #[.slice ps0 ns0 cs0, .slice ps1 ns1 cs1, .slice ps2 ns2 cs2] 25))
            go_wp2_with fail
            generalize (vb.alloc (.cells #[.slice ps0 ns0 cs0, .slice ps1 ns1 cs1, .slice ps2 ns2 cs2] 25)) = vc at *
            refine CW.out.mono ?_
            rintro e wz ⟨rfl, hbz⟩
            have HEz : Hid (Below w.heap.size w wz) := HEvbp.out.trans (hbz.mono HEvbp.out.size)
            clear CW hbz
            go_wp2_with fail
            go_ret
            exact ⟨rfl, HEz.out⟩
        · clear HEq
          have CW : Hid (Calls _ _ _ _ _) := awake_any (vb.alloc (.cells #[.slice ps0 ns0 cs0, .slice ps1 ns1 cs1, .slice ps2 ns2 cs2] 25))
          go_wp2_with fail
          generalize (vb.alloc (.cells #[.slice ps0 ns0 cs0, .slice ps1 ns1 cs1, .slice ps2 ns2 cs2] 25)) = vc at *
          refine CW.out.mono ?_
          rintro e wz ⟨rfl, hbz⟩
          have HEz : Hid (Below w.heap.size w wz) := HEvbp.out.trans (hbz.mono HEvbp.out.size)
          clear CW hbz
          go_wp2_with fail
          go_ret
          exact ⟨rfl, HEz.out⟩
      · have hj1 : j < b.W.length := by rw [hm]; omega
        have hj2 : j < nb2 := by omega
        clear kb2
        have HRw := HNB.out.2.2 wr HBwr.out.r
        obtain ⟨bb, ob, hpb, hlt, d0, d1, d2⟩ := HRw j hj1
        subst hpb
        obtain ⟨x, hx⟩ : ∃ x, b.W[j] = x := ⟨_, rfl⟩
        rw [hx] at d0 d1 d2
        have er := rdsB_nrm HNm.out x
        obtain ⟨rb, hrb⟩ : ∃ rb, rdsB a x = rb := ⟨_, rfl⟩
        have CN : Hid (∀ p : InB wr, Calls Try.prog 10 #[.agg #[.slice px0 nx0 cx0, .slice px1 nx1 cx1, .slice px2 nx2 cx2], PV x] p.w' fun e w' => e = .returned (.bool rb) ∧ Below p.w'.heap.size p.w' w') := fun p => by rw [← hrb, ← er]; exact reads_any g x _ _ _ p.w' (HNwr.out.r.on p.h)
        have CA : Hid (∀ p : InB wr, Calls Try.prog 10 #[.agg #[.slice pa0 na0 ca0, .slice pa1 na1 ca1, .slice pa2 na2 ca2], PV x] p.w' fun e w' => e = .returned (.bool rb) ∧ Below p.w'.heap.size p.w' w') := fun p => by rw [← hrb]; exact reads_any a x _ _ _ p.w' (HAwr.out.r.on p.h)
        have g0 := InB.cell (w := wr) (HNwr.out.k.cell (i := 0) rfl) HNwr.out.k.lt
        have g1 := InB.cell (w := wr) (HNwr.out.k.cell (i := 1) rfl) HNwr.out.k.lt
        have g2 := InB.cell (w := wr) (HNwr.out.k.cell (i := 2) rfl) HNwr.out.k.lt
        have g3 := InB.cell (w := wr) (HAwr.out.k.cell (i := 0) rfl) HAwr.out.k.lt
        have g4 := InB.cell (w := wr) (HAwr.out.k.cell (i := 1) rfl) HAwr.out.k.lt
        have g5 := InB.cell (w := wr) (HAwr.out.k.cell (i := 2) rfl) HAwr.out.k.lt
        have g6 := InB.cell (w := wr) (HBwr.out.k.cell (i := 0) rfl) HBwr.out.k.lt
        have g7 := InB.cell (w := wr) (HBwr.out.k.cell (i := 1) rfl) HBwr.out.k.lt
        have g8 := InB.cell (w := wr) (HBwr.out.k.cell (i := 2) rfl) HBwr.out.k.lt
        have e0 := InB.cell (w := wr) d0 hlt
        have e1 := InB.cell (w := wr) d1 hlt
        have e2 := InB.cell (w := wr) d2 hlt
        have kb2 := HBwr.out.k.cell (i := 2) rfl
        have ne1 := inB_ne wr
        clear HRw hx er hrb d0 d1 d2 hlt hj1
        go_wp2_with fail
        refine wp_region_inB (by kernel_rfl) (by kernel_rfl) ?_
        go_big_quiet_step (first | (go_at_call 10; exact Calls.inB (CN.out _)))
        go_big_quiet_step (first | (go_at_call 10; exact Calls.inB (CN.out _)))
        go_big_quiet_step (first | (go_at_call 10; exact Calls.inB (CN.out _)))
        go_big_quiet_step (first | (go_at_call 10; exact Calls.inB (CN.out _)))
        go_big_quiet_step (first | (go_at_call 10; exact Calls.inB (CN.out _)))
        go_big_quiet_step (first | (go_at_call 10; exact Calls.inB (CN.out _)))
        go_big_quiet_step (first | (go_at_call 10; exact Calls.inB (CN.out _)))
        repeat (go_big_quiet_step (first | (go_at_call 10; exact Calls.inB (CA.out _))))
        refine wpQuiet_nil ?_
        rintro w7 ⟨⟨w8, hb7⟩, h9⟩
        obtain rfl : w7 = w8 := h9
        clear CN CA g0 g1 g2 g3 g4 g5 g6 g7 g8 e0 e1 e2 ne1 kb2
        have HB7 : Hid (Below w9.heap.size w9 w7) := HWr.out.trans (hb7.mono HWr.out.size)
        have hjb : j < 4398046511104 := by have := HNB.out.1; omega
        go_wp2_with fail
        go_roundw
        case rel => exact ⟨j + 1, by omega, by go_num, HB7.out⟩
        case measure => simp [intOf]; omega
  · have kA0 := HAw5p.out.k.cell (i := 0) rfl
    have kA1 := HAw5p.out.k.cell (i := 1) rfl
    have kA2 := HAw5p.out.k.cell (i := 2) rfl
    have CC : Hid (Calls _ _ _ _ _) := rcheck_any a _ _ _ (w5.alloc (.cells #[.slice px0 nx0 cx0, .slice px1 nx1 cx1, .slice px2 nx2 cx2] 25)) HAw5p.out.r
    go_wp2_with fail
    clear kA0 kA1 kA2
    generalize (w5.alloc (.cells #[.slice px0 nx0 cx0, .slice px1 nx1 cx1, .slice px2 nx2 cx2] 25)) = w6 at *
    refine CC.out.mono ?_
    rintro e w7 ⟨rfl, hb9⟩
    clear CC
    have HEw7 : Hid (Below w.heap.size w w7) := HEw5p.out.trans ((hb9).mono HEw5p.out.size)
    have HAw7 : Hid (Bx17 w7 w.heap.size pa0 pa1 pa2 na0 na1 na2 ca0 ca1 ca2 a) := HAw5p.out.on (hb9)
    have HBw7 : Hid (Bx17 w7 (w.heap.size + 1) pb0 pb1 pb2 nb0 nb1 nb2 cb0 cb1 cb2 b) := HBw5p.out.on (hb9)
    have HCw7 : Hid (Bx17 w7 (w.heap.size + 1 + 1) pc0 pc1 pc2 nc0 nc1 nc2 cc0 cc1 cc2 c) := HCw5p.out.on (hb9)
    have HNw7 : Hid (Bx17 w7 w5.heap.size px0 px1 px2 nx0 nx1 nx2 cx0 cx1 cx2 g) := HNw5p.out.on (hb9)
    clear HEw5p HAw5p HBw5p HCw5p HNw5p
    clear hb9
    have CW : Hid (Calls _ _ _ _ _) := awake_any w7
    go_wp2_with fail
    refine CW.out.mono ?_
    rintro e wz ⟨rfl, hbz⟩
    have HEz : Hid (Below w.heap.size w wz) := HEw7.out.trans (hbz.mono HEw7.out.size)
    clear CW hbz
    go_wp2_with fail
    go_ret
    exact ⟨rfl, HEz.out⟩
end Go.Proofs.Ytjeidpgkgjljcaa
