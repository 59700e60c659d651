/- The law of SetsOwn. -/
import Derived.Test.YtiiladcihheogaaGreatWMg
import Derived.Test.YtiiladcihheogaaGreatWRc
import Derived.Deep.Cut
import Derived.Deep.CutRange
namespace Go.Proofs.YtiiladcihheogaaGreat
open Go.RowKit
set_option maxRecDepth 100000

/-- a row of one's own that may be written over -/
def RwX (w : World) (B : Nat) (v : Value) (T : TypeId) (sz : Nat) : Prop := (∃ c, v = .slice none 0 c) ∨ ∃ g n cap cur, v = .slice (some ⟨g, 0, none⟩) n cap ∧ B ≤ g ∧ w.heap[g]? = some (.cells cur T (0, 0)) ∧ n * sz ≤ cur.size ∧ n ≤ 9223372036854775807
theorem RwX.of {w : World} {B C : Nat} {e : TypeId} {sz : Nat} {v : Value} {n : Nat} {xs : List Value} (h : w.ownsRow C e sz v n xs) (hB : B ≤ C) : RwX w B v e sz := by
  rcases h.2 with ⟨rfl, _⟩ | ⟨g, cap, cur, rfl, hg, hgb, hn, hc, hs, _⟩
  · exact .inl ⟨0, rfl⟩
  · exact .inr ⟨g, n, cap, cur, rfl, by omega, hgb, by rw [hs]; exact Nat.mul_le_mul_right _ hn, by unfold maxLen at hc; omega⟩
theorem RwX.on {w w' : World} {B : Nat} {v : Value} {T : TypeId} {sz : Nat} (h : RwX w B v T sz) (hb : Below w.heap.size w w') : RwX w' B v T sz := by
  rcases h with h | ⟨g, n, cap, cur, e, hg, hgb, r⟩
  · exact .inl h
  · exact .inr ⟨g, n, cap, cur, e, hg, (hb.block g (Array.getElem?_eq_some_iff.1 hgb).1).trans hgb, r⟩
theorem RwX.set {w : World} {B : Nat} {v : Value} {T : TypeId} {sz : Nat} (h : RwX w B v T sz) (k o : Nat) (u : Value) : RwX (w.setCell ⟨k, o, none⟩ u) B v T sz := by
  rcases h with h | ⟨g, n, cap, cur, e, hg, hgb, hs, hn⟩
  · exact .inl h
  · by_cases hk : g = k
    · subst hk
      have h9 : Blk w g cur T := hgb
      exact .inr ⟨g, n, cap, _, e, hg, h9.set o u, by simpa using hs, hn⟩
    · have h9 : Blk w g cur T := hgb
      exact .inr ⟨g, n, cap, cur, e, hg, h9.other hk o u, hs, hn⟩
structure Sp9 (w0 : World) (B L : Nat) (V0 V1 V2 V3 V4 V5 V6 V7 V8 : Value) (wr : World) : Prop where
  b : Blk wr L #[V0, V1, V2, V3, V4, V5, V6, V7, V8] 25
  lw : Below B w0 wr
  r0 : RwX wr B V0 38 3
  r1 : RwX wr B V1 42 5
  r2 : RwX wr B V2 38 3
  r3 : RwX wr B V3 38 3
  r4 : RwX wr B V4 42 5
  r5 : RwX wr B V5 38 3
  r6 : RwX wr B V6 38 3
  r7 : RwX wr B V7 42 5
  r8 : RwX wr B V8 38 3
theorem Sp9.put {w0 wr : World} {B L : Nat} {V0 V1 V2 V3 V4 V5 V6 V7 V8 : Value} (h : Sp9 w0 B L V0 V1 V2 V3 V4 V5 V6 V7 V8 wr) (g o : Nat) (u : Value) (hg : B ≤ g) (hne : L ≠ g) : Sp9 w0 B L V0 V1 V2 V3 V4 V5 V6 V7 V8 (wr.setCell ⟨g, o, none⟩ u) :=
  ⟨h.b.other hne o u, h.lw.setCell hg _, h.r0.set _ _ _, h.r1.set _ _ _, h.r2.set _ _ _, h.r3.set _ _ _, h.r4.set _ _ _, h.r5.set _ _ _, h.r6.set _ _ _, h.r7.set _ _ _, h.r8.set _ _ _⟩
theorem norm_own (f : Ft) (va0 va1 va2 : Value) (w : World) (hf : RdF w va0 va1 va2 f) :
    Calls Tryz.prog 6 #[.agg #[va0, va1, va2]] w fun e w' => ∃ (x0 x1 x2 : Value) (g : Ft), e = .returned (.tuple #[.agg #[x0, x1, x2], .int .i64 (chkF f)]) ∧ OwnP w' w.heap.size x0 g.P ∧ OwnS w' w.heap.size x1 g.S ∧ OwnP w' w.heap.size x2 g.W ∧ Below w.heap.size w w' := by
  refine (norm_any f va0 va1 va2 w hf).mono ?_
  rintro e w' ⟨⟨h1, rfl⟩ | ⟨h1, x0, x1, x2, g, rfl, h2, h3, h4, h5⟩, hb⟩
  · exact ⟨_, _, _, ⟨[], [], []⟩, rfl, OwnP.nil _ _, OwnS.nil _ _, OwnP.nil _ _, hb⟩
  · exact ⟨x0, x1, x2, g, by rw [h1], h2, h3, h4, hb⟩

set_option maxHeartbeats 40000000 in
theorem lawOwn (a b : Ft) (va0 va1 va2 vb0 vb1 vb2 : Value) (w : World) (ha : RdF w va0 va1 va2 a) (hb : RdF w vb0 vb1 vb2 b) :
    Calls Tryz.prog 5 #[.agg #[va0, va1, va2], .agg #[vb0, vb1, vb2]] w fun e w' => e = .returned (.bool true) ∧ Below w.heap.size w w' := by
  obtain ⟨pa0, na0, ca0, eva0⟩ : ∃ p n c, va0 = .slice p n c := by
    obtain ⟨p, c, e, _⟩ := ha.p.f
    exact ⟨_, _, _, e⟩
  obtain ⟨pa1, na1, ca1, eva1⟩ : ∃ p n c, va1 = .slice p n c := by
    obtain ⟨p, c, e, _⟩ := ha.s.f
    exact ⟨_, _, _, e⟩
  obtain ⟨pa2, na2, ca2, eva2⟩ : ∃ p n c, va2 = .slice p n c := by
    obtain ⟨p, c, e, _⟩ := ha.w.f
    exact ⟨_, _, _, e⟩
  obtain ⟨pb0, nb0, cb0, evb0⟩ : ∃ p n c, vb0 = .slice p n c := by
    obtain ⟨p, c, e, _⟩ := hb.p.f
    exact ⟨_, _, _, e⟩
  obtain ⟨pb1, nb1, cb1, evb1⟩ : ∃ p n c, vb1 = .slice p n c := by
    obtain ⟨p, c, e, _⟩ := hb.s.f
    exact ⟨_, _, _, e⟩
  obtain ⟨pb2, nb2, cb2, evb2⟩ : ∃ p n c, vb2 = .slice p n c := by
    obtain ⟨p, c, e, _⟩ := hb.w.f
    exact ⟨_, _, _, e⟩
  subst eva0 eva1 eva2 evb0 evb1 evb2
  have hal : Below w.heap.size w ((w.alloc (.cells #[.slice pa0 na0 ca0, .slice pa1 na1 ca1, .slice pa2 na2 ca2] 25)).alloc (.cells #[.slice pb0 nb0 cb0, .slice pb1 nb1 cb1, .slice pb2 nb2 cb2] 25)) := ((Below.refl _ _).alloc (Nat.le_refl _) _).alloc (by simp) _
  have HX : Hid (Blk ((w.alloc (.cells #[.slice pa0 na0 ca0, .slice pa1 na1 ca1, .slice pa2 na2 ca2] 25)).alloc (.cells #[.slice pb0 nb0 cb0, .slice pb1 nb1 cb1, .slice pb2 nb2 cb2] 25)) w.heap.size #[.slice pa0 na0 ca0, .slice pa1 na1 ca1, .slice pa2 na2 ca2] 25 ∧ Blk ((w.alloc (.cells #[.slice pa0 na0 ca0, .slice pa1 na1 ca1, .slice pa2 na2 ca2] 25)).alloc (.cells #[.slice pb0 nb0 cb0, .slice pb1 nb1 cb1, .slice pb2 nb2 cb2] 25)) (w.heap.size + 1) #[.slice pb0 nb0 cb0, .slice pb1 nb1 cb1, .slice pb2 nb2 cb2] 25) := ⟨(Blk.new w #[.slice pa0 na0 ca0, .slice pa1 na1 ca1, .slice pa2 na2 ca2] 25).keep (B := w.heap.size + 1) ((Below.refl _ _).alloc (by simp) _) (by omega), by
    have h := Blk.new (w.alloc (.cells #[.slice pa0 na0 ca0, .slice pa1 na1 ca1, .slice pa2 na2 ca2] 25)) #[.slice pb0 nb0 cb0, .slice pb1 nb1 cb1, .slice pb2 nb2 cb2] 25
    rw [World.size_alloc] at h
    exact h⟩
  have HRd : Hid (RdF ((w.alloc (.cells #[.slice pa0 na0 ca0, .slice pa1 na1 ca1, .slice pa2 na2 ca2] 25)).alloc (.cells #[.slice pb0 nb0 cb0, .slice pb1 nb1 cb1, .slice pb2 nb2 cb2] 25)) _ _ _ a ∧ RdF ((w.alloc (.cells #[.slice pa0 na0 ca0, .slice pa1 na1 ca1, .slice pa2 na2 ca2] 25)).alloc (.cells #[.slice pb0 nb0 cb0, .slice pb1 nb1 cb1, .slice pb2 nb2 cb2] 25)) _ _ _ b) := ⟨ha.on hal, hb.on hal⟩
  have HE : Hid (Below w.heap.size w ((w.alloc (.cells #[.slice pa0 na0 ca0, .slice pa1 na1 ca1, .slice pa2 na2 ca2] 25)).alloc (.cells #[.slice pb0 nb0 cb0, .slice pb1 nb1 cb1, .slice pb2 nb2 cb2] 25))) := hal
  clear ha hb hal
  go_enter Tryz.func5, Tryz.ntmps5
  go_upto_region 1 with fail
  generalize ((w.alloc (.cells #[.slice pa0 na0 ca0, .slice pa1 na1 ca1, .slice pa2 na2 ca2] 25)).alloc (.cells #[.slice pb0 nb0 cb0, .slice pb1 nb1 cb1, .slice pb2 nb2 cb2] 25)) = wB at *
  go_cut [5, 6] from 18 to 21 (fun p5 p6 wx => ∃ (βa βb : Nat) (qa0 qa1 qa2 qb0 qb1 qb2 : Option Addr) (ma0 ma1 ma2 mb0 mb1 mb2 da0 da1 da2 db0 db1 db2 : Nat), p5 = .pointer (some ⟨βa, 0, none⟩) ∧ p6 = .pointer (some ⟨βb, 0, none⟩) ∧ Hid (Blk wx βa #[.slice qa0 ma0 da0, .slice qa1 ma1 da1, .slice qa2 ma2 da2] 25 ∧ Blk wx βb #[.slice qb0 mb0 db0, .slice qb1 mb1 db1, .slice qb2 mb2 db2] 25 ∧ Below wB.heap.size wB wx ∧ RdF wx (.slice qa0 ma0 da0) (.slice qa1 ma1 da1) (.slice qa2 ma2 da2) a ∧ RdF wx (.slice qb0 mb0 db0) (.slice qb1 mb1 db1) (.slice qb2 mb2 db2) b))
  case first =>
    refine wp_region_L (fun w' => Below wB.heap.size wB w') 8 (by kernel_rfl) ?_
    have HBwd : Hid (Below wB.heap.size wB wB.drew) := (Below.refl _ _).drew
    generalize wB.drew = wd at *
    refine wpL_take (v := ?_) 0 rfl (by kernel_rfl) (fun _ _ _ h => h) (by rfl) ?_ HBwd.out ?_
    rotate_left
    focus
      intro w9 hw9
      have k0 := (HX.out.1.on hw9).cell (i := 0) rfl
      have k1 := (HX.out.1.on hw9).cell (i := 1) rfl
      have k2 := (HX.out.1.on hw9).cell (i := 2) rfl
      have k3 := (HX.out.2.on hw9).cell (i := 0) rfl
      have k4 := (HX.out.2.on hw9).cell (i := 1) rfl
      have k5 := (HX.out.2.on hw9).cell (i := 2) rfl
      go_simp
      try with_reducible rfl
    try simp only [Act.put, List.setIfInBounds_toArray, List.set_cons_zero, List.set_cons_succ]
    refine wpL_take (v := ?_) 2 rfl (by kernel_rfl) (fun _ _ _ h => h) (by rfl) ?_ HBwd.out ?_
    rotate_left
    focus
      intro w9 hw9
      have k0 := (HX.out.1.on hw9).cell (i := 0) rfl
      have k1 := (HX.out.1.on hw9).cell (i := 1) rfl
      have k2 := (HX.out.1.on hw9).cell (i := 2) rfl
      have k3 := (HX.out.2.on hw9).cell (i := 0) rfl
      have k4 := (HX.out.2.on hw9).cell (i := 1) rfl
      have k5 := (HX.out.2.on hw9).cell (i := 2) rfl
      go_simp
      try with_reducible rfl
    try simp only [Act.put, List.setIfInBounds_toArray, List.set_cons_zero, List.set_cons_succ]
    refine wpL_three17 1 4 5 rfl rfl rfl (by kernel_rfl) (by rfl) (by rfl) (by rfl) ?_ ?_ ?_
    · intro K hK
      go_simp
      have CPwu1 : Hid (Calls _ _ _ _ _) := rcopyF a _ _ _ wd (HRd.out.1.on HBwd.out)
      refine CPwu1.out.mono ?_
      rintro e wu1 ⟨y0, y1, y2, rfl, hrwu1, hbwu1⟩
      dsimp only
      obtain ⟨qa0, ma0, da0, ey0⟩ : ∃ p n c, y0 = .slice p n c := by
        obtain ⟨p, c, e, _⟩ := hrwu1.p.f
        exact ⟨_, _, _, e⟩
      obtain ⟨qa1, ma1, da1, ey1⟩ : ∃ p n c, y1 = .slice p n c := by
        obtain ⟨p, c, e, _⟩ := hrwu1.s.f
        exact ⟨_, _, _, e⟩
      obtain ⟨qa2, ma2, da2, ey2⟩ : ∃ p n c, y2 = .slice p n c := by
        obtain ⟨p, c, e, _⟩ := hrwu1.w.f
        exact ⟨_, _, _, e⟩
      subst ey0 ey1 ey2
      have HBwu1 : Hid (Below wB.heap.size wB wu1) := HBwd.out.trans ((hbwu1).mono HBwd.out.size)
      have Cawu1 : Hid (RdF wu1 (.slice qa0 ma0 da0) (.slice qa1 ma1 da1) (.slice qa2 ma2 da2) a) := hrwu1
      clear CPwu1 hrwu1 hbwu1
      clear HBwd
      refine hK.out _ _ (fun _ => HBwu1.out) ?_
      clear hK K
      try simp only [Act.put, List.setIfInBounds_toArray, List.set_cons_zero, List.set_cons_succ]
      refine wpL_three17 3 4 5 rfl rfl rfl (by kernel_rfl) (by rfl) (by rfl) (by rfl) ?_ ?_ ?_
      · intro K hK
        go_simp
        have CPwu2 : Hid (Calls _ _ _ _ _) := rcopyF b _ _ _ wu1 (HRd.out.2.on HBwu1.out)
        refine CPwu2.out.mono ?_
        rintro e wu2 ⟨y0, y1, y2, rfl, hrwu2, hbwu2⟩
        dsimp only
        obtain ⟨qb0, mb0, db0, ey0⟩ : ∃ p n c, y0 = .slice p n c := by
          obtain ⟨p, c, e, _⟩ := hrwu2.p.f
          exact ⟨_, _, _, e⟩
        obtain ⟨qb1, mb1, db1, ey1⟩ : ∃ p n c, y1 = .slice p n c := by
          obtain ⟨p, c, e, _⟩ := hrwu2.s.f
          exact ⟨_, _, _, e⟩
        obtain ⟨qb2, mb2, db2, ey2⟩ : ∃ p n c, y2 = .slice p n c := by
          obtain ⟨p, c, e, _⟩ := hrwu2.w.f
          exact ⟨_, _, _, e⟩
        subst ey0 ey1 ey2
        have HBwu2 : Hid (Below wB.heap.size wB wu2) := HBwu1.out.trans ((hbwu2).mono HBwu1.out.size)
        have Cawu2 : Hid (RdF wu2 (.slice qa0 ma0 da0) (.slice qa1 ma1 da1) (.slice qa2 ma2 da2) a) := Cawu1.out.on (hbwu2)
        have Cbwu2 : Hid (RdF wu2 (.slice qb0 mb0 db0) (.slice qb1 mb1 db1) (.slice qb2 mb2 db2) b) := hrwu2
        clear CPwu2 hrwu2 hbwu2
        clear HBwu1 Cawu1
        refine hK.out _ _ (fun _ => HBwu2.out) ?_
        clear hK K
        try simp only [Act.put, List.setIfInBounds_toArray, List.set_cons_zero, List.set_cons_succ]
        refine wpL_two17 4 5 rfl rfl (by kernel_rfl) (by rfl) (by rfl) ?_ ?_
        · intro K hK
          go_simp
          have hbwu3 : Below wu2.heap.size wu2 (wu2.alloc (.cells #[.slice none 0 0, .slice none 0 0, .slice none 0 0] 25)) := (Below.refl _ _).alloc (Nat.le_refl _) _
          have hzwu3 : Blk (wu2.alloc (.cells #[.slice none 0 0, .slice none 0 0, .slice none 0 0] 25)) wu2.heap.size #[.slice none 0 0, .slice none 0 0, .slice none 0 0] 25 := Blk.new wu2 _ _
          generalize (wu2.alloc (.cells #[.slice none 0 0, .slice none 0 0, .slice none 0 0] 25)) = wu3 at *
          have HLa : Hid (wB.heap.size ≤ wu2.heap.size) := HBwu2.out.size
          have HBwu3 : Hid (Below wB.heap.size wB wu3) := HBwu2.out.trans ((hbwu3).mono HBwu2.out.size)
          have Cawu3 : Hid (RdF wu3 (.slice qa0 ma0 da0) (.slice qa1 ma1 da1) (.slice qa2 ma2 da2) a) := Cawu2.out.on (hbwu3)
          have Cbwu3 : Hid (RdF wu3 (.slice qb0 mb0 db0) (.slice qb1 mb1 db1) (.slice qb2 mb2 db2) b) := Cbwu2.out.on (hbwu3)
          have Zawu3 : Hid (Blk wu3 wu2.heap.size #[.slice none 0 0, .slice none 0 0, .slice none 0 0] 25) := hzwu3
          clear hbwu3 hzwu3
          clear HBwu2 Cawu2 Cbwu2
          refine hK.out _ _ (fun _ => HBwu3.out) ?_
          clear hK K
          try simp only [Act.put, List.setIfInBounds_toArray, List.set_cons_zero, List.set_cons_succ]
          refine wpL_one 5 rfl (by kernel_rfl) (by rfl) ?_
          intro K hK
          go_simp
          have hbwu4 : Below wu3.heap.size wu3 (wu3.alloc (.cells #[.slice none 0 0, .slice none 0 0, .slice none 0 0] 25)) := (Below.refl _ _).alloc (Nat.le_refl _) _
          have hzwu4 : Blk (wu3.alloc (.cells #[.slice none 0 0, .slice none 0 0, .slice none 0 0] 25)) wu3.heap.size #[.slice none 0 0, .slice none 0 0, .slice none 0 0] 25 := Blk.new wu3 _ _
          generalize (wu3.alloc (.cells #[.slice none 0 0, .slice none 0 0, .slice none 0 0] 25)) = wu4 at *
          have HNe : Hid (wu2.heap.size < wu3.heap.size) := Zawu3.out.lt
          have HLb : Hid (wB.heap.size ≤ wu3.heap.size) := HBwu3.out.size
          have HBwu4 : Hid (Below wB.heap.size wB wu4) := HBwu3.out.trans ((hbwu4).mono HBwu3.out.size)
          have Cawu4 : Hid (RdF wu4 (.slice qa0 ma0 da0) (.slice qa1 ma1 da1) (.slice qa2 ma2 da2) a) := Cawu3.out.on (hbwu4)
          have Cbwu4 : Hid (RdF wu4 (.slice qb0 mb0 db0) (.slice qb1 mb1 db1) (.slice qb2 mb2 db2) b) := Cbwu3.out.on (hbwu4)
          have Zawu4 : Hid (Blk wu4 wu2.heap.size #[.slice none 0 0, .slice none 0 0, .slice none 0 0] 25) := Zawu3.out.on (hbwu4)
          have Zbwu4 : Hid (Blk wu4 wu3.heap.size #[.slice none 0 0, .slice none 0 0, .slice none 0 0] 25) := hzwu4
          clear hbwu4 hzwu4
          clear HBwu3 Cawu3 Cbwu3 Zawu3
          refine hK.out _ _ (fun _ => HBwu4.out) ?_
          clear hK K
          try simp only [Act.put, List.setIfInBounds_toArray, List.set_cons_zero, List.set_cons_succ]
          refine wpL_one 6 rfl (by kernel_rfl) (by rfl) ?_
          intro K hK
          have zz0 := Zawu4.out.cell (i := 0) rfl
          have zz1 := Zawu4.out.cell (i := 1) rfl
          have zz2 := Zawu4.out.cell (i := 2) rfl
          have f0 := Zawu4.out.frozen 0
          have f1 := Zawu4.out.frozen 1
          have f2 := Zawu4.out.frozen 2
          have hF : Frm wu4 (((wu4.setCell ⟨wu2.heap.size, 0, none⟩ (.slice qa0 ma0 da0)).setCell ⟨wu2.heap.size, 1, none⟩ (.slice qa1 ma1 da1)).setCell ⟨wu2.heap.size, 2, none⟩ (.slice qa2 ma2 da2)) (fun k => k = wu2.heap.size) := ((frm_set _ _ _ _ (F := fun k => k = wu2.heap.size) (.inl rfl)).trans (frm_set _ _ _ _ (F := fun k => k = wu2.heap.size) (.inl rfl)) (fun k hk => .inl hk)).trans (frm_set _ _ _ _ (F := fun k => k = wu2.heap.size) (.inl rfl)) (fun k hk => .inl hk)
          have HBwu5 : Hid (Below wB.heap.size wB (((wu4.setCell ⟨wu2.heap.size, 0, none⟩ (.slice qa0 ma0 da0)).setCell ⟨wu2.heap.size, 1, none⟩ (.slice qa1 ma1 da1)).setCell ⟨wu2.heap.size, 2, none⟩ (.slice qa2 ma2 da2))) := HBwu4.out.trans (hF.below HBwu4.out.size (fun k hk => by have := HLa.out; omega))
          have Zawu5 : Hid (Blk (((wu4.setCell ⟨wu2.heap.size, 0, none⟩ (.slice qa0 ma0 da0)).setCell ⟨wu2.heap.size, 1, none⟩ (.slice qa1 ma1 da1)).setCell ⟨wu2.heap.size, 2, none⟩ (.slice qa2 ma2 da2)) (wu2.heap.size) #[.slice qa0 ma0 da0, .slice qa1 ma1 da1, .slice qa2 ma2 da2] 25) := ((Zawu4.out.set 0 _).set 1 _).set 2 _
          have Zbwu5 : Hid (Blk (((wu4.setCell ⟨wu2.heap.size, 0, none⟩ (.slice qa0 ma0 da0)).setCell ⟨wu2.heap.size, 1, none⟩ (.slice qa1 ma1 da1)).setCell ⟨wu2.heap.size, 2, none⟩ (.slice qa2 ma2 da2)) wu3.heap.size #[.slice none 0 0, .slice none 0 0, .slice none 0 0] 25) := Zbwu4.out.frm hF (by have := HNe.out; omega)
          have Cawu5 : Hid (RdF (((wu4.setCell ⟨wu2.heap.size, 0, none⟩ (.slice qa0 ma0 da0)).setCell ⟨wu2.heap.size, 1, none⟩ (.slice qa1 ma1 da1)).setCell ⟨wu2.heap.size, 2, none⟩ (.slice qa2 ma2 da2)) (.slice qa0 ma0 da0) (.slice qa1 ma1 da1) (.slice qa2 ma2 da2) a) := Cawu4.out.frm1 hF Zawu4.out (slices3 _ _ _ _ _ _ _ _ _)
          have Cbwu5 : Hid (RdF (((wu4.setCell ⟨wu2.heap.size, 0, none⟩ (.slice qa0 ma0 da0)).setCell ⟨wu2.heap.size, 1, none⟩ (.slice qa1 ma1 da1)).setCell ⟨wu2.heap.size, 2, none⟩ (.slice qa2 ma2 da2)) (.slice qb0 mb0 db0) (.slice qb1 mb1 db1) (.slice qb2 mb2 db2) b) := Cbwu4.out.frm1 hF Zawu4.out (slices3 _ _ _ _ _ _ _ _ _)
          clear hF
          go_simp
          refine hK.out _ _ (fun _ => HBwu5.out) ?_
          clear hK K zz0 zz1 zz2 f0 f1 f2 HBwu4 Zawu4 Zbwu4 Cawu4 Cbwu4
          generalize ((wu4.setCell ⟨wu2.heap.size, 0, none⟩ (.slice qa0 ma0 da0)).setCell ⟨wu2.heap.size, 1, none⟩ (.slice qa1 ma1 da1)).setCell ⟨wu2.heap.size, 2, none⟩ (.slice qa2 ma2 da2) = wu5 at *
          try simp only [Act.put, List.setIfInBounds_toArray, List.set_cons_zero, List.set_cons_succ]
          refine wpL_one 7 rfl (by kernel_rfl) (by rfl) ?_
          intro K hK
          have zz0 := Zbwu5.out.cell (i := 0) rfl
          have zz1 := Zbwu5.out.cell (i := 1) rfl
          have zz2 := Zbwu5.out.cell (i := 2) rfl
          have f0 := Zbwu5.out.frozen 0
          have f1 := Zbwu5.out.frozen 1
          have f2 := Zbwu5.out.frozen 2
          have hF : Frm wu5 (((wu5.setCell ⟨wu3.heap.size, 0, none⟩ (.slice qb0 mb0 db0)).setCell ⟨wu3.heap.size, 1, none⟩ (.slice qb1 mb1 db1)).setCell ⟨wu3.heap.size, 2, none⟩ (.slice qb2 mb2 db2)) (fun k => k = wu3.heap.size) := ((frm_set _ _ _ _ (F := fun k => k = wu3.heap.size) (.inl rfl)).trans (frm_set _ _ _ _ (F := fun k => k = wu3.heap.size) (.inl rfl)) (fun k hk => .inl hk)).trans (frm_set _ _ _ _ (F := fun k => k = wu3.heap.size) (.inl rfl)) (fun k hk => .inl hk)
          have HBwu6 : Hid (Below wB.heap.size wB (((wu5.setCell ⟨wu3.heap.size, 0, none⟩ (.slice qb0 mb0 db0)).setCell ⟨wu3.heap.size, 1, none⟩ (.slice qb1 mb1 db1)).setCell ⟨wu3.heap.size, 2, none⟩ (.slice qb2 mb2 db2))) := HBwu5.out.trans (hF.below HBwu5.out.size (fun k hk => by have := HLb.out; omega))
          have Zbwu6 : Hid (Blk (((wu5.setCell ⟨wu3.heap.size, 0, none⟩ (.slice qb0 mb0 db0)).setCell ⟨wu3.heap.size, 1, none⟩ (.slice qb1 mb1 db1)).setCell ⟨wu3.heap.size, 2, none⟩ (.slice qb2 mb2 db2)) (wu3.heap.size) #[.slice qb0 mb0 db0, .slice qb1 mb1 db1, .slice qb2 mb2 db2] 25) := ((Zbwu5.out.set 0 _).set 1 _).set 2 _
          have Zawu6 : Hid (Blk (((wu5.setCell ⟨wu3.heap.size, 0, none⟩ (.slice qb0 mb0 db0)).setCell ⟨wu3.heap.size, 1, none⟩ (.slice qb1 mb1 db1)).setCell ⟨wu3.heap.size, 2, none⟩ (.slice qb2 mb2 db2)) (wu2.heap.size) #[.slice qa0 ma0 da0, .slice qa1 ma1 da1, .slice qa2 ma2 da2] 25) := Zawu5.out.frm hF (by have := HNe.out; omega)
          have Cawu6 : Hid (RdF (((wu5.setCell ⟨wu3.heap.size, 0, none⟩ (.slice qb0 mb0 db0)).setCell ⟨wu3.heap.size, 1, none⟩ (.slice qb1 mb1 db1)).setCell ⟨wu3.heap.size, 2, none⟩ (.slice qb2 mb2 db2)) (.slice qa0 ma0 da0) (.slice qa1 ma1 da1) (.slice qa2 ma2 da2) a) := Cawu5.out.frm1 hF Zbwu5.out (slices3 _ _ _ _ _ _ _ _ _)
          have Cbwu6 : Hid (RdF (((wu5.setCell ⟨wu3.heap.size, 0, none⟩ (.slice qb0 mb0 db0)).setCell ⟨wu3.heap.size, 1, none⟩ (.slice qb1 mb1 db1)).setCell ⟨wu3.heap.size, 2, none⟩ (.slice qb2 mb2 db2)) (.slice qb0 mb0 db0) (.slice qb1 mb1 db1) (.slice qb2 mb2 db2) b) := Cbwu5.out.frm1 hF Zbwu5.out (slices3 _ _ _ _ _ _ _ _ _)
          clear hF
          go_simp
          refine hK.out _ _ (fun _ => HBwu6.out) ?_
          clear hK K zz0 zz1 zz2 f0 f1 f2 HBwu5 Zbwu5 Zawu5 Cawu5 Cbwu5
          generalize ((wu5.setCell ⟨wu3.heap.size, 0, none⟩ (.slice qb0 mb0 db0)).setCell ⟨wu3.heap.size, 1, none⟩ (.slice qb1 mb1 db1)).setCell ⟨wu3.heap.size, 2, none⟩ (.slice qb2 mb2 db2) = wu6 at *
          try simp only [Act.put, List.setIfInBounds_toArray, List.set_cons_zero, List.set_cons_succ]
          refine wpL_done (by kernel_rfl) ?_ _
          try simp only [NoPanic]
          go_wp2_with fail
          go_meet
          exact ⟨_, _, _, _, _, _, _, _, _, _, _, _, _, _, _, _, _, _, _, _, rfl, rfl, ⟨Zawu6.out, Zbwu6.out, HBwu6.out, Cawu6.out, Cbwu6.out⟩⟩
        · intro K hK
          go_simp
          have hbwu7 : Below wu2.heap.size wu2 (wu2.alloc (.cells #[.slice none 0 0, .slice none 0 0, .slice none 0 0] 25)) := (Below.refl _ _).alloc (Nat.le_refl _) _
          have hzwu7 : Blk (wu2.alloc (.cells #[.slice none 0 0, .slice none 0 0, .slice none 0 0] 25)) wu2.heap.size #[.slice none 0 0, .slice none 0 0, .slice none 0 0] 25 := Blk.new wu2 _ _
          generalize (wu2.alloc (.cells #[.slice none 0 0, .slice none 0 0, .slice none 0 0] 25)) = wu7 at *
          have HLb : Hid (wB.heap.size ≤ wu2.heap.size) := HBwu2.out.size
          have HBwu7 : Hid (Below wB.heap.size wB wu7) := HBwu2.out.trans ((hbwu7).mono HBwu2.out.size)
          have Cawu7 : Hid (RdF wu7 (.slice qa0 ma0 da0) (.slice qa1 ma1 da1) (.slice qa2 ma2 da2) a) := Cawu2.out.on (hbwu7)
          have Cbwu7 : Hid (RdF wu7 (.slice qb0 mb0 db0) (.slice qb1 mb1 db1) (.slice qb2 mb2 db2) b) := Cbwu2.out.on (hbwu7)
          have Zbwu7 : Hid (Blk wu7 wu2.heap.size #[.slice none 0 0, .slice none 0 0, .slice none 0 0] 25) := hzwu7
          clear hbwu7 hzwu7
          clear HBwu2 Cawu2 Cbwu2
          refine hK.out _ _ (fun _ => HBwu7.out) ?_
          clear hK K
          try simp only [Act.put, List.setIfInBounds_toArray, List.set_cons_zero, List.set_cons_succ]
          refine wpL_one 4 rfl (by kernel_rfl) (by rfl) ?_
          intro K hK
          go_simp
          have hbwu8 : Below wu7.heap.size wu7 (wu7.alloc (.cells #[.slice none 0 0, .slice none 0 0, .slice none 0 0] 25)) := (Below.refl _ _).alloc (Nat.le_refl _) _
          have hzwu8 : Blk (wu7.alloc (.cells #[.slice none 0 0, .slice none 0 0, .slice none 0 0] 25)) wu7.heap.size #[.slice none 0 0, .slice none 0 0, .slice none 0 0] 25 := Blk.new wu7 _ _
          generalize (wu7.alloc (.cells #[.slice none 0 0, .slice none 0 0, .slice none 0 0] 25)) = wu8 at *
          have HNe : Hid (wu2.heap.size < wu7.heap.size) := Zbwu7.out.lt
          have HLa : Hid (wB.heap.size ≤ wu7.heap.size) := HBwu7.out.size
          have HBwu8 : Hid (Below wB.heap.size wB wu8) := HBwu7.out.trans ((hbwu8).mono HBwu7.out.size)
          have Cawu8 : Hid (RdF wu8 (.slice qa0 ma0 da0) (.slice qa1 ma1 da1) (.slice qa2 ma2 da2) a) := Cawu7.out.on (hbwu8)
          have Cbwu8 : Hid (RdF wu8 (.slice qb0 mb0 db0) (.slice qb1 mb1 db1) (.slice qb2 mb2 db2) b) := Cbwu7.out.on (hbwu8)
          have Zbwu8 : Hid (Blk wu8 wu2.heap.size #[.slice none 0 0, .slice none 0 0, .slice none 0 0] 25) := Zbwu7.out.on (hbwu8)
          have Zawu8 : Hid (Blk wu8 wu7.heap.size #[.slice none 0 0, .slice none 0 0, .slice none 0 0] 25) := hzwu8
          clear hbwu8 hzwu8
          clear HBwu7 Cawu7 Cbwu7 Zbwu7
          refine hK.out _ _ (fun _ => HBwu8.out) ?_
          clear hK K
          try simp only [Act.put, List.setIfInBounds_toArray, List.set_cons_zero, List.set_cons_succ]
          refine wpL_one 6 rfl (by kernel_rfl) (by rfl) ?_
          intro K hK
          have zz0 := Zawu8.out.cell (i := 0) rfl
          have zz1 := Zawu8.out.cell (i := 1) rfl
          have zz2 := Zawu8.out.cell (i := 2) rfl
          have f0 := Zawu8.out.frozen 0
          have f1 := Zawu8.out.frozen 1
          have f2 := Zawu8.out.frozen 2
          have hF : Frm wu8 (((wu8.setCell ⟨wu7.heap.size, 0, none⟩ (.slice qa0 ma0 da0)).setCell ⟨wu7.heap.size, 1, none⟩ (.slice qa1 ma1 da1)).setCell ⟨wu7.heap.size, 2, none⟩ (.slice qa2 ma2 da2)) (fun k => k = wu7.heap.size) := ((frm_set _ _ _ _ (F := fun k => k = wu7.heap.size) (.inl rfl)).trans (frm_set _ _ _ _ (F := fun k => k = wu7.heap.size) (.inl rfl)) (fun k hk => .inl hk)).trans (frm_set _ _ _ _ (F := fun k => k = wu7.heap.size) (.inl rfl)) (fun k hk => .inl hk)
          have HBwu9 : Hid (Below wB.heap.size wB (((wu8.setCell ⟨wu7.heap.size, 0, none⟩ (.slice qa0 ma0 da0)).setCell ⟨wu7.heap.size, 1, none⟩ (.slice qa1 ma1 da1)).setCell ⟨wu7.heap.size, 2, none⟩ (.slice qa2 ma2 da2))) := HBwu8.out.trans (hF.below HBwu8.out.size (fun k hk => by have := HLa.out; omega))
          have Zawu9 : Hid (Blk (((wu8.setCell ⟨wu7.heap.size, 0, none⟩ (.slice qa0 ma0 da0)).setCell ⟨wu7.heap.size, 1, none⟩ (.slice qa1 ma1 da1)).setCell ⟨wu7.heap.size, 2, none⟩ (.slice qa2 ma2 da2)) (wu7.heap.size) #[.slice qa0 ma0 da0, .slice qa1 ma1 da1, .slice qa2 ma2 da2] 25) := ((Zawu8.out.set 0 _).set 1 _).set 2 _
          have Zbwu9 : Hid (Blk (((wu8.setCell ⟨wu7.heap.size, 0, none⟩ (.slice qa0 ma0 da0)).setCell ⟨wu7.heap.size, 1, none⟩ (.slice qa1 ma1 da1)).setCell ⟨wu7.heap.size, 2, none⟩ (.slice qa2 ma2 da2)) wu2.heap.size #[.slice none 0 0, .slice none 0 0, .slice none 0 0] 25) := Zbwu8.out.frm hF (by have := HNe.out; omega)
          have Cawu9 : Hid (RdF (((wu8.setCell ⟨wu7.heap.size, 0, none⟩ (.slice qa0 ma0 da0)).setCell ⟨wu7.heap.size, 1, none⟩ (.slice qa1 ma1 da1)).setCell ⟨wu7.heap.size, 2, none⟩ (.slice qa2 ma2 da2)) (.slice qa0 ma0 da0) (.slice qa1 ma1 da1) (.slice qa2 ma2 da2) a) := Cawu8.out.frm1 hF Zawu8.out (slices3 _ _ _ _ _ _ _ _ _)
          have Cbwu9 : Hid (RdF (((wu8.setCell ⟨wu7.heap.size, 0, none⟩ (.slice qa0 ma0 da0)).setCell ⟨wu7.heap.size, 1, none⟩ (.slice qa1 ma1 da1)).setCell ⟨wu7.heap.size, 2, none⟩ (.slice qa2 ma2 da2)) (.slice qb0 mb0 db0) (.slice qb1 mb1 db1) (.slice qb2 mb2 db2) b) := Cbwu8.out.frm1 hF Zawu8.out (slices3 _ _ _ _ _ _ _ _ _)
          clear hF
          go_simp
          refine hK.out _ _ (fun _ => HBwu9.out) ?_
          clear hK K zz0 zz1 zz2 f0 f1 f2 HBwu8 Zawu8 Zbwu8 Cawu8 Cbwu8
          generalize ((wu8.setCell ⟨wu7.heap.size, 0, none⟩ (.slice qa0 ma0 da0)).setCell ⟨wu7.heap.size, 1, none⟩ (.slice qa1 ma1 da1)).setCell ⟨wu7.heap.size, 2, none⟩ (.slice qa2 ma2 da2) = wu9 at *
          try simp only [Act.put, List.setIfInBounds_toArray, List.set_cons_zero, List.set_cons_succ]
          refine wpL_one 7 rfl (by kernel_rfl) (by rfl) ?_
          intro K hK
          have zz0 := Zbwu9.out.cell (i := 0) rfl
          have zz1 := Zbwu9.out.cell (i := 1) rfl
          have zz2 := Zbwu9.out.cell (i := 2) rfl
          have f0 := Zbwu9.out.frozen 0
          have f1 := Zbwu9.out.frozen 1
          have f2 := Zbwu9.out.frozen 2
          have hF : Frm wu9 (((wu9.setCell ⟨wu2.heap.size, 0, none⟩ (.slice qb0 mb0 db0)).setCell ⟨wu2.heap.size, 1, none⟩ (.slice qb1 mb1 db1)).setCell ⟨wu2.heap.size, 2, none⟩ (.slice qb2 mb2 db2)) (fun k => k = wu2.heap.size) := ((frm_set _ _ _ _ (F := fun k => k = wu2.heap.size) (.inl rfl)).trans (frm_set _ _ _ _ (F := fun k => k = wu2.heap.size) (.inl rfl)) (fun k hk => .inl hk)).trans (frm_set _ _ _ _ (F := fun k => k = wu2.heap.size) (.inl rfl)) (fun k hk => .inl hk)
          have HBwu10 : Hid (Below wB.heap.size wB (((wu9.setCell ⟨wu2.heap.size, 0, none⟩ (.slice qb0 mb0 db0)).setCell ⟨wu2.heap.size, 1, none⟩ (.slice qb1 mb1 db1)).setCell ⟨wu2.heap.size, 2, none⟩ (.slice qb2 mb2 db2))) := HBwu9.out.trans (hF.below HBwu9.out.size (fun k hk => by have := HLb.out; omega))
          have Zbwu10 : Hid (Blk (((wu9.setCell ⟨wu2.heap.size, 0, none⟩ (.slice qb0 mb0 db0)).setCell ⟨wu2.heap.size, 1, none⟩ (.slice qb1 mb1 db1)).setCell ⟨wu2.heap.size, 2, none⟩ (.slice qb2 mb2 db2)) (wu2.heap.size) #[.slice qb0 mb0 db0, .slice qb1 mb1 db1, .slice qb2 mb2 db2] 25) := ((Zbwu9.out.set 0 _).set 1 _).set 2 _
          have Zawu10 : Hid (Blk (((wu9.setCell ⟨wu2.heap.size, 0, none⟩ (.slice qb0 mb0 db0)).setCell ⟨wu2.heap.size, 1, none⟩ (.slice qb1 mb1 db1)).setCell ⟨wu2.heap.size, 2, none⟩ (.slice qb2 mb2 db2)) (wu7.heap.size) #[.slice qa0 ma0 da0, .slice qa1 ma1 da1, .slice qa2 ma2 da2] 25) := Zawu9.out.frm hF (by have := HNe.out; omega)
          have Cawu10 : Hid (RdF (((wu9.setCell ⟨wu2.heap.size, 0, none⟩ (.slice qb0 mb0 db0)).setCell ⟨wu2.heap.size, 1, none⟩ (.slice qb1 mb1 db1)).setCell ⟨wu2.heap.size, 2, none⟩ (.slice qb2 mb2 db2)) (.slice qa0 ma0 da0) (.slice qa1 ma1 da1) (.slice qa2 ma2 da2) a) := Cawu9.out.frm1 hF Zbwu9.out (slices3 _ _ _ _ _ _ _ _ _)
          have Cbwu10 : Hid (RdF (((wu9.setCell ⟨wu2.heap.size, 0, none⟩ (.slice qb0 mb0 db0)).setCell ⟨wu2.heap.size, 1, none⟩ (.slice qb1 mb1 db1)).setCell ⟨wu2.heap.size, 2, none⟩ (.slice qb2 mb2 db2)) (.slice qb0 mb0 db0) (.slice qb1 mb1 db1) (.slice qb2 mb2 db2) b) := Cbwu9.out.frm1 hF Zbwu9.out (slices3 _ _ _ _ _ _ _ _ _)
          clear hF
          go_simp
          refine hK.out _ _ (fun _ => HBwu10.out) ?_
          clear hK K zz0 zz1 zz2 f0 f1 f2 HBwu9 Zbwu9 Zawu9 Cawu9 Cbwu9
          generalize ((wu9.setCell ⟨wu2.heap.size, 0, none⟩ (.slice qb0 mb0 db0)).setCell ⟨wu2.heap.size, 1, none⟩ (.slice qb1 mb1 db1)).setCell ⟨wu2.heap.size, 2, none⟩ (.slice qb2 mb2 db2) = wu10 at *
          try simp only [Act.put, List.setIfInBounds_toArray, List.set_cons_zero, List.set_cons_succ]
          refine wpL_done (by kernel_rfl) ?_ _
          try simp only [NoPanic]
          go_wp2_with fail
          go_meet
          exact ⟨_, _, _, _, _, _, _, _, _, _, _, _, _, _, _, _, _, _, _, _, rfl, rfl, ⟨Zawu10.out, Zbwu10.out, HBwu10.out, Cawu10.out, Cbwu10.out⟩⟩
      · intro K hK
        go_simp
        have hbwu11 : Below wu1.heap.size wu1 (wu1.alloc (.cells #[.slice none 0 0, .slice none 0 0, .slice none 0 0] 25)) := (Below.refl _ _).alloc (Nat.le_refl _) _
        have hzwu11 : Blk (wu1.alloc (.cells #[.slice none 0 0, .slice none 0 0, .slice none 0 0] 25)) wu1.heap.size #[.slice none 0 0, .slice none 0 0, .slice none 0 0] 25 := Blk.new wu1 _ _
        generalize (wu1.alloc (.cells #[.slice none 0 0, .slice none 0 0, .slice none 0 0] 25)) = wu11 at *
        have HLa : Hid (wB.heap.size ≤ wu1.heap.size) := HBwu1.out.size
        have HBwu11 : Hid (Below wB.heap.size wB wu11) := HBwu1.out.trans ((hbwu11).mono HBwu1.out.size)
        have Cawu11 : Hid (RdF wu11 (.slice qa0 ma0 da0) (.slice qa1 ma1 da1) (.slice qa2 ma2 da2) a) := Cawu1.out.on (hbwu11)
        have Zawu11 : Hid (Blk wu11 wu1.heap.size #[.slice none 0 0, .slice none 0 0, .slice none 0 0] 25) := hzwu11
        clear hbwu11 hzwu11
        clear HBwu1 Cawu1
        refine hK.out _ _ (fun _ => HBwu11.out) ?_
        clear hK K
        try simp only [Act.put, List.setIfInBounds_toArray, List.set_cons_zero, List.set_cons_succ]
        refine wpL_two17 3 5 rfl rfl (by kernel_rfl) (by rfl) (by rfl) ?_ ?_
        · intro K hK
          go_simp
          have CPwu12 : Hid (Calls _ _ _ _ _) := rcopyF b _ _ _ wu11 (HRd.out.2.on HBwu11.out)
          refine CPwu12.out.mono ?_
          rintro e wu12 ⟨y0, y1, y2, rfl, hrwu12, hbwu12⟩
          dsimp only
          obtain ⟨qb0, mb0, db0, ey0⟩ : ∃ p n c, y0 = .slice p n c := by
            obtain ⟨p, c, e, _⟩ := hrwu12.p.f
            exact ⟨_, _, _, e⟩
          obtain ⟨qb1, mb1, db1, ey1⟩ : ∃ p n c, y1 = .slice p n c := by
            obtain ⟨p, c, e, _⟩ := hrwu12.s.f
            exact ⟨_, _, _, e⟩
          obtain ⟨qb2, mb2, db2, ey2⟩ : ∃ p n c, y2 = .slice p n c := by
            obtain ⟨p, c, e, _⟩ := hrwu12.w.f
            exact ⟨_, _, _, e⟩
          subst ey0 ey1 ey2
          have HBwu12 : Hid (Below wB.heap.size wB wu12) := HBwu11.out.trans ((hbwu12).mono HBwu11.out.size)
          have Cawu12 : Hid (RdF wu12 (.slice qa0 ma0 da0) (.slice qa1 ma1 da1) (.slice qa2 ma2 da2) a) := Cawu11.out.on (hbwu12)
          have Zawu12 : Hid (Blk wu12 wu1.heap.size #[.slice none 0 0, .slice none 0 0, .slice none 0 0] 25) := Zawu11.out.on (hbwu12)
          have Cbwu12 : Hid (RdF wu12 (.slice qb0 mb0 db0) (.slice qb1 mb1 db1) (.slice qb2 mb2 db2) b) := hrwu12
          clear CPwu12 hrwu12 hbwu12
          clear HBwu11 Cawu11 Zawu11
          refine hK.out _ _ (fun _ => HBwu12.out) ?_
          clear hK K
          try simp only [Act.put, List.setIfInBounds_toArray, List.set_cons_zero, List.set_cons_succ]
          refine wpL_one 5 rfl (by kernel_rfl) (by rfl) ?_
          intro K hK
          go_simp
          have hbwu13 : Below wu12.heap.size wu12 (wu12.alloc (.cells #[.slice none 0 0, .slice none 0 0, .slice none 0 0] 25)) := (Below.refl _ _).alloc (Nat.le_refl _) _
          have hzwu13 : Blk (wu12.alloc (.cells #[.slice none 0 0, .slice none 0 0, .slice none 0 0] 25)) wu12.heap.size #[.slice none 0 0, .slice none 0 0, .slice none 0 0] 25 := Blk.new wu12 _ _
          generalize (wu12.alloc (.cells #[.slice none 0 0, .slice none 0 0, .slice none 0 0] 25)) = wu13 at *
          have HNe : Hid (wu1.heap.size < wu12.heap.size) := Zawu12.out.lt
          have HLb : Hid (wB.heap.size ≤ wu12.heap.size) := HBwu12.out.size
          have HBwu13 : Hid (Below wB.heap.size wB wu13) := HBwu12.out.trans ((hbwu13).mono HBwu12.out.size)
          have Cawu13 : Hid (RdF wu13 (.slice qa0 ma0 da0) (.slice qa1 ma1 da1) (.slice qa2 ma2 da2) a) := Cawu12.out.on (hbwu13)
          have Zawu13 : Hid (Blk wu13 wu1.heap.size #[.slice none 0 0, .slice none 0 0, .slice none 0 0] 25) := Zawu12.out.on (hbwu13)
          have Cbwu13 : Hid (RdF wu13 (.slice qb0 mb0 db0) (.slice qb1 mb1 db1) (.slice qb2 mb2 db2) b) := Cbwu12.out.on (hbwu13)
          have Zbwu13 : Hid (Blk wu13 wu12.heap.size #[.slice none 0 0, .slice none 0 0, .slice none 0 0] 25) := hzwu13
          clear hbwu13 hzwu13
          clear HBwu12 Cawu12 Zawu12 Cbwu12
          refine hK.out _ _ (fun _ => HBwu13.out) ?_
          clear hK K
          try simp only [Act.put, List.setIfInBounds_toArray, List.set_cons_zero, List.set_cons_succ]
          refine wpL_one 6 rfl (by kernel_rfl) (by rfl) ?_
          intro K hK
          have zz0 := Zawu13.out.cell (i := 0) rfl
          have zz1 := Zawu13.out.cell (i := 1) rfl
          have zz2 := Zawu13.out.cell (i := 2) rfl
          have f0 := Zawu13.out.frozen 0
          have f1 := Zawu13.out.frozen 1
          have f2 := Zawu13.out.frozen 2
          have hF : Frm wu13 (((wu13.setCell ⟨wu1.heap.size, 0, none⟩ (.slice qa0 ma0 da0)).setCell ⟨wu1.heap.size, 1, none⟩ (.slice qa1 ma1 da1)).setCell ⟨wu1.heap.size, 2, none⟩ (.slice qa2 ma2 da2)) (fun k => k = wu1.heap.size) := ((frm_set _ _ _ _ (F := fun k => k = wu1.heap.size) (.inl rfl)).trans (frm_set _ _ _ _ (F := fun k => k = wu1.heap.size) (.inl rfl)) (fun k hk => .inl hk)).trans (frm_set _ _ _ _ (F := fun k => k = wu1.heap.size) (.inl rfl)) (fun k hk => .inl hk)
          have HBwu14 : Hid (Below wB.heap.size wB (((wu13.setCell ⟨wu1.heap.size, 0, none⟩ (.slice qa0 ma0 da0)).setCell ⟨wu1.heap.size, 1, none⟩ (.slice qa1 ma1 da1)).setCell ⟨wu1.heap.size, 2, none⟩ (.slice qa2 ma2 da2))) := HBwu13.out.trans (hF.below HBwu13.out.size (fun k hk => by have := HLa.out; omega))
          have Zawu14 : Hid (Blk (((wu13.setCell ⟨wu1.heap.size, 0, none⟩ (.slice qa0 ma0 da0)).setCell ⟨wu1.heap.size, 1, none⟩ (.slice qa1 ma1 da1)).setCell ⟨wu1.heap.size, 2, none⟩ (.slice qa2 ma2 da2)) (wu1.heap.size) #[.slice qa0 ma0 da0, .slice qa1 ma1 da1, .slice qa2 ma2 da2] 25) := ((Zawu13.out.set 0 _).set 1 _).set 2 _
          have Zbwu14 : Hid (Blk (((wu13.setCell ⟨wu1.heap.size, 0, none⟩ (.slice qa0 ma0 da0)).setCell ⟨wu1.heap.size, 1, none⟩ (.slice qa1 ma1 da1)).setCell ⟨wu1.heap.size, 2, none⟩ (.slice qa2 ma2 da2)) wu12.heap.size #[.slice none 0 0, .slice none 0 0, .slice none 0 0] 25) := Zbwu13.out.frm hF (by have := HNe.out; omega)
          have Cawu14 : Hid (RdF (((wu13.setCell ⟨wu1.heap.size, 0, none⟩ (.slice qa0 ma0 da0)).setCell ⟨wu1.heap.size, 1, none⟩ (.slice qa1 ma1 da1)).setCell ⟨wu1.heap.size, 2, none⟩ (.slice qa2 ma2 da2)) (.slice qa0 ma0 da0) (.slice qa1 ma1 da1) (.slice qa2 ma2 da2) a) := Cawu13.out.frm1 hF Zawu13.out (slices3 _ _ _ _ _ _ _ _ _)
          have Cbwu14 : Hid (RdF (((wu13.setCell ⟨wu1.heap.size, 0, none⟩ (.slice qa0 ma0 da0)).setCell ⟨wu1.heap.size, 1, none⟩ (.slice qa1 ma1 da1)).setCell ⟨wu1.heap.size, 2, none⟩ (.slice qa2 ma2 da2)) (.slice qb0 mb0 db0) (.slice qb1 mb1 db1) (.slice qb2 mb2 db2) b) := Cbwu13.out.frm1 hF Zawu13.out (slices3 _ _ _ _ _ _ _ _ _)
          clear hF
          go_simp
          refine hK.out _ _ (fun _ => HBwu14.out) ?_
          clear hK K zz0 zz1 zz2 f0 f1 f2 HBwu13 Zawu13 Zbwu13 Cawu13 Cbwu13
          generalize ((wu13.setCell ⟨wu1.heap.size, 0, none⟩ (.slice qa0 ma0 da0)).setCell ⟨wu1.heap.size, 1, none⟩ (.slice qa1 ma1 da1)).setCell ⟨wu1.heap.size, 2, none⟩ (.slice qa2 ma2 da2) = wu14 at *
          try simp only [Act.put, List.setIfInBounds_toArray, List.set_cons_zero, List.set_cons_succ]
          refine wpL_one 7 rfl (by kernel_rfl) (by rfl) ?_
          intro K hK
          have zz0 := Zbwu14.out.cell (i := 0) rfl
          have zz1 := Zbwu14.out.cell (i := 1) rfl
          have zz2 := Zbwu14.out.cell (i := 2) rfl
          have f0 := Zbwu14.out.frozen 0
          have f1 := Zbwu14.out.frozen 1
          have f2 := Zbwu14.out.frozen 2
          have hF : Frm wu14 (((wu14.setCell ⟨wu12.heap.size, 0, none⟩ (.slice qb0 mb0 db0)).setCell ⟨wu12.heap.size, 1, none⟩ (.slice qb1 mb1 db1)).setCell ⟨wu12.heap.size, 2, none⟩ (.slice qb2 mb2 db2)) (fun k => k = wu12.heap.size) := ((frm_set _ _ _ _ (F := fun k => k = wu12.heap.size) (.inl rfl)).trans (frm_set _ _ _ _ (F := fun k => k = wu12.heap.size) (.inl rfl)) (fun k hk => .inl hk)).trans (frm_set _ _ _ _ (F := fun k => k = wu12.heap.size) (.inl rfl)) (fun k hk => .inl hk)
          have HBwu15 : Hid (Below wB.heap.size wB (((wu14.setCell ⟨wu12.heap.size, 0, none⟩ (.slice qb0 mb0 db0)).setCell ⟨wu12.heap.size, 1, none⟩ (.slice qb1 mb1 db1)).setCell ⟨wu12.heap.size, 2, none⟩ (.slice qb2 mb2 db2))) := HBwu14.out.trans (hF.below HBwu14.out.size (fun k hk => by have := HLb.out; omega))
          have Zbwu15 : Hid (Blk (((wu14.setCell ⟨wu12.heap.size, 0, none⟩ (.slice qb0 mb0 db0)).setCell ⟨wu12.heap.size, 1, none⟩ (.slice qb1 mb1 db1)).setCell ⟨wu12.heap.size, 2, none⟩ (.slice qb2 mb2 db2)) (wu12.heap.size) #[.slice qb0 mb0 db0, .slice qb1 mb1 db1, .slice qb2 mb2 db2] 25) := ((Zbwu14.out.set 0 _).set 1 _).set 2 _
          have Zawu15 : Hid (Blk (((wu14.setCell ⟨wu12.heap.size, 0, none⟩ (.slice qb0 mb0 db0)).setCell ⟨wu12.heap.size, 1, none⟩ (.slice qb1 mb1 db1)).setCell ⟨wu12.heap.size, 2, none⟩ (.slice qb2 mb2 db2)) (wu1.heap.size) #[.slice qa0 ma0 da0, .slice qa1 ma1 da1, .slice qa2 ma2 da2] 25) := Zawu14.out.frm hF (by have := HNe.out; omega)
          have Cawu15 : Hid (RdF (((wu14.setCell ⟨wu12.heap.size, 0, none⟩ (.slice qb0 mb0 db0)).setCell ⟨wu12.heap.size, 1, none⟩ (.slice qb1 mb1 db1)).setCell ⟨wu12.heap.size, 2, none⟩ (.slice qb2 mb2 db2)) (.slice qa0 ma0 da0) (.slice qa1 ma1 da1) (.slice qa2 ma2 da2) a) := Cawu14.out.frm1 hF Zbwu14.out (slices3 _ _ _ _ _ _ _ _ _)
          have Cbwu15 : Hid (RdF (((wu14.setCell ⟨wu12.heap.size, 0, none⟩ (.slice qb0 mb0 db0)).setCell ⟨wu12.heap.size, 1, none⟩ (.slice qb1 mb1 db1)).setCell ⟨wu12.heap.size, 2, none⟩ (.slice qb2 mb2 db2)) (.slice qb0 mb0 db0) (.slice qb1 mb1 db1) (.slice qb2 mb2 db2) b) := Cbwu14.out.frm1 hF Zbwu14.out (slices3 _ _ _ _ _ _ _ _ _)
          clear hF
          go_simp
          refine hK.out _ _ (fun _ => HBwu15.out) ?_
          clear hK K zz0 zz1 zz2 f0 f1 f2 HBwu14 Zbwu14 Zawu14 Cawu14 Cbwu14
          generalize ((wu14.setCell ⟨wu12.heap.size, 0, none⟩ (.slice qb0 mb0 db0)).setCell ⟨wu12.heap.size, 1, none⟩ (.slice qb1 mb1 db1)).setCell ⟨wu12.heap.size, 2, none⟩ (.slice qb2 mb2 db2) = wu15 at *
          try simp only [Act.put, List.setIfInBounds_toArray, List.set_cons_zero, List.set_cons_succ]
          refine wpL_done (by kernel_rfl) ?_ _
          try simp only [NoPanic]
          go_wp2_with fail
          go_meet
          exact ⟨_, _, _, _, _, _, _, _, _, _, _, _, _, _, _, _, _, _, _, _, rfl, rfl, ⟨Zawu15.out, Zbwu15.out, HBwu15.out, Cawu15.out, Cbwu15.out⟩⟩
        · intro K hK
          go_simp
          have hbwu16 : Below wu11.heap.size wu11 (wu11.alloc (.cells #[.slice none 0 0, .slice none 0 0, .slice none 0 0] 25)) := (Below.refl _ _).alloc (Nat.le_refl _) _
          have hzwu16 : Blk (wu11.alloc (.cells #[.slice none 0 0, .slice none 0 0, .slice none 0 0] 25)) wu11.heap.size #[.slice none 0 0, .slice none 0 0, .slice none 0 0] 25 := Blk.new wu11 _ _
          generalize (wu11.alloc (.cells #[.slice none 0 0, .slice none 0 0, .slice none 0 0] 25)) = wu16 at *
          have HNe : Hid (wu1.heap.size < wu11.heap.size) := Zawu11.out.lt
          have HLb : Hid (wB.heap.size ≤ wu11.heap.size) := HBwu11.out.size
          have HBwu16 : Hid (Below wB.heap.size wB wu16) := HBwu11.out.trans ((hbwu16).mono HBwu11.out.size)
          have Cawu16 : Hid (RdF wu16 (.slice qa0 ma0 da0) (.slice qa1 ma1 da1) (.slice qa2 ma2 da2) a) := Cawu11.out.on (hbwu16)
          have Zawu16 : Hid (Blk wu16 wu1.heap.size #[.slice none 0 0, .slice none 0 0, .slice none 0 0] 25) := Zawu11.out.on (hbwu16)
          have Zbwu16 : Hid (Blk wu16 wu11.heap.size #[.slice none 0 0, .slice none 0 0, .slice none 0 0] 25) := hzwu16
          clear hbwu16 hzwu16
          clear HBwu11 Cawu11 Zawu11
          refine hK.out _ _ (fun _ => HBwu16.out) ?_
          clear hK K
          try simp only [Act.put, List.setIfInBounds_toArray, List.set_cons_zero, List.set_cons_succ]
          refine wpL_one 3 rfl (by kernel_rfl) (by rfl) ?_
          intro K hK
          go_simp
          have CPwu17 : Hid (Calls _ _ _ _ _) := rcopyF b _ _ _ wu16 (HRd.out.2.on HBwu16.out)
          refine CPwu17.out.mono ?_
          rintro e wu17 ⟨y0, y1, y2, rfl, hrwu17, hbwu17⟩
          dsimp only
          obtain ⟨qb0, mb0, db0, ey0⟩ : ∃ p n c, y0 = .slice p n c := by
            obtain ⟨p, c, e, _⟩ := hrwu17.p.f
            exact ⟨_, _, _, e⟩
          obtain ⟨qb1, mb1, db1, ey1⟩ : ∃ p n c, y1 = .slice p n c := by
            obtain ⟨p, c, e, _⟩ := hrwu17.s.f
            exact ⟨_, _, _, e⟩
          obtain ⟨qb2, mb2, db2, ey2⟩ : ∃ p n c, y2 = .slice p n c := by
            obtain ⟨p, c, e, _⟩ := hrwu17.w.f
            exact ⟨_, _, _, e⟩
          subst ey0 ey1 ey2
          have HBwu17 : Hid (Below wB.heap.size wB wu17) := HBwu16.out.trans ((hbwu17).mono HBwu16.out.size)
          have Cawu17 : Hid (RdF wu17 (.slice qa0 ma0 da0) (.slice qa1 ma1 da1) (.slice qa2 ma2 da2) a) := Cawu16.out.on (hbwu17)
          have Zawu17 : Hid (Blk wu17 wu1.heap.size #[.slice none 0 0, .slice none 0 0, .slice none 0 0] 25) := Zawu16.out.on (hbwu17)
          have Zbwu17 : Hid (Blk wu17 wu11.heap.size #[.slice none 0 0, .slice none 0 0, .slice none 0 0] 25) := Zbwu16.out.on (hbwu17)
          have Cbwu17 : Hid (RdF wu17 (.slice qb0 mb0 db0) (.slice qb1 mb1 db1) (.slice qb2 mb2 db2) b) := hrwu17
          clear CPwu17 hrwu17 hbwu17
          clear HBwu16 Cawu16 Zawu16 Zbwu16
          refine hK.out _ _ (fun _ => HBwu17.out) ?_
          clear hK K
          try simp only [Act.put, List.setIfInBounds_toArray, List.set_cons_zero, List.set_cons_succ]
          refine wpL_one 6 rfl (by kernel_rfl) (by rfl) ?_
          intro K hK
          have zz0 := Zawu17.out.cell (i := 0) rfl
          have zz1 := Zawu17.out.cell (i := 1) rfl
          have zz2 := Zawu17.out.cell (i := 2) rfl
          have f0 := Zawu17.out.frozen 0
          have f1 := Zawu17.out.frozen 1
          have f2 := Zawu17.out.frozen 2
          have hF : Frm wu17 (((wu17.setCell ⟨wu1.heap.size, 0, none⟩ (.slice qa0 ma0 da0)).setCell ⟨wu1.heap.size, 1, none⟩ (.slice qa1 ma1 da1)).setCell ⟨wu1.heap.size, 2, none⟩ (.slice qa2 ma2 da2)) (fun k => k = wu1.heap.size) := ((frm_set _ _ _ _ (F := fun k => k = wu1.heap.size) (.inl rfl)).trans (frm_set _ _ _ _ (F := fun k => k = wu1.heap.size) (.inl rfl)) (fun k hk => .inl hk)).trans (frm_set _ _ _ _ (F := fun k => k = wu1.heap.size) (.inl rfl)) (fun k hk => .inl hk)
          have HBwu18 : Hid (Below wB.heap.size wB (((wu17.setCell ⟨wu1.heap.size, 0, none⟩ (.slice qa0 ma0 da0)).setCell ⟨wu1.heap.size, 1, none⟩ (.slice qa1 ma1 da1)).setCell ⟨wu1.heap.size, 2, none⟩ (.slice qa2 ma2 da2))) := HBwu17.out.trans (hF.below HBwu17.out.size (fun k hk => by have := HLa.out; omega))
          have Zawu18 : Hid (Blk (((wu17.setCell ⟨wu1.heap.size, 0, none⟩ (.slice qa0 ma0 da0)).setCell ⟨wu1.heap.size, 1, none⟩ (.slice qa1 ma1 da1)).setCell ⟨wu1.heap.size, 2, none⟩ (.slice qa2 ma2 da2)) (wu1.heap.size) #[.slice qa0 ma0 da0, .slice qa1 ma1 da1, .slice qa2 ma2 da2] 25) := ((Zawu17.out.set 0 _).set 1 _).set 2 _
          have Zbwu18 : Hid (Blk (((wu17.setCell ⟨wu1.heap.size, 0, none⟩ (.slice qa0 ma0 da0)).setCell ⟨wu1.heap.size, 1, none⟩ (.slice qa1 ma1 da1)).setCell ⟨wu1.heap.size, 2, none⟩ (.slice qa2 ma2 da2)) wu11.heap.size #[.slice none 0 0, .slice none 0 0, .slice none 0 0] 25) := Zbwu17.out.frm hF (by have := HNe.out; omega)
          have Cawu18 : Hid (RdF (((wu17.setCell ⟨wu1.heap.size, 0, none⟩ (.slice qa0 ma0 da0)).setCell ⟨wu1.heap.size, 1, none⟩ (.slice qa1 ma1 da1)).setCell ⟨wu1.heap.size, 2, none⟩ (.slice qa2 ma2 da2)) (.slice qa0 ma0 da0) (.slice qa1 ma1 da1) (.slice qa2 ma2 da2) a) := Cawu17.out.frm1 hF Zawu17.out (slices3 _ _ _ _ _ _ _ _ _)
          have Cbwu18 : Hid (RdF (((wu17.setCell ⟨wu1.heap.size, 0, none⟩ (.slice qa0 ma0 da0)).setCell ⟨wu1.heap.size, 1, none⟩ (.slice qa1 ma1 da1)).setCell ⟨wu1.heap.size, 2, none⟩ (.slice qa2 ma2 da2)) (.slice qb0 mb0 db0) (.slice qb1 mb1 db1) (.slice qb2 mb2 db2) b) := Cbwu17.out.frm1 hF Zawu17.out (slices3 _ _ _ _ _ _ _ _ _)
          clear hF
          go_simp
          refine hK.out _ _ (fun _ => HBwu18.out) ?_
          clear hK K zz0 zz1 zz2 f0 f1 f2 HBwu17 Zawu17 Zbwu17 Cawu17 Cbwu17
          generalize ((wu17.setCell ⟨wu1.heap.size, 0, none⟩ (.slice qa0 ma0 da0)).setCell ⟨wu1.heap.size, 1, none⟩ (.slice qa1 ma1 da1)).setCell ⟨wu1.heap.size, 2, none⟩ (.slice qa2 ma2 da2) = wu18 at *
          try simp only [Act.put, List.setIfInBounds_toArray, List.set_cons_zero, List.set_cons_succ]
          refine wpL_one 7 rfl (by kernel_rfl) (by rfl) ?_
          intro K hK
          have zz0 := Zbwu18.out.cell (i := 0) rfl
          have zz1 := Zbwu18.out.cell (i := 1) rfl
          have zz2 := Zbwu18.out.cell (i := 2) rfl
          have f0 := Zbwu18.out.frozen 0
          have f1 := Zbwu18.out.frozen 1
          have f2 := Zbwu18.out.frozen 2
          have hF : Frm wu18 (((wu18.setCell ⟨wu11.heap.size, 0, none⟩ (.slice qb0 mb0 db0)).setCell ⟨wu11.heap.size, 1, none⟩ (.slice qb1 mb1 db1)).setCell ⟨wu11.heap.size, 2, none⟩ (.slice qb2 mb2 db2)) (fun k => k = wu11.heap.size) := ((frm_set _ _ _ _ (F := fun k => k = wu11.heap.size) (.inl rfl)).trans (frm_set _ _ _ _ (F := fun k => k = wu11.heap.size) (.inl rfl)) (fun k hk => .inl hk)).trans (frm_set _ _ _ _ (F := fun k => k = wu11.heap.size) (.inl rfl)) (fun k hk => .inl hk)
          have HBwu19 : Hid (Below wB.heap.size wB (((wu18.setCell ⟨wu11.heap.size, 0, none⟩ (.slice qb0 mb0 db0)).setCell ⟨wu11.heap.size, 1, none⟩ (.slice qb1 mb1 db1)).setCell ⟨wu11.heap.size, 2, none⟩ (.slice qb2 mb2 db2))) := HBwu18.out.trans (hF.below HBwu18.out.size (fun k hk => by have := HLb.out; omega))
          have Zbwu19 : Hid (Blk (((wu18.setCell ⟨wu11.heap.size, 0, none⟩ (.slice qb0 mb0 db0)).setCell ⟨wu11.heap.size, 1, none⟩ (.slice qb1 mb1 db1)).setCell ⟨wu11.heap.size, 2, none⟩ (.slice qb2 mb2 db2)) (wu11.heap.size) #[.slice qb0 mb0 db0, .slice qb1 mb1 db1, .slice qb2 mb2 db2] 25) := ((Zbwu18.out.set 0 _).set 1 _).set 2 _
          have Zawu19 : Hid (Blk (((wu18.setCell ⟨wu11.heap.size, 0, none⟩ (.slice qb0 mb0 db0)).setCell ⟨wu11.heap.size, 1, none⟩ (.slice qb1 mb1 db1)).setCell ⟨wu11.heap.size, 2, none⟩ (.slice qb2 mb2 db2)) (wu1.heap.size) #[.slice qa0 ma0 da0, .slice qa1 ma1 da1, .slice qa2 ma2 da2] 25) := Zawu18.out.frm hF (by have := HNe.out; omega)
          have Cawu19 : Hid (RdF (((wu18.setCell ⟨wu11.heap.size, 0, none⟩ (.slice qb0 mb0 db0)).setCell ⟨wu11.heap.size, 1, none⟩ (.slice qb1 mb1 db1)).setCell ⟨wu11.heap.size, 2, none⟩ (.slice qb2 mb2 db2)) (.slice qa0 ma0 da0) (.slice qa1 ma1 da1) (.slice qa2 ma2 da2) a) := Cawu18.out.frm1 hF Zbwu18.out (slices3 _ _ _ _ _ _ _ _ _)
          have Cbwu19 : Hid (RdF (((wu18.setCell ⟨wu11.heap.size, 0, none⟩ (.slice qb0 mb0 db0)).setCell ⟨wu11.heap.size, 1, none⟩ (.slice qb1 mb1 db1)).setCell ⟨wu11.heap.size, 2, none⟩ (.slice qb2 mb2 db2)) (.slice qb0 mb0 db0) (.slice qb1 mb1 db1) (.slice qb2 mb2 db2) b) := Cbwu18.out.frm1 hF Zbwu18.out (slices3 _ _ _ _ _ _ _ _ _)
          clear hF
          go_simp
          refine hK.out _ _ (fun _ => HBwu19.out) ?_
          clear hK K zz0 zz1 zz2 f0 f1 f2 HBwu18 Zbwu18 Zawu18 Cawu18 Cbwu18
          generalize ((wu18.setCell ⟨wu11.heap.size, 0, none⟩ (.slice qb0 mb0 db0)).setCell ⟨wu11.heap.size, 1, none⟩ (.slice qb1 mb1 db1)).setCell ⟨wu11.heap.size, 2, none⟩ (.slice qb2 mb2 db2) = wu19 at *
          try simp only [Act.put, List.setIfInBounds_toArray, List.set_cons_zero, List.set_cons_succ]
          refine wpL_done (by kernel_rfl) ?_ _
          try simp only [NoPanic]
          go_wp2_with fail
          go_meet
          exact ⟨_, _, _, _, _, _, _, _, _, _, _, _, _, _, _, _, _, _, _, _, rfl, rfl, ⟨Zawu19.out, Zbwu19.out, HBwu19.out, Cawu19.out, Cbwu19.out⟩⟩
      · intro K hK
        go_simp
        have hbwu20 : Below wu1.heap.size wu1 (wu1.alloc (.cells #[.slice none 0 0, .slice none 0 0, .slice none 0 0] 25)) := (Below.refl _ _).alloc (Nat.le_refl _) _
        have hzwu20 : Blk (wu1.alloc (.cells #[.slice none 0 0, .slice none 0 0, .slice none 0 0] 25)) wu1.heap.size #[.slice none 0 0, .slice none 0 0, .slice none 0 0] 25 := Blk.new wu1 _ _
        generalize (wu1.alloc (.cells #[.slice none 0 0, .slice none 0 0, .slice none 0 0] 25)) = wu20 at *
        have HLb : Hid (wB.heap.size ≤ wu1.heap.size) := HBwu1.out.size
        have HBwu20 : Hid (Below wB.heap.size wB wu20) := HBwu1.out.trans ((hbwu20).mono HBwu1.out.size)
        have Cawu20 : Hid (RdF wu20 (.slice qa0 ma0 da0) (.slice qa1 ma1 da1) (.slice qa2 ma2 da2) a) := Cawu1.out.on (hbwu20)
        have Zbwu20 : Hid (Blk wu20 wu1.heap.size #[.slice none 0 0, .slice none 0 0, .slice none 0 0] 25) := hzwu20
        clear hbwu20 hzwu20
        clear HBwu1 Cawu1
        refine hK.out _ _ (fun _ => HBwu20.out) ?_
        clear hK K
        try simp only [Act.put, List.setIfInBounds_toArray, List.set_cons_zero, List.set_cons_succ]
        refine wpL_two17 3 4 rfl rfl (by kernel_rfl) (by rfl) (by rfl) ?_ ?_
        · intro K hK
          go_simp
          have CPwu21 : Hid (Calls _ _ _ _ _) := rcopyF b _ _ _ wu20 (HRd.out.2.on HBwu20.out)
          refine CPwu21.out.mono ?_
          rintro e wu21 ⟨y0, y1, y2, rfl, hrwu21, hbwu21⟩
          dsimp only
          obtain ⟨qb0, mb0, db0, ey0⟩ : ∃ p n c, y0 = .slice p n c := by
            obtain ⟨p, c, e, _⟩ := hrwu21.p.f
            exact ⟨_, _, _, e⟩
          obtain ⟨qb1, mb1, db1, ey1⟩ : ∃ p n c, y1 = .slice p n c := by
            obtain ⟨p, c, e, _⟩ := hrwu21.s.f
            exact ⟨_, _, _, e⟩
          obtain ⟨qb2, mb2, db2, ey2⟩ : ∃ p n c, y2 = .slice p n c := by
            obtain ⟨p, c, e, _⟩ := hrwu21.w.f
            exact ⟨_, _, _, e⟩
          subst ey0 ey1 ey2
          have HBwu21 : Hid (Below wB.heap.size wB wu21) := HBwu20.out.trans ((hbwu21).mono HBwu20.out.size)
          have Cawu21 : Hid (RdF wu21 (.slice qa0 ma0 da0) (.slice qa1 ma1 da1) (.slice qa2 ma2 da2) a) := Cawu20.out.on (hbwu21)
          have Zbwu21 : Hid (Blk wu21 wu1.heap.size #[.slice none 0 0, .slice none 0 0, .slice none 0 0] 25) := Zbwu20.out.on (hbwu21)
          have Cbwu21 : Hid (RdF wu21 (.slice qb0 mb0 db0) (.slice qb1 mb1 db1) (.slice qb2 mb2 db2) b) := hrwu21
          clear CPwu21 hrwu21 hbwu21
          clear HBwu20 Cawu20 Zbwu20
          refine hK.out _ _ (fun _ => HBwu21.out) ?_
          clear hK K
          try simp only [Act.put, List.setIfInBounds_toArray, List.set_cons_zero, List.set_cons_succ]
          refine wpL_one 4 rfl (by kernel_rfl) (by rfl) ?_
          intro K hK
          go_simp
          have hbwu22 : Below wu21.heap.size wu21 (wu21.alloc (.cells #[.slice none 0 0, .slice none 0 0, .slice none 0 0] 25)) := (Below.refl _ _).alloc (Nat.le_refl _) _
          have hzwu22 : Blk (wu21.alloc (.cells #[.slice none 0 0, .slice none 0 0, .slice none 0 0] 25)) wu21.heap.size #[.slice none 0 0, .slice none 0 0, .slice none 0 0] 25 := Blk.new wu21 _ _
          generalize (wu21.alloc (.cells #[.slice none 0 0, .slice none 0 0, .slice none 0 0] 25)) = wu22 at *
          have HNe : Hid (wu1.heap.size < wu21.heap.size) := Zbwu21.out.lt
          have HLa : Hid (wB.heap.size ≤ wu21.heap.size) := HBwu21.out.size
          have HBwu22 : Hid (Below wB.heap.size wB wu22) := HBwu21.out.trans ((hbwu22).mono HBwu21.out.size)
          have Cawu22 : Hid (RdF wu22 (.slice qa0 ma0 da0) (.slice qa1 ma1 da1) (.slice qa2 ma2 da2) a) := Cawu21.out.on (hbwu22)
          have Zbwu22 : Hid (Blk wu22 wu1.heap.size #[.slice none 0 0, .slice none 0 0, .slice none 0 0] 25) := Zbwu21.out.on (hbwu22)
          have Cbwu22 : Hid (RdF wu22 (.slice qb0 mb0 db0) (.slice qb1 mb1 db1) (.slice qb2 mb2 db2) b) := Cbwu21.out.on (hbwu22)
          have Zawu22 : Hid (Blk wu22 wu21.heap.size #[.slice none 0 0, .slice none 0 0, .slice none 0 0] 25) := hzwu22
          clear hbwu22 hzwu22
          clear HBwu21 Cawu21 Zbwu21 Cbwu21
          refine hK.out _ _ (fun _ => HBwu22.out) ?_
          clear hK K
          try simp only [Act.put, List.setIfInBounds_toArray, List.set_cons_zero, List.set_cons_succ]
          refine wpL_one 6 rfl (by kernel_rfl) (by rfl) ?_
          intro K hK
          have zz0 := Zawu22.out.cell (i := 0) rfl
          have zz1 := Zawu22.out.cell (i := 1) rfl
          have zz2 := Zawu22.out.cell (i := 2) rfl
          have f0 := Zawu22.out.frozen 0
          have f1 := Zawu22.out.frozen 1
          have f2 := Zawu22.out.frozen 2
          have hF : Frm wu22 (((wu22.setCell ⟨wu21.heap.size, 0, none⟩ (.slice qa0 ma0 da0)).setCell ⟨wu21.heap.size, 1, none⟩ (.slice qa1 ma1 da1)).setCell ⟨wu21.heap.size, 2, none⟩ (.slice qa2 ma2 da2)) (fun k => k = wu21.heap.size) := ((frm_set _ _ _ _ (F := fun k => k = wu21.heap.size) (.inl rfl)).trans (frm_set _ _ _ _ (F := fun k => k = wu21.heap.size) (.inl rfl)) (fun k hk => .inl hk)).trans (frm_set _ _ _ _ (F := fun k => k = wu21.heap.size) (.inl rfl)) (fun k hk => .inl hk)
          have HBwu23 : Hid (Below wB.heap.size wB (((wu22.setCell ⟨wu21.heap.size, 0, none⟩ (.slice qa0 ma0 da0)).setCell ⟨wu21.heap.size, 1, none⟩ (.slice qa1 ma1 da1)).setCell ⟨wu21.heap.size, 2, none⟩ (.slice qa2 ma2 da2))) := HBwu22.out.trans (hF.below HBwu22.out.size (fun k hk => by have := HLa.out; omega))
          have Zawu23 : Hid (Blk (((wu22.setCell ⟨wu21.heap.size, 0, none⟩ (.slice qa0 ma0 da0)).setCell ⟨wu21.heap.size, 1, none⟩ (.slice qa1 ma1 da1)).setCell ⟨wu21.heap.size, 2, none⟩ (.slice qa2 ma2 da2)) (wu21.heap.size) #[.slice qa0 ma0 da0, .slice qa1 ma1 da1, .slice qa2 ma2 da2] 25) := ((Zawu22.out.set 0 _).set 1 _).set 2 _
          have Zbwu23 : Hid (Blk (((wu22.setCell ⟨wu21.heap.size, 0, none⟩ (.slice qa0 ma0 da0)).setCell ⟨wu21.heap.size, 1, none⟩ (.slice qa1 ma1 da1)).setCell ⟨wu21.heap.size, 2, none⟩ (.slice qa2 ma2 da2)) wu1.heap.size #[.slice none 0 0, .slice none 0 0, .slice none 0 0] 25) := Zbwu22.out.frm hF (by have := HNe.out; omega)
          have Cawu23 : Hid (RdF (((wu22.setCell ⟨wu21.heap.size, 0, none⟩ (.slice qa0 ma0 da0)).setCell ⟨wu21.heap.size, 1, none⟩ (.slice qa1 ma1 da1)).setCell ⟨wu21.heap.size, 2, none⟩ (.slice qa2 ma2 da2)) (.slice qa0 ma0 da0) (.slice qa1 ma1 da1) (.slice qa2 ma2 da2) a) := Cawu22.out.frm1 hF Zawu22.out (slices3 _ _ _ _ _ _ _ _ _)
          have Cbwu23 : Hid (RdF (((wu22.setCell ⟨wu21.heap.size, 0, none⟩ (.slice qa0 ma0 da0)).setCell ⟨wu21.heap.size, 1, none⟩ (.slice qa1 ma1 da1)).setCell ⟨wu21.heap.size, 2, none⟩ (.slice qa2 ma2 da2)) (.slice qb0 mb0 db0) (.slice qb1 mb1 db1) (.slice qb2 mb2 db2) b) := Cbwu22.out.frm1 hF Zawu22.out (slices3 _ _ _ _ _ _ _ _ _)
          clear hF
          go_simp
          refine hK.out _ _ (fun _ => HBwu23.out) ?_
          clear hK K zz0 zz1 zz2 f0 f1 f2 HBwu22 Zawu22 Zbwu22 Cawu22 Cbwu22
          generalize ((wu22.setCell ⟨wu21.heap.size, 0, none⟩ (.slice qa0 ma0 da0)).setCell ⟨wu21.heap.size, 1, none⟩ (.slice qa1 ma1 da1)).setCell ⟨wu21.heap.size, 2, none⟩ (.slice qa2 ma2 da2) = wu23 at *
          try simp only [Act.put, List.setIfInBounds_toArray, List.set_cons_zero, List.set_cons_succ]
          refine wpL_one 7 rfl (by kernel_rfl) (by rfl) ?_
          intro K hK
          have zz0 := Zbwu23.out.cell (i := 0) rfl
          have zz1 := Zbwu23.out.cell (i := 1) rfl
          have zz2 := Zbwu23.out.cell (i := 2) rfl
          have f0 := Zbwu23.out.frozen 0
          have f1 := Zbwu23.out.frozen 1
          have f2 := Zbwu23.out.frozen 2
          have hF : Frm wu23 (((wu23.setCell ⟨wu1.heap.size, 0, none⟩ (.slice qb0 mb0 db0)).setCell ⟨wu1.heap.size, 1, none⟩ (.slice qb1 mb1 db1)).setCell ⟨wu1.heap.size, 2, none⟩ (.slice qb2 mb2 db2)) (fun k => k = wu1.heap.size) := ((frm_set _ _ _ _ (F := fun k => k = wu1.heap.size) (.inl rfl)).trans (frm_set _ _ _ _ (F := fun k => k = wu1.heap.size) (.inl rfl)) (fun k hk => .inl hk)).trans (frm_set _ _ _ _ (F := fun k => k = wu1.heap.size) (.inl rfl)) (fun k hk => .inl hk)
          have HBwu24 : Hid (Below wB.heap.size wB (((wu23.setCell ⟨wu1.heap.size, 0, none⟩ (.slice qb0 mb0 db0)).setCell ⟨wu1.heap.size, 1, none⟩ (.slice qb1 mb1 db1)).setCell ⟨wu1.heap.size, 2, none⟩ (.slice qb2 mb2 db2))) := HBwu23.out.trans (hF.below HBwu23.out.size (fun k hk => by have := HLb.out; omega))
          have Zbwu24 : Hid (Blk (((wu23.setCell ⟨wu1.heap.size, 0, none⟩ (.slice qb0 mb0 db0)).setCell ⟨wu1.heap.size, 1, none⟩ (.slice qb1 mb1 db1)).setCell ⟨wu1.heap.size, 2, none⟩ (.slice qb2 mb2 db2)) (wu1.heap.size) #[.slice qb0 mb0 db0, .slice qb1 mb1 db1, .slice qb2 mb2 db2] 25) := ((Zbwu23.out.set 0 _).set 1 _).set 2 _
          have Zawu24 : Hid (Blk (((wu23.setCell ⟨wu1.heap.size, 0, none⟩ (.slice qb0 mb0 db0)).setCell ⟨wu1.heap.size, 1, none⟩ (.slice qb1 mb1 db1)).setCell ⟨wu1.heap.size, 2, none⟩ (.slice qb2 mb2 db2)) (wu21.heap.size) #[.slice qa0 ma0 da0, .slice qa1 ma1 da1, .slice qa2 ma2 da2] 25) := Zawu23.out.frm hF (by have := HNe.out; omega)
          have Cawu24 : Hid (RdF (((wu23.setCell ⟨wu1.heap.size, 0, none⟩ (.slice qb0 mb0 db0)).setCell ⟨wu1.heap.size, 1, none⟩ (.slice qb1 mb1 db1)).setCell ⟨wu1.heap.size, 2, none⟩ (.slice qb2 mb2 db2)) (.slice qa0 ma0 da0) (.slice qa1 ma1 da1) (.slice qa2 ma2 da2) a) := Cawu23.out.frm1 hF Zbwu23.out (slices3 _ _ _ _ _ _ _ _ _)
          have Cbwu24 : Hid (RdF (((wu23.setCell ⟨wu1.heap.size, 0, none⟩ (.slice qb0 mb0 db0)).setCell ⟨wu1.heap.size, 1, none⟩ (.slice qb1 mb1 db1)).setCell ⟨wu1.heap.size, 2, none⟩ (.slice qb2 mb2 db2)) (.slice qb0 mb0 db0) (.slice qb1 mb1 db1) (.slice qb2 mb2 db2) b) := Cbwu23.out.frm1 hF Zbwu23.out (slices3 _ _ _ _ _ _ _ _ _)
          clear hF
          go_simp
          refine hK.out _ _ (fun _ => HBwu24.out) ?_
          clear hK K zz0 zz1 zz2 f0 f1 f2 HBwu23 Zbwu23 Zawu23 Cawu23 Cbwu23
          generalize ((wu23.setCell ⟨wu1.heap.size, 0, none⟩ (.slice qb0 mb0 db0)).setCell ⟨wu1.heap.size, 1, none⟩ (.slice qb1 mb1 db1)).setCell ⟨wu1.heap.size, 2, none⟩ (.slice qb2 mb2 db2) = wu24 at *
          try simp only [Act.put, List.setIfInBounds_toArray, List.set_cons_zero, List.set_cons_succ]
          refine wpL_done (by kernel_rfl) ?_ _
          try simp only [NoPanic]
          go_wp2_with fail
          go_meet
          exact ⟨_, _, _, _, _, _, _, _, _, _, _, _, _, _, _, _, _, _, _, _, rfl, rfl, ⟨Zawu24.out, Zbwu24.out, HBwu24.out, Cawu24.out, Cbwu24.out⟩⟩
        · intro K hK
          go_simp
          have hbwu25 : Below wu20.heap.size wu20 (wu20.alloc (.cells #[.slice none 0 0, .slice none 0 0, .slice none 0 0] 25)) := (Below.refl _ _).alloc (Nat.le_refl _) _
          have hzwu25 : Blk (wu20.alloc (.cells #[.slice none 0 0, .slice none 0 0, .slice none 0 0] 25)) wu20.heap.size #[.slice none 0 0, .slice none 0 0, .slice none 0 0] 25 := Blk.new wu20 _ _
          generalize (wu20.alloc (.cells #[.slice none 0 0, .slice none 0 0, .slice none 0 0] 25)) = wu25 at *
          have HNe : Hid (wu1.heap.size < wu20.heap.size) := Zbwu20.out.lt
          have HLa : Hid (wB.heap.size ≤ wu20.heap.size) := HBwu20.out.size
          have HBwu25 : Hid (Below wB.heap.size wB wu25) := HBwu20.out.trans ((hbwu25).mono HBwu20.out.size)
          have Cawu25 : Hid (RdF wu25 (.slice qa0 ma0 da0) (.slice qa1 ma1 da1) (.slice qa2 ma2 da2) a) := Cawu20.out.on (hbwu25)
          have Zbwu25 : Hid (Blk wu25 wu1.heap.size #[.slice none 0 0, .slice none 0 0, .slice none 0 0] 25) := Zbwu20.out.on (hbwu25)
          have Zawu25 : Hid (Blk wu25 wu20.heap.size #[.slice none 0 0, .slice none 0 0, .slice none 0 0] 25) := hzwu25
          clear hbwu25 hzwu25
          clear HBwu20 Cawu20 Zbwu20
          refine hK.out _ _ (fun _ => HBwu25.out) ?_
          clear hK K
          try simp only [Act.put, List.setIfInBounds_toArray, List.set_cons_zero, List.set_cons_succ]
          refine wpL_one 3 rfl (by kernel_rfl) (by rfl) ?_
          intro K hK
          go_simp
          have CPwu26 : Hid (Calls _ _ _ _ _) := rcopyF b _ _ _ wu25 (HRd.out.2.on HBwu25.out)
          refine CPwu26.out.mono ?_
          rintro e wu26 ⟨y0, y1, y2, rfl, hrwu26, hbwu26⟩
          dsimp only
          obtain ⟨qb0, mb0, db0, ey0⟩ : ∃ p n c, y0 = .slice p n c := by
            obtain ⟨p, c, e, _⟩ := hrwu26.p.f
            exact ⟨_, _, _, e⟩
          obtain ⟨qb1, mb1, db1, ey1⟩ : ∃ p n c, y1 = .slice p n c := by
            obtain ⟨p, c, e, _⟩ := hrwu26.s.f
            exact ⟨_, _, _, e⟩
          obtain ⟨qb2, mb2, db2, ey2⟩ : ∃ p n c, y2 = .slice p n c := by
            obtain ⟨p, c, e, _⟩ := hrwu26.w.f
            exact ⟨_, _, _, e⟩
          subst ey0 ey1 ey2
          have HBwu26 : Hid (Below wB.heap.size wB wu26) := HBwu25.out.trans ((hbwu26).mono HBwu25.out.size)
          have Cawu26 : Hid (RdF wu26 (.slice qa0 ma0 da0) (.slice qa1 ma1 da1) (.slice qa2 ma2 da2) a) := Cawu25.out.on (hbwu26)
          have Zbwu26 : Hid (Blk wu26 wu1.heap.size #[.slice none 0 0, .slice none 0 0, .slice none 0 0] 25) := Zbwu25.out.on (hbwu26)
          have Zawu26 : Hid (Blk wu26 wu20.heap.size #[.slice none 0 0, .slice none 0 0, .slice none 0 0] 25) := Zawu25.out.on (hbwu26)
          have Cbwu26 : Hid (RdF wu26 (.slice qb0 mb0 db0) (.slice qb1 mb1 db1) (.slice qb2 mb2 db2) b) := hrwu26
          clear CPwu26 hrwu26 hbwu26
          clear HBwu25 Cawu25 Zbwu25 Zawu25
          refine hK.out _ _ (fun _ => HBwu26.out) ?_
          clear hK K
          try simp only [Act.put, List.setIfInBounds_toArray, List.set_cons_zero, List.set_cons_succ]
          refine wpL_one 6 rfl (by kernel_rfl) (by rfl) ?_
          intro K hK
          have zz0 := Zawu26.out.cell (i := 0) rfl
          have zz1 := Zawu26.out.cell (i := 1) rfl
          have zz2 := Zawu26.out.cell (i := 2) rfl
          have f0 := Zawu26.out.frozen 0
          have f1 := Zawu26.out.frozen 1
          have f2 := Zawu26.out.frozen 2
          have hF : Frm wu26 (((wu26.setCell ⟨wu20.heap.size, 0, none⟩ (.slice qa0 ma0 da0)).setCell ⟨wu20.heap.size, 1, none⟩ (.slice qa1 ma1 da1)).setCell ⟨wu20.heap.size, 2, none⟩ (.slice qa2 ma2 da2)) (fun k => k = wu20.heap.size) := ((frm_set _ _ _ _ (F := fun k => k = wu20.heap.size) (.inl rfl)).trans (frm_set _ _ _ _ (F := fun k => k = wu20.heap.size) (.inl rfl)) (fun k hk => .inl hk)).trans (frm_set _ _ _ _ (F := fun k => k = wu20.heap.size) (.inl rfl)) (fun k hk => .inl hk)
          have HBwu27 : Hid (Below wB.heap.size wB (((wu26.setCell ⟨wu20.heap.size, 0, none⟩ (.slice qa0 ma0 da0)).setCell ⟨wu20.heap.size, 1, none⟩ (.slice qa1 ma1 da1)).setCell ⟨wu20.heap.size, 2, none⟩ (.slice qa2 ma2 da2))) := HBwu26.out.trans (hF.below HBwu26.out.size (fun k hk => by have := HLa.out; omega))
          have Zawu27 : Hid (Blk (((wu26.setCell ⟨wu20.heap.size, 0, none⟩ (.slice qa0 ma0 da0)).setCell ⟨wu20.heap.size, 1, none⟩ (.slice qa1 ma1 da1)).setCell ⟨wu20.heap.size, 2, none⟩ (.slice qa2 ma2 da2)) (wu20.heap.size) #[.slice qa0 ma0 da0, .slice qa1 ma1 da1, .slice qa2 ma2 da2] 25) := ((Zawu26.out.set 0 _).set 1 _).set 2 _
          have Zbwu27 : Hid (Blk (((wu26.setCell ⟨wu20.heap.size, 0, none⟩ (.slice qa0 ma0 da0)).setCell ⟨wu20.heap.size, 1, none⟩ (.slice qa1 ma1 da1)).setCell ⟨wu20.heap.size, 2, none⟩ (.slice qa2 ma2 da2)) wu1.heap.size #[.slice none 0 0, .slice none 0 0, .slice none 0 0] 25) := Zbwu26.out.frm hF (by have := HNe.out; omega)
          have Cawu27 : Hid (RdF (((wu26.setCell ⟨wu20.heap.size, 0, none⟩ (.slice qa0 ma0 da0)).setCell ⟨wu20.heap.size, 1, none⟩ (.slice qa1 ma1 da1)).setCell ⟨wu20.heap.size, 2, none⟩ (.slice qa2 ma2 da2)) (.slice qa0 ma0 da0) (.slice qa1 ma1 da1) (.slice qa2 ma2 da2) a) := Cawu26.out.frm1 hF Zawu26.out (slices3 _ _ _ _ _ _ _ _ _)
          have Cbwu27 : Hid (RdF (((wu26.setCell ⟨wu20.heap.size, 0, none⟩ (.slice qa0 ma0 da0)).setCell ⟨wu20.heap.size, 1, none⟩ (.slice qa1 ma1 da1)).setCell ⟨wu20.heap.size, 2, none⟩ (.slice qa2 ma2 da2)) (.slice qb0 mb0 db0) (.slice qb1 mb1 db1) (.slice qb2 mb2 db2) b) := Cbwu26.out.frm1 hF Zawu26.out (slices3 _ _ _ _ _ _ _ _ _)
          clear hF
          go_simp
          refine hK.out _ _ (fun _ => HBwu27.out) ?_
          clear hK K zz0 zz1 zz2 f0 f1 f2 HBwu26 Zawu26 Zbwu26 Cawu26 Cbwu26
          generalize ((wu26.setCell ⟨wu20.heap.size, 0, none⟩ (.slice qa0 ma0 da0)).setCell ⟨wu20.heap.size, 1, none⟩ (.slice qa1 ma1 da1)).setCell ⟨wu20.heap.size, 2, none⟩ (.slice qa2 ma2 da2) = wu27 at *
          try simp only [Act.put, List.setIfInBounds_toArray, List.set_cons_zero, List.set_cons_succ]
          refine wpL_one 7 rfl (by kernel_rfl) (by rfl) ?_
          intro K hK
          have zz0 := Zbwu27.out.cell (i := 0) rfl
          have zz1 := Zbwu27.out.cell (i := 1) rfl
          have zz2 := Zbwu27.out.cell (i := 2) rfl
          have f0 := Zbwu27.out.frozen 0
          have f1 := Zbwu27.out.frozen 1
          have f2 := Zbwu27.out.frozen 2
          have hF : Frm wu27 (((wu27.setCell ⟨wu1.heap.size, 0, none⟩ (.slice qb0 mb0 db0)).setCell ⟨wu1.heap.size, 1, none⟩ (.slice qb1 mb1 db1)).setCell ⟨wu1.heap.size, 2, none⟩ (.slice qb2 mb2 db2)) (fun k => k = wu1.heap.size) := ((frm_set _ _ _ _ (F := fun k => k = wu1.heap.size) (.inl rfl)).trans (frm_set _ _ _ _ (F := fun k => k = wu1.heap.size) (.inl rfl)) (fun k hk => .inl hk)).trans (frm_set _ _ _ _ (F := fun k => k = wu1.heap.size) (.inl rfl)) (fun k hk => .inl hk)
          have HBwu28 : Hid (Below wB.heap.size wB (((wu27.setCell ⟨wu1.heap.size, 0, none⟩ (.slice qb0 mb0 db0)).setCell ⟨wu1.heap.size, 1, none⟩ (.slice qb1 mb1 db1)).setCell ⟨wu1.heap.size, 2, none⟩ (.slice qb2 mb2 db2))) := HBwu27.out.trans (hF.below HBwu27.out.size (fun k hk => by have := HLb.out; omega))
          have Zbwu28 : Hid (Blk (((wu27.setCell ⟨wu1.heap.size, 0, none⟩ (.slice qb0 mb0 db0)).setCell ⟨wu1.heap.size, 1, none⟩ (.slice qb1 mb1 db1)).setCell ⟨wu1.heap.size, 2, none⟩ (.slice qb2 mb2 db2)) (wu1.heap.size) #[.slice qb0 mb0 db0, .slice qb1 mb1 db1, .slice qb2 mb2 db2] 25) := ((Zbwu27.out.set 0 _).set 1 _).set 2 _
          have Zawu28 : Hid (Blk (((wu27.setCell ⟨wu1.heap.size, 0, none⟩ (.slice qb0 mb0 db0)).setCell ⟨wu1.heap.size, 1, none⟩ (.slice qb1 mb1 db1)).setCell ⟨wu1.heap.size, 2, none⟩ (.slice qb2 mb2 db2)) (wu20.heap.size) #[.slice qa0 ma0 da0, .slice qa1 ma1 da1, .slice qa2 ma2 da2] 25) := Zawu27.out.frm hF (by have := HNe.out; omega)
          have Cawu28 : Hid (RdF (((wu27.setCell ⟨wu1.heap.size, 0, none⟩ (.slice qb0 mb0 db0)).setCell ⟨wu1.heap.size, 1, none⟩ (.slice qb1 mb1 db1)).setCell ⟨wu1.heap.size, 2, none⟩ (.slice qb2 mb2 db2)) (.slice qa0 ma0 da0) (.slice qa1 ma1 da1) (.slice qa2 ma2 da2) a) := Cawu27.out.frm1 hF Zbwu27.out (slices3 _ _ _ _ _ _ _ _ _)
          have Cbwu28 : Hid (RdF (((wu27.setCell ⟨wu1.heap.size, 0, none⟩ (.slice qb0 mb0 db0)).setCell ⟨wu1.heap.size, 1, none⟩ (.slice qb1 mb1 db1)).setCell ⟨wu1.heap.size, 2, none⟩ (.slice qb2 mb2 db2)) (.slice qb0 mb0 db0) (.slice qb1 mb1 db1) (.slice qb2 mb2 db2) b) := Cbwu27.out.frm1 hF Zbwu27.out (slices3 _ _ _ _ _ _ _ _ _)
          clear hF
          go_simp
          refine hK.out _ _ (fun _ => HBwu28.out) ?_
          clear hK K zz0 zz1 zz2 f0 f1 f2 HBwu27 Zbwu27 Zawu27 Cawu27 Cbwu27
          generalize ((wu27.setCell ⟨wu1.heap.size, 0, none⟩ (.slice qb0 mb0 db0)).setCell ⟨wu1.heap.size, 1, none⟩ (.slice qb1 mb1 db1)).setCell ⟨wu1.heap.size, 2, none⟩ (.slice qb2 mb2 db2) = wu28 at *
          try simp only [Act.put, List.setIfInBounds_toArray, List.set_cons_zero, List.set_cons_succ]
          refine wpL_done (by kernel_rfl) ?_ _
          try simp only [NoPanic]
          go_wp2_with fail
          go_meet
          exact ⟨_, _, _, _, _, _, _, _, _, _, _, _, _, _, _, _, _, _, _, _, rfl, rfl, ⟨Zawu28.out, Zbwu28.out, HBwu28.out, Cawu28.out, Cbwu28.out⟩⟩
    · intro K hK
      go_simp
      have hbwu29 : Below wd.heap.size wd (wd.alloc (.cells #[.slice none 0 0, .slice none 0 0, .slice none 0 0] 25)) := (Below.refl _ _).alloc (Nat.le_refl _) _
      have hzwu29 : Blk (wd.alloc (.cells #[.slice none 0 0, .slice none 0 0, .slice none 0 0] 25)) wd.heap.size #[.slice none 0 0, .slice none 0 0, .slice none 0 0] 25 := Blk.new wd _ _
      generalize (wd.alloc (.cells #[.slice none 0 0, .slice none 0 0, .slice none 0 0] 25)) = wu29 at *
      have HLa : Hid (wB.heap.size ≤ wd.heap.size) := HBwd.out.size
      have HBwu29 : Hid (Below wB.heap.size wB wu29) := HBwd.out.trans ((hbwu29).mono HBwd.out.size)
      have Zawu29 : Hid (Blk wu29 wd.heap.size #[.slice none 0 0, .slice none 0 0, .slice none 0 0] 25) := hzwu29
      clear hbwu29 hzwu29
      clear HBwd
      refine hK.out _ _ (fun _ => HBwu29.out) ?_
      clear hK K
      try simp only [Act.put, List.setIfInBounds_toArray, List.set_cons_zero, List.set_cons_succ]
      refine wpL_two17 1 5 rfl rfl (by kernel_rfl) (by rfl) (by rfl) ?_ ?_
      · intro K hK
        go_simp
        have CPwu30 : Hid (Calls _ _ _ _ _) := rcopyF a _ _ _ wu29 (HRd.out.1.on HBwu29.out)
        refine CPwu30.out.mono ?_
        rintro e wu30 ⟨y0, y1, y2, rfl, hrwu30, hbwu30⟩
        dsimp only
        obtain ⟨qa0, ma0, da0, ey0⟩ : ∃ p n c, y0 = .slice p n c := by
          obtain ⟨p, c, e, _⟩ := hrwu30.p.f
          exact ⟨_, _, _, e⟩
        obtain ⟨qa1, ma1, da1, ey1⟩ : ∃ p n c, y1 = .slice p n c := by
          obtain ⟨p, c, e, _⟩ := hrwu30.s.f
          exact ⟨_, _, _, e⟩
        obtain ⟨qa2, ma2, da2, ey2⟩ : ∃ p n c, y2 = .slice p n c := by
          obtain ⟨p, c, e, _⟩ := hrwu30.w.f
          exact ⟨_, _, _, e⟩
        subst ey0 ey1 ey2
        have HBwu30 : Hid (Below wB.heap.size wB wu30) := HBwu29.out.trans ((hbwu30).mono HBwu29.out.size)
        have Zawu30 : Hid (Blk wu30 wd.heap.size #[.slice none 0 0, .slice none 0 0, .slice none 0 0] 25) := Zawu29.out.on (hbwu30)
        have Cawu30 : Hid (RdF wu30 (.slice qa0 ma0 da0) (.slice qa1 ma1 da1) (.slice qa2 ma2 da2) a) := hrwu30
        clear CPwu30 hrwu30 hbwu30
        clear HBwu29 Zawu29
        refine hK.out _ _ (fun _ => HBwu30.out) ?_
        clear hK K
        try simp only [Act.put, List.setIfInBounds_toArray, List.set_cons_zero, List.set_cons_succ]
        refine wpL_two17 3 5 rfl rfl (by kernel_rfl) (by rfl) (by rfl) ?_ ?_
        · intro K hK
          go_simp
          have CPwu31 : Hid (Calls _ _ _ _ _) := rcopyF b _ _ _ wu30 (HRd.out.2.on HBwu30.out)
          refine CPwu31.out.mono ?_
          rintro e wu31 ⟨y0, y1, y2, rfl, hrwu31, hbwu31⟩
          dsimp only
          obtain ⟨qb0, mb0, db0, ey0⟩ : ∃ p n c, y0 = .slice p n c := by
            obtain ⟨p, c, e, _⟩ := hrwu31.p.f
            exact ⟨_, _, _, e⟩
          obtain ⟨qb1, mb1, db1, ey1⟩ : ∃ p n c, y1 = .slice p n c := by
            obtain ⟨p, c, e, _⟩ := hrwu31.s.f
            exact ⟨_, _, _, e⟩
          obtain ⟨qb2, mb2, db2, ey2⟩ : ∃ p n c, y2 = .slice p n c := by
            obtain ⟨p, c, e, _⟩ := hrwu31.w.f
            exact ⟨_, _, _, e⟩
          subst ey0 ey1 ey2
          have HBwu31 : Hid (Below wB.heap.size wB wu31) := HBwu30.out.trans ((hbwu31).mono HBwu30.out.size)
          have Zawu31 : Hid (Blk wu31 wd.heap.size #[.slice none 0 0, .slice none 0 0, .slice none 0 0] 25) := Zawu30.out.on (hbwu31)
          have Cawu31 : Hid (RdF wu31 (.slice qa0 ma0 da0) (.slice qa1 ma1 da1) (.slice qa2 ma2 da2) a) := Cawu30.out.on (hbwu31)
          have Cbwu31 : Hid (RdF wu31 (.slice qb0 mb0 db0) (.slice qb1 mb1 db1) (.slice qb2 mb2 db2) b) := hrwu31
          clear CPwu31 hrwu31 hbwu31
          clear HBwu30 Zawu30 Cawu30
          refine hK.out _ _ (fun _ => HBwu31.out) ?_
          clear hK K
          try simp only [Act.put, List.setIfInBounds_toArray, List.set_cons_zero, List.set_cons_succ]
          refine wpL_one 5 rfl (by kernel_rfl) (by rfl) ?_
          intro K hK
          go_simp
          have hbwu32 : Below wu31.heap.size wu31 (wu31.alloc (.cells #[.slice none 0 0, .slice none 0 0, .slice none 0 0] 25)) := (Below.refl _ _).alloc (Nat.le_refl _) _
          have hzwu32 : Blk (wu31.alloc (.cells #[.slice none 0 0, .slice none 0 0, .slice none 0 0] 25)) wu31.heap.size #[.slice none 0 0, .slice none 0 0, .slice none 0 0] 25 := Blk.new wu31 _ _
          generalize (wu31.alloc (.cells #[.slice none 0 0, .slice none 0 0, .slice none 0 0] 25)) = wu32 at *
          have HNe : Hid (wd.heap.size < wu31.heap.size) := Zawu31.out.lt
          have HLb : Hid (wB.heap.size ≤ wu31.heap.size) := HBwu31.out.size
          have HBwu32 : Hid (Below wB.heap.size wB wu32) := HBwu31.out.trans ((hbwu32).mono HBwu31.out.size)
          have Zawu32 : Hid (Blk wu32 wd.heap.size #[.slice none 0 0, .slice none 0 0, .slice none 0 0] 25) := Zawu31.out.on (hbwu32)
          have Cawu32 : Hid (RdF wu32 (.slice qa0 ma0 da0) (.slice qa1 ma1 da1) (.slice qa2 ma2 da2) a) := Cawu31.out.on (hbwu32)
          have Cbwu32 : Hid (RdF wu32 (.slice qb0 mb0 db0) (.slice qb1 mb1 db1) (.slice qb2 mb2 db2) b) := Cbwu31.out.on (hbwu32)
          have Zbwu32 : Hid (Blk wu32 wu31.heap.size #[.slice none 0 0, .slice none 0 0, .slice none 0 0] 25) := hzwu32
          clear hbwu32 hzwu32
          clear HBwu31 Zawu31 Cawu31 Cbwu31
          refine hK.out _ _ (fun _ => HBwu32.out) ?_
          clear hK K
          try simp only [Act.put, List.setIfInBounds_toArray, List.set_cons_zero, List.set_cons_succ]
          refine wpL_one 6 rfl (by kernel_rfl) (by rfl) ?_
          intro K hK
          have zz0 := Zawu32.out.cell (i := 0) rfl
          have zz1 := Zawu32.out.cell (i := 1) rfl
          have zz2 := Zawu32.out.cell (i := 2) rfl
          have f0 := Zawu32.out.frozen 0
          have f1 := Zawu32.out.frozen 1
          have f2 := Zawu32.out.frozen 2
          have hF : Frm wu32 (((wu32.setCell ⟨wd.heap.size, 0, none⟩ (.slice qa0 ma0 da0)).setCell ⟨wd.heap.size, 1, none⟩ (.slice qa1 ma1 da1)).setCell ⟨wd.heap.size, 2, none⟩ (.slice qa2 ma2 da2)) (fun k => k = wd.heap.size) := ((frm_set _ _ _ _ (F := fun k => k = wd.heap.size) (.inl rfl)).trans (frm_set _ _ _ _ (F := fun k => k = wd.heap.size) (.inl rfl)) (fun k hk => .inl hk)).trans (frm_set _ _ _ _ (F := fun k => k = wd.heap.size) (.inl rfl)) (fun k hk => .inl hk)
          have HBwu33 : Hid (Below wB.heap.size wB (((wu32.setCell ⟨wd.heap.size, 0, none⟩ (.slice qa0 ma0 da0)).setCell ⟨wd.heap.size, 1, none⟩ (.slice qa1 ma1 da1)).setCell ⟨wd.heap.size, 2, none⟩ (.slice qa2 ma2 da2))) := HBwu32.out.trans (hF.below HBwu32.out.size (fun k hk => by have := HLa.out; omega))
          have Zawu33 : Hid (Blk (((wu32.setCell ⟨wd.heap.size, 0, none⟩ (.slice qa0 ma0 da0)).setCell ⟨wd.heap.size, 1, none⟩ (.slice qa1 ma1 da1)).setCell ⟨wd.heap.size, 2, none⟩ (.slice qa2 ma2 da2)) (wd.heap.size) #[.slice qa0 ma0 da0, .slice qa1 ma1 da1, .slice qa2 ma2 da2] 25) := ((Zawu32.out.set 0 _).set 1 _).set 2 _
          have Zbwu33 : Hid (Blk (((wu32.setCell ⟨wd.heap.size, 0, none⟩ (.slice qa0 ma0 da0)).setCell ⟨wd.heap.size, 1, none⟩ (.slice qa1 ma1 da1)).setCell ⟨wd.heap.size, 2, none⟩ (.slice qa2 ma2 da2)) wu31.heap.size #[.slice none 0 0, .slice none 0 0, .slice none 0 0] 25) := Zbwu32.out.frm hF (by have := HNe.out; omega)
          have Cawu33 : Hid (RdF (((wu32.setCell ⟨wd.heap.size, 0, none⟩ (.slice qa0 ma0 da0)).setCell ⟨wd.heap.size, 1, none⟩ (.slice qa1 ma1 da1)).setCell ⟨wd.heap.size, 2, none⟩ (.slice qa2 ma2 da2)) (.slice qa0 ma0 da0) (.slice qa1 ma1 da1) (.slice qa2 ma2 da2) a) := Cawu32.out.frm1 hF Zawu32.out (slices3 _ _ _ _ _ _ _ _ _)
          have Cbwu33 : Hid (RdF (((wu32.setCell ⟨wd.heap.size, 0, none⟩ (.slice qa0 ma0 da0)).setCell ⟨wd.heap.size, 1, none⟩ (.slice qa1 ma1 da1)).setCell ⟨wd.heap.size, 2, none⟩ (.slice qa2 ma2 da2)) (.slice qb0 mb0 db0) (.slice qb1 mb1 db1) (.slice qb2 mb2 db2) b) := Cbwu32.out.frm1 hF Zawu32.out (slices3 _ _ _ _ _ _ _ _ _)
          clear hF
          go_simp
          refine hK.out _ _ (fun _ => HBwu33.out) ?_
          clear hK K zz0 zz1 zz2 f0 f1 f2 HBwu32 Zawu32 Zbwu32 Cawu32 Cbwu32
          generalize ((wu32.setCell ⟨wd.heap.size, 0, none⟩ (.slice qa0 ma0 da0)).setCell ⟨wd.heap.size, 1, none⟩ (.slice qa1 ma1 da1)).setCell ⟨wd.heap.size, 2, none⟩ (.slice qa2 ma2 da2) = wu33 at *
          try simp only [Act.put, List.setIfInBounds_toArray, List.set_cons_zero, List.set_cons_succ]
          refine wpL_one 7 rfl (by kernel_rfl) (by rfl) ?_
          intro K hK
          have zz0 := Zbwu33.out.cell (i := 0) rfl
          have zz1 := Zbwu33.out.cell (i := 1) rfl
          have zz2 := Zbwu33.out.cell (i := 2) rfl
          have f0 := Zbwu33.out.frozen 0
          have f1 := Zbwu33.out.frozen 1
          have f2 := Zbwu33.out.frozen 2
          have hF : Frm wu33 (((wu33.setCell ⟨wu31.heap.size, 0, none⟩ (.slice qb0 mb0 db0)).setCell ⟨wu31.heap.size, 1, none⟩ (.slice qb1 mb1 db1)).setCell ⟨wu31.heap.size, 2, none⟩ (.slice qb2 mb2 db2)) (fun k => k = wu31.heap.size) := ((frm_set _ _ _ _ (F := fun k => k = wu31.heap.size) (.inl rfl)).trans (frm_set _ _ _ _ (F := fun k => k = wu31.heap.size) (.inl rfl)) (fun k hk => .inl hk)).trans (frm_set _ _ _ _ (F := fun k => k = wu31.heap.size) (.inl rfl)) (fun k hk => .inl hk)
          have HBwu34 : Hid (Below wB.heap.size wB (((wu33.setCell ⟨wu31.heap.size, 0, none⟩ (.slice qb0 mb0 db0)).setCell ⟨wu31.heap.size, 1, none⟩ (.slice qb1 mb1 db1)).setCell ⟨wu31.heap.size, 2, none⟩ (.slice qb2 mb2 db2))) := HBwu33.out.trans (hF.below HBwu33.out.size (fun k hk => by have := HLb.out; omega))
          have Zbwu34 : Hid (Blk (((wu33.setCell ⟨wu31.heap.size, 0, none⟩ (.slice qb0 mb0 db0)).setCell ⟨wu31.heap.size, 1, none⟩ (.slice qb1 mb1 db1)).setCell ⟨wu31.heap.size, 2, none⟩ (.slice qb2 mb2 db2)) (wu31.heap.size) #[.slice qb0 mb0 db0, .slice qb1 mb1 db1, .slice qb2 mb2 db2] 25) := ((Zbwu33.out.set 0 _).set 1 _).set 2 _
          have Zawu34 : Hid (Blk (((wu33.setCell ⟨wu31.heap.size, 0, none⟩ (.slice qb0 mb0 db0)).setCell ⟨wu31.heap.size, 1, none⟩ (.slice qb1 mb1 db1)).setCell ⟨wu31.heap.size, 2, none⟩ (.slice qb2 mb2 db2)) (wd.heap.size) #[.slice qa0 ma0 da0, .slice qa1 ma1 da1, .slice qa2 ma2 da2] 25) := Zawu33.out.frm hF (by have := HNe.out; omega)
          have Cawu34 : Hid (RdF (((wu33.setCell ⟨wu31.heap.size, 0, none⟩ (.slice qb0 mb0 db0)).setCell ⟨wu31.heap.size, 1, none⟩ (.slice qb1 mb1 db1)).setCell ⟨wu31.heap.size, 2, none⟩ (.slice qb2 mb2 db2)) (.slice qa0 ma0 da0) (.slice qa1 ma1 da1) (.slice qa2 ma2 da2) a) := Cawu33.out.frm1 hF Zbwu33.out (slices3 _ _ _ _ _ _ _ _ _)
          have Cbwu34 : Hid (RdF (((wu33.setCell ⟨wu31.heap.size, 0, none⟩ (.slice qb0 mb0 db0)).setCell ⟨wu31.heap.size, 1, none⟩ (.slice qb1 mb1 db1)).setCell ⟨wu31.heap.size, 2, none⟩ (.slice qb2 mb2 db2)) (.slice qb0 mb0 db0) (.slice qb1 mb1 db1) (.slice qb2 mb2 db2) b) := Cbwu33.out.frm1 hF Zbwu33.out (slices3 _ _ _ _ _ _ _ _ _)
          clear hF
          go_simp
          refine hK.out _ _ (fun _ => HBwu34.out) ?_
          clear hK K zz0 zz1 zz2 f0 f1 f2 HBwu33 Zbwu33 Zawu33 Cawu33 Cbwu33
          generalize ((wu33.setCell ⟨wu31.heap.size, 0, none⟩ (.slice qb0 mb0 db0)).setCell ⟨wu31.heap.size, 1, none⟩ (.slice qb1 mb1 db1)).setCell ⟨wu31.heap.size, 2, none⟩ (.slice qb2 mb2 db2) = wu34 at *
          try simp only [Act.put, List.setIfInBounds_toArray, List.set_cons_zero, List.set_cons_succ]
          refine wpL_done (by kernel_rfl) ?_ _
          try simp only [NoPanic]
          go_wp2_with fail
          go_meet
          exact ⟨_, _, _, _, _, _, _, _, _, _, _, _, _, _, _, _, _, _, _, _, rfl, rfl, ⟨Zawu34.out, Zbwu34.out, HBwu34.out, Cawu34.out, Cbwu34.out⟩⟩
        · intro K hK
          go_simp
          have hbwu35 : Below wu30.heap.size wu30 (wu30.alloc (.cells #[.slice none 0 0, .slice none 0 0, .slice none 0 0] 25)) := (Below.refl _ _).alloc (Nat.le_refl _) _
          have hzwu35 : Blk (wu30.alloc (.cells #[.slice none 0 0, .slice none 0 0, .slice none 0 0] 25)) wu30.heap.size #[.slice none 0 0, .slice none 0 0, .slice none 0 0] 25 := Blk.new wu30 _ _
          generalize (wu30.alloc (.cells #[.slice none 0 0, .slice none 0 0, .slice none 0 0] 25)) = wu35 at *
          have HNe : Hid (wd.heap.size < wu30.heap.size) := Zawu30.out.lt
          have HLb : Hid (wB.heap.size ≤ wu30.heap.size) := HBwu30.out.size
          have HBwu35 : Hid (Below wB.heap.size wB wu35) := HBwu30.out.trans ((hbwu35).mono HBwu30.out.size)
          have Zawu35 : Hid (Blk wu35 wd.heap.size #[.slice none 0 0, .slice none 0 0, .slice none 0 0] 25) := Zawu30.out.on (hbwu35)
          have Cawu35 : Hid (RdF wu35 (.slice qa0 ma0 da0) (.slice qa1 ma1 da1) (.slice qa2 ma2 da2) a) := Cawu30.out.on (hbwu35)
          have Zbwu35 : Hid (Blk wu35 wu30.heap.size #[.slice none 0 0, .slice none 0 0, .slice none 0 0] 25) := hzwu35
          clear hbwu35 hzwu35
          clear HBwu30 Zawu30 Cawu30
          refine hK.out _ _ (fun _ => HBwu35.out) ?_
          clear hK K
          try simp only [Act.put, List.setIfInBounds_toArray, List.set_cons_zero, List.set_cons_succ]
          refine wpL_one 3 rfl (by kernel_rfl) (by rfl) ?_
          intro K hK
          go_simp
          have CPwu36 : Hid (Calls _ _ _ _ _) := rcopyF b _ _ _ wu35 (HRd.out.2.on HBwu35.out)
          refine CPwu36.out.mono ?_
          rintro e wu36 ⟨y0, y1, y2, rfl, hrwu36, hbwu36⟩
          dsimp only
          obtain ⟨qb0, mb0, db0, ey0⟩ : ∃ p n c, y0 = .slice p n c := by
            obtain ⟨p, c, e, _⟩ := hrwu36.p.f
            exact ⟨_, _, _, e⟩
          obtain ⟨qb1, mb1, db1, ey1⟩ : ∃ p n c, y1 = .slice p n c := by
            obtain ⟨p, c, e, _⟩ := hrwu36.s.f
            exact ⟨_, _, _, e⟩
          obtain ⟨qb2, mb2, db2, ey2⟩ : ∃ p n c, y2 = .slice p n c := by
            obtain ⟨p, c, e, _⟩ := hrwu36.w.f
            exact ⟨_, _, _, e⟩
          subst ey0 ey1 ey2
          have HBwu36 : Hid (Below wB.heap.size wB wu36) := HBwu35.out.trans ((hbwu36).mono HBwu35.out.size)
          have Zawu36 : Hid (Blk wu36 wd.heap.size #[.slice none 0 0, .slice none 0 0, .slice none 0 0] 25) := Zawu35.out.on (hbwu36)
          have Cawu36 : Hid (RdF wu36 (.slice qa0 ma0 da0) (.slice qa1 ma1 da1) (.slice qa2 ma2 da2) a) := Cawu35.out.on (hbwu36)
          have Zbwu36 : Hid (Blk wu36 wu30.heap.size #[.slice none 0 0, .slice none 0 0, .slice none 0 0] 25) := Zbwu35.out.on (hbwu36)
          have Cbwu36 : Hid (RdF wu36 (.slice qb0 mb0 db0) (.slice qb1 mb1 db1) (.slice qb2 mb2 db2) b) := hrwu36
          clear CPwu36 hrwu36 hbwu36
          clear HBwu35 Zawu35 Cawu35 Zbwu35
          refine hK.out _ _ (fun _ => HBwu36.out) ?_
          clear hK K
          try simp only [Act.put, List.setIfInBounds_toArray, List.set_cons_zero, List.set_cons_succ]
          refine wpL_one 6 rfl (by kernel_rfl) (by rfl) ?_
          intro K hK
          have zz0 := Zawu36.out.cell (i := 0) rfl
          have zz1 := Zawu36.out.cell (i := 1) rfl
          have zz2 := Zawu36.out.cell (i := 2) rfl
          have f0 := Zawu36.out.frozen 0
          have f1 := Zawu36.out.frozen 1
          have f2 := Zawu36.out.frozen 2
          have hF : Frm wu36 (((wu36.setCell ⟨wd.heap.size, 0, none⟩ (.slice qa0 ma0 da0)).setCell ⟨wd.heap.size, 1, none⟩ (.slice qa1 ma1 da1)).setCell ⟨wd.heap.size, 2, none⟩ (.slice qa2 ma2 da2)) (fun k => k = wd.heap.size) := ((frm_set _ _ _ _ (F := fun k => k = wd.heap.size) (.inl rfl)).trans (frm_set _ _ _ _ (F := fun k => k = wd.heap.size) (.inl rfl)) (fun k hk => .inl hk)).trans (frm_set _ _ _ _ (F := fun k => k = wd.heap.size) (.inl rfl)) (fun k hk => .inl hk)
          have HBwu37 : Hid (Below wB.heap.size wB (((wu36.setCell ⟨wd.heap.size, 0, none⟩ (.slice qa0 ma0 da0)).setCell ⟨wd.heap.size, 1, none⟩ (.slice qa1 ma1 da1)).setCell ⟨wd.heap.size, 2, none⟩ (.slice qa2 ma2 da2))) := HBwu36.out.trans (hF.below HBwu36.out.size (fun k hk => by have := HLa.out; omega))
          have Zawu37 : Hid (Blk (((wu36.setCell ⟨wd.heap.size, 0, none⟩ (.slice qa0 ma0 da0)).setCell ⟨wd.heap.size, 1, none⟩ (.slice qa1 ma1 da1)).setCell ⟨wd.heap.size, 2, none⟩ (.slice qa2 ma2 da2)) (wd.heap.size) #[.slice qa0 ma0 da0, .slice qa1 ma1 da1, .slice qa2 ma2 da2] 25) := ((Zawu36.out.set 0 _).set 1 _).set 2 _
          have Zbwu37 : Hid (Blk (((wu36.setCell ⟨wd.heap.size, 0, none⟩ (.slice qa0 ma0 da0)).setCell ⟨wd.heap.size, 1, none⟩ (.slice qa1 ma1 da1)).setCell ⟨wd.heap.size, 2, none⟩ (.slice qa2 ma2 da2)) wu30.heap.size #[.slice none 0 0, .slice none 0 0, .slice none 0 0] 25) := Zbwu36.out.frm hF (by have := HNe.out; omega)
          have Cawu37 : Hid (RdF (((wu36.setCell ⟨wd.heap.size, 0, none⟩ (.slice qa0 ma0 da0)).setCell ⟨wd.heap.size, 1, none⟩ (.slice qa1 ma1 da1)).setCell ⟨wd.heap.size, 2, none⟩ (.slice qa2 ma2 da2)) (.slice qa0 ma0 da0) (.slice qa1 ma1 da1) (.slice qa2 ma2 da2) a) := Cawu36.out.frm1 hF Zawu36.out (slices3 _ _ _ _ _ _ _ _ _)
          have Cbwu37 : Hid (RdF (((wu36.setCell ⟨wd.heap.size, 0, none⟩ (.slice qa0 ma0 da0)).setCell ⟨wd.heap.size, 1, none⟩ (.slice qa1 ma1 da1)).setCell ⟨wd.heap.size, 2, none⟩ (.slice qa2 ma2 da2)) (.slice qb0 mb0 db0) (.slice qb1 mb1 db1) (.slice qb2 mb2 db2) b) := Cbwu36.out.frm1 hF Zawu36.out (slices3 _ _ _ _ _ _ _ _ _)
          clear hF
          go_simp
          refine hK.out _ _ (fun _ => HBwu37.out) ?_
          clear hK K zz0 zz1 zz2 f0 f1 f2 HBwu36 Zawu36 Zbwu36 Cawu36 Cbwu36
          generalize ((wu36.setCell ⟨wd.heap.size, 0, none⟩ (.slice qa0 ma0 da0)).setCell ⟨wd.heap.size, 1, none⟩ (.slice qa1 ma1 da1)).setCell ⟨wd.heap.size, 2, none⟩ (.slice qa2 ma2 da2) = wu37 at *
          try simp only [Act.put, List.setIfInBounds_toArray, List.set_cons_zero, List.set_cons_succ]
          refine wpL_one 7 rfl (by kernel_rfl) (by rfl) ?_
          intro K hK
          have zz0 := Zbwu37.out.cell (i := 0) rfl
          have zz1 := Zbwu37.out.cell (i := 1) rfl
          have zz2 := Zbwu37.out.cell (i := 2) rfl
          have f0 := Zbwu37.out.frozen 0
          have f1 := Zbwu37.out.frozen 1
          have f2 := Zbwu37.out.frozen 2
          have hF : Frm wu37 (((wu37.setCell ⟨wu30.heap.size, 0, none⟩ (.slice qb0 mb0 db0)).setCell ⟨wu30.heap.size, 1, none⟩ (.slice qb1 mb1 db1)).setCell ⟨wu30.heap.size, 2, none⟩ (.slice qb2 mb2 db2)) (fun k => k = wu30.heap.size) := ((frm_set _ _ _ _ (F := fun k => k = wu30.heap.size) (.inl rfl)).trans (frm_set _ _ _ _ (F := fun k => k = wu30.heap.size) (.inl rfl)) (fun k hk => .inl hk)).trans (frm_set _ _ _ _ (F := fun k => k = wu30.heap.size) (.inl rfl)) (fun k hk => .inl hk)
          have HBwu38 : Hid (Below wB.heap.size wB (((wu37.setCell ⟨wu30.heap.size, 0, none⟩ (.slice qb0 mb0 db0)).setCell ⟨wu30.heap.size, 1, none⟩ (.slice qb1 mb1 db1)).setCell ⟨wu30.heap.size, 2, none⟩ (.slice qb2 mb2 db2))) := HBwu37.out.trans (hF.below HBwu37.out.size (fun k hk => by have := HLb.out; omega))
          have Zbwu38 : Hid (Blk (((wu37.setCell ⟨wu30.heap.size, 0, none⟩ (.slice qb0 mb0 db0)).setCell ⟨wu30.heap.size, 1, none⟩ (.slice qb1 mb1 db1)).setCell ⟨wu30.heap.size, 2, none⟩ (.slice qb2 mb2 db2)) (wu30.heap.size) #[.slice qb0 mb0 db0, .slice qb1 mb1 db1, .slice qb2 mb2 db2] 25) := ((Zbwu37.out.set 0 _).set 1 _).set 2 _
          have Zawu38 : Hid (Blk (((wu37.setCell ⟨wu30.heap.size, 0, none⟩ (.slice qb0 mb0 db0)).setCell ⟨wu30.heap.size, 1, none⟩ (.slice qb1 mb1 db1)).setCell ⟨wu30.heap.size, 2, none⟩ (.slice qb2 mb2 db2)) (wd.heap.size) #[.slice qa0 ma0 da0, .slice qa1 ma1 da1, .slice qa2 ma2 da2] 25) := Zawu37.out.frm hF (by have := HNe.out; omega)
          have Cawu38 : Hid (RdF (((wu37.setCell ⟨wu30.heap.size, 0, none⟩ (.slice qb0 mb0 db0)).setCell ⟨wu30.heap.size, 1, none⟩ (.slice qb1 mb1 db1)).setCell ⟨wu30.heap.size, 2, none⟩ (.slice qb2 mb2 db2)) (.slice qa0 ma0 da0) (.slice qa1 ma1 da1) (.slice qa2 ma2 da2) a) := Cawu37.out.frm1 hF Zbwu37.out (slices3 _ _ _ _ _ _ _ _ _)
          have Cbwu38 : Hid (RdF (((wu37.setCell ⟨wu30.heap.size, 0, none⟩ (.slice qb0 mb0 db0)).setCell ⟨wu30.heap.size, 1, none⟩ (.slice qb1 mb1 db1)).setCell ⟨wu30.heap.size, 2, none⟩ (.slice qb2 mb2 db2)) (.slice qb0 mb0 db0) (.slice qb1 mb1 db1) (.slice qb2 mb2 db2) b) := Cbwu37.out.frm1 hF Zbwu37.out (slices3 _ _ _ _ _ _ _ _ _)
          clear hF
          go_simp
          refine hK.out _ _ (fun _ => HBwu38.out) ?_
          clear hK K zz0 zz1 zz2 f0 f1 f2 HBwu37 Zbwu37 Zawu37 Cawu37 Cbwu37
          generalize ((wu37.setCell ⟨wu30.heap.size, 0, none⟩ (.slice qb0 mb0 db0)).setCell ⟨wu30.heap.size, 1, none⟩ (.slice qb1 mb1 db1)).setCell ⟨wu30.heap.size, 2, none⟩ (.slice qb2 mb2 db2) = wu38 at *
          try simp only [Act.put, List.setIfInBounds_toArray, List.set_cons_zero, List.set_cons_succ]
          refine wpL_done (by kernel_rfl) ?_ _
          try simp only [NoPanic]
          go_wp2_with fail
          go_meet
          exact ⟨_, _, _, _, _, _, _, _, _, _, _, _, _, _, _, _, _, _, _, _, rfl, rfl, ⟨Zawu38.out, Zbwu38.out, HBwu38.out, Cawu38.out, Cbwu38.out⟩⟩
      · intro K hK
        go_simp
        have hbwu39 : Below wu29.heap.size wu29 (wu29.alloc (.cells #[.slice none 0 0, .slice none 0 0, .slice none 0 0] 25)) := (Below.refl _ _).alloc (Nat.le_refl _) _
        have hzwu39 : Blk (wu29.alloc (.cells #[.slice none 0 0, .slice none 0 0, .slice none 0 0] 25)) wu29.heap.size #[.slice none 0 0, .slice none 0 0, .slice none 0 0] 25 := Blk.new wu29 _ _
        generalize (wu29.alloc (.cells #[.slice none 0 0, .slice none 0 0, .slice none 0 0] 25)) = wu39 at *
        have HNe : Hid (wd.heap.size < wu29.heap.size) := Zawu29.out.lt
        have HLb : Hid (wB.heap.size ≤ wu29.heap.size) := HBwu29.out.size
        have HBwu39 : Hid (Below wB.heap.size wB wu39) := HBwu29.out.trans ((hbwu39).mono HBwu29.out.size)
        have Zawu39 : Hid (Blk wu39 wd.heap.size #[.slice none 0 0, .slice none 0 0, .slice none 0 0] 25) := Zawu29.out.on (hbwu39)
        have Zbwu39 : Hid (Blk wu39 wu29.heap.size #[.slice none 0 0, .slice none 0 0, .slice none 0 0] 25) := hzwu39
        clear hbwu39 hzwu39
        clear HBwu29 Zawu29
        refine hK.out _ _ (fun _ => HBwu39.out) ?_
        clear hK K
        try simp only [Act.put, List.setIfInBounds_toArray, List.set_cons_zero, List.set_cons_succ]
        refine wpL_one 1 rfl (by kernel_rfl) (by rfl) ?_
        intro K hK
        go_simp
        have CPwu40 : Hid (Calls _ _ _ _ _) := rcopyF a _ _ _ wu39 (HRd.out.1.on HBwu39.out)
        refine CPwu40.out.mono ?_
        rintro e wu40 ⟨y0, y1, y2, rfl, hrwu40, hbwu40⟩
        dsimp only
        obtain ⟨qa0, ma0, da0, ey0⟩ : ∃ p n c, y0 = .slice p n c := by
          obtain ⟨p, c, e, _⟩ := hrwu40.p.f
          exact ⟨_, _, _, e⟩
        obtain ⟨qa1, ma1, da1, ey1⟩ : ∃ p n c, y1 = .slice p n c := by
          obtain ⟨p, c, e, _⟩ := hrwu40.s.f
          exact ⟨_, _, _, e⟩
        obtain ⟨qa2, ma2, da2, ey2⟩ : ∃ p n c, y2 = .slice p n c := by
          obtain ⟨p, c, e, _⟩ := hrwu40.w.f
          exact ⟨_, _, _, e⟩
        subst ey0 ey1 ey2
        have HBwu40 : Hid (Below wB.heap.size wB wu40) := HBwu39.out.trans ((hbwu40).mono HBwu39.out.size)
        have Zawu40 : Hid (Blk wu40 wd.heap.size #[.slice none 0 0, .slice none 0 0, .slice none 0 0] 25) := Zawu39.out.on (hbwu40)
        have Zbwu40 : Hid (Blk wu40 wu29.heap.size #[.slice none 0 0, .slice none 0 0, .slice none 0 0] 25) := Zbwu39.out.on (hbwu40)
        have Cawu40 : Hid (RdF wu40 (.slice qa0 ma0 da0) (.slice qa1 ma1 da1) (.slice qa2 ma2 da2) a) := hrwu40
        clear CPwu40 hrwu40 hbwu40
        clear HBwu39 Zawu39 Zbwu39
        refine hK.out _ _ (fun _ => HBwu40.out) ?_
        clear hK K
        try simp only [Act.put, List.setIfInBounds_toArray, List.set_cons_zero, List.set_cons_succ]
        refine wpL_one 3 rfl (by kernel_rfl) (by rfl) ?_
        intro K hK
        go_simp
        have CPwu41 : Hid (Calls _ _ _ _ _) := rcopyF b _ _ _ wu40 (HRd.out.2.on HBwu40.out)
        refine CPwu41.out.mono ?_
        rintro e wu41 ⟨y0, y1, y2, rfl, hrwu41, hbwu41⟩
        dsimp only
        obtain ⟨qb0, mb0, db0, ey0⟩ : ∃ p n c, y0 = .slice p n c := by
          obtain ⟨p, c, e, _⟩ := hrwu41.p.f
          exact ⟨_, _, _, e⟩
        obtain ⟨qb1, mb1, db1, ey1⟩ : ∃ p n c, y1 = .slice p n c := by
          obtain ⟨p, c, e, _⟩ := hrwu41.s.f
          exact ⟨_, _, _, e⟩
        obtain ⟨qb2, mb2, db2, ey2⟩ : ∃ p n c, y2 = .slice p n c := by
          obtain ⟨p, c, e, _⟩ := hrwu41.w.f
          exact ⟨_, _, _, e⟩
        subst ey0 ey1 ey2
        have HBwu41 : Hid (Below wB.heap.size wB wu41) := HBwu40.out.trans ((hbwu41).mono HBwu40.out.size)
        have Zawu41 : Hid (Blk wu41 wd.heap.size #[.slice none 0 0, .slice none 0 0, .slice none 0 0] 25) := Zawu40.out.on (hbwu41)
        have Zbwu41 : Hid (Blk wu41 wu29.heap.size #[.slice none 0 0, .slice none 0 0, .slice none 0 0] 25) := Zbwu40.out.on (hbwu41)
        have Cawu41 : Hid (RdF wu41 (.slice qa0 ma0 da0) (.slice qa1 ma1 da1) (.slice qa2 ma2 da2) a) := Cawu40.out.on (hbwu41)
        have Cbwu41 : Hid (RdF wu41 (.slice qb0 mb0 db0) (.slice qb1 mb1 db1) (.slice qb2 mb2 db2) b) := hrwu41
        clear CPwu41 hrwu41 hbwu41
        clear HBwu40 Zawu40 Zbwu40 Cawu40
        refine hK.out _ _ (fun _ => HBwu41.out) ?_
        clear hK K
        try simp only [Act.put, List.setIfInBounds_toArray, List.set_cons_zero, List.set_cons_succ]
        refine wpL_one 6 rfl (by kernel_rfl) (by rfl) ?_
        intro K hK
        have zz0 := Zawu41.out.cell (i := 0) rfl
        have zz1 := Zawu41.out.cell (i := 1) rfl
        have zz2 := Zawu41.out.cell (i := 2) rfl
        have f0 := Zawu41.out.frozen 0
        have f1 := Zawu41.out.frozen 1
        have f2 := Zawu41.out.frozen 2
        have hF : Frm wu41 (((wu41.setCell ⟨wd.heap.size, 0, none⟩ (.slice qa0 ma0 da0)).setCell ⟨wd.heap.size, 1, none⟩ (.slice qa1 ma1 da1)).setCell ⟨wd.heap.size, 2, none⟩ (.slice qa2 ma2 da2)) (fun k => k = wd.heap.size) := ((frm_set _ _ _ _ (F := fun k => k = wd.heap.size) (.inl rfl)).trans (frm_set _ _ _ _ (F := fun k => k = wd.heap.size) (.inl rfl)) (fun k hk => .inl hk)).trans (frm_set _ _ _ _ (F := fun k => k = wd.heap.size) (.inl rfl)) (fun k hk => .inl hk)
        have HBwu42 : Hid (Below wB.heap.size wB (((wu41.setCell ⟨wd.heap.size, 0, none⟩ (.slice qa0 ma0 da0)).setCell ⟨wd.heap.size, 1, none⟩ (.slice qa1 ma1 da1)).setCell ⟨wd.heap.size, 2, none⟩ (.slice qa2 ma2 da2))) := HBwu41.out.trans (hF.below HBwu41.out.size (fun k hk => by have := HLa.out; omega))
        have Zawu42 : Hid (Blk (((wu41.setCell ⟨wd.heap.size, 0, none⟩ (.slice qa0 ma0 da0)).setCell ⟨wd.heap.size, 1, none⟩ (.slice qa1 ma1 da1)).setCell ⟨wd.heap.size, 2, none⟩ (.slice qa2 ma2 da2)) (wd.heap.size) #[.slice qa0 ma0 da0, .slice qa1 ma1 da1, .slice qa2 ma2 da2] 25) := ((Zawu41.out.set 0 _).set 1 _).set 2 _
        have Zbwu42 : Hid (Blk (((wu41.setCell ⟨wd.heap.size, 0, none⟩ (.slice qa0 ma0 da0)).setCell ⟨wd.heap.size, 1, none⟩ (.slice qa1 ma1 da1)).setCell ⟨wd.heap.size, 2, none⟩ (.slice qa2 ma2 da2)) wu29.heap.size #[.slice none 0 0, .slice none 0 0, .slice none 0 0] 25) := Zbwu41.out.frm hF (by have := HNe.out; omega)
        have Cawu42 : Hid (RdF (((wu41.setCell ⟨wd.heap.size, 0, none⟩ (.slice qa0 ma0 da0)).setCell ⟨wd.heap.size, 1, none⟩ (.slice qa1 ma1 da1)).setCell ⟨wd.heap.size, 2, none⟩ (.slice qa2 ma2 da2)) (.slice qa0 ma0 da0) (.slice qa1 ma1 da1) (.slice qa2 ma2 da2) a) := Cawu41.out.frm1 hF Zawu41.out (slices3 _ _ _ _ _ _ _ _ _)
        have Cbwu42 : Hid (RdF (((wu41.setCell ⟨wd.heap.size, 0, none⟩ (.slice qa0 ma0 da0)).setCell ⟨wd.heap.size, 1, none⟩ (.slice qa1 ma1 da1)).setCell ⟨wd.heap.size, 2, none⟩ (.slice qa2 ma2 da2)) (.slice qb0 mb0 db0) (.slice qb1 mb1 db1) (.slice qb2 mb2 db2) b) := Cbwu41.out.frm1 hF Zawu41.out (slices3 _ _ _ _ _ _ _ _ _)
        clear hF
        go_simp
        refine hK.out _ _ (fun _ => HBwu42.out) ?_
        clear hK K zz0 zz1 zz2 f0 f1 f2 HBwu41 Zawu41 Zbwu41 Cawu41 Cbwu41
        generalize ((wu41.setCell ⟨wd.heap.size, 0, none⟩ (.slice qa0 ma0 da0)).setCell ⟨wd.heap.size, 1, none⟩ (.slice qa1 ma1 da1)).setCell ⟨wd.heap.size, 2, none⟩ (.slice qa2 ma2 da2) = wu42 at *
        try simp only [Act.put, List.setIfInBounds_toArray, List.set_cons_zero, List.set_cons_succ]
        refine wpL_one 7 rfl (by kernel_rfl) (by rfl) ?_
        intro K hK
        have zz0 := Zbwu42.out.cell (i := 0) rfl
        have zz1 := Zbwu42.out.cell (i := 1) rfl
        have zz2 := Zbwu42.out.cell (i := 2) rfl
        have f0 := Zbwu42.out.frozen 0
        have f1 := Zbwu42.out.frozen 1
        have f2 := Zbwu42.out.frozen 2
        have hF : Frm wu42 (((wu42.setCell ⟨wu29.heap.size, 0, none⟩ (.slice qb0 mb0 db0)).setCell ⟨wu29.heap.size, 1, none⟩ (.slice qb1 mb1 db1)).setCell ⟨wu29.heap.size, 2, none⟩ (.slice qb2 mb2 db2)) (fun k => k = wu29.heap.size) := ((frm_set _ _ _ _ (F := fun k => k = wu29.heap.size) (.inl rfl)).trans (frm_set _ _ _ _ (F := fun k => k = wu29.heap.size) (.inl rfl)) (fun k hk => .inl hk)).trans (frm_set _ _ _ _ (F := fun k => k = wu29.heap.size) (.inl rfl)) (fun k hk => .inl hk)
        have HBwu43 : Hid (Below wB.heap.size wB (((wu42.setCell ⟨wu29.heap.size, 0, none⟩ (.slice qb0 mb0 db0)).setCell ⟨wu29.heap.size, 1, none⟩ (.slice qb1 mb1 db1)).setCell ⟨wu29.heap.size, 2, none⟩ (.slice qb2 mb2 db2))) := HBwu42.out.trans (hF.below HBwu42.out.size (fun k hk => by have := HLb.out; omega))
        have Zbwu43 : Hid (Blk (((wu42.setCell ⟨wu29.heap.size, 0, none⟩ (.slice qb0 mb0 db0)).setCell ⟨wu29.heap.size, 1, none⟩ (.slice qb1 mb1 db1)).setCell ⟨wu29.heap.size, 2, none⟩ (.slice qb2 mb2 db2)) (wu29.heap.size) #[.slice qb0 mb0 db0, .slice qb1 mb1 db1, .slice qb2 mb2 db2] 25) := ((Zbwu42.out.set 0 _).set 1 _).set 2 _
        have Zawu43 : Hid (Blk (((wu42.setCell ⟨wu29.heap.size, 0, none⟩ (.slice qb0 mb0 db0)).setCell ⟨wu29.heap.size, 1, none⟩ (.slice qb1 mb1 db1)).setCell ⟨wu29.heap.size, 2, none⟩ (.slice qb2 mb2 db2)) (wd.heap.size) #[.slice qa0 ma0 da0, .slice qa1 ma1 da1, .slice qa2 ma2 da2] 25) := Zawu42.out.frm hF (by have := HNe.out; omega)
        have Cawu43 : Hid (RdF (((wu42.setCell ⟨wu29.heap.size, 0, none⟩ (.slice qb0 mb0 db0)).setCell ⟨wu29.heap.size, 1, none⟩ (.slice qb1 mb1 db1)).setCell ⟨wu29.heap.size, 2, none⟩ (.slice qb2 mb2 db2)) (.slice qa0 ma0 da0) (.slice qa1 ma1 da1) (.slice qa2 ma2 da2) a) := Cawu42.out.frm1 hF Zbwu42.out (slices3 _ _ _ _ _ _ _ _ _)
        have Cbwu43 : Hid (RdF (((wu42.setCell ⟨wu29.heap.size, 0, none⟩ (.slice qb0 mb0 db0)).setCell ⟨wu29.heap.size, 1, none⟩ (.slice qb1 mb1 db1)).setCell ⟨wu29.heap.size, 2, none⟩ (.slice qb2 mb2 db2)) (.slice qb0 mb0 db0) (.slice qb1 mb1 db1) (.slice qb2 mb2 db2) b) := Cbwu42.out.frm1 hF Zbwu42.out (slices3 _ _ _ _ _ _ _ _ _)
        clear hF
        go_simp
        refine hK.out _ _ (fun _ => HBwu43.out) ?_
        clear hK K zz0 zz1 zz2 f0 f1 f2 HBwu42 Zbwu42 Zawu42 Cawu42 Cbwu42
        generalize ((wu42.setCell ⟨wu29.heap.size, 0, none⟩ (.slice qb0 mb0 db0)).setCell ⟨wu29.heap.size, 1, none⟩ (.slice qb1 mb1 db1)).setCell ⟨wu29.heap.size, 2, none⟩ (.slice qb2 mb2 db2) = wu43 at *
        try simp only [Act.put, List.setIfInBounds_toArray, List.set_cons_zero, List.set_cons_succ]
        refine wpL_done (by kernel_rfl) ?_ _
        try simp only [NoPanic]
        go_wp2_with fail
        go_meet
        exact ⟨_, _, _, _, _, _, _, _, _, _, _, _, _, _, _, _, _, _, _, _, rfl, rfl, ⟨Zawu43.out, Zbwu43.out, HBwu43.out, Cawu43.out, Cbwu43.out⟩⟩
    · intro K hK
      go_simp
      have hbwu44 : Below wd.heap.size wd (wd.alloc (.cells #[.slice none 0 0, .slice none 0 0, .slice none 0 0] 25)) := (Below.refl _ _).alloc (Nat.le_refl _) _
      have hzwu44 : Blk (wd.alloc (.cells #[.slice none 0 0, .slice none 0 0, .slice none 0 0] 25)) wd.heap.size #[.slice none 0 0, .slice none 0 0, .slice none 0 0] 25 := Blk.new wd _ _
      generalize (wd.alloc (.cells #[.slice none 0 0, .slice none 0 0, .slice none 0 0] 25)) = wu44 at *
      have HLb : Hid (wB.heap.size ≤ wd.heap.size) := HBwd.out.size
      have HBwu44 : Hid (Below wB.heap.size wB wu44) := HBwd.out.trans ((hbwu44).mono HBwd.out.size)
      have Zbwu44 : Hid (Blk wu44 wd.heap.size #[.slice none 0 0, .slice none 0 0, .slice none 0 0] 25) := hzwu44
      clear hbwu44 hzwu44
      clear HBwd
      refine hK.out _ _ (fun _ => HBwu44.out) ?_
      clear hK K
      try simp only [Act.put, List.setIfInBounds_toArray, List.set_cons_zero, List.set_cons_succ]
      refine wpL_two17 1 4 rfl rfl (by kernel_rfl) (by rfl) (by rfl) ?_ ?_
      · intro K hK
        go_simp
        have CPwu45 : Hid (Calls _ _ _ _ _) := rcopyF a _ _ _ wu44 (HRd.out.1.on HBwu44.out)
        refine CPwu45.out.mono ?_
        rintro e wu45 ⟨y0, y1, y2, rfl, hrwu45, hbwu45⟩
        dsimp only
        obtain ⟨qa0, ma0, da0, ey0⟩ : ∃ p n c, y0 = .slice p n c := by
          obtain ⟨p, c, e, _⟩ := hrwu45.p.f
          exact ⟨_, _, _, e⟩
        obtain ⟨qa1, ma1, da1, ey1⟩ : ∃ p n c, y1 = .slice p n c := by
          obtain ⟨p, c, e, _⟩ := hrwu45.s.f
          exact ⟨_, _, _, e⟩
        obtain ⟨qa2, ma2, da2, ey2⟩ : ∃ p n c, y2 = .slice p n c := by
          obtain ⟨p, c, e, _⟩ := hrwu45.w.f
          exact ⟨_, _, _, e⟩
        subst ey0 ey1 ey2
        have HBwu45 : Hid (Below wB.heap.size wB wu45) := HBwu44.out.trans ((hbwu45).mono HBwu44.out.size)
        have Zbwu45 : Hid (Blk wu45 wd.heap.size #[.slice none 0 0, .slice none 0 0, .slice none 0 0] 25) := Zbwu44.out.on (hbwu45)
        have Cawu45 : Hid (RdF wu45 (.slice qa0 ma0 da0) (.slice qa1 ma1 da1) (.slice qa2 ma2 da2) a) := hrwu45
        clear CPwu45 hrwu45 hbwu45
        clear HBwu44 Zbwu44
        refine hK.out _ _ (fun _ => HBwu45.out) ?_
        clear hK K
        try simp only [Act.put, List.setIfInBounds_toArray, List.set_cons_zero, List.set_cons_succ]
        refine wpL_two17 3 4 rfl rfl (by kernel_rfl) (by rfl) (by rfl) ?_ ?_
        · intro K hK
          go_simp
          have CPwu46 : Hid (Calls _ _ _ _ _) := rcopyF b _ _ _ wu45 (HRd.out.2.on HBwu45.out)
          refine CPwu46.out.mono ?_
          rintro e wu46 ⟨y0, y1, y2, rfl, hrwu46, hbwu46⟩
          dsimp only
          obtain ⟨qb0, mb0, db0, ey0⟩ : ∃ p n c, y0 = .slice p n c := by
            obtain ⟨p, c, e, _⟩ := hrwu46.p.f
            exact ⟨_, _, _, e⟩
          obtain ⟨qb1, mb1, db1, ey1⟩ : ∃ p n c, y1 = .slice p n c := by
            obtain ⟨p, c, e, _⟩ := hrwu46.s.f
            exact ⟨_, _, _, e⟩
          obtain ⟨qb2, mb2, db2, ey2⟩ : ∃ p n c, y2 = .slice p n c := by
            obtain ⟨p, c, e, _⟩ := hrwu46.w.f
            exact ⟨_, _, _, e⟩
          subst ey0 ey1 ey2
          have HBwu46 : Hid (Below wB.heap.size wB wu46) := HBwu45.out.trans ((hbwu46).mono HBwu45.out.size)
          have Zbwu46 : Hid (Blk wu46 wd.heap.size #[.slice none 0 0, .slice none 0 0, .slice none 0 0] 25) := Zbwu45.out.on (hbwu46)
          have Cawu46 : Hid (RdF wu46 (.slice qa0 ma0 da0) (.slice qa1 ma1 da1) (.slice qa2 ma2 da2) a) := Cawu45.out.on (hbwu46)
          have Cbwu46 : Hid (RdF wu46 (.slice qb0 mb0 db0) (.slice qb1 mb1 db1) (.slice qb2 mb2 db2) b) := hrwu46
          clear CPwu46 hrwu46 hbwu46
          clear HBwu45 Zbwu45 Cawu45
          refine hK.out _ _ (fun _ => HBwu46.out) ?_
          clear hK K
          try simp only [Act.put, List.setIfInBounds_toArray, List.set_cons_zero, List.set_cons_succ]
          refine wpL_one 4 rfl (by kernel_rfl) (by rfl) ?_
          intro K hK
          go_simp
          have hbwu47 : Below wu46.heap.size wu46 (wu46.alloc (.cells #[.slice none 0 0, .slice none 0 0, .slice none 0 0] 25)) := (Below.refl _ _).alloc (Nat.le_refl _) _
          have hzwu47 : Blk (wu46.alloc (.cells #[.slice none 0 0, .slice none 0 0, .slice none 0 0] 25)) wu46.heap.size #[.slice none 0 0, .slice none 0 0, .slice none 0 0] 25 := Blk.new wu46 _ _
          generalize (wu46.alloc (.cells #[.slice none 0 0, .slice none 0 0, .slice none 0 0] 25)) = wu47 at *
          have HNe : Hid (wd.heap.size < wu46.heap.size) := Zbwu46.out.lt
          have HLa : Hid (wB.heap.size ≤ wu46.heap.size) := HBwu46.out.size
          have HBwu47 : Hid (Below wB.heap.size wB wu47) := HBwu46.out.trans ((hbwu47).mono HBwu46.out.size)
          have Zbwu47 : Hid (Blk wu47 wd.heap.size #[.slice none 0 0, .slice none 0 0, .slice none 0 0] 25) := Zbwu46.out.on (hbwu47)
          have Cawu47 : Hid (RdF wu47 (.slice qa0 ma0 da0) (.slice qa1 ma1 da1) (.slice qa2 ma2 da2) a) := Cawu46.out.on (hbwu47)
          have Cbwu47 : Hid (RdF wu47 (.slice qb0 mb0 db0) (.slice qb1 mb1 db1) (.slice qb2 mb2 db2) b) := Cbwu46.out.on (hbwu47)
          have Zawu47 : Hid (Blk wu47 wu46.heap.size #[.slice none 0 0, .slice none 0 0, .slice none 0 0] 25) := hzwu47
          clear hbwu47 hzwu47
          clear HBwu46 Zbwu46 Cawu46 Cbwu46
          refine hK.out _ _ (fun _ => HBwu47.out) ?_
          clear hK K
          try simp only [Act.put, List.setIfInBounds_toArray, List.set_cons_zero, List.set_cons_succ]
          refine wpL_one 6 rfl (by kernel_rfl) (by rfl) ?_
          intro K hK
          have zz0 := Zawu47.out.cell (i := 0) rfl
          have zz1 := Zawu47.out.cell (i := 1) rfl
          have zz2 := Zawu47.out.cell (i := 2) rfl
          have f0 := Zawu47.out.frozen 0
          have f1 := Zawu47.out.frozen 1
          have f2 := Zawu47.out.frozen 2
          have hF : Frm wu47 (((wu47.setCell ⟨wu46.heap.size, 0, none⟩ (.slice qa0 ma0 da0)).setCell ⟨wu46.heap.size, 1, none⟩ (.slice qa1 ma1 da1)).setCell ⟨wu46.heap.size, 2, none⟩ (.slice qa2 ma2 da2)) (fun k => k = wu46.heap.size) := ((frm_set _ _ _ _ (F := fun k => k = wu46.heap.size) (.inl rfl)).trans (frm_set _ _ _ _ (F := fun k => k = wu46.heap.size) (.inl rfl)) (fun k hk => .inl hk)).trans (frm_set _ _ _ _ (F := fun k => k = wu46.heap.size) (.inl rfl)) (fun k hk => .inl hk)
          have HBwu48 : Hid (Below wB.heap.size wB (((wu47.setCell ⟨wu46.heap.size, 0, none⟩ (.slice qa0 ma0 da0)).setCell ⟨wu46.heap.size, 1, none⟩ (.slice qa1 ma1 da1)).setCell ⟨wu46.heap.size, 2, none⟩ (.slice qa2 ma2 da2))) := HBwu47.out.trans (hF.below HBwu47.out.size (fun k hk => by have := HLa.out; omega))
          have Zawu48 : Hid (Blk (((wu47.setCell ⟨wu46.heap.size, 0, none⟩ (.slice qa0 ma0 da0)).setCell ⟨wu46.heap.size, 1, none⟩ (.slice qa1 ma1 da1)).setCell ⟨wu46.heap.size, 2, none⟩ (.slice qa2 ma2 da2)) (wu46.heap.size) #[.slice qa0 ma0 da0, .slice qa1 ma1 da1, .slice qa2 ma2 da2] 25) := ((Zawu47.out.set 0 _).set 1 _).set 2 _
          have Zbwu48 : Hid (Blk (((wu47.setCell ⟨wu46.heap.size, 0, none⟩ (.slice qa0 ma0 da0)).setCell ⟨wu46.heap.size, 1, none⟩ (.slice qa1 ma1 da1)).setCell ⟨wu46.heap.size, 2, none⟩ (.slice qa2 ma2 da2)) wd.heap.size #[.slice none 0 0, .slice none 0 0, .slice none 0 0] 25) := Zbwu47.out.frm hF (by have := HNe.out; omega)
          have Cawu48 : Hid (RdF (((wu47.setCell ⟨wu46.heap.size, 0, none⟩ (.slice qa0 ma0 da0)).setCell ⟨wu46.heap.size, 1, none⟩ (.slice qa1 ma1 da1)).setCell ⟨wu46.heap.size, 2, none⟩ (.slice qa2 ma2 da2)) (.slice qa0 ma0 da0) (.slice qa1 ma1 da1) (.slice qa2 ma2 da2) a) := Cawu47.out.frm1 hF Zawu47.out (slices3 _ _ _ _ _ _ _ _ _)
          have Cbwu48 : Hid (RdF (((wu47.setCell ⟨wu46.heap.size, 0, none⟩ (.slice qa0 ma0 da0)).setCell ⟨wu46.heap.size, 1, none⟩ (.slice qa1 ma1 da1)).setCell ⟨wu46.heap.size, 2, none⟩ (.slice qa2 ma2 da2)) (.slice qb0 mb0 db0) (.slice qb1 mb1 db1) (.slice qb2 mb2 db2) b) := Cbwu47.out.frm1 hF Zawu47.out (slices3 _ _ _ _ _ _ _ _ _)
          clear hF
          go_simp
          refine hK.out _ _ (fun _ => HBwu48.out) ?_
          clear hK K zz0 zz1 zz2 f0 f1 f2 HBwu47 Zawu47 Zbwu47 Cawu47 Cbwu47
          generalize ((wu47.setCell ⟨wu46.heap.size, 0, none⟩ (.slice qa0 ma0 da0)).setCell ⟨wu46.heap.size, 1, none⟩ (.slice qa1 ma1 da1)).setCell ⟨wu46.heap.size, 2, none⟩ (.slice qa2 ma2 da2) = wu48 at *
          try simp only [Act.put, List.setIfInBounds_toArray, List.set_cons_zero, List.set_cons_succ]
          refine wpL_one 7 rfl (by kernel_rfl) (by rfl) ?_
          intro K hK
          have zz0 := Zbwu48.out.cell (i := 0) rfl
          have zz1 := Zbwu48.out.cell (i := 1) rfl
          have zz2 := Zbwu48.out.cell (i := 2) rfl
          have f0 := Zbwu48.out.frozen 0
          have f1 := Zbwu48.out.frozen 1
          have f2 := Zbwu48.out.frozen 2
          have hF : Frm wu48 (((wu48.setCell ⟨wd.heap.size, 0, none⟩ (.slice qb0 mb0 db0)).setCell ⟨wd.heap.size, 1, none⟩ (.slice qb1 mb1 db1)).setCell ⟨wd.heap.size, 2, none⟩ (.slice qb2 mb2 db2)) (fun k => k = wd.heap.size) := ((frm_set _ _ _ _ (F := fun k => k = wd.heap.size) (.inl rfl)).trans (frm_set _ _ _ _ (F := fun k => k = wd.heap.size) (.inl rfl)) (fun k hk => .inl hk)).trans (frm_set _ _ _ _ (F := fun k => k = wd.heap.size) (.inl rfl)) (fun k hk => .inl hk)
          have HBwu49 : Hid (Below wB.heap.size wB (((wu48.setCell ⟨wd.heap.size, 0, none⟩ (.slice qb0 mb0 db0)).setCell ⟨wd.heap.size, 1, none⟩ (.slice qb1 mb1 db1)).setCell ⟨wd.heap.size, 2, none⟩ (.slice qb2 mb2 db2))) := HBwu48.out.trans (hF.below HBwu48.out.size (fun k hk => by have := HLb.out; omega))
          have Zbwu49 : Hid (Blk (((wu48.setCell ⟨wd.heap.size, 0, none⟩ (.slice qb0 mb0 db0)).setCell ⟨wd.heap.size, 1, none⟩ (.slice qb1 mb1 db1)).setCell ⟨wd.heap.size, 2, none⟩ (.slice qb2 mb2 db2)) (wd.heap.size) #[.slice qb0 mb0 db0, .slice qb1 mb1 db1, .slice qb2 mb2 db2] 25) := ((Zbwu48.out.set 0 _).set 1 _).set 2 _
          have Zawu49 : Hid (Blk (((wu48.setCell ⟨wd.heap.size, 0, none⟩ (.slice qb0 mb0 db0)).setCell ⟨wd.heap.size, 1, none⟩ (.slice qb1 mb1 db1)).setCell ⟨wd.heap.size, 2, none⟩ (.slice qb2 mb2 db2)) (wu46.heap.size) #[.slice qa0 ma0 da0, .slice qa1 ma1 da1, .slice qa2 ma2 da2] 25) := Zawu48.out.frm hF (by have := HNe.out; omega)
          have Cawu49 : Hid (RdF (((wu48.setCell ⟨wd.heap.size, 0, none⟩ (.slice qb0 mb0 db0)).setCell ⟨wd.heap.size, 1, none⟩ (.slice qb1 mb1 db1)).setCell ⟨wd.heap.size, 2, none⟩ (.slice qb2 mb2 db2)) (.slice qa0 ma0 da0) (.slice qa1 ma1 da1) (.slice qa2 ma2 da2) a) := Cawu48.out.frm1 hF Zbwu48.out (slices3 _ _ _ _ _ _ _ _ _)
          have Cbwu49 : Hid (RdF (((wu48.setCell ⟨wd.heap.size, 0, none⟩ (.slice qb0 mb0 db0)).setCell ⟨wd.heap.size, 1, none⟩ (.slice qb1 mb1 db1)).setCell ⟨wd.heap.size, 2, none⟩ (.slice qb2 mb2 db2)) (.slice qb0 mb0 db0) (.slice qb1 mb1 db1) (.slice qb2 mb2 db2) b) := Cbwu48.out.frm1 hF Zbwu48.out (slices3 _ _ _ _ _ _ _ _ _)
          clear hF
          go_simp
          refine hK.out _ _ (fun _ => HBwu49.out) ?_
          clear hK K zz0 zz1 zz2 f0 f1 f2 HBwu48 Zbwu48 Zawu48 Cawu48 Cbwu48
          generalize ((wu48.setCell ⟨wd.heap.size, 0, none⟩ (.slice qb0 mb0 db0)).setCell ⟨wd.heap.size, 1, none⟩ (.slice qb1 mb1 db1)).setCell ⟨wd.heap.size, 2, none⟩ (.slice qb2 mb2 db2) = wu49 at *
          try simp only [Act.put, List.setIfInBounds_toArray, List.set_cons_zero, List.set_cons_succ]
          refine wpL_done (by kernel_rfl) ?_ _
          try simp only [NoPanic]
          go_wp2_with fail
          go_meet
          exact ⟨_, _, _, _, _, _, _, _, _, _, _, _, _, _, _, _, _, _, _, _, rfl, rfl, ⟨Zawu49.out, Zbwu49.out, HBwu49.out, Cawu49.out, Cbwu49.out⟩⟩
        · intro K hK
          go_simp
          have hbwu50 : Below wu45.heap.size wu45 (wu45.alloc (.cells #[.slice none 0 0, .slice none 0 0, .slice none 0 0] 25)) := (Below.refl _ _).alloc (Nat.le_refl _) _
          have hzwu50 : Blk (wu45.alloc (.cells #[.slice none 0 0, .slice none 0 0, .slice none 0 0] 25)) wu45.heap.size #[.slice none 0 0, .slice none 0 0, .slice none 0 0] 25 := Blk.new wu45 _ _
          generalize (wu45.alloc (.cells #[.slice none 0 0, .slice none 0 0, .slice none 0 0] 25)) = wu50 at *
          have HNe : Hid (wd.heap.size < wu45.heap.size) := Zbwu45.out.lt
          have HLa : Hid (wB.heap.size ≤ wu45.heap.size) := HBwu45.out.size
          have HBwu50 : Hid (Below wB.heap.size wB wu50) := HBwu45.out.trans ((hbwu50).mono HBwu45.out.size)
          have Zbwu50 : Hid (Blk wu50 wd.heap.size #[.slice none 0 0, .slice none 0 0, .slice none 0 0] 25) := Zbwu45.out.on (hbwu50)
          have Cawu50 : Hid (RdF wu50 (.slice qa0 ma0 da0) (.slice qa1 ma1 da1) (.slice qa2 ma2 da2) a) := Cawu45.out.on (hbwu50)
          have Zawu50 : Hid (Blk wu50 wu45.heap.size #[.slice none 0 0, .slice none 0 0, .slice none 0 0] 25) := hzwu50
          clear hbwu50 hzwu50
          clear HBwu45 Zbwu45 Cawu45
          refine hK.out _ _ (fun _ => HBwu50.out) ?_
          clear hK K
          try simp only [Act.put, List.setIfInBounds_toArray, List.set_cons_zero, List.set_cons_succ]
          refine wpL_one 3 rfl (by kernel_rfl) (by rfl) ?_
          intro K hK
          go_simp
          have CPwu51 : Hid (Calls _ _ _ _ _) := rcopyF b _ _ _ wu50 (HRd.out.2.on HBwu50.out)
          refine CPwu51.out.mono ?_
          rintro e wu51 ⟨y0, y1, y2, rfl, hrwu51, hbwu51⟩
          dsimp only
          obtain ⟨qb0, mb0, db0, ey0⟩ : ∃ p n c, y0 = .slice p n c := by
            obtain ⟨p, c, e, _⟩ := hrwu51.p.f
            exact ⟨_, _, _, e⟩
          obtain ⟨qb1, mb1, db1, ey1⟩ : ∃ p n c, y1 = .slice p n c := by
            obtain ⟨p, c, e, _⟩ := hrwu51.s.f
            exact ⟨_, _, _, e⟩
          obtain ⟨qb2, mb2, db2, ey2⟩ : ∃ p n c, y2 = .slice p n c := by
            obtain ⟨p, c, e, _⟩ := hrwu51.w.f
            exact ⟨_, _, _, e⟩
          subst ey0 ey1 ey2
          have HBwu51 : Hid (Below wB.heap.size wB wu51) := HBwu50.out.trans ((hbwu51).mono HBwu50.out.size)
          have Zbwu51 : Hid (Blk wu51 wd.heap.size #[.slice none 0 0, .slice none 0 0, .slice none 0 0] 25) := Zbwu50.out.on (hbwu51)
          have Cawu51 : Hid (RdF wu51 (.slice qa0 ma0 da0) (.slice qa1 ma1 da1) (.slice qa2 ma2 da2) a) := Cawu50.out.on (hbwu51)
          have Zawu51 : Hid (Blk wu51 wu45.heap.size #[.slice none 0 0, .slice none 0 0, .slice none 0 0] 25) := Zawu50.out.on (hbwu51)
          have Cbwu51 : Hid (RdF wu51 (.slice qb0 mb0 db0) (.slice qb1 mb1 db1) (.slice qb2 mb2 db2) b) := hrwu51
          clear CPwu51 hrwu51 hbwu51
          clear HBwu50 Zbwu50 Cawu50 Zawu50
          refine hK.out _ _ (fun _ => HBwu51.out) ?_
          clear hK K
          try simp only [Act.put, List.setIfInBounds_toArray, List.set_cons_zero, List.set_cons_succ]
          refine wpL_one 6 rfl (by kernel_rfl) (by rfl) ?_
          intro K hK
          have zz0 := Zawu51.out.cell (i := 0) rfl
          have zz1 := Zawu51.out.cell (i := 1) rfl
          have zz2 := Zawu51.out.cell (i := 2) rfl
          have f0 := Zawu51.out.frozen 0
          have f1 := Zawu51.out.frozen 1
          have f2 := Zawu51.out.frozen 2
          have hF : Frm wu51 (((wu51.setCell ⟨wu45.heap.size, 0, none⟩ (.slice qa0 ma0 da0)).setCell ⟨wu45.heap.size, 1, none⟩ (.slice qa1 ma1 da1)).setCell ⟨wu45.heap.size, 2, none⟩ (.slice qa2 ma2 da2)) (fun k => k = wu45.heap.size) := ((frm_set _ _ _ _ (F := fun k => k = wu45.heap.size) (.inl rfl)).trans (frm_set _ _ _ _ (F := fun k => k = wu45.heap.size) (.inl rfl)) (fun k hk => .inl hk)).trans (frm_set _ _ _ _ (F := fun k => k = wu45.heap.size) (.inl rfl)) (fun k hk => .inl hk)
          have HBwu52 : Hid (Below wB.heap.size wB (((wu51.setCell ⟨wu45.heap.size, 0, none⟩ (.slice qa0 ma0 da0)).setCell ⟨wu45.heap.size, 1, none⟩ (.slice qa1 ma1 da1)).setCell ⟨wu45.heap.size, 2, none⟩ (.slice qa2 ma2 da2))) := HBwu51.out.trans (hF.below HBwu51.out.size (fun k hk => by have := HLa.out; omega))
          have Zawu52 : Hid (Blk (((wu51.setCell ⟨wu45.heap.size, 0, none⟩ (.slice qa0 ma0 da0)).setCell ⟨wu45.heap.size, 1, none⟩ (.slice qa1 ma1 da1)).setCell ⟨wu45.heap.size, 2, none⟩ (.slice qa2 ma2 da2)) (wu45.heap.size) #[.slice qa0 ma0 da0, .slice qa1 ma1 da1, .slice qa2 ma2 da2] 25) := ((Zawu51.out.set 0 _).set 1 _).set 2 _
          have Zbwu52 : Hid (Blk (((wu51.setCell ⟨wu45.heap.size, 0, none⟩ (.slice qa0 ma0 da0)).setCell ⟨wu45.heap.size, 1, none⟩ (.slice qa1 ma1 da1)).setCell ⟨wu45.heap.size, 2, none⟩ (.slice qa2 ma2 da2)) wd.heap.size #[.slice none 0 0, .slice none 0 0, .slice none 0 0] 25) := Zbwu51.out.frm hF (by have := HNe.out; omega)
          have Cawu52 : Hid (RdF (((wu51.setCell ⟨wu45.heap.size, 0, none⟩ (.slice qa0 ma0 da0)).setCell ⟨wu45.heap.size, 1, none⟩ (.slice qa1 ma1 da1)).setCell ⟨wu45.heap.size, 2, none⟩ (.slice qa2 ma2 da2)) (.slice qa0 ma0 da0) (.slice qa1 ma1 da1) (.slice qa2 ma2 da2) a) := Cawu51.out.frm1 hF Zawu51.out (slices3 _ _ _ _ _ _ _ _ _)
          have Cbwu52 : Hid (RdF (((wu51.setCell ⟨wu45.heap.size, 0, none⟩ (.slice qa0 ma0 da0)).setCell ⟨wu45.heap.size, 1, none⟩ (.slice qa1 ma1 da1)).setCell ⟨wu45.heap.size, 2, none⟩ (.slice qa2 ma2 da2)) (.slice qb0 mb0 db0) (.slice qb1 mb1 db1) (.slice qb2 mb2 db2) b) := Cbwu51.out.frm1 hF Zawu51.out (slices3 _ _ _ _ _ _ _ _ _)
          clear hF
          go_simp
          refine hK.out _ _ (fun _ => HBwu52.out) ?_
          clear hK K zz0 zz1 zz2 f0 f1 f2 HBwu51 Zawu51 Zbwu51 Cawu51 Cbwu51
          generalize ((wu51.setCell ⟨wu45.heap.size, 0, none⟩ (.slice qa0 ma0 da0)).setCell ⟨wu45.heap.size, 1, none⟩ (.slice qa1 ma1 da1)).setCell ⟨wu45.heap.size, 2, none⟩ (.slice qa2 ma2 da2) = wu52 at *
          try simp only [Act.put, List.setIfInBounds_toArray, List.set_cons_zero, List.set_cons_succ]
          refine wpL_one 7 rfl (by kernel_rfl) (by rfl) ?_
          intro K hK
          have zz0 := Zbwu52.out.cell (i := 0) rfl
          have zz1 := Zbwu52.out.cell (i := 1) rfl
          have zz2 := Zbwu52.out.cell (i := 2) rfl
          have f0 := Zbwu52.out.frozen 0
          have f1 := Zbwu52.out.frozen 1
          have f2 := Zbwu52.out.frozen 2
          have hF : Frm wu52 (((wu52.setCell ⟨wd.heap.size, 0, none⟩ (.slice qb0 mb0 db0)).setCell ⟨wd.heap.size, 1, none⟩ (.slice qb1 mb1 db1)).setCell ⟨wd.heap.size, 2, none⟩ (.slice qb2 mb2 db2)) (fun k => k = wd.heap.size) := ((frm_set _ _ _ _ (F := fun k => k = wd.heap.size) (.inl rfl)).trans (frm_set _ _ _ _ (F := fun k => k = wd.heap.size) (.inl rfl)) (fun k hk => .inl hk)).trans (frm_set _ _ _ _ (F := fun k => k = wd.heap.size) (.inl rfl)) (fun k hk => .inl hk)
          have HBwu53 : Hid (Below wB.heap.size wB (((wu52.setCell ⟨wd.heap.size, 0, none⟩ (.slice qb0 mb0 db0)).setCell ⟨wd.heap.size, 1, none⟩ (.slice qb1 mb1 db1)).setCell ⟨wd.heap.size, 2, none⟩ (.slice qb2 mb2 db2))) := HBwu52.out.trans (hF.below HBwu52.out.size (fun k hk => by have := HLb.out; omega))
          have Zbwu53 : Hid (Blk (((wu52.setCell ⟨wd.heap.size, 0, none⟩ (.slice qb0 mb0 db0)).setCell ⟨wd.heap.size, 1, none⟩ (.slice qb1 mb1 db1)).setCell ⟨wd.heap.size, 2, none⟩ (.slice qb2 mb2 db2)) (wd.heap.size) #[.slice qb0 mb0 db0, .slice qb1 mb1 db1, .slice qb2 mb2 db2] 25) := ((Zbwu52.out.set 0 _).set 1 _).set 2 _
          have Zawu53 : Hid (Blk (((wu52.setCell ⟨wd.heap.size, 0, none⟩ (.slice qb0 mb0 db0)).setCell ⟨wd.heap.size, 1, none⟩ (.slice qb1 mb1 db1)).setCell ⟨wd.heap.size, 2, none⟩ (.slice qb2 mb2 db2)) (wu45.heap.size) #[.slice qa0 ma0 da0, .slice qa1 ma1 da1, .slice qa2 ma2 da2] 25) := Zawu52.out.frm hF (by have := HNe.out; omega)
          have Cawu53 : Hid (RdF (((wu52.setCell ⟨wd.heap.size, 0, none⟩ (.slice qb0 mb0 db0)).setCell ⟨wd.heap.size, 1, none⟩ (.slice qb1 mb1 db1)).setCell ⟨wd.heap.size, 2, none⟩ (.slice qb2 mb2 db2)) (.slice qa0 ma0 da0) (.slice qa1 ma1 da1) (.slice qa2 ma2 da2) a) := Cawu52.out.frm1 hF Zbwu52.out (slices3 _ _ _ _ _ _ _ _ _)
          have Cbwu53 : Hid (RdF (((wu52.setCell ⟨wd.heap.size, 0, none⟩ (.slice qb0 mb0 db0)).setCell ⟨wd.heap.size, 1, none⟩ (.slice qb1 mb1 db1)).setCell ⟨wd.heap.size, 2, none⟩ (.slice qb2 mb2 db2)) (.slice qb0 mb0 db0) (.slice qb1 mb1 db1) (.slice qb2 mb2 db2) b) := Cbwu52.out.frm1 hF Zbwu52.out (slices3 _ _ _ _ _ _ _ _ _)
          clear hF
          go_simp
          refine hK.out _ _ (fun _ => HBwu53.out) ?_
          clear hK K zz0 zz1 zz2 f0 f1 f2 HBwu52 Zbwu52 Zawu52 Cawu52 Cbwu52
          generalize ((wu52.setCell ⟨wd.heap.size, 0, none⟩ (.slice qb0 mb0 db0)).setCell ⟨wd.heap.size, 1, none⟩ (.slice qb1 mb1 db1)).setCell ⟨wd.heap.size, 2, none⟩ (.slice qb2 mb2 db2) = wu53 at *
          try simp only [Act.put, List.setIfInBounds_toArray, List.set_cons_zero, List.set_cons_succ]
          refine wpL_done (by kernel_rfl) ?_ _
          try simp only [NoPanic]
          go_wp2_with fail
          go_meet
          exact ⟨_, _, _, _, _, _, _, _, _, _, _, _, _, _, _, _, _, _, _, _, rfl, rfl, ⟨Zawu53.out, Zbwu53.out, HBwu53.out, Cawu53.out, Cbwu53.out⟩⟩
      · intro K hK
        go_simp
        have hbwu54 : Below wu44.heap.size wu44 (wu44.alloc (.cells #[.slice none 0 0, .slice none 0 0, .slice none 0 0] 25)) := (Below.refl _ _).alloc (Nat.le_refl _) _
        have hzwu54 : Blk (wu44.alloc (.cells #[.slice none 0 0, .slice none 0 0, .slice none 0 0] 25)) wu44.heap.size #[.slice none 0 0, .slice none 0 0, .slice none 0 0] 25 := Blk.new wu44 _ _
        generalize (wu44.alloc (.cells #[.slice none 0 0, .slice none 0 0, .slice none 0 0] 25)) = wu54 at *
        have HNe : Hid (wd.heap.size < wu44.heap.size) := Zbwu44.out.lt
        have HLa : Hid (wB.heap.size ≤ wu44.heap.size) := HBwu44.out.size
        have HBwu54 : Hid (Below wB.heap.size wB wu54) := HBwu44.out.trans ((hbwu54).mono HBwu44.out.size)
        have Zbwu54 : Hid (Blk wu54 wd.heap.size #[.slice none 0 0, .slice none 0 0, .slice none 0 0] 25) := Zbwu44.out.on (hbwu54)
        have Zawu54 : Hid (Blk wu54 wu44.heap.size #[.slice none 0 0, .slice none 0 0, .slice none 0 0] 25) := hzwu54
        clear hbwu54 hzwu54
        clear HBwu44 Zbwu44
        refine hK.out _ _ (fun _ => HBwu54.out) ?_
        clear hK K
        try simp only [Act.put, List.setIfInBounds_toArray, List.set_cons_zero, List.set_cons_succ]
        refine wpL_one 1 rfl (by kernel_rfl) (by rfl) ?_
        intro K hK
        go_simp
        have CPwu55 : Hid (Calls _ _ _ _ _) := rcopyF a _ _ _ wu54 (HRd.out.1.on HBwu54.out)
        refine CPwu55.out.mono ?_
        rintro e wu55 ⟨y0, y1, y2, rfl, hrwu55, hbwu55⟩
        dsimp only
        obtain ⟨qa0, ma0, da0, ey0⟩ : ∃ p n c, y0 = .slice p n c := by
          obtain ⟨p, c, e, _⟩ := hrwu55.p.f
          exact ⟨_, _, _, e⟩
        obtain ⟨qa1, ma1, da1, ey1⟩ : ∃ p n c, y1 = .slice p n c := by
          obtain ⟨p, c, e, _⟩ := hrwu55.s.f
          exact ⟨_, _, _, e⟩
        obtain ⟨qa2, ma2, da2, ey2⟩ : ∃ p n c, y2 = .slice p n c := by
          obtain ⟨p, c, e, _⟩ := hrwu55.w.f
          exact ⟨_, _, _, e⟩
        subst ey0 ey1 ey2
        have HBwu55 : Hid (Below wB.heap.size wB wu55) := HBwu54.out.trans ((hbwu55).mono HBwu54.out.size)
        have Zbwu55 : Hid (Blk wu55 wd.heap.size #[.slice none 0 0, .slice none 0 0, .slice none 0 0] 25) := Zbwu54.out.on (hbwu55)
        have Zawu55 : Hid (Blk wu55 wu44.heap.size #[.slice none 0 0, .slice none 0 0, .slice none 0 0] 25) := Zawu54.out.on (hbwu55)
        have Cawu55 : Hid (RdF wu55 (.slice qa0 ma0 da0) (.slice qa1 ma1 da1) (.slice qa2 ma2 da2) a) := hrwu55
        clear CPwu55 hrwu55 hbwu55
        clear HBwu54 Zbwu54 Zawu54
        refine hK.out _ _ (fun _ => HBwu55.out) ?_
        clear hK K
        try simp only [Act.put, List.setIfInBounds_toArray, List.set_cons_zero, List.set_cons_succ]
        refine wpL_one 3 rfl (by kernel_rfl) (by rfl) ?_
        intro K hK
        go_simp
        have CPwu56 : Hid (Calls _ _ _ _ _) := rcopyF b _ _ _ wu55 (HRd.out.2.on HBwu55.out)
        refine CPwu56.out.mono ?_
        rintro e wu56 ⟨y0, y1, y2, rfl, hrwu56, hbwu56⟩
        dsimp only
        obtain ⟨qb0, mb0, db0, ey0⟩ : ∃ p n c, y0 = .slice p n c := by
          obtain ⟨p, c, e, _⟩ := hrwu56.p.f
          exact ⟨_, _, _, e⟩
        obtain ⟨qb1, mb1, db1, ey1⟩ : ∃ p n c, y1 = .slice p n c := by
          obtain ⟨p, c, e, _⟩ := hrwu56.s.f
          exact ⟨_, _, _, e⟩
        obtain ⟨qb2, mb2, db2, ey2⟩ : ∃ p n c, y2 = .slice p n c := by
          obtain ⟨p, c, e, _⟩ := hrwu56.w.f
          exact ⟨_, _, _, e⟩
        subst ey0 ey1 ey2
        have HBwu56 : Hid (Below wB.heap.size wB wu56) := HBwu55.out.trans ((hbwu56).mono HBwu55.out.size)
        have Zbwu56 : Hid (Blk wu56 wd.heap.size #[.slice none 0 0, .slice none 0 0, .slice none 0 0] 25) := Zbwu55.out.on (hbwu56)
        have Zawu56 : Hid (Blk wu56 wu44.heap.size #[.slice none 0 0, .slice none 0 0, .slice none 0 0] 25) := Zawu55.out.on (hbwu56)
        have Cawu56 : Hid (RdF wu56 (.slice qa0 ma0 da0) (.slice qa1 ma1 da1) (.slice qa2 ma2 da2) a) := Cawu55.out.on (hbwu56)
        have Cbwu56 : Hid (RdF wu56 (.slice qb0 mb0 db0) (.slice qb1 mb1 db1) (.slice qb2 mb2 db2) b) := hrwu56
        clear CPwu56 hrwu56 hbwu56
        clear HBwu55 Zbwu55 Zawu55 Cawu55
        refine hK.out _ _ (fun _ => HBwu56.out) ?_
        clear hK K
        try simp only [Act.put, List.setIfInBounds_toArray, List.set_cons_zero, List.set_cons_succ]
        refine wpL_one 6 rfl (by kernel_rfl) (by rfl) ?_
        intro K hK
        have zz0 := Zawu56.out.cell (i := 0) rfl
        have zz1 := Zawu56.out.cell (i := 1) rfl
        have zz2 := Zawu56.out.cell (i := 2) rfl
        have f0 := Zawu56.out.frozen 0
        have f1 := Zawu56.out.frozen 1
        have f2 := Zawu56.out.frozen 2
        have hF : Frm wu56 (((wu56.setCell ⟨wu44.heap.size, 0, none⟩ (.slice qa0 ma0 da0)).setCell ⟨wu44.heap.size, 1, none⟩ (.slice qa1 ma1 da1)).setCell ⟨wu44.heap.size, 2, none⟩ (.slice qa2 ma2 da2)) (fun k => k = wu44.heap.size) := ((frm_set _ _ _ _ (F := fun k => k = wu44.heap.size) (.inl rfl)).trans (frm_set _ _ _ _ (F := fun k => k = wu44.heap.size) (.inl rfl)) (fun k hk => .inl hk)).trans (frm_set _ _ _ _ (F := fun k => k = wu44.heap.size) (.inl rfl)) (fun k hk => .inl hk)
        have HBwu57 : Hid (Below wB.heap.size wB (((wu56.setCell ⟨wu44.heap.size, 0, none⟩ (.slice qa0 ma0 da0)).setCell ⟨wu44.heap.size, 1, none⟩ (.slice qa1 ma1 da1)).setCell ⟨wu44.heap.size, 2, none⟩ (.slice qa2 ma2 da2))) := HBwu56.out.trans (hF.below HBwu56.out.size (fun k hk => by have := HLa.out; omega))
        have Zawu57 : Hid (Blk (((wu56.setCell ⟨wu44.heap.size, 0, none⟩ (.slice qa0 ma0 da0)).setCell ⟨wu44.heap.size, 1, none⟩ (.slice qa1 ma1 da1)).setCell ⟨wu44.heap.size, 2, none⟩ (.slice qa2 ma2 da2)) (wu44.heap.size) #[.slice qa0 ma0 da0, .slice qa1 ma1 da1, .slice qa2 ma2 da2] 25) := ((Zawu56.out.set 0 _).set 1 _).set 2 _
        have Zbwu57 : Hid (Blk (((wu56.setCell ⟨wu44.heap.size, 0, none⟩ (.slice qa0 ma0 da0)).setCell ⟨wu44.heap.size, 1, none⟩ (.slice qa1 ma1 da1)).setCell ⟨wu44.heap.size, 2, none⟩ (.slice qa2 ma2 da2)) wd.heap.size #[.slice none 0 0, .slice none 0 0, .slice none 0 0] 25) := Zbwu56.out.frm hF (by have := HNe.out; omega)
        have Cawu57 : Hid (RdF (((wu56.setCell ⟨wu44.heap.size, 0, none⟩ (.slice qa0 ma0 da0)).setCell ⟨wu44.heap.size, 1, none⟩ (.slice qa1 ma1 da1)).setCell ⟨wu44.heap.size, 2, none⟩ (.slice qa2 ma2 da2)) (.slice qa0 ma0 da0) (.slice qa1 ma1 da1) (.slice qa2 ma2 da2) a) := Cawu56.out.frm1 hF Zawu56.out (slices3 _ _ _ _ _ _ _ _ _)
        have Cbwu57 : Hid (RdF (((wu56.setCell ⟨wu44.heap.size, 0, none⟩ (.slice qa0 ma0 da0)).setCell ⟨wu44.heap.size, 1, none⟩ (.slice qa1 ma1 da1)).setCell ⟨wu44.heap.size, 2, none⟩ (.slice qa2 ma2 da2)) (.slice qb0 mb0 db0) (.slice qb1 mb1 db1) (.slice qb2 mb2 db2) b) := Cbwu56.out.frm1 hF Zawu56.out (slices3 _ _ _ _ _ _ _ _ _)
        clear hF
        go_simp
        refine hK.out _ _ (fun _ => HBwu57.out) ?_
        clear hK K zz0 zz1 zz2 f0 f1 f2 HBwu56 Zawu56 Zbwu56 Cawu56 Cbwu56
        generalize ((wu56.setCell ⟨wu44.heap.size, 0, none⟩ (.slice qa0 ma0 da0)).setCell ⟨wu44.heap.size, 1, none⟩ (.slice qa1 ma1 da1)).setCell ⟨wu44.heap.size, 2, none⟩ (.slice qa2 ma2 da2) = wu57 at *
        try simp only [Act.put, List.setIfInBounds_toArray, List.set_cons_zero, List.set_cons_succ]
        refine wpL_one 7 rfl (by kernel_rfl) (by rfl) ?_
        intro K hK
        have zz0 := Zbwu57.out.cell (i := 0) rfl
        have zz1 := Zbwu57.out.cell (i := 1) rfl
        have zz2 := Zbwu57.out.cell (i := 2) rfl
        have f0 := Zbwu57.out.frozen 0
        have f1 := Zbwu57.out.frozen 1
        have f2 := Zbwu57.out.frozen 2
        have hF : Frm wu57 (((wu57.setCell ⟨wd.heap.size, 0, none⟩ (.slice qb0 mb0 db0)).setCell ⟨wd.heap.size, 1, none⟩ (.slice qb1 mb1 db1)).setCell ⟨wd.heap.size, 2, none⟩ (.slice qb2 mb2 db2)) (fun k => k = wd.heap.size) := ((frm_set _ _ _ _ (F := fun k => k = wd.heap.size) (.inl rfl)).trans (frm_set _ _ _ _ (F := fun k => k = wd.heap.size) (.inl rfl)) (fun k hk => .inl hk)).trans (frm_set _ _ _ _ (F := fun k => k = wd.heap.size) (.inl rfl)) (fun k hk => .inl hk)
        have HBwu58 : Hid (Below wB.heap.size wB (((wu57.setCell ⟨wd.heap.size, 0, none⟩ (.slice qb0 mb0 db0)).setCell ⟨wd.heap.size, 1, none⟩ (.slice qb1 mb1 db1)).setCell ⟨wd.heap.size, 2, none⟩ (.slice qb2 mb2 db2))) := HBwu57.out.trans (hF.below HBwu57.out.size (fun k hk => by have := HLb.out; omega))
        have Zbwu58 : Hid (Blk (((wu57.setCell ⟨wd.heap.size, 0, none⟩ (.slice qb0 mb0 db0)).setCell ⟨wd.heap.size, 1, none⟩ (.slice qb1 mb1 db1)).setCell ⟨wd.heap.size, 2, none⟩ (.slice qb2 mb2 db2)) (wd.heap.size) #[.slice qb0 mb0 db0, .slice qb1 mb1 db1, .slice qb2 mb2 db2] 25) := ((Zbwu57.out.set 0 _).set 1 _).set 2 _
        have Zawu58 : Hid (Blk (((wu57.setCell ⟨wd.heap.size, 0, none⟩ (.slice qb0 mb0 db0)).setCell ⟨wd.heap.size, 1, none⟩ (.slice qb1 mb1 db1)).setCell ⟨wd.heap.size, 2, none⟩ (.slice qb2 mb2 db2)) (wu44.heap.size) #[.slice qa0 ma0 da0, .slice qa1 ma1 da1, .slice qa2 ma2 da2] 25) := Zawu57.out.frm hF (by have := HNe.out; omega)
        have Cawu58 : Hid (RdF (((wu57.setCell ⟨wd.heap.size, 0, none⟩ (.slice qb0 mb0 db0)).setCell ⟨wd.heap.size, 1, none⟩ (.slice qb1 mb1 db1)).setCell ⟨wd.heap.size, 2, none⟩ (.slice qb2 mb2 db2)) (.slice qa0 ma0 da0) (.slice qa1 ma1 da1) (.slice qa2 ma2 da2) a) := Cawu57.out.frm1 hF Zbwu57.out (slices3 _ _ _ _ _ _ _ _ _)
        have Cbwu58 : Hid (RdF (((wu57.setCell ⟨wd.heap.size, 0, none⟩ (.slice qb0 mb0 db0)).setCell ⟨wd.heap.size, 1, none⟩ (.slice qb1 mb1 db1)).setCell ⟨wd.heap.size, 2, none⟩ (.slice qb2 mb2 db2)) (.slice qb0 mb0 db0) (.slice qb1 mb1 db1) (.slice qb2 mb2 db2) b) := Cbwu57.out.frm1 hF Zbwu57.out (slices3 _ _ _ _ _ _ _ _ _)
        clear hF
        go_simp
        refine hK.out _ _ (fun _ => HBwu58.out) ?_
        clear hK K zz0 zz1 zz2 f0 f1 f2 HBwu57 Zbwu57 Zawu57 Cawu57 Cbwu57
        generalize ((wu57.setCell ⟨wd.heap.size, 0, none⟩ (.slice qb0 mb0 db0)).setCell ⟨wd.heap.size, 1, none⟩ (.slice qb1 mb1 db1)).setCell ⟨wd.heap.size, 2, none⟩ (.slice qb2 mb2 db2) = wu58 at *
        try simp only [Act.put, List.setIfInBounds_toArray, List.set_cons_zero, List.set_cons_succ]
        refine wpL_done (by kernel_rfl) ?_ _
        try simp only [NoPanic]
        go_wp2_with fail
        go_meet
        exact ⟨_, _, _, _, _, _, _, _, _, _, _, _, _, _, _, _, _, _, _, _, rfl, rfl, ⟨Zawu58.out, Zbwu58.out, HBwu58.out, Cawu58.out, Cbwu58.out⟩⟩
  case rest =>
    obtain ⟨βa, βb, qa0, qa1, qa2, qb0, qb1, qb2, ma0, ma1, ma2, mb0, mb1, mb2, da0, da1, da2, db0, db1, db2, rfl, rfl, H1⟩ := hcut
    generalize wc = w1 at *
    go_wp2_with fail
    go_loopw [7] (fun i wr => ∃ r : Nat, r ≤ 2 ∧ i = .int .i64 (r : Int) ∧ Hid (Below w1.heap.size w1 wr)) (fun i _ => 2 - (intOf i).toNat)
    case atStart => exact ⟨0, by omega, by go_num, Below.refl _ _⟩
    case round =>
      obtain ⟨r, hr, rfl, BWr⟩ := hrel
      by_cases hr0 : r = 2
      · subst hr0
        have CW : Hid (Calls _ _ _ _ _) := awake_any wr
        have HEE : Hid (Below w.heap.size w wr) := (HE.out.trans (H1.out.2.2.1.mono HE.out.size)).trans (BWr.out.mono (Nat.le_trans HE.out.size H1.out.2.2.1.size))
        go_wp2_with fail
        refine CW.out.mono ?_
        rintro e w7 ⟨rfl, hb7⟩
        have HE7 : Hid (Below w.heap.size w w7) := HEE.out.trans (hb7.mono HEE.out.size)
        clear CW hb7
        go_wp2_with fail
        go_ret
        exact ⟨rfl, HE7.out⟩
      · have hr1 : r < 2 := by omega
        generalize wr = wq at *
        have BWq : Hid (Below w1.heap.size w1 wq) := BWr.out
        clear BWr
        have KAq : Hid (Blk wq βa #[.slice qa0 ma0 da0, .slice qa1 ma1 da1, .slice qa2 ma2 da2] 25) := H1.out.1.on BWq.out
        have KBq : Hid (Blk wq βb #[.slice qb0 mb0 db0, .slice qb1 mb1 db1, .slice qb2 mb2 db2] 25) := H1.out.2.1.on BWq.out
        have RAq : Hid (RdF wq (.slice qa0 ma0 da0) (.slice qa1 ma1 da1) (.slice qa2 ma2 da2) a) := H1.out.2.2.2.1.on BWq.out
        have RBq : Hid (RdF wq (.slice qb0 mb0 db0) (.slice qb1 mb1 db1) (.slice qb2 mb2 db2) b) := H1.out.2.2.2.2.on BWq.out
        have ka0 := (KAq.out).cell (i := 0) rfl
        have ka1 := (KAq.out).cell (i := 1) rfl
        have ka2 := (KAq.out).cell (i := 2) rfl
        have kb0 := (KBq.out).cell (i := 0) rfl
        have kb1 := (KBq.out).cell (i := 1) rfl
        have kb2 := (KBq.out).cell (i := 2) rfl
        have CC : Hid (Calls _ _ _ _ _) := norm_own a _ _ _ wq RAq.out
        have HSz : Hid (w1.heap.size ≤ wq.heap.size) := BWq.out.size
        go_wp2_with fail
        clear ka0 ka1 ka2 kb0 kb1 kb2
        refine CC.out.mono ?_
        rintro e w2 ⟨x0, x1, x2, gx, rfl, o0, o1, o2, hb9⟩
        clear CC
        have BWw2 : Hid (Below w1.heap.size w1 w2) := BWq.out.trans ((hb9).mono BWq.out.size)
        have KAw2 : Hid (Blk w2 βa #[.slice qa0 ma0 da0, .slice qa1 ma1 da1, .slice qa2 ma2 da2] 25) := KAq.out.on (hb9)
        have KBw2 : Hid (Blk w2 βb #[.slice qb0 mb0 db0, .slice qb1 mb1 db1, .slice qb2 mb2 db2] 25) := KBq.out.on (hb9)
        have RAw2 : Hid (RdF w2 (.slice qa0 ma0 da0) (.slice qa1 ma1 da1) (.slice qa2 ma2 da2) a) := RAq.out.on (hb9)
        have RBw2 : Hid (RdF w2 (.slice qb0 mb0 db0) (.slice qb1 mb1 db1) (.slice qb2 mb2 db2) b) := RBq.out.on (hb9)
        clear BWq KAq KBq RAq RBq
        obtain ⟨xq0, xn0, xc0, ey0⟩ : ∃ p n c, x0 = .slice p n c := by
          obtain ⟨p, c, e, _⟩ := o0.row
          exact ⟨_, _, _, e⟩
        obtain ⟨xq1, xn1, xc1, ey1⟩ : ∃ p n c, x1 = .slice p n c := by
          obtain ⟨p, c, e, _⟩ := o1.row
          exact ⟨_, _, _, e⟩
        obtain ⟨xq2, xn2, xc2, ey2⟩ : ∃ p n c, x2 = .slice p n c := by
          obtain ⟨p, c, e, _⟩ := o2.row
          exact ⟨_, _, _, e⟩
        subst ey0 ey1 ey2
        have Xx0w2 : Hid (RwX w2 w1.heap.size (.slice xq0 xn0 xc0) 38 3) := RwX.of o0 HSz.out
        have Xx1w2 : Hid (RwX w2 w1.heap.size (.slice xq1 xn1 xc1) 42 5) := RwX.of o1 HSz.out
        have Xx2w2 : Hid (RwX w2 w1.heap.size (.slice xq2 xn2 xc2) 38 3) := RwX.of o2 HSz.out
        clear o0 o1 o2 hb9 HSz
        have hal : Below w2.heap.size w2 (w2.alloc (.cells #[.slice xq0 xn0 xc0, .slice xq1 xn1 xc1, .slice xq2 xn2 xc2] 25)) := (Below.refl _ _).alloc (Nat.le_refl _) _
        have BWw2p : Hid (Below w1.heap.size w1 (w2.alloc (.cells #[.slice xq0 xn0 xc0, .slice xq1 xn1 xc1, .slice xq2 xn2 xc2] 25))) := BWw2.out.trans ((hal).mono BWw2.out.size)
        have KAw2p : Hid (Blk (w2.alloc (.cells #[.slice xq0 xn0 xc0, .slice xq1 xn1 xc1, .slice xq2 xn2 xc2] 25)) βa #[.slice qa0 ma0 da0, .slice qa1 ma1 da1, .slice qa2 ma2 da2] 25) := KAw2.out.on (hal)
        have KBw2p : Hid (Blk (w2.alloc (.cells #[.slice xq0 xn0 xc0, .slice xq1 xn1 xc1, .slice xq2 xn2 xc2] 25)) βb #[.slice qb0 mb0 db0, .slice qb1 mb1 db1, .slice qb2 mb2 db2] 25) := KBw2.out.on (hal)
        have RAw2p : Hid (RdF (w2.alloc (.cells #[.slice xq0 xn0 xc0, .slice xq1 xn1 xc1, .slice xq2 xn2 xc2] 25)) (.slice qa0 ma0 da0) (.slice qa1 ma1 da1) (.slice qa2 ma2 da2) a) := RAw2.out.on (hal)
        have RBw2p : Hid (RdF (w2.alloc (.cells #[.slice xq0 xn0 xc0, .slice xq1 xn1 xc1, .slice xq2 xn2 xc2] 25)) (.slice qb0 mb0 db0) (.slice qb1 mb1 db1) (.slice qb2 mb2 db2) b) := RBw2.out.on (hal)
        have Xx0w2p : Hid (RwX (w2.alloc (.cells #[.slice xq0 xn0 xc0, .slice xq1 xn1 xc1, .slice xq2 xn2 xc2] 25)) w1.heap.size (.slice xq0 xn0 xc0) 38 3) := Xx0w2.out.on (hal)
        have Xx1w2p : Hid (RwX (w2.alloc (.cells #[.slice xq0 xn0 xc0, .slice xq1 xn1 xc1, .slice xq2 xn2 xc2] 25)) w1.heap.size (.slice xq1 xn1 xc1) 42 5) := Xx1w2.out.on (hal)
        have Xx2w2p : Hid (RwX (w2.alloc (.cells #[.slice xq0 xn0 xc0, .slice xq1 xn1 xc1, .slice xq2 xn2 xc2] 25)) w1.heap.size (.slice xq2 xn2 xc2) 38 3) := Xx2w2.out.on (hal)
        clear BWw2 KAw2 KBw2 RAw2 RBw2 Xx0w2 Xx1w2 Xx2w2
        have Bxw2 : Hid (Blk (w2.alloc (.cells #[.slice xq0 xn0 xc0, .slice xq1 xn1 xc1, .slice xq2 xn2 xc2] 25)) w2.heap.size #[.slice xq0 xn0 xc0, .slice xq1 xn1 xc1, .slice xq2 xn2 xc2] 25) := Blk.new w2 _ _
        clear hal
        have ka0 := (KAw2p.out).cell (i := 0) rfl
        have ka1 := (KAw2p.out).cell (i := 1) rfl
        have ka2 := (KAw2p.out).cell (i := 2) rfl
        have kb0 := (KBw2p.out).cell (i := 0) rfl
        have kb1 := (KBw2p.out).cell (i := 1) rfl
        have kb2 := (KBw2p.out).cell (i := 2) rfl
        have CC : Hid (Calls _ _ _ _ _) := merge_any a b _ _ _ _ _ _ (w2.alloc (.cells #[.slice xq0 xn0 xc0, .slice xq1 xn1 xc1, .slice xq2 xn2 xc2] 25)) RAw2p.out RBw2p.out
        have HSz : Hid (w1.heap.size ≤ (w2.alloc (.cells #[.slice xq0 xn0 xc0, .slice xq1 xn1 xc1, .slice xq2 xn2 xc2] 25)).heap.size) := BWw2p.out.size
        go_wp2_with fail
        clear ka0 ka1 ka2 kb0 kb1 kb2
        generalize (w2.alloc (.cells #[.slice xq0 xn0 xc0, .slice xq1 xn1 xc1, .slice xq2 xn2 xc2] 25)) = w3 at *
        refine CC.out.mono ?_
        rintro e w4 ⟨y0, y1, y2, gy, rfl, o0, o1, o2, _, hb9⟩
        clear CC
        have BWw4 : Hid (Below w1.heap.size w1 w4) := BWw2p.out.trans ((hb9).mono BWw2p.out.size)
        have KAw4 : Hid (Blk w4 βa #[.slice qa0 ma0 da0, .slice qa1 ma1 da1, .slice qa2 ma2 da2] 25) := KAw2p.out.on (hb9)
        have KBw4 : Hid (Blk w4 βb #[.slice qb0 mb0 db0, .slice qb1 mb1 db1, .slice qb2 mb2 db2] 25) := KBw2p.out.on (hb9)
        have RAw4 : Hid (RdF w4 (.slice qa0 ma0 da0) (.slice qa1 ma1 da1) (.slice qa2 ma2 da2) a) := RAw2p.out.on (hb9)
        have RBw4 : Hid (RdF w4 (.slice qb0 mb0 db0) (.slice qb1 mb1 db1) (.slice qb2 mb2 db2) b) := RBw2p.out.on (hb9)
        have Xx0w4 : Hid (RwX w4 w1.heap.size (.slice xq0 xn0 xc0) 38 3) := Xx0w2p.out.on (hb9)
        have Xx1w4 : Hid (RwX w4 w1.heap.size (.slice xq1 xn1 xc1) 42 5) := Xx1w2p.out.on (hb9)
        have Xx2w4 : Hid (RwX w4 w1.heap.size (.slice xq2 xn2 xc2) 38 3) := Xx2w2p.out.on (hb9)
        have Bxw4 : Hid (Blk w4 w2.heap.size #[.slice xq0 xn0 xc0, .slice xq1 xn1 xc1, .slice xq2 xn2 xc2] 25) := Bxw2.out.on (hb9)
        clear BWw2p KAw2p KBw2p RAw2p RBw2p Xx0w2p Xx1w2p Xx2w2p Bxw2
        obtain ⟨yq0, yn0, yc0, ey0⟩ : ∃ p n c, y0 = .slice p n c := by
          obtain ⟨p, c, e, _⟩ := o0.row
          exact ⟨_, _, _, e⟩
        obtain ⟨yq1, yn1, yc1, ey1⟩ : ∃ p n c, y1 = .slice p n c := by
          obtain ⟨p, c, e, _⟩ := o1.row
          exact ⟨_, _, _, e⟩
        obtain ⟨yq2, yn2, yc2, ey2⟩ : ∃ p n c, y2 = .slice p n c := by
          obtain ⟨p, c, e, _⟩ := o2.row
          exact ⟨_, _, _, e⟩
        subst ey0 ey1 ey2
        have Xy0w4 : Hid (RwX w4 w1.heap.size (.slice yq0 yn0 yc0) 38 3) := RwX.of o0 HSz.out
        have Xy1w4 : Hid (RwX w4 w1.heap.size (.slice yq1 yn1 yc1) 42 5) := RwX.of o1 HSz.out
        have Xy2w4 : Hid (RwX w4 w1.heap.size (.slice yq2 yn2 yc2) 38 3) := RwX.of o2 HSz.out
        clear o0 o1 o2 hb9 HSz
        have hal : Below w4.heap.size w4 (w4.alloc (.cells #[.slice yq0 yn0 yc0, .slice yq1 yn1 yc1, .slice yq2 yn2 yc2] 25)) := (Below.refl _ _).alloc (Nat.le_refl _) _
        have BWw4p : Hid (Below w1.heap.size w1 (w4.alloc (.cells #[.slice yq0 yn0 yc0, .slice yq1 yn1 yc1, .slice yq2 yn2 yc2] 25))) := BWw4.out.trans ((hal).mono BWw4.out.size)
        have KAw4p : Hid (Blk (w4.alloc (.cells #[.slice yq0 yn0 yc0, .slice yq1 yn1 yc1, .slice yq2 yn2 yc2] 25)) βa #[.slice qa0 ma0 da0, .slice qa1 ma1 da1, .slice qa2 ma2 da2] 25) := KAw4.out.on (hal)
        have KBw4p : Hid (Blk (w4.alloc (.cells #[.slice yq0 yn0 yc0, .slice yq1 yn1 yc1, .slice yq2 yn2 yc2] 25)) βb #[.slice qb0 mb0 db0, .slice qb1 mb1 db1, .slice qb2 mb2 db2] 25) := KBw4.out.on (hal)
        have RAw4p : Hid (RdF (w4.alloc (.cells #[.slice yq0 yn0 yc0, .slice yq1 yn1 yc1, .slice yq2 yn2 yc2] 25)) (.slice qa0 ma0 da0) (.slice qa1 ma1 da1) (.slice qa2 ma2 da2) a) := RAw4.out.on (hal)
        have RBw4p : Hid (RdF (w4.alloc (.cells #[.slice yq0 yn0 yc0, .slice yq1 yn1 yc1, .slice yq2 yn2 yc2] 25)) (.slice qb0 mb0 db0) (.slice qb1 mb1 db1) (.slice qb2 mb2 db2) b) := RBw4.out.on (hal)
        have Xx0w4p : Hid (RwX (w4.alloc (.cells #[.slice yq0 yn0 yc0, .slice yq1 yn1 yc1, .slice yq2 yn2 yc2] 25)) w1.heap.size (.slice xq0 xn0 xc0) 38 3) := Xx0w4.out.on (hal)
        have Xx1w4p : Hid (RwX (w4.alloc (.cells #[.slice yq0 yn0 yc0, .slice yq1 yn1 yc1, .slice yq2 yn2 yc2] 25)) w1.heap.size (.slice xq1 xn1 xc1) 42 5) := Xx1w4.out.on (hal)
        have Xx2w4p : Hid (RwX (w4.alloc (.cells #[.slice yq0 yn0 yc0, .slice yq1 yn1 yc1, .slice yq2 yn2 yc2] 25)) w1.heap.size (.slice xq2 xn2 xc2) 38 3) := Xx2w4.out.on (hal)
        have Bxw4p : Hid (Blk (w4.alloc (.cells #[.slice yq0 yn0 yc0, .slice yq1 yn1 yc1, .slice yq2 yn2 yc2] 25)) w2.heap.size #[.slice xq0 xn0 xc0, .slice xq1 xn1 xc1, .slice xq2 xn2 xc2] 25) := Bxw4.out.on (hal)
        have Xy0w4p : Hid (RwX (w4.alloc (.cells #[.slice yq0 yn0 yc0, .slice yq1 yn1 yc1, .slice yq2 yn2 yc2] 25)) w1.heap.size (.slice yq0 yn0 yc0) 38 3) := Xy0w4.out.on (hal)
        have Xy1w4p : Hid (RwX (w4.alloc (.cells #[.slice yq0 yn0 yc0, .slice yq1 yn1 yc1, .slice yq2 yn2 yc2] 25)) w1.heap.size (.slice yq1 yn1 yc1) 42 5) := Xy1w4.out.on (hal)
        have Xy2w4p : Hid (RwX (w4.alloc (.cells #[.slice yq0 yn0 yc0, .slice yq1 yn1 yc1, .slice yq2 yn2 yc2] 25)) w1.heap.size (.slice yq2 yn2 yc2) 38 3) := Xy2w4.out.on (hal)
        clear BWw4 KAw4 KBw4 RAw4 RBw4 Xx0w4 Xx1w4 Xx2w4 Bxw4 Xy0w4 Xy1w4 Xy2w4
        have Byw4 : Hid (Blk (w4.alloc (.cells #[.slice yq0 yn0 yc0, .slice yq1 yn1 yc1, .slice yq2 yn2 yc2] 25)) w4.heap.size #[.slice yq0 yn0 yc0, .slice yq1 yn1 yc1, .slice yq2 yn2 yc2] 25) := Blk.new w4 _ _
        clear hal
        have ka0 := (KAw4p.out).cell (i := 0) rfl
        have ka1 := (KAw4p.out).cell (i := 1) rfl
        have ka2 := (KAw4p.out).cell (i := 2) rfl
        have kb0 := (KBw4p.out).cell (i := 0) rfl
        have kb1 := (KBw4p.out).cell (i := 1) rfl
        have kb2 := (KBw4p.out).cell (i := 2) rfl
        have CC : Hid (Calls _ _ _ _ _) := pwithout_any a 1 _ _ _ (w4.alloc (.cells #[.slice yq0 yn0 yc0, .slice yq1 yn1 yc1, .slice yq2 yn2 yc2] 25)) RAw4p.out
        have HSz : Hid (w1.heap.size ≤ (w4.alloc (.cells #[.slice yq0 yn0 yc0, .slice yq1 yn1 yc1, .slice yq2 yn2 yc2] 25)).heap.size) := BWw4p.out.size
        go_wp2_with fail
        clear ka0 ka1 ka2 kb0 kb1 kb2
        generalize (w4.alloc (.cells #[.slice yq0 yn0 yc0, .slice yq1 yn1 yc1, .slice yq2 yn2 yc2] 25)) = w5 at *
        refine CC.out.mono ?_
        rintro e w6 ⟨z0, z1, z2, rfl, o0, o1, o2, hb9⟩
        clear CC
        have BWw6 : Hid (Below w1.heap.size w1 w6) := BWw4p.out.trans ((hb9).mono BWw4p.out.size)
        have KAw6 : Hid (Blk w6 βa #[.slice qa0 ma0 da0, .slice qa1 ma1 da1, .slice qa2 ma2 da2] 25) := KAw4p.out.on (hb9)
        have KBw6 : Hid (Blk w6 βb #[.slice qb0 mb0 db0, .slice qb1 mb1 db1, .slice qb2 mb2 db2] 25) := KBw4p.out.on (hb9)
        have RAw6 : Hid (RdF w6 (.slice qa0 ma0 da0) (.slice qa1 ma1 da1) (.slice qa2 ma2 da2) a) := RAw4p.out.on (hb9)
        have RBw6 : Hid (RdF w6 (.slice qb0 mb0 db0) (.slice qb1 mb1 db1) (.slice qb2 mb2 db2) b) := RBw4p.out.on (hb9)
        have Xx0w6 : Hid (RwX w6 w1.heap.size (.slice xq0 xn0 xc0) 38 3) := Xx0w4p.out.on (hb9)
        have Xx1w6 : Hid (RwX w6 w1.heap.size (.slice xq1 xn1 xc1) 42 5) := Xx1w4p.out.on (hb9)
        have Xx2w6 : Hid (RwX w6 w1.heap.size (.slice xq2 xn2 xc2) 38 3) := Xx2w4p.out.on (hb9)
        have Bxw6 : Hid (Blk w6 w2.heap.size #[.slice xq0 xn0 xc0, .slice xq1 xn1 xc1, .slice xq2 xn2 xc2] 25) := Bxw4p.out.on (hb9)
        have Xy0w6 : Hid (RwX w6 w1.heap.size (.slice yq0 yn0 yc0) 38 3) := Xy0w4p.out.on (hb9)
        have Xy1w6 : Hid (RwX w6 w1.heap.size (.slice yq1 yn1 yc1) 42 5) := Xy1w4p.out.on (hb9)
        have Xy2w6 : Hid (RwX w6 w1.heap.size (.slice yq2 yn2 yc2) 38 3) := Xy2w4p.out.on (hb9)
        have Byw6 : Hid (Blk w6 w4.heap.size #[.slice yq0 yn0 yc0, .slice yq1 yn1 yc1, .slice yq2 yn2 yc2] 25) := Byw4.out.on (hb9)
        clear BWw4p KAw4p KBw4p RAw4p RBw4p Xx0w4p Xx1w4p Xx2w4p Bxw4p Xy0w4p Xy1w4p Xy2w4p Byw4
        obtain ⟨zq0, zn0, zc0, ey0⟩ : ∃ p n c, z0 = .slice p n c := by
          obtain ⟨p, c, e, _⟩ := o0.row
          exact ⟨_, _, _, e⟩
        obtain ⟨zq1, zn1, zc1, ey1⟩ : ∃ p n c, z1 = .slice p n c := by
          obtain ⟨p, c, e, _⟩ := o1.row
          exact ⟨_, _, _, e⟩
        obtain ⟨zq2, zn2, zc2, ey2⟩ : ∃ p n c, z2 = .slice p n c := by
          obtain ⟨p, c, e, _⟩ := o2.row
          exact ⟨_, _, _, e⟩
        subst ey0 ey1 ey2
        have Xz0w6 : Hid (RwX w6 w1.heap.size (.slice zq0 zn0 zc0) 38 3) := RwX.of o0 HSz.out
        have Xz1w6 : Hid (RwX w6 w1.heap.size (.slice zq1 zn1 zc1) 42 5) := RwX.of o1 HSz.out
        have Xz2w6 : Hid (RwX w6 w1.heap.size (.slice zq2 zn2 zc2) 38 3) := RwX.of o2 HSz.out
        clear o0 o1 o2 hb9 HSz
        have hal : Below w6.heap.size w6 (w6.alloc (.cells #[.slice zq0 zn0 zc0, .slice zq1 zn1 zc1, .slice zq2 zn2 zc2] 25)) := (Below.refl _ _).alloc (Nat.le_refl _) _
        have BWw6p : Hid (Below w1.heap.size w1 (w6.alloc (.cells #[.slice zq0 zn0 zc0, .slice zq1 zn1 zc1, .slice zq2 zn2 zc2] 25))) := BWw6.out.trans ((hal).mono BWw6.out.size)
        have KAw6p : Hid (Blk (w6.alloc (.cells #[.slice zq0 zn0 zc0, .slice zq1 zn1 zc1, .slice zq2 zn2 zc2] 25)) βa #[.slice qa0 ma0 da0, .slice qa1 ma1 da1, .slice qa2 ma2 da2] 25) := KAw6.out.on (hal)
        have KBw6p : Hid (Blk (w6.alloc (.cells #[.slice zq0 zn0 zc0, .slice zq1 zn1 zc1, .slice zq2 zn2 zc2] 25)) βb #[.slice qb0 mb0 db0, .slice qb1 mb1 db1, .slice qb2 mb2 db2] 25) := KBw6.out.on (hal)
        have RAw6p : Hid (RdF (w6.alloc (.cells #[.slice zq0 zn0 zc0, .slice zq1 zn1 zc1, .slice zq2 zn2 zc2] 25)) (.slice qa0 ma0 da0) (.slice qa1 ma1 da1) (.slice qa2 ma2 da2) a) := RAw6.out.on (hal)
        have RBw6p : Hid (RdF (w6.alloc (.cells #[.slice zq0 zn0 zc0, .slice zq1 zn1 zc1, .slice zq2 zn2 zc2] 25)) (.slice qb0 mb0 db0) (.slice qb1 mb1 db1) (.slice qb2 mb2 db2) b) := RBw6.out.on (hal)
        have Xx0w6p : Hid (RwX (w6.alloc (.cells #[.slice zq0 zn0 zc0, .slice zq1 zn1 zc1, .slice zq2 zn2 zc2] 25)) w1.heap.size (.slice xq0 xn0 xc0) 38 3) := Xx0w6.out.on (hal)
        have Xx1w6p : Hid (RwX (w6.alloc (.cells #[.slice zq0 zn0 zc0, .slice zq1 zn1 zc1, .slice zq2 zn2 zc2] 25)) w1.heap.size (.slice xq1 xn1 xc1) 42 5) := Xx1w6.out.on (hal)
        have Xx2w6p : Hid (RwX (w6.alloc (.cells #[.slice zq0 zn0 zc0, .slice zq1 zn1 zc1, .slice zq2 zn2 zc2] 25)) w1.heap.size (.slice xq2 xn2 xc2) 38 3) := Xx2w6.out.on (hal)
        have Bxw6p : Hid (Blk (w6.alloc (.cells #[.slice zq0 zn0 zc0, .slice zq1 zn1 zc1, .slice zq2 zn2 zc2] 25)) w2.heap.size #[.slice xq0 xn0 xc0, .slice xq1 xn1 xc1, .slice xq2 xn2 xc2] 25) := Bxw6.out.on (hal)
        have Xy0w6p : Hid (RwX (w6.alloc (.cells #[.slice zq0 zn0 zc0, .slice zq1 zn1 zc1, .slice zq2 zn2 zc2] 25)) w1.heap.size (.slice yq0 yn0 yc0) 38 3) := Xy0w6.out.on (hal)
        have Xy1w6p : Hid (RwX (w6.alloc (.cells #[.slice zq0 zn0 zc0, .slice zq1 zn1 zc1, .slice zq2 zn2 zc2] 25)) w1.heap.size (.slice yq1 yn1 yc1) 42 5) := Xy1w6.out.on (hal)
        have Xy2w6p : Hid (RwX (w6.alloc (.cells #[.slice zq0 zn0 zc0, .slice zq1 zn1 zc1, .slice zq2 zn2 zc2] 25)) w1.heap.size (.slice yq2 yn2 yc2) 38 3) := Xy2w6.out.on (hal)
        have Byw6p : Hid (Blk (w6.alloc (.cells #[.slice zq0 zn0 zc0, .slice zq1 zn1 zc1, .slice zq2 zn2 zc2] 25)) w4.heap.size #[.slice yq0 yn0 yc0, .slice yq1 yn1 yc1, .slice yq2 yn2 yc2] 25) := Byw6.out.on (hal)
        have Xz0w6p : Hid (RwX (w6.alloc (.cells #[.slice zq0 zn0 zc0, .slice zq1 zn1 zc1, .slice zq2 zn2 zc2] 25)) w1.heap.size (.slice zq0 zn0 zc0) 38 3) := Xz0w6.out.on (hal)
        have Xz1w6p : Hid (RwX (w6.alloc (.cells #[.slice zq0 zn0 zc0, .slice zq1 zn1 zc1, .slice zq2 zn2 zc2] 25)) w1.heap.size (.slice zq1 zn1 zc1) 42 5) := Xz1w6.out.on (hal)
        have Xz2w6p : Hid (RwX (w6.alloc (.cells #[.slice zq0 zn0 zc0, .slice zq1 zn1 zc1, .slice zq2 zn2 zc2] 25)) w1.heap.size (.slice zq2 zn2 zc2) 38 3) := Xz2w6.out.on (hal)
        clear BWw6 KAw6 KBw6 RAw6 RBw6 Xx0w6 Xx1w6 Xx2w6 Bxw6 Xy0w6 Xy1w6 Xy2w6 Byw6 Xz0w6 Xz1w6 Xz2w6
        have Bzw6 : Hid (Blk (w6.alloc (.cells #[.slice zq0 zn0 zc0, .slice zq1 zn1 zc1, .slice zq2 zn2 zc2] 25)) w6.heap.size #[.slice zq0 zn0 zc0, .slice zq1 zn1 zc1, .slice zq2 zn2 zc2] 25) := Blk.new w6 _ _
        clear hal
        have bx0 := (Bxw6p.out).cell (i := 0) rfl
        have bx1 := (Bxw6p.out).cell (i := 1) rfl
        have bx2 := (Bxw6p.out).cell (i := 2) rfl
        have by0 := (Byw6p.out).cell (i := 0) rfl
        have by1 := (Byw6p.out).cell (i := 1) rfl
        have by2 := (Byw6p.out).cell (i := 2) rfl
        have bz0 := (Bzw6.out).cell (i := 0) rfl
        have bz1 := (Bzw6.out).cell (i := 1) rfl
        have bz2 := (Bzw6.out).cell (i := 2) rfl
        have hal : Below (w6.alloc (.cells #[.slice zq0 zn0 zc0, .slice zq1 zn1 zc1, .slice zq2 zn2 zc2] 25)).heap.size (w6.alloc (.cells #[.slice zq0 zn0 zc0, .slice zq1 zn1 zc1, .slice zq2 zn2 zc2] 25)) ((w6.alloc (.cells #[.slice zq0 zn0 zc0, .slice zq1 zn1 zc1, .slice zq2 zn2 zc2] 25)).alloc (.cells #[.slice xq0 xn0 xc0, .slice xq1 xn1 xc1, .slice xq2 xn2 xc2, .slice yq0 yn0 yc0, .slice yq1 yn1 yc1, .slice yq2 yn2 yc2, .slice zq0 zn0 zc0, .slice zq1 zn1 zc1, .slice zq2 zn2 zc2] 25)) := (Below.refl _ _).alloc (Nat.le_refl _) _
        have HP0 : Hid (Sp9 w1 w1.heap.size (w6.heap.size + 1) (.slice xq0 xn0 xc0) (.slice xq1 xn1 xc1) (.slice xq2 xn2 xc2) (.slice yq0 yn0 yc0) (.slice yq1 yn1 yc1) (.slice yq2 yn2 yc2) (.slice zq0 zn0 zc0) (.slice zq1 zn1 zc1) (.slice zq2 zn2 zc2) ((w6.alloc (.cells #[.slice zq0 zn0 zc0, .slice zq1 zn1 zc1, .slice zq2 zn2 zc2] 25)).alloc (.cells #[.slice xq0 xn0 xc0, .slice xq1 xn1 xc1, .slice xq2 xn2 xc2, .slice yq0 yn0 yc0, .slice yq1 yn1 yc1, .slice yq2 yn2 yc2, .slice zq0 zn0 zc0, .slice zq1 zn1 zc1, .slice zq2 zn2 zc2] 25))) := by
          have hb : Blk ((w6.alloc (.cells #[.slice zq0 zn0 zc0, .slice zq1 zn1 zc1, .slice zq2 zn2 zc2] 25)).alloc (.cells #[.slice xq0 xn0 xc0, .slice xq1 xn1 xc1, .slice xq2 xn2 xc2, .slice yq0 yn0 yc0, .slice yq1 yn1 yc1, .slice yq2 yn2 yc2, .slice zq0 zn0 zc0, .slice zq1 zn1 zc1, .slice zq2 zn2 zc2] 25)) (w6.alloc (.cells #[.slice zq0 zn0 zc0, .slice zq1 zn1 zc1, .slice zq2 zn2 zc2] 25)).heap.size #[.slice xq0 xn0 xc0, .slice xq1 xn1 xc1, .slice xq2 xn2 xc2, .slice yq0 yn0 yc0, .slice yq1 yn1 yc1, .slice yq2 yn2 yc2, .slice zq0 zn0 zc0, .slice zq1 zn1 zc1, .slice zq2 zn2 zc2] 25 := Blk.new (w6.alloc (.cells #[.slice zq0 zn0 zc0, .slice zq1 zn1 zc1, .slice zq2 zn2 zc2] 25)) _ _
          rw [World.size_alloc] at hb
          exact ⟨hb, BWw6p.out.trans (hal.mono BWw6p.out.size), Xx0w6p.out.on hal, Xx1w6p.out.on hal, Xx2w6p.out.on hal, Xy0w6p.out.on hal, Xy1w6p.out.on hal, Xy2w6p.out.on hal, Xz0w6p.out.on hal, Xz1w6p.out.on hal, Xz2w6p.out.on hal⟩
        clear hal
        go_wp2_with fail
        clear bx0 bx1 bx2 by0 by1 by2 bz0 bz1 bz2 BWw6p KAw6p KBw6p RAw6p RBw6p Xx0w6p Xx1w6p Xx2w6p Bxw6p Xy0w6p Xy1w6p Xy2w6p Byw6p Xz0w6p Xz1w6p Xz2w6p Bzw6
        generalize ((w6.alloc (.cells #[.slice zq0 zn0 zc0, .slice zq1 zn1 zc1, .slice zq2 zn2 zc2] 25)).alloc (.cells #[.slice xq0 xn0 xc0, .slice xq1 xn1 xc1, .slice xq2 xn2 xc2, .slice yq0 yn0 yc0, .slice yq1 yn1 yc1, .slice yq2 yn2 yc2, .slice zq0 zn0 zc0, .slice zq1 zn1 zc1, .slice zq2 zn2 zc2] 25)) = w8 at *
        go_loopw [14] (fun i wr => ∃ j : Nat, j ≤ 3 ∧ i = .int .i64 (j : Int) ∧ Hid (Sp9 w1 w1.heap.size (w6.heap.size + 1) (.slice xq0 xn0 xc0) (.slice xq1 xn1 xc1) (.slice xq2 xn2 xc2) (.slice yq0 yn0 yc0) (.slice yq1 yn1 yc1) (.slice yq2 yn2 yc2) (.slice zq0 zn0 zc0) (.slice zq1 zn1 zc1) (.slice zq2 zn2 zc2) wr)) (fun i _ => 3 - (intOf i).toNat)
        case atStart => exact ⟨0, by omega, by go_num, HP0.out⟩
        case round =>
          obtain ⟨j, hj, rfl, HP⟩ := hrel
          clear HP0
          by_cases hj0 : j = 3
          · subst hj0
            generalize wr = w9 at *
            have KA9 : Hid (Blk w9 βa #[.slice qa0 ma0 da0, .slice qa1 ma1 da1, .slice qa2 ma2 da2] 25) := H1.out.1.on HP.out.lw
            have KB9 : Hid (Blk w9 βb #[.slice qb0 mb0 db0, .slice qb1 mb1 db1, .slice qb2 mb2 db2] 25) := H1.out.2.1.on HP.out.lw
            have RA9 : Hid (RdF w9 (.slice qa0 ma0 da0) (.slice qa1 ma1 da1) (.slice qa2 ma2 da2) a) := H1.out.2.2.2.1.on HP.out.lw
            have RB9 : Hid (RdF w9 (.slice qb0 mb0 db0) (.slice qb1 mb1 db1) (.slice qb2 mb2 db2) b) := H1.out.2.2.2.2.on HP.out.lw
            have BW9 : Hid (Below w1.heap.size w1 w9) := HP.out.lw
            clear HP
            have ka0 := (KA9.out).cell (i := 0) rfl
            have ka1 := (KA9.out).cell (i := 1) rfl
            have ka2 := (KA9.out).cell (i := 2) rfl
            have kb0 := (KB9.out).cell (i := 0) rfl
            have kb1 := (KB9.out).cell (i := 1) rfl
            have kb2 := (KB9.out).cell (i := 2) rfl
            have CC : Hid (Calls _ _ _ _ _) := clash_any a b _ _ _ _ _ _ w9 RA9.out RB9.out
            go_wp2_with fail
            refine CC.out.mono ?_
            rintro e wc1 ⟨o1, _, rfl, hb9⟩
            clear CC ka0 ka1 ka2 kb0 kb1 kb2
            have BWwc1 : Hid (Below w1.heap.size w1 wc1) := BW9.out.trans ((hb9).mono BW9.out.size)
            have KAwc1 : Hid (Blk wc1 βa #[.slice qa0 ma0 da0, .slice qa1 ma1 da1, .slice qa2 ma2 da2] 25) := KA9.out.on (hb9)
            have KBwc1 : Hid (Blk wc1 βb #[.slice qb0 mb0 db0, .slice qb1 mb1 db1, .slice qb2 mb2 db2] 25) := KB9.out.on (hb9)
            have RAwc1 : Hid (RdF wc1 (.slice qa0 ma0 da0) (.slice qa1 ma1 da1) (.slice qa2 ma2 da2) a) := RA9.out.on (hb9)
            have RBwc1 : Hid (RdF wc1 (.slice qb0 mb0 db0) (.slice qb1 mb1 db1) (.slice qb2 mb2 db2) b) := RB9.out.on (hb9)
            clear BW9 KA9 KB9 RA9 RB9
            clear hb9
            have ka0 := (KAwc1.out).cell (i := 0) rfl
            have ka1 := (KAwc1.out).cell (i := 1) rfl
            have ka2 := (KAwc1.out).cell (i := 2) rfl
            have kb0 := (KBwc1.out).cell (i := 0) rfl
            have kb1 := (KBwc1.out).cell (i := 1) rfl
            have kb2 := (KBwc1.out).cell (i := 2) rfl
            have CC : Hid (Calls _ _ _ _ _) := both_any a b _ _ _ _ _ _ wc1 RAwc1.out RBwc1.out
            go_wp2_with fail
            refine CC.out.mono ?_
            rintro e wc2 ⟨o2, _, rfl, hb9⟩
            clear CC ka0 ka1 ka2 kb0 kb1 kb2
            have BWwc2 : Hid (Below w1.heap.size w1 wc2) := BWwc1.out.trans ((hb9).mono BWwc1.out.size)
            have KAwc2 : Hid (Blk wc2 βa #[.slice qa0 ma0 da0, .slice qa1 ma1 da1, .slice qa2 ma2 da2] 25) := KAwc1.out.on (hb9)
            have KBwc2 : Hid (Blk wc2 βb #[.slice qb0 mb0 db0, .slice qb1 mb1 db1, .slice qb2 mb2 db2] 25) := KBwc1.out.on (hb9)
            have RAwc2 : Hid (RdF wc2 (.slice qa0 ma0 da0) (.slice qa1 ma1 da1) (.slice qa2 ma2 da2) a) := RAwc1.out.on (hb9)
            have RBwc2 : Hid (RdF wc2 (.slice qb0 mb0 db0) (.slice qb1 mb1 db1) (.slice qb2 mb2 db2) b) := RBwc1.out.on (hb9)
            clear BWwc1 KAwc1 KBwc1 RAwc1 RBwc1
            clear hb9
            have HWB : Below wB.heap.size wB wc2 := H1.out.2.2.1.trans (BWwc2.out.mono H1.out.2.2.1.size)
            have ga0 := (HX.out.1.on HWB).cell (i := 0) rfl
            have ga1 := (HX.out.1.on HWB).cell (i := 1) rfl
            have ga2 := (HX.out.1.on HWB).cell (i := 2) rfl
            have gb0 := (HX.out.2.on HWB).cell (i := 0) rfl
            have gb1 := (HX.out.2.on HWB).cell (i := 1) rfl
            have gb2 := (HX.out.2.on HWB).cell (i := 2) rfl
            have ka0 := (KAwc2.out).cell (i := 0) rfl
            have ka1 := (KAwc2.out).cell (i := 1) rfl
            have ka2 := (KAwc2.out).cell (i := 2) rfl
            have kb0 := (KBwc2.out).cell (i := 0) rfl
            have kb1 := (KBwc2.out).cell (i := 1) rfl
            have kb2 := (KBwc2.out).cell (i := 2) rfl
            have CC : Hid (Calls _ _ _ _ _) := rsameF a _ _ _ _ _ _ wc2 RAwc2.out (HRd.out.1.on HWB)
            clear HWB
            go_wp2_with fail
            refine CC.out.mono ?_
            rintro e wc3 ⟨rfl, hb9⟩
            clear CC ka0 ka1 ka2 kb0 kb1 kb2 ga0 ga1 ga2 gb0 gb1 gb2
            have BWwc3 : Hid (Below w1.heap.size w1 wc3) := BWwc2.out.trans ((hb9).mono BWwc2.out.size)
            have KAwc3 : Hid (Blk wc3 βa #[.slice qa0 ma0 da0, .slice qa1 ma1 da1, .slice qa2 ma2 da2] 25) := KAwc2.out.on (hb9)
            have KBwc3 : Hid (Blk wc3 βb #[.slice qb0 mb0 db0, .slice qb1 mb1 db1, .slice qb2 mb2 db2] 25) := KBwc2.out.on (hb9)
            have RAwc3 : Hid (RdF wc3 (.slice qa0 ma0 da0) (.slice qa1 ma1 da1) (.slice qa2 ma2 da2) a) := RAwc2.out.on (hb9)
            have RBwc3 : Hid (RdF wc3 (.slice qb0 mb0 db0) (.slice qb1 mb1 db1) (.slice qb2 mb2 db2) b) := RBwc2.out.on (hb9)
            clear BWwc2 KAwc2 KBwc2 RAwc2 RBwc2
            clear hb9
            have HWB : Below wB.heap.size wB wc3 := H1.out.2.2.1.trans (BWwc3.out.mono H1.out.2.2.1.size)
            have ga0 := (HX.out.1.on HWB).cell (i := 0) rfl
            have ga1 := (HX.out.1.on HWB).cell (i := 1) rfl
            have ga2 := (HX.out.1.on HWB).cell (i := 2) rfl
            have gb0 := (HX.out.2.on HWB).cell (i := 0) rfl
            have gb1 := (HX.out.2.on HWB).cell (i := 1) rfl
            have gb2 := (HX.out.2.on HWB).cell (i := 2) rfl
            have ka0 := (KAwc3.out).cell (i := 0) rfl
            have ka1 := (KAwc3.out).cell (i := 1) rfl
            have ka2 := (KAwc3.out).cell (i := 2) rfl
            have kb0 := (KBwc3.out).cell (i := 0) rfl
            have kb1 := (KBwc3.out).cell (i := 1) rfl
            have kb2 := (KBwc3.out).cell (i := 2) rfl
            have CC : Hid (Calls _ _ _ _ _) := rsameF b _ _ _ _ _ _ wc3 RBwc3.out (HRd.out.2.on HWB)
            clear HWB
            go_wp2_with fail
            refine CC.out.mono ?_
            rintro e wc4 ⟨rfl, hb9⟩
            clear CC ka0 ka1 ka2 kb0 kb1 kb2 ga0 ga1 ga2 gb0 gb1 gb2
            have BW5 : Hid (Below w1.heap.size w1 wc4) := BWwc3.out.trans (hb9.mono BWwc3.out.size)
            clear hb9
            go_wp2_with fail
            go_roundw
            case rel => exact ⟨r + 1, by omega, by go_num, BW5.out⟩
            case measure => simp [intOf]; omega
          · have hj3 : j = 0 ∨ j = 1 ∨ j = 2 := by omega
            rcases hj3 with rfl | rfl | rfl
            · have cL := HP.out.b.cell (i := 0) rfl
              go_wp2_with fail
              clear cL
              go_loopw [15] (fun i wr => ∃ k : Nat, i = .int .i64 (k : Int) ∧ k ≤ xn0 ∧ Hid (Sp9 w1 w1.heap.size (w6.heap.size + 1) (.slice xq0 xn0 xc0) (.slice xq1 xn1 xc1) (.slice xq2 xn2 xc2) (.slice yq0 yn0 yc0) (.slice yq1 yn1 yc1) (.slice yq2 yn2 yc2) (.slice zq0 zn0 zc0) (.slice zq1 zn1 zc1) (.slice zq2 zn2 zc2) wr)) (fun i _ => xn0 - (intOf i).toNat)
              case atStart => exact ⟨0, by go_num, Nat.zero_le _, HP.out⟩
              case round =>
                clear HP
                obtain ⟨k, rfl, hk, HP⟩ := hrel
                have cL := HP.out.b.cell (i := 0) rfl
                by_cases hk0 : k = xn0
                · rw [hk0]
                  clear hk0 hk
                  go_wp2_with fail
                  clear cL
                  go_loopw [16] (fun i wr => ∃ k : Nat, i = .int .i64 (k : Int) ∧ k ≤ xn1 ∧ Hid (Sp9 w1 w1.heap.size (w6.heap.size + 1) (.slice xq0 xn0 xc0) (.slice xq1 xn1 xc1) (.slice xq2 xn2 xc2) (.slice yq0 yn0 yc0) (.slice yq1 yn1 yc1) (.slice yq2 yn2 yc2) (.slice zq0 zn0 zc0) (.slice zq1 zn1 zc1) (.slice zq2 zn2 zc2) wr)) (fun i _ => xn1 - (intOf i).toNat)
                  case atStart => exact ⟨0, by go_num, Nat.zero_le _, HP.out⟩
                  case round =>
                    clear HP
                    obtain ⟨k, rfl, hk, HP⟩ := hrel
                    have cL := HP.out.b.cell (i := 1) rfl
                    by_cases hk0 : k = xn1
                    · rw [hk0]
                      clear hk0 hk
                      go_wp2_with fail
                      clear cL
                      go_loopw [17] (fun i wr => ∃ k : Nat, i = .int .i64 (k : Int) ∧ k ≤ xn2 ∧ Hid (Sp9 w1 w1.heap.size (w6.heap.size + 1) (.slice xq0 xn0 xc0) (.slice xq1 xn1 xc1) (.slice xq2 xn2 xc2) (.slice yq0 yn0 yc0) (.slice yq1 yn1 yc1) (.slice yq2 yn2 yc2) (.slice zq0 zn0 zc0) (.slice zq1 zn1 zc1) (.slice zq2 zn2 zc2) wr)) (fun i _ => xn2 - (intOf i).toNat)
                      case atStart => exact ⟨0, by go_num, Nat.zero_le _, HP.out⟩
                      case round =>
                        clear HP
                        obtain ⟨k, rfl, hk, HP⟩ := hrel
                        have cL := HP.out.b.cell (i := 2) rfl
                        by_cases hk0 : k = xn2
                        · rw [hk0]
                          clear hk0 hk
                          go_wp2_with fail
                          clear cL
                          go_roundw
                          case rel => exact ⟨1, by omega, by go_num, HP.out⟩
                          case measure => simp [intOf]
                        · have hk1 : k < xn2 := by omega
                          have hne : ∃ g cur, xq2 = some ⟨g, 0, none⟩ ∧ w1.heap.size ≤ g ∧ wr.heap[g]? = some (.cells cur 38 (0, 0)) ∧ xn2 * 3 ≤ cur.size ∧ xn2 ≤ 9223372036854775807 := by
                            rcases HP.out.r2 with ⟨c9, e9⟩ | ⟨g, n9, cap, cur, e9, h1, h2, h3, h4⟩
                            · injection e9 with e1 e2 e3
                              omega
                            · injection e9 with e1 e2 e3
                              subst e1 e2
                              exact ⟨g, cur, rfl, h1, h2, h3, h4⟩
                          obtain ⟨g, cur, hq, hg1, hgb, hgs, hgn⟩ := hne
                          have hBg : Blk wr g cur 38 := hgb
                          have hlt : k * 3 + 2 < cur.size := by omega
                          have cS : wr.cell? ⟨g, k * 3 + 2, none⟩ = some cur[k * 3 + 2] := hBg.cell (Array.getElem?_eq_getElem hlt)
                          have fS := hBg.frozen (k * 3 + 2)
                          have hLg : ¬ w6.heap.size + 1 = g := by
                            intro e9
                            have h9 : wr.heap[w6.heap.size + 1]? = _ := HP.out.b
                            rw [e9, hgb] at h9
                            cases h9
                          have HP2 : Hid (Sp9 w1 w1.heap.size (w6.heap.size + 1) (.slice xq0 xn0 xc0) (.slice xq1 xn1 xc1) (.slice xq2 xn2 xc2) (.slice yq0 yn0 yc0) (.slice yq1 yn1 yc1) (.slice yq2 yn2 yc2) (.slice zq0 zn0 zc0) (.slice zq1 zn1 zc1) (.slice zq2 zn2 zc2) (wr.setCell ⟨g, k * 3 + 2, none⟩ (.string ⟨#[115, 112, 111, 105, 108, 116]⟩))) := HP.out.put g _ _ hg1 hLg
                          generalize cur[k * 3 + 2] = cu at *
                          clear hBg hgb hgs hlt
                          subst hq
                          go_wp2_with fail
                          go_roundw
                          case rel => exact ⟨k + 1, by go_num, by omega, HP2.out⟩
                          case measure => simp [intOf]; omega
                    · have hk1 : k < xn1 := by omega
                      have hne : ∃ g cur, xq1 = some ⟨g, 0, none⟩ ∧ w1.heap.size ≤ g ∧ wr.heap[g]? = some (.cells cur 42 (0, 0)) ∧ xn1 * 5 ≤ cur.size ∧ xn1 ≤ 9223372036854775807 := by
                        rcases HP.out.r1 with ⟨c9, e9⟩ | ⟨g, n9, cap, cur, e9, h1, h2, h3, h4⟩
                        · injection e9 with e1 e2 e3
                          omega
                        · injection e9 with e1 e2 e3
                          subst e1 e2
                          exact ⟨g, cur, rfl, h1, h2, h3, h4⟩
                      obtain ⟨g, cur, hq, hg1, hgb, hgs, hgn⟩ := hne
                      have hBg : Blk wr g cur 42 := hgb
                      have hlt : k * 5 + 2 < cur.size := by omega
                      have cS : wr.cell? ⟨g, k * 5 + 2, none⟩ = some cur[k * 5 + 2] := hBg.cell (Array.getElem?_eq_getElem hlt)
                      have fS := hBg.frozen (k * 5 + 2)
                      have hLg : ¬ w6.heap.size + 1 = g := by
                        intro e9
                        have h9 : wr.heap[w6.heap.size + 1]? = _ := HP.out.b
                        rw [e9, hgb] at h9
                        cases h9
                      have HP2 : Hid (Sp9 w1 w1.heap.size (w6.heap.size + 1) (.slice xq0 xn0 xc0) (.slice xq1 xn1 xc1) (.slice xq2 xn2 xc2) (.slice yq0 yn0 yc0) (.slice yq1 yn1 yc1) (.slice yq2 yn2 yc2) (.slice zq0 zn0 zc0) (.slice zq1 zn1 zc1) (.slice zq2 zn2 zc2) (wr.setCell ⟨g, k * 5 + 2, none⟩ (.string ⟨#[115, 112, 111, 105, 108, 116]⟩))) := HP.out.put g _ _ hg1 hLg
                      generalize cur[k * 5 + 2] = cu at *
                      clear hBg hgb hgs hlt
                      subst hq
                      go_wp2_with fail
                      go_roundw
                      case rel => exact ⟨k + 1, by go_num, by omega, HP2.out⟩
                      case measure => simp [intOf]; omega
                · have hk1 : k < xn0 := by omega
                  have hne : ∃ g cur, xq0 = some ⟨g, 0, none⟩ ∧ w1.heap.size ≤ g ∧ wr.heap[g]? = some (.cells cur 38 (0, 0)) ∧ xn0 * 3 ≤ cur.size ∧ xn0 ≤ 9223372036854775807 := by
                    rcases HP.out.r0 with ⟨c9, e9⟩ | ⟨g, n9, cap, cur, e9, h1, h2, h3, h4⟩
                    · injection e9 with e1 e2 e3
                      omega
                    · injection e9 with e1 e2 e3
                      subst e1 e2
                      exact ⟨g, cur, rfl, h1, h2, h3, h4⟩
                  obtain ⟨g, cur, hq, hg1, hgb, hgs, hgn⟩ := hne
                  have hBg : Blk wr g cur 38 := hgb
                  have hlt : k * 3 + 2 < cur.size := by omega
                  have cS : wr.cell? ⟨g, k * 3 + 2, none⟩ = some cur[k * 3 + 2] := hBg.cell (Array.getElem?_eq_getElem hlt)
                  have fS := hBg.frozen (k * 3 + 2)
                  have hLg : ¬ w6.heap.size + 1 = g := by
                    intro e9
                    have h9 : wr.heap[w6.heap.size + 1]? = _ := HP.out.b
                    rw [e9, hgb] at h9
                    cases h9
                  have HP2 : Hid (Sp9 w1 w1.heap.size (w6.heap.size + 1) (.slice xq0 xn0 xc0) (.slice xq1 xn1 xc1) (.slice xq2 xn2 xc2) (.slice yq0 yn0 yc0) (.slice yq1 yn1 yc1) (.slice yq2 yn2 yc2) (.slice zq0 zn0 zc0) (.slice zq1 zn1 zc1) (.slice zq2 zn2 zc2) (wr.setCell ⟨g, k * 3 + 2, none⟩ (.string ⟨#[115, 112, 111, 105, 108, 116]⟩))) := HP.out.put g _ _ hg1 hLg
                  generalize cur[k * 3 + 2] = cu at *
                  clear hBg hgb hgs hlt
                  subst hq
                  go_wp2_with fail
                  go_roundw
                  case rel => exact ⟨k + 1, by go_num, by omega, HP2.out⟩
                  case measure => simp [intOf]; omega
            · have cL := HP.out.b.cell (i := 3) rfl
              go_wp2_with fail
              clear cL
              go_loopw [15] (fun i wr => ∃ k : Nat, i = .int .i64 (k : Int) ∧ k ≤ yn0 ∧ Hid (Sp9 w1 w1.heap.size (w6.heap.size + 1) (.slice xq0 xn0 xc0) (.slice xq1 xn1 xc1) (.slice xq2 xn2 xc2) (.slice yq0 yn0 yc0) (.slice yq1 yn1 yc1) (.slice yq2 yn2 yc2) (.slice zq0 zn0 zc0) (.slice zq1 zn1 zc1) (.slice zq2 zn2 zc2) wr)) (fun i _ => yn0 - (intOf i).toNat)
              case atStart => exact ⟨0, by go_num, Nat.zero_le _, HP.out⟩
              case round =>
                clear HP
                obtain ⟨k, rfl, hk, HP⟩ := hrel
                have cL := HP.out.b.cell (i := 3) rfl
                by_cases hk0 : k = yn0
                · rw [hk0]
                  clear hk0 hk
                  go_wp2_with fail
                  clear cL
                  go_loopw [16] (fun i wr => ∃ k : Nat, i = .int .i64 (k : Int) ∧ k ≤ yn1 ∧ Hid (Sp9 w1 w1.heap.size (w6.heap.size + 1) (.slice xq0 xn0 xc0) (.slice xq1 xn1 xc1) (.slice xq2 xn2 xc2) (.slice yq0 yn0 yc0) (.slice yq1 yn1 yc1) (.slice yq2 yn2 yc2) (.slice zq0 zn0 zc0) (.slice zq1 zn1 zc1) (.slice zq2 zn2 zc2) wr)) (fun i _ => yn1 - (intOf i).toNat)
                  case atStart => exact ⟨0, by go_num, Nat.zero_le _, HP.out⟩
                  case round =>
                    clear HP
                    obtain ⟨k, rfl, hk, HP⟩ := hrel
                    have cL := HP.out.b.cell (i := 4) rfl
                    by_cases hk0 : k = yn1
                    · rw [hk0]
                      clear hk0 hk
                      go_wp2_with fail
                      clear cL
                      go_loopw [17] (fun i wr => ∃ k : Nat, i = .int .i64 (k : Int) ∧ k ≤ yn2 ∧ Hid (Sp9 w1 w1.heap.size (w6.heap.size + 1) (.slice xq0 xn0 xc0) (.slice xq1 xn1 xc1) (.slice xq2 xn2 xc2) (.slice yq0 yn0 yc0) (.slice yq1 yn1 yc1) (.slice yq2 yn2 yc2) (.slice zq0 zn0 zc0) (.slice zq1 zn1 zc1) (.slice zq2 zn2 zc2) wr)) (fun i _ => yn2 - (intOf i).toNat)
                      case atStart => exact ⟨0, by go_num, Nat.zero_le _, HP.out⟩
                      case round =>
                        clear HP
                        obtain ⟨k, rfl, hk, HP⟩ := hrel
                        have cL := HP.out.b.cell (i := 5) rfl
                        by_cases hk0 : k = yn2
                        · rw [hk0]
                          clear hk0 hk
                          go_wp2_with fail
                          clear cL
                          go_roundw
                          case rel => exact ⟨2, by omega, by go_num, HP.out⟩
                          case measure => simp [intOf]
                        · have hk1 : k < yn2 := by omega
                          have hne : ∃ g cur, yq2 = some ⟨g, 0, none⟩ ∧ w1.heap.size ≤ g ∧ wr.heap[g]? = some (.cells cur 38 (0, 0)) ∧ yn2 * 3 ≤ cur.size ∧ yn2 ≤ 9223372036854775807 := by
                            rcases HP.out.r5 with ⟨c9, e9⟩ | ⟨g, n9, cap, cur, e9, h1, h2, h3, h4⟩
                            · injection e9 with e1 e2 e3
                              omega
                            · injection e9 with e1 e2 e3
                              subst e1 e2
                              exact ⟨g, cur, rfl, h1, h2, h3, h4⟩
                          obtain ⟨g, cur, hq, hg1, hgb, hgs, hgn⟩ := hne
                          have hBg : Blk wr g cur 38 := hgb
                          have hlt : k * 3 + 2 < cur.size := by omega
                          have cS : wr.cell? ⟨g, k * 3 + 2, none⟩ = some cur[k * 3 + 2] := hBg.cell (Array.getElem?_eq_getElem hlt)
                          have fS := hBg.frozen (k * 3 + 2)
                          have hLg : ¬ w6.heap.size + 1 = g := by
                            intro e9
                            have h9 : wr.heap[w6.heap.size + 1]? = _ := HP.out.b
                            rw [e9, hgb] at h9
                            cases h9
                          have HP2 : Hid (Sp9 w1 w1.heap.size (w6.heap.size + 1) (.slice xq0 xn0 xc0) (.slice xq1 xn1 xc1) (.slice xq2 xn2 xc2) (.slice yq0 yn0 yc0) (.slice yq1 yn1 yc1) (.slice yq2 yn2 yc2) (.slice zq0 zn0 zc0) (.slice zq1 zn1 zc1) (.slice zq2 zn2 zc2) (wr.setCell ⟨g, k * 3 + 2, none⟩ (.string ⟨#[115, 112, 111, 105, 108, 116]⟩))) := HP.out.put g _ _ hg1 hLg
                          generalize cur[k * 3 + 2] = cu at *
                          clear hBg hgb hgs hlt
                          subst hq
                          go_wp2_with fail
                          go_roundw
                          case rel => exact ⟨k + 1, by go_num, by omega, HP2.out⟩
                          case measure => simp [intOf]; omega
                    · have hk1 : k < yn1 := by omega
                      have hne : ∃ g cur, yq1 = some ⟨g, 0, none⟩ ∧ w1.heap.size ≤ g ∧ wr.heap[g]? = some (.cells cur 42 (0, 0)) ∧ yn1 * 5 ≤ cur.size ∧ yn1 ≤ 9223372036854775807 := by
                        rcases HP.out.r4 with ⟨c9, e9⟩ | ⟨g, n9, cap, cur, e9, h1, h2, h3, h4⟩
                        · injection e9 with e1 e2 e3
                          omega
                        · injection e9 with e1 e2 e3
                          subst e1 e2
                          exact ⟨g, cur, rfl, h1, h2, h3, h4⟩
                      obtain ⟨g, cur, hq, hg1, hgb, hgs, hgn⟩ := hne
                      have hBg : Blk wr g cur 42 := hgb
                      have hlt : k * 5 + 2 < cur.size := by omega
                      have cS : wr.cell? ⟨g, k * 5 + 2, none⟩ = some cur[k * 5 + 2] := hBg.cell (Array.getElem?_eq_getElem hlt)
                      have fS := hBg.frozen (k * 5 + 2)
                      have hLg : ¬ w6.heap.size + 1 = g := by
                        intro e9
                        have h9 : wr.heap[w6.heap.size + 1]? = _ := HP.out.b
                        rw [e9, hgb] at h9
                        cases h9
                      have HP2 : Hid (Sp9 w1 w1.heap.size (w6.heap.size + 1) (.slice xq0 xn0 xc0) (.slice xq1 xn1 xc1) (.slice xq2 xn2 xc2) (.slice yq0 yn0 yc0) (.slice yq1 yn1 yc1) (.slice yq2 yn2 yc2) (.slice zq0 zn0 zc0) (.slice zq1 zn1 zc1) (.slice zq2 zn2 zc2) (wr.setCell ⟨g, k * 5 + 2, none⟩ (.string ⟨#[115, 112, 111, 105, 108, 116]⟩))) := HP.out.put g _ _ hg1 hLg
                      generalize cur[k * 5 + 2] = cu at *
                      clear hBg hgb hgs hlt
                      subst hq
                      go_wp2_with fail
                      go_roundw
                      case rel => exact ⟨k + 1, by go_num, by omega, HP2.out⟩
                      case measure => simp [intOf]; omega
                · have hk1 : k < yn0 := by omega
                  have hne : ∃ g cur, yq0 = some ⟨g, 0, none⟩ ∧ w1.heap.size ≤ g ∧ wr.heap[g]? = some (.cells cur 38 (0, 0)) ∧ yn0 * 3 ≤ cur.size ∧ yn0 ≤ 9223372036854775807 := by
                    rcases HP.out.r3 with ⟨c9, e9⟩ | ⟨g, n9, cap, cur, e9, h1, h2, h3, h4⟩
                    · injection e9 with e1 e2 e3
                      omega
                    · injection e9 with e1 e2 e3
                      subst e1 e2
                      exact ⟨g, cur, rfl, h1, h2, h3, h4⟩
                  obtain ⟨g, cur, hq, hg1, hgb, hgs, hgn⟩ := hne
                  have hBg : Blk wr g cur 38 := hgb
                  have hlt : k * 3 + 2 < cur.size := by omega
                  have cS : wr.cell? ⟨g, k * 3 + 2, none⟩ = some cur[k * 3 + 2] := hBg.cell (Array.getElem?_eq_getElem hlt)
                  have fS := hBg.frozen (k * 3 + 2)
                  have hLg : ¬ w6.heap.size + 1 = g := by
                    intro e9
                    have h9 : wr.heap[w6.heap.size + 1]? = _ := HP.out.b
                    rw [e9, hgb] at h9
                    cases h9
                  have HP2 : Hid (Sp9 w1 w1.heap.size (w6.heap.size + 1) (.slice xq0 xn0 xc0) (.slice xq1 xn1 xc1) (.slice xq2 xn2 xc2) (.slice yq0 yn0 yc0) (.slice yq1 yn1 yc1) (.slice yq2 yn2 yc2) (.slice zq0 zn0 zc0) (.slice zq1 zn1 zc1) (.slice zq2 zn2 zc2) (wr.setCell ⟨g, k * 3 + 2, none⟩ (.string ⟨#[115, 112, 111, 105, 108, 116]⟩))) := HP.out.put g _ _ hg1 hLg
                  generalize cur[k * 3 + 2] = cu at *
                  clear hBg hgb hgs hlt
                  subst hq
                  go_wp2_with fail
                  go_roundw
                  case rel => exact ⟨k + 1, by go_num, by omega, HP2.out⟩
                  case measure => simp [intOf]; omega
            · have cL := HP.out.b.cell (i := 6) rfl
              go_wp2_with fail
              clear cL
              go_loopw [15] (fun i wr => ∃ k : Nat, i = .int .i64 (k : Int) ∧ k ≤ zn0 ∧ Hid (Sp9 w1 w1.heap.size (w6.heap.size + 1) (.slice xq0 xn0 xc0) (.slice xq1 xn1 xc1) (.slice xq2 xn2 xc2) (.slice yq0 yn0 yc0) (.slice yq1 yn1 yc1) (.slice yq2 yn2 yc2) (.slice zq0 zn0 zc0) (.slice zq1 zn1 zc1) (.slice zq2 zn2 zc2) wr)) (fun i _ => zn0 - (intOf i).toNat)
              case atStart => exact ⟨0, by go_num, Nat.zero_le _, HP.out⟩
              case round =>
                clear HP
                obtain ⟨k, rfl, hk, HP⟩ := hrel
                have cL := HP.out.b.cell (i := 6) rfl
                by_cases hk0 : k = zn0
                · rw [hk0]
                  clear hk0 hk
                  go_wp2_with fail
                  clear cL
                  go_loopw [16] (fun i wr => ∃ k : Nat, i = .int .i64 (k : Int) ∧ k ≤ zn1 ∧ Hid (Sp9 w1 w1.heap.size (w6.heap.size + 1) (.slice xq0 xn0 xc0) (.slice xq1 xn1 xc1) (.slice xq2 xn2 xc2) (.slice yq0 yn0 yc0) (.slice yq1 yn1 yc1) (.slice yq2 yn2 yc2) (.slice zq0 zn0 zc0) (.slice zq1 zn1 zc1) (.slice zq2 zn2 zc2) wr)) (fun i _ => zn1 - (intOf i).toNat)
                  case atStart => exact ⟨0, by go_num, Nat.zero_le _, HP.out⟩
                  case round =>
                    clear HP
                    obtain ⟨k, rfl, hk, HP⟩ := hrel
                    have cL := HP.out.b.cell (i := 7) rfl
                    by_cases hk0 : k = zn1
                    · rw [hk0]
                      clear hk0 hk
                      go_wp2_with fail
                      clear cL
                      go_loopw [17] (fun i wr => ∃ k : Nat, i = .int .i64 (k : Int) ∧ k ≤ zn2 ∧ Hid (Sp9 w1 w1.heap.size (w6.heap.size + 1) (.slice xq0 xn0 xc0) (.slice xq1 xn1 xc1) (.slice xq2 xn2 xc2) (.slice yq0 yn0 yc0) (.slice yq1 yn1 yc1) (.slice yq2 yn2 yc2) (.slice zq0 zn0 zc0) (.slice zq1 zn1 zc1) (.slice zq2 zn2 zc2) wr)) (fun i _ => zn2 - (intOf i).toNat)
                      case atStart => exact ⟨0, by go_num, Nat.zero_le _, HP.out⟩
                      case round =>
                        clear HP
                        obtain ⟨k, rfl, hk, HP⟩ := hrel
                        have cL := HP.out.b.cell (i := 8) rfl
                        by_cases hk0 : k = zn2
                        · rw [hk0]
                          clear hk0 hk
                          go_wp2_with fail
                          clear cL
                          go_roundw
                          case rel => exact ⟨3, by omega, by go_num, HP.out⟩
                          case measure => simp [intOf]
                        · have hk1 : k < zn2 := by omega
                          have hne : ∃ g cur, zq2 = some ⟨g, 0, none⟩ ∧ w1.heap.size ≤ g ∧ wr.heap[g]? = some (.cells cur 38 (0, 0)) ∧ zn2 * 3 ≤ cur.size ∧ zn2 ≤ 9223372036854775807 := by
                            rcases HP.out.r8 with ⟨c9, e9⟩ | ⟨g, n9, cap, cur, e9, h1, h2, h3, h4⟩
                            · injection e9 with e1 e2 e3
                              omega
                            · injection e9 with e1 e2 e3
                              subst e1 e2
                              exact ⟨g, cur, rfl, h1, h2, h3, h4⟩
                          obtain ⟨g, cur, hq, hg1, hgb, hgs, hgn⟩ := hne
                          have hBg : Blk wr g cur 38 := hgb
                          have hlt : k * 3 + 2 < cur.size := by omega
                          have cS : wr.cell? ⟨g, k * 3 + 2, none⟩ = some cur[k * 3 + 2] := hBg.cell (Array.getElem?_eq_getElem hlt)
                          have fS := hBg.frozen (k * 3 + 2)
                          have hLg : ¬ w6.heap.size + 1 = g := by
                            intro e9
                            have h9 : wr.heap[w6.heap.size + 1]? = _ := HP.out.b
                            rw [e9, hgb] at h9
                            cases h9
                          have HP2 : Hid (Sp9 w1 w1.heap.size (w6.heap.size + 1) (.slice xq0 xn0 xc0) (.slice xq1 xn1 xc1) (.slice xq2 xn2 xc2) (.slice yq0 yn0 yc0) (.slice yq1 yn1 yc1) (.slice yq2 yn2 yc2) (.slice zq0 zn0 zc0) (.slice zq1 zn1 zc1) (.slice zq2 zn2 zc2) (wr.setCell ⟨g, k * 3 + 2, none⟩ (.string ⟨#[115, 112, 111, 105, 108, 116]⟩))) := HP.out.put g _ _ hg1 hLg
                          generalize cur[k * 3 + 2] = cu at *
                          clear hBg hgb hgs hlt
                          subst hq
                          go_wp2_with fail
                          go_roundw
                          case rel => exact ⟨k + 1, by go_num, by omega, HP2.out⟩
                          case measure => simp [intOf]; omega
                    · have hk1 : k < zn1 := by omega
                      have hne : ∃ g cur, zq1 = some ⟨g, 0, none⟩ ∧ w1.heap.size ≤ g ∧ wr.heap[g]? = some (.cells cur 42 (0, 0)) ∧ zn1 * 5 ≤ cur.size ∧ zn1 ≤ 9223372036854775807 := by
                        rcases HP.out.r7 with ⟨c9, e9⟩ | ⟨g, n9, cap, cur, e9, h1, h2, h3, h4⟩
                        · injection e9 with e1 e2 e3
                          omega
                        · injection e9 with e1 e2 e3
                          subst e1 e2
                          exact ⟨g, cur, rfl, h1, h2, h3, h4⟩
                      obtain ⟨g, cur, hq, hg1, hgb, hgs, hgn⟩ := hne
                      have hBg : Blk wr g cur 42 := hgb
                      have hlt : k * 5 + 2 < cur.size := by omega
                      have cS : wr.cell? ⟨g, k * 5 + 2, none⟩ = some cur[k * 5 + 2] := hBg.cell (Array.getElem?_eq_getElem hlt)
                      have fS := hBg.frozen (k * 5 + 2)
                      have hLg : ¬ w6.heap.size + 1 = g := by
                        intro e9
                        have h9 : wr.heap[w6.heap.size + 1]? = _ := HP.out.b
                        rw [e9, hgb] at h9
                        cases h9
                      have HP2 : Hid (Sp9 w1 w1.heap.size (w6.heap.size + 1) (.slice xq0 xn0 xc0) (.slice xq1 xn1 xc1) (.slice xq2 xn2 xc2) (.slice yq0 yn0 yc0) (.slice yq1 yn1 yc1) (.slice yq2 yn2 yc2) (.slice zq0 zn0 zc0) (.slice zq1 zn1 zc1) (.slice zq2 zn2 zc2) (wr.setCell ⟨g, k * 5 + 2, none⟩ (.string ⟨#[115, 112, 111, 105, 108, 116]⟩))) := HP.out.put g _ _ hg1 hLg
                      generalize cur[k * 5 + 2] = cu at *
                      clear hBg hgb hgs hlt
                      subst hq
                      go_wp2_with fail
                      go_roundw
                      case rel => exact ⟨k + 1, by go_num, by omega, HP2.out⟩
                      case measure => simp [intOf]; omega
                · have hk1 : k < zn0 := by omega
                  have hne : ∃ g cur, zq0 = some ⟨g, 0, none⟩ ∧ w1.heap.size ≤ g ∧ wr.heap[g]? = some (.cells cur 38 (0, 0)) ∧ zn0 * 3 ≤ cur.size ∧ zn0 ≤ 9223372036854775807 := by
                    rcases HP.out.r6 with ⟨c9, e9⟩ | ⟨g, n9, cap, cur, e9, h1, h2, h3, h4⟩
                    · injection e9 with e1 e2 e3
                      omega
                    · injection e9 with e1 e2 e3
                      subst e1 e2
                      exact ⟨g, cur, rfl, h1, h2, h3, h4⟩
                  obtain ⟨g, cur, hq, hg1, hgb, hgs, hgn⟩ := hne
                  have hBg : Blk wr g cur 38 := hgb
                  have hlt : k * 3 + 2 < cur.size := by omega
                  have cS : wr.cell? ⟨g, k * 3 + 2, none⟩ = some cur[k * 3 + 2] := hBg.cell (Array.getElem?_eq_getElem hlt)
                  have fS := hBg.frozen (k * 3 + 2)
                  have hLg : ¬ w6.heap.size + 1 = g := by
                    intro e9
                    have h9 : wr.heap[w6.heap.size + 1]? = _ := HP.out.b
                    rw [e9, hgb] at h9
                    cases h9
                  have HP2 : Hid (Sp9 w1 w1.heap.size (w6.heap.size + 1) (.slice xq0 xn0 xc0) (.slice xq1 xn1 xc1) (.slice xq2 xn2 xc2) (.slice yq0 yn0 yc0) (.slice yq1 yn1 yc1) (.slice yq2 yn2 yc2) (.slice zq0 zn0 zc0) (.slice zq1 zn1 zc1) (.slice zq2 zn2 zc2) (wr.setCell ⟨g, k * 3 + 2, none⟩ (.string ⟨#[115, 112, 111, 105, 108, 116]⟩))) := HP.out.put g _ _ hg1 hLg
                  generalize cur[k * 3 + 2] = cu at *
                  clear hBg hgb hgs hlt
                  subst hq
                  go_wp2_with fail
                  go_roundw
                  case rel => exact ⟨k + 1, by go_num, by omega, HP2.out⟩
                  case measure => simp [intOf]; omega
end Go.Proofs.YtiiladcihheogaaGreat
