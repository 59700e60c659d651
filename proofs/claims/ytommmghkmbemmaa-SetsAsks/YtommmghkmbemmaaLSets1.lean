/- The law of SetsAsks. -/
import Derived.Test.YtommmghkmbemmaaWAw17
import Derived.Deep.Cut
import Derived.Deep.CutRange
namespace Go.Proofs.Ytommmghkmbemmaa
open Go.RowKit
set_option maxRecDepth 100000

theorem wpL_two {P : Program} {ops : Array Oper} {Q : Exit → Act → World → Prop} {S : World → Prop} {m : Nat} (i j : Nat) {oi oj : Oper} {fuel : Nat} {listed : Array Bool} {a : Act} {w : World} (hi : nthO ops.toList i = some oi) (hj : nthO ops.toList j = some oj) (hr : Region.ready .any ops listed = [i, j]) (hwi : Region.wanted oi (yielded ops a.tmps) = true) (hwj : Region.wanted oj (yielded ops a.tmps) = true)
    (h1 : ∀ K : Act → World → Prop, Hid (∀ a' w', (i ≠ m → S w') → wpL P ops Q S m fuel (listed.setIfInBounds i true) a' w' → K a' w') → oi.wp P a w K Q)
    (h2 : ∀ K : Act → World → Prop, Hid (∀ a' w', (j ≠ m → S w') → wpL P ops Q S m fuel (listed.setIfInBounds j true) a' w' → K a' w') → oj.wp P a w K Q) : wpL P ops Q S m (fuel + 1) listed a w := by
  refine ⟨fun h0 => (by rw [hr] at h0; cases h0), fun k hk => ?_⟩
  rw [hr] at hk
  rcases List.mem_cons.1 hk with e | hk
  · subst e
    unfold wpOp
    simp only [nthO_at hi, hwi, if_true]
    exact .inl (h1 _ (show ∀ a' w', _ → _ → _ from fun a' w' h1 h2 => ⟨h1, h2⟩))
  · have e : k = j := by simpa using hk
    subst e
    unfold wpOp
    simp only [nthO_at hj, hwj, if_true]
    exact .inl (h2 _ (show ∀ a' w', _ → _ → _ from fun a' w' h1 h2 => ⟨h1, h2⟩))
/-- the boxes of what a law is handed -/
structure Bx3 (B : Nat) (va0 va1 va2 vb0 vb1 vb2 : Value) (x : Pt) (w : World) : Prop where
  a : Blk w B #[va0, va1, va2] 25
  b : Blk w (B + 1) #[vb0, vb1, vb2] 25
  p : Blk w (B + 1 + 1) #[.int .i64 x.t, .int .i64 x.i, .string x.k] 27
theorem rcopy_rd (a : Ft) (va0 va1 va2 : Value) (w : World) (ha : RdF w va0 va1 va2 a) :
    Calls Try.prog 6 #[.agg #[va0, va1, va2]] w fun e w' => ∃ v0 v1 v2, e = .returned (.agg #[v0, v1, v2]) ∧ RdF w' v0 v1 v2 a ∧ Below w.heap.size w w' :=
  (rcopy_any a va0 va1 va2 w ha).mono fun _ _ ⟨v0, v1, v2, e, h0, h1, h2, hb⟩ => ⟨v0, v1, v2, e, ⟨h0.sl, h1.sl, h2.sl, ha.lp, ha.ls, ha.lw⟩, hb⟩
/-- a foot without a table -/
def Ft.wo (a : Ft) (tb : Int) : Ft := ⟨dropG (fun x => x.t == tb) a.P, dropG (fun x => x.t == tb) a.S, dropG (fun x => x.t == tb) a.W⟩
theorem dropG_le {α : Type} (f : α → Bool) (L : List α) : (dropG f L).length ≤ L.length := List.length_filter_le _ _
theorem pwithout_rd (a : Ft) (tb : Int) (va0 va1 va2 : Value) (w : World) (ha : RdF w va0 va1 va2 a) :
    Calls Try.prog 13 #[.agg #[va0, va1, va2], .int .i64 tb] w fun e w' => ∃ v0 v1 v2, e = .returned (.agg #[v0, v1, v2]) ∧ RdF w' v0 v1 v2 (a.wo tb) ∧ Below w.heap.size w w' :=
  (pwithout_any a tb va0 va1 va2 w ha).mono fun _ _ ⟨v0, v1, v2, e, h0, h1, h2, hb⟩ => ⟨v0, v1, v2, e, ⟨h0.sl, h1.sl, h2.sl, Nat.le_trans (dropG_le _ _) ha.lp, Nat.le_trans (dropG_le _ _) ha.ls, Nat.le_trans (dropG_le _ _) ha.lw⟩, hb⟩
theorem rwithout_rd (a : Ft) (tb : Int) (va0 va1 va2 : Value) (w : World) (ha : RdF w va0 va1 va2 a) :
    Calls Try.prog 14 #[.agg #[va0, va1, va2], .int .i64 tb] w fun e w' => ∃ v0 v1 v2, e = .returned (.agg #[v0, v1, v2]) ∧ RdF w' v0 v1 v2 (a.wo tb) ∧ Below w.heap.size w w' :=
  (rwithout_any a tb va0 va1 va2 w ha).mono fun _ _ ⟨v0, v1, v2, e, h0, h1, h2, hb⟩ => ⟨v0, v1, v2, e, ⟨h0.sl, h1.sl, h2.sl, Nat.le_trans (dropG_le _ _) ha.lp, Nat.le_trans (dropG_le _ _) ha.ls, Nat.le_trans (dropG_le _ _) ha.lw⟩, hb⟩
theorem rsame_rd (a : Ft) (va0 va1 va2 vb0 vb1 vb2 : Value) (w : World) (ha : RdF w va0 va1 va2 a) (hb : RdF w vb0 vb1 vb2 a) :
    Calls Try.prog 12 #[.agg #[va0, va1, va2], .agg #[vb0, vb1, vb2]] w fun e w' => e = .returned (.bool true) ∧ Below w.heap.size w w' := by
  obtain ⟨p0, c0, rfl, _, _, h0⟩ := ha.p.f
  obtain ⟨p1, c1, rfl, _, _, h1⟩ := ha.s.f
  obtain ⟨p2, c2, rfl, _, _, h2⟩ := ha.w.f
  obtain ⟨p3, c3, rfl, _, _, h3⟩ := hb.p.f
  obtain ⟨p4, c4, rfl, _, _, h4⟩ := hb.s.f
  obtain ⟨p5, c5, rfl, _, _, h5⟩ := hb.w.f
  exact rsame_yes a p0 p1 p2 p3 p4 p5 c0 c1 c2 c3 c4 c5 w h0 h1 h2 h3 h4 h5 ha.lp ha.ls ha.lw

set_option maxHeartbeats 40000000 in
theorem lawAsks (a b : Ft) (x : Pt) (va0 va1 va2 vb0 vb1 vb2 : Value) (w : World) (ha : RdF w va0 va1 va2 a) (hb : RdF w vb0 vb1 vb2 b) :
    Calls Try.prog 3 #[.agg #[va0, va1, va2], .agg #[vb0, vb1, vb2], PV x] w fun e w' => e = .returned (.bool true) ∧ Below w.heap.size w w' := by
  have hal : Below w.heap.size w (((w.alloc (.cells #[va0, va1, va2] 25)).alloc (.cells #[vb0, vb1, vb2] 25)).alloc (.cells #[.int .i64 x.t, .int .i64 x.i, .string x.k] 27)) := (((Below.refl _ _).alloc (Nat.le_refl _) _).alloc (by simp) _).alloc (by simp <;> omega) _
  have hA0 : Blk (((w.alloc (.cells #[va0, va1, va2] 25)).alloc (.cells #[vb0, vb1, vb2] 25)).alloc (.cells #[.int .i64 x.t, .int .i64 x.i, .string x.k] 27)) w.heap.size #[va0, va1, va2] 25 := (Blk.new w #[va0, va1, va2] 25).keep (B := w.heap.size + 1) (((Below.refl _ _).alloc (by simp) _).alloc (by simp) _) (by omega)
  have hB0 : Blk (((w.alloc (.cells #[va0, va1, va2] 25)).alloc (.cells #[vb0, vb1, vb2] 25)).alloc (.cells #[.int .i64 x.t, .int .i64 x.i, .string x.k] 27)) (w.heap.size + 1) #[vb0, vb1, vb2] 25 := by
    have h := Blk.new (w.alloc (.cells #[va0, va1, va2] 25)) #[vb0, vb1, vb2] 25
    have e : (w.alloc (.cells #[va0, va1, va2] 25)).heap.size = w.heap.size + 1 := by simp
    rw [e] at h
    exact h.keep (B := w.heap.size + 1 + 1) ((Below.refl _ _).alloc (by simp) _) (by omega)
  have hC0 : Blk (((w.alloc (.cells #[va0, va1, va2] 25)).alloc (.cells #[vb0, vb1, vb2] 25)).alloc (.cells #[.int .i64 x.t, .int .i64 x.i, .string x.k] 27)) (w.heap.size + 1 + 1) #[.int .i64 x.t, .int .i64 x.i, .string x.k] 27 := by
    have h := Blk.new ((w.alloc (.cells #[va0, va1, va2] 25)).alloc (.cells #[vb0, vb1, vb2] 25)) #[.int .i64 x.t, .int .i64 x.i, .string x.k] 27
    have e : ((w.alloc (.cells #[va0, va1, va2] 25)).alloc (.cells #[vb0, vb1, vb2] 25)).heap.size = w.heap.size + 1 + 1 := by simp
    rw [e] at h
    exact h
  have HX : Hid (Bx3 w.heap.size va0 va1 va2 vb0 vb1 vb2 x (((w.alloc (.cells #[va0, va1, va2] 25)).alloc (.cells #[vb0, vb1, vb2] 25)).alloc (.cells #[.int .i64 x.t, .int .i64 x.i, .string x.k] 27))) := ⟨hA0, hB0, hC0⟩
  have HRd : Hid (RdF (((w.alloc (.cells #[va0, va1, va2] 25)).alloc (.cells #[vb0, vb1, vb2] 25)).alloc (.cells #[.int .i64 x.t, .int .i64 x.i, .string x.k] 27)) va0 va1 va2 a ∧ RdF (((w.alloc (.cells #[va0, va1, va2] 25)).alloc (.cells #[vb0, vb1, vb2] 25)).alloc (.cells #[.int .i64 x.t, .int .i64 x.i, .string x.k] 27)) vb0 vb1 vb2 b) := ⟨ha.on hal, hb.on hal⟩
  have HE : Hid (Below w.heap.size w (((w.alloc (.cells #[va0, va1, va2] 25)).alloc (.cells #[vb0, vb1, vb2] 25)).alloc (.cells #[.int .i64 x.t, .int .i64 x.i, .string x.k] 27))) := hal
  clear ha hb hal hA0 hB0 hC0
  go_enter Try.func3, Try.ntmps3
  go_upto_region 1 with fail
  generalize (((w.alloc (.cells #[va0, va1, va2] 25)).alloc (.cells #[vb0, vb1, vb2] 25)).alloc (.cells #[.int .i64 x.t, .int .i64 x.i, .string x.k] 27)) = wB at *
  go_cut [7, 8] from 11 to 18 (fun p7 b8 wx => ∃ (β : Nat) (o : Option Pt), p7 = .pointer (some ⟨β, 0, none⟩) ∧ b8 = .bool o.isSome ∧ Hid (wB.heap.size ≤ β ∧ Blk wx β #[.int .i64 (lP o).t, .int .i64 (lP o).i, .string (lP o).k] 27 ∧ Below wB.heap.size wB wx ∧ IsMin (fun x => x ∈ b.W ∧ a.rds x) o))
  case first =>
    refine wp_region_L (fun w' => Below wB.heap.size wB w') 11 (by kernel_rfl) ?_
    have HBwd : Hid (Below wB.heap.size wB wB.drew) := (Below.refl _ _).drew
    generalize wB.drew = wd at *
    refine wpL_take (v := ?_) 0 rfl (by kernel_rfl) (fun _ _ _ h => h) (by rfl) ?_ HBwd.out ?_
    rotate_left
    focus
      intro w9 hw9
      have k0 := (HX.out.a.on hw9).cell (i := 0) rfl
      have k1 := (HX.out.a.on hw9).cell (i := 1) rfl
      have k2 := (HX.out.a.on hw9).cell (i := 2) rfl
      have k3 := (HX.out.b.on hw9).cell (i := 0) rfl
      have k4 := (HX.out.b.on hw9).cell (i := 1) rfl
      have k5 := (HX.out.b.on hw9).cell (i := 2) rfl
      have k6 := (HX.out.p.on hw9).cell (i := 0) rfl
      have k7 := (HX.out.p.on hw9).cell (i := 1) rfl
      have k8 := (HX.out.p.on hw9).cell (i := 2) rfl
      go_simp
      try with_reducible rfl
    try simp only [Act.put, List.setIfInBounds_toArray, List.set_cons_zero, List.set_cons_succ]
    refine wpL_take (v := ?_) 2 rfl (by kernel_rfl) (fun _ _ _ h => h) (by rfl) ?_ HBwd.out ?_
    rotate_left
    focus
      intro w9 hw9
      have k0 := (HX.out.a.on hw9).cell (i := 0) rfl
      have k1 := (HX.out.a.on hw9).cell (i := 1) rfl
      have k2 := (HX.out.a.on hw9).cell (i := 2) rfl
      have k3 := (HX.out.b.on hw9).cell (i := 0) rfl
      have k4 := (HX.out.b.on hw9).cell (i := 1) rfl
      have k5 := (HX.out.b.on hw9).cell (i := 2) rfl
      have k6 := (HX.out.p.on hw9).cell (i := 0) rfl
      have k7 := (HX.out.p.on hw9).cell (i := 1) rfl
      have k8 := (HX.out.p.on hw9).cell (i := 2) rfl
      go_simp
      try with_reducible rfl
    try simp only [Act.put, List.setIfInBounds_toArray, List.set_cons_zero, List.set_cons_succ]
    refine wpL_two 1 8 rfl rfl (by kernel_rfl) (by rfl) (by rfl) ?_ ?_
    · intro K hK
      go_simp
      have CPw11 : Hid (Calls _ _ _ _ _) := rcopy_rd a va0 va1 va2 wd (HRd.out.1.on HBwd.out)
      refine CPw11.out.mono ?_
      rintro e w11 ⟨uaw110, uaw111, uaw112, rfl, hrw11, hbw11⟩
      dsimp only
      have HBw11 : Hid (Below wB.heap.size wB w11) := HBwd.out.trans ((hbw11).mono HBwd.out.size)
      have Caw11 : Hid (RdF w11 uaw110 uaw111 uaw112 a) := hrw11
      clear CPw11 hrw11 hbw11
      refine hK.out _ _ (fun _ => HBw11.out) ?_
      clear hK K
      try simp only [Act.put, List.setIfInBounds_toArray, List.set_cons_zero, List.set_cons_succ]
      refine wpL_two 3 8 rfl rfl (by kernel_rfl) (by rfl) (by rfl) ?_ ?_
      · intro K hK
        go_simp
        have CPw12 : Hid (Calls _ _ _ _ _) := rcopy_rd b vb0 vb1 vb2 w11 (HRd.out.2.on HBw11.out)
        refine CPw12.out.mono ?_
        rintro e w12 ⟨ubw120, ubw121, ubw122, rfl, hrw12, hbw12⟩
        dsimp only
        have HBw12 : Hid (Below wB.heap.size wB w12) := HBw11.out.trans ((hbw12).mono HBw11.out.size)
        have Caw12 : Hid (RdF w12 uaw110 uaw111 uaw112 a) := Caw11.out.on (hbw12)
        have Cbw12 : Hid (RdF w12 ubw120 ubw121 ubw122 b) := hrw12
        clear CPw12 hrw12 hbw12
        refine hK.out _ _ (fun _ => HBw12.out) ?_
        clear hK K
        try simp only [Act.put, List.setIfInBounds_toArray, List.set_cons_zero, List.set_cons_succ]
        refine wpL_two 4 8 rfl rfl (by kernel_rfl) (by rfl) (by rfl) ?_ ?_
        · intro K hK
          go_simp
          have CLw13 : Hid (Calls _ _ _ _ _) := clash_any a b _ _ _ _ _ _ w12 Caw12.out Cbw12.out
          refine CLw13.out.mono ?_
          rintro e w13 ⟨o1, hmw13, rfl, hbw13⟩
          dsimp only
          have HMo1 : Hid (IsMin (fun x => x ∈ b.W ∧ a.rds x) o1) := hmw13
          have HBw13 : Hid (Below wB.heap.size wB w13) := HBw12.out.trans ((hbw13).mono HBw12.out.size)
          clear CLw13 hmw13 hbw13 Caw12 Cbw12
          refine hK.out _ _ (fun _ => HBw13.out) ?_
          clear hK K
          try simp only [Act.put, List.setIfInBounds_toArray, List.set_cons_zero, List.set_cons_succ]
          refine wpL_take (v := ?_) 5 rfl (by kernel_rfl) (fun _ _ _ h => h) (by rfl) ?_ HBw13.out ?_
          rotate_left
          focus
            intro w9 hw9
            have k0 := (HX.out.a.on hw9).cell (i := 0) rfl
            have k1 := (HX.out.a.on hw9).cell (i := 1) rfl
            have k2 := (HX.out.a.on hw9).cell (i := 2) rfl
            have k3 := (HX.out.b.on hw9).cell (i := 0) rfl
            have k4 := (HX.out.b.on hw9).cell (i := 1) rfl
            have k5 := (HX.out.b.on hw9).cell (i := 2) rfl
            have k6 := (HX.out.p.on hw9).cell (i := 0) rfl
            have k7 := (HX.out.p.on hw9).cell (i := 1) rfl
            have k8 := (HX.out.p.on hw9).cell (i := 2) rfl
            go_simp
            try with_reducible rfl
          try simp only [Act.put, List.setIfInBounds_toArray, List.set_cons_zero, List.set_cons_succ]
          refine wpL_take (v := ?_) 6 rfl (by kernel_rfl) (fun _ _ _ h => h) (by rfl) ?_ HBw13.out ?_
          rotate_left
          focus
            intro w9 hw9
            have k0 := (HX.out.a.on hw9).cell (i := 0) rfl
            have k1 := (HX.out.a.on hw9).cell (i := 1) rfl
            have k2 := (HX.out.a.on hw9).cell (i := 2) rfl
            have k3 := (HX.out.b.on hw9).cell (i := 0) rfl
            have k4 := (HX.out.b.on hw9).cell (i := 1) rfl
            have k5 := (HX.out.b.on hw9).cell (i := 2) rfl
            have k6 := (HX.out.p.on hw9).cell (i := 0) rfl
            have k7 := (HX.out.p.on hw9).cell (i := 1) rfl
            have k8 := (HX.out.p.on hw9).cell (i := 2) rfl
            go_simp
            try with_reducible rfl
          try simp only [Act.put, List.setIfInBounds_toArray, List.set_cons_zero, List.set_cons_succ]
          refine wpL_take (v := ?_) 7 rfl (by kernel_rfl) (fun _ _ _ h => h) (by rfl) ?_ HBw13.out ?_
          rotate_left
          focus
            intro w9 hw9
            have k0 := (HX.out.a.on hw9).cell (i := 0) rfl
            have k1 := (HX.out.a.on hw9).cell (i := 1) rfl
            have k2 := (HX.out.a.on hw9).cell (i := 2) rfl
            have k3 := (HX.out.b.on hw9).cell (i := 0) rfl
            have k4 := (HX.out.b.on hw9).cell (i := 1) rfl
            have k5 := (HX.out.b.on hw9).cell (i := 2) rfl
            have k6 := (HX.out.p.on hw9).cell (i := 0) rfl
            have k7 := (HX.out.p.on hw9).cell (i := 1) rfl
            have k8 := (HX.out.p.on hw9).cell (i := 2) rfl
            go_simp
            try with_reducible rfl
          try simp only [Act.put, List.setIfInBounds_toArray, List.set_cons_zero, List.set_cons_succ]
          refine wpL_one 8 rfl (by kernel_rfl) (by rfl) ?_
          intro K hK
          go_simp
          have hbw14 : Below w13.heap.size w13 (w13.alloc (.cells #[.int .i64 0, .int .i64 0, .string ⟨#[]⟩] 27)) := (Below.refl _ _).alloc (Nat.le_refl _) _
          have hzw14 : Blk (w13.alloc (.cells #[.int .i64 0, .int .i64 0, .string ⟨#[]⟩] 27)) w13.heap.size #[.int .i64 0, .int .i64 0, .string ⟨#[]⟩] 27 := Blk.new w13 #[.int .i64 0, .int .i64 0, .string ⟨#[]⟩] 27
          generalize w13.alloc (.cells #[.int .i64 0, .int .i64 0, .string ⟨#[]⟩] 27) = w14 at *
          have HBw14 : Hid (Below wB.heap.size wB w14) := HBw13.out.trans ((hbw14).mono HBw13.out.size)
          have Zw14 : Hid (Blk w14 w13.heap.size #[.int .i64 0, .int .i64 0, .string ⟨#[]⟩] 27) := hzw14
          have HLw14 : Hid (wB.heap.size ≤ w13.heap.size) := HBw13.out.size
          clear hbw14 hzw14
          refine hK.out _ _ (fun _ => HBw14.out) ?_
          clear hK K
          try simp only [Act.put, List.setIfInBounds_toArray, List.set_cons_zero, List.set_cons_succ]
          obtain ⟨m, hm⟩ : ∃ m, m = lP o1 := ⟨_, rfl⟩
          obtain ⟨so, hso⟩ : ∃ so, so = o1.isSome := ⟨_, rfl⟩
          have HMS : Hid (m = lP o1 ∧ so = o1.isSome) := ⟨hm, hso⟩
          rw [← hm, ← hso]
          clear hm hso
          have z0 := Zw14.out.cell (i := 0) rfl
          have z1 := Zw14.out.cell (i := 1) rfl
          have z2 := Zw14.out.cell (i := 2) rfl
          have f0 := Zw14.out.frozen 0
          have f1 := Zw14.out.frozen 1
          have f2 := Zw14.out.frozen 2
          have HSw15 : Hid (Blk (((w14.setCell ⟨w13.heap.size, 0, none⟩ (.int .i64 m.t)).setCell ⟨w13.heap.size, 1, none⟩ (.int .i64 m.i)).setCell ⟨w13.heap.size, 2, none⟩ (.string m.k)) (w13.heap.size) #[.int .i64 m.t, .int .i64 m.i, .string m.k] 27 ∧ Below wB.heap.size wB (((w14.setCell ⟨w13.heap.size, 0, none⟩ (.int .i64 m.t)).setCell ⟨w13.heap.size, 1, none⟩ (.int .i64 m.i)).setCell ⟨w13.heap.size, 2, none⟩ (.string m.k)) ∧ Frm w14 (((w14.setCell ⟨w13.heap.size, 0, none⟩ (.int .i64 m.t)).setCell ⟨w13.heap.size, 1, none⟩ (.int .i64 m.i)).setCell ⟨w13.heap.size, 2, none⟩ (.string m.k)) (fun k => k = w13.heap.size)) := ⟨((Zw14.out.set 0 _).set 1 _).set 2 _, ((HBw14.out.setCell (show wB.heap.size ≤ w13.heap.size from HLw14.out) _).setCell (show wB.heap.size ≤ w13.heap.size from HLw14.out) _).setCell (show wB.heap.size ≤ w13.heap.size from HLw14.out) _, ((frm_set _ _ _ _ (F := fun k => k = w13.heap.size) (.inl rfl)).trans (frm_set _ _ _ _ (F := fun k => k = w13.heap.size) (.inl rfl)) (fun k hk => .inl hk)).trans (frm_set _ _ _ _ (F := fun k => k = w13.heap.size) (.inl rfl)) (fun k hk => .inl hk)⟩
          refine wpL_one 9 rfl (by kernel_rfl) (by rfl) ?_
          intro K hK
          go_simp
          refine hK.out _ _ (fun _ => HSw15.out.2.1) ?_
          clear hK K z0 z1 z2 f0 f1 f2
          generalize ((w14.setCell ⟨w13.heap.size, 0, none⟩ (.int .i64 m.t)).setCell ⟨w13.heap.size, 1, none⟩ (.int .i64 m.i)).setCell ⟨w13.heap.size, 2, none⟩ (.string m.k) = w15 at *
          have HBw15 : Hid (Below wB.heap.size wB w15) := HSw15.out.2.1
          try simp only [Act.put, List.setIfInBounds_toArray, List.set_cons_zero, List.set_cons_succ]
          refine wpL_take (v := ?_) 10 rfl (by kernel_rfl) (fun _ _ _ h => h) (by rfl) ?_ HBw15.out ?_
          rotate_left
          focus
            intro w9 hw9
            have k0 := (HX.out.a.on hw9).cell (i := 0) rfl
            have k1 := (HX.out.a.on hw9).cell (i := 1) rfl
            have k2 := (HX.out.a.on hw9).cell (i := 2) rfl
            have k3 := (HX.out.b.on hw9).cell (i := 0) rfl
            have k4 := (HX.out.b.on hw9).cell (i := 1) rfl
            have k5 := (HX.out.b.on hw9).cell (i := 2) rfl
            have k6 := (HX.out.p.on hw9).cell (i := 0) rfl
            have k7 := (HX.out.p.on hw9).cell (i := 1) rfl
            have k8 := (HX.out.p.on hw9).cell (i := 2) rfl
            go_simp
            try with_reducible rfl
          try simp only [Act.put, List.setIfInBounds_toArray, List.set_cons_zero, List.set_cons_succ]
          refine wpL_done (by kernel_rfl) ?_ _
          try simp only [NoPanic]
          go_wp2_with fail
          go_meet
          exact ⟨_, o1, rfl, by rw [HMS.out.2], HLw14.out, by have h := HSw15.out.1; rw [HMS.out.1] at h; exact h, HBw15.out, HMo1.out⟩
        · intro K hK
          go_simp
          have hbw16 : Below w12.heap.size w12 (w12.alloc (.cells #[.int .i64 0, .int .i64 0, .string ⟨#[]⟩] 27)) := (Below.refl _ _).alloc (Nat.le_refl _) _
          have hzw16 : Blk (w12.alloc (.cells #[.int .i64 0, .int .i64 0, .string ⟨#[]⟩] 27)) w12.heap.size #[.int .i64 0, .int .i64 0, .string ⟨#[]⟩] 27 := Blk.new w12 #[.int .i64 0, .int .i64 0, .string ⟨#[]⟩] 27
          generalize w12.alloc (.cells #[.int .i64 0, .int .i64 0, .string ⟨#[]⟩] 27) = w16 at *
          have HBw16 : Hid (Below wB.heap.size wB w16) := HBw12.out.trans ((hbw16).mono HBw12.out.size)
          have Caw16 : Hid (RdF w16 uaw110 uaw111 uaw112 a) := Caw12.out.on (hbw16)
          have Cbw16 : Hid (RdF w16 ubw120 ubw121 ubw122 b) := Cbw12.out.on (hbw16)
          have Zw16 : Hid (Blk w16 w12.heap.size #[.int .i64 0, .int .i64 0, .string ⟨#[]⟩] 27) := hzw16
          have HLw16 : Hid (wB.heap.size ≤ w12.heap.size) := HBw12.out.size
          clear hbw16 hzw16
          refine hK.out _ _ (fun _ => HBw16.out) ?_
          clear hK K
          try simp only [Act.put, List.setIfInBounds_toArray, List.set_cons_zero, List.set_cons_succ]
          refine wpL_one 4 rfl (by kernel_rfl) (by rfl) ?_
          intro K hK
          go_simp
          have CLw17 : Hid (Calls _ _ _ _ _) := clash_any a b _ _ _ _ _ _ w16 Caw16.out Cbw16.out
          refine CLw17.out.mono ?_
          rintro e w17 ⟨o1, hmw17, rfl, hbw17⟩
          dsimp only
          have HMo1 : Hid (IsMin (fun x => x ∈ b.W ∧ a.rds x) o1) := hmw17
          have HBw17 : Hid (Below wB.heap.size wB w17) := HBw16.out.trans ((hbw17).mono HBw16.out.size)
          have Zw17 : Hid (Blk w17 w12.heap.size #[.int .i64 0, .int .i64 0, .string ⟨#[]⟩] 27) := Zw16.out.on (hbw17)
          clear CLw17 hmw17 hbw17 Caw16 Cbw16
          refine hK.out _ _ (fun _ => HBw17.out) ?_
          clear hK K
          try simp only [Act.put, List.setIfInBounds_toArray, List.set_cons_zero, List.set_cons_succ]
          refine wpL_take (v := ?_) 5 rfl (by kernel_rfl) (fun _ _ _ h => h) (by rfl) ?_ HBw17.out ?_
          rotate_left
          focus
            intro w9 hw9
            have k0 := (HX.out.a.on hw9).cell (i := 0) rfl
            have k1 := (HX.out.a.on hw9).cell (i := 1) rfl
            have k2 := (HX.out.a.on hw9).cell (i := 2) rfl
            have k3 := (HX.out.b.on hw9).cell (i := 0) rfl
            have k4 := (HX.out.b.on hw9).cell (i := 1) rfl
            have k5 := (HX.out.b.on hw9).cell (i := 2) rfl
            have k6 := (HX.out.p.on hw9).cell (i := 0) rfl
            have k7 := (HX.out.p.on hw9).cell (i := 1) rfl
            have k8 := (HX.out.p.on hw9).cell (i := 2) rfl
            go_simp
            try with_reducible rfl
          try simp only [Act.put, List.setIfInBounds_toArray, List.set_cons_zero, List.set_cons_succ]
          refine wpL_take (v := ?_) 6 rfl (by kernel_rfl) (fun _ _ _ h => h) (by rfl) ?_ HBw17.out ?_
          rotate_left
          focus
            intro w9 hw9
            have k0 := (HX.out.a.on hw9).cell (i := 0) rfl
            have k1 := (HX.out.a.on hw9).cell (i := 1) rfl
            have k2 := (HX.out.a.on hw9).cell (i := 2) rfl
            have k3 := (HX.out.b.on hw9).cell (i := 0) rfl
            have k4 := (HX.out.b.on hw9).cell (i := 1) rfl
            have k5 := (HX.out.b.on hw9).cell (i := 2) rfl
            have k6 := (HX.out.p.on hw9).cell (i := 0) rfl
            have k7 := (HX.out.p.on hw9).cell (i := 1) rfl
            have k8 := (HX.out.p.on hw9).cell (i := 2) rfl
            go_simp
            try with_reducible rfl
          try simp only [Act.put, List.setIfInBounds_toArray, List.set_cons_zero, List.set_cons_succ]
          refine wpL_take (v := ?_) 7 rfl (by kernel_rfl) (fun _ _ _ h => h) (by rfl) ?_ HBw17.out ?_
          rotate_left
          focus
            intro w9 hw9
            have k0 := (HX.out.a.on hw9).cell (i := 0) rfl
            have k1 := (HX.out.a.on hw9).cell (i := 1) rfl
            have k2 := (HX.out.a.on hw9).cell (i := 2) rfl
            have k3 := (HX.out.b.on hw9).cell (i := 0) rfl
            have k4 := (HX.out.b.on hw9).cell (i := 1) rfl
            have k5 := (HX.out.b.on hw9).cell (i := 2) rfl
            have k6 := (HX.out.p.on hw9).cell (i := 0) rfl
            have k7 := (HX.out.p.on hw9).cell (i := 1) rfl
            have k8 := (HX.out.p.on hw9).cell (i := 2) rfl
            go_simp
            try with_reducible rfl
          try simp only [Act.put, List.setIfInBounds_toArray, List.set_cons_zero, List.set_cons_succ]
          obtain ⟨m, hm⟩ : ∃ m, m = lP o1 := ⟨_, rfl⟩
          obtain ⟨so, hso⟩ : ∃ so, so = o1.isSome := ⟨_, rfl⟩
          have HMS : Hid (m = lP o1 ∧ so = o1.isSome) := ⟨hm, hso⟩
          rw [← hm, ← hso]
          clear hm hso
          have z0 := Zw17.out.cell (i := 0) rfl
          have z1 := Zw17.out.cell (i := 1) rfl
          have z2 := Zw17.out.cell (i := 2) rfl
          have f0 := Zw17.out.frozen 0
          have f1 := Zw17.out.frozen 1
          have f2 := Zw17.out.frozen 2
          have HSw18 : Hid (Blk (((w17.setCell ⟨w12.heap.size, 0, none⟩ (.int .i64 m.t)).setCell ⟨w12.heap.size, 1, none⟩ (.int .i64 m.i)).setCell ⟨w12.heap.size, 2, none⟩ (.string m.k)) (w12.heap.size) #[.int .i64 m.t, .int .i64 m.i, .string m.k] 27 ∧ Below wB.heap.size wB (((w17.setCell ⟨w12.heap.size, 0, none⟩ (.int .i64 m.t)).setCell ⟨w12.heap.size, 1, none⟩ (.int .i64 m.i)).setCell ⟨w12.heap.size, 2, none⟩ (.string m.k)) ∧ Frm w17 (((w17.setCell ⟨w12.heap.size, 0, none⟩ (.int .i64 m.t)).setCell ⟨w12.heap.size, 1, none⟩ (.int .i64 m.i)).setCell ⟨w12.heap.size, 2, none⟩ (.string m.k)) (fun k => k = w12.heap.size)) := ⟨((Zw17.out.set 0 _).set 1 _).set 2 _, ((HBw17.out.setCell (show wB.heap.size ≤ w12.heap.size from HLw16.out) _).setCell (show wB.heap.size ≤ w12.heap.size from HLw16.out) _).setCell (show wB.heap.size ≤ w12.heap.size from HLw16.out) _, ((frm_set _ _ _ _ (F := fun k => k = w12.heap.size) (.inl rfl)).trans (frm_set _ _ _ _ (F := fun k => k = w12.heap.size) (.inl rfl)) (fun k hk => .inl hk)).trans (frm_set _ _ _ _ (F := fun k => k = w12.heap.size) (.inl rfl)) (fun k hk => .inl hk)⟩
          refine wpL_one 9 rfl (by kernel_rfl) (by rfl) ?_
          intro K hK
          go_simp
          refine hK.out _ _ (fun _ => HSw18.out.2.1) ?_
          clear hK K z0 z1 z2 f0 f1 f2
          generalize ((w17.setCell ⟨w12.heap.size, 0, none⟩ (.int .i64 m.t)).setCell ⟨w12.heap.size, 1, none⟩ (.int .i64 m.i)).setCell ⟨w12.heap.size, 2, none⟩ (.string m.k) = w18 at *
          have HBw18 : Hid (Below wB.heap.size wB w18) := HSw18.out.2.1
          try simp only [Act.put, List.setIfInBounds_toArray, List.set_cons_zero, List.set_cons_succ]
          refine wpL_take (v := ?_) 10 rfl (by kernel_rfl) (fun _ _ _ h => h) (by rfl) ?_ HBw18.out ?_
          rotate_left
          focus
            intro w9 hw9
            have k0 := (HX.out.a.on hw9).cell (i := 0) rfl
            have k1 := (HX.out.a.on hw9).cell (i := 1) rfl
            have k2 := (HX.out.a.on hw9).cell (i := 2) rfl
            have k3 := (HX.out.b.on hw9).cell (i := 0) rfl
            have k4 := (HX.out.b.on hw9).cell (i := 1) rfl
            have k5 := (HX.out.b.on hw9).cell (i := 2) rfl
            have k6 := (HX.out.p.on hw9).cell (i := 0) rfl
            have k7 := (HX.out.p.on hw9).cell (i := 1) rfl
            have k8 := (HX.out.p.on hw9).cell (i := 2) rfl
            go_simp
            try with_reducible rfl
          try simp only [Act.put, List.setIfInBounds_toArray, List.set_cons_zero, List.set_cons_succ]
          refine wpL_done (by kernel_rfl) ?_ _
          try simp only [NoPanic]
          go_wp2_with fail
          go_meet
          exact ⟨_, o1, rfl, by rw [HMS.out.2], HLw16.out, by have h := HSw18.out.1; rw [HMS.out.1] at h; exact h, HBw18.out, HMo1.out⟩
      · intro K hK
        go_simp
        have hbw19 : Below w11.heap.size w11 (w11.alloc (.cells #[.int .i64 0, .int .i64 0, .string ⟨#[]⟩] 27)) := (Below.refl _ _).alloc (Nat.le_refl _) _
        have hzw19 : Blk (w11.alloc (.cells #[.int .i64 0, .int .i64 0, .string ⟨#[]⟩] 27)) w11.heap.size #[.int .i64 0, .int .i64 0, .string ⟨#[]⟩] 27 := Blk.new w11 #[.int .i64 0, .int .i64 0, .string ⟨#[]⟩] 27
        generalize w11.alloc (.cells #[.int .i64 0, .int .i64 0, .string ⟨#[]⟩] 27) = w19 at *
        have HBw19 : Hid (Below wB.heap.size wB w19) := HBw11.out.trans ((hbw19).mono HBw11.out.size)
        have Caw19 : Hid (RdF w19 uaw110 uaw111 uaw112 a) := Caw11.out.on (hbw19)
        have Zw19 : Hid (Blk w19 w11.heap.size #[.int .i64 0, .int .i64 0, .string ⟨#[]⟩] 27) := hzw19
        have HLw19 : Hid (wB.heap.size ≤ w11.heap.size) := HBw11.out.size
        clear hbw19 hzw19
        refine hK.out _ _ (fun _ => HBw19.out) ?_
        clear hK K
        try simp only [Act.put, List.setIfInBounds_toArray, List.set_cons_zero, List.set_cons_succ]
        refine wpL_one 3 rfl (by kernel_rfl) (by rfl) ?_
        intro K hK
        go_simp
        have CPw20 : Hid (Calls _ _ _ _ _) := rcopy_rd b vb0 vb1 vb2 w19 (HRd.out.2.on HBw19.out)
        refine CPw20.out.mono ?_
        rintro e w20 ⟨ubw200, ubw201, ubw202, rfl, hrw20, hbw20⟩
        dsimp only
        have HBw20 : Hid (Below wB.heap.size wB w20) := HBw19.out.trans ((hbw20).mono HBw19.out.size)
        have Caw20 : Hid (RdF w20 uaw110 uaw111 uaw112 a) := Caw19.out.on (hbw20)
        have Zw20 : Hid (Blk w20 w11.heap.size #[.int .i64 0, .int .i64 0, .string ⟨#[]⟩] 27) := Zw19.out.on (hbw20)
        have Cbw20 : Hid (RdF w20 ubw200 ubw201 ubw202 b) := hrw20
        clear CPw20 hrw20 hbw20
        refine hK.out _ _ (fun _ => HBw20.out) ?_
        clear hK K
        try simp only [Act.put, List.setIfInBounds_toArray, List.set_cons_zero, List.set_cons_succ]
        refine wpL_one 4 rfl (by kernel_rfl) (by rfl) ?_
        intro K hK
        go_simp
        have CLw21 : Hid (Calls _ _ _ _ _) := clash_any a b _ _ _ _ _ _ w20 Caw20.out Cbw20.out
        refine CLw21.out.mono ?_
        rintro e w21 ⟨o1, hmw21, rfl, hbw21⟩
        dsimp only
        have HMo1 : Hid (IsMin (fun x => x ∈ b.W ∧ a.rds x) o1) := hmw21
        have HBw21 : Hid (Below wB.heap.size wB w21) := HBw20.out.trans ((hbw21).mono HBw20.out.size)
        have Zw21 : Hid (Blk w21 w11.heap.size #[.int .i64 0, .int .i64 0, .string ⟨#[]⟩] 27) := Zw20.out.on (hbw21)
        clear CLw21 hmw21 hbw21 Caw20 Cbw20
        refine hK.out _ _ (fun _ => HBw21.out) ?_
        clear hK K
        try simp only [Act.put, List.setIfInBounds_toArray, List.set_cons_zero, List.set_cons_succ]
        refine wpL_take (v := ?_) 5 rfl (by kernel_rfl) (fun _ _ _ h => h) (by rfl) ?_ HBw21.out ?_
        rotate_left
        focus
          intro w9 hw9
          have k0 := (HX.out.a.on hw9).cell (i := 0) rfl
          have k1 := (HX.out.a.on hw9).cell (i := 1) rfl
          have k2 := (HX.out.a.on hw9).cell (i := 2) rfl
          have k3 := (HX.out.b.on hw9).cell (i := 0) rfl
          have k4 := (HX.out.b.on hw9).cell (i := 1) rfl
          have k5 := (HX.out.b.on hw9).cell (i := 2) rfl
          have k6 := (HX.out.p.on hw9).cell (i := 0) rfl
          have k7 := (HX.out.p.on hw9).cell (i := 1) rfl
          have k8 := (HX.out.p.on hw9).cell (i := 2) rfl
          go_simp
          try with_reducible rfl
        try simp only [Act.put, List.setIfInBounds_toArray, List.set_cons_zero, List.set_cons_succ]
        refine wpL_take (v := ?_) 6 rfl (by kernel_rfl) (fun _ _ _ h => h) (by rfl) ?_ HBw21.out ?_
        rotate_left
        focus
          intro w9 hw9
          have k0 := (HX.out.a.on hw9).cell (i := 0) rfl
          have k1 := (HX.out.a.on hw9).cell (i := 1) rfl
          have k2 := (HX.out.a.on hw9).cell (i := 2) rfl
          have k3 := (HX.out.b.on hw9).cell (i := 0) rfl
          have k4 := (HX.out.b.on hw9).cell (i := 1) rfl
          have k5 := (HX.out.b.on hw9).cell (i := 2) rfl
          have k6 := (HX.out.p.on hw9).cell (i := 0) rfl
          have k7 := (HX.out.p.on hw9).cell (i := 1) rfl
          have k8 := (HX.out.p.on hw9).cell (i := 2) rfl
          go_simp
          try with_reducible rfl
        try simp only [Act.put, List.setIfInBounds_toArray, List.set_cons_zero, List.set_cons_succ]
        refine wpL_take (v := ?_) 7 rfl (by kernel_rfl) (fun _ _ _ h => h) (by rfl) ?_ HBw21.out ?_
        rotate_left
        focus
          intro w9 hw9
          have k0 := (HX.out.a.on hw9).cell (i := 0) rfl
          have k1 := (HX.out.a.on hw9).cell (i := 1) rfl
          have k2 := (HX.out.a.on hw9).cell (i := 2) rfl
          have k3 := (HX.out.b.on hw9).cell (i := 0) rfl
          have k4 := (HX.out.b.on hw9).cell (i := 1) rfl
          have k5 := (HX.out.b.on hw9).cell (i := 2) rfl
          have k6 := (HX.out.p.on hw9).cell (i := 0) rfl
          have k7 := (HX.out.p.on hw9).cell (i := 1) rfl
          have k8 := (HX.out.p.on hw9).cell (i := 2) rfl
          go_simp
          try with_reducible rfl
        try simp only [Act.put, List.setIfInBounds_toArray, List.set_cons_zero, List.set_cons_succ]
        obtain ⟨m, hm⟩ : ∃ m, m = lP o1 := ⟨_, rfl⟩
        obtain ⟨so, hso⟩ : ∃ so, so = o1.isSome := ⟨_, rfl⟩
        have HMS : Hid (m = lP o1 ∧ so = o1.isSome) := ⟨hm, hso⟩
        rw [← hm, ← hso]
        clear hm hso
        have z0 := Zw21.out.cell (i := 0) rfl
        have z1 := Zw21.out.cell (i := 1) rfl
        have z2 := Zw21.out.cell (i := 2) rfl
        have f0 := Zw21.out.frozen 0
        have f1 := Zw21.out.frozen 1
        have f2 := Zw21.out.frozen 2
        have HSw22 : Hid (Blk (((w21.setCell ⟨w11.heap.size, 0, none⟩ (.int .i64 m.t)).setCell ⟨w11.heap.size, 1, none⟩ (.int .i64 m.i)).setCell ⟨w11.heap.size, 2, none⟩ (.string m.k)) (w11.heap.size) #[.int .i64 m.t, .int .i64 m.i, .string m.k] 27 ∧ Below wB.heap.size wB (((w21.setCell ⟨w11.heap.size, 0, none⟩ (.int .i64 m.t)).setCell ⟨w11.heap.size, 1, none⟩ (.int .i64 m.i)).setCell ⟨w11.heap.size, 2, none⟩ (.string m.k)) ∧ Frm w21 (((w21.setCell ⟨w11.heap.size, 0, none⟩ (.int .i64 m.t)).setCell ⟨w11.heap.size, 1, none⟩ (.int .i64 m.i)).setCell ⟨w11.heap.size, 2, none⟩ (.string m.k)) (fun k => k = w11.heap.size)) := ⟨((Zw21.out.set 0 _).set 1 _).set 2 _, ((HBw21.out.setCell (show wB.heap.size ≤ w11.heap.size from HLw19.out) _).setCell (show wB.heap.size ≤ w11.heap.size from HLw19.out) _).setCell (show wB.heap.size ≤ w11.heap.size from HLw19.out) _, ((frm_set _ _ _ _ (F := fun k => k = w11.heap.size) (.inl rfl)).trans (frm_set _ _ _ _ (F := fun k => k = w11.heap.size) (.inl rfl)) (fun k hk => .inl hk)).trans (frm_set _ _ _ _ (F := fun k => k = w11.heap.size) (.inl rfl)) (fun k hk => .inl hk)⟩
        refine wpL_one 9 rfl (by kernel_rfl) (by rfl) ?_
        intro K hK
        go_simp
        refine hK.out _ _ (fun _ => HSw22.out.2.1) ?_
        clear hK K z0 z1 z2 f0 f1 f2
        generalize ((w21.setCell ⟨w11.heap.size, 0, none⟩ (.int .i64 m.t)).setCell ⟨w11.heap.size, 1, none⟩ (.int .i64 m.i)).setCell ⟨w11.heap.size, 2, none⟩ (.string m.k) = w22 at *
        have HBw22 : Hid (Below wB.heap.size wB w22) := HSw22.out.2.1
        try simp only [Act.put, List.setIfInBounds_toArray, List.set_cons_zero, List.set_cons_succ]
        refine wpL_take (v := ?_) 10 rfl (by kernel_rfl) (fun _ _ _ h => h) (by rfl) ?_ HBw22.out ?_
        rotate_left
        focus
          intro w9 hw9
          have k0 := (HX.out.a.on hw9).cell (i := 0) rfl
          have k1 := (HX.out.a.on hw9).cell (i := 1) rfl
          have k2 := (HX.out.a.on hw9).cell (i := 2) rfl
          have k3 := (HX.out.b.on hw9).cell (i := 0) rfl
          have k4 := (HX.out.b.on hw9).cell (i := 1) rfl
          have k5 := (HX.out.b.on hw9).cell (i := 2) rfl
          have k6 := (HX.out.p.on hw9).cell (i := 0) rfl
          have k7 := (HX.out.p.on hw9).cell (i := 1) rfl
          have k8 := (HX.out.p.on hw9).cell (i := 2) rfl
          go_simp
          try with_reducible rfl
        try simp only [Act.put, List.setIfInBounds_toArray, List.set_cons_zero, List.set_cons_succ]
        refine wpL_done (by kernel_rfl) ?_ _
        try simp only [NoPanic]
        go_wp2_with fail
        go_meet
        exact ⟨_, o1, rfl, by rw [HMS.out.2], HLw19.out, by have h := HSw22.out.1; rw [HMS.out.1] at h; exact h, HBw22.out, HMo1.out⟩
    · intro K hK
      go_simp
      have hbw23 : Below wd.heap.size wd (wd.alloc (.cells #[.int .i64 0, .int .i64 0, .string ⟨#[]⟩] 27)) := (Below.refl _ _).alloc (Nat.le_refl _) _
      have hzw23 : Blk (wd.alloc (.cells #[.int .i64 0, .int .i64 0, .string ⟨#[]⟩] 27)) wd.heap.size #[.int .i64 0, .int .i64 0, .string ⟨#[]⟩] 27 := Blk.new wd #[.int .i64 0, .int .i64 0, .string ⟨#[]⟩] 27
      generalize wd.alloc (.cells #[.int .i64 0, .int .i64 0, .string ⟨#[]⟩] 27) = w23 at *
      have HBw23 : Hid (Below wB.heap.size wB w23) := HBwd.out.trans ((hbw23).mono HBwd.out.size)
      have Zw23 : Hid (Blk w23 wd.heap.size #[.int .i64 0, .int .i64 0, .string ⟨#[]⟩] 27) := hzw23
      have HLw23 : Hid (wB.heap.size ≤ wd.heap.size) := HBwd.out.size
      clear hbw23 hzw23
      refine hK.out _ _ (fun _ => HBw23.out) ?_
      clear hK K
      try simp only [Act.put, List.setIfInBounds_toArray, List.set_cons_zero, List.set_cons_succ]
      refine wpL_one 1 rfl (by kernel_rfl) (by rfl) ?_
      intro K hK
      go_simp
      have CPw24 : Hid (Calls _ _ _ _ _) := rcopy_rd a va0 va1 va2 w23 (HRd.out.1.on HBw23.out)
      refine CPw24.out.mono ?_
      rintro e w24 ⟨uaw240, uaw241, uaw242, rfl, hrw24, hbw24⟩
      dsimp only
      have HBw24 : Hid (Below wB.heap.size wB w24) := HBw23.out.trans ((hbw24).mono HBw23.out.size)
      have Zw24 : Hid (Blk w24 wd.heap.size #[.int .i64 0, .int .i64 0, .string ⟨#[]⟩] 27) := Zw23.out.on (hbw24)
      have Caw24 : Hid (RdF w24 uaw240 uaw241 uaw242 a) := hrw24
      clear CPw24 hrw24 hbw24
      refine hK.out _ _ (fun _ => HBw24.out) ?_
      clear hK K
      try simp only [Act.put, List.setIfInBounds_toArray, List.set_cons_zero, List.set_cons_succ]
      refine wpL_one 3 rfl (by kernel_rfl) (by rfl) ?_
      intro K hK
      go_simp
      have CPw25 : Hid (Calls _ _ _ _ _) := rcopy_rd b vb0 vb1 vb2 w24 (HRd.out.2.on HBw24.out)
      refine CPw25.out.mono ?_
      rintro e w25 ⟨ubw250, ubw251, ubw252, rfl, hrw25, hbw25⟩
      dsimp only
      have HBw25 : Hid (Below wB.heap.size wB w25) := HBw24.out.trans ((hbw25).mono HBw24.out.size)
      have Zw25 : Hid (Blk w25 wd.heap.size #[.int .i64 0, .int .i64 0, .string ⟨#[]⟩] 27) := Zw24.out.on (hbw25)
      have Caw25 : Hid (RdF w25 uaw240 uaw241 uaw242 a) := Caw24.out.on (hbw25)
      have Cbw25 : Hid (RdF w25 ubw250 ubw251 ubw252 b) := hrw25
      clear CPw25 hrw25 hbw25
      refine hK.out _ _ (fun _ => HBw25.out) ?_
      clear hK K
      try simp only [Act.put, List.setIfInBounds_toArray, List.set_cons_zero, List.set_cons_succ]
      refine wpL_one 4 rfl (by kernel_rfl) (by rfl) ?_
      intro K hK
      go_simp
      have CLw26 : Hid (Calls _ _ _ _ _) := clash_any a b _ _ _ _ _ _ w25 Caw25.out Cbw25.out
      refine CLw26.out.mono ?_
      rintro e w26 ⟨o1, hmw26, rfl, hbw26⟩
      dsimp only
      have HMo1 : Hid (IsMin (fun x => x ∈ b.W ∧ a.rds x) o1) := hmw26
      have HBw26 : Hid (Below wB.heap.size wB w26) := HBw25.out.trans ((hbw26).mono HBw25.out.size)
      have Zw26 : Hid (Blk w26 wd.heap.size #[.int .i64 0, .int .i64 0, .string ⟨#[]⟩] 27) := Zw25.out.on (hbw26)
      clear CLw26 hmw26 hbw26 Caw25 Cbw25
      refine hK.out _ _ (fun _ => HBw26.out) ?_
      clear hK K
      try simp only [Act.put, List.setIfInBounds_toArray, List.set_cons_zero, List.set_cons_succ]
      refine wpL_take (v := ?_) 5 rfl (by kernel_rfl) (fun _ _ _ h => h) (by rfl) ?_ HBw26.out ?_
      rotate_left
      focus
        intro w9 hw9
        have k0 := (HX.out.a.on hw9).cell (i := 0) rfl
        have k1 := (HX.out.a.on hw9).cell (i := 1) rfl
        have k2 := (HX.out.a.on hw9).cell (i := 2) rfl
        have k3 := (HX.out.b.on hw9).cell (i := 0) rfl
        have k4 := (HX.out.b.on hw9).cell (i := 1) rfl
        have k5 := (HX.out.b.on hw9).cell (i := 2) rfl
        have k6 := (HX.out.p.on hw9).cell (i := 0) rfl
        have k7 := (HX.out.p.on hw9).cell (i := 1) rfl
        have k8 := (HX.out.p.on hw9).cell (i := 2) rfl
        go_simp
        try with_reducible rfl
      try simp only [Act.put, List.setIfInBounds_toArray, List.set_cons_zero, List.set_cons_succ]
      refine wpL_take (v := ?_) 6 rfl (by kernel_rfl) (fun _ _ _ h => h) (by rfl) ?_ HBw26.out ?_
      rotate_left
      focus
        intro w9 hw9
        have k0 := (HX.out.a.on hw9).cell (i := 0) rfl
        have k1 := (HX.out.a.on hw9).cell (i := 1) rfl
        have k2 := (HX.out.a.on hw9).cell (i := 2) rfl
        have k3 := (HX.out.b.on hw9).cell (i := 0) rfl
        have k4 := (HX.out.b.on hw9).cell (i := 1) rfl
        have k5 := (HX.out.b.on hw9).cell (i := 2) rfl
        have k6 := (HX.out.p.on hw9).cell (i := 0) rfl
        have k7 := (HX.out.p.on hw9).cell (i := 1) rfl
        have k8 := (HX.out.p.on hw9).cell (i := 2) rfl
        go_simp
        try with_reducible rfl
      try simp only [Act.put, List.setIfInBounds_toArray, List.set_cons_zero, List.set_cons_succ]
      refine wpL_take (v := ?_) 7 rfl (by kernel_rfl) (fun _ _ _ h => h) (by rfl) ?_ HBw26.out ?_
      rotate_left
      focus
        intro w9 hw9
        have k0 := (HX.out.a.on hw9).cell (i := 0) rfl
        have k1 := (HX.out.a.on hw9).cell (i := 1) rfl
        have k2 := (HX.out.a.on hw9).cell (i := 2) rfl
        have k3 := (HX.out.b.on hw9).cell (i := 0) rfl
        have k4 := (HX.out.b.on hw9).cell (i := 1) rfl
        have k5 := (HX.out.b.on hw9).cell (i := 2) rfl
        have k6 := (HX.out.p.on hw9).cell (i := 0) rfl
        have k7 := (HX.out.p.on hw9).cell (i := 1) rfl
        have k8 := (HX.out.p.on hw9).cell (i := 2) rfl
        go_simp
        try with_reducible rfl
      try simp only [Act.put, List.setIfInBounds_toArray, List.set_cons_zero, List.set_cons_succ]
      obtain ⟨m, hm⟩ : ∃ m, m = lP o1 := ⟨_, rfl⟩
      obtain ⟨so, hso⟩ : ∃ so, so = o1.isSome := ⟨_, rfl⟩
      have HMS : Hid (m = lP o1 ∧ so = o1.isSome) := ⟨hm, hso⟩
      rw [← hm, ← hso]
      clear hm hso
      have z0 := Zw26.out.cell (i := 0) rfl
      have z1 := Zw26.out.cell (i := 1) rfl
      have z2 := Zw26.out.cell (i := 2) rfl
      have f0 := Zw26.out.frozen 0
      have f1 := Zw26.out.frozen 1
      have f2 := Zw26.out.frozen 2
      have HSw27 : Hid (Blk (((w26.setCell ⟨wd.heap.size, 0, none⟩ (.int .i64 m.t)).setCell ⟨wd.heap.size, 1, none⟩ (.int .i64 m.i)).setCell ⟨wd.heap.size, 2, none⟩ (.string m.k)) (wd.heap.size) #[.int .i64 m.t, .int .i64 m.i, .string m.k] 27 ∧ Below wB.heap.size wB (((w26.setCell ⟨wd.heap.size, 0, none⟩ (.int .i64 m.t)).setCell ⟨wd.heap.size, 1, none⟩ (.int .i64 m.i)).setCell ⟨wd.heap.size, 2, none⟩ (.string m.k)) ∧ Frm w26 (((w26.setCell ⟨wd.heap.size, 0, none⟩ (.int .i64 m.t)).setCell ⟨wd.heap.size, 1, none⟩ (.int .i64 m.i)).setCell ⟨wd.heap.size, 2, none⟩ (.string m.k)) (fun k => k = wd.heap.size)) := ⟨((Zw26.out.set 0 _).set 1 _).set 2 _, ((HBw26.out.setCell (show wB.heap.size ≤ wd.heap.size from HLw23.out) _).setCell (show wB.heap.size ≤ wd.heap.size from HLw23.out) _).setCell (show wB.heap.size ≤ wd.heap.size from HLw23.out) _, ((frm_set _ _ _ _ (F := fun k => k = wd.heap.size) (.inl rfl)).trans (frm_set _ _ _ _ (F := fun k => k = wd.heap.size) (.inl rfl)) (fun k hk => .inl hk)).trans (frm_set _ _ _ _ (F := fun k => k = wd.heap.size) (.inl rfl)) (fun k hk => .inl hk)⟩
      refine wpL_one 9 rfl (by kernel_rfl) (by rfl) ?_
      intro K hK
      go_simp
      refine hK.out _ _ (fun _ => HSw27.out.2.1) ?_
      clear hK K z0 z1 z2 f0 f1 f2
      generalize ((w26.setCell ⟨wd.heap.size, 0, none⟩ (.int .i64 m.t)).setCell ⟨wd.heap.size, 1, none⟩ (.int .i64 m.i)).setCell ⟨wd.heap.size, 2, none⟩ (.string m.k) = w27 at *
      have HBw27 : Hid (Below wB.heap.size wB w27) := HSw27.out.2.1
      try simp only [Act.put, List.setIfInBounds_toArray, List.set_cons_zero, List.set_cons_succ]
      refine wpL_take (v := ?_) 10 rfl (by kernel_rfl) (fun _ _ _ h => h) (by rfl) ?_ HBw27.out ?_
      rotate_left
      focus
        intro w9 hw9
        have k0 := (HX.out.a.on hw9).cell (i := 0) rfl
        have k1 := (HX.out.a.on hw9).cell (i := 1) rfl
        have k2 := (HX.out.a.on hw9).cell (i := 2) rfl
        have k3 := (HX.out.b.on hw9).cell (i := 0) rfl
        have k4 := (HX.out.b.on hw9).cell (i := 1) rfl
        have k5 := (HX.out.b.on hw9).cell (i := 2) rfl
        have k6 := (HX.out.p.on hw9).cell (i := 0) rfl
        have k7 := (HX.out.p.on hw9).cell (i := 1) rfl
        have k8 := (HX.out.p.on hw9).cell (i := 2) rfl
        go_simp
        try with_reducible rfl
      try simp only [Act.put, List.setIfInBounds_toArray, List.set_cons_zero, List.set_cons_succ]
      refine wpL_done (by kernel_rfl) ?_ _
      try simp only [NoPanic]
      go_wp2_with fail
      go_meet
      exact ⟨_, o1, rfl, by rw [HMS.out.2], HLw23.out, by have h := HSw27.out.1; rw [HMS.out.1] at h; exact h, HBw27.out, HMo1.out⟩
  case rest =>
    obtain ⟨β, o1, rfl, rfl, H1⟩ := hcut
    have HBwc : Hid (Below wB.heap.size wB wc) := H1.out.2.2.1
    have HL1 : Hid (wB.heap.size ≤ β) := H1.out.1
    have HM1 : Hid (IsMin (fun x => x ∈ b.W ∧ a.rds x) o1) := H1.out.2.2.2
    have k0 := (HX.out.a.on HBwc.out).cell (i := 0) rfl
    have k1 := (HX.out.a.on HBwc.out).cell (i := 1) rfl
    have k2 := (HX.out.a.on HBwc.out).cell (i := 2) rfl
    have k3 := (HX.out.b.on HBwc.out).cell (i := 0) rfl
    have k4 := (HX.out.b.on HBwc.out).cell (i := 1) rfl
    have k5 := (HX.out.b.on HBwc.out).cell (i := 2) rfl
    have k6 := (HX.out.p.on HBwc.out).cell (i := 0) rfl
    have k7 := (HX.out.p.on HBwc.out).cell (i := 1) rfl
    have k8 := (HX.out.p.on HBwc.out).cell (i := 2) rfl
    have CC : Hid (Calls _ _ _ _ _) := rclash_any a b va0 va1 va2 vb0 vb1 vb2 wc (HRd.out.1.on HBwc.out) (HRd.out.2.on HBwc.out)
    go_wp2_with fail
    refine CC.out.mono ?_
    rintro e w5 ⟨o2, hm2, rfl, hb5⟩
    have e := HM1.out.uniq hm2
    subst e
    obtain ⟨m, hm⟩ : ∃ m, m = lP o1 := ⟨_, rfl⟩
    obtain ⟨so, hso⟩ : ∃ so, so = o1.isSome := ⟨_, rfl⟩
    rw [← hm, ← hso]
    have E1w5 : Hid (Blk w5 β #[.int .i64 m.t, .int .i64 m.i, .string m.k] 27) := by
      have h := H1.out.2.1.on hb5
      rw [← hm] at h
      exact h
    have HBw5 : Hid (Below wB.heap.size wB w5) := HBwc.out.trans (hb5.mono HBwc.out.size)
    clear k0 k1 k2 k3 k4 k5 k6 k7 k8 CC hm2 hb5 hm hso HM1 H1
    have hal6 : Below w5.heap.size w5 (w5.alloc (.cells #[.int .i64 m.t, .int .i64 m.i, .string m.k] 27)) := (Below.refl _ _).alloc (Nat.le_refl _) _
    have c0 := (E1w5.out.on hal6).cell (i := 0) rfl
    have c1 := (E1w5.out.on hal6).cell (i := 1) rfl
    have c2 := (E1w5.out.on hal6).cell (i := 2) rfl
    have hN := Blk.new w5 #[.int .i64 m.t, .int .i64 m.i, .string m.k] 27
    have d0 := hN.cell (i := 0) rfl
    have d1 := hN.cell (i := 1) rfl
    have d2 := hN.cell (i := 2) rfl
    have heq := run_eqInP
    have hgd := run_eqGP
    have HBw6 : Hid (Below wB.heap.size wB (w5.alloc (.cells #[.int .i64 m.t, .int .i64 m.i, .string m.k] 27))) := HBw5.out.trans (hal6.mono HBw5.out.size)
    have HL2 : Hid (wB.heap.size ≤ w5.heap.size) := HBw5.out.size
    have HLT : Hid (β < w5.heap.size) := E1w5.out.lt
    have E1w6 : Hid (Blk (w5.alloc (.cells #[.int .i64 m.t, .int .i64 m.i, .string m.k] 27)) β #[.int .i64 m.t, .int .i64 m.i, .string m.k] 27) := E1w5.out.on hal6
    have E2w6 : Hid (Blk (w5.alloc (.cells #[.int .i64 m.t, .int .i64 m.i, .string m.k] 27)) w5.heap.size #[.int .i64 m.t, .int .i64 m.i, .string m.k] 27) := hN
    clear hal6 hN E1w5
    go_wp2_with fail
    clear c0 c1 c2 d0 d1 d2 heq hgd
    generalize w5.alloc (.cells #[.int .i64 m.t, .int .i64 m.i, .string m.k] 27) = w6 at *
    obtain ⟨β2, hβ2⟩ : ∃ β2, β2 = w5.heap.size := ⟨_, rfl⟩
    rw [← hβ2] at HL2 HLT E2w6 ⊢
    clear hβ2 HBwc HBw5
    refine wp_region_L (fun w' => Below wB.heap.size wB w') 10 (by kernel_rfl) ?_
    have hdr : Below w6.heap.size w6 w6.drew := (Below.refl _ _).drew
    have HBw7 : Hid (Below wB.heap.size wB w6.drew) := HBw6.out.trans (hdr.mono HBw6.out.size)
    have E1w7 : Hid (Blk w6.drew β #[.int .i64 m.t, .int .i64 m.i, .string m.k] 27) := E1w6.out.on hdr
    have E2w7 : Hid (Blk w6.drew β2 #[.int .i64 m.t, .int .i64 m.i, .string m.k] 27) := E2w6.out.on hdr
    clear hdr E1w6 E2w6 HBw6
    generalize w6.drew = w7 at *
    refine wpL_take (v := ?_) 0 rfl (by kernel_rfl) (fun _ _ _ h => h) (by rfl) ?_ HBw7.out ?_
    rotate_left
    focus
      intro w9 hw9
      have k0 := (HX.out.a.on hw9).cell (i := 0) rfl
      have k1 := (HX.out.a.on hw9).cell (i := 1) rfl
      have k2 := (HX.out.a.on hw9).cell (i := 2) rfl
      have k3 := (HX.out.b.on hw9).cell (i := 0) rfl
      have k4 := (HX.out.b.on hw9).cell (i := 1) rfl
      have k5 := (HX.out.b.on hw9).cell (i := 2) rfl
      have k6 := (HX.out.p.on hw9).cell (i := 0) rfl
      have k7 := (HX.out.p.on hw9).cell (i := 1) rfl
      have k8 := (HX.out.p.on hw9).cell (i := 2) rfl
      go_simp
      try with_reducible rfl
    try simp only [Act.put, List.setIfInBounds_toArray, List.set_cons_zero, List.set_cons_succ]
    refine wpL_take (v := ?_) 2 rfl (by kernel_rfl) (fun _ _ _ h => h) (by rfl) ?_ HBw7.out ?_
    rotate_left
    focus
      intro w9 hw9
      have k0 := (HX.out.a.on hw9).cell (i := 0) rfl
      have k1 := (HX.out.a.on hw9).cell (i := 1) rfl
      have k2 := (HX.out.a.on hw9).cell (i := 2) rfl
      have k3 := (HX.out.b.on hw9).cell (i := 0) rfl
      have k4 := (HX.out.b.on hw9).cell (i := 1) rfl
      have k5 := (HX.out.b.on hw9).cell (i := 2) rfl
      have k6 := (HX.out.p.on hw9).cell (i := 0) rfl
      have k7 := (HX.out.p.on hw9).cell (i := 1) rfl
      have k8 := (HX.out.p.on hw9).cell (i := 2) rfl
      go_simp
      try with_reducible rfl
    try simp only [Act.put, List.setIfInBounds_toArray, List.set_cons_zero, List.set_cons_succ]
    refine wpL_one 1 rfl (by kernel_rfl) (by rfl) ?_
    intro K hK
    go_simp
    have CPw28 : Hid (Calls _ _ _ _ _) := rcopy_rd a va0 va1 va2 w7 (HRd.out.1.on HBw7.out)
    refine CPw28.out.mono ?_
    rintro e w28 ⟨uaw280, uaw281, uaw282, rfl, hrw28, hbw28⟩
    dsimp only
    have HBw28 : Hid (Below wB.heap.size wB w28) := HBw7.out.trans ((hbw28).mono HBw7.out.size)
    have E1w28 : Hid (Blk w28 β #[.int .i64 m.t, .int .i64 m.i, .string m.k] 27) := E1w7.out.on (hbw28)
    have E2w28 : Hid (Blk w28 β2 #[.int .i64 m.t, .int .i64 m.i, .string m.k] 27) := E2w7.out.on (hbw28)
    have Caw28 : Hid (RdF w28 uaw280 uaw281 uaw282 a) := hrw28
    clear CPw28 hrw28 hbw28
    refine hK.out _ _ (fun _ => HBw28.out) ?_
    clear hK K
    try simp only [Act.put, List.setIfInBounds_toArray, List.set_cons_zero, List.set_cons_succ]
    refine wpL_one 3 rfl (by kernel_rfl) (by rfl) ?_
    intro K hK
    go_simp
    have CPw29 : Hid (Calls _ _ _ _ _) := rcopy_rd b vb0 vb1 vb2 w28 (HRd.out.2.on HBw28.out)
    refine CPw29.out.mono ?_
    rintro e w29 ⟨ubw290, ubw291, ubw292, rfl, hrw29, hbw29⟩
    dsimp only
    have HBw29 : Hid (Below wB.heap.size wB w29) := HBw28.out.trans ((hbw29).mono HBw28.out.size)
    have E1w29 : Hid (Blk w29 β #[.int .i64 m.t, .int .i64 m.i, .string m.k] 27) := E1w28.out.on (hbw29)
    have E2w29 : Hid (Blk w29 β2 #[.int .i64 m.t, .int .i64 m.i, .string m.k] 27) := E2w28.out.on (hbw29)
    have Caw29 : Hid (RdF w29 uaw280 uaw281 uaw282 a) := Caw28.out.on (hbw29)
    have Cbw29 : Hid (RdF w29 ubw290 ubw291 ubw292 b) := hrw29
    clear CPw29 hrw29 hbw29
    refine hK.out _ _ (fun _ => HBw29.out) ?_
    clear hK K
    try simp only [Act.put, List.setIfInBounds_toArray, List.set_cons_zero, List.set_cons_succ]
    refine wpL_one 4 rfl (by kernel_rfl) (by rfl) ?_
    intro K hK
    go_simp
    have CLw30 : Hid (Calls _ _ _ _ _) := both_any a b _ _ _ _ _ _ w29 Caw29.out Cbw29.out
    refine CLw30.out.mono ?_
    rintro e w30 ⟨o3, hmw30, rfl, hbw30⟩
    dsimp only
    have HMo3 : Hid (IsMin (fun x => x ∈ rowsL a.W ∧ x ∈ rowsL b.W) o3) := hmw30
    have HBw30 : Hid (Below wB.heap.size wB w30) := HBw29.out.trans ((hbw30).mono HBw29.out.size)
    have E1w30 : Hid (Blk w30 β #[.int .i64 m.t, .int .i64 m.i, .string m.k] 27) := E1w29.out.on (hbw30)
    have E2w30 : Hid (Blk w30 β2 #[.int .i64 m.t, .int .i64 m.i, .string m.k] 27) := E2w29.out.on (hbw30)
    clear CLw30 hmw30 hbw30 Caw29 Cbw29
    refine hK.out _ _ (fun _ => HBw30.out) ?_
    clear hK K
    try simp only [Act.put, List.setIfInBounds_toArray, List.set_cons_zero, List.set_cons_succ]
    refine wpL_take (v := ?_) 5 rfl (by kernel_rfl) (fun _ _ _ h => h) (by rfl) ?_ HBw30.out ?_
    rotate_left
    focus
      intro w9 hw9
      have k0 := (HX.out.a.on hw9).cell (i := 0) rfl
      have k1 := (HX.out.a.on hw9).cell (i := 1) rfl
      have k2 := (HX.out.a.on hw9).cell (i := 2) rfl
      have k3 := (HX.out.b.on hw9).cell (i := 0) rfl
      have k4 := (HX.out.b.on hw9).cell (i := 1) rfl
      have k5 := (HX.out.b.on hw9).cell (i := 2) rfl
      have k6 := (HX.out.p.on hw9).cell (i := 0) rfl
      have k7 := (HX.out.p.on hw9).cell (i := 1) rfl
      have k8 := (HX.out.p.on hw9).cell (i := 2) rfl
      go_simp
      try with_reducible rfl
    try simp only [Act.put, List.setIfInBounds_toArray, List.set_cons_zero, List.set_cons_succ]
    refine wpL_take (v := ?_) 6 rfl (by kernel_rfl) (fun _ _ _ h => h) (by rfl) ?_ HBw30.out ?_
    rotate_left
    focus
      intro w9 hw9
      have k0 := (HX.out.a.on hw9).cell (i := 0) rfl
      have k1 := (HX.out.a.on hw9).cell (i := 1) rfl
      have k2 := (HX.out.a.on hw9).cell (i := 2) rfl
      have k3 := (HX.out.b.on hw9).cell (i := 0) rfl
      have k4 := (HX.out.b.on hw9).cell (i := 1) rfl
      have k5 := (HX.out.b.on hw9).cell (i := 2) rfl
      have k6 := (HX.out.p.on hw9).cell (i := 0) rfl
      have k7 := (HX.out.p.on hw9).cell (i := 1) rfl
      have k8 := (HX.out.p.on hw9).cell (i := 2) rfl
      go_simp
      try with_reducible rfl
    try simp only [Act.put, List.setIfInBounds_toArray, List.set_cons_zero, List.set_cons_succ]
    refine wpL_take (v := ?_) 7 rfl (by kernel_rfl) (fun _ _ _ h => h) (by rfl) ?_ HBw30.out ?_
    rotate_left
    focus
      intro w9 hw9
      have k0 := (HX.out.a.on hw9).cell (i := 0) rfl
      have k1 := (HX.out.a.on hw9).cell (i := 1) rfl
      have k2 := (HX.out.a.on hw9).cell (i := 2) rfl
      have k3 := (HX.out.b.on hw9).cell (i := 0) rfl
      have k4 := (HX.out.b.on hw9).cell (i := 1) rfl
      have k5 := (HX.out.b.on hw9).cell (i := 2) rfl
      have k6 := (HX.out.p.on hw9).cell (i := 0) rfl
      have k7 := (HX.out.p.on hw9).cell (i := 1) rfl
      have k8 := (HX.out.p.on hw9).cell (i := 2) rfl
      go_simp
      try with_reducible rfl
    try simp only [Act.put, List.setIfInBounds_toArray, List.set_cons_zero, List.set_cons_succ]
    obtain ⟨m3, hm3⟩ : ∃ m, m = lP o3 := ⟨_, rfl⟩
    obtain ⟨so3, hso3⟩ : ∃ so, so = o3.isSome := ⟨_, rfl⟩
    have HMS : Hid (m3 = lP o3 ∧ so3 = o3.isSome) := ⟨hm3, hso3⟩
    rw [← hm3, ← hso3]
    clear hm3 hso3
    have z0 := E1w30.out.cell (i := 0) rfl
    have z1 := E1w30.out.cell (i := 1) rfl
    have z2 := E1w30.out.cell (i := 2) rfl
    have f0 := E1w30.out.frozen 0
    have f1 := E1w30.out.frozen 1
    have f2 := E1w30.out.frozen 2
    have HSw31 : Hid (Blk (((w30.setCell ⟨β, 0, none⟩ (.int .i64 m3.t)).setCell ⟨β, 1, none⟩ (.int .i64 m3.i)).setCell ⟨β, 2, none⟩ (.string m3.k)) (β) #[.int .i64 m3.t, .int .i64 m3.i, .string m3.k] 27 ∧ Below wB.heap.size wB (((w30.setCell ⟨β, 0, none⟩ (.int .i64 m3.t)).setCell ⟨β, 1, none⟩ (.int .i64 m3.i)).setCell ⟨β, 2, none⟩ (.string m3.k)) ∧ Frm w30 (((w30.setCell ⟨β, 0, none⟩ (.int .i64 m3.t)).setCell ⟨β, 1, none⟩ (.int .i64 m3.i)).setCell ⟨β, 2, none⟩ (.string m3.k)) (fun k => k = β)) := ⟨((E1w30.out.set 0 _).set 1 _).set 2 _, ((HBw30.out.setCell (show wB.heap.size ≤ β from HL1.out) _).setCell (show wB.heap.size ≤ β from HL1.out) _).setCell (show wB.heap.size ≤ β from HL1.out) _, ((frm_set _ _ _ _ (F := fun k => k = β) (.inl rfl)).trans (frm_set _ _ _ _ (F := fun k => k = β) (.inl rfl)) (fun k hk => .inl hk)).trans (frm_set _ _ _ _ (F := fun k => k = β) (.inl rfl)) (fun k hk => .inl hk)⟩
    refine wpL_one 8 rfl (by kernel_rfl) (by rfl) ?_
    intro K hK
    go_simp
    refine hK.out _ _ (fun _ => HSw31.out.2.1) ?_
    clear hK K z0 z1 z2 f0 f1 f2
    have E2w31 : Hid (Blk (((w30.setCell ⟨β, 0, none⟩ (.int .i64 m3.t)).setCell ⟨β, 1, none⟩ (.int .i64 m3.i)).setCell ⟨β, 2, none⟩ (.string m3.k)) β2 #[.int .i64 m.t, .int .i64 m.i, .string m.k] 27) := E2w30.out.frm HSw31.out.2.2 (by have := HLT.out; omega)
    generalize ((w30.setCell ⟨β, 0, none⟩ (.int .i64 m3.t)).setCell ⟨β, 1, none⟩ (.int .i64 m3.i)).setCell ⟨β, 2, none⟩ (.string m3.k) = w31 at *
    have HBw31 : Hid (Below wB.heap.size wB w31) := HSw31.out.2.1
    have E1w31 : Hid (Blk w31 β #[.int .i64 m3.t, .int .i64 m3.i, .string m3.k] 27) := HSw31.out.1
    try simp only [Act.put, List.setIfInBounds_toArray, List.set_cons_zero, List.set_cons_succ]
    refine wpL_take (v := ?_) 9 rfl (by kernel_rfl) (fun _ _ _ h => h) (by rfl) ?_ HBw31.out ?_
    rotate_left
    focus
      intro w9 hw9
      have k0 := (HX.out.a.on hw9).cell (i := 0) rfl
      have k1 := (HX.out.a.on hw9).cell (i := 1) rfl
      have k2 := (HX.out.a.on hw9).cell (i := 2) rfl
      have k3 := (HX.out.b.on hw9).cell (i := 0) rfl
      have k4 := (HX.out.b.on hw9).cell (i := 1) rfl
      have k5 := (HX.out.b.on hw9).cell (i := 2) rfl
      have k6 := (HX.out.p.on hw9).cell (i := 0) rfl
      have k7 := (HX.out.p.on hw9).cell (i := 1) rfl
      have k8 := (HX.out.p.on hw9).cell (i := 2) rfl
      go_simp
      try with_reducible rfl
    try simp only [Act.put, List.setIfInBounds_toArray, List.set_cons_zero, List.set_cons_succ]
    refine wpL_done (by kernel_rfl) ?_ _
    try simp only [NoPanic]
    have k0 := (HX.out.a.on HBw31.out).cell (i := 0) rfl
    have k1 := (HX.out.a.on HBw31.out).cell (i := 1) rfl
    have k2 := (HX.out.a.on HBw31.out).cell (i := 2) rfl
    have k3 := (HX.out.b.on HBw31.out).cell (i := 0) rfl
    have k4 := (HX.out.b.on HBw31.out).cell (i := 1) rfl
    have k5 := (HX.out.b.on HBw31.out).cell (i := 2) rfl
    have k6 := (HX.out.p.on HBw31.out).cell (i := 0) rfl
    have k7 := (HX.out.p.on HBw31.out).cell (i := 1) rfl
    have k8 := (HX.out.p.on HBw31.out).cell (i := 2) rfl
    have CC : Hid (Calls _ _ _ _ _) := rBoth_any a b va0 va1 va2 vb0 vb1 vb2 w31 (HRd.out.1.on HBw31.out) (HRd.out.2.on HBw31.out)
    go_wp2_with fail
    refine CC.out.mono ?_
    rintro e w8 ⟨o4, hm4, rfl, hb8⟩
    have e := HMo3.out.uniq hm4
    subst e
    rw [← HMS.out.1, ← HMS.out.2]
    have HBw8 : Hid (Below wB.heap.size wB w8) := HBw31.out.trans (hb8.mono HBw31.out.size)
    have E1w8 : Hid (Blk w8 β #[.int .i64 m3.t, .int .i64 m3.i, .string m3.k] 27) := E1w31.out.on hb8
    have E2w8 : Hid (Blk w8 β2 #[.int .i64 m.t, .int .i64 m.i, .string m.k] 27) := E2w31.out.on hb8
    clear k0 k1 k2 k3 k4 k5 k6 k7 k8 CC hm4 hb8
    have z0 := E2w8.out.cell (i := 0) rfl
    have z1 := E2w8.out.cell (i := 1) rfl
    have z2 := E2w8.out.cell (i := 2) rfl
    have f0 := E2w8.out.frozen 0
    have f1 := E2w8.out.frozen 1
    have f2 := E2w8.out.frozen 2
    have HSw32 : Hid (Blk (((w8.setCell ⟨β2, 0, none⟩ (.int .i64 m3.t)).setCell ⟨β2, 1, none⟩ (.int .i64 m3.i)).setCell ⟨β2, 2, none⟩ (.string m3.k)) (β2) #[.int .i64 m3.t, .int .i64 m3.i, .string m3.k] 27 ∧ Below wB.heap.size wB (((w8.setCell ⟨β2, 0, none⟩ (.int .i64 m3.t)).setCell ⟨β2, 1, none⟩ (.int .i64 m3.i)).setCell ⟨β2, 2, none⟩ (.string m3.k)) ∧ Frm w8 (((w8.setCell ⟨β2, 0, none⟩ (.int .i64 m3.t)).setCell ⟨β2, 1, none⟩ (.int .i64 m3.i)).setCell ⟨β2, 2, none⟩ (.string m3.k)) (fun k => k = β2)) := ⟨((E2w8.out.set 0 _).set 1 _).set 2 _, ((HBw8.out.setCell (show wB.heap.size ≤ β2 from HL2.out) _).setCell (show wB.heap.size ≤ β2 from HL2.out) _).setCell (show wB.heap.size ≤ β2 from HL2.out) _, ((frm_set _ _ _ _ (F := fun k => k = β2) (.inl rfl)).trans (frm_set _ _ _ _ (F := fun k => k = β2) (.inl rfl)) (fun k hk => .inl hk)).trans (frm_set _ _ _ _ (F := fun k => k = β2) (.inl rfl)) (fun k hk => .inl hk)⟩
    have hE1 := E1w8.out.frm HSw32.out.2.2 (by have := HLT.out; omega)
    have hE2 := HSw32.out.1
    have c0 := hE1.cell (i := 0) rfl
    have c1 := hE1.cell (i := 1) rfl
    have c2 := hE1.cell (i := 2) rfl
    have d0 := hE2.cell (i := 0) rfl
    have d1 := hE2.cell (i := 1) rfl
    have d2 := hE2.cell (i := 2) rfl
    have heq := run_eqInP
    have hgd := run_eqGP
    clear hE1 hE2
    go_wp2_with fail
    clear c0 c1 c2 d0 d1 d2 heq hgd z0 z1 z2 f0 f1 f2
    have HBwe : Hid (Below wB.heap.size wB (((w8.setCell ⟨β2, 0, none⟩ (.int .i64 m3.t)).setCell ⟨β2, 1, none⟩ (.int .i64 m3.i)).setCell ⟨β2, 2, none⟩ (.string m3.k))) := HSw32.out.2.1
    generalize ((w8.setCell ⟨β2, 0, none⟩ (.int .i64 m3.t)).setCell ⟨β2, 1, none⟩ (.int .i64 m3.i)).setCell ⟨β2, 2, none⟩ (.string m3.k) = we at *
    refine wp_region_L (fun w' => Below wB.heap.size wB w') 24 (by kernel_rfl) ?_
    have hdr : Below we.heap.size we we.drew := (Below.refl _ _).drew
    have HBwf : Hid (Below wB.heap.size wB we.drew) := HBwe.out.trans (hdr.mono HBwe.out.size)
    clear hdr
    generalize we.drew = wf at *
    refine wpL_take (v := ?_) 0 rfl (by kernel_rfl) (fun _ _ _ h => h) (by rfl) ?_ HBwf.out ?_
    rotate_left
    focus
      intro w9 hw9
      have k0 := (HX.out.a.on hw9).cell (i := 0) rfl
      have k1 := (HX.out.a.on hw9).cell (i := 1) rfl
      have k2 := (HX.out.a.on hw9).cell (i := 2) rfl
      have k3 := (HX.out.b.on hw9).cell (i := 0) rfl
      have k4 := (HX.out.b.on hw9).cell (i := 1) rfl
      have k5 := (HX.out.b.on hw9).cell (i := 2) rfl
      have k6 := (HX.out.p.on hw9).cell (i := 0) rfl
      have k7 := (HX.out.p.on hw9).cell (i := 1) rfl
      have k8 := (HX.out.p.on hw9).cell (i := 2) rfl
      go_simp
      try with_reducible rfl
    try simp only [Act.put, List.setIfInBounds_toArray, List.set_cons_zero, List.set_cons_succ]
    refine wpL_take (v := ?_) 2 rfl (by kernel_rfl) (fun _ _ _ h => h) (by rfl) ?_ HBwf.out ?_
    rotate_left
    focus
      intro w9 hw9
      have k0 := (HX.out.a.on hw9).cell (i := 0) rfl
      have k1 := (HX.out.a.on hw9).cell (i := 1) rfl
      have k2 := (HX.out.a.on hw9).cell (i := 2) rfl
      have k3 := (HX.out.b.on hw9).cell (i := 0) rfl
      have k4 := (HX.out.b.on hw9).cell (i := 1) rfl
      have k5 := (HX.out.b.on hw9).cell (i := 2) rfl
      have k6 := (HX.out.p.on hw9).cell (i := 0) rfl
      have k7 := (HX.out.p.on hw9).cell (i := 1) rfl
      have k8 := (HX.out.p.on hw9).cell (i := 2) rfl
      go_simp
      try with_reducible rfl
    try simp only [Act.put, List.setIfInBounds_toArray, List.set_cons_zero, List.set_cons_succ]
    refine wpL_take (v := ?_) 4 rfl (by kernel_rfl) (fun _ _ _ h => h) (by rfl) ?_ HBwf.out ?_
    rotate_left
    focus
      intro w9 hw9
      have k0 := (HX.out.a.on hw9).cell (i := 0) rfl
      have k1 := (HX.out.a.on hw9).cell (i := 1) rfl
      have k2 := (HX.out.a.on hw9).cell (i := 2) rfl
      have k3 := (HX.out.b.on hw9).cell (i := 0) rfl
      have k4 := (HX.out.b.on hw9).cell (i := 1) rfl
      have k5 := (HX.out.b.on hw9).cell (i := 2) rfl
      have k6 := (HX.out.p.on hw9).cell (i := 0) rfl
      have k7 := (HX.out.p.on hw9).cell (i := 1) rfl
      have k8 := (HX.out.p.on hw9).cell (i := 2) rfl
      go_simp
      try with_reducible rfl
    try simp only [Act.put, List.setIfInBounds_toArray, List.set_cons_zero, List.set_cons_succ]
    refine wpL_take (v := ?_) 5 rfl (by kernel_rfl) (fun _ _ _ h => h) (by rfl) ?_ HBwf.out ?_
    rotate_left
    focus
      intro w9 hw9
      have k0 := (HX.out.a.on hw9).cell (i := 0) rfl
      have k1 := (HX.out.a.on hw9).cell (i := 1) rfl
      have k2 := (HX.out.a.on hw9).cell (i := 2) rfl
      have k3 := (HX.out.b.on hw9).cell (i := 0) rfl
      have k4 := (HX.out.b.on hw9).cell (i := 1) rfl
      have k5 := (HX.out.b.on hw9).cell (i := 2) rfl
      have k6 := (HX.out.p.on hw9).cell (i := 0) rfl
      have k7 := (HX.out.p.on hw9).cell (i := 1) rfl
      have k8 := (HX.out.p.on hw9).cell (i := 2) rfl
      go_simp
      try with_reducible rfl
    try simp only [Act.put, List.setIfInBounds_toArray, List.set_cons_zero, List.set_cons_succ]
    refine wpL_one 1 rfl (by kernel_rfl) (by rfl) ?_
    intro K hK
    go_simp
    have CPw33 : Hid (Calls _ _ _ _ _) := rcopy_rd a va0 va1 va2 wf (HRd.out.1.on HBwf.out)
    refine CPw33.out.mono ?_
    rintro e w33 ⟨uaw330, uaw331, uaw332, rfl, hrw33, hbw33⟩
    dsimp only
    have HBw33 : Hid (Below wB.heap.size wB w33) := HBwf.out.trans ((hbw33).mono HBwf.out.size)
    have Caw33 : Hid (RdF w33 uaw330 uaw331 uaw332 a) := hrw33
    clear CPw33 hrw33 hbw33
    refine hK.out _ _ (fun _ => HBw33.out) ?_
    clear hK K
    try simp only [Act.put, List.setIfInBounds_toArray, List.set_cons_zero, List.set_cons_succ]
    refine wpL_one 3 rfl (by kernel_rfl) (by rfl) ?_
    intro K hK
    go_simp
    have CSw34 : Hid (Calls _ _ _ _ _) := reads_any a x _ _ _ w33 Caw33.out
    refine CSw34.out.mono ?_
    rintro e w34 ⟨rfl, hbw34⟩
    dsimp only
    have HBw34 : Hid (Below wB.heap.size wB w34) := HBw33.out.trans ((hbw34).mono HBw33.out.size)
    have Caw34 : Hid (RdF w34 uaw330 uaw331 uaw332 a) := Caw33.out.on (hbw34)
    clear CSw34 hbw34
    refine hK.out _ _ (fun _ => HBw34.out) ?_
    clear hK K
    try simp only [Act.put, List.setIfInBounds_toArray, List.set_cons_zero, List.set_cons_succ]
    refine wpL_one 6 rfl (by kernel_rfl) (by rfl) ?_
    intro K hK
    go_simp
    have CSw35 : Hid (Calls _ _ _ _ _) := rreads_any a x va0 va1 va2 w34 (HRd.out.1.on HBw34.out)
    refine CSw35.out.mono ?_
    rintro e w35 ⟨rfl, hbw35⟩
    dsimp only
    have HBw35 : Hid (Below wB.heap.size wB w35) := HBw34.out.trans ((hbw35).mono HBw34.out.size)
    have Caw35 : Hid (RdF w35 uaw330 uaw331 uaw332 a) := Caw34.out.on (hbw35)
    clear CSw35 hbw35
    refine hK.out _ _ (fun _ => HBw35.out) ?_
    clear hK K
    try simp only [Act.put, List.setIfInBounds_toArray, List.set_cons_zero, List.set_cons_succ]
    refine wpL_take (v := ?_) 7 rfl (by kernel_rfl) (fun _ _ _ h => h) (by rfl) ?_ HBw35.out ?_
    rotate_left
    focus
      intro w9 hw9
      have k0 := (HX.out.a.on hw9).cell (i := 0) rfl
      have k1 := (HX.out.a.on hw9).cell (i := 1) rfl
      have k2 := (HX.out.a.on hw9).cell (i := 2) rfl
      have k3 := (HX.out.b.on hw9).cell (i := 0) rfl
      have k4 := (HX.out.b.on hw9).cell (i := 1) rfl
      have k5 := (HX.out.b.on hw9).cell (i := 2) rfl
      have k6 := (HX.out.p.on hw9).cell (i := 0) rfl
      have k7 := (HX.out.p.on hw9).cell (i := 1) rfl
      have k8 := (HX.out.p.on hw9).cell (i := 2) rfl
      go_simp
      try with_reducible rfl
    try simp only [Act.put, List.setIfInBounds_toArray, List.set_cons_zero, List.set_cons_succ]
    refine wpL_take (v := ?_) 8 rfl (by kernel_rfl) (fun _ _ _ h => h) (by rfl) ?_ HBw35.out ?_
    rotate_left
    focus
      intro w9 hw9
      have k0 := (HX.out.a.on hw9).cell (i := 0) rfl
      have k1 := (HX.out.a.on hw9).cell (i := 1) rfl
      have k2 := (HX.out.a.on hw9).cell (i := 2) rfl
      have k3 := (HX.out.b.on hw9).cell (i := 0) rfl
      have k4 := (HX.out.b.on hw9).cell (i := 1) rfl
      have k5 := (HX.out.b.on hw9).cell (i := 2) rfl
      have k6 := (HX.out.p.on hw9).cell (i := 0) rfl
      have k7 := (HX.out.p.on hw9).cell (i := 1) rfl
      have k8 := (HX.out.p.on hw9).cell (i := 2) rfl
      go_simp
      try with_reducible rfl
    try simp only [Act.put, List.setIfInBounds_toArray, List.set_cons_zero, List.set_cons_succ]
    refine wpL_take (v := ?_) 9 rfl (by kernel_rfl) (fun _ _ _ h => h) (by rfl) ?_ HBw35.out ?_
    rotate_left
    focus
      intro w9 hw9
      have k0 := (HX.out.a.on hw9).cell (i := 0) rfl
      have k1 := (HX.out.a.on hw9).cell (i := 1) rfl
      have k2 := (HX.out.a.on hw9).cell (i := 2) rfl
      have k3 := (HX.out.b.on hw9).cell (i := 0) rfl
      have k4 := (HX.out.b.on hw9).cell (i := 1) rfl
      have k5 := (HX.out.b.on hw9).cell (i := 2) rfl
      have k6 := (HX.out.p.on hw9).cell (i := 0) rfl
      have k7 := (HX.out.p.on hw9).cell (i := 1) rfl
      have k8 := (HX.out.p.on hw9).cell (i := 2) rfl
      go_simp
      try with_reducible rfl
    try simp only [Act.put, List.setIfInBounds_toArray, List.set_cons_zero, List.set_cons_succ]
    refine wpL_take (v := ?_) 11 rfl (by kernel_rfl) (fun _ _ _ h => h) (by rfl) ?_ HBw35.out ?_
    rotate_left
    focus
      intro w9 hw9
      have k0 := (HX.out.a.on hw9).cell (i := 0) rfl
      have k1 := (HX.out.a.on hw9).cell (i := 1) rfl
      have k2 := (HX.out.a.on hw9).cell (i := 2) rfl
      have k3 := (HX.out.b.on hw9).cell (i := 0) rfl
      have k4 := (HX.out.b.on hw9).cell (i := 1) rfl
      have k5 := (HX.out.b.on hw9).cell (i := 2) rfl
      have k6 := (HX.out.p.on hw9).cell (i := 0) rfl
      have k7 := (HX.out.p.on hw9).cell (i := 1) rfl
      have k8 := (HX.out.p.on hw9).cell (i := 2) rfl
      go_simp
      try with_reducible rfl
    try simp only [Act.put, List.setIfInBounds_toArray, List.set_cons_zero, List.set_cons_succ]
    refine wpL_take (v := ?_) 12 rfl (by kernel_rfl) (fun _ _ _ h => h) (by rfl) ?_ HBw35.out ?_
    rotate_left
    focus
      intro w9 hw9
      have k0 := (HX.out.a.on hw9).cell (i := 0) rfl
      have k1 := (HX.out.a.on hw9).cell (i := 1) rfl
      have k2 := (HX.out.a.on hw9).cell (i := 2) rfl
      have k3 := (HX.out.b.on hw9).cell (i := 0) rfl
      have k4 := (HX.out.b.on hw9).cell (i := 1) rfl
      have k5 := (HX.out.b.on hw9).cell (i := 2) rfl
      have k6 := (HX.out.p.on hw9).cell (i := 0) rfl
      have k7 := (HX.out.p.on hw9).cell (i := 1) rfl
      have k8 := (HX.out.p.on hw9).cell (i := 2) rfl
      go_simp
      try with_reducible rfl
    try simp only [Act.put, List.setIfInBounds_toArray, List.set_cons_zero, List.set_cons_succ]
    refine wpL_take (v := ?_) 14 rfl (by kernel_rfl) (fun _ _ _ h => h) (by rfl) ?_ HBw35.out ?_
    rotate_left
    focus
      intro w9 hw9
      have k0 := (HX.out.a.on hw9).cell (i := 0) rfl
      have k1 := (HX.out.a.on hw9).cell (i := 1) rfl
      have k2 := (HX.out.a.on hw9).cell (i := 2) rfl
      have k3 := (HX.out.b.on hw9).cell (i := 0) rfl
      have k4 := (HX.out.b.on hw9).cell (i := 1) rfl
      have k5 := (HX.out.b.on hw9).cell (i := 2) rfl
      have k6 := (HX.out.p.on hw9).cell (i := 0) rfl
      have k7 := (HX.out.p.on hw9).cell (i := 1) rfl
      have k8 := (HX.out.p.on hw9).cell (i := 2) rfl
      go_simp
      try with_reducible rfl
    try simp only [Act.put, List.setIfInBounds_toArray, List.set_cons_zero, List.set_cons_succ]
    refine wpL_take (v := ?_) 15 rfl (by kernel_rfl) (fun _ _ _ h => h) (by rfl) ?_ HBw35.out ?_
    rotate_left
    focus
      intro w9 hw9
      have k0 := (HX.out.a.on hw9).cell (i := 0) rfl
      have k1 := (HX.out.a.on hw9).cell (i := 1) rfl
      have k2 := (HX.out.a.on hw9).cell (i := 2) rfl
      have k3 := (HX.out.b.on hw9).cell (i := 0) rfl
      have k4 := (HX.out.b.on hw9).cell (i := 1) rfl
      have k5 := (HX.out.b.on hw9).cell (i := 2) rfl
      have k6 := (HX.out.p.on hw9).cell (i := 0) rfl
      have k7 := (HX.out.p.on hw9).cell (i := 1) rfl
      have k8 := (HX.out.p.on hw9).cell (i := 2) rfl
      go_simp
      try with_reducible rfl
    try simp only [Act.put, List.setIfInBounds_toArray, List.set_cons_zero, List.set_cons_succ]
    refine wpL_take (v := ?_) 16 rfl (by kernel_rfl) (fun _ _ _ h => h) (by rfl) ?_ HBw35.out ?_
    rotate_left
    focus
      intro w9 hw9
      have k0 := (HX.out.a.on hw9).cell (i := 0) rfl
      have k1 := (HX.out.a.on hw9).cell (i := 1) rfl
      have k2 := (HX.out.a.on hw9).cell (i := 2) rfl
      have k3 := (HX.out.b.on hw9).cell (i := 0) rfl
      have k4 := (HX.out.b.on hw9).cell (i := 1) rfl
      have k5 := (HX.out.b.on hw9).cell (i := 2) rfl
      have k6 := (HX.out.p.on hw9).cell (i := 0) rfl
      have k7 := (HX.out.p.on hw9).cell (i := 1) rfl
      have k8 := (HX.out.p.on hw9).cell (i := 2) rfl
      go_simp
      try with_reducible rfl
    try simp only [Act.put, List.setIfInBounds_toArray, List.set_cons_zero, List.set_cons_succ]
    refine wpL_one 10 rfl (by kernel_rfl) (by rfl) ?_
    intro K hK
    go_simp
    have CPw36 : Hid (Calls _ _ _ _ _) := rcopy_rd a va0 va1 va2 w35 (HRd.out.1.on HBw35.out)
    refine CPw36.out.mono ?_
    rintro e w36 ⟨uaw360, uaw361, uaw362, rfl, hrw36, hbw36⟩
    dsimp only
    have HBw36 : Hid (Below wB.heap.size wB w36) := HBw35.out.trans ((hbw36).mono HBw35.out.size)
    have Caw36 : Hid (RdF w36 uaw330 uaw331 uaw332 a) := Caw35.out.on (hbw36)
    have Caw36 : Hid (RdF w36 uaw360 uaw361 uaw362 a) := hrw36
    clear CPw36 hrw36 hbw36
    refine hK.out _ _ (fun _ => HBw36.out) ?_
    clear hK K
    try simp only [Act.put, List.setIfInBounds_toArray, List.set_cons_zero, List.set_cons_succ]
    refine wpL_one 13 rfl (by kernel_rfl) (by rfl) ?_
    intro K hK
    go_simp
    have CPw37 : Hid (Calls _ _ _ _ _) := pwithout_rd a x.t _ _ _ w36 Caw36.out
    refine CPw37.out.mono ?_
    rintro e w37 ⟨zWpw370, zWpw371, zWpw372, rfl, hrw37, hbw37⟩
    dsimp only
    have HBw37 : Hid (Below wB.heap.size wB w37) := HBw36.out.trans ((hbw37).mono HBw36.out.size)
    have Caw37 : Hid (RdF w37 uaw360 uaw361 uaw362 a) := Caw36.out.on (hbw37)
    have Wpw37 : Hid (RdF w37 zWpw370 zWpw371 zWpw372 (a.wo x.t)) := hrw37
    clear CPw37 hrw37 hbw37
    refine hK.out _ _ (fun _ => HBw37.out) ?_
    clear hK K
    try simp only [Act.put, List.setIfInBounds_toArray, List.set_cons_zero, List.set_cons_succ]
    refine wpL_one 17 rfl (by kernel_rfl) (by rfl) ?_
    intro K hK
    go_simp
    have CPw38 : Hid (Calls _ _ _ _ _) := rwithout_rd a x.t _ _ _ w37 (HRd.out.1.on HBw37.out)
    refine CPw38.out.mono ?_
    rintro e w38 ⟨zWrw380, zWrw381, zWrw382, rfl, hrw38, hbw38⟩
    dsimp only
    have HBw38 : Hid (Below wB.heap.size wB w38) := HBw37.out.trans ((hbw38).mono HBw37.out.size)
    have Caw38 : Hid (RdF w38 uaw360 uaw361 uaw362 a) := Caw37.out.on (hbw38)
    have Wpw38 : Hid (RdF w38 zWpw370 zWpw371 zWpw372 (a.wo x.t)) := Wpw37.out.on (hbw38)
    have Wrw38 : Hid (RdF w38 zWrw380 zWrw381 zWrw382 (a.wo x.t)) := hrw38
    clear CPw38 hrw38 hbw38
    refine hK.out _ _ (fun _ => HBw38.out) ?_
    clear hK K
    try simp only [Act.put, List.setIfInBounds_toArray, List.set_cons_zero, List.set_cons_succ]
    refine wpL_one 18 rfl (by kernel_rfl) (by rfl) ?_
    intro K hK
    go_simp
    have CSw39 : Hid (Calls _ _ _ _ _) := rsame_rd (a.wo x.t) _ _ _ _ _ _ w38 Wpw38.out Wrw38.out
    refine CSw39.out.mono ?_
    rintro e w39 ⟨rfl, hbw39⟩
    dsimp only
    have HBw39 : Hid (Below wB.heap.size wB w39) := HBw38.out.trans ((hbw39).mono HBw38.out.size)
    have Caw39 : Hid (RdF w39 uaw360 uaw361 uaw362 a) := Caw38.out.on (hbw39)
    have Wpw39 : Hid (RdF w39 zWpw370 zWpw371 zWpw372 (a.wo x.t)) := Wpw38.out.on (hbw39)
    have Wrw39 : Hid (RdF w39 zWrw380 zWrw381 zWrw382 (a.wo x.t)) := Wrw38.out.on (hbw39)
    clear CSw39 hbw39
    refine hK.out _ _ (fun _ => HBw39.out) ?_
    clear hK K
    try simp only [Act.put, List.setIfInBounds_toArray, List.set_cons_zero, List.set_cons_succ]
    refine wpL_take (v := ?_) 19 rfl (by kernel_rfl) (fun _ _ _ h => h) (by rfl) ?_ HBw39.out ?_
    rotate_left
    focus
      intro w9 hw9
      have k0 := (HX.out.a.on hw9).cell (i := 0) rfl
      have k1 := (HX.out.a.on hw9).cell (i := 1) rfl
      have k2 := (HX.out.a.on hw9).cell (i := 2) rfl
      have k3 := (HX.out.b.on hw9).cell (i := 0) rfl
      have k4 := (HX.out.b.on hw9).cell (i := 1) rfl
      have k5 := (HX.out.b.on hw9).cell (i := 2) rfl
      have k6 := (HX.out.p.on hw9).cell (i := 0) rfl
      have k7 := (HX.out.p.on hw9).cell (i := 1) rfl
      have k8 := (HX.out.p.on hw9).cell (i := 2) rfl
      go_simp
      try with_reducible rfl
    try simp only [Act.put, List.setIfInBounds_toArray, List.set_cons_zero, List.set_cons_succ]
    refine wpL_take (v := ?_) 20 rfl (by kernel_rfl) (fun _ _ _ h => h) (by rfl) ?_ HBw39.out ?_
    rotate_left
    focus
      intro w9 hw9
      have k0 := (HX.out.a.on hw9).cell (i := 0) rfl
      have k1 := (HX.out.a.on hw9).cell (i := 1) rfl
      have k2 := (HX.out.a.on hw9).cell (i := 2) rfl
      have k3 := (HX.out.b.on hw9).cell (i := 0) rfl
      have k4 := (HX.out.b.on hw9).cell (i := 1) rfl
      have k5 := (HX.out.b.on hw9).cell (i := 2) rfl
      have k6 := (HX.out.p.on hw9).cell (i := 0) rfl
      have k7 := (HX.out.p.on hw9).cell (i := 1) rfl
      have k8 := (HX.out.p.on hw9).cell (i := 2) rfl
      go_simp
      try with_reducible rfl
    try simp only [Act.put, List.setIfInBounds_toArray, List.set_cons_zero, List.set_cons_succ]
    refine wpL_one 21 rfl (by kernel_rfl) (by rfl) ?_
    intro K hK
    go_simp
    have CSw40 : Hid (Calls _ _ _ _ _) := awake_any w39
    refine CSw40.out.mono ?_
    rintro e w40 ⟨rfl, hbw40⟩
    dsimp only
    have HBw40 : Hid (Below wB.heap.size wB w40) := HBw39.out.trans ((hbw40).mono HBw39.out.size)
    have Caw40 : Hid (RdF w40 uaw360 uaw361 uaw362 a) := Caw39.out.on (hbw40)
    have Wpw40 : Hid (RdF w40 zWpw370 zWpw371 zWpw372 (a.wo x.t)) := Wpw39.out.on (hbw40)
    have Wrw40 : Hid (RdF w40 zWrw380 zWrw381 zWrw382 (a.wo x.t)) := Wrw39.out.on (hbw40)
    clear CSw40 hbw40
    refine hK.out _ _ (fun _ => HBw40.out) ?_
    clear hK K
    try simp only [Act.put, List.setIfInBounds_toArray, List.set_cons_zero, List.set_cons_succ]
    refine wpL_take (v := ?_) 22 rfl (by kernel_rfl) (fun _ _ _ h => h) (by rfl) ?_ HBw40.out ?_
    rotate_left
    focus
      intro w9 hw9
      have k0 := (HX.out.a.on hw9).cell (i := 0) rfl
      have k1 := (HX.out.a.on hw9).cell (i := 1) rfl
      have k2 := (HX.out.a.on hw9).cell (i := 2) rfl
      have k3 := (HX.out.b.on hw9).cell (i := 0) rfl
      have k4 := (HX.out.b.on hw9).cell (i := 1) rfl
      have k5 := (HX.out.b.on hw9).cell (i := 2) rfl
      have k6 := (HX.out.p.on hw9).cell (i := 0) rfl
      have k7 := (HX.out.p.on hw9).cell (i := 1) rfl
      have k8 := (HX.out.p.on hw9).cell (i := 2) rfl
      go_simp
      try with_reducible rfl
    try simp only [Act.put, List.setIfInBounds_toArray, List.set_cons_zero, List.set_cons_succ]
    refine wpL_take (v := ?_) 23 rfl (by kernel_rfl) (fun _ _ _ h => h) (by rfl) ?_ HBw40.out ?_
    rotate_left
    focus
      intro w9 hw9
      have k0 := (HX.out.a.on hw9).cell (i := 0) rfl
      have k1 := (HX.out.a.on hw9).cell (i := 1) rfl
      have k2 := (HX.out.a.on hw9).cell (i := 2) rfl
      have k3 := (HX.out.b.on hw9).cell (i := 0) rfl
      have k4 := (HX.out.b.on hw9).cell (i := 1) rfl
      have k5 := (HX.out.b.on hw9).cell (i := 2) rfl
      have k6 := (HX.out.p.on hw9).cell (i := 0) rfl
      have k7 := (HX.out.p.on hw9).cell (i := 1) rfl
      have k8 := (HX.out.p.on hw9).cell (i := 2) rfl
      go_simp
      try with_reducible rfl
    try simp only [Act.put, List.setIfInBounds_toArray, List.set_cons_zero, List.set_cons_succ]
    refine wpL_done (by kernel_rfl) ?_ _
    try simp only [NoPanic]
    have HEE : Hid (Below w.heap.size w w40) := HE.out.trans (HBw40.out.mono HE.out.size)
    go_wp2_with fail
    go_ret
    exact ⟨rfl, HEE.out⟩
end Go.Proofs.Ytommmghkmbemmaa
