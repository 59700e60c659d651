/- The law of ValidTrims. -/
import Derived.Test.YtcknhjabdjbjiaaGreatGWTr5
import Derived.Test.YtcknhjabdjbjiaaGreatGWLg13n
import Derived.Test.YtcknhjabdjbjiaaGreatGWLq
namespace Go.Proofs.YtcknhjabdjbjiaaGreat
open Go.RowKit
set_option maxRecDepth 100000

theorem FstO.undrop {L : List Cm} {fl fr r : Nat} {P : Pt → Prop} (hb : IsBeh L fl r) (hf : fl ≤ fr) : ∀ {q : Option (Nat × Pt)}, FstO (L.drop r) fr P q → FstO L fr P q
  | none, h => fun c hc hcf x hx => by
    obtain ⟨k, hk, rfl⟩ := List.getElem_of_mem hc
    by_cases hkr : k < r
    · have := hb.2.1 k hk hkr
      omega
    · exact h L[k] (by
        rw [List.mem_iff_getElem]
        exact ⟨k - r, by rw [List.length_drop]; omega, by rw [List.getElem_drop]; congr 1; omega⟩) hcf x hx
  | some q, h => by
    obtain ⟨c, hc, e, h1, h2, h3⟩ := h
    refine ⟨c, List.mem_of_mem_drop hc, e, h1, h2, fun c' hc' hcf hlt x hx => ?_⟩
    obtain ⟨k, hk, rfl⟩ := List.getElem_of_mem hc'
    by_cases hkr : k < r
    · have := hb.2.1 k hk hkr
      omega
    · exact h3 L[k] (by
        rw [List.mem_iff_getElem]
        exact ⟨k - r, by rw [List.length_drop]; omega, by rw [List.getElem_drop]; congr 1; omega⟩) hcf hlt x hx
theorem TryQ.undrop {a : Ft} {fl fr r : Nat} {lv : Int} {L : List Cm} {q : Option (Nat × Pt)} {er : Int} (hb : IsBeh L fl r) (hf : fl ≤ fr) (h : TryQ a fr lv (L.drop r) q er) : TryQ a fr lv L q er := by
  rcases h with h | h | ⟨h1, h2, h3, h4, h5⟩ | ⟨h1, h2, h3, h4, h5, h6⟩ | ⟨h1, h2, h3, h4, h5⟩
  · exact .inl h
  · exact .inr (.inl h)
  · exact .inr (.inr (.inl ⟨h1, h2, h3, h4.undrop hb hf, h5⟩))
  · exact .inr (.inr (.inr (.inl ⟨h1, h2, h3.undrop hb hf, h4, h5.undrop hb hf, h6⟩)))
  · exact .inr (.inr (.inr (.inr ⟨h1, h2, fun h => (h3 h).undrop hb hf, fun h => (h4 h).undrop hb hf, h5⟩)))
theorem below_set2 {w2 w3 : World} {g : Nat} {cs : Array Value} {T : TypeId} (hb : Below w2.heap.size w2 w3) (hk : Blk w2 g cs T) (i : Nat) (v : Value) : Below w2.heap.size (w2.setCell ⟨g, i, none⟩ v) (w3.setCell ⟨g, i, none⟩ v) := by
  have h2 : Frm w2 (w2.setCell ⟨g, i, none⟩ v) (fun k => k = g) := frm_set _ _ _ _ (F := fun k => k = g) (.inl rfl)
  have h3 : Frm w3 (w3.setCell ⟨g, i, none⟩ v) (fun k => k = g) := frm_set _ _ _ _ (F := fun k => k = g) (.inl rfl)
  have hz : (w2.setCell ⟨g, i, none⟩ v).heap.size = w2.heap.size := by simp
  refine ⟨h3.os.trans (hb.os.trans h2.os.symm), h3.tape.trans (hb.tape.trans h2.tape.symm), h3.output.trans (hb.output.trans h2.output.symm), by rw [hz]; exact Nat.le_trans hb.size h3.size, fun k hkl => ?_⟩
  by_cases he : k = g
  · subst he
    have e2 : Blk (w2.setCell ⟨k, i, none⟩ v) k _ T := hk.set i v
    have e3 : Blk (w3.setCell ⟨k, i, none⟩ v) k _ T := (hk.on hb).set i v
    exact (show (w3.setCell ⟨k, i, none⟩ v).heap[k]? = _ from e3).trans (show (w2.setCell ⟨k, i, none⟩ v).heap[k]? = _ from e2).symm
  · rw [h3.block k (Nat.lt_of_lt_of_le hkl hb.size) he, h2.block k hkl he, hb.block k hkl]
set_option maxHeartbeats 8000000 in
theorem lawVTrims (v : Value) (K : List Lc) (a : Ft) (va0 va1 va2 : Value) (fr fl : Nat) (lv : Int) (w : World) (hK : RdLc w v K) (ha : RdF w va0 va1 va2 a) (hfr : fr < 18446744073709551616) (hfl : fl < 18446744073709551616) :
    Calls Tryz.prog 8 #[v, .agg #[.int .u64 (fr : Nat), va0, va1, va2, .int .i64 lv], .int .u64 (fl : Nat)] w fun e w' => e = .returned (.bool true) ∧ Below w.heap.size w w' := by
  obtain ⟨p0, c0, e0, -⟩ := ha.p.f
  obtain ⟨p1, c1, e1, -⟩ := ha.s.f
  obtain ⟨p2, c2, e2, -⟩ := ha.w.f
  obtain ⟨n0, hn0⟩ : ∃ n, a.P.length = n := ⟨_, rfl⟩
  obtain ⟨n1, hn1⟩ : ∃ n, a.S.length = n := ⟨_, rfl⟩
  obtain ⟨n2, hn2⟩ : ∃ n, a.W.length = n := ⟨_, rfl⟩
  rw [hn0] at e0
  rw [hn1] at e1
  rw [hn2] at e2
  subst e0 e1 e2
  clear hn0 hn1 hn2
  have HFr : Hid (fr < 18446744073709551616 ∧ fl < 18446744073709551616) := ⟨hfr, hfl⟩
  obtain ⟨w1, hw1⟩ : ∃ w1, w.alloc (.cells #[.int .u64 (fr : Nat), .slice p0 n0 c0, .slice p1 n1 c1, .slice p2 n2 c2, .int .i64 lv] 48) = w1 := ⟨_, rfl⟩
  have HB1 : Hid (Below w.heap.size w w1) := by rw [← hw1]; exact (Below.refl _ _).alloc (Nat.le_refl _) _
  have HK1 : Hid (Blk w1 w.heap.size #[.int .u64 (fr : Nat), .slice p0 n0 c0, .slice p1 n1 c1, .slice p2 n2 c2, .int .i64 lv] 48) := by rw [← hw1]; exact Blk.new w _ _
  have HA : Hid (RdF w _ _ _ a) := ha
  have HKw : Hid (∀ w9, Below w1.heap.size w1 w9 → RdLc w9 v K) := fun w9 h9 => (hK.on HB1.out).on h9
  have CN : Hid (Calls _ _ _ _ _) := noted_any2 v K w1 (HKw.out w1 (Below.refl _ _))
  clear hK ha hfr hfl
  go_enter Tryz.func8, Tryz.ntmps8
  go_wp2_with fail
  refine CN.out.mono ?_
  rintro e w2 ⟨lb1, mb1, vC1, E1, L1, vm1, M1, rfl, hP1, hD1, -⟩
  clear CN hw1
  have HP1 : Hid (NtP w1 w2 lb1 mb1 vC1 E1 L1 vm1 M1 ∧ DetM K M1) := ⟨hP1, hD1⟩
  clear hP1 hD1
  have CN : Hid (Calls _ _ _ _ _) := noted_any2 v K w2 (HKw.out w2 HP1.out.1.bel)
  go_wp2_with fail
  refine CN.out.mono ?_
  rintro e w3 ⟨lb2, mb2, vC2, E2, L2, vm2, M2, rfl, hP2, hD2, hN2⟩
  clear CN
  have HS : Hid (SamC L1 L2 ∧ InvC L2) := ⟨(HP1.out.1.sam.trans (HP1.out.2.sam hD2 rfl)).trans hP2.sam.symm, hP2.log.inv⟩
  have HX2 : Hid (LogO w3 w2.heap.size lb2 vC2 mb2 E2 L2 ∧ ∀ c ∈ L2, c.W.Nodup) := ⟨hP2.log, hN2⟩
  have HX1 : Hid (LogO w2 w1.heap.size lb1 vC1 mb1 E1 L1) := HP1.out.1.log
  have HB23 : Hid (Below w2.heap.size w2 w3) := hP2.bel
  have HB12 : Hid (Below w1.heap.size w1 w2) := HP1.out.1.bel
  have HK2 : Hid (Blk w2 w.heap.size #[.int .u64 (fr : Nat), .slice p0 n0 c0, .slice p1 n1 c1, .slice p2 n2 c2, .int .i64 lv] 48) := HK1.out.on HB12.out
  have HBw2 : Hid (Below w.heap.size w w2) := HB1.out.trans (HB12.out.mono HB1.out.size)
  have hK3 := HK2.out.on HB23.out
  have k0 := hK3.cell (i := 0) rfl
  clear hP2 hD2 hN2 HP1 HKw HK1 HB12
  by_cases hlt : fr < fl
  · have z0 := hK3.frozen 0
    obtain ⟨w4, hw4⟩ : ∃ w4, w3.setCell ⟨w.heap.size, 0, none⟩ (.int .u64 (fl : Nat)) = w4 := ⟨_, rfl⟩
    have f4 : Frm w3 w4 (fun k => k = w.heap.size) := by rw [← hw4]; exact frm_set _ _ _ _ (F := fun k => k = w.heap.size) (.inl rfl)
    have HX4 : Hid (LogO w4 w2.heap.size lb2 vC2 mb2 E2 L2) := HX2.out.1.frmF f4 hK3 (by decide)
    have HY2 : Hid (LogO (w2.setCell ⟨w.heap.size, 0, none⟩ (.int .u64 (fl : Nat))) w1.heap.size lb1 vC1 mb1 E1 L1) := HX1.out.frmF (frm_set _ _ _ _ (F := fun k => k = w.heap.size) (.inl rfl)) HK2.out (by decide)
    have HB24 : Hid (Below (w2.setCell ⟨w.heap.size, 0, none⟩ (.int .u64 (fl : Nat))).heap.size (w2.setCell ⟨w.heap.size, 0, none⟩ (.int .u64 (fl : Nat))) w4) := by
      have h := below_set2 HB23.out HK2.out 0 (.int .u64 (fl : Nat))
      rw [hw4] at h
      rw [show (w2.setCell ⟨w.heap.size, 0, none⟩ (.int .u64 (fl : Nat))).heap.size = w2.heap.size by simp]
      exact h
    have HK4 : Hid (Blk w4 w.heap.size #[.int .u64 (fl : Nat), .slice p0 n0 c0, .slice p1 n1 c1, .slice p2 n2 c2, .int .i64 lv] 48) := by rw [← hw4]; exact hK3.set 0 _
    have HKl : Hid (w.heap.size < w2.heap.size) := HK2.out.lt
    have HSz : Hid (w2.heap.size ≤ w4.heap.size) := Nat.le_trans HB23.out.size f4.size
    have hBw3 : Below w.heap.size w w3 := HBw2.out.trans (HB23.out.mono HBw2.out.size)
    have HB4 : Hid (Below w.heap.size w w4) := hBw3.trans (f4.below hBw3.size (fun k hk => by omega))
    have HFz : Hid (fl < 18446744073709551616 ∧ fl ≤ fl) := ⟨HFr.out.2, Nat.le_refl _⟩
    clear f4 hK3 hBw3 HX1 HB23 HK2
    have CT : Hid (Calls _ _ _ _ _) := trim_any w2.heap.size lb2 fl vC2 mb2 E2 L2 w4 HX4.out HX2.out.2
    go_wp2_with fail
    clear k0 z0 hw4 hlt
    refine CT.out.mono ?_
    rintro e w5 ⟨r, vC5, E5, rfl, hr, hX5, hF5⟩
    clear CT
    have hb45 : Below w2.heap.size w4 w5 := hF5.lowB HSz.out
    have HX5 : Hid (LogX w5 lb2 vC5 mb2 E5 (L2.drop r)) := hX5
    have HR : Hid (IsBeh L2 fl r) := hr
    have HY5 : Hid (LogO w5 w1.heap.size lb1 vC1 mb1 E1 L1) := HY2.out.on (HB24.out.trans (by rw [show (w2.setCell ⟨w.heap.size, 0, none⟩ (.int .u64 (fl : Nat))).heap.size = w2.heap.size by simp]; exact hb45))
    have HK5 : Hid (Blk w5 w.heap.size #[.int .u64 (fl : Nat), .slice p0 n0 c0, .slice p1 n1 c1, .slice p2 n2 c2, .int .i64 lv] 48) := HK4.out.keep hb45 HKl.out
    have HB5 : Hid (Below w.heap.size w w5) := HB4.out.trans (hb45.mono HBw2.out.size)
    clear hr hX5 hF5 hb45 HX4 HY2 HB24 HK4 HB4
    have l0 := HK5.out.cell (i := 0) rfl
    have l1 := HK5.out.cell (i := 1) rfl
    have l2 := HK5.out.cell (i := 2) rfl
    have l3 := HK5.out.cell (i := 3) rfl
    have l4 := HK5.out.cell (i := 4) rfl
    have CR : Hid (Calls _ _ _ _ _) := try_any a _ _ _ lb1 fl lv vC1 mb1 _ L1 w5 HY5.out.x (HA.out.on HB5.out) HFz.out.1
    go_wp2_with fail
    clear l0 l1 l2 l3 l4
    refine CR.out.mono ?_
    rintro e w6 ⟨q, er, rfl, hq, hb6⟩
    clear CR
    have HQ : Hid (TryQ a fl lv L1 q er) := hq
    rw [clA_eq]
    obtain ⟨⟨m, x⟩, hx⟩ : ∃ y, clC q = y := ⟨_, rfl⟩
    rw [hx]
    have HL : Hid (clC q = (m, x)) := hx
    clear hx hq
    dsimp only
    obtain ⟨wb6, hwb6⟩ : ∃ wb, w6.alloc (.cells #[.int .u64 (m : Nat), .int .i64 x.t, .int .i64 x.i, .string x.k] 41) = wb := ⟨_, rfl⟩
    have hal : Below w5.heap.size w5 wb6 := by rw [← hwb6]; exact hb6.trans ((Below.refl _ _).alloc hb6.size _)
    have HZ6 : Hid (Blk wb6 w6.heap.size #[.int .u64 (m : Nat), .int .i64 x.t, .int .i64 x.i, .string x.k] 41) := by rw [← hwb6]; exact Blk.new w6 _ _
    have HX6 : Hid (LogX wb6 lb2 vC5 mb2 E5 (L2.drop r)) := HX5.out.on hal
    have HK6 : Hid (Blk wb6 w.heap.size #[.int .u64 (fl : Nat), .slice p0 n0 c0, .slice p1 n1 c1, .slice p2 n2 c2, .int .i64 lv] 48) := HK5.out.on hal
    have HB6 : Hid (Below w.heap.size w wb6) := HB5.out.trans (hal.mono HB5.out.size)
    clear hal hb6 HX5 HK5 HB5 HY5
    have l0 := HK6.out.cell (i := 0) rfl
    have l1 := HK6.out.cell (i := 1) rfl
    have l2 := HK6.out.cell (i := 2) rfl
    have l3 := HK6.out.cell (i := 3) rfl
    have l4 := HK6.out.cell (i := 4) rfl
    have CR : Hid (Calls _ _ _ _ _) := try_any a _ _ _ lb2 fl lv vC5 mb2 _ (L2.drop r) wb6 HX6.out (HA.out.on HB6.out) HFz.out.1
    go_wp2_with fail
    clear l0 l1 l2 l3 l4 hwb6
    refine CR.out.mono ?_
    rintro e w7 ⟨q', er', rfl, hq, hb7⟩
    clear CR
    obtain ⟨rfl, rfl⟩ := TryQ.uniq HS.out.2 (HQ.out.sam HS.out.1) (hq.undrop HR.out HFz.out.2)
    rw [clA_eq, HL.out]
    dsimp only
    obtain ⟨wb7, hwb7⟩ : ∃ wb, w7.alloc (.cells #[.int .u64 (m : Nat), .int .i64 x.t, .int .i64 x.i, .string x.k] 41) = wb := ⟨_, rfl⟩
    have hal : Below wb6.heap.size wb6 wb7 := by rw [← hwb7]; exact hb7.trans ((Below.refl _ _).alloc hb7.size _)
    have HZ7 : Hid (Blk wb7 w7.heap.size #[.int .u64 (m : Nat), .int .i64 x.t, .int .i64 x.i, .string x.k] 41) := by rw [← hwb7]; exact Blk.new w7 _ _
    have HZo : Hid (Blk wb7 w6.heap.size #[.int .u64 (m : Nat), .int .i64 x.t, .int .i64 x.i, .string x.k] 41) := HZ6.out.on hal
    have HB7 : Hid (Below w.heap.size w wb7) := HB6.out.trans (hal.mono HB6.out.size)
    clear hal hb7 hq HX6 HK6 HB6 HZ6
    have y0 := HZ7.out.cell (i := 0) rfl
    have z0 := HZo.out.cell (i := 0) rfl
    have y1 := HZ7.out.cell (i := 1) rfl
    have z1 := HZo.out.cell (i := 1) rfl
    have y2 := HZ7.out.cell (i := 2) rfl
    have z2 := HZo.out.cell (i := 2) rfl
    have y3 := HZ7.out.cell (i := 3) rfl
    have z3 := HZo.out.cell (i := 3) rfl
    have CS : Hid (Calls _ _ _ _ _) := sameClash_any m x.t x.i x.k wb7
    go_wp2_with fail
    clear hwb7 y0 y1 y2 y3 z0 z1 z2 z3
    refine CS.out.mono ?_
    rintro e w8 ⟨rfl, hb⟩
    have HB8 : Hid (Below w.heap.size w w8) := HB7.out.trans (hb.mono HB7.out.size)
    clear CS hb
    have CW : Hid (Calls _ _ _ _ _) := awake18_any w8
    go_wp2_with fail
    refine CW.out.mono ?_
    rintro e w9 ⟨rfl, hb⟩
    have HE : Hid (Below w.heap.size w w9) := HB8.out.trans (hb.mono HB8.out.size)
    clear CW hb
    go_wp2_with fail
    go_ret
    exact ⟨rfl, HE.out⟩
  · have hge : fl ≤ fr := by omega
    have HX4 : Hid (LogO w3 w2.heap.size lb2 vC2 mb2 E2 L2) := HX2.out.1
    have HY2 := HX1
    have HB24 := HB23
    have HK4 : Hid (Blk w3 w.heap.size #[.int .u64 (fr : Nat), .slice p0 n0 c0, .slice p1 n1 c1, .slice p2 n2 c2, .int .i64 lv] 48) := hK3
    have HKl : Hid (w.heap.size < w2.heap.size) := HK2.out.lt
    have HSz : Hid (w2.heap.size ≤ w3.heap.size) := HB23.out.size
    have HB4 : Hid (Below w.heap.size w w3) := HBw2.out.trans (HB23.out.mono HBw2.out.size)
    have HFz : Hid (fr < 18446744073709551616 ∧ fl ≤ fr) := ⟨HFr.out.1, hge⟩
    clear hK3 hlt HX1 HB23 HK2
    have CT : Hid (Calls _ _ _ _ _) := trim_any w2.heap.size lb2 fl vC2 mb2 E2 L2 w3 HX4.out HX2.out.2
    go_wp2_with fail
    clear k0 hge
    refine CT.out.mono ?_
    rintro e w5 ⟨r, vC5, E5, rfl, hr, hX5, hF5⟩
    clear CT
    have hb45 : Below w2.heap.size w3 w5 := hF5.lowB HSz.out
    have HX5 : Hid (LogX w5 lb2 vC5 mb2 E5 (L2.drop r)) := hX5
    have HR : Hid (IsBeh L2 fl r) := hr
    have HY5 : Hid (LogO w5 w1.heap.size lb1 vC1 mb1 E1 L1) := HY2.out.on (HB24.out.trans hb45)
    have HK5 : Hid (Blk w5 w.heap.size #[.int .u64 (fr : Nat), .slice p0 n0 c0, .slice p1 n1 c1, .slice p2 n2 c2, .int .i64 lv] 48) := HK4.out.keep hb45 HKl.out
    have HB5 : Hid (Below w.heap.size w w5) := HB4.out.trans (hb45.mono HBw2.out.size)
    clear hr hX5 hF5 hb45 HX4 HY2 HB24 HK4 HB4
    have l0 := HK5.out.cell (i := 0) rfl
    have l1 := HK5.out.cell (i := 1) rfl
    have l2 := HK5.out.cell (i := 2) rfl
    have l3 := HK5.out.cell (i := 3) rfl
    have l4 := HK5.out.cell (i := 4) rfl
    have CR : Hid (Calls _ _ _ _ _) := try_any a _ _ _ lb1 fr lv vC1 mb1 _ L1 w5 HY5.out.x (HA.out.on HB5.out) HFz.out.1
    go_wp2_with fail
    clear l0 l1 l2 l3 l4
    refine CR.out.mono ?_
    rintro e w6 ⟨q, er, rfl, hq, hb6⟩
    clear CR
    have HQ : Hid (TryQ a fr lv L1 q er) := hq
    rw [clA_eq]
    obtain ⟨⟨m, x⟩, hx⟩ : ∃ y, clC q = y := ⟨_, rfl⟩
    rw [hx]
    have HL : Hid (clC q = (m, x)) := hx
    clear hx hq
    dsimp only
    obtain ⟨wb6, hwb6⟩ : ∃ wb, w6.alloc (.cells #[.int .u64 (m : Nat), .int .i64 x.t, .int .i64 x.i, .string x.k] 41) = wb := ⟨_, rfl⟩
    have hal : Below w5.heap.size w5 wb6 := by rw [← hwb6]; exact hb6.trans ((Below.refl _ _).alloc hb6.size _)
    have HZ6 : Hid (Blk wb6 w6.heap.size #[.int .u64 (m : Nat), .int .i64 x.t, .int .i64 x.i, .string x.k] 41) := by rw [← hwb6]; exact Blk.new w6 _ _
    have HX6 : Hid (LogX wb6 lb2 vC5 mb2 E5 (L2.drop r)) := HX5.out.on hal
    have HK6 : Hid (Blk wb6 w.heap.size #[.int .u64 (fr : Nat), .slice p0 n0 c0, .slice p1 n1 c1, .slice p2 n2 c2, .int .i64 lv] 48) := HK5.out.on hal
    have HB6 : Hid (Below w.heap.size w wb6) := HB5.out.trans (hal.mono HB5.out.size)
    clear hal hb6 HX5 HK5 HB5 HY5
    have l0 := HK6.out.cell (i := 0) rfl
    have l1 := HK6.out.cell (i := 1) rfl
    have l2 := HK6.out.cell (i := 2) rfl
    have l3 := HK6.out.cell (i := 3) rfl
    have l4 := HK6.out.cell (i := 4) rfl
    have CR : Hid (Calls _ _ _ _ _) := try_any a _ _ _ lb2 fr lv vC5 mb2 _ (L2.drop r) wb6 HX6.out (HA.out.on HB6.out) HFz.out.1
    go_wp2_with fail
    clear l0 l1 l2 l3 l4 hwb6
    refine CR.out.mono ?_
    rintro e w7 ⟨q', er', rfl, hq, hb7⟩
    clear CR
    obtain ⟨rfl, rfl⟩ := TryQ.uniq HS.out.2 (HQ.out.sam HS.out.1) (hq.undrop HR.out HFz.out.2)
    rw [clA_eq, HL.out]
    dsimp only
    obtain ⟨wb7, hwb7⟩ : ∃ wb, w7.alloc (.cells #[.int .u64 (m : Nat), .int .i64 x.t, .int .i64 x.i, .string x.k] 41) = wb := ⟨_, rfl⟩
    have hal : Below wb6.heap.size wb6 wb7 := by rw [← hwb7]; exact hb7.trans ((Below.refl _ _).alloc hb7.size _)
    have HZ7 : Hid (Blk wb7 w7.heap.size #[.int .u64 (m : Nat), .int .i64 x.t, .int .i64 x.i, .string x.k] 41) := by rw [← hwb7]; exact Blk.new w7 _ _
    have HZo : Hid (Blk wb7 w6.heap.size #[.int .u64 (m : Nat), .int .i64 x.t, .int .i64 x.i, .string x.k] 41) := HZ6.out.on hal
    have HB7 : Hid (Below w.heap.size w wb7) := HB6.out.trans (hal.mono HB6.out.size)
    clear hal hb7 hq HX6 HK6 HB6 HZ6
    have y0 := HZ7.out.cell (i := 0) rfl
    have z0 := HZo.out.cell (i := 0) rfl
    have y1 := HZ7.out.cell (i := 1) rfl
    have z1 := HZo.out.cell (i := 1) rfl
    have y2 := HZ7.out.cell (i := 2) rfl
    have z2 := HZo.out.cell (i := 2) rfl
    have y3 := HZ7.out.cell (i := 3) rfl
    have z3 := HZo.out.cell (i := 3) rfl
    have CS : Hid (Calls _ _ _ _ _) := sameClash_any m x.t x.i x.k wb7
    go_wp2_with fail
    clear hwb7 y0 y1 y2 y3 z0 z1 z2 z3
    refine CS.out.mono ?_
    rintro e w8 ⟨rfl, hb⟩
    have HB8 : Hid (Below w.heap.size w w8) := HB7.out.trans (hb.mono HB7.out.size)
    clear CS hb
    have CW : Hid (Calls _ _ _ _ _) := awake18_any w8
    go_wp2_with fail
    refine CW.out.mono ?_
    rintro e w9 ⟨rfl, hb⟩
    have HE : Hid (Below w.heap.size w w9) := HB8.out.trans (hb.mono HB8.out.size)
    clear CW hb
    go_wp2_with fail
    go_ret
    exact ⟨rfl, HE.out⟩

end Go.Proofs.YtcknhjabdjbjiaaGreat
