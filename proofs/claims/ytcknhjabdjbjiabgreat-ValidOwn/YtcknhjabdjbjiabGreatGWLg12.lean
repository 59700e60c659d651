/- Wrote: the first commit behind a stamp that wrote a row that a foot writes. Try: whether a transaction of a level may commit. -/
import Derived.Test.YtcknhjabdjbjiabGreatGWLg7
import Derived.Test.YtcknhjabdjbjiabGreatGWCl8
namespace Go.Proofs.YtcknhjabdjbjiabGreat
open Go.RowKit
set_option maxRecDepth 100000

/-- what a foot writes that is a row -/
def Ft.wrs (f : Ft) (x : Pt) : Prop := x ∈ rowsL f.W
theorem wrs_iff (A B : List Pt) (x : Pt) : (x ∈ rowsL A ∧ x ∈ rowsL B) ↔ (x ∈ B ∧ x ∈ rowsL A) := by
  unfold rowsL
  rw [mem_dropG, mem_dropG]
  constructor
  · rintro ⟨⟨h1, h2⟩, h3, _⟩; exact ⟨h3, h1, h2⟩
  · rintro ⟨h3, h1, h2⟩; exact ⟨⟨h1, h2⟩, h3, h2⟩
/-- what Wrote tells of a foot -/
structure WrQ (a : Ft) (L : List Cm) (fr : Nat) (q : Option (Nat × Pt)) : Prop where
  ok : chkF a = 0 → FstO L fr a.wrs q
  bad : chkF a ≠ 0 → q = none
theorem vrows1_any (x : Pt) (w : World) : Calls Tryz.prog 47 #[PV x] w fun e w' => e = .returned (.bool (x.i != -1)) ∧ Below w.heap.size w w' := by
  go_enter Tryz.func47, Tryz.ntmps47
  go_wp2
  go_ret
  exact ⟨rfl, by go_grown⟩
set_option maxHeartbeats 4000000 in
theorem vrows_any (L : List Pt) (v : Value) (w : World) (h : SlP w v L) (hlen : L.length ≤ 4398046511104) :
    Calls Tryz.prog 25 #[v] w fun e w' => ∃ v', e = .returned v' ∧ OwnP w' w.heap.size v' (rowsL L) ∧ Below w.heap.size w w' := by
  have hin : ∀ args w, (callFunc 47 args).run Tryz.prog w = .ok (.enter 47 args) w := enters_of Tryz.func47 (by kernel_rfl) rfl
  obtain ⟨p, c, rfl, h1, h2, h3⟩ := h.f
  cases p with
  | none =>
    have e : L = [] := rowP_len h3 rfl
    subst e
    rw [h2 rfl]
    have C1 : Hid (Calls _ _ _ _ _) := clonePN_any w
    have C2 : Hid (∀ w1, Below w.heap.size w w1 → Calls Tryz.prog 54 #[.slice none 0 0, .func (.func 47) #[] #[]] w1 fun e w' => e = .returned (.int .i64 (-1)) ∧ Below w1.heap.size w1 w') := fun w1 hb => indexFP0_any 47 (fun x => x.i != -1) [] none 0 w1 hin (fun i hi => absurd hi (by simp)) (by simp) (fun x w2 h2 => vrows1_any x w2)
    have C3 : Hid (∀ w1, Below w.heap.size w w1 → Calls Tryz.prog 45 #[.slice none 0 0, .func (.func 47) #[] #[]] w1 fun e w' => e = .returned (.slice none 0 0) ∧ Below w1.heap.size w1 w') := fun w1 hb => by
      have C4 : Hid (Calls _ _ _ _ _) := C2.out w1 hb
      clear C1 C2
      go_enter Tryz.func45, Tryz.ntmps45
      go_wp2_with fail
      refine C4.out.mono ?_
      rintro e w2 ⟨rfl, hb2⟩
      go_wp2_with fail
      go_ret
      exact ⟨rfl, hb2⟩
    clear C2 h h3 hin
    go_enter Tryz.func25, Tryz.ntmps25
    go_wp2_with fail
    refine C1.out.mono ?_
    rintro e w1 ⟨rfl, hb1⟩
    go_wp2_with fail
    refine (C3.out w1 hb1).mono ?_
    rintro e w2 ⟨rfl, hb2⟩
    go_wp2_with fail
    go_ret
    exact ⟨_, rfl, OwnP.nil _ _, hb1.trans (hb2.mono hb1.size)⟩
  | some a =>
    have C1 : Hid (Calls _ _ _ _ _) := cloneP_any L a c w h3 hlen h1
    have HIN : Hid (∀ args w, (callFunc 47 args).run Tryz.prog w = .ok (.enter 47 args) w) := hin
    clear h h3 hin
    go_enter Tryz.func25, Tryz.ntmps25
    go_wp2_with fail
    refine C1.out.mono ?_
    rintro e w1 ⟨v, rfl, hO, hnn, hb1⟩
    rcases hO.form with ⟨rfl, rfl⟩ | ⟨g, cap, rfl, hg1, hg2⟩
    · exact absurd rfl hnn
    · have C2 : Hid (Calls _ _ _ _ _) := deleteFP0_any 47 (fun x => x.i != -1) L g cap w.heap.size w1 HIN.out hO hlen (fun x w2 h2 => vrows1_any x w2)
      have HB1 : Hid (Below w.heap.size w w1) := hb1
      clear hO hnn hb1 C1
      go_wp2_with fail
      refine C2.out.mono ?_
      rintro e w2 ⟨rfl, hO2, hb2⟩
      have HO2 : Hid (OwnP _ _ _ _ ∧ Below w.heap.size w w2) := ⟨hO2, HB1.out.trans hb2⟩
      clear hO2 hb2
      go_wp2_with fail
      go_ret
      exact ⟨_, rfl, HO2.out.1, HO2.out.2⟩
set_option maxHeartbeats 8000000 in
theorem wrote_any (a : Ft) (va0 va1 va2 : Value) (lb fr : Nat) (vC : Value) (mb : Nat) (E : List (Pt × Value)) (L : List Cm) (w : World) (hX : LogX w lb vC mb E L) (ha : RdF w va0 va1 va2 a) (hfr : fr < 18446744073709551616) :
    Calls Tryz.prog 10 #[ptr1 lb, .agg #[va0, va1, va2], .int .u64 (fr : Nat)] w fun e w' => ∃ q, e = .returned (clV q) ∧ WrQ a L fr q ∧ Below w.heap.size w w' := by
  obtain ⟨p0, c0, e0, -⟩ := ha.p.f
  obtain ⟨p1, c1, e1, -⟩ := ha.s.f
  obtain ⟨p2, c2, e2, -⟩ := ha.w.f
  obtain ⟨n0, hn0⟩ : ∃ n, a.P.length = n := ⟨_, rfl⟩
  obtain ⟨n1, hn1⟩ : ∃ n, a.S.length = n := ⟨_, rfl⟩
  obtain ⟨n2, hn2⟩ : ∃ n, a.W.length = n := ⟨_, rfl⟩
  rw [hn0] at e0
  rw [hn1] at e1
  rw [hn2] at e2
  subst e0 e1 e2
  clear hn0 hn1 hn2
  obtain ⟨w2, hw2⟩ : ∃ w2, ((w.alloc (.cells #[.slice p0 n0 c0, .slice p1 n1 c1, .slice p2 n2 c2] 27)).alloc (.cells #[.int .u64 0, .int .i64 0, .int .i64 0, .string ⟨#[]⟩] 38)) = w2 := ⟨_, rfl⟩
  have HB2 : Hid (Below w.heap.size w w2) := by rw [← hw2]; exact ((Below.refl _ _).alloc (Nat.le_refl _) _).alloc (by simp) _
  have HKA : Hid (Blk w2 w.heap.size #[.slice p0 n0 c0, .slice p1 n1 c1, .slice p2 n2 c2] 27) := by rw [← hw2]; exact (Blk.new w _ _).keep (B := w.heap.size + 1) ((Below.refl _ _).alloc (by simp) _) (by omega)
  have HKB : Hid (Blk w2 (w.heap.size + 1) #[.int .u64 0, .int .i64 0, .int .i64 0, .string ⟨#[]⟩] 38) := by
    rw [← hw2]
    have h := Blk.new (w.alloc (.cells #[.slice p0 n0 c0, .slice p1 n1 c1, .slice p2 n2 c2] 27)) #[.int .u64 0, .int .i64 0, .int .i64 0, .string ⟨#[]⟩] 38
    rw [World.size_alloc] at h
    exact h
  have HX2 : Hid (LogX w2 lb vC mb E L) := hX.on HB2.out
  have HA2 : Hid (RdF w2 _ _ _ a) := ha.on HB2.out
  have HI : Hid (InvC L) := hX.inv
  have CG : Hid (Calls _ _ _ _ _) := given_any lb _ _ w2 HX2.out.blk
  have CC : Hid (Calls _ _ _ _ _) := check_any a _ _ _ w2 HA2.out
  have k0 := HKA.out.cell (i := 0) rfl
  have k1 := HKA.out.cell (i := 1) rfl
  have k2 := HKA.out.cell (i := 2) rfl
  clear hX ha
  by_cases hca : chkF a = 0
  · have HCA : Hid (chkF a = 0) := hca
    rw [hca] at CC
    go_enter Tryz.func10, Tryz.ntmps10
    go_wp2_with fail
    refine CG.out.mono ?_
    rintro e w3 ⟨rfl, hw3⟩
    obtain rfl := hw3.symm
    clear CG
    go_wp2_with fail
    refine CC.out.mono ?_
    rintro e w3 ⟨rfl, hb3⟩
    clear CC k0 k1 k2 hw2
    have HB3 : Hid (Below w2.heap.size w2 w3) := hb3
    clear hb3
    have CR : Hid (Calls _ _ _ _ _) := vrows_any a.W _ w3 (HA2.out.on HB3.out).w HA2.out.lw
    have k0 := (HKA.out.on HB3.out).cell (i := 2) rfl
    clear hca
    go_wp2_with fail
    refine CR.out.mono ?_
    rintro e w4 ⟨vr, rfl, hor, hb4⟩
    clear CR k0
    have HB4 : Hid (Below w2.heap.size w2 w4) := HB3.out.trans (hb4.mono HB3.out.size)
    have hlr : (rowsL a.W).length ≤ 4398046511104 := Nat.le_trans (by unfold rowsL dropG; exact List.length_filter_le _ _) HA2.out.lw
    have CO : Hid (Calls _ _ _ _ _) := firstOf_any lb fr vC mb E L (rowsL a.W) vr w4 (HX2.out.on HB4.out) hor.sl hlr hfr
    clear hb4 HB3 hor hlr
    go_wp2_with fail
    refine CO.out.mono ?_
    rintro e w5 ⟨m, rfl, hsL, hb5⟩
    clear CO
    have HB5 : Hid (Below w2.heap.size w2 w5) := HB4.out.trans (hb5.mono HB4.out.size)
    have HL2 : Hid (IsL L fr (fun c => ∃ x ∈ c.W, a.wrs x) m) := hsL.ext (fun c _ => by
      constructor
      · rintro ⟨x, h1, h2⟩
        exact ⟨x, h2, h1⟩
      · rintro ⟨x, h1, h2⟩
        exact ⟨x, h2, h1⟩)
    clear hsL hb5 HB4
    have HSm : Hid (m ≤ 18446744073709551615) := HL2.out.le HI.out
    by_cases hmz : m = 18446744073709551615
    · have HF := FstO.of HL2.out hmz HI.out
      subst hmz
      have hz := HKB.out.on HB5.out
      have z0 := hz.cell (i := 0) rfl
      have z1 := hz.cell (i := 1) rfl
      have z2 := hz.cell (i := 2) rfl
      have z3 := hz.cell (i := 3) rfl
      have f0 := hz.frozen 0
      have f1 := hz.frozen 1
      have f2 := hz.frozen 2
      have f3 := hz.frozen 3
      have HQ : Hid (WrQ a L fr none) := ⟨fun _ => HF, fun _ => rfl⟩
      have HE : Hid (Below w.heap.size w w5) := HB2.out.trans (HB5.out.mono HB2.out.size)
      have H4 : Hid (Blk ((((w5.setCell ⟨w.heap.size + 1, 0, none⟩ (.int .u64 0)).setCell ⟨w.heap.size + 1, 1, none⟩ (.int .i64 0)).setCell ⟨w.heap.size + 1, 2, none⟩ (.int .i64 0)).setCell ⟨w.heap.size + 1, 3, none⟩ (.string ⟨#[]⟩)) (w.heap.size + 1) #[(.int .u64 0), (.int .i64 0), (.int .i64 0), (.string ⟨#[]⟩)] 38 ∧ Frm w5 ((((w5.setCell ⟨w.heap.size + 1, 0, none⟩ (.int .u64 0)).setCell ⟨w.heap.size + 1, 1, none⟩ (.int .i64 0)).setCell ⟨w.heap.size + 1, 2, none⟩ (.int .i64 0)).setCell ⟨w.heap.size + 1, 3, none⟩ (.string ⟨#[]⟩)) (fun k => k = w.heap.size + 1)) := set4 hz
      have HE4 : Hid (Below w.heap.size w ((((w5.setCell ⟨w.heap.size + 1, 0, none⟩ (.int .u64 0)).setCell ⟨w.heap.size + 1, 1, none⟩ (.int .i64 0)).setCell ⟨w.heap.size + 1, 2, none⟩ (.int .i64 0)).setCell ⟨w.heap.size + 1, 3, none⟩ (.string ⟨#[]⟩))) := HE.out.trans (H4.out.2.below HE.out.size (fun k hk => by omega))
      clear HF hz HL2 HB5 HB2 HKA HKB HX2 HA2
      go_wp2_with fail
      clear z0 z1 z2 z3 f0 f1 f2 f3
      generalize (((w5.setCell ⟨w.heap.size + 1, 0, none⟩ (.int .u64 0)).setCell ⟨w.heap.size + 1, 1, none⟩ (.int .i64 0)).setCell ⟨w.heap.size + 1, 2, none⟩ (.int .i64 0)).setCell ⟨w.heap.size + 1, 3, none⟩ (.string ⟨#[]⟩) = wz at *
      have r0 := H4.out.1.cell (i := 0) rfl
      have r1 := H4.out.1.cell (i := 1) rfl
      have r2 := H4.out.1.cell (i := 2) rfl
      have r3 := H4.out.1.cell (i := 3) rfl
      refine bodyPost_ret (v := clV none) (by simp [clV, results, Tryz.results10, go_sem, r0, r1, r2, r3]) rfl ?_
      exact ⟨none, rfl, HQ.out, HE4.out⟩
    · obtain ⟨i, hi, his, hmin⟩ := FstO.at HL2.out hmz
      have HXf : Hid (LogX w5 lb vC mb E L) := HX2.out.on HB5.out
      have hft := HXf.out.com.ft L[i] (List.getElem_mem hi)
      have CA : Hid (∀ w7 : World, Below w5.heap.size w5 w7 → Calls Tryz.prog 24 #[ptr1 lb, .int .u64 (m : Nat)] w7 fun e w' => e = .returned (.agg #[L[i].v0, L[i].v1, L[i].v2]) ∧ Below w7.heap.size w7 w') := fun w7 hb => by
        have := at_any lb _ _ L w7 (HXf.out.on hb).blk (HXf.out.on hb).com HI.out i hi
        rw [his] at this
        exact this
      have CQ : Hid (∀ w7 : World, Below w5.heap.size w5 w7 → Calls Tryz.prog 26 #[.agg #[.slice p0 n0 c0, .slice p1 n1 c1, .slice p2 n2 c2], .agg #[L[i].v0, L[i].v1, L[i].v2]] w7 fun e w' => ∃ x, FstO L fr a.wrs (some (m, x)) ∧ e = .returned (.tuple #[.agg #[.int .i64 x.t, .int .i64 x.i, .string x.k], .bool true]) ∧ Below w7.heap.size w7 w') := fun w7 hb => by
        refine (both_any a ⟨[], [], L[i].W⟩ _ _ _ _ _ _ w7 ((HA2.out.on HB5.out).on hb) (hft.on hb)).mono ?_
        rintro e w' ⟨o, ho, rfl, hb'⟩
        obtain ⟨x, rfl, hx⟩ := hmin o (ho.ext (fun x => wrs_iff a.W L[i].W x))
        exact ⟨x, hx, rfl, hb'⟩
      obtain ⟨y0, z0, f0, -⟩ := hft.p.f
      obtain ⟨y1, z1, f1, -⟩ := hft.s.f
      obtain ⟨y2, z2, f2, -⟩ := hft.w.f
      generalize L[i].v0 = x0 at *
      generalize L[i].v1 = x1 at *
      generalize L[i].v2 = x2 at *
      have HKA5 : Hid (Blk w5 w.heap.size #[.slice p0 n0 c0, .slice p1 n1 c1, .slice p2 n2 c2] 27) := HKA.out.on HB5.out
      have HKB5 : Hid (Blk w5 (w.heap.size + 1) #[.int .u64 0, .int .i64 0, .int .i64 0, .string ⟨#[]⟩] 38) := HKB.out.on HB5.out
      have HE5 : Hid (Below w.heap.size w w5) := HB2.out.trans (HB5.out.mono HB2.out.size)
      have HSm2 : Hid (¬ m = 18446744073709551615) := hmz
      clear hft f0 f1 f2 hmin his HKA HKB HXf HL2 HB5 HX2 HA2
      have hmd : decide ((m : Int) = 18446744073709551615) = false := decide_eq_false (by omega)
      have hmb : ((m : Int) == 18446744073709551615) = false := by simp; omega
      clear hmz
      go_upto_region 6 with fail
      clear hmd hmb
      refine wp_region_L (fun w' => Below w5.heap.size w5 w') 11 (by kernel_rfl) ?_
      have HBwd : Hid (Below w5.heap.size w5 w5.drew) := (Below.refl _ _).drew
      generalize w5.drew = wd at *
      refine wpL_take (v := ?_) 0 rfl (by kernel_rfl) (fun _ _ _ h => h) (by rfl) ?_ HBwd.out ?_
      rotate_left
      focus
        intro w9 hw9
        have a0 := (HKA5.out.on hw9).cell (i := 0) rfl
        have a1 := (HKA5.out.on hw9).cell (i := 1) rfl
        have a2 := (HKA5.out.on hw9).cell (i := 2) rfl
        go_simp
        try with_reducible rfl
      try simp only [Act.put, List.setIfInBounds_toArray, List.set_cons_zero, List.set_cons_succ]
      refine wpL_take (v := ?_) 1 rfl (by kernel_rfl) (fun _ _ _ h => h) (by rfl) ?_ HBwd.out ?_
      rotate_left
      focus
        intro w9 hw9
        have a0 := (HKA5.out.on hw9).cell (i := 0) rfl
        have a1 := (HKA5.out.on hw9).cell (i := 1) rfl
        have a2 := (HKA5.out.on hw9).cell (i := 2) rfl
        go_simp
        try with_reducible rfl
      try simp only [Act.put, List.setIfInBounds_toArray, List.set_cons_zero, List.set_cons_succ]
      refine wpL_take (v := ?_) 2 rfl (by kernel_rfl) (fun _ _ _ h => h) (by rfl) ?_ HBwd.out ?_
      rotate_left
      focus
        intro w9 hw9
        have a0 := (HKA5.out.on hw9).cell (i := 0) rfl
        have a1 := (HKA5.out.on hw9).cell (i := 1) rfl
        have a2 := (HKA5.out.on hw9).cell (i := 2) rfl
        go_simp
        try with_reducible rfl
      try simp only [Act.put, List.setIfInBounds_toArray, List.set_cons_zero, List.set_cons_succ]
      refine wpL_two18 3 8 rfl rfl (by kernel_rfl) (by rfl) (by rfl) ?_ ?_
      · intro K hK
        go_simp
        refine (CA.out wd HBwd.out).mono ?_
        rintro e wu1 ⟨rfl, hbwu1⟩
        dsimp only
        have HBwu1 : Hid (Below w5.heap.size w5 wu1) := HBwd.out.trans ((hbwu1).mono HBwd.out.size)
        clear hbwu1
        refine hK.out _ _ (fun _ => HBwu1.out) ?_
        clear hK K
        try simp only [Act.put, List.setIfInBounds_toArray, List.set_cons_zero, List.set_cons_succ]
        refine wpL_two18 4 8 rfl rfl (by kernel_rfl) (by rfl) (by rfl) ?_ ?_
        · intro K hK
          go_simp
          refine (CQ.out wu1 HBwu1.out).mono ?_
          rintro e wu2 ⟨x, hx, rfl, hbwu2⟩
          have HFx : Hid (FstO L fr a.wrs (some (m, x))) := hx
          clear hx
          dsimp only
          have HBwu2 : Hid (Below w5.heap.size w5 wu2) := HBwu1.out.trans ((hbwu2).mono HBwu1.out.size)
          clear hbwu2
          refine hK.out _ _ (fun _ => HBwu2.out) ?_
          clear hK K
          try simp only [Act.put, List.setIfInBounds_toArray, List.set_cons_zero, List.set_cons_succ]
          refine wpL_take (v := ?_) 5 rfl (by kernel_rfl) (fun _ _ _ h => h) (by rfl) ?_ HBwu2.out ?_
          rotate_left
          focus
            intro w9 hw9

            go_simp
            try with_reducible rfl
          try simp only [Act.put, List.setIfInBounds_toArray, List.set_cons_zero, List.set_cons_succ]
          refine wpL_take (v := ?_) 6 rfl (by kernel_rfl) (fun _ _ _ h => h) (by rfl) ?_ HBwu2.out ?_
          rotate_left
          focus
            intro w9 hw9

            go_simp
            try with_reducible rfl
          try simp only [Act.put, List.setIfInBounds_toArray, List.set_cons_zero, List.set_cons_succ]
          refine wpL_take (v := ?_) 7 rfl (by kernel_rfl) (fun _ _ _ h => h) (by rfl) ?_ HBwu2.out ?_
          rotate_left
          focus
            intro w9 hw9

            go_simp
            try with_reducible rfl
          try simp only [Act.put, List.setIfInBounds_toArray, List.set_cons_zero, List.set_cons_succ]
          refine wpL_one 8 rfl (by kernel_rfl) (by rfl) ?_
          intro K hK
          go_simp
          have hal : Below wu2.heap.size wu2 (wu2.alloc (.cells #[.int .i64 0, .int .i64 0, .string ⟨#[]⟩] 36)) := (Below.refl _ _).alloc (Nat.le_refl _) _
          have HZwu3 : Hid (Blk (wu2.alloc (.cells #[.int .i64 0, .int .i64 0, .string ⟨#[]⟩] 36)) wu2.heap.size #[.int .i64 0, .int .i64 0, .string ⟨#[]⟩] 36) := Blk.new wu2 _ _
          have HBwu3 : Hid (Below w5.heap.size w5 (wu2.alloc (.cells #[.int .i64 0, .int .i64 0, .string ⟨#[]⟩] 36))) := HBwu2.out.trans (hal.mono HBwu2.out.size)
          have HLe : Hid (w5.heap.size ≤ wu2.heap.size) := HBwu2.out.size
          clear hal
          generalize (wu2.alloc (.cells #[.int .i64 0, .int .i64 0, .string ⟨#[]⟩] 36)) = wu3 at *
          refine hK.out _ _ (fun _ => HBwu3.out) ?_
          clear hK K
          try simp only [Act.put, List.setIfInBounds_toArray, List.set_cons_zero, List.set_cons_succ]
          have q0 := HZwu3.out.cell (i := 0) rfl
          have q1 := HZwu3.out.cell (i := 1) rfl
          have q2 := HZwu3.out.cell (i := 2) rfl
          have g0 := HZwu3.out.frozen 0
          have g1 := HZwu3.out.frozen 1
          have g2 := HZwu3.out.frozen 2
          have H3 : Hid (Blk (((wu3.setCell ⟨wu2.heap.size, 0, none⟩ (.int .i64 x.t)).setCell ⟨wu2.heap.size, 1, none⟩ (.int .i64 x.i)).setCell ⟨wu2.heap.size, 2, none⟩ (.string x.k)) wu2.heap.size #[.int .i64 x.t, .int .i64 x.i, .string x.k] 36 ∧ Frm wu3 (((wu3.setCell ⟨wu2.heap.size, 0, none⟩ (.int .i64 x.t)).setCell ⟨wu2.heap.size, 1, none⟩ (.int .i64 x.i)).setCell ⟨wu2.heap.size, 2, none⟩ (.string x.k)) (fun k => k = wu2.heap.size)) := set3 HZwu3.out
          have HBs : Hid (Below w5.heap.size w5 (((wu3.setCell ⟨wu2.heap.size, 0, none⟩ (.int .i64 x.t)).setCell ⟨wu2.heap.size, 1, none⟩ (.int .i64 x.i)).setCell ⟨wu2.heap.size, 2, none⟩ (.string x.k))) := HBwu3.out.trans (H3.out.2.below HBwu3.out.size (fun k hk => by have := HLe.out; omega))
          refine wpL_one 9 rfl (by kernel_rfl) (by rfl) ?_
          intro K hK
          go_simp
          refine hK.out _ _ (fun _ => HBs.out) ?_
          clear hK K q0 q1 q2 g0 g1 g2
          generalize ((wu3.setCell ⟨wu2.heap.size, 0, none⟩ (.int .i64 x.t)).setCell ⟨wu2.heap.size, 1, none⟩ (.int .i64 x.i)).setCell ⟨wu2.heap.size, 2, none⟩ (.string x.k) = ws at *
          try simp only [Act.put, List.setIfInBounds_toArray, List.set_cons_zero, List.set_cons_succ]
          refine wpL_take (v := ?_) 10 rfl (by kernel_rfl) (fun _ _ _ h => h) (by rfl) ?_ HBs.out ?_
          rotate_left
          focus
            intro w9 hw9

            go_simp
            try with_reducible rfl
          try simp only [Act.put, List.setIfInBounds_toArray, List.set_cons_zero, List.set_cons_succ]
          refine wpL_done (by kernel_rfl) ?_ _
          try simp only [NoPanic]
          have HE : Hid (Below w.heap.size w ws) := HE5.out.trans (HBs.out.mono HE5.out.size)
          have hz := HKB5.out.on HBs.out
          have z0 := hz.cell (i := 0) rfl
          have z1 := hz.cell (i := 1) rfl
          have z2 := hz.cell (i := 2) rfl
          have z3 := hz.cell (i := 3) rfl
          have f0 := hz.frozen 0
          have f1 := hz.frozen 1
          have f2 := hz.frozen 2
          have f3 := hz.frozen 3
          have q0 := H3.out.1.cell (i := 0) rfl
          have q1 := H3.out.1.cell (i := 1) rfl
          have q2 := H3.out.1.cell (i := 2) rfl
          have HQ : Hid (WrQ a L fr (some (m, x))) := ⟨fun _ => HFx.out, fun h => absurd HCA.out h⟩
          have H4 : Hid (Blk ((((ws.setCell ⟨w.heap.size + 1, 0, none⟩ (.int .u64 (m : Nat))).setCell ⟨w.heap.size + 1, 1, none⟩ (.int .i64 x.t)).setCell ⟨w.heap.size + 1, 2, none⟩ (.int .i64 x.i)).setCell ⟨w.heap.size + 1, 3, none⟩ (.string x.k)) (w.heap.size + 1) #[(.int .u64 (m : Nat)), (.int .i64 x.t), (.int .i64 x.i), (.string x.k)] 38 ∧ Frm ws ((((ws.setCell ⟨w.heap.size + 1, 0, none⟩ (.int .u64 (m : Nat))).setCell ⟨w.heap.size + 1, 1, none⟩ (.int .i64 x.t)).setCell ⟨w.heap.size + 1, 2, none⟩ (.int .i64 x.i)).setCell ⟨w.heap.size + 1, 3, none⟩ (.string x.k)) (fun k => k = w.heap.size + 1)) := set4 hz
          have HE4 : Hid (Below w.heap.size w ((((ws.setCell ⟨w.heap.size + 1, 0, none⟩ (.int .u64 (m : Nat))).setCell ⟨w.heap.size + 1, 1, none⟩ (.int .i64 x.t)).setCell ⟨w.heap.size + 1, 2, none⟩ (.int .i64 x.i)).setCell ⟨w.heap.size + 1, 3, none⟩ (.string x.k))) := HE.out.trans (H4.out.2.below HE.out.size (fun k hk => by omega))
          clear hz
          go_wp2_with fail
          clear z0 z1 z2 z3 f0 f1 f2 f3 q0 q1 q2
          generalize (((ws.setCell ⟨w.heap.size + 1, 0, none⟩ (.int .u64 (m : Nat))).setCell ⟨w.heap.size + 1, 1, none⟩ (.int .i64 x.t)).setCell ⟨w.heap.size + 1, 2, none⟩ (.int .i64 x.i)).setCell ⟨w.heap.size + 1, 3, none⟩ (.string x.k) = wz at *
          have r0 := H4.out.1.cell (i := 0) rfl
          have r1 := H4.out.1.cell (i := 1) rfl
          have r2 := H4.out.1.cell (i := 2) rfl
          have r3 := H4.out.1.cell (i := 3) rfl
          refine bodyPost_ret (v := clV (some (m, x))) (by simp [clV, results, Tryz.results10, go_sem, r0, r1, r2, r3]) rfl ?_
          exact ⟨some (m, x), rfl, HQ.out, HE4.out⟩
        · intro K hK
          go_simp
          have hal : Below wu1.heap.size wu1 (wu1.alloc (.cells #[.int .i64 0, .int .i64 0, .string ⟨#[]⟩] 36)) := (Below.refl _ _).alloc (Nat.le_refl _) _
          have HZwu4 : Hid (Blk (wu1.alloc (.cells #[.int .i64 0, .int .i64 0, .string ⟨#[]⟩] 36)) wu1.heap.size #[.int .i64 0, .int .i64 0, .string ⟨#[]⟩] 36) := Blk.new wu1 _ _
          have HBwu4 : Hid (Below w5.heap.size w5 (wu1.alloc (.cells #[.int .i64 0, .int .i64 0, .string ⟨#[]⟩] 36))) := HBwu1.out.trans (hal.mono HBwu1.out.size)
          have HLe : Hid (w5.heap.size ≤ wu1.heap.size) := HBwu1.out.size
          clear hal
          generalize (wu1.alloc (.cells #[.int .i64 0, .int .i64 0, .string ⟨#[]⟩] 36)) = wu4 at *
          refine hK.out _ _ (fun _ => HBwu4.out) ?_
          clear hK K
          try simp only [Act.put, List.setIfInBounds_toArray, List.set_cons_zero, List.set_cons_succ]
          refine wpL_one 4 rfl (by kernel_rfl) (by rfl) ?_
          intro K hK
          go_simp
          refine (CQ.out wu4 HBwu4.out).mono ?_
          rintro e wu5 ⟨x, hx, rfl, hbwu5⟩
          have HFx : Hid (FstO L fr a.wrs (some (m, x))) := hx
          clear hx
          dsimp only
          have HBwu5 : Hid (Below w5.heap.size w5 wu5) := HBwu4.out.trans ((hbwu5).mono HBwu4.out.size)
          have HZwu5 : Hid (Blk wu5 wu1.heap.size #[.int .i64 0, .int .i64 0, .string ⟨#[]⟩] 36) := HZwu4.out.on (hbwu5)
          clear hbwu5
          refine hK.out _ _ (fun _ => HBwu5.out) ?_
          clear hK K
          try simp only [Act.put, List.setIfInBounds_toArray, List.set_cons_zero, List.set_cons_succ]
          refine wpL_take (v := ?_) 5 rfl (by kernel_rfl) (fun _ _ _ h => h) (by rfl) ?_ HBwu5.out ?_
          rotate_left
          focus
            intro w9 hw9

            go_simp
            try with_reducible rfl
          try simp only [Act.put, List.setIfInBounds_toArray, List.set_cons_zero, List.set_cons_succ]
          refine wpL_take (v := ?_) 6 rfl (by kernel_rfl) (fun _ _ _ h => h) (by rfl) ?_ HBwu5.out ?_
          rotate_left
          focus
            intro w9 hw9

            go_simp
            try with_reducible rfl
          try simp only [Act.put, List.setIfInBounds_toArray, List.set_cons_zero, List.set_cons_succ]
          refine wpL_take (v := ?_) 7 rfl (by kernel_rfl) (fun _ _ _ h => h) (by rfl) ?_ HBwu5.out ?_
          rotate_left
          focus
            intro w9 hw9

            go_simp
            try with_reducible rfl
          try simp only [Act.put, List.setIfInBounds_toArray, List.set_cons_zero, List.set_cons_succ]
          have q0 := HZwu5.out.cell (i := 0) rfl
          have q1 := HZwu5.out.cell (i := 1) rfl
          have q2 := HZwu5.out.cell (i := 2) rfl
          have g0 := HZwu5.out.frozen 0
          have g1 := HZwu5.out.frozen 1
          have g2 := HZwu5.out.frozen 2
          have H3 : Hid (Blk (((wu5.setCell ⟨wu1.heap.size, 0, none⟩ (.int .i64 x.t)).setCell ⟨wu1.heap.size, 1, none⟩ (.int .i64 x.i)).setCell ⟨wu1.heap.size, 2, none⟩ (.string x.k)) wu1.heap.size #[.int .i64 x.t, .int .i64 x.i, .string x.k] 36 ∧ Frm wu5 (((wu5.setCell ⟨wu1.heap.size, 0, none⟩ (.int .i64 x.t)).setCell ⟨wu1.heap.size, 1, none⟩ (.int .i64 x.i)).setCell ⟨wu1.heap.size, 2, none⟩ (.string x.k)) (fun k => k = wu1.heap.size)) := set3 HZwu5.out
          have HBs : Hid (Below w5.heap.size w5 (((wu5.setCell ⟨wu1.heap.size, 0, none⟩ (.int .i64 x.t)).setCell ⟨wu1.heap.size, 1, none⟩ (.int .i64 x.i)).setCell ⟨wu1.heap.size, 2, none⟩ (.string x.k))) := HBwu5.out.trans (H3.out.2.below HBwu5.out.size (fun k hk => by have := HLe.out; omega))
          refine wpL_one 9 rfl (by kernel_rfl) (by rfl) ?_
          intro K hK
          go_simp
          refine hK.out _ _ (fun _ => HBs.out) ?_
          clear hK K q0 q1 q2 g0 g1 g2
          generalize ((wu5.setCell ⟨wu1.heap.size, 0, none⟩ (.int .i64 x.t)).setCell ⟨wu1.heap.size, 1, none⟩ (.int .i64 x.i)).setCell ⟨wu1.heap.size, 2, none⟩ (.string x.k) = ws at *
          try simp only [Act.put, List.setIfInBounds_toArray, List.set_cons_zero, List.set_cons_succ]
          refine wpL_take (v := ?_) 10 rfl (by kernel_rfl) (fun _ _ _ h => h) (by rfl) ?_ HBs.out ?_
          rotate_left
          focus
            intro w9 hw9

            go_simp
            try with_reducible rfl
          try simp only [Act.put, List.setIfInBounds_toArray, List.set_cons_zero, List.set_cons_succ]
          refine wpL_done (by kernel_rfl) ?_ _
          try simp only [NoPanic]
          have HE : Hid (Below w.heap.size w ws) := HE5.out.trans (HBs.out.mono HE5.out.size)
          have hz := HKB5.out.on HBs.out
          have z0 := hz.cell (i := 0) rfl
          have z1 := hz.cell (i := 1) rfl
          have z2 := hz.cell (i := 2) rfl
          have z3 := hz.cell (i := 3) rfl
          have f0 := hz.frozen 0
          have f1 := hz.frozen 1
          have f2 := hz.frozen 2
          have f3 := hz.frozen 3
          have q0 := H3.out.1.cell (i := 0) rfl
          have q1 := H3.out.1.cell (i := 1) rfl
          have q2 := H3.out.1.cell (i := 2) rfl
          have HQ : Hid (WrQ a L fr (some (m, x))) := ⟨fun _ => HFx.out, fun h => absurd HCA.out h⟩
          have H4 : Hid (Blk ((((ws.setCell ⟨w.heap.size + 1, 0, none⟩ (.int .u64 (m : Nat))).setCell ⟨w.heap.size + 1, 1, none⟩ (.int .i64 x.t)).setCell ⟨w.heap.size + 1, 2, none⟩ (.int .i64 x.i)).setCell ⟨w.heap.size + 1, 3, none⟩ (.string x.k)) (w.heap.size + 1) #[(.int .u64 (m : Nat)), (.int .i64 x.t), (.int .i64 x.i), (.string x.k)] 38 ∧ Frm ws ((((ws.setCell ⟨w.heap.size + 1, 0, none⟩ (.int .u64 (m : Nat))).setCell ⟨w.heap.size + 1, 1, none⟩ (.int .i64 x.t)).setCell ⟨w.heap.size + 1, 2, none⟩ (.int .i64 x.i)).setCell ⟨w.heap.size + 1, 3, none⟩ (.string x.k)) (fun k => k = w.heap.size + 1)) := set4 hz
          have HE4 : Hid (Below w.heap.size w ((((ws.setCell ⟨w.heap.size + 1, 0, none⟩ (.int .u64 (m : Nat))).setCell ⟨w.heap.size + 1, 1, none⟩ (.int .i64 x.t)).setCell ⟨w.heap.size + 1, 2, none⟩ (.int .i64 x.i)).setCell ⟨w.heap.size + 1, 3, none⟩ (.string x.k))) := HE.out.trans (H4.out.2.below HE.out.size (fun k hk => by omega))
          clear hz
          go_wp2_with fail
          clear z0 z1 z2 z3 f0 f1 f2 f3 q0 q1 q2
          generalize (((ws.setCell ⟨w.heap.size + 1, 0, none⟩ (.int .u64 (m : Nat))).setCell ⟨w.heap.size + 1, 1, none⟩ (.int .i64 x.t)).setCell ⟨w.heap.size + 1, 2, none⟩ (.int .i64 x.i)).setCell ⟨w.heap.size + 1, 3, none⟩ (.string x.k) = wz at *
          have r0 := H4.out.1.cell (i := 0) rfl
          have r1 := H4.out.1.cell (i := 1) rfl
          have r2 := H4.out.1.cell (i := 2) rfl
          have r3 := H4.out.1.cell (i := 3) rfl
          refine bodyPost_ret (v := clV (some (m, x))) (by simp [clV, results, Tryz.results10, go_sem, r0, r1, r2, r3]) rfl ?_
          exact ⟨some (m, x), rfl, HQ.out, HE4.out⟩
      · intro K hK
        go_simp
        have hal : Below wd.heap.size wd (wd.alloc (.cells #[.int .i64 0, .int .i64 0, .string ⟨#[]⟩] 36)) := (Below.refl _ _).alloc (Nat.le_refl _) _
        have HZwu6 : Hid (Blk (wd.alloc (.cells #[.int .i64 0, .int .i64 0, .string ⟨#[]⟩] 36)) wd.heap.size #[.int .i64 0, .int .i64 0, .string ⟨#[]⟩] 36) := Blk.new wd _ _
        have HBwu6 : Hid (Below w5.heap.size w5 (wd.alloc (.cells #[.int .i64 0, .int .i64 0, .string ⟨#[]⟩] 36))) := HBwd.out.trans (hal.mono HBwd.out.size)
        have HLe : Hid (w5.heap.size ≤ wd.heap.size) := HBwd.out.size
        clear hal
        generalize (wd.alloc (.cells #[.int .i64 0, .int .i64 0, .string ⟨#[]⟩] 36)) = wu6 at *
        refine hK.out _ _ (fun _ => HBwu6.out) ?_
        clear hK K
        try simp only [Act.put, List.setIfInBounds_toArray, List.set_cons_zero, List.set_cons_succ]
        refine wpL_one 3 rfl (by kernel_rfl) (by rfl) ?_
        intro K hK
        go_simp
        refine (CA.out wu6 HBwu6.out).mono ?_
        rintro e wu7 ⟨rfl, hbwu7⟩
        dsimp only
        have HBwu7 : Hid (Below w5.heap.size w5 wu7) := HBwu6.out.trans ((hbwu7).mono HBwu6.out.size)
        have HZwu7 : Hid (Blk wu7 wd.heap.size #[.int .i64 0, .int .i64 0, .string ⟨#[]⟩] 36) := HZwu6.out.on (hbwu7)
        clear hbwu7
        refine hK.out _ _ (fun _ => HBwu7.out) ?_
        clear hK K
        try simp only [Act.put, List.setIfInBounds_toArray, List.set_cons_zero, List.set_cons_succ]
        refine wpL_one 4 rfl (by kernel_rfl) (by rfl) ?_
        intro K hK
        go_simp
        refine (CQ.out wu7 HBwu7.out).mono ?_
        rintro e wu8 ⟨x, hx, rfl, hbwu8⟩
        have HFx : Hid (FstO L fr a.wrs (some (m, x))) := hx
        clear hx
        dsimp only
        have HBwu8 : Hid (Below w5.heap.size w5 wu8) := HBwu7.out.trans ((hbwu8).mono HBwu7.out.size)
        have HZwu8 : Hid (Blk wu8 wd.heap.size #[.int .i64 0, .int .i64 0, .string ⟨#[]⟩] 36) := HZwu7.out.on (hbwu8)
        clear hbwu8
        refine hK.out _ _ (fun _ => HBwu8.out) ?_
        clear hK K
        try simp only [Act.put, List.setIfInBounds_toArray, List.set_cons_zero, List.set_cons_succ]
        refine wpL_take (v := ?_) 5 rfl (by kernel_rfl) (fun _ _ _ h => h) (by rfl) ?_ HBwu8.out ?_
        rotate_left
        focus
          intro w9 hw9

          go_simp
          try with_reducible rfl
        try simp only [Act.put, List.setIfInBounds_toArray, List.set_cons_zero, List.set_cons_succ]
        refine wpL_take (v := ?_) 6 rfl (by kernel_rfl) (fun _ _ _ h => h) (by rfl) ?_ HBwu8.out ?_
        rotate_left
        focus
          intro w9 hw9

          go_simp
          try with_reducible rfl
        try simp only [Act.put, List.setIfInBounds_toArray, List.set_cons_zero, List.set_cons_succ]
        refine wpL_take (v := ?_) 7 rfl (by kernel_rfl) (fun _ _ _ h => h) (by rfl) ?_ HBwu8.out ?_
        rotate_left
        focus
          intro w9 hw9

          go_simp
          try with_reducible rfl
        try simp only [Act.put, List.setIfInBounds_toArray, List.set_cons_zero, List.set_cons_succ]
        have q0 := HZwu8.out.cell (i := 0) rfl
        have q1 := HZwu8.out.cell (i := 1) rfl
        have q2 := HZwu8.out.cell (i := 2) rfl
        have g0 := HZwu8.out.frozen 0
        have g1 := HZwu8.out.frozen 1
        have g2 := HZwu8.out.frozen 2
        have H3 : Hid (Blk (((wu8.setCell ⟨wd.heap.size, 0, none⟩ (.int .i64 x.t)).setCell ⟨wd.heap.size, 1, none⟩ (.int .i64 x.i)).setCell ⟨wd.heap.size, 2, none⟩ (.string x.k)) wd.heap.size #[.int .i64 x.t, .int .i64 x.i, .string x.k] 36 ∧ Frm wu8 (((wu8.setCell ⟨wd.heap.size, 0, none⟩ (.int .i64 x.t)).setCell ⟨wd.heap.size, 1, none⟩ (.int .i64 x.i)).setCell ⟨wd.heap.size, 2, none⟩ (.string x.k)) (fun k => k = wd.heap.size)) := set3 HZwu8.out
        have HBs : Hid (Below w5.heap.size w5 (((wu8.setCell ⟨wd.heap.size, 0, none⟩ (.int .i64 x.t)).setCell ⟨wd.heap.size, 1, none⟩ (.int .i64 x.i)).setCell ⟨wd.heap.size, 2, none⟩ (.string x.k))) := HBwu8.out.trans (H3.out.2.below HBwu8.out.size (fun k hk => by have := HLe.out; omega))
        refine wpL_one 9 rfl (by kernel_rfl) (by rfl) ?_
        intro K hK
        go_simp
        refine hK.out _ _ (fun _ => HBs.out) ?_
        clear hK K q0 q1 q2 g0 g1 g2
        generalize ((wu8.setCell ⟨wd.heap.size, 0, none⟩ (.int .i64 x.t)).setCell ⟨wd.heap.size, 1, none⟩ (.int .i64 x.i)).setCell ⟨wd.heap.size, 2, none⟩ (.string x.k) = ws at *
        try simp only [Act.put, List.setIfInBounds_toArray, List.set_cons_zero, List.set_cons_succ]
        refine wpL_take (v := ?_) 10 rfl (by kernel_rfl) (fun _ _ _ h => h) (by rfl) ?_ HBs.out ?_
        rotate_left
        focus
          intro w9 hw9

          go_simp
          try with_reducible rfl
        try simp only [Act.put, List.setIfInBounds_toArray, List.set_cons_zero, List.set_cons_succ]
        refine wpL_done (by kernel_rfl) ?_ _
        try simp only [NoPanic]
        have HE : Hid (Below w.heap.size w ws) := HE5.out.trans (HBs.out.mono HE5.out.size)
        have hz := HKB5.out.on HBs.out
        have z0 := hz.cell (i := 0) rfl
        have z1 := hz.cell (i := 1) rfl
        have z2 := hz.cell (i := 2) rfl
        have z3 := hz.cell (i := 3) rfl
        have f0 := hz.frozen 0
        have f1 := hz.frozen 1
        have f2 := hz.frozen 2
        have f3 := hz.frozen 3
        have q0 := H3.out.1.cell (i := 0) rfl
        have q1 := H3.out.1.cell (i := 1) rfl
        have q2 := H3.out.1.cell (i := 2) rfl
        have HQ : Hid (WrQ a L fr (some (m, x))) := ⟨fun _ => HFx.out, fun h => absurd HCA.out h⟩
        have H4 : Hid (Blk ((((ws.setCell ⟨w.heap.size + 1, 0, none⟩ (.int .u64 (m : Nat))).setCell ⟨w.heap.size + 1, 1, none⟩ (.int .i64 x.t)).setCell ⟨w.heap.size + 1, 2, none⟩ (.int .i64 x.i)).setCell ⟨w.heap.size + 1, 3, none⟩ (.string x.k)) (w.heap.size + 1) #[(.int .u64 (m : Nat)), (.int .i64 x.t), (.int .i64 x.i), (.string x.k)] 38 ∧ Frm ws ((((ws.setCell ⟨w.heap.size + 1, 0, none⟩ (.int .u64 (m : Nat))).setCell ⟨w.heap.size + 1, 1, none⟩ (.int .i64 x.t)).setCell ⟨w.heap.size + 1, 2, none⟩ (.int .i64 x.i)).setCell ⟨w.heap.size + 1, 3, none⟩ (.string x.k)) (fun k => k = w.heap.size + 1)) := set4 hz
        have HE4 : Hid (Below w.heap.size w ((((ws.setCell ⟨w.heap.size + 1, 0, none⟩ (.int .u64 (m : Nat))).setCell ⟨w.heap.size + 1, 1, none⟩ (.int .i64 x.t)).setCell ⟨w.heap.size + 1, 2, none⟩ (.int .i64 x.i)).setCell ⟨w.heap.size + 1, 3, none⟩ (.string x.k))) := HE.out.trans (H4.out.2.below HE.out.size (fun k hk => by omega))
        clear hz
        go_wp2_with fail
        clear z0 z1 z2 z3 f0 f1 f2 f3 q0 q1 q2
        generalize (((ws.setCell ⟨w.heap.size + 1, 0, none⟩ (.int .u64 (m : Nat))).setCell ⟨w.heap.size + 1, 1, none⟩ (.int .i64 x.t)).setCell ⟨w.heap.size + 1, 2, none⟩ (.int .i64 x.i)).setCell ⟨w.heap.size + 1, 3, none⟩ (.string x.k) = wz at *
        have r0 := H4.out.1.cell (i := 0) rfl
        have r1 := H4.out.1.cell (i := 1) rfl
        have r2 := H4.out.1.cell (i := 2) rfl
        have r3 := H4.out.1.cell (i := 3) rfl
        refine bodyPost_ret (v := clV (some (m, x))) (by simp [clV, results, Tryz.results10, go_sem, r0, r1, r2, r3]) rfl ?_
        exact ⟨some (m, x), rfl, HQ.out, HE4.out⟩
  · have HQ : Hid (WrQ a L fr none) := ⟨fun h => absurd h hca, fun _ => rfl⟩
    go_enter Tryz.func10, Tryz.ntmps10
    go_wp2_with fail
    refine CG.out.mono ?_
    rintro e w3 ⟨rfl, hw3⟩
    obtain rfl := hw3.symm
    clear CG
    go_wp2_with fail
    refine CC.out.mono ?_
    rintro e w3 ⟨rfl, hb3⟩
    clear CC k0 k1 k2 hw2
    have hz := HKB.out.on hb3
    have z0 := hz.cell (i := 0) rfl
    have z1 := hz.cell (i := 1) rfl
    have z2 := hz.cell (i := 2) rfl
    have z3 := hz.cell (i := 3) rfl
    have f0 := hz.frozen 0
    have f1 := hz.frozen 1
    have f2 := hz.frozen 2
    have f3 := hz.frozen 3
    have HE : Hid (Below w.heap.size w w3) := HB2.out.trans (hb3.mono HB2.out.size)
    have H4 : Hid (Blk ((((w3.setCell ⟨w.heap.size + 1, 0, none⟩ (.int .u64 0)).setCell ⟨w.heap.size + 1, 1, none⟩ (.int .i64 0)).setCell ⟨w.heap.size + 1, 2, none⟩ (.int .i64 0)).setCell ⟨w.heap.size + 1, 3, none⟩ (.string ⟨#[]⟩)) (w.heap.size + 1) #[(.int .u64 0), (.int .i64 0), (.int .i64 0), (.string ⟨#[]⟩)] 38 ∧ Frm w3 ((((w3.setCell ⟨w.heap.size + 1, 0, none⟩ (.int .u64 0)).setCell ⟨w.heap.size + 1, 1, none⟩ (.int .i64 0)).setCell ⟨w.heap.size + 1, 2, none⟩ (.int .i64 0)).setCell ⟨w.heap.size + 1, 3, none⟩ (.string ⟨#[]⟩)) (fun k => k = w.heap.size + 1)) := set4 hz
    have HE4 : Hid (Below w.heap.size w ((((w3.setCell ⟨w.heap.size + 1, 0, none⟩ (.int .u64 0)).setCell ⟨w.heap.size + 1, 1, none⟩ (.int .i64 0)).setCell ⟨w.heap.size + 1, 2, none⟩ (.int .i64 0)).setCell ⟨w.heap.size + 1, 3, none⟩ (.string ⟨#[]⟩))) := HE.out.trans (H4.out.2.below HE.out.size (fun k hk => by omega))
    clear hz hb3 HB2 HKA HKB HX2 HA2
    go_wp2_with fail
    clear z0 z1 z2 z3 f0 f1 f2 f3
    generalize (((w3.setCell ⟨w.heap.size + 1, 0, none⟩ (.int .u64 0)).setCell ⟨w.heap.size + 1, 1, none⟩ (.int .i64 0)).setCell ⟨w.heap.size + 1, 2, none⟩ (.int .i64 0)).setCell ⟨w.heap.size + 1, 3, none⟩ (.string ⟨#[]⟩) = wz at *
    have r0 := H4.out.1.cell (i := 0) rfl
    have r1 := H4.out.1.cell (i := 1) rfl
    have r2 := H4.out.1.cell (i := 2) rfl
    have r3 := H4.out.1.cell (i := 3) rfl
    refine bodyPost_ret (v := clV none) (by simp [clV, results, Tryz.results10, go_sem, r0, r1, r2, r3]) rfl ?_
    exact ⟨none, rfl, HQ.out, HE4.out⟩

end Go.Proofs.YtcknhjabdjbjiabGreat

namespace Go.Proofs.YtcknhjabdjbjiabGreat
open Go.RowKit
set_option maxRecDepth 100000

/-- a clash -/
def clA : Option (Nat × Pt) → Value
  | none => .agg #[.int .u64 0, .int .i64 0, .int .i64 0, .string ⟨#[]⟩]
  | some q => .agg #[.int .u64 (q.1 : Nat), .int .i64 q.2.t, .int .i64 q.2.i, .string q.2.k]
/-- what Try tells -/
def TryQ (a : Ft) (fr : Nat) (lv : Int) (L : List Cm) (q : Option (Nat × Pt)) (er : Int) : Prop :=
  (chkF a ≠ 0 ∧ q = none ∧ er = chkF a) ∨ (chkF a = 0 ∧ (lv < 1 ∨ 3 < lv) ∧ q = none ∧ er = 200) ∨ (chkF a = 0 ∧ (lv = 2 ∨ lv = 3) ∧ (∃ p, q = some p) ∧ FstO L fr a.wrs q ∧ er = 112) ∨
  (chkF a = 0 ∧ lv = 3 ∧ FstO L fr a.wrs none ∧ (∃ p, q = some p) ∧ FstO L fr a.rds q ∧ er = 205) ∨
  (chkF a = 0 ∧ (lv = 1 ∨ lv = 2 ∨ lv = 3) ∧ (lv = 2 ∨ lv = 3 → FstO L fr a.wrs none) ∧ (lv = 3 → FstO L fr a.rds none) ∧ q = none ∧ er = 0)
set_option maxHeartbeats 8000000 in
theorem try_any (a : Ft) (va0 va1 va2 : Value) (lb fr : Nat) (lv : Int) (vC : Value) (mb : Nat) (E : List (Pt × Value)) (L : List Cm) (w : World) (hX : LogX w lb vC mb E L) (ha : RdF w va0 va1 va2 a) (hfr : fr < 18446744073709551616) :
    Calls Tryz.prog 7 #[ptr1 lb, .agg #[.int .u64 (fr : Nat), va0, va1, va2, .int .i64 lv]] w fun e w' => ∃ q er, e = .returned (.tuple #[clA q, .int .i64 er]) ∧ TryQ a fr lv L q er ∧ Below w.heap.size w w' := by
  obtain ⟨p0, c0, e0, -⟩ := ha.p.f
  obtain ⟨p1, c1, e1, -⟩ := ha.s.f
  obtain ⟨p2, c2, e2, -⟩ := ha.w.f
  obtain ⟨n0, hn0⟩ : ∃ n, a.P.length = n := ⟨_, rfl⟩
  obtain ⟨n1, hn1⟩ : ∃ n, a.S.length = n := ⟨_, rfl⟩
  obtain ⟨n2, hn2⟩ : ∃ n, a.W.length = n := ⟨_, rfl⟩
  rw [hn0] at e0
  rw [hn1] at e1
  rw [hn2] at e2
  subst e0 e1 e2
  clear hn0 hn1 hn2
  have HFr : Hid (fr < 18446744073709551616) := hfr
  clear hfr
  by_cases hca : chkF a = 0
  · by_cases h1 : lv < 1
    · have HT : Hid (TryQ a fr lv L none 200) := .inr (.inl ⟨hca, .inl h1, rfl, rfl⟩)
      obtain ⟨w2, hw2⟩ : ∃ w2, ((w.alloc (.cells #[.int .u64 (fr : Nat), .slice p0 n0 c0, .slice p1 n1 c1, .slice p2 n2 c2, .int .i64 lv] 29)).alloc (.cells #[.int .u64 0, .int .i64 0, .int .i64 0, .string ⟨#[]⟩] 38)) = w2 := ⟨_, rfl⟩
      have HB2 : Hid (Below w.heap.size w w2) := by rw [← hw2]; exact ((Below.refl _ _).alloc (Nat.le_refl _) _).alloc (by simp) _
      have HKA : Hid (Blk w2 w.heap.size #[.int .u64 (fr : Nat), .slice p0 n0 c0, .slice p1 n1 c1, .slice p2 n2 c2, .int .i64 lv] 29) := by rw [← hw2]; exact (Blk.new w _ _).keep (B := w.heap.size + 1) ((Below.refl _ _).alloc (by simp) _) (by omega)
      have HKB : Hid (Blk w2 (w.heap.size + 1) #[.int .u64 0, .int .i64 0, .int .i64 0, .string ⟨#[]⟩] 38) := by
        rw [← hw2]
        have h := Blk.new (w.alloc (.cells #[.int .u64 (fr : Nat), .slice p0 n0 c0, .slice p1 n1 c1, .slice p2 n2 c2, .int .i64 lv] 29)) #[.int .u64 0, .int .i64 0, .int .i64 0, .string ⟨#[]⟩] 38
        rw [World.size_alloc] at h
        exact h
      have HX2 : Hid (LogX w2 lb vC mb E L) := hX.on HB2.out
      have HA2 : Hid (RdF w2 _ _ _ a) := ha.on HB2.out
      have CG : Hid (Calls _ _ _ _ _) := given_any lb _ _ w2 HX2.out.blk
      have CC : Hid (Calls _ _ _ _ _) := check_any a _ _ _ w2 HA2.out
      have k1 := HKA.out.cell (i := 1) rfl
      have k2 := HKA.out.cell (i := 2) rfl
      have k3 := HKA.out.cell (i := 3) rfl
      clear hX ha
      have HCA : Hid (chkF a = 0) := hca
      rw [hca] at CC
      clear hca
      go_enter Tryz.func7, Tryz.ntmps7
      go_wp2_with fail
      refine CG.out.mono ?_
      rintro e w3 ⟨rfl, hw3⟩
      obtain rfl := hw3.symm
      clear CG
      go_wp2_with fail
      refine CC.out.mono ?_
      rintro e w3 ⟨rfl, hb3⟩
      clear CC k1 k2 k3 hw2
      have HB3 : Hid (Below w.heap.size w w3) := HB2.out.trans (hb3.mono HB2.out.size)
      have HX3 : Hid (LogX w3 lb vC mb E L) := HX2.out.on hb3
      have HA3 : Hid (RdF w3 _ _ _ a) := HA2.out.on hb3
      have HA : Hid (Blk w3 w.heap.size #[.int .u64 (fr : Nat), .slice p0 n0 c0, .slice p1 n1 c1, .slice p2 n2 c2, .int .i64 lv] 29) := HKA.out.on hb3
      have HZ : Hid (Blk w3 (w.heap.size + 1) #[.int .u64 0, .int .i64 0, .int .i64 0, .string ⟨#[]⟩] 38) := HKB.out.on hb3
      clear hb3 HB2 HX2 HA2 HKA HKB
      have z0 := HZ.out.cell (i := 0) rfl
      have z1 := HZ.out.cell (i := 1) rfl
      have z2 := HZ.out.cell (i := 2) rfl
      have z3 := HZ.out.cell (i := 3) rfl
      have f0 := HZ.out.frozen 0
      have f1 := HZ.out.frozen 1
      have f2 := HZ.out.frozen 2
      have f3 := HZ.out.frozen 3
      have l4 := HA.out.cell (i := 4) rfl
      have H4 : Hid (Blk ((((w3.setCell ⟨w.heap.size + 1, 0, none⟩ (.int .u64 0)).setCell ⟨w.heap.size + 1, 1, none⟩ (.int .i64 0)).setCell ⟨w.heap.size + 1, 2, none⟩ (.int .i64 0)).setCell ⟨w.heap.size + 1, 3, none⟩ (.string ⟨#[]⟩)) (w.heap.size + 1) #[(.int .u64 0), (.int .i64 0), (.int .i64 0), (.string ⟨#[]⟩)] 38 ∧ Frm w3 ((((w3.setCell ⟨w.heap.size + 1, 0, none⟩ (.int .u64 0)).setCell ⟨w.heap.size + 1, 1, none⟩ (.int .i64 0)).setCell ⟨w.heap.size + 1, 2, none⟩ (.int .i64 0)).setCell ⟨w.heap.size + 1, 3, none⟩ (.string ⟨#[]⟩)) (fun k => k = w.heap.size + 1)) := set4 HZ.out
      have HE4 : Hid (Below w.heap.size w ((((w3.setCell ⟨w.heap.size + 1, 0, none⟩ (.int .u64 0)).setCell ⟨w.heap.size + 1, 1, none⟩ (.int .i64 0)).setCell ⟨w.heap.size + 1, 2, none⟩ (.int .i64 0)).setCell ⟨w.heap.size + 1, 3, none⟩ (.string ⟨#[]⟩))) := HB3.out.trans (H4.out.2.below HB3.out.size (fun k hk => by omega))
      go_wp2_with fail
      clear z0 z1 z2 z3 f0 f1 f2 f3 l4
      generalize (((w3.setCell ⟨w.heap.size + 1, 0, none⟩ (.int .u64 0)).setCell ⟨w.heap.size + 1, 1, none⟩ (.int .i64 0)).setCell ⟨w.heap.size + 1, 2, none⟩ (.int .i64 0)).setCell ⟨w.heap.size + 1, 3, none⟩ (.string ⟨#[]⟩) = wz at *
      have r0 := H4.out.1.cell (i := 0) rfl
      have r1 := H4.out.1.cell (i := 1) rfl
      have r2 := H4.out.1.cell (i := 2) rfl
      have r3 := H4.out.1.cell (i := 3) rfl
      refine bodyPost_ret (v := .tuple #[clA (none), .int .i64 (200)]) (by simp [clA, results, Tryz.results7, go_sem, r0, r1, r2, r3]) rfl ?_
      exact ⟨_, _, rfl, HT.out, HE4.out⟩
    · by_cases h2 : 3 < lv
      · have HT : Hid (TryQ a fr lv L none 200) := .inr (.inl ⟨hca, .inr h2, rfl, rfl⟩)
        obtain ⟨w2, hw2⟩ : ∃ w2, ((w.alloc (.cells #[.int .u64 (fr : Nat), .slice p0 n0 c0, .slice p1 n1 c1, .slice p2 n2 c2, .int .i64 lv] 29)).alloc (.cells #[.int .u64 0, .int .i64 0, .int .i64 0, .string ⟨#[]⟩] 38)) = w2 := ⟨_, rfl⟩
        have HB2 : Hid (Below w.heap.size w w2) := by rw [← hw2]; exact ((Below.refl _ _).alloc (Nat.le_refl _) _).alloc (by simp) _
        have HKA : Hid (Blk w2 w.heap.size #[.int .u64 (fr : Nat), .slice p0 n0 c0, .slice p1 n1 c1, .slice p2 n2 c2, .int .i64 lv] 29) := by rw [← hw2]; exact (Blk.new w _ _).keep (B := w.heap.size + 1) ((Below.refl _ _).alloc (by simp) _) (by omega)
        have HKB : Hid (Blk w2 (w.heap.size + 1) #[.int .u64 0, .int .i64 0, .int .i64 0, .string ⟨#[]⟩] 38) := by
          rw [← hw2]
          have h := Blk.new (w.alloc (.cells #[.int .u64 (fr : Nat), .slice p0 n0 c0, .slice p1 n1 c1, .slice p2 n2 c2, .int .i64 lv] 29)) #[.int .u64 0, .int .i64 0, .int .i64 0, .string ⟨#[]⟩] 38
          rw [World.size_alloc] at h
          exact h
        have HX2 : Hid (LogX w2 lb vC mb E L) := hX.on HB2.out
        have HA2 : Hid (RdF w2 _ _ _ a) := ha.on HB2.out
        have CG : Hid (Calls _ _ _ _ _) := given_any lb _ _ w2 HX2.out.blk
        have CC : Hid (Calls _ _ _ _ _) := check_any a _ _ _ w2 HA2.out
        have k1 := HKA.out.cell (i := 1) rfl
        have k2 := HKA.out.cell (i := 2) rfl
        have k3 := HKA.out.cell (i := 3) rfl
        clear hX ha
        have HCA : Hid (chkF a = 0) := hca
        rw [hca] at CC
        clear hca
        go_enter Tryz.func7, Tryz.ntmps7
        go_wp2_with fail
        refine CG.out.mono ?_
        rintro e w3 ⟨rfl, hw3⟩
        obtain rfl := hw3.symm
        clear CG
        go_wp2_with fail
        refine CC.out.mono ?_
        rintro e w3 ⟨rfl, hb3⟩
        clear CC k1 k2 k3 hw2
        have HB3 : Hid (Below w.heap.size w w3) := HB2.out.trans (hb3.mono HB2.out.size)
        have HX3 : Hid (LogX w3 lb vC mb E L) := HX2.out.on hb3
        have HA3 : Hid (RdF w3 _ _ _ a) := HA2.out.on hb3
        have HA : Hid (Blk w3 w.heap.size #[.int .u64 (fr : Nat), .slice p0 n0 c0, .slice p1 n1 c1, .slice p2 n2 c2, .int .i64 lv] 29) := HKA.out.on hb3
        have HZ : Hid (Blk w3 (w.heap.size + 1) #[.int .u64 0, .int .i64 0, .int .i64 0, .string ⟨#[]⟩] 38) := HKB.out.on hb3
        clear hb3 HB2 HX2 HA2 HKA HKB
        have z0 := HZ.out.cell (i := 0) rfl
        have z1 := HZ.out.cell (i := 1) rfl
        have z2 := HZ.out.cell (i := 2) rfl
        have z3 := HZ.out.cell (i := 3) rfl
        have f0 := HZ.out.frozen 0
        have f1 := HZ.out.frozen 1
        have f2 := HZ.out.frozen 2
        have f3 := HZ.out.frozen 3
        have l4 := HA.out.cell (i := 4) rfl
        have H4 : Hid (Blk ((((w3.setCell ⟨w.heap.size + 1, 0, none⟩ (.int .u64 0)).setCell ⟨w.heap.size + 1, 1, none⟩ (.int .i64 0)).setCell ⟨w.heap.size + 1, 2, none⟩ (.int .i64 0)).setCell ⟨w.heap.size + 1, 3, none⟩ (.string ⟨#[]⟩)) (w.heap.size + 1) #[(.int .u64 0), (.int .i64 0), (.int .i64 0), (.string ⟨#[]⟩)] 38 ∧ Frm w3 ((((w3.setCell ⟨w.heap.size + 1, 0, none⟩ (.int .u64 0)).setCell ⟨w.heap.size + 1, 1, none⟩ (.int .i64 0)).setCell ⟨w.heap.size + 1, 2, none⟩ (.int .i64 0)).setCell ⟨w.heap.size + 1, 3, none⟩ (.string ⟨#[]⟩)) (fun k => k = w.heap.size + 1)) := set4 HZ.out
        have HE4 : Hid (Below w.heap.size w ((((w3.setCell ⟨w.heap.size + 1, 0, none⟩ (.int .u64 0)).setCell ⟨w.heap.size + 1, 1, none⟩ (.int .i64 0)).setCell ⟨w.heap.size + 1, 2, none⟩ (.int .i64 0)).setCell ⟨w.heap.size + 1, 3, none⟩ (.string ⟨#[]⟩))) := HB3.out.trans (H4.out.2.below HB3.out.size (fun k hk => by omega))
        go_wp2_with fail
        clear z0 z1 z2 z3 f0 f1 f2 f3 l4
        generalize (((w3.setCell ⟨w.heap.size + 1, 0, none⟩ (.int .u64 0)).setCell ⟨w.heap.size + 1, 1, none⟩ (.int .i64 0)).setCell ⟨w.heap.size + 1, 2, none⟩ (.int .i64 0)).setCell ⟨w.heap.size + 1, 3, none⟩ (.string ⟨#[]⟩) = wz at *
        have r0 := H4.out.1.cell (i := 0) rfl
        have r1 := H4.out.1.cell (i := 1) rfl
        have r2 := H4.out.1.cell (i := 2) rfl
        have r3 := H4.out.1.cell (i := 3) rfl
        refine bodyPost_ret (v := .tuple #[clA (none), .int .i64 (200)]) (by simp [clA, results, Tryz.results7, go_sem, r0, r1, r2, r3]) rfl ?_
        exact ⟨_, _, rfl, HT.out, HE4.out⟩
      · have h3 : lv = 1 ∨ lv = 2 ∨ lv = 3 := by omega
        clear h1 h2
        rcases h3 with rfl | rfl | rfl
        · skip
          obtain ⟨w2, hw2⟩ : ∃ w2, ((w.alloc (.cells #[.int .u64 (fr : Nat), .slice p0 n0 c0, .slice p1 n1 c1, .slice p2 n2 c2, .int .i64 1] 29)).alloc (.cells #[.int .u64 0, .int .i64 0, .int .i64 0, .string ⟨#[]⟩] 38)) = w2 := ⟨_, rfl⟩
          have HB2 : Hid (Below w.heap.size w w2) := by rw [← hw2]; exact ((Below.refl _ _).alloc (Nat.le_refl _) _).alloc (by simp) _
          have HKA : Hid (Blk w2 w.heap.size #[.int .u64 (fr : Nat), .slice p0 n0 c0, .slice p1 n1 c1, .slice p2 n2 c2, .int .i64 1] 29) := by rw [← hw2]; exact (Blk.new w _ _).keep (B := w.heap.size + 1) ((Below.refl _ _).alloc (by simp) _) (by omega)
          have HKB : Hid (Blk w2 (w.heap.size + 1) #[.int .u64 0, .int .i64 0, .int .i64 0, .string ⟨#[]⟩] 38) := by
            rw [← hw2]
            have h := Blk.new (w.alloc (.cells #[.int .u64 (fr : Nat), .slice p0 n0 c0, .slice p1 n1 c1, .slice p2 n2 c2, .int .i64 1] 29)) #[.int .u64 0, .int .i64 0, .int .i64 0, .string ⟨#[]⟩] 38
            rw [World.size_alloc] at h
            exact h
          have HX2 : Hid (LogX w2 lb vC mb E L) := hX.on HB2.out
          have HA2 : Hid (RdF w2 _ _ _ a) := ha.on HB2.out
          have CG : Hid (Calls _ _ _ _ _) := given_any lb _ _ w2 HX2.out.blk
          have CC : Hid (Calls _ _ _ _ _) := check_any a _ _ _ w2 HA2.out
          have k1 := HKA.out.cell (i := 1) rfl
          have k2 := HKA.out.cell (i := 2) rfl
          have k3 := HKA.out.cell (i := 3) rfl
          clear hX ha
          have HCA : Hid (chkF a = 0) := hca
          rw [hca] at CC
          clear hca
          go_enter Tryz.func7, Tryz.ntmps7
          go_wp2_with fail
          refine CG.out.mono ?_
          rintro e w3 ⟨rfl, hw3⟩
          obtain rfl := hw3.symm
          clear CG
          go_wp2_with fail
          refine CC.out.mono ?_
          rintro e w3 ⟨rfl, hb3⟩
          clear CC k1 k2 k3 hw2
          have HB3 : Hid (Below w.heap.size w w3) := HB2.out.trans (hb3.mono HB2.out.size)
          have HX3 : Hid (LogX w3 lb vC mb E L) := HX2.out.on hb3
          have HA3 : Hid (RdF w3 _ _ _ a) := HA2.out.on hb3
          have HA : Hid (Blk w3 w.heap.size #[.int .u64 (fr : Nat), .slice p0 n0 c0, .slice p1 n1 c1, .slice p2 n2 c2, .int .i64 1] 29) := HKA.out.on hb3
          have HZ : Hid (Blk w3 (w.heap.size + 1) #[.int .u64 0, .int .i64 0, .int .i64 0, .string ⟨#[]⟩] 38) := HKB.out.on hb3
          clear hb3 HB2 HX2 HA2 HKA HKB
          have HT : Hid (TryQ a fr 1 L none 0) := .inr (.inr (.inr (.inr ⟨HCA.out, .inl rfl, fun h => absurd h (by decide), fun h => absurd h (by decide), rfl, rfl⟩)))
          have z0 := HZ.out.cell (i := 0) rfl
          have z1 := HZ.out.cell (i := 1) rfl
          have z2 := HZ.out.cell (i := 2) rfl
          have z3 := HZ.out.cell (i := 3) rfl
          have f0 := HZ.out.frozen 0
          have f1 := HZ.out.frozen 1
          have f2 := HZ.out.frozen 2
          have f3 := HZ.out.frozen 3
          have l4 := HA.out.cell (i := 4) rfl
          have H4 : Hid (Blk ((((w3.setCell ⟨w.heap.size + 1, 0, none⟩ (.int .u64 0)).setCell ⟨w.heap.size + 1, 1, none⟩ (.int .i64 0)).setCell ⟨w.heap.size + 1, 2, none⟩ (.int .i64 0)).setCell ⟨w.heap.size + 1, 3, none⟩ (.string ⟨#[]⟩)) (w.heap.size + 1) #[(.int .u64 0), (.int .i64 0), (.int .i64 0), (.string ⟨#[]⟩)] 38 ∧ Frm w3 ((((w3.setCell ⟨w.heap.size + 1, 0, none⟩ (.int .u64 0)).setCell ⟨w.heap.size + 1, 1, none⟩ (.int .i64 0)).setCell ⟨w.heap.size + 1, 2, none⟩ (.int .i64 0)).setCell ⟨w.heap.size + 1, 3, none⟩ (.string ⟨#[]⟩)) (fun k => k = w.heap.size + 1)) := set4 HZ.out
          have HE4 : Hid (Below w.heap.size w ((((w3.setCell ⟨w.heap.size + 1, 0, none⟩ (.int .u64 0)).setCell ⟨w.heap.size + 1, 1, none⟩ (.int .i64 0)).setCell ⟨w.heap.size + 1, 2, none⟩ (.int .i64 0)).setCell ⟨w.heap.size + 1, 3, none⟩ (.string ⟨#[]⟩))) := HB3.out.trans (H4.out.2.below HB3.out.size (fun k hk => by omega))
          go_wp2_with fail
          clear z0 z1 z2 z3 f0 f1 f2 f3 l4
          generalize (((w3.setCell ⟨w.heap.size + 1, 0, none⟩ (.int .u64 0)).setCell ⟨w.heap.size + 1, 1, none⟩ (.int .i64 0)).setCell ⟨w.heap.size + 1, 2, none⟩ (.int .i64 0)).setCell ⟨w.heap.size + 1, 3, none⟩ (.string ⟨#[]⟩) = wz at *
          have r0 := H4.out.1.cell (i := 0) rfl
          have r1 := H4.out.1.cell (i := 1) rfl
          have r2 := H4.out.1.cell (i := 2) rfl
          have r3 := H4.out.1.cell (i := 3) rfl
          refine bodyPost_ret (v := .tuple #[clA (none), .int .i64 (0)]) (by simp [clA, results, Tryz.results7, go_sem, r0, r1, r2, r3]) rfl ?_
          exact ⟨_, _, rfl, HT.out, HE4.out⟩
        · skip
          obtain ⟨w2, hw2⟩ : ∃ w2, ((w.alloc (.cells #[.int .u64 (fr : Nat), .slice p0 n0 c0, .slice p1 n1 c1, .slice p2 n2 c2, .int .i64 2] 29)).alloc (.cells #[.int .u64 0, .int .i64 0, .int .i64 0, .string ⟨#[]⟩] 38)) = w2 := ⟨_, rfl⟩
          have HB2 : Hid (Below w.heap.size w w2) := by rw [← hw2]; exact ((Below.refl _ _).alloc (Nat.le_refl _) _).alloc (by simp) _
          have HKA : Hid (Blk w2 w.heap.size #[.int .u64 (fr : Nat), .slice p0 n0 c0, .slice p1 n1 c1, .slice p2 n2 c2, .int .i64 2] 29) := by rw [← hw2]; exact (Blk.new w _ _).keep (B := w.heap.size + 1) ((Below.refl _ _).alloc (by simp) _) (by omega)
          have HKB : Hid (Blk w2 (w.heap.size + 1) #[.int .u64 0, .int .i64 0, .int .i64 0, .string ⟨#[]⟩] 38) := by
            rw [← hw2]
            have h := Blk.new (w.alloc (.cells #[.int .u64 (fr : Nat), .slice p0 n0 c0, .slice p1 n1 c1, .slice p2 n2 c2, .int .i64 2] 29)) #[.int .u64 0, .int .i64 0, .int .i64 0, .string ⟨#[]⟩] 38
            rw [World.size_alloc] at h
            exact h
          have HX2 : Hid (LogX w2 lb vC mb E L) := hX.on HB2.out
          have HA2 : Hid (RdF w2 _ _ _ a) := ha.on HB2.out
          have CG : Hid (Calls _ _ _ _ _) := given_any lb _ _ w2 HX2.out.blk
          have CC : Hid (Calls _ _ _ _ _) := check_any a _ _ _ w2 HA2.out
          have k1 := HKA.out.cell (i := 1) rfl
          have k2 := HKA.out.cell (i := 2) rfl
          have k3 := HKA.out.cell (i := 3) rfl
          clear hX ha
          have HCA : Hid (chkF a = 0) := hca
          rw [hca] at CC
          clear hca
          go_enter Tryz.func7, Tryz.ntmps7
          go_wp2_with fail
          refine CG.out.mono ?_
          rintro e w3 ⟨rfl, hw3⟩
          obtain rfl := hw3.symm
          clear CG
          go_wp2_with fail
          refine CC.out.mono ?_
          rintro e w3 ⟨rfl, hb3⟩
          clear CC k1 k2 k3 hw2
          have HB3 : Hid (Below w.heap.size w w3) := HB2.out.trans (hb3.mono HB2.out.size)
          have HX3 : Hid (LogX w3 lb vC mb E L) := HX2.out.on hb3
          have HA3 : Hid (RdF w3 _ _ _ a) := HA2.out.on hb3
          have HA : Hid (Blk w3 w.heap.size #[.int .u64 (fr : Nat), .slice p0 n0 c0, .slice p1 n1 c1, .slice p2 n2 c2, .int .i64 2] 29) := HKA.out.on hb3
          have HZ : Hid (Blk w3 (w.heap.size + 1) #[.int .u64 0, .int .i64 0, .int .i64 0, .string ⟨#[]⟩] 38) := HKB.out.on hb3
          clear hb3 HB2 HX2 HA2 HKA HKB
          have l0 := HA.out.cell (i := 0) rfl
          have l1 := HA.out.cell (i := 1) rfl
          have l2 := HA.out.cell (i := 2) rfl
          have l3 := HA.out.cell (i := 3) rfl
          have l4 := HA.out.cell (i := 4) rfl
          have CW : Hid (Calls _ _ _ _ _) := wrote_any a _ _ _ lb fr vC mb E L w3 HX3.out HA3.out HFr.out
          go_wp2_with fail
          clear l0 l1 l2 l3 l4
          refine CW.out.mono ?_
          rintro e w4 ⟨q, rfl, hq, hb⟩
          clear CW
          have HB4 : Hid (Below w.heap.size w w4) := HB3.out.trans (hb.mono HB3.out.size)
          have HX4 : Hid (LogX w4 lb vC mb E L) := HX3.out.on hb
          have HA4 : Hid (RdF w4 _ _ _ a) := HA3.out.on hb
          have HAn : Hid (Blk w4 w.heap.size #[.int .u64 (fr : Nat), .slice p0 n0 c0, .slice p1 n1 c1, .slice p2 n2 c2, .int .i64 2] 29) := HA.out.on hb
          have HZn : Hid (Blk w4 (w.heap.size + 1) #[.int .u64 0, .int .i64 0, .int .i64 0, .string ⟨#[]⟩] 38) := HZ.out.on hb
          have HQ4 := hq.ok HCA.out
          clear hb hq HB3 HX3 HA3 HA HZ
          cases q with
          | some q =>
            obtain ⟨m, x⟩ := q
            have HT : Hid (TryQ a fr 2 L (some (m, x)) 112) := .inr (.inr (.inl ⟨HCA.out, .inl rfl, ⟨_, rfl⟩, HQ4, rfl⟩))
            obtain ⟨wb, hwb⟩ : ∃ wb, w4.alloc (.cells #[.int .u64 (m : Nat), .int .i64 x.t, .int .i64 x.i, .string x.k] 38) = wb := ⟨_, rfl⟩
            have hal : Below w4.heap.size w4 wb := by rw [← hwb]; exact (Below.refl _ _).alloc (Nat.le_refl _) _
            have HBb : Hid (Below w.heap.size w wb) := HB4.out.trans (hal.mono HB4.out.size)
            have HKc : Hid (Blk wb w4.heap.size #[.int .u64 (m : Nat), .int .i64 x.t, .int .i64 x.i, .string x.k] 38) := by rw [← hwb]; exact Blk.new w4 _ _
            have HZb : Hid (Blk wb (w.heap.size + 1) #[.int .u64 0, .int .i64 0, .int .i64 0, .string ⟨#[]⟩] 38) := HZn.out.on hal
            clear hal HB4 HX4 HA4 HZn HAn HQ4
            dsimp only [clV]
            have z0 := HZb.out.cell (i := 0) rfl
            have z1 := HZb.out.cell (i := 1) rfl
            have z2 := HZb.out.cell (i := 2) rfl
            have z3 := HZb.out.cell (i := 3) rfl
            have f0 := HZb.out.frozen 0
            have f1 := HZb.out.frozen 1
            have f2 := HZb.out.frozen 2
            have f3 := HZb.out.frozen 3
            have y0 := HKc.out.cell (i := 0) rfl
            have y1 := HKc.out.cell (i := 1) rfl
            have y2 := HKc.out.cell (i := 2) rfl
            have y3 := HKc.out.cell (i := 3) rfl
            have H4 : Hid (Blk ((((wb.setCell ⟨w.heap.size + 1, 0, none⟩ (.int .u64 (m : Nat))).setCell ⟨w.heap.size + 1, 1, none⟩ (.int .i64 x.t)).setCell ⟨w.heap.size + 1, 2, none⟩ (.int .i64 x.i)).setCell ⟨w.heap.size + 1, 3, none⟩ (.string x.k)) (w.heap.size + 1) #[(.int .u64 (m : Nat)), (.int .i64 x.t), (.int .i64 x.i), (.string x.k)] 38 ∧ Frm wb ((((wb.setCell ⟨w.heap.size + 1, 0, none⟩ (.int .u64 (m : Nat))).setCell ⟨w.heap.size + 1, 1, none⟩ (.int .i64 x.t)).setCell ⟨w.heap.size + 1, 2, none⟩ (.int .i64 x.i)).setCell ⟨w.heap.size + 1, 3, none⟩ (.string x.k)) (fun k => k = w.heap.size + 1)) := set4 HZb.out
            have HE4 : Hid (Below w.heap.size w ((((wb.setCell ⟨w.heap.size + 1, 0, none⟩ (.int .u64 (m : Nat))).setCell ⟨w.heap.size + 1, 1, none⟩ (.int .i64 x.t)).setCell ⟨w.heap.size + 1, 2, none⟩ (.int .i64 x.i)).setCell ⟨w.heap.size + 1, 3, none⟩ (.string x.k))) := HBb.out.trans (H4.out.2.below HBb.out.size (fun k hk => by omega))
            go_wp2_with fail
            clear z0 z1 z2 z3 f0 f1 f2 f3 y0 y1 y2 y3 hwb
            generalize (((wb.setCell ⟨w.heap.size + 1, 0, none⟩ (.int .u64 (m : Nat))).setCell ⟨w.heap.size + 1, 1, none⟩ (.int .i64 x.t)).setCell ⟨w.heap.size + 1, 2, none⟩ (.int .i64 x.i)).setCell ⟨w.heap.size + 1, 3, none⟩ (.string x.k) = wz at *
            have r0 := H4.out.1.cell (i := 0) rfl
            have r1 := H4.out.1.cell (i := 1) rfl
            have r2 := H4.out.1.cell (i := 2) rfl
            have r3 := H4.out.1.cell (i := 3) rfl
            refine bodyPost_ret (v := .tuple #[clA (some (m, x)), .int .i64 (112)]) (by simp [clA, results, Tryz.results7, go_sem, r0, r1, r2, r3]) rfl ?_
            exact ⟨_, _, rfl, HT.out, HE4.out⟩
          | none =>
            obtain ⟨wb4, hwb⟩ : ∃ wb, w4.alloc (.cells #[.int .u64 0, .int .i64 0, .int .i64 0, .string ⟨#[]⟩] 38) = wb := ⟨_, rfl⟩
            have hal : Below w4.heap.size w4 wb4 := by rw [← hwb]; exact (Below.refl _ _).alloc (Nat.le_refl _) _
            have HKc : Hid (Blk wb4 w4.heap.size #[.int .u64 0, .int .i64 0, .int .i64 0, .string ⟨#[]⟩] 38) := by rw [← hwb]; exact Blk.new w4 _ _
            have y0 := HKc.out.cell (i := 0) rfl
            have y1 := HKc.out.cell (i := 1) rfl
            have y2 := HKc.out.cell (i := 2) rfl
            have y3 := HKc.out.cell (i := 3) rfl
            have g0 := HKc.out.frozen 0
            have g1 := HKc.out.frozen 1
            have g2 := HKc.out.frozen 2
            have g3 := HKc.out.frozen 3
            obtain ⟨ws4, hws⟩ : ∃ ws, (((wb4.setCell ⟨w4.heap.size, 0, none⟩ (.int .u64 0)).setCell ⟨w4.heap.size, 1, none⟩ (.int .i64 0)).setCell ⟨w4.heap.size, 2, none⟩ (.int .i64 0)).setCell ⟨w4.heap.size, 3, none⟩ (.string ⟨#[]⟩) = ws := ⟨_, rfl⟩
            have hal2 : Below w4.heap.size w4 ws4 := by
              rw [← hws]
              exact hal.trans ((set4 HKc.out).2.below hal.size (fun k hk => by omega))
            have HBs4 : Hid (Below w.heap.size w ws4) := HB4.out.trans (hal2.mono HB4.out.size)
            have HXs4 : Hid (LogX ws4 lb vC mb E L) := HX4.out.on hal2
            have HAs4 : Hid (RdF ws4 _ _ _ a) := HA4.out.on hal2
            have HA : Hid (Blk ws4 w.heap.size #[.int .u64 (fr : Nat), .slice p0 n0 c0, .slice p1 n1 c1, .slice p2 n2 c2, .int .i64 2] 29) := HAn.out.on hal2
            have HZ : Hid (Blk ws4 (w.heap.size + 1) #[.int .u64 0, .int .i64 0, .int .i64 0, .string ⟨#[]⟩] 38) := HZn.out.on hal2
            clear hal hal2 HB4 HX4 HA4 HZn HAn HKc
            dsimp only [clV]
            have HT : Hid (TryQ a fr 2 L none 0) := .inr (.inr (.inr (.inr ⟨HCA.out, .inr (.inl rfl), fun _ => HQ4, fun h => absurd h (by decide), rfl, rfl⟩)))
            have z0 := HZ.out.cell (i := 0) rfl
            have z1 := HZ.out.cell (i := 1) rfl
            have z2 := HZ.out.cell (i := 2) rfl
            have z3 := HZ.out.cell (i := 3) rfl
            have f0 := HZ.out.frozen 0
            have f1 := HZ.out.frozen 1
            have f2 := HZ.out.frozen 2
            have f3 := HZ.out.frozen 3
            have l4 := HA.out.cell (i := 4) rfl
            have H4 : Hid (Blk ((((ws4.setCell ⟨w.heap.size + 1, 0, none⟩ (.int .u64 0)).setCell ⟨w.heap.size + 1, 1, none⟩ (.int .i64 0)).setCell ⟨w.heap.size + 1, 2, none⟩ (.int .i64 0)).setCell ⟨w.heap.size + 1, 3, none⟩ (.string ⟨#[]⟩)) (w.heap.size + 1) #[(.int .u64 0), (.int .i64 0), (.int .i64 0), (.string ⟨#[]⟩)] 38 ∧ Frm ws4 ((((ws4.setCell ⟨w.heap.size + 1, 0, none⟩ (.int .u64 0)).setCell ⟨w.heap.size + 1, 1, none⟩ (.int .i64 0)).setCell ⟨w.heap.size + 1, 2, none⟩ (.int .i64 0)).setCell ⟨w.heap.size + 1, 3, none⟩ (.string ⟨#[]⟩)) (fun k => k = w.heap.size + 1)) := set4 HZ.out
            have HE4 : Hid (Below w.heap.size w ((((ws4.setCell ⟨w.heap.size + 1, 0, none⟩ (.int .u64 0)).setCell ⟨w.heap.size + 1, 1, none⟩ (.int .i64 0)).setCell ⟨w.heap.size + 1, 2, none⟩ (.int .i64 0)).setCell ⟨w.heap.size + 1, 3, none⟩ (.string ⟨#[]⟩))) := HBs4.out.trans (H4.out.2.below HBs4.out.size (fun k hk => by omega))
            go_wp2_with fail
            clear z0 z1 z2 z3 f0 f1 f2 f3 l4
            generalize (((ws4.setCell ⟨w.heap.size + 1, 0, none⟩ (.int .u64 0)).setCell ⟨w.heap.size + 1, 1, none⟩ (.int .i64 0)).setCell ⟨w.heap.size + 1, 2, none⟩ (.int .i64 0)).setCell ⟨w.heap.size + 1, 3, none⟩ (.string ⟨#[]⟩) = wz at *
            have r0 := H4.out.1.cell (i := 0) rfl
            have r1 := H4.out.1.cell (i := 1) rfl
            have r2 := H4.out.1.cell (i := 2) rfl
            have r3 := H4.out.1.cell (i := 3) rfl
            refine bodyPost_ret (v := .tuple #[clA (none), .int .i64 (0)]) (by simp [clA, results, Tryz.results7, go_sem, r0, r1, r2, r3]) rfl ?_
            exact ⟨_, _, rfl, HT.out, HE4.out⟩
        · skip
          obtain ⟨w2, hw2⟩ : ∃ w2, ((w.alloc (.cells #[.int .u64 (fr : Nat), .slice p0 n0 c0, .slice p1 n1 c1, .slice p2 n2 c2, .int .i64 3] 29)).alloc (.cells #[.int .u64 0, .int .i64 0, .int .i64 0, .string ⟨#[]⟩] 38)) = w2 := ⟨_, rfl⟩
          have HB2 : Hid (Below w.heap.size w w2) := by rw [← hw2]; exact ((Below.refl _ _).alloc (Nat.le_refl _) _).alloc (by simp) _
          have HKA : Hid (Blk w2 w.heap.size #[.int .u64 (fr : Nat), .slice p0 n0 c0, .slice p1 n1 c1, .slice p2 n2 c2, .int .i64 3] 29) := by rw [← hw2]; exact (Blk.new w _ _).keep (B := w.heap.size + 1) ((Below.refl _ _).alloc (by simp) _) (by omega)
          have HKB : Hid (Blk w2 (w.heap.size + 1) #[.int .u64 0, .int .i64 0, .int .i64 0, .string ⟨#[]⟩] 38) := by
            rw [← hw2]
            have h := Blk.new (w.alloc (.cells #[.int .u64 (fr : Nat), .slice p0 n0 c0, .slice p1 n1 c1, .slice p2 n2 c2, .int .i64 3] 29)) #[.int .u64 0, .int .i64 0, .int .i64 0, .string ⟨#[]⟩] 38
            rw [World.size_alloc] at h
            exact h
          have HX2 : Hid (LogX w2 lb vC mb E L) := hX.on HB2.out
          have HA2 : Hid (RdF w2 _ _ _ a) := ha.on HB2.out
          have CG : Hid (Calls _ _ _ _ _) := given_any lb _ _ w2 HX2.out.blk
          have CC : Hid (Calls _ _ _ _ _) := check_any a _ _ _ w2 HA2.out
          have k1 := HKA.out.cell (i := 1) rfl
          have k2 := HKA.out.cell (i := 2) rfl
          have k3 := HKA.out.cell (i := 3) rfl
          clear hX ha
          have HCA : Hid (chkF a = 0) := hca
          rw [hca] at CC
          clear hca
          go_enter Tryz.func7, Tryz.ntmps7
          go_wp2_with fail
          refine CG.out.mono ?_
          rintro e w3 ⟨rfl, hw3⟩
          obtain rfl := hw3.symm
          clear CG
          go_wp2_with fail
          refine CC.out.mono ?_
          rintro e w3 ⟨rfl, hb3⟩
          clear CC k1 k2 k3 hw2
          have HB3 : Hid (Below w.heap.size w w3) := HB2.out.trans (hb3.mono HB2.out.size)
          have HX3 : Hid (LogX w3 lb vC mb E L) := HX2.out.on hb3
          have HA3 : Hid (RdF w3 _ _ _ a) := HA2.out.on hb3
          have HA : Hid (Blk w3 w.heap.size #[.int .u64 (fr : Nat), .slice p0 n0 c0, .slice p1 n1 c1, .slice p2 n2 c2, .int .i64 3] 29) := HKA.out.on hb3
          have HZ : Hid (Blk w3 (w.heap.size + 1) #[.int .u64 0, .int .i64 0, .int .i64 0, .string ⟨#[]⟩] 38) := HKB.out.on hb3
          clear hb3 HB2 HX2 HA2 HKA HKB
          have l0 := HA.out.cell (i := 0) rfl
          have l1 := HA.out.cell (i := 1) rfl
          have l2 := HA.out.cell (i := 2) rfl
          have l3 := HA.out.cell (i := 3) rfl
          have l4 := HA.out.cell (i := 4) rfl
          have CW : Hid (Calls _ _ _ _ _) := wrote_any a _ _ _ lb fr vC mb E L w3 HX3.out HA3.out HFr.out
          go_wp2_with fail
          clear l0 l1 l2 l3 l4
          refine CW.out.mono ?_
          rintro e w4 ⟨q, rfl, hq, hb⟩
          clear CW
          have HB4 : Hid (Below w.heap.size w w4) := HB3.out.trans (hb.mono HB3.out.size)
          have HX4 : Hid (LogX w4 lb vC mb E L) := HX3.out.on hb
          have HA4 : Hid (RdF w4 _ _ _ a) := HA3.out.on hb
          have HAn : Hid (Blk w4 w.heap.size #[.int .u64 (fr : Nat), .slice p0 n0 c0, .slice p1 n1 c1, .slice p2 n2 c2, .int .i64 3] 29) := HA.out.on hb
          have HZn : Hid (Blk w4 (w.heap.size + 1) #[.int .u64 0, .int .i64 0, .int .i64 0, .string ⟨#[]⟩] 38) := HZ.out.on hb
          have HQ4 := hq.ok HCA.out
          clear hb hq HB3 HX3 HA3 HA HZ
          cases q with
          | some q =>
            obtain ⟨m, x⟩ := q
            have HT : Hid (TryQ a fr 3 L (some (m, x)) 112) := .inr (.inr (.inl ⟨HCA.out, .inr rfl, ⟨_, rfl⟩, HQ4, rfl⟩))
            obtain ⟨wb, hwb⟩ : ∃ wb, w4.alloc (.cells #[.int .u64 (m : Nat), .int .i64 x.t, .int .i64 x.i, .string x.k] 38) = wb := ⟨_, rfl⟩
            have hal : Below w4.heap.size w4 wb := by rw [← hwb]; exact (Below.refl _ _).alloc (Nat.le_refl _) _
            have HBb : Hid (Below w.heap.size w wb) := HB4.out.trans (hal.mono HB4.out.size)
            have HKc : Hid (Blk wb w4.heap.size #[.int .u64 (m : Nat), .int .i64 x.t, .int .i64 x.i, .string x.k] 38) := by rw [← hwb]; exact Blk.new w4 _ _
            have HZb : Hid (Blk wb (w.heap.size + 1) #[.int .u64 0, .int .i64 0, .int .i64 0, .string ⟨#[]⟩] 38) := HZn.out.on hal
            clear hal HB4 HX4 HA4 HZn HAn HQ4
            dsimp only [clV]
            have z0 := HZb.out.cell (i := 0) rfl
            have z1 := HZb.out.cell (i := 1) rfl
            have z2 := HZb.out.cell (i := 2) rfl
            have z3 := HZb.out.cell (i := 3) rfl
            have f0 := HZb.out.frozen 0
            have f1 := HZb.out.frozen 1
            have f2 := HZb.out.frozen 2
            have f3 := HZb.out.frozen 3
            have y0 := HKc.out.cell (i := 0) rfl
            have y1 := HKc.out.cell (i := 1) rfl
            have y2 := HKc.out.cell (i := 2) rfl
            have y3 := HKc.out.cell (i := 3) rfl
            have H4 : Hid (Blk ((((wb.setCell ⟨w.heap.size + 1, 0, none⟩ (.int .u64 (m : Nat))).setCell ⟨w.heap.size + 1, 1, none⟩ (.int .i64 x.t)).setCell ⟨w.heap.size + 1, 2, none⟩ (.int .i64 x.i)).setCell ⟨w.heap.size + 1, 3, none⟩ (.string x.k)) (w.heap.size + 1) #[(.int .u64 (m : Nat)), (.int .i64 x.t), (.int .i64 x.i), (.string x.k)] 38 ∧ Frm wb ((((wb.setCell ⟨w.heap.size + 1, 0, none⟩ (.int .u64 (m : Nat))).setCell ⟨w.heap.size + 1, 1, none⟩ (.int .i64 x.t)).setCell ⟨w.heap.size + 1, 2, none⟩ (.int .i64 x.i)).setCell ⟨w.heap.size + 1, 3, none⟩ (.string x.k)) (fun k => k = w.heap.size + 1)) := set4 HZb.out
            have HE4 : Hid (Below w.heap.size w ((((wb.setCell ⟨w.heap.size + 1, 0, none⟩ (.int .u64 (m : Nat))).setCell ⟨w.heap.size + 1, 1, none⟩ (.int .i64 x.t)).setCell ⟨w.heap.size + 1, 2, none⟩ (.int .i64 x.i)).setCell ⟨w.heap.size + 1, 3, none⟩ (.string x.k))) := HBb.out.trans (H4.out.2.below HBb.out.size (fun k hk => by omega))
            go_wp2_with fail
            clear z0 z1 z2 z3 f0 f1 f2 f3 y0 y1 y2 y3 hwb
            generalize (((wb.setCell ⟨w.heap.size + 1, 0, none⟩ (.int .u64 (m : Nat))).setCell ⟨w.heap.size + 1, 1, none⟩ (.int .i64 x.t)).setCell ⟨w.heap.size + 1, 2, none⟩ (.int .i64 x.i)).setCell ⟨w.heap.size + 1, 3, none⟩ (.string x.k) = wz at *
            have r0 := H4.out.1.cell (i := 0) rfl
            have r1 := H4.out.1.cell (i := 1) rfl
            have r2 := H4.out.1.cell (i := 2) rfl
            have r3 := H4.out.1.cell (i := 3) rfl
            refine bodyPost_ret (v := .tuple #[clA (some (m, x)), .int .i64 (112)]) (by simp [clA, results, Tryz.results7, go_sem, r0, r1, r2, r3]) rfl ?_
            exact ⟨_, _, rfl, HT.out, HE4.out⟩
          | none =>
            obtain ⟨wb4, hwb⟩ : ∃ wb, w4.alloc (.cells #[.int .u64 0, .int .i64 0, .int .i64 0, .string ⟨#[]⟩] 38) = wb := ⟨_, rfl⟩
            have hal : Below w4.heap.size w4 wb4 := by rw [← hwb]; exact (Below.refl _ _).alloc (Nat.le_refl _) _
            have HKc : Hid (Blk wb4 w4.heap.size #[.int .u64 0, .int .i64 0, .int .i64 0, .string ⟨#[]⟩] 38) := by rw [← hwb]; exact Blk.new w4 _ _
            have y0 := HKc.out.cell (i := 0) rfl
            have y1 := HKc.out.cell (i := 1) rfl
            have y2 := HKc.out.cell (i := 2) rfl
            have y3 := HKc.out.cell (i := 3) rfl
            have g0 := HKc.out.frozen 0
            have g1 := HKc.out.frozen 1
            have g2 := HKc.out.frozen 2
            have g3 := HKc.out.frozen 3
            obtain ⟨ws4, hws⟩ : ∃ ws, (((wb4.setCell ⟨w4.heap.size, 0, none⟩ (.int .u64 0)).setCell ⟨w4.heap.size, 1, none⟩ (.int .i64 0)).setCell ⟨w4.heap.size, 2, none⟩ (.int .i64 0)).setCell ⟨w4.heap.size, 3, none⟩ (.string ⟨#[]⟩) = ws := ⟨_, rfl⟩
            have hal2 : Below w4.heap.size w4 ws4 := by
              rw [← hws]
              exact hal.trans ((set4 HKc.out).2.below hal.size (fun k hk => by omega))
            have HBs4 : Hid (Below w.heap.size w ws4) := HB4.out.trans (hal2.mono HB4.out.size)
            have HXs4 : Hid (LogX ws4 lb vC mb E L) := HX4.out.on hal2
            have HAs4 : Hid (RdF ws4 _ _ _ a) := HA4.out.on hal2
            have HA : Hid (Blk ws4 w.heap.size #[.int .u64 (fr : Nat), .slice p0 n0 c0, .slice p1 n1 c1, .slice p2 n2 c2, .int .i64 3] 29) := HAn.out.on hal2
            have HZ : Hid (Blk ws4 (w.heap.size + 1) #[.int .u64 0, .int .i64 0, .int .i64 0, .string ⟨#[]⟩] 38) := HZn.out.on hal2
            clear hal hal2 HB4 HX4 HA4 HZn HAn HKc
            dsimp only [clV]
            have l0 := HA.out.cell (i := 0) rfl
            have l1 := HA.out.cell (i := 1) rfl
            have l2 := HA.out.cell (i := 2) rfl
            have l3 := HA.out.cell (i := 3) rfl
            have l4 := HA.out.cell (i := 4) rfl
            have CW : Hid (Calls _ _ _ _ _) := read_any a _ _ _ lb fr vC mb E L ws4 HXs4.out HAs4.out HFr.out
            go_wp2_with fail
            clear y0 y1 y2 y3 g0 g1 g2 g3 hws hwb
            clear l0 l1 l2 l3 l4
            refine CW.out.mono ?_
            rintro e w5 ⟨q, rfl, hq, hb⟩
            clear CW
            have HB5 : Hid (Below w.heap.size w w5) := HBs4.out.trans (hb.mono HBs4.out.size)
            have HX5 : Hid (LogX w5 lb vC mb E L) := HXs4.out.on hb
            have HA5 : Hid (RdF w5 _ _ _ a) := HAs4.out.on hb
            have HAn : Hid (Blk w5 w.heap.size #[.int .u64 (fr : Nat), .slice p0 n0 c0, .slice p1 n1 c1, .slice p2 n2 c2, .int .i64 3] 29) := HA.out.on hb
            have HZn : Hid (Blk w5 (w.heap.size + 1) #[.int .u64 0, .int .i64 0, .int .i64 0, .string ⟨#[]⟩] 38) := HZ.out.on hb
            have HQ5 := hq.ok HCA.out
            clear hb hq HBs4 HXs4 HAs4 HA HZ
            cases q with
            | some q =>
              obtain ⟨m, x⟩ := q
              have HT : Hid (TryQ a fr 3 L (some (m, x)) 205) := .inr (.inr (.inr (.inl ⟨HCA.out, rfl, HQ4, ⟨_, rfl⟩, HQ5, rfl⟩)))
              obtain ⟨wb, hwb⟩ : ∃ wb, w5.alloc (.cells #[.int .u64 (m : Nat), .int .i64 x.t, .int .i64 x.i, .string x.k] 38) = wb := ⟨_, rfl⟩
              have hal : Below w5.heap.size w5 wb := by rw [← hwb]; exact (Below.refl _ _).alloc (Nat.le_refl _) _
              have HBb : Hid (Below w.heap.size w wb) := HB5.out.trans (hal.mono HB5.out.size)
              have HKc : Hid (Blk wb w5.heap.size #[.int .u64 (m : Nat), .int .i64 x.t, .int .i64 x.i, .string x.k] 38) := by rw [← hwb]; exact Blk.new w5 _ _
              have HZb : Hid (Blk wb (w.heap.size + 1) #[.int .u64 0, .int .i64 0, .int .i64 0, .string ⟨#[]⟩] 38) := HZn.out.on hal
              clear hal HB5 HX5 HA5 HZn HAn HQ5
              dsimp only [clV]
              have z0 := HZb.out.cell (i := 0) rfl
              have z1 := HZb.out.cell (i := 1) rfl
              have z2 := HZb.out.cell (i := 2) rfl
              have z3 := HZb.out.cell (i := 3) rfl
              have f0 := HZb.out.frozen 0
              have f1 := HZb.out.frozen 1
              have f2 := HZb.out.frozen 2
              have f3 := HZb.out.frozen 3
              have y0 := HKc.out.cell (i := 0) rfl
              have y1 := HKc.out.cell (i := 1) rfl
              have y2 := HKc.out.cell (i := 2) rfl
              have y3 := HKc.out.cell (i := 3) rfl
              have H4 : Hid (Blk ((((wb.setCell ⟨w.heap.size + 1, 0, none⟩ (.int .u64 (m : Nat))).setCell ⟨w.heap.size + 1, 1, none⟩ (.int .i64 x.t)).setCell ⟨w.heap.size + 1, 2, none⟩ (.int .i64 x.i)).setCell ⟨w.heap.size + 1, 3, none⟩ (.string x.k)) (w.heap.size + 1) #[(.int .u64 (m : Nat)), (.int .i64 x.t), (.int .i64 x.i), (.string x.k)] 38 ∧ Frm wb ((((wb.setCell ⟨w.heap.size + 1, 0, none⟩ (.int .u64 (m : Nat))).setCell ⟨w.heap.size + 1, 1, none⟩ (.int .i64 x.t)).setCell ⟨w.heap.size + 1, 2, none⟩ (.int .i64 x.i)).setCell ⟨w.heap.size + 1, 3, none⟩ (.string x.k)) (fun k => k = w.heap.size + 1)) := set4 HZb.out
              have HE4 : Hid (Below w.heap.size w ((((wb.setCell ⟨w.heap.size + 1, 0, none⟩ (.int .u64 (m : Nat))).setCell ⟨w.heap.size + 1, 1, none⟩ (.int .i64 x.t)).setCell ⟨w.heap.size + 1, 2, none⟩ (.int .i64 x.i)).setCell ⟨w.heap.size + 1, 3, none⟩ (.string x.k))) := HBb.out.trans (H4.out.2.below HBb.out.size (fun k hk => by omega))
              go_wp2_with fail
              clear z0 z1 z2 z3 f0 f1 f2 f3 y0 y1 y2 y3 hwb
              generalize (((wb.setCell ⟨w.heap.size + 1, 0, none⟩ (.int .u64 (m : Nat))).setCell ⟨w.heap.size + 1, 1, none⟩ (.int .i64 x.t)).setCell ⟨w.heap.size + 1, 2, none⟩ (.int .i64 x.i)).setCell ⟨w.heap.size + 1, 3, none⟩ (.string x.k) = wz at *
              have r0 := H4.out.1.cell (i := 0) rfl
              have r1 := H4.out.1.cell (i := 1) rfl
              have r2 := H4.out.1.cell (i := 2) rfl
              have r3 := H4.out.1.cell (i := 3) rfl
              refine bodyPost_ret (v := .tuple #[clA (some (m, x)), .int .i64 (205)]) (by simp [clA, results, Tryz.results7, go_sem, r0, r1, r2, r3]) rfl ?_
              exact ⟨_, _, rfl, HT.out, HE4.out⟩
            | none =>
              obtain ⟨wb5, hwb⟩ : ∃ wb, w5.alloc (.cells #[.int .u64 0, .int .i64 0, .int .i64 0, .string ⟨#[]⟩] 38) = wb := ⟨_, rfl⟩
              have hal : Below w5.heap.size w5 wb5 := by rw [← hwb]; exact (Below.refl _ _).alloc (Nat.le_refl _) _
              have HKc : Hid (Blk wb5 w5.heap.size #[.int .u64 0, .int .i64 0, .int .i64 0, .string ⟨#[]⟩] 38) := by rw [← hwb]; exact Blk.new w5 _ _
              have y0 := HKc.out.cell (i := 0) rfl
              have y1 := HKc.out.cell (i := 1) rfl
              have y2 := HKc.out.cell (i := 2) rfl
              have y3 := HKc.out.cell (i := 3) rfl
              have g0 := HKc.out.frozen 0
              have g1 := HKc.out.frozen 1
              have g2 := HKc.out.frozen 2
              have g3 := HKc.out.frozen 3
              obtain ⟨ws5, hws⟩ : ∃ ws, (((wb5.setCell ⟨w5.heap.size, 0, none⟩ (.int .u64 0)).setCell ⟨w5.heap.size, 1, none⟩ (.int .i64 0)).setCell ⟨w5.heap.size, 2, none⟩ (.int .i64 0)).setCell ⟨w5.heap.size, 3, none⟩ (.string ⟨#[]⟩) = ws := ⟨_, rfl⟩
              have hal2 : Below w5.heap.size w5 ws5 := by
                rw [← hws]
                exact hal.trans ((set4 HKc.out).2.below hal.size (fun k hk => by omega))
              have HBs5 : Hid (Below w.heap.size w ws5) := HB5.out.trans (hal2.mono HB5.out.size)
              have HXs5 : Hid (LogX ws5 lb vC mb E L) := HX5.out.on hal2
              have HAs5 : Hid (RdF ws5 _ _ _ a) := HA5.out.on hal2
              have HA : Hid (Blk ws5 w.heap.size #[.int .u64 (fr : Nat), .slice p0 n0 c0, .slice p1 n1 c1, .slice p2 n2 c2, .int .i64 3] 29) := HAn.out.on hal2
              have HZ : Hid (Blk ws5 (w.heap.size + 1) #[.int .u64 0, .int .i64 0, .int .i64 0, .string ⟨#[]⟩] 38) := HZn.out.on hal2
              clear hal hal2 HB5 HX5 HA5 HZn HAn HKc
              dsimp only [clV]
              have HT : Hid (TryQ a fr 3 L none 0) := .inr (.inr (.inr (.inr ⟨HCA.out, .inr (.inr rfl), fun _ => HQ4, fun _ => HQ5, rfl, rfl⟩)))
              have z0 := HZ.out.cell (i := 0) rfl
              have z1 := HZ.out.cell (i := 1) rfl
              have z2 := HZ.out.cell (i := 2) rfl
              have z3 := HZ.out.cell (i := 3) rfl
              have f0 := HZ.out.frozen 0
              have f1 := HZ.out.frozen 1
              have f2 := HZ.out.frozen 2
              have f3 := HZ.out.frozen 3
              have l4 := HA.out.cell (i := 4) rfl
              have H4 : Hid (Blk ((((ws5.setCell ⟨w.heap.size + 1, 0, none⟩ (.int .u64 0)).setCell ⟨w.heap.size + 1, 1, none⟩ (.int .i64 0)).setCell ⟨w.heap.size + 1, 2, none⟩ (.int .i64 0)).setCell ⟨w.heap.size + 1, 3, none⟩ (.string ⟨#[]⟩)) (w.heap.size + 1) #[(.int .u64 0), (.int .i64 0), (.int .i64 0), (.string ⟨#[]⟩)] 38 ∧ Frm ws5 ((((ws5.setCell ⟨w.heap.size + 1, 0, none⟩ (.int .u64 0)).setCell ⟨w.heap.size + 1, 1, none⟩ (.int .i64 0)).setCell ⟨w.heap.size + 1, 2, none⟩ (.int .i64 0)).setCell ⟨w.heap.size + 1, 3, none⟩ (.string ⟨#[]⟩)) (fun k => k = w.heap.size + 1)) := set4 HZ.out
              have HE4 : Hid (Below w.heap.size w ((((ws5.setCell ⟨w.heap.size + 1, 0, none⟩ (.int .u64 0)).setCell ⟨w.heap.size + 1, 1, none⟩ (.int .i64 0)).setCell ⟨w.heap.size + 1, 2, none⟩ (.int .i64 0)).setCell ⟨w.heap.size + 1, 3, none⟩ (.string ⟨#[]⟩))) := HBs5.out.trans (H4.out.2.below HBs5.out.size (fun k hk => by omega))
              go_wp2_with fail
              clear z0 z1 z2 z3 f0 f1 f2 f3 l4
              generalize (((ws5.setCell ⟨w.heap.size + 1, 0, none⟩ (.int .u64 0)).setCell ⟨w.heap.size + 1, 1, none⟩ (.int .i64 0)).setCell ⟨w.heap.size + 1, 2, none⟩ (.int .i64 0)).setCell ⟨w.heap.size + 1, 3, none⟩ (.string ⟨#[]⟩) = wz at *
              have r0 := H4.out.1.cell (i := 0) rfl
              have r1 := H4.out.1.cell (i := 1) rfl
              have r2 := H4.out.1.cell (i := 2) rfl
              have r3 := H4.out.1.cell (i := 3) rfl
              refine bodyPost_ret (v := .tuple #[clA (none), .int .i64 (0)]) (by simp [clA, results, Tryz.results7, go_sem, r0, r1, r2, r3]) rfl ?_
              exact ⟨_, _, rfl, HT.out, HE4.out⟩
  · have HT : Hid (TryQ a fr lv L none (chkF a)) := .inl ⟨hca, rfl, rfl⟩
    obtain ⟨w2, hw2⟩ : ∃ w2, ((w.alloc (.cells #[.int .u64 (fr : Nat), .slice p0 n0 c0, .slice p1 n1 c1, .slice p2 n2 c2, .int .i64 lv] 29)).alloc (.cells #[.int .u64 0, .int .i64 0, .int .i64 0, .string ⟨#[]⟩] 38)) = w2 := ⟨_, rfl⟩
    have HB2 : Hid (Below w.heap.size w w2) := by rw [← hw2]; exact ((Below.refl _ _).alloc (Nat.le_refl _) _).alloc (by simp) _
    have HKA : Hid (Blk w2 w.heap.size #[.int .u64 (fr : Nat), .slice p0 n0 c0, .slice p1 n1 c1, .slice p2 n2 c2, .int .i64 lv] 29) := by rw [← hw2]; exact (Blk.new w _ _).keep (B := w.heap.size + 1) ((Below.refl _ _).alloc (by simp) _) (by omega)
    have HKB : Hid (Blk w2 (w.heap.size + 1) #[.int .u64 0, .int .i64 0, .int .i64 0, .string ⟨#[]⟩] 38) := by
      rw [← hw2]
      have h := Blk.new (w.alloc (.cells #[.int .u64 (fr : Nat), .slice p0 n0 c0, .slice p1 n1 c1, .slice p2 n2 c2, .int .i64 lv] 29)) #[.int .u64 0, .int .i64 0, .int .i64 0, .string ⟨#[]⟩] 38
      rw [World.size_alloc] at h
      exact h
    have HX2 : Hid (LogX w2 lb vC mb E L) := hX.on HB2.out
    have HA2 : Hid (RdF w2 _ _ _ a) := ha.on HB2.out
    have CG : Hid (Calls _ _ _ _ _) := given_any lb _ _ w2 HX2.out.blk
    have CC : Hid (Calls _ _ _ _ _) := check_any a _ _ _ w2 HA2.out
    have k1 := HKA.out.cell (i := 1) rfl
    have k2 := HKA.out.cell (i := 2) rfl
    have k3 := HKA.out.cell (i := 3) rfl
    clear hX ha
    go_enter Tryz.func7, Tryz.ntmps7
    go_wp2_with fail
    refine CG.out.mono ?_
    rintro e w3 ⟨rfl, hw3⟩
    obtain rfl := hw3.symm
    clear CG
    go_wp2_with fail
    refine CC.out.mono ?_
    rintro e w3 ⟨rfl, hb3⟩
    clear CC k1 k2 k3 hw2
    have HB3 : Hid (Below w.heap.size w w3) := HB2.out.trans (hb3.mono HB2.out.size)
    have HX3 : Hid (LogX w3 lb vC mb E L) := HX2.out.on hb3
    have HA3 : Hid (RdF w3 _ _ _ a) := HA2.out.on hb3
    have HA : Hid (Blk w3 w.heap.size #[.int .u64 (fr : Nat), .slice p0 n0 c0, .slice p1 n1 c1, .slice p2 n2 c2, .int .i64 lv] 29) := HKA.out.on hb3
    have HZ : Hid (Blk w3 (w.heap.size + 1) #[.int .u64 0, .int .i64 0, .int .i64 0, .string ⟨#[]⟩] 38) := HKB.out.on hb3
    clear hb3 HB2 HX2 HA2 HKA HKB
    have z0 := HZ.out.cell (i := 0) rfl
    have z1 := HZ.out.cell (i := 1) rfl
    have z2 := HZ.out.cell (i := 2) rfl
    have z3 := HZ.out.cell (i := 3) rfl
    have f0 := HZ.out.frozen 0
    have f1 := HZ.out.frozen 1
    have f2 := HZ.out.frozen 2
    have f3 := HZ.out.frozen 3
    have H4 : Hid (Blk ((((w3.setCell ⟨w.heap.size + 1, 0, none⟩ (.int .u64 0)).setCell ⟨w.heap.size + 1, 1, none⟩ (.int .i64 0)).setCell ⟨w.heap.size + 1, 2, none⟩ (.int .i64 0)).setCell ⟨w.heap.size + 1, 3, none⟩ (.string ⟨#[]⟩)) (w.heap.size + 1) #[(.int .u64 0), (.int .i64 0), (.int .i64 0), (.string ⟨#[]⟩)] 38 ∧ Frm w3 ((((w3.setCell ⟨w.heap.size + 1, 0, none⟩ (.int .u64 0)).setCell ⟨w.heap.size + 1, 1, none⟩ (.int .i64 0)).setCell ⟨w.heap.size + 1, 2, none⟩ (.int .i64 0)).setCell ⟨w.heap.size + 1, 3, none⟩ (.string ⟨#[]⟩)) (fun k => k = w.heap.size + 1)) := set4 HZ.out
    have HE4 : Hid (Below w.heap.size w ((((w3.setCell ⟨w.heap.size + 1, 0, none⟩ (.int .u64 0)).setCell ⟨w.heap.size + 1, 1, none⟩ (.int .i64 0)).setCell ⟨w.heap.size + 1, 2, none⟩ (.int .i64 0)).setCell ⟨w.heap.size + 1, 3, none⟩ (.string ⟨#[]⟩))) := HB3.out.trans (H4.out.2.below HB3.out.size (fun k hk => by omega))
    go_wp2_with fail
    clear z0 z1 z2 z3 f0 f1 f2 f3
    generalize (((w3.setCell ⟨w.heap.size + 1, 0, none⟩ (.int .u64 0)).setCell ⟨w.heap.size + 1, 1, none⟩ (.int .i64 0)).setCell ⟨w.heap.size + 1, 2, none⟩ (.int .i64 0)).setCell ⟨w.heap.size + 1, 3, none⟩ (.string ⟨#[]⟩) = wz at *
    have r0 := H4.out.1.cell (i := 0) rfl
    have r1 := H4.out.1.cell (i := 1) rfl
    have r2 := H4.out.1.cell (i := 2) rfl
    have r3 := H4.out.1.cell (i := 3) rfl
    refine bodyPost_ret (v := .tuple #[clA (none), .int .i64 (chkF a)]) (by simp [clA, results, Tryz.results7, go_sem, r0, r1, r2, r3]) rfl ?_
    exact ⟨_, _, rfl, HT.out, HE4.out⟩

end Go.Proofs.YtcknhjabdjbjiabGreat
