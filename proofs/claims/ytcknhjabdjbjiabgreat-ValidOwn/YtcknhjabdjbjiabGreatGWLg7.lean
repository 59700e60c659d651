/- Read: the first commit behind a stamp that wrote what a foot reads. A Log that may be written; what a commit is put into it. -/
import Derived.Test.YtcknhjabdjbjiabGreatGWLg2
import Derived.Test.YtcknhjabdjbjiabGreatGWLg8
namespace Go.Proofs.YtcknhjabdjbjiabGreat
open Go.RowKit
set_option maxRecDepth 100000

theorem wpL_two18 {P : Program} {ops : Array Oper} {Q : Exit → Act → World → Prop} {S : World → Prop} {m : Nat} (i j : Nat) {oi oj : Oper} {fuel : Nat} {listed : Array Bool} {a : Act} {w : World} (hi : nthO ops.toList i = some oi) (hj : nthO ops.toList j = some oj) (hr : Region.ready .any ops listed = [i, j]) (hwi : Region.wanted oi (yielded ops a.tmps) = true) (hwj : Region.wanted oj (yielded ops a.tmps) = true)
    (h1 : ∀ K : Act → World → Prop, Hid (∀ a' w', (i ≠ m → S w') → wpL P ops Q S m fuel (listed.setIfInBounds i true) a' w' → K a' w') → oi.wp P a w K Q)
    (h2 : ∀ K : Act → World → Prop, Hid (∀ a' w', (j ≠ m → S w') → wpL P ops Q S m fuel (listed.setIfInBounds j true) a' w' → K a' w') → oj.wp P a w K Q) : wpL P ops Q S m (fuel + 1) listed a w := by
  refine ⟨fun h0 => (by rw [hr] at h0; cases h0), fun k hk => ?_⟩
  rw [hr] at hk
  rcases List.mem_cons.1 hk with e | hk
  · subst e
    unfold wpOp
    simp only [nthO_at hi, hwi, if_true]
    exact .inl (h1 _ (show ∀ a' w', _ → _ → _ from fun a' w' h1 h2 => ⟨h1, h2⟩))
  · have e : k = j := by simpa using hk
    subst e
    unfold wpOp
    simp only [nthO_at hj, hwj, if_true]
    exact .inl (h2 _ (show ∀ a' w', _ → _ → _ from fun a' w' h1 h2 => ⟨h1, h2⟩))

/-- what Read tells -/
def clV : Option (Nat × Pt) → Value
  | none => .tuple #[.agg #[.int .u64 0, .int .i64 0, .int .i64 0, .string ⟨#[]⟩], .bool false]
  | some q => .tuple #[.agg #[.int .u64 (q.1 : Nat), .int .i64 q.2.t, .int .i64 q.2.i, .string q.2.k], .bool true]
/-- the first commit behind fr that wrote a point that is meant, and the least of these -/
def FstO (L : List Cm) (fr : Nat) (M : Pt → Prop) : Option (Nat × Pt) → Prop
  | none => ∀ c ∈ L, fr < c.s → ∀ x ∈ c.W, ¬ M x
  | some q => ∃ c ∈ L, c.s = q.1 ∧ fr < q.1 ∧ IsMin (fun x => x ∈ c.W ∧ M x) (some q.2) ∧ ∀ c' ∈ L, fr < c'.s → c'.s < q.1 → ∀ x ∈ c'.W, ¬ M x
/-- what Read tells of a foot -/
structure RdQ (a : Ft) (L : List Cm) (fr : Nat) (q : Option (Nat × Pt)) : Prop where
  ok : chkF a = 0 → FstO L fr a.rds q
  bad : chkF a ≠ 0 → q = none
theorem FstO.of {L : List Cm} {fr r : Nat} {M : Pt → Prop} (h : IsL L fr (fun c => ∃ x ∈ c.W, M x) r) (hr : r = 18446744073709551615) (hI : InvC L) : FstO L fr M none := by
  rcases h with ⟨_, h⟩ | ⟨c, hc, e, _⟩
  · exact fun c hc hf x hx hm => h c hc hf ⟨x, hx, hm⟩
  · have := hI.hi c hc
    omega
theorem FstO.at {L : List Cm} {fr r : Nat} {M : Pt → Prop} (h : IsL L fr (fun c => ∃ x ∈ c.W, M x) r) (hr : r ≠ 18446744073709551615) : ∃ i, ∃ hi : i < L.length, L[i].s = r ∧ ∀ o, IsMin (fun x => x ∈ L[i].W ∧ M x) o → ∃ x, o = some x ∧ FstO L fr M (some (r, x)) := by
  rcases h with ⟨e, _⟩ | ⟨c, hc, e, h1, h2, h3⟩
  · exact absurd e hr
  · obtain ⟨i, hi, rfl⟩ := List.getElem_of_mem hc
    refine ⟨i, hi, e, fun o ho => ?_⟩
    cases o with
    | none =>
      obtain ⟨x, hx, hm⟩ := h2
      exact absurd ⟨hx, hm⟩ (ho x)
    | some x =>
      exact ⟨x, rfl, L[i], List.getElem_mem hi, e, h1, ho, fun c' hc' hf hl y hy hm => by
        have := h3 c' hc' hf ⟨y, hy, hm⟩
        omega⟩
theorem set4 {w : World} {g : Nat} {a b c d x0 x1 x2 x3 : Value} {T : TypeId} (h : Blk w g #[a, b, c, d] T) :
    Blk ((((w.setCell ⟨g, 0, none⟩ x0).setCell ⟨g, 1, none⟩ x1).setCell ⟨g, 2, none⟩ x2).setCell ⟨g, 3, none⟩ x3) g #[x0, x1, x2, x3] T ∧ Frm w ((((w.setCell ⟨g, 0, none⟩ x0).setCell ⟨g, 1, none⟩ x1).setCell ⟨g, 2, none⟩ x2).setCell ⟨g, 3, none⟩ x3) (fun k => k = g) :=
  ⟨(((h.set 0 _).set 1 _).set 2 _).set 3 _, (((frm_set _ _ _ _ (F := fun k => k = g) (.inl rfl)).trans (frm_set _ _ _ _ (F := fun k => k = g) (.inl rfl)) (fun _k hk => .inl hk)).trans (frm_set _ _ _ _ (F := fun k => k = g) (.inl rfl)) (fun _k hk => .inl hk)).trans (frm_set _ _ _ _ (F := fun k => k = g) (.inl rfl)) (fun _k hk => .inl hk)⟩
theorem set3 {w : World} {g : Nat} {a b c x0 x1 x2 : Value} {T : TypeId} (h : Blk w g #[a, b, c] T) :
    Blk (((w.setCell ⟨g, 0, none⟩ x0).setCell ⟨g, 1, none⟩ x1).setCell ⟨g, 2, none⟩ x2) g #[x0, x1, x2] T ∧ Frm w (((w.setCell ⟨g, 0, none⟩ x0).setCell ⟨g, 1, none⟩ x1).setCell ⟨g, 2, none⟩ x2) (fun k => k = g) :=
  ⟨((h.set 0 _).set 1 _).set 2 _, ((frm_set _ _ _ _ (F := fun k => k = g) (.inl rfl)).trans (frm_set _ _ _ _ (F := fun k => k = g) (.inl rfl)) (fun _k hk => .inl hk)).trans (frm_set _ _ _ _ (F := fun k => k = g) (.inl rfl)) (fun _k hk => .inl hk)⟩
theorem chk_part {f : Ft} (h : chkF f = 0) : chkF ⟨[], f.S, []⟩ = 0 := by
  unfold chkF at h ⊢
  by_cases h9 : 65536 < f.size
  · rw [if_pos h9] at h; cases h
  · rw [if_neg h9] at h
    have h10 : ¬ 65536 < (⟨[], f.S, []⟩ : Ft).size := by unfold Ft.size at *; simp at *; omega
    rw [if_neg h10]
    by_cases h2 : (f.P.any (fun y : Pt => !plB y.t y.i) || (f.S.any (fun y : Sp => !plB y.t y.i) || f.W.any (fun y : Pt => !plB y.t y.i))) = true
    · rw [if_pos h2] at h; cases h
    · rw [if_neg]
      intro h3
      apply h2
      simp only [List.any_nil, Bool.false_or, Bool.or_false] at h3
      simp [h3]
set_option maxHeartbeats 8000000 in
theorem read_any (a : Ft) (va0 va1 va2 : Value) (lb fr : Nat) (vC : Value) (mb : Nat) (E : List (Pt × Value)) (L : List Cm) (w : World) (hX : LogX w lb vC mb E L) (ha : RdF w va0 va1 va2 a) (hfr : fr < 18446744073709551616) :
    Calls Tryz.prog 9 #[ptr1 lb, .agg #[va0, va1, va2], .int .u64 (fr : Nat)] w fun e w' => ∃ q, e = .returned (clV q) ∧ RdQ a L fr q ∧ Below w.heap.size w w' := by
  obtain ⟨p0, c0, e0, -⟩ := ha.p.f
  obtain ⟨p1, c1, e1, -⟩ := ha.s.f
  obtain ⟨p2, c2, e2, -⟩ := ha.w.f
  obtain ⟨n0, hn0⟩ : ∃ n, a.P.length = n := ⟨_, rfl⟩
  obtain ⟨n1, hn1⟩ : ∃ n, a.S.length = n := ⟨_, rfl⟩
  obtain ⟨n2, hn2⟩ : ∃ n, a.W.length = n := ⟨_, rfl⟩
  rw [hn0] at e0
  rw [hn1] at e1
  rw [hn2] at e2
  subst e0 e1 e2
  clear hn0 hn1 hn2
  obtain ⟨w2, hw2⟩ : ∃ w2, ((w.alloc (.cells #[.slice p0 n0 c0, .slice p1 n1 c1, .slice p2 n2 c2] 27)).alloc (.cells #[.int .u64 0, .int .i64 0, .int .i64 0, .string ⟨#[]⟩] 38)) = w2 := ⟨_, rfl⟩
  have HB2 : Hid (Below w.heap.size w w2) := by rw [← hw2]; exact ((Below.refl _ _).alloc (Nat.le_refl _) _).alloc (by simp) _
  have HKA : Hid (Blk w2 w.heap.size #[.slice p0 n0 c0, .slice p1 n1 c1, .slice p2 n2 c2] 27) := by rw [← hw2]; exact (Blk.new w _ _).keep (B := w.heap.size + 1) ((Below.refl _ _).alloc (by simp) _) (by omega)
  have HKB : Hid (Blk w2 (w.heap.size + 1) #[.int .u64 0, .int .i64 0, .int .i64 0, .string ⟨#[]⟩] 38) := by
    rw [← hw2]
    have h := Blk.new (w.alloc (.cells #[.slice p0 n0 c0, .slice p1 n1 c1, .slice p2 n2 c2] 27)) #[.int .u64 0, .int .i64 0, .int .i64 0, .string ⟨#[]⟩] 38
    rw [World.size_alloc] at h
    exact h
  have HX2 : Hid (LogX w2 lb vC mb E L) := hX.on HB2.out
  have HA2 : Hid (RdF w2 _ _ _ a) := ha.on HB2.out
  have HI : Hid (InvC L) := hX.inv
  have CG : Hid (Calls _ _ _ _ _) := given_any lb _ _ w2 HX2.out.blk
  have CC : Hid (Calls _ _ _ _ _) := check_any a _ _ _ w2 HA2.out
  have k0 := HKA.out.cell (i := 0) rfl
  have k1 := HKA.out.cell (i := 1) rfl
  have k2 := HKA.out.cell (i := 2) rfl
  clear hX ha
  by_cases hca : chkF a = 0
  · have HCA : Hid (chkF a = 0) := hca
    rw [hca] at CC
    go_enter Tryz.func9, Tryz.ntmps9
    go_wp2_with fail
    refine CG.out.mono ?_
    rintro e w3 ⟨rfl, hw3⟩
    obtain rfl := hw3.symm
    clear CG
    go_wp2_with fail
    refine CC.out.mono ?_
    rintro e w3 ⟨rfl, hb3⟩
    clear CC k0 k1 k2 hw2
    have HB3 : Hid (Below w2.heap.size w2 w3) := hb3
    clear hb3
    have CO : Hid (Calls _ _ _ _ _) := firstOf_any lb fr vC mb E L a.P _ w3 (HX2.out.on HB3.out) (HA2.out.on HB3.out).p HA2.out.lp hfr
    have k0 := (HKA.out.on HB3.out).cell (i := 0) rfl
    go_wp2_with fail
    refine CO.out.mono ?_
    rintro e w4 ⟨s, rfl, hsL, hb4⟩
    clear CO k0
    have HB4 : Hid (Below w2.heap.size w2 w4) := HB3.out.trans (hb4.mono HB3.out.size)
    have HL1 : Hid (IsL L fr (fun c => ∃ x ∈ a.P, x ∈ c.W) s) := hsL
    have hsl : s < 18446744073709551616 := by have := hsL.le HI.out; omega
    clear hb4 HB3 hsL
    have CI : Hid (Calls _ _ _ _ _) := firstIn_any lb fr s vC mb E L a.S _ w4 (HX2.out.on HB4.out) (HA2.out.on HB4.out).s (chk_part hca) hfr hsl
    have k1 := (HKA.out.on HB4.out).cell (i := 1) rfl
    have HSl : Hid (s < 18446744073709551616) := hsl
    clear hsl hca
    go_wp2_with fail
    refine CI.out.mono ?_
    rintro e w5 ⟨r, rfl, hrL, hb5⟩
    clear CI k1
    have HB5 : Hid (Below w2.heap.size w2 w5) := HB4.out.trans (hb5.mono HB4.out.size)
    have HL2 : Hid (IsL L fr (fun c => ∃ x ∈ c.W, a.rds x) (min s r)) := (IsL.both HI.out HL1.out hrL).ext (fun c _ => by
      constructor
      · rintro (⟨x, h1, h2⟩ | ⟨x, h1, h2⟩)
        · exact ⟨x, h2, .inl h1⟩
        · exact ⟨x, h1, .inr ((anyS_iff _ _).1 h2)⟩
      · rintro ⟨x, h1, h2 | h2⟩
        · exact .inl ⟨x, h2, h1⟩
        · exact .inr ⟨x, h1, (anyS_iff _ _).2 h2⟩)
    clear hrL hb5 HB4 HL1
    have hmn : (min (s : Int) (r : Int)) = ((min s r : Nat) : Int) := by omega
    obtain ⟨m, hm⟩ : ∃ m, min s r = m := ⟨_, rfl⟩
    rw [hm] at HL2 hmn
    have HSm : Hid (m ≤ 18446744073709551615) := HL2.out.le HI.out
    clear hm
    by_cases hmz : m = 18446744073709551615
    · have HF := FstO.of HL2.out hmz HI.out
      subst hmz
      have hz := HKB.out.on HB5.out
      have z0 := hz.cell (i := 0) rfl
      have z1 := hz.cell (i := 1) rfl
      have z2 := hz.cell (i := 2) rfl
      have z3 := hz.cell (i := 3) rfl
      have f0 := hz.frozen 0
      have f1 := hz.frozen 1
      have f2 := hz.frozen 2
      have f3 := hz.frozen 3
      have HQ : Hid (RdQ a L fr none) := ⟨fun _ => HF, fun _ => rfl⟩
      have HE : Hid (Below w.heap.size w w5) := HB2.out.trans (HB5.out.mono HB2.out.size)
      have H4 : Hid (Blk ((((w5.setCell ⟨w.heap.size + 1, 0, none⟩ (.int .u64 0)).setCell ⟨w.heap.size + 1, 1, none⟩ (.int .i64 0)).setCell ⟨w.heap.size + 1, 2, none⟩ (.int .i64 0)).setCell ⟨w.heap.size + 1, 3, none⟩ (.string ⟨#[]⟩)) (w.heap.size + 1) #[(.int .u64 0), (.int .i64 0), (.int .i64 0), (.string ⟨#[]⟩)] 38 ∧ Frm w5 ((((w5.setCell ⟨w.heap.size + 1, 0, none⟩ (.int .u64 0)).setCell ⟨w.heap.size + 1, 1, none⟩ (.int .i64 0)).setCell ⟨w.heap.size + 1, 2, none⟩ (.int .i64 0)).setCell ⟨w.heap.size + 1, 3, none⟩ (.string ⟨#[]⟩)) (fun k => k = w.heap.size + 1)) := set4 hz
      have HE4 : Hid (Below w.heap.size w ((((w5.setCell ⟨w.heap.size + 1, 0, none⟩ (.int .u64 0)).setCell ⟨w.heap.size + 1, 1, none⟩ (.int .i64 0)).setCell ⟨w.heap.size + 1, 2, none⟩ (.int .i64 0)).setCell ⟨w.heap.size + 1, 3, none⟩ (.string ⟨#[]⟩))) := HE.out.trans (H4.out.2.below HE.out.size (fun k hk => by omega))
      clear HF hz HL2 HB5 HB2 HKA HKB HX2 HA2
      go_wp2_with fail
      clear z0 z1 z2 z3 f0 f1 f2 f3
      generalize (((w5.setCell ⟨w.heap.size + 1, 0, none⟩ (.int .u64 0)).setCell ⟨w.heap.size + 1, 1, none⟩ (.int .i64 0)).setCell ⟨w.heap.size + 1, 2, none⟩ (.int .i64 0)).setCell ⟨w.heap.size + 1, 3, none⟩ (.string ⟨#[]⟩) = wz at *
      have r0 := H4.out.1.cell (i := 0) rfl
      have r1 := H4.out.1.cell (i := 1) rfl
      have r2 := H4.out.1.cell (i := 2) rfl
      have r3 := H4.out.1.cell (i := 3) rfl
      refine bodyPost_ret (v := clV none) (by simp [clV, results, Tryz.results9, go_sem, r0, r1, r2, r3]) rfl ?_
      exact ⟨none, rfl, HQ.out, HE4.out⟩
    · obtain ⟨i, hi, his, hmin⟩ := FstO.at HL2.out hmz
      have HXf : Hid (LogX w5 lb vC mb E L) := HX2.out.on HB5.out
      have hft := HXf.out.com.ft L[i] (List.getElem_mem hi)
      have CA : Hid (∀ w7 : World, Below w5.heap.size w5 w7 → Calls Tryz.prog 24 #[ptr1 lb, .int .u64 (m : Nat)] w7 fun e w' => e = .returned (.agg #[L[i].v0, L[i].v1, L[i].v2]) ∧ Below w7.heap.size w7 w') := fun w7 hb => by
        have := at_any lb _ _ L w7 (HXf.out.on hb).blk (HXf.out.on hb).com HI.out i hi
        rw [his] at this
        exact this
      have CQ : Hid (∀ w7 : World, Below w5.heap.size w5 w7 → Calls Tryz.prog 23 #[.agg #[.slice p0 n0 c0, .slice p1 n1 c1, .slice p2 n2 c2], .agg #[L[i].v0, L[i].v1, L[i].v2]] w7 fun e w' => ∃ x, FstO L fr a.rds (some (m, x)) ∧ e = .returned (.tuple #[.agg #[.int .i64 x.t, .int .i64 x.i, .string x.k], .bool true]) ∧ Below w7.heap.size w7 w') := fun w7 hb => by
        refine (clash_any a ⟨[], [], L[i].W⟩ _ _ _ _ _ _ w7 ((HA2.out.on HB5.out).on hb) (hft.on hb)).mono ?_
        rintro e w' ⟨o, ho, rfl, hb'⟩
        obtain ⟨x, rfl, hx⟩ := hmin o ho
        exact ⟨x, hx, rfl, hb'⟩
      obtain ⟨y0, z0, f0, -⟩ := hft.p.f
      obtain ⟨y1, z1, f1, -⟩ := hft.s.f
      obtain ⟨y2, z2, f2, -⟩ := hft.w.f
      generalize L[i].v0 = x0 at *
      generalize L[i].v1 = x1 at *
      generalize L[i].v2 = x2 at *
      have HKA5 : Hid (Blk w5 w.heap.size #[.slice p0 n0 c0, .slice p1 n1 c1, .slice p2 n2 c2] 27) := HKA.out.on HB5.out
      have HKB5 : Hid (Blk w5 (w.heap.size + 1) #[.int .u64 0, .int .i64 0, .int .i64 0, .string ⟨#[]⟩] 38) := HKB.out.on HB5.out
      have HE5 : Hid (Below w.heap.size w w5) := HB2.out.trans (HB5.out.mono HB2.out.size)
      have HSm2 : Hid (¬ m = 18446744073709551615) := hmz
      clear hft f0 f1 f2 hmin his HKA HKB HXf HL2 HB5 HX2 HA2
      have hmd : decide ((m : Int) = 18446744073709551615) = false := decide_eq_false (by omega)
      have hmb : ((m : Int) == 18446744073709551615) = false := by simp; omega
      clear hmz
      go_upto_region 7 with fail
      clear hmd hmb hmn
      refine wp_region_L (fun w' => Below w5.heap.size w5 w') 11 (by kernel_rfl) ?_
      have HBwd : Hid (Below w5.heap.size w5 w5.drew) := (Below.refl _ _).drew
      generalize w5.drew = wd at *
      refine wpL_take (v := ?_) 0 rfl (by kernel_rfl) (fun _ _ _ h => h) (by rfl) ?_ HBwd.out ?_
      rotate_left
      focus
        intro w9 hw9
        have a0 := (HKA5.out.on hw9).cell (i := 0) rfl
        have a1 := (HKA5.out.on hw9).cell (i := 1) rfl
        have a2 := (HKA5.out.on hw9).cell (i := 2) rfl
        go_simp
        try with_reducible rfl
      try simp only [Act.put, List.setIfInBounds_toArray, List.set_cons_zero, List.set_cons_succ]
      refine wpL_take (v := ?_) 1 rfl (by kernel_rfl) (fun _ _ _ h => h) (by rfl) ?_ HBwd.out ?_
      rotate_left
      focus
        intro w9 hw9
        have a0 := (HKA5.out.on hw9).cell (i := 0) rfl
        have a1 := (HKA5.out.on hw9).cell (i := 1) rfl
        have a2 := (HKA5.out.on hw9).cell (i := 2) rfl
        go_simp
        try with_reducible rfl
      try simp only [Act.put, List.setIfInBounds_toArray, List.set_cons_zero, List.set_cons_succ]
      refine wpL_take (v := ?_) 2 rfl (by kernel_rfl) (fun _ _ _ h => h) (by rfl) ?_ HBwd.out ?_
      rotate_left
      focus
        intro w9 hw9
        have a0 := (HKA5.out.on hw9).cell (i := 0) rfl
        have a1 := (HKA5.out.on hw9).cell (i := 1) rfl
        have a2 := (HKA5.out.on hw9).cell (i := 2) rfl
        go_simp
        try with_reducible rfl
      try simp only [Act.put, List.setIfInBounds_toArray, List.set_cons_zero, List.set_cons_succ]
      refine wpL_two18 3 8 rfl rfl (by kernel_rfl) (by rfl) (by rfl) ?_ ?_
      · intro K hK
        go_simp
        refine (CA.out wd HBwd.out).mono ?_
        rintro e wu1 ⟨rfl, hbwu1⟩
        dsimp only
        have HBwu1 : Hid (Below w5.heap.size w5 wu1) := HBwd.out.trans ((hbwu1).mono HBwd.out.size)
        clear hbwu1
        refine hK.out _ _ (fun _ => HBwu1.out) ?_
        clear hK K
        try simp only [Act.put, List.setIfInBounds_toArray, List.set_cons_zero, List.set_cons_succ]
        refine wpL_two18 4 8 rfl rfl (by kernel_rfl) (by rfl) (by rfl) ?_ ?_
        · intro K hK
          go_simp
          refine (CQ.out wu1 HBwu1.out).mono ?_
          rintro e wu2 ⟨x, hx, rfl, hbwu2⟩
          have HFx : Hid (FstO L fr a.rds (some (m, x))) := hx
          clear hx
          dsimp only
          have HBwu2 : Hid (Below w5.heap.size w5 wu2) := HBwu1.out.trans ((hbwu2).mono HBwu1.out.size)
          clear hbwu2
          refine hK.out _ _ (fun _ => HBwu2.out) ?_
          clear hK K
          try simp only [Act.put, List.setIfInBounds_toArray, List.set_cons_zero, List.set_cons_succ]
          refine wpL_take (v := ?_) 5 rfl (by kernel_rfl) (fun _ _ _ h => h) (by rfl) ?_ HBwu2.out ?_
          rotate_left
          focus
            intro w9 hw9

            go_simp
            try with_reducible rfl
          try simp only [Act.put, List.setIfInBounds_toArray, List.set_cons_zero, List.set_cons_succ]
          refine wpL_take (v := ?_) 6 rfl (by kernel_rfl) (fun _ _ _ h => h) (by rfl) ?_ HBwu2.out ?_
          rotate_left
          focus
            intro w9 hw9

            go_simp
            try with_reducible rfl
          try simp only [Act.put, List.setIfInBounds_toArray, List.set_cons_zero, List.set_cons_succ]
          refine wpL_take (v := ?_) 7 rfl (by kernel_rfl) (fun _ _ _ h => h) (by rfl) ?_ HBwu2.out ?_
          rotate_left
          focus
            intro w9 hw9

            go_simp
            try with_reducible rfl
          try simp only [Act.put, List.setIfInBounds_toArray, List.set_cons_zero, List.set_cons_succ]
          refine wpL_one 8 rfl (by kernel_rfl) (by rfl) ?_
          intro K hK
          go_simp
          have hal : Below wu2.heap.size wu2 (wu2.alloc (.cells #[.int .i64 0, .int .i64 0, .string ⟨#[]⟩] 36)) := (Below.refl _ _).alloc (Nat.le_refl _) _
          have HZwu3 : Hid (Blk (wu2.alloc (.cells #[.int .i64 0, .int .i64 0, .string ⟨#[]⟩] 36)) wu2.heap.size #[.int .i64 0, .int .i64 0, .string ⟨#[]⟩] 36) := Blk.new wu2 _ _
          have HBwu3 : Hid (Below w5.heap.size w5 (wu2.alloc (.cells #[.int .i64 0, .int .i64 0, .string ⟨#[]⟩] 36))) := HBwu2.out.trans (hal.mono HBwu2.out.size)
          have HLe : Hid (w5.heap.size ≤ wu2.heap.size) := HBwu2.out.size
          clear hal
          generalize (wu2.alloc (.cells #[.int .i64 0, .int .i64 0, .string ⟨#[]⟩] 36)) = wu3 at *
          refine hK.out _ _ (fun _ => HBwu3.out) ?_
          clear hK K
          try simp only [Act.put, List.setIfInBounds_toArray, List.set_cons_zero, List.set_cons_succ]
          have q0 := HZwu3.out.cell (i := 0) rfl
          have q1 := HZwu3.out.cell (i := 1) rfl
          have q2 := HZwu3.out.cell (i := 2) rfl
          have g0 := HZwu3.out.frozen 0
          have g1 := HZwu3.out.frozen 1
          have g2 := HZwu3.out.frozen 2
          have H3 : Hid (Blk (((wu3.setCell ⟨wu2.heap.size, 0, none⟩ (.int .i64 x.t)).setCell ⟨wu2.heap.size, 1, none⟩ (.int .i64 x.i)).setCell ⟨wu2.heap.size, 2, none⟩ (.string x.k)) wu2.heap.size #[.int .i64 x.t, .int .i64 x.i, .string x.k] 36 ∧ Frm wu3 (((wu3.setCell ⟨wu2.heap.size, 0, none⟩ (.int .i64 x.t)).setCell ⟨wu2.heap.size, 1, none⟩ (.int .i64 x.i)).setCell ⟨wu2.heap.size, 2, none⟩ (.string x.k)) (fun k => k = wu2.heap.size)) := set3 HZwu3.out
          have HBs : Hid (Below w5.heap.size w5 (((wu3.setCell ⟨wu2.heap.size, 0, none⟩ (.int .i64 x.t)).setCell ⟨wu2.heap.size, 1, none⟩ (.int .i64 x.i)).setCell ⟨wu2.heap.size, 2, none⟩ (.string x.k))) := HBwu3.out.trans (H3.out.2.below HBwu3.out.size (fun k hk => by have := HLe.out; omega))
          refine wpL_one 9 rfl (by kernel_rfl) (by rfl) ?_
          intro K hK
          go_simp
          refine hK.out _ _ (fun _ => HBs.out) ?_
          clear hK K q0 q1 q2 g0 g1 g2
          generalize ((wu3.setCell ⟨wu2.heap.size, 0, none⟩ (.int .i64 x.t)).setCell ⟨wu2.heap.size, 1, none⟩ (.int .i64 x.i)).setCell ⟨wu2.heap.size, 2, none⟩ (.string x.k) = ws at *
          try simp only [Act.put, List.setIfInBounds_toArray, List.set_cons_zero, List.set_cons_succ]
          refine wpL_take (v := ?_) 10 rfl (by kernel_rfl) (fun _ _ _ h => h) (by rfl) ?_ HBs.out ?_
          rotate_left
          focus
            intro w9 hw9

            go_simp
            try with_reducible rfl
          try simp only [Act.put, List.setIfInBounds_toArray, List.set_cons_zero, List.set_cons_succ]
          refine wpL_done (by kernel_rfl) ?_ _
          try simp only [NoPanic]
          have HE : Hid (Below w.heap.size w ws) := HE5.out.trans (HBs.out.mono HE5.out.size)
          have hz := HKB5.out.on HBs.out
          have z0 := hz.cell (i := 0) rfl
          have z1 := hz.cell (i := 1) rfl
          have z2 := hz.cell (i := 2) rfl
          have z3 := hz.cell (i := 3) rfl
          have f0 := hz.frozen 0
          have f1 := hz.frozen 1
          have f2 := hz.frozen 2
          have f3 := hz.frozen 3
          have q0 := H3.out.1.cell (i := 0) rfl
          have q1 := H3.out.1.cell (i := 1) rfl
          have q2 := H3.out.1.cell (i := 2) rfl
          have HQ : Hid (RdQ a L fr (some (m, x))) := ⟨fun _ => HFx.out, fun h => absurd HCA.out h⟩
          have H4 : Hid (Blk ((((ws.setCell ⟨w.heap.size + 1, 0, none⟩ (.int .u64 (m : Nat))).setCell ⟨w.heap.size + 1, 1, none⟩ (.int .i64 x.t)).setCell ⟨w.heap.size + 1, 2, none⟩ (.int .i64 x.i)).setCell ⟨w.heap.size + 1, 3, none⟩ (.string x.k)) (w.heap.size + 1) #[(.int .u64 (m : Nat)), (.int .i64 x.t), (.int .i64 x.i), (.string x.k)] 38 ∧ Frm ws ((((ws.setCell ⟨w.heap.size + 1, 0, none⟩ (.int .u64 (m : Nat))).setCell ⟨w.heap.size + 1, 1, none⟩ (.int .i64 x.t)).setCell ⟨w.heap.size + 1, 2, none⟩ (.int .i64 x.i)).setCell ⟨w.heap.size + 1, 3, none⟩ (.string x.k)) (fun k => k = w.heap.size + 1)) := set4 hz
          have HE4 : Hid (Below w.heap.size w ((((ws.setCell ⟨w.heap.size + 1, 0, none⟩ (.int .u64 (m : Nat))).setCell ⟨w.heap.size + 1, 1, none⟩ (.int .i64 x.t)).setCell ⟨w.heap.size + 1, 2, none⟩ (.int .i64 x.i)).setCell ⟨w.heap.size + 1, 3, none⟩ (.string x.k))) := HE.out.trans (H4.out.2.below HE.out.size (fun k hk => by omega))
          clear hz
          go_wp2_with fail
          clear z0 z1 z2 z3 f0 f1 f2 f3 q0 q1 q2
          generalize (((ws.setCell ⟨w.heap.size + 1, 0, none⟩ (.int .u64 (m : Nat))).setCell ⟨w.heap.size + 1, 1, none⟩ (.int .i64 x.t)).setCell ⟨w.heap.size + 1, 2, none⟩ (.int .i64 x.i)).setCell ⟨w.heap.size + 1, 3, none⟩ (.string x.k) = wz at *
          have r0 := H4.out.1.cell (i := 0) rfl
          have r1 := H4.out.1.cell (i := 1) rfl
          have r2 := H4.out.1.cell (i := 2) rfl
          have r3 := H4.out.1.cell (i := 3) rfl
          refine bodyPost_ret (v := clV (some (m, x))) (by simp [clV, results, Tryz.results9, go_sem, r0, r1, r2, r3]) rfl ?_
          exact ⟨some (m, x), rfl, HQ.out, HE4.out⟩
        · intro K hK
          go_simp
          have hal : Below wu1.heap.size wu1 (wu1.alloc (.cells #[.int .i64 0, .int .i64 0, .string ⟨#[]⟩] 36)) := (Below.refl _ _).alloc (Nat.le_refl _) _
          have HZwu4 : Hid (Blk (wu1.alloc (.cells #[.int .i64 0, .int .i64 0, .string ⟨#[]⟩] 36)) wu1.heap.size #[.int .i64 0, .int .i64 0, .string ⟨#[]⟩] 36) := Blk.new wu1 _ _
          have HBwu4 : Hid (Below w5.heap.size w5 (wu1.alloc (.cells #[.int .i64 0, .int .i64 0, .string ⟨#[]⟩] 36))) := HBwu1.out.trans (hal.mono HBwu1.out.size)
          have HLe : Hid (w5.heap.size ≤ wu1.heap.size) := HBwu1.out.size
          clear hal
          generalize (wu1.alloc (.cells #[.int .i64 0, .int .i64 0, .string ⟨#[]⟩] 36)) = wu4 at *
          refine hK.out _ _ (fun _ => HBwu4.out) ?_
          clear hK K
          try simp only [Act.put, List.setIfInBounds_toArray, List.set_cons_zero, List.set_cons_succ]
          refine wpL_one 4 rfl (by kernel_rfl) (by rfl) ?_
          intro K hK
          go_simp
          refine (CQ.out wu4 HBwu4.out).mono ?_
          rintro e wu5 ⟨x, hx, rfl, hbwu5⟩
          have HFx : Hid (FstO L fr a.rds (some (m, x))) := hx
          clear hx
          dsimp only
          have HBwu5 : Hid (Below w5.heap.size w5 wu5) := HBwu4.out.trans ((hbwu5).mono HBwu4.out.size)
          have HZwu5 : Hid (Blk wu5 wu1.heap.size #[.int .i64 0, .int .i64 0, .string ⟨#[]⟩] 36) := HZwu4.out.on (hbwu5)
          clear hbwu5
          refine hK.out _ _ (fun _ => HBwu5.out) ?_
          clear hK K
          try simp only [Act.put, List.setIfInBounds_toArray, List.set_cons_zero, List.set_cons_succ]
          refine wpL_take (v := ?_) 5 rfl (by kernel_rfl) (fun _ _ _ h => h) (by rfl) ?_ HBwu5.out ?_
          rotate_left
          focus
            intro w9 hw9

            go_simp
            try with_reducible rfl
          try simp only [Act.put, List.setIfInBounds_toArray, List.set_cons_zero, List.set_cons_succ]
          refine wpL_take (v := ?_) 6 rfl (by kernel_rfl) (fun _ _ _ h => h) (by rfl) ?_ HBwu5.out ?_
          rotate_left
          focus
            intro w9 hw9

            go_simp
            try with_reducible rfl
          try simp only [Act.put, List.setIfInBounds_toArray, List.set_cons_zero, List.set_cons_succ]
          refine wpL_take (v := ?_) 7 rfl (by kernel_rfl) (fun _ _ _ h => h) (by rfl) ?_ HBwu5.out ?_
          rotate_left
          focus
            intro w9 hw9

            go_simp
            try with_reducible rfl
          try simp only [Act.put, List.setIfInBounds_toArray, List.set_cons_zero, List.set_cons_succ]
          have q0 := HZwu5.out.cell (i := 0) rfl
          have q1 := HZwu5.out.cell (i := 1) rfl
          have q2 := HZwu5.out.cell (i := 2) rfl
          have g0 := HZwu5.out.frozen 0
          have g1 := HZwu5.out.frozen 1
          have g2 := HZwu5.out.frozen 2
          have H3 : Hid (Blk (((wu5.setCell ⟨wu1.heap.size, 0, none⟩ (.int .i64 x.t)).setCell ⟨wu1.heap.size, 1, none⟩ (.int .i64 x.i)).setCell ⟨wu1.heap.size, 2, none⟩ (.string x.k)) wu1.heap.size #[.int .i64 x.t, .int .i64 x.i, .string x.k] 36 ∧ Frm wu5 (((wu5.setCell ⟨wu1.heap.size, 0, none⟩ (.int .i64 x.t)).setCell ⟨wu1.heap.size, 1, none⟩ (.int .i64 x.i)).setCell ⟨wu1.heap.size, 2, none⟩ (.string x.k)) (fun k => k = wu1.heap.size)) := set3 HZwu5.out
          have HBs : Hid (Below w5.heap.size w5 (((wu5.setCell ⟨wu1.heap.size, 0, none⟩ (.int .i64 x.t)).setCell ⟨wu1.heap.size, 1, none⟩ (.int .i64 x.i)).setCell ⟨wu1.heap.size, 2, none⟩ (.string x.k))) := HBwu5.out.trans (H3.out.2.below HBwu5.out.size (fun k hk => by have := HLe.out; omega))
          refine wpL_one 9 rfl (by kernel_rfl) (by rfl) ?_
          intro K hK
          go_simp
          refine hK.out _ _ (fun _ => HBs.out) ?_
          clear hK K q0 q1 q2 g0 g1 g2
          generalize ((wu5.setCell ⟨wu1.heap.size, 0, none⟩ (.int .i64 x.t)).setCell ⟨wu1.heap.size, 1, none⟩ (.int .i64 x.i)).setCell ⟨wu1.heap.size, 2, none⟩ (.string x.k) = ws at *
          try simp only [Act.put, List.setIfInBounds_toArray, List.set_cons_zero, List.set_cons_succ]
          refine wpL_take (v := ?_) 10 rfl (by kernel_rfl) (fun _ _ _ h => h) (by rfl) ?_ HBs.out ?_
          rotate_left
          focus
            intro w9 hw9

            go_simp
            try with_reducible rfl
          try simp only [Act.put, List.setIfInBounds_toArray, List.set_cons_zero, List.set_cons_succ]
          refine wpL_done (by kernel_rfl) ?_ _
          try simp only [NoPanic]
          have HE : Hid (Below w.heap.size w ws) := HE5.out.trans (HBs.out.mono HE5.out.size)
          have hz := HKB5.out.on HBs.out
          have z0 := hz.cell (i := 0) rfl
          have z1 := hz.cell (i := 1) rfl
          have z2 := hz.cell (i := 2) rfl
          have z3 := hz.cell (i := 3) rfl
          have f0 := hz.frozen 0
          have f1 := hz.frozen 1
          have f2 := hz.frozen 2
          have f3 := hz.frozen 3
          have q0 := H3.out.1.cell (i := 0) rfl
          have q1 := H3.out.1.cell (i := 1) rfl
          have q2 := H3.out.1.cell (i := 2) rfl
          have HQ : Hid (RdQ a L fr (some (m, x))) := ⟨fun _ => HFx.out, fun h => absurd HCA.out h⟩
          have H4 : Hid (Blk ((((ws.setCell ⟨w.heap.size + 1, 0, none⟩ (.int .u64 (m : Nat))).setCell ⟨w.heap.size + 1, 1, none⟩ (.int .i64 x.t)).setCell ⟨w.heap.size + 1, 2, none⟩ (.int .i64 x.i)).setCell ⟨w.heap.size + 1, 3, none⟩ (.string x.k)) (w.heap.size + 1) #[(.int .u64 (m : Nat)), (.int .i64 x.t), (.int .i64 x.i), (.string x.k)] 38 ∧ Frm ws ((((ws.setCell ⟨w.heap.size + 1, 0, none⟩ (.int .u64 (m : Nat))).setCell ⟨w.heap.size + 1, 1, none⟩ (.int .i64 x.t)).setCell ⟨w.heap.size + 1, 2, none⟩ (.int .i64 x.i)).setCell ⟨w.heap.size + 1, 3, none⟩ (.string x.k)) (fun k => k = w.heap.size + 1)) := set4 hz
          have HE4 : Hid (Below w.heap.size w ((((ws.setCell ⟨w.heap.size + 1, 0, none⟩ (.int .u64 (m : Nat))).setCell ⟨w.heap.size + 1, 1, none⟩ (.int .i64 x.t)).setCell ⟨w.heap.size + 1, 2, none⟩ (.int .i64 x.i)).setCell ⟨w.heap.size + 1, 3, none⟩ (.string x.k))) := HE.out.trans (H4.out.2.below HE.out.size (fun k hk => by omega))
          clear hz
          go_wp2_with fail
          clear z0 z1 z2 z3 f0 f1 f2 f3 q0 q1 q2
          generalize (((ws.setCell ⟨w.heap.size + 1, 0, none⟩ (.int .u64 (m : Nat))).setCell ⟨w.heap.size + 1, 1, none⟩ (.int .i64 x.t)).setCell ⟨w.heap.size + 1, 2, none⟩ (.int .i64 x.i)).setCell ⟨w.heap.size + 1, 3, none⟩ (.string x.k) = wz at *
          have r0 := H4.out.1.cell (i := 0) rfl
          have r1 := H4.out.1.cell (i := 1) rfl
          have r2 := H4.out.1.cell (i := 2) rfl
          have r3 := H4.out.1.cell (i := 3) rfl
          refine bodyPost_ret (v := clV (some (m, x))) (by simp [clV, results, Tryz.results9, go_sem, r0, r1, r2, r3]) rfl ?_
          exact ⟨some (m, x), rfl, HQ.out, HE4.out⟩
      · intro K hK
        go_simp
        have hal : Below wd.heap.size wd (wd.alloc (.cells #[.int .i64 0, .int .i64 0, .string ⟨#[]⟩] 36)) := (Below.refl _ _).alloc (Nat.le_refl _) _
        have HZwu6 : Hid (Blk (wd.alloc (.cells #[.int .i64 0, .int .i64 0, .string ⟨#[]⟩] 36)) wd.heap.size #[.int .i64 0, .int .i64 0, .string ⟨#[]⟩] 36) := Blk.new wd _ _
        have HBwu6 : Hid (Below w5.heap.size w5 (wd.alloc (.cells #[.int .i64 0, .int .i64 0, .string ⟨#[]⟩] 36))) := HBwd.out.trans (hal.mono HBwd.out.size)
        have HLe : Hid (w5.heap.size ≤ wd.heap.size) := HBwd.out.size
        clear hal
        generalize (wd.alloc (.cells #[.int .i64 0, .int .i64 0, .string ⟨#[]⟩] 36)) = wu6 at *
        refine hK.out _ _ (fun _ => HBwu6.out) ?_
        clear hK K
        try simp only [Act.put, List.setIfInBounds_toArray, List.set_cons_zero, List.set_cons_succ]
        refine wpL_one 3 rfl (by kernel_rfl) (by rfl) ?_
        intro K hK
        go_simp
        refine (CA.out wu6 HBwu6.out).mono ?_
        rintro e wu7 ⟨rfl, hbwu7⟩
        dsimp only
        have HBwu7 : Hid (Below w5.heap.size w5 wu7) := HBwu6.out.trans ((hbwu7).mono HBwu6.out.size)
        have HZwu7 : Hid (Blk wu7 wd.heap.size #[.int .i64 0, .int .i64 0, .string ⟨#[]⟩] 36) := HZwu6.out.on (hbwu7)
        clear hbwu7
        refine hK.out _ _ (fun _ => HBwu7.out) ?_
        clear hK K
        try simp only [Act.put, List.setIfInBounds_toArray, List.set_cons_zero, List.set_cons_succ]
        refine wpL_one 4 rfl (by kernel_rfl) (by rfl) ?_
        intro K hK
        go_simp
        refine (CQ.out wu7 HBwu7.out).mono ?_
        rintro e wu8 ⟨x, hx, rfl, hbwu8⟩
        have HFx : Hid (FstO L fr a.rds (some (m, x))) := hx
        clear hx
        dsimp only
        have HBwu8 : Hid (Below w5.heap.size w5 wu8) := HBwu7.out.trans ((hbwu8).mono HBwu7.out.size)
        have HZwu8 : Hid (Blk wu8 wd.heap.size #[.int .i64 0, .int .i64 0, .string ⟨#[]⟩] 36) := HZwu7.out.on (hbwu8)
        clear hbwu8
        refine hK.out _ _ (fun _ => HBwu8.out) ?_
        clear hK K
        try simp only [Act.put, List.setIfInBounds_toArray, List.set_cons_zero, List.set_cons_succ]
        refine wpL_take (v := ?_) 5 rfl (by kernel_rfl) (fun _ _ _ h => h) (by rfl) ?_ HBwu8.out ?_
        rotate_left
        focus
          intro w9 hw9

          go_simp
          try with_reducible rfl
        try simp only [Act.put, List.setIfInBounds_toArray, List.set_cons_zero, List.set_cons_succ]
        refine wpL_take (v := ?_) 6 rfl (by kernel_rfl) (fun _ _ _ h => h) (by rfl) ?_ HBwu8.out ?_
        rotate_left
        focus
          intro w9 hw9

          go_simp
          try with_reducible rfl
        try simp only [Act.put, List.setIfInBounds_toArray, List.set_cons_zero, List.set_cons_succ]
        refine wpL_take (v := ?_) 7 rfl (by kernel_rfl) (fun _ _ _ h => h) (by rfl) ?_ HBwu8.out ?_
        rotate_left
        focus
          intro w9 hw9

          go_simp
          try with_reducible rfl
        try simp only [Act.put, List.setIfInBounds_toArray, List.set_cons_zero, List.set_cons_succ]
        have q0 := HZwu8.out.cell (i := 0) rfl
        have q1 := HZwu8.out.cell (i := 1) rfl
        have q2 := HZwu8.out.cell (i := 2) rfl
        have g0 := HZwu8.out.frozen 0
        have g1 := HZwu8.out.frozen 1
        have g2 := HZwu8.out.frozen 2
        have H3 : Hid (Blk (((wu8.setCell ⟨wd.heap.size, 0, none⟩ (.int .i64 x.t)).setCell ⟨wd.heap.size, 1, none⟩ (.int .i64 x.i)).setCell ⟨wd.heap.size, 2, none⟩ (.string x.k)) wd.heap.size #[.int .i64 x.t, .int .i64 x.i, .string x.k] 36 ∧ Frm wu8 (((wu8.setCell ⟨wd.heap.size, 0, none⟩ (.int .i64 x.t)).setCell ⟨wd.heap.size, 1, none⟩ (.int .i64 x.i)).setCell ⟨wd.heap.size, 2, none⟩ (.string x.k)) (fun k => k = wd.heap.size)) := set3 HZwu8.out
        have HBs : Hid (Below w5.heap.size w5 (((wu8.setCell ⟨wd.heap.size, 0, none⟩ (.int .i64 x.t)).setCell ⟨wd.heap.size, 1, none⟩ (.int .i64 x.i)).setCell ⟨wd.heap.size, 2, none⟩ (.string x.k))) := HBwu8.out.trans (H3.out.2.below HBwu8.out.size (fun k hk => by have := HLe.out; omega))
        refine wpL_one 9 rfl (by kernel_rfl) (by rfl) ?_
        intro K hK
        go_simp
        refine hK.out _ _ (fun _ => HBs.out) ?_
        clear hK K q0 q1 q2 g0 g1 g2
        generalize ((wu8.setCell ⟨wd.heap.size, 0, none⟩ (.int .i64 x.t)).setCell ⟨wd.heap.size, 1, none⟩ (.int .i64 x.i)).setCell ⟨wd.heap.size, 2, none⟩ (.string x.k) = ws at *
        try simp only [Act.put, List.setIfInBounds_toArray, List.set_cons_zero, List.set_cons_succ]
        refine wpL_take (v := ?_) 10 rfl (by kernel_rfl) (fun _ _ _ h => h) (by rfl) ?_ HBs.out ?_
        rotate_left
        focus
          intro w9 hw9

          go_simp
          try with_reducible rfl
        try simp only [Act.put, List.setIfInBounds_toArray, List.set_cons_zero, List.set_cons_succ]
        refine wpL_done (by kernel_rfl) ?_ _
        try simp only [NoPanic]
        have HE : Hid (Below w.heap.size w ws) := HE5.out.trans (HBs.out.mono HE5.out.size)
        have hz := HKB5.out.on HBs.out
        have z0 := hz.cell (i := 0) rfl
        have z1 := hz.cell (i := 1) rfl
        have z2 := hz.cell (i := 2) rfl
        have z3 := hz.cell (i := 3) rfl
        have f0 := hz.frozen 0
        have f1 := hz.frozen 1
        have f2 := hz.frozen 2
        have f3 := hz.frozen 3
        have q0 := H3.out.1.cell (i := 0) rfl
        have q1 := H3.out.1.cell (i := 1) rfl
        have q2 := H3.out.1.cell (i := 2) rfl
        have HQ : Hid (RdQ a L fr (some (m, x))) := ⟨fun _ => HFx.out, fun h => absurd HCA.out h⟩
        have H4 : Hid (Blk ((((ws.setCell ⟨w.heap.size + 1, 0, none⟩ (.int .u64 (m : Nat))).setCell ⟨w.heap.size + 1, 1, none⟩ (.int .i64 x.t)).setCell ⟨w.heap.size + 1, 2, none⟩ (.int .i64 x.i)).setCell ⟨w.heap.size + 1, 3, none⟩ (.string x.k)) (w.heap.size + 1) #[(.int .u64 (m : Nat)), (.int .i64 x.t), (.int .i64 x.i), (.string x.k)] 38 ∧ Frm ws ((((ws.setCell ⟨w.heap.size + 1, 0, none⟩ (.int .u64 (m : Nat))).setCell ⟨w.heap.size + 1, 1, none⟩ (.int .i64 x.t)).setCell ⟨w.heap.size + 1, 2, none⟩ (.int .i64 x.i)).setCell ⟨w.heap.size + 1, 3, none⟩ (.string x.k)) (fun k => k = w.heap.size + 1)) := set4 hz
        have HE4 : Hid (Below w.heap.size w ((((ws.setCell ⟨w.heap.size + 1, 0, none⟩ (.int .u64 (m : Nat))).setCell ⟨w.heap.size + 1, 1, none⟩ (.int .i64 x.t)).setCell ⟨w.heap.size + 1, 2, none⟩ (.int .i64 x.i)).setCell ⟨w.heap.size + 1, 3, none⟩ (.string x.k))) := HE.out.trans (H4.out.2.below HE.out.size (fun k hk => by omega))
        clear hz
        go_wp2_with fail
        clear z0 z1 z2 z3 f0 f1 f2 f3 q0 q1 q2
        generalize (((ws.setCell ⟨w.heap.size + 1, 0, none⟩ (.int .u64 (m : Nat))).setCell ⟨w.heap.size + 1, 1, none⟩ (.int .i64 x.t)).setCell ⟨w.heap.size + 1, 2, none⟩ (.int .i64 x.i)).setCell ⟨w.heap.size + 1, 3, none⟩ (.string x.k) = wz at *
        have r0 := H4.out.1.cell (i := 0) rfl
        have r1 := H4.out.1.cell (i := 1) rfl
        have r2 := H4.out.1.cell (i := 2) rfl
        have r3 := H4.out.1.cell (i := 3) rfl
        refine bodyPost_ret (v := clV (some (m, x))) (by simp [clV, results, Tryz.results9, go_sem, r0, r1, r2, r3]) rfl ?_
        exact ⟨some (m, x), rfl, HQ.out, HE4.out⟩
  · have HQ : Hid (RdQ a L fr none) := ⟨fun h => absurd h hca, fun _ => rfl⟩
    go_enter Tryz.func9, Tryz.ntmps9
    go_wp2_with fail
    refine CG.out.mono ?_
    rintro e w3 ⟨rfl, hw3⟩
    obtain rfl := hw3.symm
    clear CG
    go_wp2_with fail
    refine CC.out.mono ?_
    rintro e w3 ⟨rfl, hb3⟩
    clear CC k0 k1 k2 hw2
    have hz := HKB.out.on hb3
    have z0 := hz.cell (i := 0) rfl
    have z1 := hz.cell (i := 1) rfl
    have z2 := hz.cell (i := 2) rfl
    have z3 := hz.cell (i := 3) rfl
    have f0 := hz.frozen 0
    have f1 := hz.frozen 1
    have f2 := hz.frozen 2
    have f3 := hz.frozen 3
    have HE : Hid (Below w.heap.size w w3) := HB2.out.trans (hb3.mono HB2.out.size)
    have H4 : Hid (Blk ((((w3.setCell ⟨w.heap.size + 1, 0, none⟩ (.int .u64 0)).setCell ⟨w.heap.size + 1, 1, none⟩ (.int .i64 0)).setCell ⟨w.heap.size + 1, 2, none⟩ (.int .i64 0)).setCell ⟨w.heap.size + 1, 3, none⟩ (.string ⟨#[]⟩)) (w.heap.size + 1) #[(.int .u64 0), (.int .i64 0), (.int .i64 0), (.string ⟨#[]⟩)] 38 ∧ Frm w3 ((((w3.setCell ⟨w.heap.size + 1, 0, none⟩ (.int .u64 0)).setCell ⟨w.heap.size + 1, 1, none⟩ (.int .i64 0)).setCell ⟨w.heap.size + 1, 2, none⟩ (.int .i64 0)).setCell ⟨w.heap.size + 1, 3, none⟩ (.string ⟨#[]⟩)) (fun k => k = w.heap.size + 1)) := set4 hz
    have HE4 : Hid (Below w.heap.size w ((((w3.setCell ⟨w.heap.size + 1, 0, none⟩ (.int .u64 0)).setCell ⟨w.heap.size + 1, 1, none⟩ (.int .i64 0)).setCell ⟨w.heap.size + 1, 2, none⟩ (.int .i64 0)).setCell ⟨w.heap.size + 1, 3, none⟩ (.string ⟨#[]⟩))) := HE.out.trans (H4.out.2.below HE.out.size (fun k hk => by omega))
    clear hz hb3 HB2 HKA HKB HX2 HA2
    go_wp2_with fail
    clear z0 z1 z2 z3 f0 f1 f2 f3
    generalize (((w3.setCell ⟨w.heap.size + 1, 0, none⟩ (.int .u64 0)).setCell ⟨w.heap.size + 1, 1, none⟩ (.int .i64 0)).setCell ⟨w.heap.size + 1, 2, none⟩ (.int .i64 0)).setCell ⟨w.heap.size + 1, 3, none⟩ (.string ⟨#[]⟩) = wz at *
    have r0 := H4.out.1.cell (i := 0) rfl
    have r1 := H4.out.1.cell (i := 1) rfl
    have r2 := H4.out.1.cell (i := 2) rfl
    have r3 := H4.out.1.cell (i := 3) rfl
    refine bodyPost_ret (v := clV none) (by simp [clV, results, Tryz.results9, go_sem, r0, r1, r2, r3]) rfl ?_
    exact ⟨none, rfl, HQ.out, HE4.out⟩

end Go.Proofs.YtcknhjabdjbjiabGreat

namespace Go.Proofs.YtcknhjabdjbjiabGreat
open Go.RowKit
set_option maxRecDepth 100000

/-- blocks that a Log may write -/
def Tch (w : World) (k : Nat) : Prop := (∃ es c, w.heap[k]? = some (.map es c)) ∨ ∃ cs T m, w.heap[k]? = some (.cells cs T m) ∧ (T = 49 ∨ T = 75 ∨ T = 23)
def FB (B : Nat) (w : World) (k : Nat) : Prop := B ≤ k ∧ Tch w k
theorem FB.trans {B : Nat} {w w1 w2 : World} (h1 : Frm w w1 (FB B w)) (h2 : Frm w1 w2 (FB B w1)) : Frm w w2 (FB B w) := by
  refine h1.trans h2 (fun k hk => ?_)
  rcases Nat.lt_or_ge k w.heap.size with hlt | hge
  · left
    apply Classical.byContradiction
    intro hn
    have e := h1.block k hlt hn
    apply hn
    obtain ⟨h3, h4⟩ := hk
    refine ⟨h3, ?_⟩
    rcases h4 with ⟨es, c, h⟩ | ⟨cs, T, m, h, hT⟩
    · exact .inl ⟨es, c, e ▸ h⟩
    · exact .inr ⟨cs, T, m, e ▸ h, hT⟩
  · exact .inr hge
theorem FB.of_below {B : Nat} {w w1 : World} (h : Below w.heap.size w w1) : Frm w w1 (FB B w) := Frm.of_below h
/-- a row of another type stays -/
theorem FB.other {B : Nat} {w w1 : World} (h : Frm w w1 (FB B w)) {k : Nat} {cs : Array Value} {T : TypeId} {m : Nat × Nat} (hk : w.heap[k]? = some (.cells cs T m)) (hT : ¬ (T = 49 ∨ T = 75 ∨ T = 23)) : w1.heap[k]? = w.heap[k]? := by
  refine h.block k (Array.getElem?_eq_some_iff.1 hk).1 (fun hf => ?_)
  rcases hf.2 with ⟨es, c, h2⟩ | ⟨cs', T', m', h2, hT'⟩
  · rw [hk] at h2; cases h2
  · rw [hk] at h2
    cases h2
    exact hT hT'
theorem ownsRow_by {w w' : World} {B n sz : Nat} {T : TypeId} {v : Value} {xs : List Value} (h : w.ownsRow B T sz v n xs) (hb : ∀ g cur, v.ownBlock = some g → w.heap[g]? = some (.cells cur T (0, 0)) → w'.heap[g]? = w.heap[g]?) : w'.ownsRow B T sz v n xs := by
  refine ⟨h.1, ?_⟩
  rcases h.2 with hn | ⟨g, cap, cur, rfl, h1, hgg, rest⟩
  · exact .inl hn
  · exact .inr ⟨g, cap, cur, rfl, h1, (hb g cur rfl hgg).trans hgg, rest⟩
/-- a commit's foot in rows of its own -/
structure OwnFt (w : World) (B : Nat) (c : Cm) : Prop where
  p : OwnP w B c.v0 []
  s : OwnS w B c.v1 []
  w : OwnP w B c.v2 c.W
theorem OwnFt.fb {w w' : World} {B C : Nat} {c : Cm} (h : OwnFt w B c) (hf : Frm w w' (FB C w)) : OwnFt w' B c :=
  ⟨ownsRow_by h.p (fun _ _ _ hg => FB.other hf hg (by decide)), ownsRow_by h.s (fun _ _ _ hg => FB.other hf hg (by decide)), ownsRow_by h.w (fun _ _ _ hg => FB.other hf hg (by decide))⟩
theorem OwnFt.rd {w : World} {B : Nat} {c : Cm} (h : OwnFt w B c) (hl : c.W.length ≤ 65536) : RdF w c.v0 c.v1 c.v2 ⟨[], [], c.W⟩ := ⟨h.p.sl, h.s.sl, h.w.sl, by simp, by simp, by show c.W.length ≤ _; omega⟩
/-- a Log that may be written -/
structure LogO (w : World) (B lb : Nat) (vC : Value) (mb : Nat) (E : List (Pt × Value × List Nat)) (L : List Cm) : Prop where
  blk : Blk w lb #[ptr1 lb, vC, .map (some mb)] 49
  lbB : B ≤ lb
  mbB : B ≤ mb
  com : OwnC w B vC L
  ft : ∀ c ∈ L, OwnFt w B c
  sts : StM w B mb (stsAt L) E
  inv : InvC L
theorem LogO.x {w : World} {B lb : Nat} {vC : Value} {mb : Nat} {E : List (Pt × Value × List Nat)} {L : List Cm} (h : LogO w B lb vC mb E L) : LogX w lb vC mb (E.map kvU) L :=
  ⟨h.blk, ⟨h.com.row, fun c hc => (h.ft c hc).rd (h.inv.lw c hc)⟩, h.sts.map, fun x => (h.sts.get x).sl, h.inv⟩
theorem LogO.on {w w' : World} {B lb : Nat} {vC : Value} {mb : Nat} {E : List (Pt × Value × List Nat)} {L : List Cm} (h : LogO w B lb vC mb E L) (hb : Below w.heap.size w w') : LogO w' B lb vC mb E L :=
  ⟨h.blk.on hb, h.lbB, h.mbB, h.com.on hb, fun c hc => (h.ft c hc).fb (C := 0) (FB.of_below hb), h.sts.on hb, h.inv⟩

set_option maxHeartbeats 2000000 in
theorem newLog_any (w : World) : Calls Tryz.prog 17 #[] w fun e w' => ∃ lb vC mb E, e = .returned (ptr1 lb) ∧ LogO w' w.heap.size lb vC mb E [] ∧ Below w.heap.size w w' := by
  have hmk : ∀ w : World, (Instr.makeMap 47 none).run Tryz.prog w = .ok (.map (some w.heap.size)) (w.alloc (.map #[] 0)) := fun w => by
    unfold Instr.makeMap
    simp [go_sem]
  have HM : Hid (StM (w.alloc (.map #[] 0)) w.heap.size w.heap.size (fun _ => []) []) := StM.made w _
  have HB1 : Hid (Below w.heap.size w (w.alloc (.map #[] 0))) := (Below.refl _ _).alloc (Nat.le_refl _) _
  have hz1 : (w.alloc (.map #[] 0)).heap.size = w.heap.size + 1 := by simp
  obtain ⟨w1, hw1⟩ : ∃ w1, w.alloc (.map #[] 0) = w1 := ⟨_, rfl⟩
  rw [hw1] at HM HB1 hz1
  go_enter Tryz.func17, Tryz.ntmps17
  go_wp2_with fail
  go_ret
  have hal : Below w1.heap.size w1 (w1.alloc (.cells #[ptr1 (w.heap.size + 1), .slice none 0 0, .map (some w.heap.size)] 49)) := (Below.refl _ _).alloc (Nat.le_refl _) _
  have hK : Blk (w1.alloc (.cells #[ptr1 (w.heap.size + 1), .slice none 0 0, .map (some w.heap.size)] 49)) w1.heap.size #[ptr1 (w.heap.size + 1), .slice none 0 0, .map (some w.heap.size)] 49 := Blk.new w1 _ _
  rw [hz1] at hK
  exact ⟨w.heap.size + 1, .slice none 0 0, w.heap.size, [], rfl, ⟨hK, by omega, Nat.le_refl _, OwnC.nil _ _, by simp, (show StM _ _ _ (stsAt []) [] from HM.out.on hal), ⟨fun i j hi => absurd hi (by simp), by simp, by simp, by simp, by simp⟩⟩, HB1.out.trans (hal.mono HB1.out.size)⟩

end Go.Proofs.YtcknhjabdjbjiabGreat
