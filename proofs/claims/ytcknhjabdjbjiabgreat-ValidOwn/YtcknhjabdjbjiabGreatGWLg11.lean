/- keep: a commit is put behind all others. Note: what a commit wrote is kept, or why it is not. -/
import Derived.Test.YtcknhjabdjbjiabGreatGWLg10b
namespace Go.Proofs.YtcknhjabdjbjiabGreat
open Go.RowKit
set_option maxRecDepth 100000

set_option maxHeartbeats 8000000 in
theorem keep_any (B lb s : Nat) (vC : Value) (mb : Nat) (E : List (Pt × Value × List Nat)) (L : List Cm) (Wr : List Pt) (v : Value) (w : World) (hX : LogO w B lb vC mb E L) (hv : SlP w v Wr) (hc : chkF ⟨[], [], Wr⟩ = 0) (hs1 : 1 ≤ s) (hs2 : s ≤ 4611686018427387904) (hla : lastC L < s) (hlen : L.length < 4096) :
    Calls Tryz.prog 28 #[ptr1 lb, .int .u64 (s : Nat), v] w fun e w' => ∃ vC' E' c, e = .returned (.tuple #[]) ∧ c.s = s ∧ (∀ x, x ∈ c.W ↔ x ∈ Wr) ∧ LogO w' B lb vC' mb E' (L ++ [c]) ∧ Frm w w' (FB B w) := by
  have HX : Hid (LogO w B lb vC mb E L) := hX
  have hBw : B ≤ w.heap.size := by have := hX.lbB; have := hX.blk.lt; omega
  have hl6 : Wr.length ≤ 65536 := by
    unfold chkF at hc
    by_cases h9 : 65536 < (⟨[], [], Wr⟩ : Ft).size
    · rw [if_pos h9] at hc; cases hc
    · unfold Ft.size at h9; simp at h9; omega
  have CN : Hid (Calls Tryz.prog 40 #[.agg #[.slice none 0 0, .slice none 0 0, v]] w fun e w' => ∃ (x0 x1 x2 : Value) (W : List Pt), e = .returned (.tuple #[.agg #[x0, x1, x2], .int .i64 0]) ∧ OwnFt w' B ⟨s, x0, x1, x2, W⟩ ∧ RisP W ∧ (∀ x, x ∈ W ↔ x ∈ Wr) ∧ W.length ≤ 65536 ∧ Below w.heap.size w w') := by
    refine (norm_any ⟨[], [], Wr⟩ _ _ _ w ⟨(OwnP.nil w 0).sl, (OwnS.nil w 0).sl, hv, by simp, by simp, by show Wr.length ≤ _; omega⟩).mono ?_
    rintro e w' ⟨⟨h1, rfl⟩ | ⟨h1, x0, x1, x2, g, rfl, k0, k1, k2, k3⟩, hb'⟩
    · exact absurd hc h1
    · have e0 : g.P = [] := List.eq_nil_of_length_eq_zero (by have := k3.lp; simpa using this)
      have e1 : g.S = [] := List.eq_nil_of_length_eq_zero (by have := k3.ls; simpa using this)
      rw [e0] at k0
      rw [e1] at k1
      exact ⟨x0, x1, x2, g.W, rfl, ⟨k0.mono hBw, k1.mono hBw, k2.mono hBw⟩, k3.w1, k3.w2, by have := k3.lw; simp at this; omega, hb'⟩
  clear hX hc hl6
  obtain ⟨pv, cv, rfl, -⟩ := hv.f
  clear hv
  go_enter Tryz.func28, Tryz.ntmps28
  go_wp2_with fail
  refine CN.out.mono ?_
  rintro e w1 ⟨x0, x1, x2, W, rfl, hft, hris, hmem, hwl, hb1⟩
  clear CN
  obtain ⟨p0, n0, c0, e0⟩ : ∃ p n c, x0 = .slice p n c := by obtain ⟨p, c, e, _⟩ := hft.p.sl.f; exact ⟨_, _, _, e⟩
  obtain ⟨p1, n1, c1, e1⟩ : ∃ p n c, x1 = .slice p n c := by obtain ⟨p, c, e, _⟩ := hft.s.sl.f; exact ⟨_, _, _, e⟩
  obtain ⟨p2, n2, c2, e2⟩ : ∃ p n c, x2 = .slice p n c := by obtain ⟨p, c, e, _⟩ := hft.w.sl.f; exact ⟨_, _, _, e⟩
  subst e0 e1 e2
  have HFt1 : Hid (OwnFt w1 B ⟨s, .slice p0 n0 c0, .slice p1 n1 c1, .slice p2 n2 c2, W⟩) := hft
  have HRs : Hid (RisP W) := hris
  have HMm : Hid (∀ x, x ∈ W ↔ x ∈ Wr) := hmem
  have HWl : Hid (W.length ≤ 65536) := hwl
  obtain ⟨w2, hw2⟩ : ∃ w2, w1.alloc (.cells #[.slice p0 n0 c0, .slice p1 n1 c1, .slice p2 n2 c2] 27) = w2 := ⟨_, rfl⟩
  have hal : Below w1.heap.size w1 w2 := by rw [← hw2]; exact (Below.refl _ _).alloc (Nat.le_refl _) _
  have HK2 : Hid (Blk w2 w1.heap.size #[.slice p0 n0 c0, .slice p1 n1 c1, .slice p2 n2 c2] 27) := by rw [← hw2]; exact Blk.new w1 _ _
  have hb2 : Below w.heap.size w w2 := hb1.trans (hal.mono hb1.size)
  have HX2 : Hid (LogO w2 B lb vC mb E L) := HX.out.on hb2
  have HFr2 : Hid (Frm w w2 (FB B w)) := FB.of_below hb2
  have HFt2 : Hid (OwnFt w2 B ⟨s, .slice p0 n0 c0, .slice p1 n1 c1, .slice p2 n2 c2, W⟩) := HFt1.out.fb (C := 0) (FB.of_below hal)
  have HB2 : Hid (B ≤ w2.heap.size) := Nat.le_trans hBw hb2.size
  clear hft hris hmem hwl hb1 hal hb2 HFt1 HX
  obtain ⟨pc, nc, cc, evC⟩ := HX2.out.com.form
  subst evC
  go_upto_region 1 with fail
  clear hw2
  refine wp_region_L (fun w' => (Blk w' lb #[ptr1 lb, .slice pc nc cc, .map (some mb)] 49 ∧ Blk w' w1.heap.size #[.slice p0 n0 c0, .slice p1 n1 c1, .slice p2 n2 c2] 27)) 12 (by kernel_rfl) ?_
  have hdr : Below w2.heap.size w2 w2.drew := (Below.refl _ _).drew
  have HXd : Hid (LogO w2.drew B lb (.slice pc nc cc) mb E L) := HX2.out.on hdr
  have HKd : Hid (Blk w2.drew w1.heap.size #[.slice p0 n0 c0, .slice p1 n1 c1, .slice p2 n2 c2] 27) := HK2.out.on hdr
  have HFd : Hid (Frm w w2.drew (FB B w)) := FB.trans HFr2.out (FB.of_below hdr)
  have HTd : Hid (OwnFt w2.drew B ⟨s, .slice p0 n0 c0, .slice p1 n1 c1, .slice p2 n2 c2, W⟩) := HFt2.out.fb (C := 0) (FB.of_below hdr)
  have HBd : Hid (B ≤ w2.drew.heap.size) := HB2.out
  clear hdr HX2 HK2 HFr2 HFt2 HB2
  generalize w2.drew = wd at *
  refine wpL_take (v := ?_) 0 rfl (by kernel_rfl) (fun _ _ _ h => h) (by rfl) ?_ ⟨HXd.out.blk, HKd.out⟩ ?_
  rotate_left
  focus
    intro w9 hw9
    have a0 := hw9.1.cell (i := 0) rfl
    have a1 := hw9.1.cell (i := 1) rfl
    have b0 := hw9.2.cell (i := 0) rfl
    have b1 := hw9.2.cell (i := 1) rfl
    have b2 := hw9.2.cell (i := 2) rfl
    go_simp
    try with_reducible rfl
  try simp only [Act.put, List.setIfInBounds_toArray, List.set_cons_zero, List.set_cons_succ]
  refine wpL_take (v := ?_) 1 rfl (by kernel_rfl) (fun _ _ _ h => h) (by rfl) ?_ ⟨HXd.out.blk, HKd.out⟩ ?_
  rotate_left
  focus
    intro w9 hw9
    have a0 := hw9.1.cell (i := 0) rfl
    have a1 := hw9.1.cell (i := 1) rfl
    have b0 := hw9.2.cell (i := 0) rfl
    have b1 := hw9.2.cell (i := 1) rfl
    have b2 := hw9.2.cell (i := 2) rfl
    go_simp
    try with_reducible rfl
  try simp only [Act.put, List.setIfInBounds_toArray, List.set_cons_zero, List.set_cons_succ]
  refine wpL_take (v := ?_) 2 rfl (by kernel_rfl) (fun _ _ _ h => h) (by rfl) ?_ ⟨HXd.out.blk, HKd.out⟩ ?_
  rotate_left
  focus
    intro w9 hw9
    have a0 := hw9.1.cell (i := 0) rfl
    have a1 := hw9.1.cell (i := 1) rfl
    have b0 := hw9.2.cell (i := 0) rfl
    have b1 := hw9.2.cell (i := 1) rfl
    have b2 := hw9.2.cell (i := 2) rfl
    go_simp
    try with_reducible rfl
  try simp only [Act.put, List.setIfInBounds_toArray, List.set_cons_zero, List.set_cons_succ]
  refine wpL_take (v := ?_) 3 rfl (by kernel_rfl) (fun _ _ _ h => h) (by rfl) ?_ ⟨HXd.out.blk, HKd.out⟩ ?_
  rotate_left
  focus
    intro w9 hw9
    have a0 := hw9.1.cell (i := 0) rfl
    have a1 := hw9.1.cell (i := 1) rfl
    have b0 := hw9.2.cell (i := 0) rfl
    have b1 := hw9.2.cell (i := 1) rfl
    have b2 := hw9.2.cell (i := 2) rfl
    go_simp
    try with_reducible rfl
  try simp only [Act.put, List.setIfInBounds_toArray, List.set_cons_zero, List.set_cons_succ]
  refine wpL_take (v := ?_) 4 rfl (by kernel_rfl) (fun _ _ _ h => h) (by rfl) ?_ ⟨HXd.out.blk, HKd.out⟩ ?_
  rotate_left
  focus
    intro w9 hw9
    have a0 := hw9.1.cell (i := 0) rfl
    have a1 := hw9.1.cell (i := 1) rfl
    have b0 := hw9.2.cell (i := 0) rfl
    have b1 := hw9.2.cell (i := 1) rfl
    have b2 := hw9.2.cell (i := 2) rfl
    go_simp
    try with_reducible rfl
  try simp only [Act.put, List.setIfInBounds_toArray, List.set_cons_zero, List.set_cons_succ]
  refine wpL_take (v := ?_) 5 rfl (by kernel_rfl) (fun _ _ _ h => h) (by rfl) ?_ ⟨HXd.out.blk, HKd.out⟩ ?_
  rotate_left
  focus
    intro w9 hw9
    have a0 := hw9.1.cell (i := 0) rfl
    have a1 := hw9.1.cell (i := 1) rfl
    have b0 := hw9.2.cell (i := 0) rfl
    have b1 := hw9.2.cell (i := 1) rfl
    have b2 := hw9.2.cell (i := 2) rfl
    go_simp
    try with_reducible rfl
  try simp only [Act.put, List.setIfInBounds_toArray, List.set_cons_zero, List.set_cons_succ]
  refine wpL_take (v := ?_) 6 rfl (by kernel_rfl) (fun _ _ _ h => h) (by rfl) ?_ ⟨HXd.out.blk, HKd.out⟩ ?_
  rotate_left
  focus
    intro w9 hw9
    have a0 := hw9.1.cell (i := 0) rfl
    have a1 := hw9.1.cell (i := 1) rfl
    have b0 := hw9.2.cell (i := 0) rfl
    have b1 := hw9.2.cell (i := 1) rfl
    have b2 := hw9.2.cell (i := 2) rfl
    go_simp
    try with_reducible rfl
  try simp only [Act.put, List.setIfInBounds_toArray, List.set_cons_zero, List.set_cons_succ]
  refine wpL_take (v := ?_) 7 rfl (by kernel_rfl) (fun _ _ _ h => h) (by rfl) ?_ ⟨HXd.out.blk, HKd.out⟩ ?_
  rotate_left
  focus
    intro w9 hw9
    have a0 := hw9.1.cell (i := 0) rfl
    have a1 := hw9.1.cell (i := 1) rfl
    have b0 := hw9.2.cell (i := 0) rfl
    have b1 := hw9.2.cell (i := 1) rfl
    have b2 := hw9.2.cell (i := 2) rfl
    go_simp
    try with_reducible rfl
  try simp only [Act.put, List.setIfInBounds_toArray, List.set_cons_zero, List.set_cons_succ]
  refine wpL_one 8 rfl (by kernel_rfl) (by rfl) ?_
  intro K hK
  go_simp
  have hal : Below wd.heap.size wd (wd.alloc (.cells #[.int .u64 (s : Nat), .slice p0 n0 c0, .slice p1 n1 c1, .slice p2 n2 c2] 75)) := (Below.refl _ _).alloc (Nat.le_refl _) _
  have HC3 : Hid (Blk (wd.alloc (.cells #[.int .u64 (s : Nat), .slice p0 n0 c0, .slice p1 n1 c1, .slice p2 n2 c2] 75)) wd.heap.size #[.int .u64 (s : Nat), .slice p0 n0 c0, .slice p1 n1 c1, .slice p2 n2 c2] 75) := Blk.new wd _ _
  have HX3 : Hid (LogO (wd.alloc (.cells #[.int .u64 (s : Nat), .slice p0 n0 c0, .slice p1 n1 c1, .slice p2 n2 c2] 75)) B lb (.slice pc nc cc) mb E L) := HXd.out.on hal
  have HK3 : Hid (Blk (wd.alloc (.cells #[.int .u64 (s : Nat), .slice p0 n0 c0, .slice p1 n1 c1, .slice p2 n2 c2] 75)) w1.heap.size #[.slice p0 n0 c0, .slice p1 n1 c1, .slice p2 n2 c2] 27) := HKd.out.on hal
  have HF3 : Hid (Frm w (wd.alloc (.cells #[.int .u64 (s : Nat), .slice p0 n0 c0, .slice p1 n1 c1, .slice p2 n2 c2] 75)) (FB B w)) := FB.trans HFd.out (FB.of_below hal)
  have HT3 : Hid (OwnFt (wd.alloc (.cells #[.int .u64 (s : Nat), .slice p0 n0 c0, .slice p1 n1 c1, .slice p2 n2 c2] 75)) B ⟨s, .slice p0 n0 c0, .slice p1 n1 c1, .slice p2 n2 c2, W⟩) := HTd.out.fb (C := 0) (FB.of_below hal)
  have HB3 : Hid (B ≤ (wd.alloc (.cells #[.int .u64 (s : Nat), .slice p0 n0 c0, .slice p1 n1 c1, .slice p2 n2 c2] 75)).heap.size) := Nat.le_trans HBd.out hal.size
  clear hal HXd HKd HFd HTd HBd
  refine hK.out _ _ (fun _ => ⟨HX3.out.blk, HK3.out⟩) ?_
  clear hK K
  generalize hgz : wd.heap.size = gz at *
  generalize wd.alloc (.cells #[.int .u64 (s : Nat), .slice p0 n0 c0, .slice p1 n1 c1, .slice p2 n2 c2] 75) = w3 at *
  clear hgz
  try simp only [Act.put, List.setIfInBounds_toArray, List.set_cons_zero, List.set_cons_succ]
  refine wpL_one 9 rfl (by kernel_rfl) (by rfl) ?_
  intro K hK
  refine wp_appC w3 (.tmp 20) (.tmp 24) rfl B (.slice pc nc cc) L (by rfl) HX3.out.com ⟨s, .slice p0 n0 c0, .slice p1 n1 c1, .slice p2 n2 c2, W⟩ ⟨rfl, rfl, rfl⟩ gz (by rfl) HC3.out (by omega) HB3.out ?_
  intro v4 w4 ho4 hg4 hat4
  obtain ⟨q4, m4, d4, ev4⟩ := ho4.form
  subst ev4
  have hne1 : some lb ≠ (Value.slice pc nc cc).ownBlock := HX3.out.com.ne HX3.out.blk (by decide)
  have hne2 : some w1.heap.size ≠ (Value.slice pc nc cc).ownBlock := HX3.out.com.ne HK3.out (by decide)
  have HL4 : Hid (Blk w4 lb #[ptr1 lb, .slice pc nc cc, .map (some mb)] 49) := (hg4.block lb HX3.out.blk.lt hne1).trans HX3.out.blk
  have HK4 : Hid (Blk w4 w1.heap.size #[.slice p0 n0 c0, .slice p1 n1 c1, .slice p2 n2 c2] 27) := (hg4.block _ HK3.out.lt hne2).trans HK3.out
  have HR34 : Hid (Frm w3 w4 (FB B w3)) := Frm.of_grown hg4 (fun g hg => by
    obtain ⟨h1, cur, h2⟩ := HX3.out.com.blk hg
    exact .inl ⟨h1, .inr ⟨_, _, _, h2, .inr (.inl rfl)⟩⟩)
  have HO4 : Hid (OwnC w4 B (.slice q4 m4 d4) (L ++ [⟨s, .slice p0 n0 c0, .slice p1 n1 c1, .slice p2 n2 c2, W⟩])) := ho4
  have HS4 : Hid (StM w4 B mb (stsAt L) E) := HX3.out.sts.by (hg4.block mb HX3.out.sts.map.lt (fun e => by
    obtain ⟨_, cur, h2⟩ := HX3.out.com.blk e.symm
    obtain ⟨es, c9, h3, _⟩ := HX3.out.sts.map.f
    rw [h2] at h3
    cases h3)) (fun g cur hg => hg4.block g (Array.getElem?_eq_some_iff.1 hg).1 (fun e => by
    obtain ⟨_, cur2, h2⟩ := HX3.out.com.blk e.symm
    rw [hg] at h2
    cases h2))
  have HFts : Hid (∀ c ∈ L ++ [⟨s, .slice p0 n0 c0, .slice p1 n1 c1, .slice p2 n2 c2, W⟩], OwnFt w4 B c) := fun c hc => by
    rcases List.mem_append.1 hc with hc | hc
    · exact (HX3.out.ft c hc).fb HR34.out
    · rw [List.mem_singleton] at hc
      subst hc
      exact HT3.out.fb HR34.out
  have HF4 : Hid (Frm w w4 (FB B w)) := FB.trans HF3.out HR34.out
  have HBs : Hid (B ≤ lb ∧ B ≤ mb ∧ InvC L) := ⟨HX3.out.lbB, HX3.out.mbB, HX3.out.inv⟩
  clear ho4 hg4 hat4 hne1 hne2 HX3 HK3 HF3 HT3 HR34 HC3 HB3
  refine hK.out _ _ (fun _ => ⟨HL4.out, HK4.out⟩) ?_
  clear hK K
  try simp only [Act.put, List.setIfInBounds_toArray, List.set_cons_zero, List.set_cons_succ]
  refine wpL_one 10 rfl (by kernel_rfl) (by rfl) ?_
  intro K hK
  go_simp
  refine hK.out _ _ (fun _ => ⟨HL4.out, HK4.out⟩) ?_
  clear hK K
  try simp only [Act.put, List.setIfInBounds_toArray, List.set_cons_zero, List.set_cons_succ]
  refine wpL_one 11 rfl (by kernel_rfl) (by rfl) ?_
  intro K hK
  go_simp
  refine hK.out _ _ (fun _ => ⟨HL4.out, HK4.out⟩) ?_
  clear hK K
  try simp only [Act.put, List.setIfInBounds_toArray, List.set_cons_zero, List.set_cons_succ]
  refine wpL_one 12 rfl (by kernel_rfl) (by rfl) ?_
  intro K hK
  have z0 := HL4.out.cell (i := 1) rfl
  have f0 := HL4.out.frozen 1
  go_simp
  refine hK.out _ _ (fun h => absurd rfl h) ?_
  clear hK K z0 f0
  have hfs : Frm w4 (w4.setCell ⟨lb, 1, none⟩ (.slice q4 m4 d4)) (fun k => k = lb) := frm_set _ _ _ _ (F := fun k => k = lb) (.inl rfl)
  have hFB : Frm w4 (w4.setCell ⟨lb, 1, none⟩ (.slice q4 m4 d4)) (FB B w4) := hfs.mono (fun k hk => .inl (by subst hk; exact ⟨HBs.out.1, .inr ⟨_, _, _, HL4.out, .inl rfl⟩⟩))
  have hnl : ∀ {k : Nat} {o : Obj}, w4.heap[k]? = some o → (∀ cs, o ≠ .cells cs 49 (0, 0)) → (w4.setCell ⟨lb, 1, none⟩ (.slice q4 m4 d4)).heap[k]? = w4.heap[k]? := fun {k o} hk ho => hfs.block k (Array.getElem?_eq_some_iff.1 hk).1 (fun e => by
    subst e
    rw [show w4.heap[k]? = some (.cells _ 49 (0, 0)) from HL4.out] at hk
    cases hk
    exact ho _ rfl)
  have HL5 : Hid (Blk (w4.setCell ⟨lb, 1, none⟩ (.slice q4 m4 d4)) lb #[ptr1 lb, .slice q4 m4 d4, .map (some mb)] 49) := HL4.out.set 1 _
  have HK5 : Hid (Blk (w4.setCell ⟨lb, 1, none⟩ (.slice q4 m4 d4)) w1.heap.size #[.slice p0 n0 c0, .slice p1 n1 c1, .slice p2 n2 c2] 27) := (hnl HK4.out (fun cs h => by cases h)).trans HK4.out
  have HO5 : Hid (OwnC (w4.setCell ⟨lb, 1, none⟩ (.slice q4 m4 d4)) B (.slice q4 m4 d4) (L ++ [⟨s, .slice p0 n0 c0, .slice p1 n1 c1, .slice p2 n2 c2, W⟩])) := HO4.out.by (fun g hg => by
    obtain ⟨_, cur, h2⟩ := HO4.out.blk hg
    exact hnl h2 (fun cs h => by cases h))
  have HS5 : Hid (StM (w4.setCell ⟨lb, 1, none⟩ (.slice q4 m4 d4)) B mb (stsAt L) E) := HS4.out.by (by
    obtain ⟨es, c9, h3, _⟩ := HS4.out.map.f
    exact hnl h3 (fun cs h => by cases h)) (fun g cur hg => hnl hg (fun cs h => by cases h))
  have HT5 : Hid (∀ c ∈ L ++ [⟨s, .slice p0 n0 c0, .slice p1 n1 c1, .slice p2 n2 c2, W⟩], OwnFt (w4.setCell ⟨lb, 1, none⟩ (.slice q4 m4 d4)) B c) := fun c hc => (HFts.out c hc).fb hFB
  have HF5 : Hid (Frm w (w4.setCell ⟨lb, 1, none⟩ (.slice q4 m4 d4)) (FB B w)) := FB.trans HF4.out hFB
  clear hfs hFB HL4 HK4 HO4 HS4 HFts HF4
  clear hnl
  generalize w4.setCell ⟨lb, 1, none⟩ (.slice q4 m4 d4) = w5 at *
  try simp only [Act.put, List.setIfInBounds_toArray, List.set_cons_zero, List.set_cons_succ]
  refine wpL_done (by kernel_rfl) ?_ _
  try simp only [NoPanic]
  have k2 := HK5.out.cell (i := 2) rfl
  obtain ⟨e9, hn2⟩ : ∃ h : (True), n2 = W.length := by
    obtain ⟨p, c, e, _⟩ := (HT5.out ⟨s, .slice p0 n0 c0, .slice p1 n1 c1, .slice p2 n2 c2, W⟩ (by simp)).w.sl.f
    exact ⟨trivial, (Value.slice.inj e).2.1⟩
  subst hn2
  have HI5 : Hid (KpI w w5 B lb mb s (.slice q4 m4 d4) L ⟨s, .slice p0 n0 c0, .slice p1 n1 c1, .slice p2 W.length c2, W⟩ 0 E) := ⟨HL5.out, HO5.out, HT5.out, by show StM _ _ _ (addFs (stsAt L) [] s) _; rw [addFs_nil]; exact HS5.out, HF5.out⟩
  clear HL5 HO5 HT5 HS5 HF5 e9
  go_wp2_with fail
  clear k2 HK5
  go_loopw [31] (fun i wr => ∃ (j : Nat) (E' : List (Pt × Value × List Nat)), j ≤ W.length ∧ i = .int .i64 (j : Int) ∧ Hid (KpI w wr B lb mb s (.slice q4 m4 d4) L ⟨s, .slice p0 n0 c0, .slice p1 n1 c1, .slice p2 W.length c2, W⟩ j E')) (fun i _ => W.length - (intOf i).toNat)
  case atStart => exact ⟨0, E, Nat.zero_le _, by go_num, HI5.out⟩
  case round =>
    obtain ⟨j, E', hj, rfl, HI⟩ := hrel
    clear HI5
    by_cases hj0 : j = W.length
    · subst hj0
      have HR : Hid (LogO wr B lb (.slice q4 m4 d4) mb E' (L ++ [⟨s, .slice p0 n0 c0, .slice p1 n1 c1, .slice p2 W.length c2, W⟩])) := ⟨HI.out.blk, HBs.out.1, HBs.out.2.1, HI.out.com, HI.out.ft, by
        have h := HI.out.sts
        have e : (Cm.W ⟨s, .slice p0 n0 c0, .slice p1 n1 c1, .slice p2 W.length c2, W⟩).take W.length = W := List.take_of_length_le (Nat.le_refl _)
        rw [e] at h
        have e2 := addFs_end L ⟨s, .slice p0 n0 c0, .slice p1 n1 c1, .slice p2 W.length c2, W⟩
        dsimp only at e2
        rw [e2] at h
        exact h, HBs.out.2.2.snoc _ hs1 hs2 hla hlen HWl.out⟩
      have HF : Hid (Frm w wr (FB B w)) := HI.out.frm
      go_wp2_with fail
      go_returns
      exact ⟨_, _, _, rfl, rfl, HMm.out, HR.out, HF.out⟩
    · have hj1 : j < W.length := by omega
      have hrow : ∃ p c, Value.slice p2 W.length c2 = .slice p W.length c ∧ RowP wr wr.heap.size p W := by
        obtain ⟨p, c, e, _, _, h⟩ := (HI.out.ft ⟨s, .slice p0 n0 c0, .slice p1 n1 c1, .slice p2 W.length c2, W⟩ (by simp)).w.sl.f
        exact ⟨p, c, e, h⟩
      obtain ⟨p', c', e', hrow⟩ := hrow
      cases e'
      obtain ⟨b, o, hp, hb, d0, d1, d2⟩ := hrow j hj1
      subst hp
      obtain ⟨x, hx⟩ : ∃ x, W[j] = x := ⟨_, rfl⟩
      have HTk : Hid (W.take (j + 1) = W.take j ++ [x] ∧ x ∉ W.take j) := ⟨by rw [← hx]; exact take_snoc W j hj1, fun hm => by
        have hnd := HRs.out.nodup
        obtain ⟨k, hk, e⟩ := List.getElem_of_mem hm
        rw [List.length_take] at hk
        rw [List.getElem_take, ← hx] at e
        have := (List.getElem_inj hnd).1 e
        omega⟩
      rw [hx] at d0 d1 d2
      clear hx hrow
      obtain ⟨wq, hwq⟩ : ∃ wq, wr.alloc (.cells #[.int .i64 x.t, .int .i64 x.i, .string x.k] 36) = wq := ⟨_, rfl⟩
      have hal : Below wr.heap.size wr wq := by rw [← hwq]; exact (Below.refl _ _).alloc (Nat.le_refl _) _
      have HPq : Hid (Blk wq wr.heap.size #[.int .i64 x.t, .int .i64 x.i, .string x.k] 36) := by rw [← hwq]; exact Blk.new wr _ _
      have HIq : Hid (KpI w wq B lb mb s (.slice q4 m4 d4) L ⟨s, .slice p0 n0 c0, .slice p1 n1 c1, .slice (some ⟨b, o, none⟩) W.length c2, W⟩ j E') := HI.out.on hal
      clear hal HI
      go_upto_region 5 with fail
      clear d0 d1 d2 hwq
      refine wp_region_L (fun w' => Blk w' lb #[ptr1 lb, .slice q4 m4 d4, .map (some mb)] 49 ∧ Blk w' wr.heap.size #[.int .i64 x.t, .int .i64 x.i, .string x.k] 36) 11 (by kernel_rfl) ?_
      have hdr : Below wq.heap.size wq wq.drew := (Below.refl _ _).drew
      have HId : Hid (KpI w wq.drew B lb mb s (.slice q4 m4 d4) L ⟨s, .slice p0 n0 c0, .slice p1 n1 c1, .slice (some ⟨b, o, none⟩) W.length c2, W⟩ j E') := HIq.out.on hdr
      have HPd : Hid (Blk wq.drew wr.heap.size #[.int .i64 x.t, .int .i64 x.i, .string x.k] 36) := HPq.out.on hdr
      clear hdr HIq HPq
      generalize wq.drew = wd at *
      refine wpL_take (v := ?_) 0 rfl (by kernel_rfl) (fun _ _ _ h => h) (by rfl) ?_ ⟨HId.out.blk, HPd.out⟩ ?_
      rotate_left
      focus
        intro w9 hw9
        have a2 := hw9.1.cell (i := 2) rfl
        have b0 := hw9.2.cell (i := 0) rfl
        have b1 := hw9.2.cell (i := 1) rfl
        have b2 := hw9.2.cell (i := 2) rfl
        go_simp
        try with_reducible rfl
      try simp only [Act.put, List.setIfInBounds_toArray, List.set_cons_zero, List.set_cons_succ]
      refine wpL_take (v := ?_) 1 rfl (by kernel_rfl) (fun _ _ _ h => h) (by rfl) ?_ ⟨HId.out.blk, HPd.out⟩ ?_
      rotate_left
      focus
        intro w9 hw9
        have a2 := hw9.1.cell (i := 2) rfl
        have b0 := hw9.2.cell (i := 0) rfl
        have b1 := hw9.2.cell (i := 1) rfl
        have b2 := hw9.2.cell (i := 2) rfl
        go_simp
        try with_reducible rfl
      try simp only [Act.put, List.setIfInBounds_toArray, List.set_cons_zero, List.set_cons_succ]
      refine wpL_take (v := ?_) 2 rfl (by kernel_rfl) (fun _ _ _ h => h) (by rfl) ?_ ⟨HId.out.blk, HPd.out⟩ ?_
      rotate_left
      focus
        intro w9 hw9
        have a2 := hw9.1.cell (i := 2) rfl
        have b0 := hw9.2.cell (i := 0) rfl
        have b1 := hw9.2.cell (i := 1) rfl
        have b2 := hw9.2.cell (i := 2) rfl
        go_simp
        try with_reducible rfl
      try simp only [Act.put, List.setIfInBounds_toArray, List.set_cons_zero, List.set_cons_succ]
      refine wpL_take (v := ?_) 3 rfl (by kernel_rfl) (fun _ _ _ h => h) (by rfl) ?_ ⟨HId.out.blk, HPd.out⟩ ?_
      rotate_left
      focus
        intro w9 hw9
        have a2 := hw9.1.cell (i := 2) rfl
        have b0 := hw9.2.cell (i := 0) rfl
        have b1 := hw9.2.cell (i := 1) rfl
        have b2 := hw9.2.cell (i := 2) rfl
        go_simp
        try with_reducible rfl
      try simp only [Act.put, List.setIfInBounds_toArray, List.set_cons_zero, List.set_cons_succ]
      refine wpL_take (v := ?_) 4 rfl (by kernel_rfl) (fun _ _ _ h => h) (by rfl) ?_ ⟨HId.out.blk, HPd.out⟩ ?_
      rotate_left
      focus
        intro w9 hw9
        have a2 := hw9.1.cell (i := 2) rfl
        have b0 := hw9.2.cell (i := 0) rfl
        have b1 := hw9.2.cell (i := 1) rfl
        have b2 := hw9.2.cell (i := 2) rfl
        go_simp
        try with_reducible rfl
      try simp only [Act.put, List.setIfInBounds_toArray, List.set_cons_zero, List.set_cons_succ]
      refine wpL_take (v := ?_) 5 rfl (by kernel_rfl) (fun _ _ _ h => h) (by rfl) ?_ ⟨HId.out.blk, HPd.out⟩ ?_
      rotate_left
      focus
        intro w9 hw9
        have a2 := hw9.1.cell (i := 2) rfl
        have b0 := hw9.2.cell (i := 0) rfl
        have b1 := hw9.2.cell (i := 1) rfl
        have b2 := hw9.2.cell (i := 2) rfl
        go_simp
        try with_reducible rfl
      try simp only [Act.put, List.setIfInBounds_toArray, List.set_cons_zero, List.set_cons_succ]
      refine wpL_one 6 rfl (by kernel_rfl) (by rfl) ?_
      intro K hK
      go_simp
      have hal : Below wd.heap.size wd (wd.alloc (.cells #[.int .u64 (s : Nat)] 23)) := (Below.refl _ _).alloc (Nat.le_refl _) _
      have HGz : Hid (Blk (wd.alloc (.cells #[.int .u64 (s : Nat)] 23)) wd.heap.size #[.int .u64 (s : Nat)] 23) := Blk.new wd _ _
      have HKa : Hid (KpI w (wd.alloc (.cells #[.int .u64 (s : Nat)] 23)) B lb mb s (.slice q4 m4 d4) L ⟨s, .slice p0 n0 c0, .slice p1 n1 c1, .slice (some ⟨b, o, none⟩) W.length c2, W⟩ j E') := HId.out.on hal
      have HPa : Hid (Blk (wd.alloc (.cells #[.int .u64 (s : Nat)] 23)) wr.heap.size #[.int .i64 x.t, .int .i64 x.i, .string x.k] 36) := HPd.out.on hal
      have HSa : Hid (Blk (wd.alloc (.cells #[.int .u64 (s : Nat)] 23)) lb #[ptr1 lb, .slice q4 m4 d4, .map (some mb)] 49 ∧ Blk (wd.alloc (.cells #[.int .u64 (s : Nat)] 23)) wr.heap.size #[.int .i64 x.t, .int .i64 x.i, .string x.k] 36) := ⟨HKa.out.blk, HPa.out⟩
      clear hal HId HPd
      refine hK.out _ _ (fun _ => HSa.out) ?_
      clear hK K
      generalize hgz : wd.heap.size = gz at *
      generalize wd.alloc (.cells #[.int .u64 (s : Nat)] 23) = wa at *
      clear hgz
      try simp only [Act.put, List.setIfInBounds_toArray, List.set_cons_zero, List.set_cons_succ]
      refine wpL_one 7 rfl (by kernel_rfl) (by rfl) ?_
      intro K hK
      obtain ⟨w8, ei, bn, hrun, hEn, hset, hex, hg4, hz4⟩ := HKa.out.sts.map.entryU x
      have HE8 : Hid (EnI w wa w8 B lb mb s (.slice q4 m4 d4) L ⟨s, .slice p0 n0 c0, .slice p1 n1 c1, .slice (some ⟨b, o, none⟩) W.length c2, W⟩ j E' x (getV (E'.map kvU) x) ei bn) := EnI.new HKa.out hEn hset hex hg4
      obtain ⟨v0, hv0⟩ : ∃ v0, getV (E'.map kvU) x = v0 := ⟨_, rfl⟩
      have hrun2 : (Instr.mapEntry 47 (.map (some mb)) (.agg #[.int .i64 x.t, .int .i64 x.i, .string x.k])).run Tryz.prog wa = .ok (.tuple #[v0, .int .i64 (bn : Nat)]) w8 := by rw [← hv0]; exact hrun
      rw [hv0] at HE8
      clear hrun hEn hset hex hg4 hz4 hv0
      go_simp
      have HSx : Hid (Blk w8 lb #[ptr1 lb, .slice q4 m4 d4, .map (some mb)] 49 ∧ Blk w8 wr.heap.size #[.int .i64 x.t, .int .i64 x.i, .string x.k] 36) := ⟨HE8.out.blk, HE8.out.cells HPa.out⟩
      clear hrun2
      refine hK.out _ _ (fun _ => HSx.out) ?_
      clear hK K
      try simp only [Act.put, List.setIfInBounds_toArray, List.set_cons_zero, List.set_cons_succ]
      have HG4 : Hid (Blk w8 gz #[.int .u64 (s : Nat)] 23) := HE8.out.cells HGz.out
      clear HGz HKa HPa HSa
      have HGz : Hid (Blk w8 gz #[.int .u64 (s : Nat)] 23) := HG4
      clear HG4
      refine wpL_take (v := ?_) 8 rfl (by kernel_rfl) (fun _ _ _ h => h) (by rfl) ?_ HSx.out ?_
      rotate_left
      focus
        intro w9 hw9
        go_simp
        try with_reducible rfl
      try simp only [Act.put, List.setIfInBounds_toArray, List.set_cons_zero, List.set_cons_succ]
      refine wpL_take (v := ?_) 10 rfl (by kernel_rfl) (fun _ _ _ h => h) (by rfl) ?_ HSx.out ?_
      rotate_left
      focus
        intro w9 hw9
        go_simp
        try with_reducible rfl
      try simp only [Act.put, List.setIfInBounds_toArray, List.set_cons_zero, List.set_cons_succ]
      refine wpL_one 9 rfl (by kernel_rfl) (by rfl) ?_
      intro K hK
      refine wp_appU w8 (.tmp 40) (.tmp 42) rfl B v0 (stsAt L x) (by rfl) (HE8.out.own HTk.out.2) s gz (by rfl) HGz.out (by have := sts_len L x; omega) (by have h1 := HBs.out.2.1; have h2 := HE8.out.ent.mapV.lt; omega) ?_
      intro v5 w5 h5 hg5 hat5
      have hn5 : ∀ (k : Nat) (cs : Array Value) (T : TypeId), T ≠ 23 → w8.heap[k]? = some (.cells cs T (0, 0)) → w5.heap[k]? = some (.cells cs T (0, 0)) := fun k cs T hT hk => (hg5.block k (Array.getElem?_eq_some_iff.1 hk).1 (fun e => by
        obtain ⟨_, cur, h1⟩ := (HE8.out.own HTk.out.2).blk e.symm
        rw [hk] at h1
        cases h1
        exact hT rfl)).trans hk
      have HE5 : Hid (EntM w5 mb (putV (E'.map kvU) x v0) ei bn) := HE8.out.ent.of_block (hg5.block mb HE8.out.ent.mapV.lt (fun e => by
        obtain ⟨_, cur, h1⟩ := (HE8.out.own HTk.out.2).blk e.symm
        exact map_not_cells HE8.out.ent.mapV h1 rfl))
      have HS5 : Hid (Blk w5 lb #[ptr1 lb, .slice q4 m4 d4, .map (some mb)] 49 ∧ Blk w5 wr.heap.size #[.int .i64 x.t, .int .i64 x.i, .string x.k] 36) := ⟨hn5 _ _ _ (by decide) HSx.out.1, hn5 _ _ _ (by decide) HSx.out.2⟩
      have H5 : Hid (OwnU w5 B v5 (stsAt L x ++ [s]) ∧ w8.grownBy w5 v0.ownBlock ∧ (v5.ownBlock = v0.ownBlock ∨ v5.ownBlock = some w8.heap.size)) := ⟨h5, hg5, hat5⟩
      clear h5 hg5 hat5 hn5 HGz HSx
      refine hK.out _ _ (fun _ => HS5.out) ?_
      clear hK K
      try simp only [Act.put, List.setIfInBounds_toArray, List.set_cons_zero, List.set_cons_succ]
      refine wpL_one 11 rfl (by kernel_rfl) (by rfl) ?_
      intro K hK
      obtain ⟨v9, hv9⟩ := HE8.out.ex
      obtain ⟨w6, hrun, hm6, hg6, hz6⟩ := HE5.out.storeU x v5 v9 hv9
      rw [HE8.out.set v5] at hm6
      have HD : Hid (∃ E2, KpI w w6 B lb mb s (.slice q4 m4 d4) L ⟨s, .slice p0 n0 c0, .slice p1 n1 c1, .slice (some ⟨b, o, none⟩) W.length c2, W⟩ (j + 1) E2) := HE8.out.done HTk.out HBs.out.2.1 H5.out.1 H5.out.2.1 H5.out.2.2 hm6 hg6
      clear hm6 hg6 hz6 hv9
      go_simp
      clear hrun
      refine hK.out _ _ (fun h => absurd rfl h) ?_
      clear hK K HE5 HE8 H5 HS5
      try simp only [Act.put, List.setIfInBounds_toArray, List.set_cons_zero, List.set_cons_succ]
      refine wpL_done (by kernel_rfl) ?_ _
      try simp only [NoPanic]
      have hwl9 := HWl.out
      go_wp2_with fail
      go_roundw
      case rel =>
        obtain ⟨E2, hD⟩ := HD.out
        exact ⟨j + 1, E2, hj1, by go_num, hD⟩
      case measure => simp [intOf]; omega

end Go.Proofs.YtcknhjabdjbjiabGreat

namespace Go.Proofs.YtcknhjabdjbjiabGreat
open Go.RowKit
set_option maxRecDepth 100000

/-- what Note tells: la is the last stamp, n how many are kept -/
def noteE (a : Ft) (s la n : Nat) : Int := if chkF a ≠ 0 then chkF a else if s = 0 ∨ 4611686018427387904 < s then 1 else if s ≤ la then 81 else if 4096 ≤ n then 2 else 0
/-- what Note makes of the commits -/
def NtL (a : Ft) (s : Nat) (L L' : List Cm) : Prop := (noteE a s (lastC L) L.length ≠ 0 → L' = L) ∧ (noteE a s (lastC L) L.length = 0 → ∃ c, L' = L ++ [c] ∧ c.s = s ∧ ∀ x, x ∈ c.W ↔ x ∈ a.W)
theorem chk_partW {f : Ft} (h : chkF f = 0) : chkF ⟨[], [], f.W⟩ = 0 := by
  unfold chkF at h ⊢
  by_cases h9 : 65536 < f.size
  · rw [if_pos h9] at h; cases h
  · rw [if_neg h9] at h
    have h10 : ¬ 65536 < (⟨[], [], f.W⟩ : Ft).size := by unfold Ft.size at *; simp at *; omega
    rw [if_neg h10]
    by_cases h2 : (f.P.any (fun y : Pt => !plB y.t y.i) || (f.S.any (fun y : Sp => !plB y.t y.i) || f.W.any (fun y : Pt => !plB y.t y.i))) = true
    · rw [if_pos h2] at h; cases h
    · rw [if_neg]
      intro h3
      apply h2
      simp only [List.any_nil, Bool.false_or] at h3
      simp [h3]
theorem note0 {a : Ft} {s la n : Nat} (h : chkF a ≠ 0) : noteE a s la n = chkF a := if_pos h
theorem note1 {a : Ft} {s la n : Nat} (h : chkF a = 0) (h1 : s = 0 ∨ 4611686018427387904 < s) : noteE a s la n = 1 := by unfold noteE; rw [if_neg (fun h2 => h2 h), if_pos h1]
theorem note2 {a : Ft} {s la n : Nat} (h : chkF a = 0) (h1 : ¬ (s = 0 ∨ 4611686018427387904 < s)) (h2 : s ≤ la) : noteE a s la n = 81 := by unfold noteE; rw [if_neg (fun h2 => h2 h), if_neg h1, if_pos h2]
theorem note3 {a : Ft} {s la n : Nat} (h : chkF a = 0) (h1 : ¬ (s = 0 ∨ 4611686018427387904 < s)) (h2 : ¬ s ≤ la) (h3 : 4096 ≤ n) : noteE a s la n = 2 := by unfold noteE; rw [if_neg (fun h2 => h2 h), if_neg h1, if_neg h2, if_pos h3]
theorem note4 {a : Ft} {s la n : Nat} (h : chkF a = 0) (h1 : ¬ (s = 0 ∨ 4611686018427387904 < s)) (h2 : ¬ s ≤ la) (h3 : ¬ 4096 ≤ n) : noteE a s la n = 0 := by unfold noteE; rw [if_neg (fun h2 => h2 h), if_neg h1, if_neg h2, if_neg h3]
theorem NtL.refl {a : Ft} {s : Nat} {L : List Cm} (h : noteE a s (lastC L) L.length ≠ 0) : NtL a s L L := ⟨fun _ => rfl, fun h2 => absurd h2 h⟩
set_option maxHeartbeats 8000000 in
theorem note_any (a : Ft) (va0 va1 va2 : Value) (B lb s : Nat) (vC : Value) (mb : Nat) (E : List (Pt × Value × List Nat)) (L : List Cm) (w : World) (hX : LogO w B lb vC mb E L) (ha : RdF w va0 va1 va2 a) (hs : s < 18446744073709551616) :
    Calls Tryz.prog 11 #[ptr1 lb, .int .u64 (s : Nat), .agg #[va0, va1, va2]] w fun e w' => e = .returned (.int .i64 (noteE a s (lastC L) L.length)) ∧ ∃ vC' E' L', LogO w' B lb vC' mb E' L' ∧ NtL a s L L' ∧ Frm w w' (FB B w) := by
  obtain ⟨p0, c0, e0, -⟩ := ha.p.f
  obtain ⟨p1, c1, e1, -⟩ := ha.s.f
  obtain ⟨p2, c2, e2, -⟩ := ha.w.f
  obtain ⟨n0, hn0⟩ : ∃ n, a.P.length = n := ⟨_, rfl⟩
  obtain ⟨n1, hn1⟩ : ∃ n, a.S.length = n := ⟨_, rfl⟩
  obtain ⟨n2, hn2⟩ : ∃ n, a.W.length = n := ⟨_, rfl⟩
  rw [hn0] at e0
  rw [hn1] at e1
  rw [hn2] at e2
  subst e0 e1 e2
  clear hn0 hn1 hn2
  obtain ⟨w1, hw1⟩ : ∃ w1, w.alloc (.cells #[.slice p0 n0 c0, .slice p1 n1 c1, .slice p2 n2 c2] 27) = w1 := ⟨_, rfl⟩
  have HB1 : Hid (Below w.heap.size w w1) := by rw [← hw1]; exact (Below.refl _ _).alloc (Nat.le_refl _) _
  have HKA : Hid (Blk w1 w.heap.size #[.slice p0 n0 c0, .slice p1 n1 c1, .slice p2 n2 c2] 27) := by rw [← hw1]; exact Blk.new w _ _
  have HX1 : Hid (LogO w1 B lb vC mb E L) := hX.on HB1.out
  have HA1 : Hid (RdF w1 _ _ _ a) := ha.on HB1.out
  have CG : Hid (Calls _ _ _ _ _) := given_any lb _ _ w1 HX1.out.blk
  have CC : Hid (Calls _ _ _ _ _) := check_any a _ _ _ w1 HA1.out
  have k0 := HKA.out.cell (i := 0) rfl
  have k1 := HKA.out.cell (i := 1) rfl
  have k2 := HKA.out.cell (i := 2) rfl
  clear hX ha
  by_cases hca : chkF a = 0
  · rw [hca] at CC
    by_cases h1 : s = 0 ∨ 4611686018427387904 < s
    · have HN : Hid (noteE a s (lastC L) L.length = 1) := note1 hca h1
      rcases h1 with h1 | h1
      · subst h1
        go_enter Tryz.func11, Tryz.ntmps11
        go_wp2_with fail
        refine CG.out.mono ?_
        rintro e w3 ⟨rfl, hw3⟩
        obtain rfl := hw3.symm
        clear CG
        go_wp2_with fail
        refine CC.out.mono ?_
        rintro e w2 ⟨rfl, hb2⟩
        clear CC k0 k1 k2 hw1
        have HB2 : Hid (Below w.heap.size w w2) := HB1.out.trans (hb2.mono HB1.out.size)
        have HX2 : Hid (LogO w2 B lb vC mb E L) := HX1.out.on hb2
        have HA2 : Hid (RdF w2 _ _ _ a) := HA1.out.on hb2
        have HKA2 : Hid (Blk w2 w.heap.size #[.slice p0 n0 c0, .slice p1 n1 c1, .slice p2 n2 c2] 27) := HKA.out.on hb2
        clear hb2 HB1 HX1 HA1 HKA
        go_wp2_with fail
        go_ret
        exact ⟨congrArg (fun x => Ending.returned (.int .i64 x)) HN.out.symm, _, _, _, HX2.out, NtL.refl (by rw [HN.out]; decide), FB.of_below HB2.out⟩
      · have d1 : decide ((s : Int) = 0) = false := decide_eq_false (by omega)
        have d2 : ((s : Int) == 0) = false := by simp; omega
        have d3 : decide ((4611686018427387904 : Int) < (s : Int)) = true := decide_eq_true (by omega)
        clear hca h1
        go_enter Tryz.func11, Tryz.ntmps11
        go_wp2_with fail
        refine CG.out.mono ?_
        rintro e w3 ⟨rfl, hw3⟩
        obtain rfl := hw3.symm
        clear CG
        go_wp2_with fail
        refine CC.out.mono ?_
        rintro e w2 ⟨rfl, hb2⟩
        clear CC k0 k1 k2 hw1
        have HB2 : Hid (Below w.heap.size w w2) := HB1.out.trans (hb2.mono HB1.out.size)
        have HX2 : Hid (LogO w2 B lb vC mb E L) := HX1.out.on hb2
        have HA2 : Hid (RdF w2 _ _ _ a) := HA1.out.on hb2
        have HKA2 : Hid (Blk w2 w.heap.size #[.slice p0 n0 c0, .slice p1 n1 c1, .slice p2 n2 c2] 27) := HKA.out.on hb2
        clear hb2 HB1 HX1 HA1 HKA
        go_wp2_with fail
        go_ret
        exact ⟨congrArg (fun x => Ending.returned (.int .i64 x)) HN.out.symm, _, _, _, HX2.out, NtL.refl (by rw [HN.out]; decide), FB.of_below HB2.out⟩
    · by_cases h2 : s ≤ lastC L
      · have HN : Hid (noteE a s (lastC L) L.length = 81) := note2 hca h1 h2
        have d1 : decide ((s : Int) = 0) = false := decide_eq_false (by omega)
        have d2 : ((s : Int) == 0) = false := by simp; omega
        have d3 : decide ((4611686018427387904 : Int) < (s : Int)) = false := decide_eq_false (by omega)
        obtain ⟨la, hla⟩ : ∃ la, lastC L = la := ⟨_, rfl⟩
        have d4 : s ≤ la := by omega
        have HLA : Hid (lastC L = la) := hla
        clear hca h1 h2 hla
        go_enter Tryz.func11, Tryz.ntmps11
        go_wp2_with fail
        refine CG.out.mono ?_
        rintro e w3 ⟨rfl, hw3⟩
        obtain rfl := hw3.symm
        clear CG
        go_wp2_with fail
        refine CC.out.mono ?_
        rintro e w2 ⟨rfl, hb2⟩
        clear CC k0 k1 k2 hw1
        have HB2 : Hid (Below w.heap.size w w2) := HB1.out.trans (hb2.mono HB1.out.size)
        have HX2 : Hid (LogO w2 B lb vC mb E L) := HX1.out.on hb2
        have HA2 : Hid (RdF w2 _ _ _ a) := HA1.out.on hb2
        have HKA2 : Hid (Blk w2 w.heap.size #[.slice p0 n0 c0, .slice p1 n1 c1, .slice p2 n2 c2] 27) := HKA.out.on hb2
        clear hb2 HB1 HX1 HA1 HKA
        have CL : Hid (Calls _ _ _ _ _) := last_any lb _ _ L w2 HX2.out.blk HX2.out.x.com HX2.out.inv.len
        go_wp2_with fail
        refine CL.out.mono ?_
        rw [HLA.out]
        rintro e w3 ⟨rfl, hb3⟩
        have HB3 : Hid (Below w.heap.size w w3) := HB2.out.trans (hb3.mono HB2.out.size)
        have HX3 : Hid (LogO w3 B lb vC mb E L) := HX2.out.on hb3
        have HA3 : Hid (RdF w3 _ _ _ a) := HA2.out.on hb3
        have HKA3 : Hid (Blk w3 w.heap.size #[.slice p0 n0 c0, .slice p1 n1 c1, .slice p2 n2 c2] 27) := HKA2.out.on hb3
        clear CL hb3 HB2 HX2 HA2 HKA2
        go_wp2_with fail
        go_ret
        exact ⟨congrArg (fun x => Ending.returned (.int .i64 x)) HN.out.symm, _, _, _, HX3.out, NtL.refl (by rw [HN.out]; decide), FB.of_below HB3.out⟩
      · by_cases h3 : 4096 ≤ L.length
        · have HN : Hid (noteE a s (lastC L) L.length = 2) := note3 hca h1 h2 h3
          obtain ⟨pc, cc, rfl, -⟩ := HX1.out.com.row
          have hl4 : L.length = 4096 := by have := HX1.out.inv.len; omega
          rw [hl4] at HX1
          have d1 : decide ((s : Int) = 0) = false := decide_eq_false (by omega)
          have d2 : ((s : Int) == 0) = false := by simp; omega
          have d3 : decide ((4611686018427387904 : Int) < (s : Int)) = false := decide_eq_false (by omega)
          obtain ⟨la, hla⟩ : ∃ la, lastC L = la := ⟨_, rfl⟩
          have d4 : la < s := by omega
          have HLA : Hid (lastC L = la) := hla
          clear hca h1 h2 h3 hla hl4
          go_enter Tryz.func11, Tryz.ntmps11
          go_wp2_with fail
          refine CG.out.mono ?_
          rintro e w3 ⟨rfl, hw3⟩
          obtain rfl := hw3.symm
          clear CG
          go_wp2_with fail
          refine CC.out.mono ?_
          rintro e w2 ⟨rfl, hb2⟩
          clear CC k0 k1 k2 hw1
          have HB2 : Hid (Below w.heap.size w w2) := HB1.out.trans (hb2.mono HB1.out.size)
          have HX2 : Hid (LogO w2 B lb (.slice pc 4096 cc) mb E L) := HX1.out.on hb2
          have HA2 : Hid (RdF w2 _ _ _ a) := HA1.out.on hb2
          have HKA2 : Hid (Blk w2 w.heap.size #[.slice p0 n0 c0, .slice p1 n1 c1, .slice p2 n2 c2] 27) := HKA.out.on hb2
          clear hb2 HB1 HX1 HA1 HKA
          have CL : Hid (Calls _ _ _ _ _) := last_any lb _ _ L w2 HX2.out.blk HX2.out.x.com HX2.out.inv.len
          go_wp2_with fail
          refine CL.out.mono ?_
          rw [HLA.out]
          rintro e w3 ⟨rfl, hb3⟩
          have HB3 : Hid (Below w.heap.size w w3) := HB2.out.trans (hb3.mono HB2.out.size)
          have HX3 : Hid (LogO w3 B lb (.slice pc 4096 cc) mb E L) := HX2.out.on hb3
          have HA3 : Hid (RdF w3 _ _ _ a) := HA2.out.on hb3
          have HKA3 : Hid (Blk w3 w.heap.size #[.slice p0 n0 c0, .slice p1 n1 c1, .slice p2 n2 c2] 27) := HKA2.out.on hb3
          clear CL hb3 HB2 HX2 HA2 HKA2
          have g1 := HX3.out.blk.cell (i := 1) rfl
          go_wp2_with fail
          go_ret
          exact ⟨congrArg (fun x => Ending.returned (.int .i64 x)) HN.out.symm, _, _, _, HX3.out, NtL.refl (by rw [HN.out]; decide), FB.of_below HB3.out⟩
        · have HN : Hid (noteE a s (lastC L) L.length = 0) := note4 hca h1 h2 h3
          have HK : Hid (1 ≤ s ∧ s ≤ 4611686018427387904 ∧ lastC L < s ∧ L.length < 4096 ∧ chkF ⟨[], [], a.W⟩ = 0) := ⟨by omega, by omega, by omega, by omega, chk_partW hca⟩
          obtain ⟨pc, cc, rfl, -⟩ := HX1.out.com.row
          obtain ⟨n, hn⟩ : ∃ n, L.length = n := ⟨_, rfl⟩
          rw [hn] at HX1
          have d1 : decide ((s : Int) = 0) = false := decide_eq_false (by omega)
          have d2 : ((s : Int) == 0) = false := by simp; omega
          have d3 : decide ((4611686018427387904 : Int) < (s : Int)) = false := decide_eq_false (by omega)
          obtain ⟨la, hla⟩ : ∃ la, lastC L = la := ⟨_, rfl⟩
          have d4 : la < s := by omega
          have d5 : decide ((4096 : Int) ≤ (n : Int)) = false := decide_eq_false (by omega)
          have HLA : Hid (lastC L = la) := hla
          clear hca h1 h2 h3 hla hn
          go_enter Tryz.func11, Tryz.ntmps11
          go_wp2_with fail
          refine CG.out.mono ?_
          rintro e w3 ⟨rfl, hw3⟩
          obtain rfl := hw3.symm
          clear CG
          go_wp2_with fail
          refine CC.out.mono ?_
          rintro e w2 ⟨rfl, hb2⟩
          clear CC k0 k1 k2 hw1
          have HB2 : Hid (Below w.heap.size w w2) := HB1.out.trans (hb2.mono HB1.out.size)
          have HX2 : Hid (LogO w2 B lb (.slice pc n cc) mb E L) := HX1.out.on hb2
          have HA2 : Hid (RdF w2 _ _ _ a) := HA1.out.on hb2
          have HKA2 : Hid (Blk w2 w.heap.size #[.slice p0 n0 c0, .slice p1 n1 c1, .slice p2 n2 c2] 27) := HKA.out.on hb2
          clear hb2 HB1 HX1 HA1 HKA
          have CL : Hid (Calls _ _ _ _ _) := last_any lb _ _ L w2 HX2.out.blk HX2.out.x.com HX2.out.inv.len
          go_wp2_with fail
          refine CL.out.mono ?_
          rw [HLA.out]
          rintro e w3 ⟨rfl, hb3⟩
          have HB3 : Hid (Below w.heap.size w w3) := HB2.out.trans (hb3.mono HB2.out.size)
          have HX3 : Hid (LogO w3 B lb (.slice pc n cc) mb E L) := HX2.out.on hb3
          have HA3 : Hid (RdF w3 _ _ _ a) := HA2.out.on hb3
          have HKA3 : Hid (Blk w3 w.heap.size #[.slice p0 n0 c0, .slice p1 n1 c1, .slice p2 n2 c2] 27) := HKA2.out.on hb3
          clear CL hb3 HB2 HX2 HA2 HKA2
          have g1 := HX3.out.blk.cell (i := 1) rfl
          have g2 := HKA3.out.cell (i := 2) rfl
          have CK : Hid (Calls _ _ _ _ _) := keep_any B lb s _ mb E L a.W _ w3 HX3.out HA3.out.w HK.out.2.2.2.2 HK.out.1 HK.out.2.1 HK.out.2.2.1 HK.out.2.2.2.1
          go_wp2_with fail
          clear g1 g2
          refine CK.out.mono ?_
          rintro e w4 ⟨vC', E', c, rfl, hc1, hc2, hX4, hF4⟩
          have HR : Hid (LogO w4 B lb vC' mb E' (L ++ [c]) ∧ NtL a s L (L ++ [c]) ∧ Frm w w4 (FB B w)) := ⟨hX4, ⟨fun h => absurd HN.out h, fun _ => ⟨c, rfl, hc1, hc2⟩⟩, FB.trans (FB.of_below HB3.out) hF4⟩
          clear CK hX4 hF4 hc1 hc2
          go_wp2_with fail
          go_ret
          exact ⟨congrArg (fun x => Ending.returned (.int .i64 x)) HN.out.symm, _, _, _, HR.out⟩
  · have HC : Hid (chkF a ≠ 0) := hca
    have HN : Hid (noteE a s (lastC L) L.length = chkF a) := note0 hca
    go_enter Tryz.func11, Tryz.ntmps11
    go_wp2_with fail
    refine CG.out.mono ?_
    rintro e w3 ⟨rfl, hw3⟩
    obtain rfl := hw3.symm
    clear CG
    go_wp2_with fail
    refine CC.out.mono ?_
    rintro e w2 ⟨rfl, hb2⟩
    clear CC k0 k1 k2 hw1
    have HB2 : Hid (Below w.heap.size w w2) := HB1.out.trans (hb2.mono HB1.out.size)
    have HX2 : Hid (LogO w2 B lb vC mb E L) := HX1.out.on hb2
    have HA2 : Hid (RdF w2 _ _ _ a) := HA1.out.on hb2
    have HKA2 : Hid (Blk w2 w.heap.size #[.slice p0 n0 c0, .slice p1 n1 c1, .slice p2 n2 c2] 27) := HKA.out.on hb2
    clear hb2 HB1 HX1 HA1 HKA
    go_wp2_with fail
    go_ret
    exact ⟨congrArg (fun x => Ending.returned (.int .i64 x)) HN.out.symm, _, _, _, HX2.out, NtL.refl (by rw [HN.out]; exact HC.out), FB.of_below HB2.out⟩

end Go.Proofs.YtcknhjabdjbjiabGreat
