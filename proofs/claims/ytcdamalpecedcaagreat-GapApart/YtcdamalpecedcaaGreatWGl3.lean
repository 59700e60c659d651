/- Layer 13: does, at Give. -/
import Derived.Test.YtcdamalpecedcaaGreatWGl2
namespace Go.Proofs.YtcdamalpecedcaaGreat
open Go.RowKit
set_option maxRecDepth 100000

theorem only_gv {w : World} {gb nx : Nat} {Y : List Tkr} (h : Gp w gb nx Y) : OnlyTG w (gvF gb Y) := by
  obtain ⟨xb, p, c, h1, h2⟩ := h
  intro g cs T z hg hk
  rcases hk with hk | hk
  · exact only_gb h1 g cs T z hg hk
  · exact only_tb h2 g cs T z hg hk
theorem gv_lt {w : World} {gb nx : Nat} {Y : List Tkr} (h : Gp w gb nx Y) (k : Nat) (hk : gvF gb Y k) : k < w.heap.size := by
  obtain ⟨xb, p, c, h1, h2⟩ := h
  rcases hk with hk | ⟨y, hy, hk⟩
  · rw [hk]; exact h1.lt
  · have h9 := (h2.t y hy).lts
    rcases hk with hk | hk
    · rw [hk]; exact h9.1
    · rw [hk]; exact h9.2

set_option maxHeartbeats 16000000 in
theorem dgive_at (gb ls tn lc n i : Nat) (kd ec : Int) (M : List (Nat × List Hd)) (lq : Option Addr) (v : Value) (Y : List Tkr) (D : List Dk) (w : World) (h : PG w gb ls v Y D) (hkd : ¬ kd = 0) (hi : i < D.length) (hti : D[i].t = tn)
    (hT : ∀ w', DkL w' 0 v D → Calls Tryz.prog 23 #[.agg #[v, .int .u64 (ls : Nat)], .int .u64 (tn : Nat)] w' fun e w'' => ∃ v' D', e = .returned (.tuple #[.agg #[v', .int .u64 (ls : Nat)], .int .i64 ec]) ∧ DkL w'' 0 v' D' ∧ D'.map (fun d => (d.t, d.H)) = M ∧ StpD D D' ∧ Below w'.heap.size w' w'')
    (hP : ∀ w', Gp w' gb (ls + 1) Y → Calls Tryz.prog 14 #[ptr1 gb, .int .u64 (tn : Nat)] w' fun e w'' => ∃ Y', e = .returned (.int .i64 ec) ∧ Gp w'' gb (ls + 1) Y' ∧ Y'.map (fun y => (y.x.t, y.x.H)) = M ∧ Frm w' w'' (gvF gb Y) ∧ ∀ y ∈ Y', y ∈ Y) :
    Calls Tryz.prog 8 #[ptr1 gb, .agg #[v, .int .u64 (ls : Nat)], .agg #[.int .i64 kd, .slice lq n lc, .int .i64 (i : Int)]] w fun e w' => ∃ v' Y' D', e = .returned (.tuple #[.agg #[v', .int .u64 (ls : Nat)], .bool true]) ∧ PG w' gb ls v' Y' D' ∧ DoR w w' gb Y Y' D D' := by
  have HT : Hid _ := hT
  have HP : Hid _ := hP
  have hDl : D.length ≤ 256 := by rw [same_len h.e]; exact h.g.inv.2
  have HDl : Hid (D.length ≤ 256) := hDl
  have HIt : Hid (i < D.length ∧ ∀ hi : i < D.length, D[i].t = tn) := ⟨hi, fun _ => hti⟩
  have g0 : (0 : Int) ≤ (i : Int) := by omega
  have g1 : (i : Int) < (D.length : Int) := by omega
  clear hti
  obtain ⟨aX, aB, aS⟩ := blk_new w #[v, .int .u64 (ls : Nat)] 28
  obtain ⟨bX, bB, bS⟩ := blk_new (w.alloc (.cells #[v, .int .u64 (ls : Nat)] 28)) #[.int .i64 kd, .slice lq n lc, .int .i64 (i : Int)] 34
  obtain ⟨cX, cB, cS⟩ := blk_new ((w.alloc (.cells #[v, .int .u64 (ls : Nat)] 28)).alloc (.cells #[.int .i64 kd, .slice lq n lc, .int .i64 (i : Int)] 34)) #[.slice none 0 0, .int .u64 0] 28
  have bL := aB.trans (bB.mono aB.size)
  have cL := bL.trans (cB.mono bL.size)
  have aX3 := (aX.on bB).on cB
  have bX3 := bX.on cB
  rw [bS, aS] at cX
  rw [aS] at bX3
  have HL2 : Hid (Below w.heap.size w (((w.alloc (.cells #[v, .int .u64 (ls : Nat)] 28)).alloc (.cells #[.int .i64 kd, .slice lq n lc, .int .i64 (i : Int)] 34)).alloc (.cells #[.slice none 0 0, .int .u64 0] 28))) := cL
  have HS2 : Hid (Blk (((w.alloc (.cells #[v, .int .u64 (ls : Nat)] 28)).alloc (.cells #[.int .i64 kd, .slice lq n lc, .int .i64 (i : Int)] 34)).alloc (.cells #[.slice none 0 0, .int .u64 0] 28)) w.heap.size #[v, .int .u64 (ls : Nat)] 28) := aX3
  have HA2 : Hid (Blk (((w.alloc (.cells #[v, .int .u64 (ls : Nat)] 28)).alloc (.cells #[.int .i64 kd, .slice lq n lc, .int .i64 (i : Int)] 34)).alloc (.cells #[.slice none 0 0, .int .u64 0] 28)) (w.heap.size + 1) #[.int .i64 kd, .slice lq n lc, .int .i64 (i : Int)] 34) := bX3
  have HR2 : Hid (Blk (((w.alloc (.cells #[v, .int .u64 (ls : Nat)] 28)).alloc (.cells #[.int .i64 kd, .slice lq n lc, .int .i64 (i : Int)] 34)).alloc (.cells #[.slice none 0 0, .int .u64 0] 28)) (w.heap.size + 2) #[.slice none 0 0, .int .u64 0] 28) := cX
  have HG2 : Hid (Gp (((w.alloc (.cells #[v, .int .u64 (ls : Nat)] 28)).alloc (.cells #[.int .i64 kd, .slice lq n lc, .int .i64 (i : Int)] 34)).alloc (.cells #[.slice none 0 0, .int .u64 0] 28)) gb (ls + 1) Y) := h.g.on cL
  have HD2 : Hid (DkL (((w.alloc (.cells #[v, .int .u64 (ls : Nat)] 28)).alloc (.cells #[.int .i64 kd, .slice lq n lc, .int .i64 (i : Int)] 34)).alloc (.cells #[.slice none 0 0, .int .u64 0] 28)) 0 v D) := h.d.on cL
  have y0 := aX3.cell (i := 0) rfl
  have y1 := aX3.cell (i := 1) rfl
  have z0 := bX3.cell (i := 0) rfl
  have HGl : Hid (∀ k, gvF gb Y k → k < w.heap.size) := gv_lt h.g
  clear h hT hP aX aB aS bX bB bS cX cB cS bL cL aX3 bX3 hDl
  go_enter Tryz.func8, Tryz.ntmps8
  go_wp2_with fail
  generalize (((w.alloc (.cells #[v, .int .u64 (ls : Nat)] 28)).alloc (.cells #[.int .i64 kd, .slice lq n lc, .int .i64 (i : Int)] 34)).alloc (.cells #[.slice none 0 0, .int .u64 0] 28)) = w2 at *
  refine (rtickets_any D 0 ls v w2 HD2.out HDl.out).mono ?_
  rintro e w3 ⟨tv, rfl, htv, hb3⟩
  dsimp only
  have HL3 : Hid (Below w.heap.size w w3) := HL2.out.trans (hb3.mono HL2.out.size)
  have HS3 : Hid (Blk w3 w.heap.size #[v, .int .u64 (ls : Nat)] 28) := HS2.out.on hb3
  have HA3 : Hid (Blk w3 (w.heap.size + 1) #[.int .i64 kd, .slice lq n lc, .int .i64 (i : Int)] 34) := HA2.out.on hb3
  have HR3 : Hid (Blk w3 (w.heap.size + 2) #[.slice none 0 0, .int .u64 0] 28) := HR2.out.on hb3
  have HG3 : Hid (Gp w3 gb (ls + 1) Y) := HG2.out.on hb3
  have HD3 : Hid (DkL w3 0 v D) := HD2.out.on hb3
  obtain ⟨tp, tc, htv', hta⟩ := OwnU.at2 (owns_base htv (Nat.zero_le _))
  subst htv'
  rw [List.length_map]
  obtain ⟨g, htp, hgl, hgc⟩ := hta i (by rw [List.length_map]; exact HIt.out.1)
  rw [List.getElem_map, HIt.out.2 HIt.out.1] at hgc
  subst htp
  have s0 := HS3.out.cell (i := 0) rfl
  have s1 := HS3.out.cell (i := 1) rfl
  have z2 := HA3.out.cell (i := 2) rfl
  clear hb3 htv hta HL2 HS2 HA2 HR2 HG2 HD2 y0 y1 z0
  go_wp2_with fail
  refine (HT.out w3 HD3.out).mono ?_
  rintro e w5 ⟨v5, D5, rfl, hd5, hm5, hs5, hb5⟩
  dsimp only
  obtain ⟨q5, c5, hv5, -⟩ := hd5.rd
  obtain ⟨m5, hm5'⟩ : ∃ m5, D5.length = m5 := ⟨_, rfl⟩
  rw [hm5'] at hv5
  subst hv5
  have hal := (blk_new w5 #[.slice q5 m5 c5, .int .u64 (ls : Nat)] 28).2.1
  have HO6 : Hid (Blk (w5.alloc (.cells #[.slice q5 m5 c5, .int .u64 (ls : Nat)] 28)) w5.heap.size #[.slice q5 m5 c5, .int .u64 (ls : Nat)] 28) := (blk_new w5 _ _).1
  have HD6 : Hid (DkL (w5.alloc (.cells #[.slice q5 m5 c5, .int .u64 (ls : Nat)] 28)) 0 (.slice q5 m5 c5) D5) := hd5.on hal
  have HE5 : Hid (D5.map (fun d => (d.t, d.H)) = M ∧ StpD D D5) := ⟨hm5, hs5⟩
  have hb6 := hb5.trans (hal.mono hb5.size)
  have HR6 : Hid (Blk (w5.alloc (.cells #[.slice q5 m5 c5, .int .u64 (ls : Nat)] 28)) (w.heap.size + 2) #[.slice none 0 0, .int .u64 0] 28) := HR3.out.on hb6
  have HG6 : Hid (Gp (w5.alloc (.cells #[.slice q5 m5 c5, .int .u64 (ls : Nat)] 28)) gb (ls + 1) Y) := HG3.out.on hb6
  have HL6 : Hid (Below w.heap.size w (w5.alloc (.cells #[.slice q5 m5 c5, .int .u64 (ls : Nat)] 28))) := HL3.out.trans (hb6.mono HL3.out.size)
  have HZ5 : Hid (w.heap.size + 3 ≤ w5.heap.size) := Nat.le_trans (by have := HR3.out.lt; omega) hb5.size
  clear hd5 hm5 hs5 hb5 hm5' hal hb6 HT HD3 HA3 HR3 HG3 HL3 HS3 s0 s1 z2
  go_upto_region 10 with fail
  generalize (w5.alloc (.cells #[.slice q5 m5 c5, .int .u64 (ls : Nat)] 28)) = w6 at *
  have hdr : Below w6.heap.size w6 w6.drew := (Below.refl _ _).drew
  have HGd : Hid (Gp w6.drew gb (ls + 1) Y) := HG6.out.on hdr
  have HRd : Hid (Blk w6.drew (w.heap.size + 2) #[.slice none 0 0, .int .u64 0] 28) := HR6.out.on hdr
  have HOd0 : Hid (Blk w6.drew w5.heap.size #[.slice q5 m5 c5, .int .u64 (ls : Nat)] 28) := HO6.out.on hdr
  have HDd : Hid (DkL w6.drew 0 (.slice q5 m5 c5) D5) := HD6.out.on hdr
  have HLd : Hid (Below w.heap.size w w6.drew) := HL6.out.trans (hdr.mono HL6.out.size)
  clear hdr HG6 HR6 HO6 HD6 HL6
  refine wp_region_any (by kernel_rfl) ?_
  change wpAny _ _ _ _ _ _ _ (World.drew _)
  generalize w6.drew = wd at *
  obtain ⟨ob, hob⟩ : ∃ ob, w5.heap.size = ob := ⟨_, rfl⟩
  rw [hob] at HOd0 HZ5 ⊢
  have HOd : Hid (Blk wd ob #[.slice q5 m5 c5, .int .u64 (ls : Nat)] 28) := HOd0
  clear hob HOd0
  have o0 := HOd.out.cell (i := 0) rfl
  have o1 := HOd.out.cell (i := 1) rfl
  refine tk (v := ?_) 1 rfl ?_ ?_
  rotate_left
  focus
    intro w9
    go_simp
    try with_reducible rfl
  try simp only [aP]
  refine tk (v := ?_) 2 rfl ?_ ?_
  rotate_left
  focus
    intro w9
    go_simp
    try with_reducible rfl
  try simp only [aP]
  refine tk (v := ?_) 4 rfl ?_ ?_
  rotate_left
  focus
    intro w9
    go_simp
    try with_reducible rfl
  try simp only [aP]
  apply later2 (fun (Y7 : List Tkr) (w7 : World) => Hid ((Gp w7 gb (ls + 1) Y7 ∧ Y7.map (fun y => (y.x.t, y.x.H)) = M) ∧ Frm wd w7 (gvF gb Y) ∧ ∀ y ∈ Y7, y ∈ Y))
  intro hs0_3_6
  apply later2 (fun (Y7 : List Tkr) (w7 : World) => Hid ((Gp w7 gb (ls + 1) Y7 ∧ Y7.map (fun y => (y.x.t, y.x.H)) = M) ∧ Frm wd w7 (gvF gb Y) ∧ ∀ y ∈ Y7, y ∈ Y))
  intro hs0_3
  apply later2 (fun (Y7 : List Tkr) (w7 : World) => Hid ((Gp w7 gb (ls + 1) Y7 ∧ Y7.map (fun y => (y.x.t, y.x.H)) = M) ∧ Frm wd w7 (gvF gb Y) ∧ ∀ y ∈ Y7, y ∈ Y))
  intro hs3
  apply later0
  intro hs0
  · refine wpAny_ready (rs := [0, 3]) (by kernel_rfl) (by simp) ?_
    refine anyN_cons 0 rfl (by rfl) (fun K hK => ?_) (anyN_cons 3 rfl (by rfl) (fun K hK => ?_) AllReady.nil)
    · go_simp
      refine hK.out _ _ ?_
      clear hK K
      try simp only [aP]
      exact hs0
    · go_simp
      refine (HP.out wd HGd.out).mono ?_
      rintro e w7 ⟨Y7, rfl, hg7, hm7, hf7, hn7⟩
      dsimp only
      have H7 : Hid ((Gp w7 gb (ls + 1) Y7 ∧ Y7.map (fun y => (y.x.t, y.x.H)) = M) ∧ Frm wd w7 (gvF gb Y) ∧ ∀ y ∈ Y7, y ∈ Y) := ⟨⟨hg7, hm7⟩, hf7, hn7⟩
      clear hg7 hm7 hf7 hn7
      refine hK.out _ _ ?_
      clear hK K
      try simp only [aP]
      refine tk (v := ?_) 5 rfl ?_ ?_
      rotate_left
      focus
        intro w9
        go_simp
        try with_reducible rfl
      try simp only [aP]
      exact hs3 Y7 w7 H7
  · refine wpAny_ready (rs := [3]) (by kernel_rfl) (by simp) ?_
    refine anyN_cons 3 rfl (by rfl) (fun K hK => ?_) AllReady.nil
    go_simp
    refine (HP.out wd HGd.out).mono ?_
    rintro e w7 ⟨Y7, rfl, hg7, hm7, hf7, hn7⟩
    dsimp only
    have H7 : Hid ((Gp w7 gb (ls + 1) Y7 ∧ Y7.map (fun y => (y.x.t, y.x.H)) = M) ∧ Frm wd w7 (gvF gb Y) ∧ ∀ y ∈ Y7, y ∈ Y) := ⟨⟨hg7, hm7⟩, hf7, hn7⟩
    clear hg7 hm7 hf7 hn7
    refine hK.out _ _ ?_
    clear hK K
    try simp only [aP]
    refine tk (v := ?_) 5 rfl ?_ ?_
    rotate_left
    focus
      intro w9
      go_simp
      try with_reducible rfl
    try simp only [aP]
    exact hs0_3 Y7 w7 H7
  · intro Y7 w7 H7
    have HR7 : Hid (Blk w7 (w.heap.size + 2) #[.slice none 0 0, .int .u64 0] 28) := HRd.out.frm H7.out.2.1 (fun hk => by have := HGl.out _ hk; omega)
    have HO7 : Hid (Blk w7 ob #[.slice q5 m5 c5, .int .u64 (ls : Nat)] 28) := HOd.out.frm H7.out.2.1 (fun hk => by have := HGl.out _ hk; have := HZ5.out; omega)
    have o0 := HO7.out.cell (i := 0) rfl
    have o1 := HO7.out.cell (i := 1) rfl
    have r0 := HR7.out.cell (i := 0) rfl
    have r1 := HR7.out.cell (i := 1) rfl
    have f0 := HR7.out.frozen 0
    have f1 := HR7.out.frozen 1
    refine wpAny_ready (rs := [0]) (by kernel_rfl) (by simp) ?_
    refine anyN_cons 0 rfl (by rfl) (fun K hK => ?_) AllReady.nil
    go_simp
    refine hK.out _ _ ?_
    clear hK K
    try simp only [aP]
    exact hs0_3 Y7 w7 H7
  · intro Y7 w7 H7
    have HR7 : Hid (Blk w7 (w.heap.size + 2) #[.slice none 0 0, .int .u64 0] 28) := HRd.out.frm H7.out.2.1 (fun hk => by have := HGl.out _ hk; omega)
    have HO7 : Hid (Blk w7 ob #[.slice q5 m5 c5, .int .u64 (ls : Nat)] 28) := HOd.out.frm H7.out.2.1 (fun hk => by have := HGl.out _ hk; have := HZ5.out; omega)
    have o0 := HO7.out.cell (i := 0) rfl
    have o1 := HO7.out.cell (i := 1) rfl
    have r0 := HR7.out.cell (i := 0) rfl
    have r1 := HR7.out.cell (i := 1) rfl
    have f0 := HR7.out.frozen 0
    have f1 := HR7.out.frozen 1
    refine wpAny_ready (rs := [6]) (by kernel_rfl) (by simp) ?_
    refine anyN_cons 6 rfl (by rfl) (fun K hK => ?_) AllReady.nil
    go_simp
    refine hK.out _ _ ?_
    clear hK K
    try simp only [aP]
    exact hs0_3_6 Y7 w7 H7
  · intro Y7 w7 H7
    refine tk (v := ?_) 7 rfl ?_ ?_
    rotate_left
    focus
      intro w9
      go_simp
      try with_reducible rfl
    try simp only [aP]
    refine wpAny_done (by kernel_rfl) ?_ _
    have HR7 : Hid (Blk w7 (w.heap.size + 2) #[.slice none 0 0, .int .u64 0] 28) := HRd.out.frm H7.out.2.1 (fun hk => by have := HGl.out _ hk; omega)
    have HD7 : Hid (DkL w7 0 (.slice q5 m5 c5) D5) := HDd.out.frm H7.out.2.1 (only_gv HGd.out)
    have HFZ : Hid (Frm w7 ((w7.setCell ⟨w.heap.size + 2, 0, none⟩ (.slice q5 m5 c5)).setCell ⟨w.heap.size + 2, 1, none⟩ (.int .u64 (ls : Nat))) (fun k => k = w.heap.size + 2)) := (frm_set w7 _ 0 _ (F := fun k => k = w.heap.size + 2) (.inl rfl)).trans (frm_set _ _ 1 _ (F := fun k => k = w.heap.size + 2) (.inl rfl)) (fun k hk => .inl hk)
    have HBZ : Hid (Blk ((w7.setCell ⟨w.heap.size + 2, 0, none⟩ (.slice q5 m5 c5)).setCell ⟨w.heap.size + 2, 1, none⟩ (.int .u64 (ls : Nat))) (w.heap.size + 2) #[.slice q5 m5 c5, .int .u64 (ls : Nat)] 28) := (HR7.out.set 0 _).set 1 _
    have HPZ : Hid (PG ((w7.setCell ⟨w.heap.size + 2, 0, none⟩ (.slice q5 m5 c5)).setCell ⟨w.heap.size + 2, 1, none⟩ (.int .u64 (ls : Nat))) gb ls (.slice q5 m5 c5) Y7 D5) := PG.box ⟨H7.out.1.1, HD7.out, HE5.out.1.trans H7.out.1.2.symm⟩ HR7.out HFZ.out
    have HRZ : Hid (DoR w ((w7.setCell ⟨w.heap.size + 2, 0, none⟩ (.slice q5 m5 c5)).setCell ⟨w.heap.size + 2, 1, none⟩ (.int .u64 (ls : Nat))) gb Y Y7 D D5) := ⟨((Frm.of_below (F := gvF gb Y) HLd.out).trans H7.out.2.1 (fun k hk => .inl hk)).trans HFZ.out (fun k hk => .inr (by omega)), fun y hy => .inl (H7.out.2.2 y hy), HE5.out.2⟩
    have t0 := HBZ.out.cell (i := 0) rfl
    have t1 := HBZ.out.cell (i := 1) rfl
    clear HFZ HBZ HD7
    go_wp2_with fail
    refine bodyPost_ret (v := .tuple #[.agg #[.slice q5 m5 c5, .int .u64 (ls : Nat)], .bool true]) (by simp [results, Tryz.results8, go_sem, t0, t1]) rfl ?_
    exact ⟨_, _, _, rfl, HPZ.out, HRZ.out⟩

set_option maxHeartbeats 16000000 in
theorem dgive_neg (gb ls tn lc n : Nat) (kd nn ec : Int) (M : List (Nat × List Hd)) (lq : Option Addr) (v : Value) (Y : List Tkr) (D : List Dk) (w : World) (h : PG w gb ls v Y D) (hkd : ¬ kd = 0) (hnn : ¬ 0 ≤ nn) (hw : IntKind.u64.wrap nn = (tn : Int))
    (hT : ∀ w', DkL w' 0 v D → Calls Tryz.prog 23 #[.agg #[v, .int .u64 (ls : Nat)], .int .u64 (tn : Nat)] w' fun e w'' => ∃ v' D', e = .returned (.tuple #[.agg #[v', .int .u64 (ls : Nat)], .int .i64 ec]) ∧ DkL w'' 0 v' D' ∧ D'.map (fun d => (d.t, d.H)) = M ∧ StpD D D' ∧ Below w'.heap.size w' w'')
    (hP : ∀ w', Gp w' gb (ls + 1) Y → Calls Tryz.prog 14 #[ptr1 gb, .int .u64 (tn : Nat)] w' fun e w'' => ∃ Y', e = .returned (.int .i64 ec) ∧ Gp w'' gb (ls + 1) Y' ∧ Y'.map (fun y => (y.x.t, y.x.H)) = M ∧ Frm w' w'' (gvF gb Y) ∧ ∀ y ∈ Y', y ∈ Y) :
    Calls Tryz.prog 8 #[ptr1 gb, .agg #[v, .int .u64 (ls : Nat)], .agg #[.int .i64 kd, .slice lq n lc, .int .i64 nn]] w fun e w' => ∃ v' Y' D', e = .returned (.tuple #[.agg #[v', .int .u64 (ls : Nat)], .bool true]) ∧ PG w' gb ls v' Y' D' ∧ DoR w w' gb Y Y' D D' := by
  have HT : Hid _ := hT
  have HP : Hid _ := hP
  have hDl : D.length ≤ 256 := by rw [same_len h.e]; exact h.g.inv.2
  have HDl : Hid (D.length ≤ 256) := hDl
  obtain ⟨aX, aB, aS⟩ := blk_new w #[v, .int .u64 (ls : Nat)] 28
  obtain ⟨bX, bB, bS⟩ := blk_new (w.alloc (.cells #[v, .int .u64 (ls : Nat)] 28)) #[.int .i64 kd, .slice lq n lc, .int .i64 nn] 34
  obtain ⟨cX, cB, cS⟩ := blk_new ((w.alloc (.cells #[v, .int .u64 (ls : Nat)] 28)).alloc (.cells #[.int .i64 kd, .slice lq n lc, .int .i64 nn] 34)) #[.slice none 0 0, .int .u64 0] 28
  have bL := aB.trans (bB.mono aB.size)
  have cL := bL.trans (cB.mono bL.size)
  have aX3 := (aX.on bB).on cB
  have bX3 := bX.on cB
  rw [bS, aS] at cX
  rw [aS] at bX3
  have HL2 : Hid (Below w.heap.size w (((w.alloc (.cells #[v, .int .u64 (ls : Nat)] 28)).alloc (.cells #[.int .i64 kd, .slice lq n lc, .int .i64 nn] 34)).alloc (.cells #[.slice none 0 0, .int .u64 0] 28))) := cL
  have HS2 : Hid (Blk (((w.alloc (.cells #[v, .int .u64 (ls : Nat)] 28)).alloc (.cells #[.int .i64 kd, .slice lq n lc, .int .i64 nn] 34)).alloc (.cells #[.slice none 0 0, .int .u64 0] 28)) w.heap.size #[v, .int .u64 (ls : Nat)] 28) := aX3
  have HA2 : Hid (Blk (((w.alloc (.cells #[v, .int .u64 (ls : Nat)] 28)).alloc (.cells #[.int .i64 kd, .slice lq n lc, .int .i64 nn] 34)).alloc (.cells #[.slice none 0 0, .int .u64 0] 28)) (w.heap.size + 1) #[.int .i64 kd, .slice lq n lc, .int .i64 nn] 34) := bX3
  have HR2 : Hid (Blk (((w.alloc (.cells #[v, .int .u64 (ls : Nat)] 28)).alloc (.cells #[.int .i64 kd, .slice lq n lc, .int .i64 nn] 34)).alloc (.cells #[.slice none 0 0, .int .u64 0] 28)) (w.heap.size + 2) #[.slice none 0 0, .int .u64 0] 28) := cX
  have HG2 : Hid (Gp (((w.alloc (.cells #[v, .int .u64 (ls : Nat)] 28)).alloc (.cells #[.int .i64 kd, .slice lq n lc, .int .i64 nn] 34)).alloc (.cells #[.slice none 0 0, .int .u64 0] 28)) gb (ls + 1) Y) := h.g.on cL
  have HD2 : Hid (DkL (((w.alloc (.cells #[v, .int .u64 (ls : Nat)] 28)).alloc (.cells #[.int .i64 kd, .slice lq n lc, .int .i64 nn] 34)).alloc (.cells #[.slice none 0 0, .int .u64 0] 28)) 0 v D) := h.d.on cL
  have y0 := aX3.cell (i := 0) rfl
  have y1 := aX3.cell (i := 1) rfl
  have z0 := bX3.cell (i := 0) rfl
  have HGl : Hid (∀ k, gvF gb Y k → k < w.heap.size) := gv_lt h.g
  clear h hT hP aX aB aS bX bB bS cX cB cS bL cL aX3 bX3 hDl
  go_enter Tryz.func8, Tryz.ntmps8
  go_wp2_with fail
  generalize (((w.alloc (.cells #[v, .int .u64 (ls : Nat)] 28)).alloc (.cells #[.int .i64 kd, .slice lq n lc, .int .i64 nn] 34)).alloc (.cells #[.slice none 0 0, .int .u64 0] 28)) = w2 at *
  refine (rtickets_any D 0 ls v w2 HD2.out HDl.out).mono ?_
  rintro e w3 ⟨tv, rfl, htv, hb3⟩
  dsimp only
  have HL3 : Hid (Below w.heap.size w w3) := HL2.out.trans (hb3.mono HL2.out.size)
  have HS3 : Hid (Blk w3 w.heap.size #[v, .int .u64 (ls : Nat)] 28) := HS2.out.on hb3
  have HA3 : Hid (Blk w3 (w.heap.size + 1) #[.int .i64 kd, .slice lq n lc, .int .i64 nn] 34) := HA2.out.on hb3
  have HR3 : Hid (Blk w3 (w.heap.size + 2) #[.slice none 0 0, .int .u64 0] 28) := HR2.out.on hb3
  have HG3 : Hid (Gp w3 gb (ls + 1) Y) := HG2.out.on hb3
  have HD3 : Hid (DkL w3 0 v D) := HD2.out.on hb3
  obtain ⟨tp, tc, htv', hta⟩ := OwnU.at2 (owns_base htv (Nat.zero_le _))
  subst htv'
  rw [List.length_map]
  have s0 := HS3.out.cell (i := 0) rfl
  have s1 := HS3.out.cell (i := 1) rfl
  have z2 := HA3.out.cell (i := 2) rfl
  clear hb3 htv hta HL2 HS2 HA2 HR2 HG2 HD2 y0 y1 z0
  go_wp2_with fail
  refine (HT.out w3 HD3.out).mono ?_
  rintro e w5 ⟨v5, D5, rfl, hd5, hm5, hs5, hb5⟩
  dsimp only
  obtain ⟨q5, c5, hv5, -⟩ := hd5.rd
  obtain ⟨m5, hm5'⟩ : ∃ m5, D5.length = m5 := ⟨_, rfl⟩
  rw [hm5'] at hv5
  subst hv5
  have hal := (blk_new w5 #[.slice q5 m5 c5, .int .u64 (ls : Nat)] 28).2.1
  have HO6 : Hid (Blk (w5.alloc (.cells #[.slice q5 m5 c5, .int .u64 (ls : Nat)] 28)) w5.heap.size #[.slice q5 m5 c5, .int .u64 (ls : Nat)] 28) := (blk_new w5 _ _).1
  have HD6 : Hid (DkL (w5.alloc (.cells #[.slice q5 m5 c5, .int .u64 (ls : Nat)] 28)) 0 (.slice q5 m5 c5) D5) := hd5.on hal
  have HE5 : Hid (D5.map (fun d => (d.t, d.H)) = M ∧ StpD D D5) := ⟨hm5, hs5⟩
  have hb6 := hb5.trans (hal.mono hb5.size)
  have HR6 : Hid (Blk (w5.alloc (.cells #[.slice q5 m5 c5, .int .u64 (ls : Nat)] 28)) (w.heap.size + 2) #[.slice none 0 0, .int .u64 0] 28) := HR3.out.on hb6
  have HG6 : Hid (Gp (w5.alloc (.cells #[.slice q5 m5 c5, .int .u64 (ls : Nat)] 28)) gb (ls + 1) Y) := HG3.out.on hb6
  have HL6 : Hid (Below w.heap.size w (w5.alloc (.cells #[.slice q5 m5 c5, .int .u64 (ls : Nat)] 28))) := HL3.out.trans (hb6.mono HL3.out.size)
  have HZ5 : Hid (w.heap.size + 3 ≤ w5.heap.size) := Nat.le_trans (by have := HR3.out.lt; omega) hb5.size
  clear hd5 hm5 hs5 hb5 hm5' hal hb6 HT HD3 HA3 HR3 HG3 HL3 HS3 s0 s1 z2
  go_upto_region 10 with fail
  generalize (w5.alloc (.cells #[.slice q5 m5 c5, .int .u64 (ls : Nat)] 28)) = w6 at *
  have hdr : Below w6.heap.size w6 w6.drew := (Below.refl _ _).drew
  have HGd : Hid (Gp w6.drew gb (ls + 1) Y) := HG6.out.on hdr
  have HRd : Hid (Blk w6.drew (w.heap.size + 2) #[.slice none 0 0, .int .u64 0] 28) := HR6.out.on hdr
  have HOd0 : Hid (Blk w6.drew w5.heap.size #[.slice q5 m5 c5, .int .u64 (ls : Nat)] 28) := HO6.out.on hdr
  have HDd : Hid (DkL w6.drew 0 (.slice q5 m5 c5) D5) := HD6.out.on hdr
  have HLd : Hid (Below w.heap.size w w6.drew) := HL6.out.trans (hdr.mono HL6.out.size)
  clear hdr HG6 HR6 HO6 HD6 HL6
  refine wp_region_any (by kernel_rfl) ?_
  change wpAny _ _ _ _ _ _ _ (World.drew _)
  generalize w6.drew = wd at *
  obtain ⟨ob, hob⟩ : ∃ ob, w5.heap.size = ob := ⟨_, rfl⟩
  rw [hob] at HOd0 HZ5 ⊢
  have HOd : Hid (Blk wd ob #[.slice q5 m5 c5, .int .u64 (ls : Nat)] 28) := HOd0
  clear hob HOd0
  have o0 := HOd.out.cell (i := 0) rfl
  have o1 := HOd.out.cell (i := 1) rfl
  refine tk (v := ?_) 1 rfl ?_ ?_
  rotate_left
  focus
    intro w9
    go_simp
    try with_reducible rfl
  try simp only [aP]
  refine tk (v := ?_) 2 rfl ?_ ?_
  rotate_left
  focus
    intro w9
    go_simp
    try with_reducible rfl
  try simp only [aP]
  refine tk (v := ?_) 4 rfl ?_ ?_
  rotate_left
  focus
    intro w9
    go_simp
    try with_reducible rfl
  try simp only [aP]
  apply later2 (fun (Y7 : List Tkr) (w7 : World) => Hid ((Gp w7 gb (ls + 1) Y7 ∧ Y7.map (fun y => (y.x.t, y.x.H)) = M) ∧ Frm wd w7 (gvF gb Y) ∧ ∀ y ∈ Y7, y ∈ Y))
  intro hs0_3_6
  apply later2 (fun (Y7 : List Tkr) (w7 : World) => Hid ((Gp w7 gb (ls + 1) Y7 ∧ Y7.map (fun y => (y.x.t, y.x.H)) = M) ∧ Frm wd w7 (gvF gb Y) ∧ ∀ y ∈ Y7, y ∈ Y))
  intro hs0_3
  apply later2 (fun (Y7 : List Tkr) (w7 : World) => Hid ((Gp w7 gb (ls + 1) Y7 ∧ Y7.map (fun y => (y.x.t, y.x.H)) = M) ∧ Frm wd w7 (gvF gb Y) ∧ ∀ y ∈ Y7, y ∈ Y))
  intro hs3
  apply later0
  intro hs0
  · refine wpAny_ready (rs := [0, 3]) (by kernel_rfl) (by simp) ?_
    refine anyN_cons 0 rfl (by rfl) (fun K hK => ?_) (anyN_cons 3 rfl (by rfl) (fun K hK => ?_) AllReady.nil)
    · go_simp
      refine hK.out _ _ ?_
      clear hK K
      try simp only [aP]
      exact hs0
    · go_simp
      refine (HP.out wd HGd.out).mono ?_
      rintro e w7 ⟨Y7, rfl, hg7, hm7, hf7, hn7⟩
      dsimp only
      have H7 : Hid ((Gp w7 gb (ls + 1) Y7 ∧ Y7.map (fun y => (y.x.t, y.x.H)) = M) ∧ Frm wd w7 (gvF gb Y) ∧ ∀ y ∈ Y7, y ∈ Y) := ⟨⟨hg7, hm7⟩, hf7, hn7⟩
      clear hg7 hm7 hf7 hn7
      refine hK.out _ _ ?_
      clear hK K
      try simp only [aP]
      refine tk (v := ?_) 5 rfl ?_ ?_
      rotate_left
      focus
        intro w9
        go_simp
        try with_reducible rfl
      try simp only [aP]
      exact hs3 Y7 w7 H7
  · refine wpAny_ready (rs := [3]) (by kernel_rfl) (by simp) ?_
    refine anyN_cons 3 rfl (by rfl) (fun K hK => ?_) AllReady.nil
    go_simp
    refine (HP.out wd HGd.out).mono ?_
    rintro e w7 ⟨Y7, rfl, hg7, hm7, hf7, hn7⟩
    dsimp only
    have H7 : Hid ((Gp w7 gb (ls + 1) Y7 ∧ Y7.map (fun y => (y.x.t, y.x.H)) = M) ∧ Frm wd w7 (gvF gb Y) ∧ ∀ y ∈ Y7, y ∈ Y) := ⟨⟨hg7, hm7⟩, hf7, hn7⟩
    clear hg7 hm7 hf7 hn7
    refine hK.out _ _ ?_
    clear hK K
    try simp only [aP]
    refine tk (v := ?_) 5 rfl ?_ ?_
    rotate_left
    focus
      intro w9
      go_simp
      try with_reducible rfl
    try simp only [aP]
    exact hs0_3 Y7 w7 H7
  · intro Y7 w7 H7
    have HR7 : Hid (Blk w7 (w.heap.size + 2) #[.slice none 0 0, .int .u64 0] 28) := HRd.out.frm H7.out.2.1 (fun hk => by have := HGl.out _ hk; omega)
    have HO7 : Hid (Blk w7 ob #[.slice q5 m5 c5, .int .u64 (ls : Nat)] 28) := HOd.out.frm H7.out.2.1 (fun hk => by have := HGl.out _ hk; have := HZ5.out; omega)
    have o0 := HO7.out.cell (i := 0) rfl
    have o1 := HO7.out.cell (i := 1) rfl
    have r0 := HR7.out.cell (i := 0) rfl
    have r1 := HR7.out.cell (i := 1) rfl
    have f0 := HR7.out.frozen 0
    have f1 := HR7.out.frozen 1
    refine wpAny_ready (rs := [0]) (by kernel_rfl) (by simp) ?_
    refine anyN_cons 0 rfl (by rfl) (fun K hK => ?_) AllReady.nil
    go_simp
    refine hK.out _ _ ?_
    clear hK K
    try simp only [aP]
    exact hs0_3 Y7 w7 H7
  · intro Y7 w7 H7
    have HR7 : Hid (Blk w7 (w.heap.size + 2) #[.slice none 0 0, .int .u64 0] 28) := HRd.out.frm H7.out.2.1 (fun hk => by have := HGl.out _ hk; omega)
    have HO7 : Hid (Blk w7 ob #[.slice q5 m5 c5, .int .u64 (ls : Nat)] 28) := HOd.out.frm H7.out.2.1 (fun hk => by have := HGl.out _ hk; have := HZ5.out; omega)
    have o0 := HO7.out.cell (i := 0) rfl
    have o1 := HO7.out.cell (i := 1) rfl
    have r0 := HR7.out.cell (i := 0) rfl
    have r1 := HR7.out.cell (i := 1) rfl
    have f0 := HR7.out.frozen 0
    have f1 := HR7.out.frozen 1
    refine wpAny_ready (rs := [6]) (by kernel_rfl) (by simp) ?_
    refine anyN_cons 6 rfl (by rfl) (fun K hK => ?_) AllReady.nil
    go_simp
    refine hK.out _ _ ?_
    clear hK K
    try simp only [aP]
    exact hs0_3_6 Y7 w7 H7
  · intro Y7 w7 H7
    refine tk (v := ?_) 7 rfl ?_ ?_
    rotate_left
    focus
      intro w9
      go_simp
      try with_reducible rfl
    try simp only [aP]
    refine wpAny_done (by kernel_rfl) ?_ _
    have HR7 : Hid (Blk w7 (w.heap.size + 2) #[.slice none 0 0, .int .u64 0] 28) := HRd.out.frm H7.out.2.1 (fun hk => by have := HGl.out _ hk; omega)
    have HD7 : Hid (DkL w7 0 (.slice q5 m5 c5) D5) := HDd.out.frm H7.out.2.1 (only_gv HGd.out)
    have HFZ : Hid (Frm w7 ((w7.setCell ⟨w.heap.size + 2, 0, none⟩ (.slice q5 m5 c5)).setCell ⟨w.heap.size + 2, 1, none⟩ (.int .u64 (ls : Nat))) (fun k => k = w.heap.size + 2)) := (frm_set w7 _ 0 _ (F := fun k => k = w.heap.size + 2) (.inl rfl)).trans (frm_set _ _ 1 _ (F := fun k => k = w.heap.size + 2) (.inl rfl)) (fun k hk => .inl hk)
    have HBZ : Hid (Blk ((w7.setCell ⟨w.heap.size + 2, 0, none⟩ (.slice q5 m5 c5)).setCell ⟨w.heap.size + 2, 1, none⟩ (.int .u64 (ls : Nat))) (w.heap.size + 2) #[.slice q5 m5 c5, .int .u64 (ls : Nat)] 28) := (HR7.out.set 0 _).set 1 _
    have HPZ : Hid (PG ((w7.setCell ⟨w.heap.size + 2, 0, none⟩ (.slice q5 m5 c5)).setCell ⟨w.heap.size + 2, 1, none⟩ (.int .u64 (ls : Nat))) gb ls (.slice q5 m5 c5) Y7 D5) := PG.box ⟨H7.out.1.1, HD7.out, HE5.out.1.trans H7.out.1.2.symm⟩ HR7.out HFZ.out
    have HRZ : Hid (DoR w ((w7.setCell ⟨w.heap.size + 2, 0, none⟩ (.slice q5 m5 c5)).setCell ⟨w.heap.size + 2, 1, none⟩ (.int .u64 (ls : Nat))) gb Y Y7 D D5) := ⟨((Frm.of_below (F := gvF gb Y) HLd.out).trans H7.out.2.1 (fun k hk => .inl hk)).trans HFZ.out (fun k hk => .inr (by omega)), fun y hy => .inl (H7.out.2.2 y hy), HE5.out.2⟩
    have t0 := HBZ.out.cell (i := 0) rfl
    have t1 := HBZ.out.cell (i := 1) rfl
    clear HFZ HBZ HD7
    go_wp2_with fail
    refine bodyPost_ret (v := .tuple #[.agg #[.slice q5 m5 c5, .int .u64 (ls : Nat)], .bool true]) (by simp [results, Tryz.results8, go_sem, t0, t1]) rfl ?_
    exact ⟨_, _, _, rfl, HPZ.out, HRZ.out⟩

set_option maxHeartbeats 16000000 in
theorem dgive_big (gb ls tn lc n : Nat) (kd nn ec : Int) (M : List (Nat × List Hd)) (lq : Option Addr) (v : Value) (Y : List Tkr) (D : List Dk) (w : World) (h : PG w gb ls v Y D) (hkd : ¬ kd = 0) (hnn : 0 ≤ nn) (hnn2 : ¬ nn < (D.length : Int)) (hw : IntKind.u64.wrap nn = (tn : Int))
    (hT : ∀ w', DkL w' 0 v D → Calls Tryz.prog 23 #[.agg #[v, .int .u64 (ls : Nat)], .int .u64 (tn : Nat)] w' fun e w'' => ∃ v' D', e = .returned (.tuple #[.agg #[v', .int .u64 (ls : Nat)], .int .i64 ec]) ∧ DkL w'' 0 v' D' ∧ D'.map (fun d => (d.t, d.H)) = M ∧ StpD D D' ∧ Below w'.heap.size w' w'')
    (hP : ∀ w', Gp w' gb (ls + 1) Y → Calls Tryz.prog 14 #[ptr1 gb, .int .u64 (tn : Nat)] w' fun e w'' => ∃ Y', e = .returned (.int .i64 ec) ∧ Gp w'' gb (ls + 1) Y' ∧ Y'.map (fun y => (y.x.t, y.x.H)) = M ∧ Frm w' w'' (gvF gb Y) ∧ ∀ y ∈ Y', y ∈ Y) :
    Calls Tryz.prog 8 #[ptr1 gb, .agg #[v, .int .u64 (ls : Nat)], .agg #[.int .i64 kd, .slice lq n lc, .int .i64 nn]] w fun e w' => ∃ v' Y' D', e = .returned (.tuple #[.agg #[v', .int .u64 (ls : Nat)], .bool true]) ∧ PG w' gb ls v' Y' D' ∧ DoR w w' gb Y Y' D D' := by
  have HT : Hid _ := hT
  have HP : Hid _ := hP
  have hDl : D.length ≤ 256 := by rw [same_len h.e]; exact h.g.inv.2
  have HDl : Hid (D.length ≤ 256) := hDl
  obtain ⟨aX, aB, aS⟩ := blk_new w #[v, .int .u64 (ls : Nat)] 28
  obtain ⟨bX, bB, bS⟩ := blk_new (w.alloc (.cells #[v, .int .u64 (ls : Nat)] 28)) #[.int .i64 kd, .slice lq n lc, .int .i64 nn] 34
  obtain ⟨cX, cB, cS⟩ := blk_new ((w.alloc (.cells #[v, .int .u64 (ls : Nat)] 28)).alloc (.cells #[.int .i64 kd, .slice lq n lc, .int .i64 nn] 34)) #[.slice none 0 0, .int .u64 0] 28
  have bL := aB.trans (bB.mono aB.size)
  have cL := bL.trans (cB.mono bL.size)
  have aX3 := (aX.on bB).on cB
  have bX3 := bX.on cB
  rw [bS, aS] at cX
  rw [aS] at bX3
  have HL2 : Hid (Below w.heap.size w (((w.alloc (.cells #[v, .int .u64 (ls : Nat)] 28)).alloc (.cells #[.int .i64 kd, .slice lq n lc, .int .i64 nn] 34)).alloc (.cells #[.slice none 0 0, .int .u64 0] 28))) := cL
  have HS2 : Hid (Blk (((w.alloc (.cells #[v, .int .u64 (ls : Nat)] 28)).alloc (.cells #[.int .i64 kd, .slice lq n lc, .int .i64 nn] 34)).alloc (.cells #[.slice none 0 0, .int .u64 0] 28)) w.heap.size #[v, .int .u64 (ls : Nat)] 28) := aX3
  have HA2 : Hid (Blk (((w.alloc (.cells #[v, .int .u64 (ls : Nat)] 28)).alloc (.cells #[.int .i64 kd, .slice lq n lc, .int .i64 nn] 34)).alloc (.cells #[.slice none 0 0, .int .u64 0] 28)) (w.heap.size + 1) #[.int .i64 kd, .slice lq n lc, .int .i64 nn] 34) := bX3
  have HR2 : Hid (Blk (((w.alloc (.cells #[v, .int .u64 (ls : Nat)] 28)).alloc (.cells #[.int .i64 kd, .slice lq n lc, .int .i64 nn] 34)).alloc (.cells #[.slice none 0 0, .int .u64 0] 28)) (w.heap.size + 2) #[.slice none 0 0, .int .u64 0] 28) := cX
  have HG2 : Hid (Gp (((w.alloc (.cells #[v, .int .u64 (ls : Nat)] 28)).alloc (.cells #[.int .i64 kd, .slice lq n lc, .int .i64 nn] 34)).alloc (.cells #[.slice none 0 0, .int .u64 0] 28)) gb (ls + 1) Y) := h.g.on cL
  have HD2 : Hid (DkL (((w.alloc (.cells #[v, .int .u64 (ls : Nat)] 28)).alloc (.cells #[.int .i64 kd, .slice lq n lc, .int .i64 nn] 34)).alloc (.cells #[.slice none 0 0, .int .u64 0] 28)) 0 v D) := h.d.on cL
  have y0 := aX3.cell (i := 0) rfl
  have y1 := aX3.cell (i := 1) rfl
  have z0 := bX3.cell (i := 0) rfl
  have HGl : Hid (∀ k, gvF gb Y k → k < w.heap.size) := gv_lt h.g
  clear h hT hP aX aB aS bX bB bS cX cB cS bL cL aX3 bX3 hDl
  go_enter Tryz.func8, Tryz.ntmps8
  go_wp2_with fail
  generalize (((w.alloc (.cells #[v, .int .u64 (ls : Nat)] 28)).alloc (.cells #[.int .i64 kd, .slice lq n lc, .int .i64 nn] 34)).alloc (.cells #[.slice none 0 0, .int .u64 0] 28)) = w2 at *
  refine (rtickets_any D 0 ls v w2 HD2.out HDl.out).mono ?_
  rintro e w3 ⟨tv, rfl, htv, hb3⟩
  dsimp only
  have HL3 : Hid (Below w.heap.size w w3) := HL2.out.trans (hb3.mono HL2.out.size)
  have HS3 : Hid (Blk w3 w.heap.size #[v, .int .u64 (ls : Nat)] 28) := HS2.out.on hb3
  have HA3 : Hid (Blk w3 (w.heap.size + 1) #[.int .i64 kd, .slice lq n lc, .int .i64 nn] 34) := HA2.out.on hb3
  have HR3 : Hid (Blk w3 (w.heap.size + 2) #[.slice none 0 0, .int .u64 0] 28) := HR2.out.on hb3
  have HG3 : Hid (Gp w3 gb (ls + 1) Y) := HG2.out.on hb3
  have HD3 : Hid (DkL w3 0 v D) := HD2.out.on hb3
  obtain ⟨tp, tc, htv', hta⟩ := OwnU.at2 (owns_base htv (Nat.zero_le _))
  subst htv'
  rw [List.length_map]
  have s0 := HS3.out.cell (i := 0) rfl
  have s1 := HS3.out.cell (i := 1) rfl
  have z2 := HA3.out.cell (i := 2) rfl
  clear hb3 htv hta HL2 HS2 HA2 HR2 HG2 HD2 y0 y1 z0
  go_wp2_with fail
  refine (HT.out w3 HD3.out).mono ?_
  rintro e w5 ⟨v5, D5, rfl, hd5, hm5, hs5, hb5⟩
  dsimp only
  obtain ⟨q5, c5, hv5, -⟩ := hd5.rd
  obtain ⟨m5, hm5'⟩ : ∃ m5, D5.length = m5 := ⟨_, rfl⟩
  rw [hm5'] at hv5
  subst hv5
  have hal := (blk_new w5 #[.slice q5 m5 c5, .int .u64 (ls : Nat)] 28).2.1
  have HO6 : Hid (Blk (w5.alloc (.cells #[.slice q5 m5 c5, .int .u64 (ls : Nat)] 28)) w5.heap.size #[.slice q5 m5 c5, .int .u64 (ls : Nat)] 28) := (blk_new w5 _ _).1
  have HD6 : Hid (DkL (w5.alloc (.cells #[.slice q5 m5 c5, .int .u64 (ls : Nat)] 28)) 0 (.slice q5 m5 c5) D5) := hd5.on hal
  have HE5 : Hid (D5.map (fun d => (d.t, d.H)) = M ∧ StpD D D5) := ⟨hm5, hs5⟩
  have hb6 := hb5.trans (hal.mono hb5.size)
  have HR6 : Hid (Blk (w5.alloc (.cells #[.slice q5 m5 c5, .int .u64 (ls : Nat)] 28)) (w.heap.size + 2) #[.slice none 0 0, .int .u64 0] 28) := HR3.out.on hb6
  have HG6 : Hid (Gp (w5.alloc (.cells #[.slice q5 m5 c5, .int .u64 (ls : Nat)] 28)) gb (ls + 1) Y) := HG3.out.on hb6
  have HL6 : Hid (Below w.heap.size w (w5.alloc (.cells #[.slice q5 m5 c5, .int .u64 (ls : Nat)] 28))) := HL3.out.trans (hb6.mono HL3.out.size)
  have HZ5 : Hid (w.heap.size + 3 ≤ w5.heap.size) := Nat.le_trans (by have := HR3.out.lt; omega) hb5.size
  clear hd5 hm5 hs5 hb5 hm5' hal hb6 HT HD3 HA3 HR3 HG3 HL3 HS3 s0 s1 z2
  go_upto_region 10 with fail
  generalize (w5.alloc (.cells #[.slice q5 m5 c5, .int .u64 (ls : Nat)] 28)) = w6 at *
  have hdr : Below w6.heap.size w6 w6.drew := (Below.refl _ _).drew
  have HGd : Hid (Gp w6.drew gb (ls + 1) Y) := HG6.out.on hdr
  have HRd : Hid (Blk w6.drew (w.heap.size + 2) #[.slice none 0 0, .int .u64 0] 28) := HR6.out.on hdr
  have HOd0 : Hid (Blk w6.drew w5.heap.size #[.slice q5 m5 c5, .int .u64 (ls : Nat)] 28) := HO6.out.on hdr
  have HDd : Hid (DkL w6.drew 0 (.slice q5 m5 c5) D5) := HD6.out.on hdr
  have HLd : Hid (Below w.heap.size w w6.drew) := HL6.out.trans (hdr.mono HL6.out.size)
  clear hdr HG6 HR6 HO6 HD6 HL6
  refine wp_region_any (by kernel_rfl) ?_
  change wpAny _ _ _ _ _ _ _ (World.drew _)
  generalize w6.drew = wd at *
  obtain ⟨ob, hob⟩ : ∃ ob, w5.heap.size = ob := ⟨_, rfl⟩
  rw [hob] at HOd0 HZ5 ⊢
  have HOd : Hid (Blk wd ob #[.slice q5 m5 c5, .int .u64 (ls : Nat)] 28) := HOd0
  clear hob HOd0
  have o0 := HOd.out.cell (i := 0) rfl
  have o1 := HOd.out.cell (i := 1) rfl
  refine tk (v := ?_) 1 rfl ?_ ?_
  rotate_left
  focus
    intro w9
    go_simp
    try with_reducible rfl
  try simp only [aP]
  refine tk (v := ?_) 2 rfl ?_ ?_
  rotate_left
  focus
    intro w9
    go_simp
    try with_reducible rfl
  try simp only [aP]
  refine tk (v := ?_) 4 rfl ?_ ?_
  rotate_left
  focus
    intro w9
    go_simp
    try with_reducible rfl
  try simp only [aP]
  apply later2 (fun (Y7 : List Tkr) (w7 : World) => Hid ((Gp w7 gb (ls + 1) Y7 ∧ Y7.map (fun y => (y.x.t, y.x.H)) = M) ∧ Frm wd w7 (gvF gb Y) ∧ ∀ y ∈ Y7, y ∈ Y))
  intro hs0_3_6
  apply later2 (fun (Y7 : List Tkr) (w7 : World) => Hid ((Gp w7 gb (ls + 1) Y7 ∧ Y7.map (fun y => (y.x.t, y.x.H)) = M) ∧ Frm wd w7 (gvF gb Y) ∧ ∀ y ∈ Y7, y ∈ Y))
  intro hs0_3
  apply later2 (fun (Y7 : List Tkr) (w7 : World) => Hid ((Gp w7 gb (ls + 1) Y7 ∧ Y7.map (fun y => (y.x.t, y.x.H)) = M) ∧ Frm wd w7 (gvF gb Y) ∧ ∀ y ∈ Y7, y ∈ Y))
  intro hs3
  apply later0
  intro hs0
  · refine wpAny_ready (rs := [0, 3]) (by kernel_rfl) (by simp) ?_
    refine anyN_cons 0 rfl (by rfl) (fun K hK => ?_) (anyN_cons 3 rfl (by rfl) (fun K hK => ?_) AllReady.nil)
    · go_simp
      refine hK.out _ _ ?_
      clear hK K
      try simp only [aP]
      exact hs0
    · go_simp
      refine (HP.out wd HGd.out).mono ?_
      rintro e w7 ⟨Y7, rfl, hg7, hm7, hf7, hn7⟩
      dsimp only
      have H7 : Hid ((Gp w7 gb (ls + 1) Y7 ∧ Y7.map (fun y => (y.x.t, y.x.H)) = M) ∧ Frm wd w7 (gvF gb Y) ∧ ∀ y ∈ Y7, y ∈ Y) := ⟨⟨hg7, hm7⟩, hf7, hn7⟩
      clear hg7 hm7 hf7 hn7
      refine hK.out _ _ ?_
      clear hK K
      try simp only [aP]
      refine tk (v := ?_) 5 rfl ?_ ?_
      rotate_left
      focus
        intro w9
        go_simp
        try with_reducible rfl
      try simp only [aP]
      exact hs3 Y7 w7 H7
  · refine wpAny_ready (rs := [3]) (by kernel_rfl) (by simp) ?_
    refine anyN_cons 3 rfl (by rfl) (fun K hK => ?_) AllReady.nil
    go_simp
    refine (HP.out wd HGd.out).mono ?_
    rintro e w7 ⟨Y7, rfl, hg7, hm7, hf7, hn7⟩
    dsimp only
    have H7 : Hid ((Gp w7 gb (ls + 1) Y7 ∧ Y7.map (fun y => (y.x.t, y.x.H)) = M) ∧ Frm wd w7 (gvF gb Y) ∧ ∀ y ∈ Y7, y ∈ Y) := ⟨⟨hg7, hm7⟩, hf7, hn7⟩
    clear hg7 hm7 hf7 hn7
    refine hK.out _ _ ?_
    clear hK K
    try simp only [aP]
    refine tk (v := ?_) 5 rfl ?_ ?_
    rotate_left
    focus
      intro w9
      go_simp
      try with_reducible rfl
    try simp only [aP]
    exact hs0_3 Y7 w7 H7
  · intro Y7 w7 H7
    have HR7 : Hid (Blk w7 (w.heap.size + 2) #[.slice none 0 0, .int .u64 0] 28) := HRd.out.frm H7.out.2.1 (fun hk => by have := HGl.out _ hk; omega)
    have HO7 : Hid (Blk w7 ob #[.slice q5 m5 c5, .int .u64 (ls : Nat)] 28) := HOd.out.frm H7.out.2.1 (fun hk => by have := HGl.out _ hk; have := HZ5.out; omega)
    have o0 := HO7.out.cell (i := 0) rfl
    have o1 := HO7.out.cell (i := 1) rfl
    have r0 := HR7.out.cell (i := 0) rfl
    have r1 := HR7.out.cell (i := 1) rfl
    have f0 := HR7.out.frozen 0
    have f1 := HR7.out.frozen 1
    refine wpAny_ready (rs := [0]) (by kernel_rfl) (by simp) ?_
    refine anyN_cons 0 rfl (by rfl) (fun K hK => ?_) AllReady.nil
    go_simp
    refine hK.out _ _ ?_
    clear hK K
    try simp only [aP]
    exact hs0_3 Y7 w7 H7
  · intro Y7 w7 H7
    have HR7 : Hid (Blk w7 (w.heap.size + 2) #[.slice none 0 0, .int .u64 0] 28) := HRd.out.frm H7.out.2.1 (fun hk => by have := HGl.out _ hk; omega)
    have HO7 : Hid (Blk w7 ob #[.slice q5 m5 c5, .int .u64 (ls : Nat)] 28) := HOd.out.frm H7.out.2.1 (fun hk => by have := HGl.out _ hk; have := HZ5.out; omega)
    have o0 := HO7.out.cell (i := 0) rfl
    have o1 := HO7.out.cell (i := 1) rfl
    have r0 := HR7.out.cell (i := 0) rfl
    have r1 := HR7.out.cell (i := 1) rfl
    have f0 := HR7.out.frozen 0
    have f1 := HR7.out.frozen 1
    refine wpAny_ready (rs := [6]) (by kernel_rfl) (by simp) ?_
    refine anyN_cons 6 rfl (by rfl) (fun K hK => ?_) AllReady.nil
    go_simp
    refine hK.out _ _ ?_
    clear hK K
    try simp only [aP]
    exact hs0_3_6 Y7 w7 H7
  · intro Y7 w7 H7
    refine tk (v := ?_) 7 rfl ?_ ?_
    rotate_left
    focus
      intro w9
      go_simp
      try with_reducible rfl
    try simp only [aP]
    refine wpAny_done (by kernel_rfl) ?_ _
    have HR7 : Hid (Blk w7 (w.heap.size + 2) #[.slice none 0 0, .int .u64 0] 28) := HRd.out.frm H7.out.2.1 (fun hk => by have := HGl.out _ hk; omega)
    have HD7 : Hid (DkL w7 0 (.slice q5 m5 c5) D5) := HDd.out.frm H7.out.2.1 (only_gv HGd.out)
    have HFZ : Hid (Frm w7 ((w7.setCell ⟨w.heap.size + 2, 0, none⟩ (.slice q5 m5 c5)).setCell ⟨w.heap.size + 2, 1, none⟩ (.int .u64 (ls : Nat))) (fun k => k = w.heap.size + 2)) := (frm_set w7 _ 0 _ (F := fun k => k = w.heap.size + 2) (.inl rfl)).trans (frm_set _ _ 1 _ (F := fun k => k = w.heap.size + 2) (.inl rfl)) (fun k hk => .inl hk)
    have HBZ : Hid (Blk ((w7.setCell ⟨w.heap.size + 2, 0, none⟩ (.slice q5 m5 c5)).setCell ⟨w.heap.size + 2, 1, none⟩ (.int .u64 (ls : Nat))) (w.heap.size + 2) #[.slice q5 m5 c5, .int .u64 (ls : Nat)] 28) := (HR7.out.set 0 _).set 1 _
    have HPZ : Hid (PG ((w7.setCell ⟨w.heap.size + 2, 0, none⟩ (.slice q5 m5 c5)).setCell ⟨w.heap.size + 2, 1, none⟩ (.int .u64 (ls : Nat))) gb ls (.slice q5 m5 c5) Y7 D5) := PG.box ⟨H7.out.1.1, HD7.out, HE5.out.1.trans H7.out.1.2.symm⟩ HR7.out HFZ.out
    have HRZ : Hid (DoR w ((w7.setCell ⟨w.heap.size + 2, 0, none⟩ (.slice q5 m5 c5)).setCell ⟨w.heap.size + 2, 1, none⟩ (.int .u64 (ls : Nat))) gb Y Y7 D D5) := ⟨((Frm.of_below (F := gvF gb Y) HLd.out).trans H7.out.2.1 (fun k hk => .inl hk)).trans HFZ.out (fun k hk => .inr (by omega)), fun y hy => .inl (H7.out.2.2 y hy), HE5.out.2⟩
    have t0 := HBZ.out.cell (i := 0) rfl
    have t1 := HBZ.out.cell (i := 1) rfl
    clear HFZ HBZ HD7
    go_wp2_with fail
    refine bodyPost_ret (v := .tuple #[.agg #[.slice q5 m5 c5, .int .u64 (ls : Nat)], .bool true]) (by simp [results, Tryz.results8, go_sem, t0, t1]) rfl ?_
    exact ⟨_, _, _, rfl, HPZ.out, HRZ.out⟩
end Go.Proofs.YtcdamalpecedcaaGreat
