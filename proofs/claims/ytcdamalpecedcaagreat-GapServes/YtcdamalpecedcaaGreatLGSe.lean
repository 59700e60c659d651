/- Layer 13: GapServes. -/
import Derived.Test.YtcdamalpecedcaaGreatMGap4
import Derived.Test.YtcdamalpecedcaaGreatLGPl
import Derived.Deep.LoopGhost
namespace Go.Proofs.YtcdamalpecedcaaGreat
open Go.RowKit
set_option maxRecDepth 100000

/-- GapServes between two acts: i are done; in hv the tickets that had their holds -/
def SvS (w wq : World) (gb mb : Nat) (hv : Value) (i : Nat) : Prop := ∃ v ls Y D U, PG wq gb ls v Y D ∧ Blk wq mb #[v, .int .u64 ((ls : Nat) : Int)] 28 ∧ Below w.heap.size w wq ∧ LowG w.heap.size gb Y ∧ ls ≤ i ∧ w.heap.size ≤ mb ∧ OwnU wq w.heap.size hv U ∧ HadP U D ∧ U.length ≤ 256
theorem SvS.on {w wq w' : World} {gb mb i : Nat} {hv : Value} (h : SvS w wq gb mb hv i) (hb : Below wq.heap.size wq w') : SvS w w' gb mb hv i := by
  obtain ⟨v, ls, Y, D, U, h1, h2, h3, h4, h5, h6, h7, h8⟩ := h
  exact ⟨v, ls, Y, D, U, h1.on hb, h2.on hb, h3.trans (hb.mono h3.size), h4, h5, h6, owns_kept h7 hb, h8⟩
theorem LowG.erase {N gb : Nat} {Y : List Tkr} (h : LowG N gb Y) (i : Nat) : LowG N gb (Y.eraseIdx i) := ⟨h.1, fun y hy => h.2 y (List.mem_of_mem_eraseIdx hy)⟩

set_option maxHeartbeats 32000000 in
theorem lawServes (L : List AcG) (q : Option Addr) (c : Nat) (w : World) (hR : RdG w w.heap.size q L) (hl : L.length ≤ 5900000000000) :
    Calls Tryz.prog 4 #[.slice q L.length c] w fun e w' => e = .returned (.bool true) ∧ Below w.heap.size w w' := by
  have HR : Hid (RdG w w.heap.size q L) := hR
  obtain ⟨n, hn⟩ : ∃ n, L.length = n := ⟨_, rfl⟩
  have HN : Hid (L.length = n) := hn
  rw [hn] at hl ⊢
  have HNb : Hid (n ≤ 5900000000000) := hl
  clear hR hn
  go_enter Tryz.func4, Tryz.ntmps4
  go_wp2_with fail
  refine (gnew_any w).mono ?_
  rintro e w1 ⟨gb, rfl, hg, hgb, hb1⟩
  dsimp only
  obtain ⟨aX, hal, hsz⟩ := blk_new w1 #[.slice none 0 0, .int .u64 0] 28
  have hal2 : Below (w1.alloc (.cells #[.slice none 0 0, .int .u64 0] 28)).heap.size (w1.alloc (.cells #[.slice none 0 0, .int .u64 0] 28)) ((w1.alloc (.cells #[.slice none 0 0, .int .u64 0] 28)).alloc (.cells #[] 26)) := (Below.refl _ _).alloc (Nat.le_refl _) _
  have HI0 : Hid (SvS w ((w1.alloc (.cells #[.slice none 0 0, .int .u64 0] 28)).alloc (.cells #[] 26)) gb w1.heap.size (.slice (some ⟨w1.heap.size + 1, 0, none⟩) 0 0) 0) := by
    have hbb := hb1.trans (hal.mono hb1.size)
    have h9 := owns_empty (w1.alloc (.cells #[.slice none 0 0, .int .u64 0] 28)) w.heap.size hbb.size 26 1
    rw [hsz] at h9
    refine ⟨.slice none 0 0, 0, [], [], [], ⟨(hg.on hal).on hal2, ⟨World.ownsRow_nil _ _ _ _, fun d hd => by cases hd⟩, rfl⟩, aX.on hal2, hbb.trans (hal2.mono hbb.size), ⟨hgb, fun y hy => by cases hy⟩, Nat.le_refl _, hb1.size, h9, HadP.nil _, by decide⟩
  clear aX hal hg hgb hb1 hal2 hsz
  go_upto_region 6 with fail
  generalize (w1.alloc (.cells #[.slice none 0 0, .int .u64 0] 28)).alloc (.cells #[] 26) = w2 at *
  generalize hws : w1.heap.size + 1 = ws at *
  clear hws
  generalize w1.heap.size = mb at *
  go_loopw [5, 6] (fun sv si wq => ∃ i : Nat, i ≤ n ∧ si = .int .i64 (i : Int) ∧ Hid (SvS w wq gb mb sv i)) (fun _ si _ => ((n : Int) - intOf si).toNat)
  case atStart => exact ⟨0, by omega, rfl, HI0⟩
  case round =>
    clear HI0
    obtain ⟨i, hi, rfl, HI⟩ := hrel
    have HIn : Hid (i ≤ n) := hi
    rcases Nat.lt_or_eq_of_le hi with hlt | heq
    · have g1 : decide ((i : Int) < (n : Int)) = true := by simp; omega
      have hiL : i < L.length := by rw [HN.out]; exact hlt
      have HIn : Hid (i < n) := hlt
      have hdr : Below wr.heap.size wr wr.drew := (Below.refl _ _).drew
      obtain ⟨v, ls, Y, D, U, hp, hm, hb, hlo, hle, hml, hou, hhd, hul⟩ := HI.out.on hdr
      obtain ⟨p0, d0, hu5, -⟩ := OwnU.at hou
      subst hu5
      have HUd : Hid (OwnU wr.drew w.heap.size (.slice p0 U.length d0) U) := hou
      have HHd : Hid (HadP U D) := hhd
      have HUl : Hid (U.length ≤ 256) := hul
      obtain ⟨q0, c0, hv, -⟩ := hp.d.rd
      obtain ⟨m0, hm0⟩ : ∃ m0, D.length = m0 := ⟨_, rfl⟩
      rw [hm0] at hv
      subst hv
      have HPd : Hid (PG wr.drew gb ls (.slice q0 m0 c0) Y D) := hp
      have HMd : Hid (Blk wr.drew mb #[.slice q0 m0 c0, .int .u64 ((ls : Nat) : Int)] 28) := hm
      have HLd : Hid (Below w.heap.size w wr.drew) := hb
      have HLo : Hid (LowG w.heap.size gb Y) := hlo
      have HLs : Hid (ls ≤ i) := hle
      have HMl : Hid (w.heap.size ≤ mb) := hml
      obtain ⟨b, o, hq, hbl, y0, y1, y2, hrh, hhl⟩ := HR.out.keep hb i hiL
      subst hq
      have CD : Hid (Calls _ _ _ _ _) := does_any gb ls L[i].c L[i].kd L[i].nn L[i].q L[i].H (.slice q0 m0 c0) Y D wr.drew hp (hrh.wide hb.size) hhl (by omega)
      have s0 := hm.cell (i := 0) rfl
      have s1 := hm.cell (i := 1) rfl
      clear hdr hp hm hb hlo hle hml hm0 hbl hrh hhl HI hou hhd hul
      generalize L[i].kd = kd at *
      generalize L[i].nn = nn at *
      generalize L[i].q = lq at *
      generalize L[i].c = lc at *
      generalize L[i].H.length = ln at *
      go_upto_region 8 with fail
      refine wp_region_any (by kernel_rfl) ?_
      change wpAny _ _ _ _ _ _ _ (World.drew _)
      generalize wr.drew = wd at *
      refine tk (v := ?_) 0 rfl ?_ ?_
      rotate_left
      focus
        intro w9
        go_simp
        try with_reducible rfl
      try simp only [aP]
      refine tk (v := ?_) 2 rfl ?_ ?_
      rotate_left
      focus
        intro w9
        go_simp
        try with_reducible rfl
      try simp only [aP]
      refine tk (v := ?_) 3 rfl ?_ ?_
      rotate_left
      focus
        intro w9
        go_simp
        try with_reducible rfl
      try simp only [aP]
      refine tk (v := ?_) 4 rfl ?_ ?_
      rotate_left
      focus
        intro w9
        go_simp
        try with_reducible rfl
      try simp only [aP]
      apply later7 (fun (q5 : Option Addr) (m5 : Nat) (c5 : Nat) (ls5 : Nat) (Y5 : List Tkr) (D5 : List Dk) (w5 : World) => Hid (PG w5 gb ls5 (.slice q5 m5 c5) Y5 D5 ∧ ls5 ≤ ls + 1 ∧ DoR wd w5 gb Y Y5 D D5))
      intro hs1_5_6_10
      apply later7 (fun (q5 : Option Addr) (m5 : Nat) (c5 : Nat) (ls5 : Nat) (Y5 : List Tkr) (D5 : List Dk) (w5 : World) => Hid (PG w5 gb ls5 (.slice q5 m5 c5) Y5 D5 ∧ ls5 ≤ ls + 1 ∧ DoR wd w5 gb Y Y5 D D5))
      intro hs1_5_6
      apply later0
      intro hs1_5
      apply later0
      intro hs5
      apply later0
      intro hs1
      · refine wpAny_ready (rs := [1, 5]) (by kernel_rfl) (by simp) ?_
        refine anyN_cons 1 rfl (by rfl) (fun K hK => ?_) (anyN_cons 5 rfl (by rfl) (fun K hK => ?_) AllReady.nil)
        · go_simp
          refine hK.out _ _ ?_
          clear hK K
          try simp only [aP]
          exact hs1
        · go_simp
          refine hK.out _ _ ?_
          clear hK K
          try simp only [aP]
          exact hs5
      · refine wpAny_ready (rs := [5]) (by kernel_rfl) (by simp) ?_
        refine anyN_cons 5 rfl (by rfl) (fun K hK => ?_) AllReady.nil
        go_simp
        refine hK.out _ _ ?_
        clear hK K
        try simp only [aP]
        exact hs1_5
      · refine wpAny_ready (rs := [1]) (by kernel_rfl) (by simp) ?_
        refine anyN_cons 1 rfl (by rfl) (fun K hK => ?_) AllReady.nil
        go_simp
        refine hK.out _ _ ?_
        clear hK K
        try simp only [aP]
        exact hs1_5
      · refine wpAny_ready (rs := [6]) (by kernel_rfl) (by simp) ?_
        refine anyN_cons 6 rfl (by rfl) (fun K hK => ?_) AllReady.nil
        go_simp
        refine CD.out.mono ?_
        rintro e w5 ⟨v5, ls5, Y5, D5, rfl, hp5, hl5, hr5⟩
        dsimp only
        obtain ⟨q5, c5, hv5, -⟩ := hp5.d.rd
        obtain ⟨m5, hm5⟩ : ∃ m5, D5.length = m5 := ⟨_, rfl⟩
        rw [hm5] at hv5
        subst hv5
        have H5 : Hid (PG w5 gb ls5 (.slice q5 m5 c5) Y5 D5 ∧ ls5 ≤ ls + 1 ∧ DoR wd w5 gb Y Y5 D D5) := ⟨hp5, hl5, hr5⟩
        clear hp5 hl5 hr5 hm5
        refine hK.out _ _ ?_
        clear hK K
        try simp only [aP]
        refine tk (v := ?_) 7 rfl ?_ ?_
        rotate_left
        focus
          intro w9
          go_simp
          try with_reducible rfl
        try simp only [aP]
        refine tk (v := ?_) 8 rfl ?_ ?_
        rotate_left
        focus
          intro w9
          go_simp
          try with_reducible rfl
        try simp only [aP]
        refine tk (v := ?_) 9 rfl ?_ ?_
        rotate_left
        focus
          intro w9
          go_simp
          try with_reducible rfl
        try simp only [aP]
        exact hs1_5_6 q5 m5 c5 ls5 Y5 D5 w5 H5
      · intro q5 m5 c5 ls5 Y5 D5 w5 H5
        have HM5 : Hid (Blk w5 mb #[.slice q0 m0 c0, .int .u64 (ls : Nat)] 28) := blk_frm HMd.out H5.out.2.2.f (only_gv HPd.out.g) (by decide) (by decide)
        have r0 := HM5.out.cell (i := 0) rfl
        have r1 := HM5.out.cell (i := 1) rfl
        have f0 := HM5.out.frozen 0
        have f1 := HM5.out.frozen 1
        refine wpAny_ready (rs := [10]) (by kernel_rfl) (by simp) ?_
        refine anyN_cons 10 rfl (by rfl) (fun K hK => ?_) AllReady.nil
        go_simp
        refine hK.out _ _ ?_
        clear hK K
        try simp only [aP]
        exact hs1_5_6_10 q5 m5 c5 ls5 Y5 D5 w5 H5
      · intro q5 m5 c5 ls5 Y5 D5 w5 H5
        refine wpAny_done (by kernel_rfl) ?_ _
        have HM5 : Hid (Blk w5 mb #[.slice q0 m0 c0, .int .u64 (ls : Nat)] 28) := blk_frm HMd.out H5.out.2.2.f (only_gv HPd.out.g) (by decide) (by decide)
        have HFZ : Hid (Frm w5 ((w5.setCell ⟨mb, 0, none⟩ (.slice q5 m5 c5)).setCell ⟨mb, 1, none⟩ (.int .u64 (ls5 : Nat))) (fun k => k = mb)) := (frm_set w5 _ 0 _ (F := fun k => k = mb) (.inl rfl)).trans (frm_set _ _ 1 _ (F := fun k => k = mb) (.inl rfl)) (fun k hk => .inl hk)
        have HP6 : Hid (PG ((w5.setCell ⟨mb, 0, none⟩ (.slice q5 m5 c5)).setCell ⟨mb, 1, none⟩ (.int .u64 (ls5 : Nat))) gb ls5 (.slice q5 m5 c5) Y5 D5) := PG.box H5.out.1 HM5.out HFZ.out
        have HX6 : Hid (Blk ((w5.setCell ⟨mb, 0, none⟩ (.slice q5 m5 c5)).setCell ⟨mb, 1, none⟩ (.int .u64 (ls5 : Nat))) mb #[.slice q5 m5 c5, .int .u64 (ls5 : Nat)] 28) := (HM5.out.set 0 _).set 1 _
        have HBL : Hid (Below w.heap.size w ((w5.setCell ⟨mb, 0, none⟩ (.slice q5 m5 c5)).setCell ⟨mb, 1, none⟩ (.int .u64 (ls5 : Nat)))) := by
          have hlo : ∀ k, gvF gb Y k → w.heap.size ≤ k := HLo.out.gv
          have hbd : Below w.heap.size w w5 := HLd.out.trans (H5.out.2.2.f.below HLd.out.size hlo)
          exact hbd.trans (HFZ.out.below hbd.size (fun k hk => by rw [hk]; exact HMl.out))
        have HLo6 : Hid (LowG w.heap.size gb Y5) := by
          refine ⟨HLo.out.1, fun y hy => ?_⟩
          rcases H5.out.2.2.n y hy with h9 | h9
          · exact HLo.out.2 y h9
          · exact ⟨Nat.le_trans HLd.out.size h9.1, Nat.le_trans HLd.out.size h9.2⟩
        have HLs6 : Hid (ls5 ≤ i + 1) := by have := H5.out.2.1; have := HLs.out; show _ ≤ _; omega
        have HU6 : Hid (OwnU ((w5.setCell ⟨mb, 0, none⟩ (.slice q5 m5 c5)).setCell ⟨mb, 1, none⟩ (.int .u64 (ls5 : Nat))) w.heap.size (.slice p0 U.length d0) U) := owns_box HM5.out HFZ.out (owns_frm HUd.out H5.out.2.2.f (only_gv HPd.out.g) (by decide) (by decide)) (by decide)
        have HQ : Hid (∀ d ∈ D5, d.t ∈ U → GrM D5 d) := HHd.out.step H5.out.2.2.s HPd.out.rise H5.out.1.rise
        have HRs : Hid (RisD D5) := H5.out.1.rise
        have HDm : Hid (D5.length = m5 ∧ m5 ≤ 256) := by
          obtain ⟨q9, c9, hv9, -⟩ := H5.out.1.d.rd
          injection hv9 with _ hv9 _
          have h1 := H5.out.1.g.inv.2
          have h2 := same_len H5.out.1.e
          exact ⟨hv9.symm, by omega⟩
        clear HFZ HM5 H5 HPd HMd HLd HLo HLs HUd HHd
        generalize ((w5.setCell ⟨mb, 0, none⟩ (.slice q5 m5 c5)).setCell ⟨mb, 1, none⟩ (.int .u64 (ls5 : Nat))) = w6 at *
        have hal2 : Below w6.heap.size w6 (w6.alloc (.cells #[] 26)) := (Below.refl _ _).alloc (Nat.le_refl _) _
        have H0 : Hid (OwnU (w6.alloc (.cells #[] 26)) w6.heap.size (.slice (some ⟨w6.heap.size, 0, none⟩) 0 0) [] ∧ Below w6.heap.size w6 (w6.alloc (.cells #[] 26))) := ⟨owns_empty w6 _ (Nat.le_refl _) _ _, hal2⟩
        clear hal2
        have h256 : m5 ≤ 256 := HDm.out.2
        obtain ⟨un, hun⟩ : ∃ un, U.length = un := ⟨_, rfl⟩
        have HUn : Hid (U.length = un) := hun
        have hul' : un ≤ 256 := by rw [← hun]; exact HUl.out
        rw [hun] at HU6 ⊢
        clear hun
        go_upto_region 11 with fail
        generalize w6.alloc (.cells #[] 26) = w7 at *
        go_loopw [7, 8] (fun sv sk wq => ∃ (k : Nat) (V : List Nat), k ≤ m5 ∧ sk = .int .i64 (k : Int) ∧ Hid (OwnU wq w6.heap.size sv V ∧ Below w6.heap.size w6 wq) ∧ Hid (V.length ≤ k ∧ HadP V D5)) (fun _ sk _ => ((m5 : Int) - intOf sk).toNat)
        case atStart => exact ⟨0, [], by omega, rfl, H0, Nat.le_refl _, HadP.nil _⟩
        case round =>
          clear H0
          obtain ⟨k, V, hk, rfl, HI2, HV⟩ := hrel
          have x0 := Blk.cell (i := 0) (HX6.out.on HI2.out.2) rfl
          rcases Nat.lt_or_eq_of_le hk with hklt | hkeq
          · have g2 : decide ((k : Int) < (m5 : Int)) = true := by simp; omega
            have hkD : k < D5.length := by rw [HDm.out.1]; exact hklt
            have hkY : k < Y5.length := by rw [← same_len HP6.out.e]; exact hkD
            have HPr : Hid (PG wr gb ls5 (.slice q5 m5 c5) Y5 D5) := HP6.out.on HI2.out.2
            obtain ⟨q9, c9, hv9, hRr⟩ := HPr.out.d.rd
            obtain ⟨hv1, -, -⟩ := Value.slice.inj hv9
            subst hv1
            clear hv9
            have HRd : Hid (∀ w', Below wr.heap.size wr w' → RdD w' wr.heap.size q5 D5) := fun w' hb => hRr.keep hb
            obtain ⟨b, o, hq, hbl, y0, y1⟩ := hRr k hkD
            have HCH : Hid (∀ j (hj : j < D5.length) w', PG w' gb ls5 (.slice q5 m5 c5) Y5 D5 → Calls Tryz.prog 10 #[ptr1 gb, .int .u64 (D5[j].t : Nat)] w' fun e w'' => e = .returned (.tuple #[.bool (decide ((ahD D5 D5[j].H j).length = 0)), .int .i64 0]) ∧ Below w'.heap.size w' w'') := by
              intro j hj w' h'
              have hjY : j < Y5.length := by rw [← same_len h'.e]; exact hj
              rw [(same_at h'.e j hj hjY).1, ← h'.ah j hj hjY, ← grT_ah]
              exact has_yes gb (ls5 + 1) j Y5 w' h'.g hjY
            have CH : Hid (Calls Tryz.prog 10 #[ptr1 gb, .int .u64 (D5[k].t : Nat)] wr fun e w'' => e = .returned (.tuple #[.bool (decide ((ahD D5 D5[k].H k).length = 0)), .int .i64 0]) ∧ Below wr.heap.size wr w'') := HCH.out k hkD wr HPr.out
            have HRp : Hid (RdD wr wr.heap.size q5 D5) := hRr
            clear hRr hbl y1
            subst hq
            obtain ⟨tk5, htk⟩ : ∃ t, D5[k].t = t := ⟨_, rfl⟩
            have HTk : Hid (D5[k].t = tk5) := htk
            rw [htk] at y0 CH
            clear htk
            by_cases hg : GrM D5 D5[k]
            · have HG : Hid (GrM D5 D5[k]) := hg
              have e9 : decide ((ahD D5 D5[k].H k).length = 0) = true := by rw [decide_eq_true_eq, gr_iff HRs.out]; exact hg
              rw [e9] at CH
              clear e9 hg
              go_wp2_with fail
              refine CH.out.mono ?_
              rintro e w8 ⟨rfl, hb8⟩
              dsimp only
              have HI8 : Hid (OwnU w8 w6.heap.size u7 V ∧ Below w6.heap.size w6 w8) := ⟨owns_kept HI2.out.1 hb8, HI2.out.2.trans (hb8.mono HI2.out.2.size)⟩
              clear hb8 CH HI2 x0 y0 HPr HRp HRd
              go_upto_region 23 with fail
              go_loopw [12] (fun sh wq => ∃ h : Nat, h ≤ k ∧ sh = .int .i64 (h : Int) ∧ Hid (OwnU wq w6.heap.size u7 V ∧ Below w6.heap.size w6 wq)) (fun sh _ => ((k : Int) - intOf sh).toNat)
              case atStart => exact ⟨0, by omega, rfl, HI8⟩
              case round =>
                clear HI8
                obtain ⟨h, hh, rfl, HI4⟩ := hrel
                have x0 := Blk.cell (i := 0) (HX6.out.on HI4.out.2) rfl
                rcases Nat.lt_or_eq_of_le hh with hhlt | hheq
                · have g3 : decide ((h : Int) < (k : Int)) = true := by simp; omega
                  have hhD : h < D5.length := Nat.lt_trans hhlt hkD
                  have HPr : Hid (PG wr gb ls5 (.slice (some ⟨b, o, none⟩) m5 c5) Y5 D5) := HP6.out.on HI4.out.2
                  obtain ⟨q9, c9, hv9, hRr⟩ := HPr.out.d.rd
                  obtain ⟨hv1, -, -⟩ := Value.slice.inj hv9
                  subst hv1
                  clear hv9
                  obtain ⟨b', o', hq, hbl, y0, y1⟩ := hRr h hhD
                  cases hq
                  have CH : Hid (Calls Tryz.prog 10 #[ptr1 gb, .int .u64 (D5[h].t : Nat)] wr fun e w'' => e = .returned (.tuple #[.bool (decide ((ahD D5 D5[h].H h).length = 0)), .int .i64 0]) ∧ Below wr.heap.size wr w'') := HCH.out h hhD wr HPr.out
                  obtain ⟨th, hth⟩ : ∃ t, D5[h].t = t := ⟨_, rfl⟩
                  rw [hth] at y0 CH
                  clear hth hbl y1 hRr
                  generalize decide ((ahD D5 D5[h].H h).length = 0) = okh at *
                  have gi3 : (h : Int) < (m5 : Int) := by omega
                  go_wp2_with fail
                  refine CH.out.mono ?_
                  rintro e w8 ⟨rfl, hb8⟩
                  dsimp only
                  have hdr : Below w8.heap.size w8 w8.drew := (Below.refl _ _).drew
                  have HO8 : Hid (OwnU w8.drew w6.heap.size u7 V) := owns_kept (owns_kept HI4.out.1 hb8) hdr
                  have HB8 : Hid (Below w6.heap.size w6 w8.drew) := by
                    have h1 := HI4.out.2.trans (hb8.mono HI4.out.2.size)
                    exact h1.trans (hdr.mono h1.size)
                  have HP8 : Hid (PG w8.drew gb ls5 (.slice (some ⟨b, o, none⟩) m5 c5) Y5 D5) := HP6.out.on HB8.out
                  have HI8 : Hid (OwnU w8 w6.heap.size u7 V ∧ Below w6.heap.size w6 w8) := ⟨owns_kept HI4.out.1 hb8, HI4.out.2.trans (hb8.mono HI4.out.2.size)⟩
                  clear hdr hb8 CH y0 x0 HPr
                  cases okh with
                  | false =>
                    have HI9 : Hid (∀ n, OwnU (w8.drewN n) w6.heap.size u7 V ∧ Below w6.heap.size w6 (w8.drewN n)) := by
                      intro n
                      have hd := below_drewN (Below.refl w8.heap.size w8) n
                      exact ⟨owns_kept HI8.out.1 hd, HI8.out.2.trans (hd.mono HI8.out.2.size)⟩
                    go_upto_region 26 with fail
                    go_quiet (fail)
                    go_wp2_with fail
                    go_roundw
                    case rel => exact ⟨h + 1, by omega, by go_num, HI9.out _⟩
                    case measure => simp [intOf]; omega
                  | true =>
                    obtain ⟨q9, c9, hv9, hRr⟩ := HP8.out.d.rd
                    obtain ⟨hv1, -, -⟩ := Value.slice.inj hv9
                    subst hv1
                    clear hv9
                    obtain ⟨b', o', hq, -, -, y1⟩ := hRr h hhD
                    cases hq
                    obtain ⟨b', o', hq, -, -, y2⟩ := hRr k hkD
                    cases hq
                    obtain ⟨oh, lh⟩ := HP8.out.d.h _ (List.getElem_mem hhD)
                    obtain ⟨ok, lk⟩ := HP8.out.d.h _ (List.getElem_mem hkD)
                    obtain ⟨qk, ck, hvk, rk⟩ := OwnH.rd ok
                    obtain ⟨qh, ch, hvh, rh⟩ := OwnH.rd oh
                    rw [hvk] at y2
                    rw [hvh] at y1
                    have hway : wayB D5[h].H D5[k].H = false := HG.out _ (List.getElem_mem hhD) (HRs.out.lt hhD hkD hhlt)
                    have CW : Hid (Calls Tryz.prog 11 #[.slice qh D5[h].H.length ch, .slice qk D5[k].H.length ck] w8.drew fun e w' => e = .returned (.bool false) ∧ Below w8.drew.heap.size w8.drew w') := by
                      have h1 := rway_any _ _ _ _ ch ck _ rh rk lh lk
                      rw [hway] at h1
                      exact h1
                    have xd := HX6.out.on HB8.out
                    have s0 := xd.cell (i := 0) rfl
                    clear xd hway rk rh lk lh ok oh hvk hvh hRr
                    generalize D5[h].H.length = lnh at *
                    generalize D5[k].H.length = lnk at *
                    have gi2 : (k : Int) < (m5 : Int) := by omega
                    go_upto_region 26 with fail
                    refine wp_region_any (by kernel_rfl) ?_
                    change wpAny _ _ _ _ _ _ _ (World.drew _)
                    generalize w8.drew = wd at *
                    refine tk (v := ?_) 0 rfl ?_ ?_
                    rotate_left
                    focus
                      intro w9
                      go_simp
                      try with_reducible rfl
                    try simp only [aP]
                    refine tk (v := ?_) 1 rfl ?_ ?_
                    rotate_left
                    focus
                      intro w9
                      go_simp
                      try with_reducible rfl
                    try simp only [aP]
                    refine tk (v := ?_) 2 rfl ?_ ?_
                    rotate_left
                    focus
                      intro w9
                      go_simp
                      try with_reducible rfl
                    try simp only [aP]
                    refine tk (v := ?_) 4 rfl ?_ ?_
                    rotate_left
                    focus
                      intro w9
                      go_simp
                      try with_reducible rfl
                    try simp only [aP]
                    refine tk (v := ?_) 8 rfl ?_ ?_
                    rotate_left
                    focus
                      intro w9
                      go_simp
                      try with_reducible rfl
                    try simp only [aP]
                    refine tk (v := ?_) 10 rfl ?_ ?_
                    rotate_left
                    focus
                      intro w9
                      go_simp
                      try with_reducible rfl
                    try simp only [aP]
                    apply later1 (fun (w9 : World) => Hid (Below wd.heap.size wd w9))
                    intro hs3_7_9_13_14
                    apply later0
                    intro hs3_7_9_13
                    apply later0
                    intro hs3_9_13
                    apply later0
                    intro hs3_7_9
                    apply later0
                    intro hs9_13
                    apply later0
                    intro hs3_9
                    apply later0
                    intro hs3_7
                    apply later0
                    intro hs9
                    apply later0
                    intro hs3
                    · refine wpAny_ready (rs := [3, 9]) (by kernel_rfl) (by simp) ?_
                      refine anyN_cons 3 rfl (by rfl) (fun K hK => ?_) (anyN_cons 9 rfl (by rfl) (fun K hK => ?_) AllReady.nil)
                      · go_simp
                        refine hK.out _ _ ?_
                        clear hK K
                        try simp only [aP]
                        refine tk (v := ?_) 5 rfl ?_ ?_
                        rotate_left
                        focus
                          intro w9
                          go_simp
                          try with_reducible rfl
                        try simp only [aP]
                        refine tk (v := ?_) 6 rfl ?_ ?_
                        rotate_left
                        focus
                          intro w9
                          go_simp
                          try with_reducible rfl
                        try simp only [aP]
                        exact hs3
                      · go_simp
                        refine hK.out _ _ ?_
                        clear hK K
                        try simp only [aP]
                        refine tk (v := ?_) 11 rfl ?_ ?_
                        rotate_left
                        focus
                          intro w9
                          go_simp
                          try with_reducible rfl
                        try simp only [aP]
                        refine tk (v := ?_) 12 rfl ?_ ?_
                        rotate_left
                        focus
                          intro w9
                          go_simp
                          try with_reducible rfl
                        try simp only [aP]
                        exact hs9
                    · refine wpAny_ready (rs := [7, 9]) (by kernel_rfl) (by simp) ?_
                      refine anyN_cons 7 rfl (by rfl) (fun K hK => ?_) (anyN_cons 9 rfl (by rfl) (fun K hK => ?_) AllReady.nil)
                      · go_simp
                        refine hK.out _ _ ?_
                        clear hK K
                        try simp only [aP]
                        exact hs3_7
                      · go_simp
                        refine hK.out _ _ ?_
                        clear hK K
                        try simp only [aP]
                        refine tk (v := ?_) 11 rfl ?_ ?_
                        rotate_left
                        focus
                          intro w9
                          go_simp
                          try with_reducible rfl
                        try simp only [aP]
                        refine tk (v := ?_) 12 rfl ?_ ?_
                        rotate_left
                        focus
                          intro w9
                          go_simp
                          try with_reducible rfl
                        try simp only [aP]
                        exact hs3_9
                    · refine wpAny_ready (rs := [3, 13]) (by kernel_rfl) (by simp) ?_
                      refine anyN_cons 3 rfl (by rfl) (fun K hK => ?_) (anyN_cons 13 rfl (by rfl) (fun K hK => ?_) AllReady.nil)
                      · go_simp
                        refine hK.out _ _ ?_
                        clear hK K
                        try simp only [aP]
                        refine tk (v := ?_) 5 rfl ?_ ?_
                        rotate_left
                        focus
                          intro w9
                          go_simp
                          try with_reducible rfl
                        try simp only [aP]
                        refine tk (v := ?_) 6 rfl ?_ ?_
                        rotate_left
                        focus
                          intro w9
                          go_simp
                          try with_reducible rfl
                        try simp only [aP]
                        exact hs3_9
                      · go_simp
                        refine hK.out _ _ ?_
                        clear hK K
                        try simp only [aP]
                        exact hs9_13
                    · refine wpAny_ready (rs := [9]) (by kernel_rfl) (by simp) ?_
                      refine anyN_cons 9 rfl (by rfl) (fun K hK => ?_) AllReady.nil
                      go_simp
                      refine hK.out _ _ ?_
                      clear hK K
                      try simp only [aP]
                      refine tk (v := ?_) 11 rfl ?_ ?_
                      rotate_left
                      focus
                        intro w9
                        go_simp
                        try with_reducible rfl
                      try simp only [aP]
                      refine tk (v := ?_) 12 rfl ?_ ?_
                      rotate_left
                      focus
                        intro w9
                        go_simp
                        try with_reducible rfl
                      try simp only [aP]
                      exact hs3_7_9
                    · refine wpAny_ready (rs := [7, 13]) (by kernel_rfl) (by simp) ?_
                      refine anyN_cons 7 rfl (by rfl) (fun K hK => ?_) (anyN_cons 13 rfl (by rfl) (fun K hK => ?_) AllReady.nil)
                      · go_simp
                        refine hK.out _ _ ?_
                        clear hK K
                        try simp only [aP]
                        exact hs3_7_9
                      · go_simp
                        refine hK.out _ _ ?_
                        clear hK K
                        try simp only [aP]
                        exact hs3_9_13
                    · refine wpAny_ready (rs := [3]) (by kernel_rfl) (by simp) ?_
                      refine anyN_cons 3 rfl (by rfl) (fun K hK => ?_) AllReady.nil
                      go_simp
                      refine hK.out _ _ ?_
                      clear hK K
                      try simp only [aP]
                      refine tk (v := ?_) 5 rfl ?_ ?_
                      rotate_left
                      focus
                        intro w9
                        go_simp
                        try with_reducible rfl
                      try simp only [aP]
                      refine tk (v := ?_) 6 rfl ?_ ?_
                      rotate_left
                      focus
                        intro w9
                        go_simp
                        try with_reducible rfl
                      try simp only [aP]
                      exact hs3_9_13
                    · refine wpAny_ready (rs := [13]) (by kernel_rfl) (by simp) ?_
                      refine anyN_cons 13 rfl (by rfl) (fun K hK => ?_) AllReady.nil
                      go_simp
                      refine hK.out _ _ ?_
                      clear hK K
                      try simp only [aP]
                      exact hs3_7_9_13
                    · refine wpAny_ready (rs := [7]) (by kernel_rfl) (by simp) ?_
                      refine anyN_cons 7 rfl (by rfl) (fun K hK => ?_) AllReady.nil
                      go_simp
                      refine hK.out _ _ ?_
                      clear hK K
                      try simp only [aP]
                      exact hs3_7_9_13
                    · refine wpAny_ready (rs := [14]) (by kernel_rfl) (by simp) ?_
                      refine anyN_cons 14 rfl (by rfl) (fun K hK => ?_) AllReady.nil
                      go_simp
                      refine CW.out.mono ?_
                      rintro e w9 ⟨rfl, hb9⟩
                      dsimp only
                      have H9 : Hid (Below wd.heap.size wd w9) := hb9
                      clear hb9
                      refine hK.out _ _ ?_
                      clear hK K
                      try simp only [aP]
                      refine tk (v := ?_) 15 rfl ?_ ?_
                      rotate_left
                      focus
                        intro w9
                        go_simp
                        try with_reducible rfl
                      try simp only [aP]
                      exact hs3_7_9_13_14 w9 H9
                    · intro w9 H9
                      refine wpAny_done (by kernel_rfl) ?_ _
                      have HI9 : Hid (OwnU w9 w6.heap.size u7 V ∧ Below w6.heap.size w6 w9) := by
                        have hb := HB8.out.trans (H9.out.mono HB8.out.size)
                        exact ⟨owns_kept HO8.out H9.out, hb⟩
                      go_wp2_with fail
                      go_roundw
                      case rel => exact ⟨h + 1, by omega, by go_num, HI9⟩
                      case measure => simp [intOf]; omega
                · have g3 : decide ((h : Int) < (k : Int)) = false := by simp; omega
                  have HPr : Hid (PG wr gb ls5 (.slice (some ⟨b, o, none⟩) m5 c5) Y5 D5) := HP6.out.on HI4.out.2
                  obtain ⟨q9, c9, hv9, hRr⟩ := HPr.out.d.rd
                  obtain ⟨hv1, -, -⟩ := Value.slice.inj hv9
                  subst hv1
                  clear hv9
                  obtain ⟨b', o', hq, -, y0, -⟩ := hRr k hkD
                  cases hq
                  have HZ : Hid (V.length ≤ k) := HV.out.1
                  have HMo : Hid (HadP (V ++ [tk5]) D5) := by
                    rw [← HTk.out]
                    exact HV.out.2.more hkD HG.out
                  have HOw : Hid (World.ownsRow wr w6.heap.size 26 1 u7 V.length (V.map tkV)) := HI4.out.1
                  rw [HTk.out] at y0
                  have gi2 : (k : Int) < (m5 : Int) := by omega
                  have HM2 : Hid (m5 ≤ 256 ∧ k < m5) := ⟨HDm.out.2, hklt⟩
                  clear hRr HPr
                  go_wp2_with (first | (at_builtin; go_loud (refine wpList_app1 wr rfl (.tmp 109) (.tmp 116) 26 37 _ 1 8 rfl Tryz.underlying37 info_u64 rfl (by decide) w6.heap.size _ _ _ (by rfl) HOw.out [.int .u64 (tk5 : Nat)] rfl (by intro u hu; simp only [List.mem_cons, List.not_mem_nil, or_false] at hu; rcases hu with rfl; rfl) _ rfl (by simp) (by have := HZ.out; have := HM2.out; omega) (by have := HZ.out; have := HM2.out; omega) HI4.out.2.size ?_); intro v3 w3 h3 h4 h5; refine Hid.out ?_))
                  have HI3 : Hid (OwnU w3 w6.heap.size v3 (V ++ [tk5]) ∧ Below w6.heap.size w6 w3) := by
                    refine ⟨?_, HI4.out.2.trans h4⟩
                    show World.ownsRow _ _ _ _ _ _ _
                    rw [List.length_append, List.map_append]
                    simpa [tkV] using h3
                  have HZ3 : Hid ((V ++ [tk5]).length ≤ k + 1 ∧ HadP (V ++ [tk5]) D5) := ⟨by rw [List.length_append]; have := HZ.out; simp; omega, HMo.out⟩
                  clear h3 h4 h5
                  unfold Hid
                  go_wp2_with fail
                  go_roundw
                  case rel => exact ⟨k + 1, _, by omega, by go_num, HI3, HZ3⟩
                  case measure => simp [intOf]; omega
            · have HnU : Hid (∀ j (hj : j < U.length), U[j] ≠ tk5) := by
                intro j hj e
                refine hg (HQ.out _ (List.getElem_mem hkD) ?_)
                rw [HTk.out, ← e]
                exact List.getElem_mem hj
              have e9 : decide ((ahD D5 D5[k].H k).length = 0) = false := by rw [decide_eq_false_iff_not, gr_iff HRs.out]; exact hg
              have hk0 : ¬ (k : Int) = 0 := by
                intro h9
                have h8 : k = 0 := by omega
                subst h8
                exact hg (gr_zero HRs.out hkD)
              rw [e9] at CH
              clear e9 hg
              go_wp2_with fail
              refine CH.out.mono ?_
              rintro e w8 ⟨rfl, hb8⟩
              dsimp only
              have HI8 : Hid (OwnU w8 w6.heap.size u7 V ∧ Below w6.heap.size w6 w8) := ⟨owns_kept HI2.out.1 hb8, HI2.out.2.trans (hb8.mono HI2.out.2.size)⟩
              clear hb8 CH HI2 x0 y0 HPr HRp HRd
              go_upto_region 18 with fail
              go_loopw [11] (fun sh wq => ∃ h : Nat, h ≤ un ∧ sh = .int .i64 (h : Int) ∧ Hid (OwnU wq w6.heap.size u7 V ∧ Below w6.heap.size w6 wq)) (fun sh _ => ((un : Int) - intOf sh).toNat)
              case atStart => exact ⟨0, by omega, rfl, HI8⟩
              case round =>
                clear HI8
                obtain ⟨h, hh, rfl, HI4⟩ := hrel
                rcases Nat.lt_or_eq_of_le hh with hhlt | hheq
                · have g3 : decide ((h : Int) < (un : Int)) = true := by simp; omega
                  have hhU : h < U.length := by rw [HUn.out]; exact hhlt
                  have x0 := Blk.cell (i := 0) (HX6.out.on HI4.out.2) rfl
                  have HPr : Hid (PG wr gb ls5 (.slice (some ⟨b, o, none⟩) m5 c5) Y5 D5) := HP6.out.on HI4.out.2
                  obtain ⟨q9, c9, hv9, hRr⟩ := HPr.out.d.rd
                  obtain ⟨hv1, -, -⟩ := Value.slice.inj hv9
                  subst hv1
                  clear hv9
                  obtain ⟨b', o', hq, -, y0, -⟩ := hRr k hkD
                  cases hq
                  rw [HTk.out] at y0
                  have hUr : OwnU wr w.heap.size (.slice p0 un d0) U := by
                    have h9 := owns_kept HU6.out HI4.out.2
                    rw [← HUn.out] at h9 ⊢
                    exact h9
                  obtain ⟨p9, d9, e9, hat⟩ := OwnU.at hUr
                  obtain ⟨e91, -, -⟩ := Value.slice.inj e9
                  subst e91
                  clear e9
                  obtain ⟨gu, hp0, -, z0⟩ := hat h hhU
                  subst hp0
                  have g4 : ¬ ((U[h] : Nat) : Int) = (tk5 : Int) := by have := HnU.out h hhU; omega
                  generalize ((U[h] : Nat) : Int) = uh at *
                  have HI9 : Hid (∀ n, OwnU (wr.drewN n) w6.heap.size u7 V ∧ Below w6.heap.size w6 (wr.drewN n)) := by
                    intro n
                    have hd := below_drewN (Below.refl wr.heap.size wr) n
                    exact ⟨owns_kept HI4.out.1 hd, HI4.out.2.trans (hd.mono HI4.out.2.size)⟩
                  have gi2 : (k : Int) < (m5 : Int) := by omega
                  have gi3 : (h : Int) < (un : Int) := by omega
                  clear hUr hat hRr HPr hhU HI4
                  go_wp2_with fail
                  go_quiet (fail)
                  go_wp2_with fail
                  go_roundw
                  case rel => exact ⟨h + 1, by omega, by go_num, HI9.out _⟩
                  case measure => simp [intOf]; omega
                · have g3 : decide ((h : Int) < (un : Int)) = false := by simp; omega
                  have HZ3 : Hid (V.length ≤ k + 1 ∧ HadP V D5) := ⟨Nat.le_succ_of_le HV.out.1, HV.out.2⟩
                  go_wp2_with fail
                  go_roundw
                  case rel => exact ⟨k + 1, V, by omega, by go_num, HI4, HZ3⟩
                  case measure => simp [intOf]; omega
          · have g2 : decide ((k : Int) < (m5 : Int)) = false := by simp; omega
            have HS : Hid (SvS w wr gb mb u7 (i + 1)) := by
              have hb := HI2.out.2
              have h1 := HDm.out.2
              exact ⟨_, ls5, Y5, D5, V, HP6.out.on hb, HX6.out.on hb, HBL.out.trans (hb.mono HBL.out.size), HLo6.out, HLs6.out, HMl.out, owns_base HI2.out.1 HBL.out.size, HV.out.2, by have := HV.out.1; omega⟩
            go_wp2_with fail
            go_roundw
            case rel => exact ⟨i + 1, by omega, by go_num, HS⟩
            case measure => simp [intOf]; omega
    · have g1 : decide ((i : Int) < (n : Int)) = false := by simp; omega
      have HS5 : Hid (∃ Y nx, Gp wr gb nx Y ∧ LowG w.heap.size gb Y ∧ Below w.heap.size w wr) := by
        obtain ⟨v6, ls6, Y6, D6, U6, hp6, hm6, hb6, hlo6, -⟩ := HI.out
        exact ⟨Y6, _, hp6.g, hlo6, hb6⟩
      clear HI
      obtain ⟨Y0, nx0, hg0, hlo0, hb0⟩ := HS5.out
      have HZ0 : Hid (∃ Y nx, Y.length ≤ Y0.length ∧ Gp wr gb nx Y ∧ LowG w.heap.size gb Y ∧ Below w.heap.size w wr) := ⟨Y0, nx0, Nat.le_refl _, hg0, hlo0, hb0⟩
      clear hg0 hlo0 hb0 HS5
      go_upto_region 30 with fail
      generalize wr = w5 at *
      go_loopg [15] Y0.length (fun kk _ wq => Hid (∃ Y nx, Y.length ≤ kk ∧ Gp wq gb nx Y ∧ LowG w.heap.size gb Y ∧ Below w.heap.size w wq))
      case atStart => exact HZ0
      case round =>
        clear HZ0
        obtain ⟨Y, nx, hle, hg, hlo, hb⟩ := hrel.out
        have HG : Hid (Gp wr gb nx Y) := hg
        have HLo : Hid (LowG w.heap.size gb Y) := hlo
        have HB : Hid (Below w.heap.size w wr) := hb
        have HLe : Hid (Y.length ≤ gk) := hle
        clear hg hlo hb hle hrel
        obtain ⟨yl, hyl⟩ : ∃ yl, Y.length = yl := ⟨_, rfl⟩
        have HYl : Hid (Y.length = yl) := hyl
        clear hyl
        go_wp2_with fail
        refine (tickets_any gb nx Y wr HG.out).mono ?_
        rintro e w2 ⟨v2, rfl, ho2, hb2⟩
        dsimp only
        obtain ⟨p2, c2, hv2, hat2⟩ := OwnU.at ho2
        rw [List.length_map, HYl.out] at hv2
        subst hv2
        have HB2 : Hid (Below wr.heap.size wr w2) := hb2
        clear hat2 ho2 hb2
        by_cases h0 : yl = 0
        · have HZ : Hid (Below w.heap.size w w2) := HB.out.trans (HB2.out.mono HB.out.size)
          subst h0
          go_wp2_with fail
          refine (awake_any w2).mono ?_
          rintro e w8 ⟨rfl, hb8⟩
          dsimp only
          have HB8 : Hid (Below w.heap.size w w8) := HZ.out.trans (hb8.mono HZ.out.size)
          clear hb8
          go_wp2_with fail
          go_ret
          exact ⟨rfl, HB8.out⟩
        · have g5 : (0 : Int) < (yl : Int) := by omega
          have hY0 : 0 < Y.length := by rw [HYl.out]; omega
          have HG2 : Hid (Gp w2 gb nx Y) := HG.out.on HB2.out
          have CT : Hid (Calls _ _ _ _ _) := tickets_any gb nx Y w2 HG2.out
          have HCW : Hid (∀ w', Gp w' gb nx Y → Calls Tryz.prog 13 #[ptr1 gb, .int .u64 (Y[0].x.t : Nat)] w' fun e w'' => e = .returned (.int .i64 0) ∧ Below w'.heap.size w' w'') := fun w' h' => wait_yes gb nx 0 Y w' h' hY0 (gr_first h' hY0)
          have HCG : Hid (∀ w', Gp w' gb nx Y → Calls Tryz.prog 14 #[ptr1 gb, .int .u64 (Y[0].x.t : Nat)] w' fun e w'' => e = .returned (.int .i64 0) ∧ Gp w'' gb nx (Y.eraseIdx 0) ∧ Frm w' w'' (gvF gb Y)) := fun w' h' => give_yes gb nx 0 Y w' h' hY0
          have HYe : Hid ((Y.eraseIdx 0).length < gk) := by
            have h1 := HLe.out
            show _ < _
            rw [List.length_eraseIdx_of_lt hY0]
            omega
          clear h0
          go_wp2_with fail
          refine CT.out.mono ?_
          rintro e w3 ⟨v3, rfl, ho3, hb3⟩
          dsimp only
          have HB3 : Hid (Below wr.heap.size wr w3) := HB2.out.trans (hb3.mono HB2.out.size)
          obtain ⟨p3, c3, hv3, hat3⟩ := OwnU.at ho3
          obtain ⟨g3, hp3, hg3, z3⟩ := hat3 0 (by rw [List.length_map]; exact hY0)
          rw [List.getElem_map] at z3
          rw [List.length_map, HYl.out] at hv3
          subst hp3
          subst hv3
          have HG3 : Hid (Gp w3 gb nx Y) := HG.out.on HB3.out
          have CW : Hid (Calls Tryz.prog 13 #[ptr1 gb, .int .u64 (Y[0].x.t : Nat)] w3 fun e w'' => e = .returned (.int .i64 0) ∧ Below w3.heap.size w3 w'') := HCW.out w3 HG3.out
          generalize (Y[0].x.t : Int) = t0 at *
          clear hat3 ho3 hb3 hg3 CT HCW hY0 HG2
          go_wp2_with fail
          refine CW.out.mono ?_
          rintro e w4 ⟨rfl, hb4⟩
          dsimp only
          have HB4 : Hid (Below wr.heap.size wr w4) := HB3.out.trans (hb4.mono HB3.out.size)
          have HG4 : Hid (Gp w4 gb nx Y) := HG3.out.on hb4
          clear hb4 CW z3 HG3
          go_wp2_with fail
          refine (HCG.out w4 HG4.out).mono ?_
          rintro e w6 ⟨rfl, hg6, hf6⟩
          dsimp only
          have HZ7 : Hid (Gp w6 gb nx (Y.eraseIdx 0) ∧ Below w.heap.size w w6) := by
            have h1 := HB.out.trans (HB4.out.mono HB.out.size)
            exact ⟨hg6, h1.trans (hf6.below h1.size HLo.out.gv)⟩
          clear hg6 hf6 HCG
          go_wp2_with fail
          go_roundg (Y.eraseIdx 0).length
          case measure => exact HYe.out
          case rel => exact ⟨_, nx, Nat.le_refl _, HZ7.out.1, HLo.out.erase 0, HZ7.out.2⟩
end Go.Proofs.YtcdamalpecedcaaGreat
