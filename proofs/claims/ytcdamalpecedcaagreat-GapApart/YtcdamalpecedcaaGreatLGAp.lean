/- Layer 13: GapApart. -/
import Derived.Test.YtcdamalpecedcaaGreatMGap5
namespace Go.Proofs.YtcdamalpecedcaaGreat
open Go.RowKit
set_option maxRecDepth 100000

set_option maxHeartbeats 64000000 in
theorem lawApart (L1 L2 : List AcG) (q1 q2 : Option Addr) (c1 c2 : Nat) (w : World) (hR1 : RdG w w.heap.size q1 L1) (hR2 : RdG w w.heap.size q2 L2) (hl1 : L1.length ≤ 5900000000000) (hl2 : L2.length ≤ 5900000000000) :
    Calls Tryz.prog 5 #[.slice q1 L1.length c1, .slice q2 L2.length c2] w fun e w' => e = .returned (.bool true) ∧ Below w.heap.size w w' := by
  have HR1 : Hid (RdG w w.heap.size q1 L1) := hR1
  have HR2 : Hid (RdG w w.heap.size q2 L2) := hR2
  obtain ⟨n1, hn1⟩ : ∃ n1, L1.length = n1 := ⟨_, rfl⟩
  obtain ⟨n2, hn2⟩ : ∃ n2, L2.length = n2 := ⟨_, rfl⟩
  have HN1 : Hid (L1.length = n1) := hn1
  have HN2 : Hid (L2.length = n2) := hn2
  rw [hn1] at hl1 ⊢
  rw [hn2] at hl2 ⊢
  have HNb : Hid (n1 ≤ 5900000000000 ∧ n2 ≤ 5900000000000) := ⟨hl1, hl2⟩
  clear hR1 hR2 hn1 hn2
  go_enter Tryz.func5, Tryz.ntmps5
  go_wp2_with fail
  refine (gnew_any w).mono ?_
  rintro e w1 ⟨ga, rfl, hga, hgal, hb1⟩
  dsimp only
  have HA1 : Hid (Gp w1 ga 1 [] ∧ w.heap.size ≤ ga ∧ Below w.heap.size w w1) := ⟨hga, hgal, hb1⟩
  clear hga hgal hb1
  go_wp2_with fail
  refine (gnew_any w1).mono ?_
  rintro e w2 ⟨gb, rfl, hgb, hgbl, hb2⟩
  dsimp only
  obtain ⟨aX, hal, hsz⟩ := blk_new w2 #[.slice none 0 0, .int .u64 0] 28
  obtain ⟨bX, hbl, -⟩ := blk_new (w2.alloc (.cells #[.slice none 0 0, .int .u64 0] 28)) #[.slice none 0 0, .int .u64 0] 28
  have HI0 : Hid (TwS w ((w2.alloc (.cells #[.slice none 0 0, .int .u64 0] 28)).alloc (.cells #[.slice none 0 0, .int .u64 0] 28)) ga gb w2.heap.size (w2.heap.size + 1) 0 0) := by
    obtain ⟨k1, k2, k3⟩ := HA1.out
    have hw2 : Below w.heap.size w w2 := k3.trans (hb2.mono k3.size)
    have h3 : Below w2.heap.size w2 ((w2.alloc (.cells #[.slice none 0 0, .int .u64 0] 28)).alloc (.cells #[.slice none 0 0, .int .u64 0] 28)) := hal.trans (hbl.mono hal.size)
    have e0 : DkL ((w2.alloc (.cells #[.slice none 0 0, .int .u64 0] 28)).alloc (.cells #[.slice none 0 0, .int .u64 0] 28)) 0 (.slice none 0 0) [] := ⟨World.ownsRow_nil _ _ _ _, fun d hd => by cases hd⟩
    rw [hsz] at bX
    refine ⟨.slice none 0 0, 0, [], [], .slice none 0 0, 0, [], [], ⟨⟨(k1.on hb2).on h3, e0, rfl⟩, ⟨hgb.on h3, e0, rfl⟩, aX.on hbl, bX, hw2.trans (h3.mono hw2.size), ⟨k2, fun y hy => by cases hy⟩, ⟨Nat.le_trans k3.size hgbl, fun y hy => by cases hy⟩, hw2.size, Nat.le_succ_of_le hw2.size, ?_, by omega⟩, Nat.le_refl _, Nat.le_refl _⟩
    intro k hk hk'
    have hlt := gv_lt k1 k hk
    rcases hk' with hk' | ⟨y, hy, -⟩
    · omega
    · cases hy
  clear aX bX hal hbl hsz hgb hgbl hb2 HA1
  go_upto_region 6 with fail
  generalize ((w2.alloc (.cells #[.slice none 0 0, .int .u64 0] 28)).alloc (.cells #[.slice none 0 0, .int .u64 0] 28)) = w3 at *
  generalize hms : w2.heap.size + 1 = mb at *
  clear hms
  generalize w2.heap.size = ma at *
  go_loopw [9] (fun si wq => ∃ i : Nat, (i ≤ n1 ∨ i ≤ n2) ∧ si = .int .i64 (i : Int) ∧ Hid (TwS w wq ga gb ma mb i i)) (fun si _ => ((n1 : Int) + (n2 : Int) - intOf si).toNat)
  case atStart => exact ⟨0, by omega, rfl, HI0⟩
  case round =>
    clear HI0
    obtain ⟨i, hi, rfl, HT⟩ := hrel
    have HIb : Hid (i ≤ 5900000000000) := by have := HNb.out; show _ ≤ _; omega
    by_cases h1 : i < n1
    · have hi1 : i < L1.length := by rw [HN1.out]; exact h1
      have g1 : decide ((i : Int) < (n1 : Int)) = true := by simp; omega
      have gi1 : (i : Int) < (n1 : Int) := by omega
      have HI1 : Hid (i < n1) := h1
      have hlo : Below w.heap.size w wr := by
        obtain ⟨v, ls, Y, D, v', ls', Y', D', ht, -⟩ := HT.out
        exact ht.lo
      obtain ⟨b1, o1, hq1, -, y0, y1, y2, hrh, hhl⟩ := HR1.out.keep hlo i hi1
      subst hq1
      clear hlo
      by_cases hk : L1[i].kd = 0
      · rw [hk] at y0
        clear hk
        obtain ⟨v, ls, Y, D, v', ls', Y', D', ht, hle, hle'⟩ := HT.out
        obtain ⟨q0, c0, hv, -⟩ := ht.a.d.rd
        obtain ⟨m0, hm0⟩ : ∃ m0, D.length = m0 := ⟨_, rfl⟩
        rw [hm0] at hv
        subst hv
        obtain ⟨wq0, hwq0⟩ : ∃ wq0, wq0 = wr := ⟨_, rfl⟩
        subst hwq0
        have HTd : Hid (Tw w wq0 ga gb ma mb (.slice q0 m0 c0) ls Y D v' ls' Y' D') := ht
        have HLs : Hid (ls ≤ i ∧ ls' ≤ i) := ⟨hle, hle'⟩
        obtain ⟨ls1, tn1, ec1, MM, hls1, hc1, hc2⟩ := take_both ga ls L1[i].c L1[i].q L1[i].H (.slice q0 m0 c0) Y D wq0 ht.a (by have := HIb.out; omega)
        have HL1 : Hid (ls1 ≤ ls + 1) := hls1
        have HC1 : Hid _ := hc1
        have HC2 : Hid _ := hc2
        have CL : Hid (Calls _ _ _ _ _) := lholds_any L1[i].H L1[i].q L1[i].c wq0 (hrh.wide ht.lo.size) hhl
        have HRH : Hid (∀ w', Below w.heap.size w w' → RdH w' w'.heap.size L1[i].q L1[i].H ∧ w'.cell? ⟨b1, o1 + i * 3 + 1, none⟩ = some (.slice L1[i].q L1[i].H.length L1[i].c)) := by
          intro w' hb'
          obtain ⟨b9, o9, hq9, -, -, u1, -, hr9, -⟩ := HR1.out.keep hb' i hi1
          cases hq9
          exact ⟨hr9.wide hb'.size, u1⟩
        clear hle hle' hm0 hls1 hc1 hc2 ht hrh HT
        generalize L1[i].q = lq at *
        generalize L1[i].c = lc at *
        generalize L1[i].H = HH at *
        obtain ⟨ln, hln⟩ : ∃ ln, HH.length = ln := ⟨_, rfl⟩
        have HLn : Hid (HH.length = ln) := hln
        rw [hln] at y1 CL hhl
        clear hln
        go_wp2_with fail
        refine CL.out.mono ?_
        rintro e w1 ⟨vin, rfl, ho1, hb1⟩
        dsimp only
        obtain ⟨qin, cin, hvin, hrin⟩ := OwnH.rd ho1
        rw [HLn.out] at hvin
        subst hvin
        have HO1 : Hid (InS w1 wq0.heap.size 52 4 (.slice qin ln cin) ln) := by rw [← HLn.out]; rw [← HLn.out] at ho1; exact InS.of ho1
        have HB1 : Hid (Below wq0.heap.size wq0 w1) := hb1
        have HG1 : Hid (Gp w1 ga (ls + 1) Y) := HTd.out.a.g.on hb1
        have CP : Hid (Calls _ _ _ _ _) := HC2.out w1 qin cin HG1.out hrin
        rw [HLn.out] at CP
        clear ho1 hb1 hrin CL HC2 y0 y1 y2
        go_wp2_with fail
        refine CP.out.mono ?_
        rintro e w2 ⟨Y1, rfl, hg2, hm2, hf2, hn2⟩
        dsimp only
        have HY1 : Hid (Y1.map (fun y => (y.x.t, y.x.H)) = MM ∧ ∀ y ∈ Y1, y ∈ Y ∨ (wq0.heap.size ≤ y.b ∧ wq0.heap.size ≤ y.ch)) := by
          refine ⟨hm2, fun y hy => ?_⟩
          rcases hn2 y hy with h9 | h9
          · exact .inl h9
          · exact .inr ⟨Nat.le_trans HB1.out.size h9.1, Nat.le_trans HB1.out.size h9.2⟩
        have HZ2 : Hid (Gp w2 ga (ls1 + 1) Y1 ∧ Frm wq0 w2 (fun k => k = ga) ∧ InS w2 wq0.heap.size 52 4 (.slice qin ln cin) ln) := by
          refine ⟨hg2, (Frm.of_below HB1.out).trans hf2 (fun k hk => .inl hk), ?_⟩
          obtain ⟨p8, c8, e8, hin⟩ := HO1.out
          refine ⟨p8, c8, e8, fun h0 => ?_⟩
          obtain ⟨g8, cs8, k1, k2, k3, k4⟩ := hin h0
          obtain ⟨xb8, pp8, cc8, kg, -⟩ := HG1.out
          exact ⟨g8, cs8, k1, k2, blk_frm k3 hf2 (only_gb kg) (by decide) (by decide), k4⟩
        clear hg2 hm2 hf2 hn2 CP HO1 HB1 HG1
        go_upto_region 12 with fail
        go_loopw [11] (fun sj wq => ∃ j : Nat, j ≤ ln ∧ sj = .int .i64 (j : Int) ∧ Hid (Gp wq ga (ls1 + 1) Y1 ∧ Frm wq0 wq (fun k => k = ga) ∧ InS wq wq0.heap.size 52 4 (.slice qin ln cin) ln)) (fun sj _ => ((ln : Int) - intOf sj).toNat)
        case atStart => exact ⟨0, by omega, rfl, HZ2⟩
        case round =>
          clear HZ2
          obtain ⟨j, hj, rfl, HJ⟩ := hrel
          rcases Nat.lt_or_eq_of_le hj with hjlt | hjeq
          · have g7 : decide ((j : Int) < (ln : Int)) = true := by simp; omega
            have gj : (j : Int) < (ln : Int) := by omega
            obtain ⟨hgj, hfj, p8, c8, e8, hin⟩ := HJ.out
            injection e8 with e81 _ _
            subst e81
            obtain ⟨gt, cs, hpt, hgt, hbk, hcs⟩ := hin (by omega)
            subst hpt
            have t0 := hbk.cell (i := j * 4) (Array.getElem?_eq_getElem (by omega))
            have t1 := hbk.cell (i := j * 4 + 1) (Array.getElem?_eq_getElem (by omega))
            have t2 := hbk.cell (i := j * 4 + 2) (Array.getElem?_eq_getElem (by omega))
            have t3 := hbk.cell (i := j * 4 + 3) (Array.getElem?_eq_getElem (by omega))
            have z0 := hbk.frozen (j * 4)
            have z1 := hbk.frozen (j * 4 + 1)
            have z2 := hbk.frozen (j * 4 + 2)
            have z3 := hbk.frozen (j * 4 + 3)
            have HJ3 : Hid (Gp ((((wr.setCell ⟨gt, j * 4, none⟩ (.string ⟨#[]⟩)).setCell ⟨gt, j * 4 + 1, none⟩ (.string ⟨#[]⟩)).setCell ⟨gt, j * 4 + 2, none⟩ (.bool true)).setCell ⟨gt, j * 4 + 3, none⟩ (.bool true)) ga (ls1 + 1) Y1 ∧ Frm wq0 ((((wr.setCell ⟨gt, j * 4, none⟩ (.string ⟨#[]⟩)).setCell ⟨gt, j * 4 + 1, none⟩ (.string ⟨#[]⟩)).setCell ⟨gt, j * 4 + 2, none⟩ (.bool true)).setCell ⟨gt, j * 4 + 3, none⟩ (.bool true)) (fun k => k = ga) ∧ InS ((((wr.setCell ⟨gt, j * 4, none⟩ (.string ⟨#[]⟩)).setCell ⟨gt, j * 4 + 1, none⟩ (.string ⟨#[]⟩)).setCell ⟨gt, j * 4 + 2, none⟩ (.bool true)).setCell ⟨gt, j * 4 + 3, none⟩ (.bool true)) wq0.heap.size 52 4 (.slice (some ⟨gt, 0, none⟩) ln cin) ln) := by
              have hf : Frm wr ((((wr.setCell ⟨gt, j * 4, none⟩ (.string ⟨#[]⟩)).setCell ⟨gt, j * 4 + 1, none⟩ (.string ⟨#[]⟩)).setCell ⟨gt, j * 4 + 2, none⟩ (.bool true)).setCell ⟨gt, j * 4 + 3, none⟩ (.bool true)) (fun k => k = gt) := (((frm_set wr gt (j * 4) _ (F := fun k => k = gt) (.inl rfl)).trans (frm_set _ gt (j * 4 + 1) _ (F := fun k => k = gt) (.inl rfl)) (fun k hk => .inl hk)).trans (frm_set _ gt (j * 4 + 2) _ (F := fun k => k = gt) (.inl rfl)) (fun k hk => .inl hk)).trans (frm_set _ gt (j * 4 + 3) _ (F := fun k => k = gt) (.inl rfl)) (fun k hk => .inl hk)
              refine ⟨hgj.hold hbk hf, hfj.trans hf (fun k hk => .inr (by rw [hk]; exact hgt)), _, _, rfl, fun _ => ⟨gt, _, rfl, hgt, (((hbk.set (j * 4) _).set (j * 4 + 1) _).set (j * 4 + 2) _).set (j * 4 + 3) _, ?_⟩⟩
              simp only [Array.size_setIfInBounds]
              exact hcs
            generalize cs[j * 4] = u90 at *
            generalize cs[j * 4 + 1] = u91 at *
            generalize cs[j * 4 + 2] = u92 at *
            generalize cs[j * 4 + 3] = u93 at *
            clear hin hgt hbk hcs HJ hgj hfj
            go_wp2_with fail
            go_roundw
            case rel => exact ⟨j + 1, by omega, by go_num, HJ3⟩
            case measure => simp [intOf]; omega
          · have g7 : decide ((j : Int) < (ln : Int)) = false := by simp; omega
            have hdr : Below wr.heap.size wr wr.drew := (Below.refl _ _).drew
            have HGd : Hid (Gp wr.drew ga (ls1 + 1) Y1) := HJ.out.1.on hdr
            have HFd : Hid (Frm wq0 wr.drew (fun k => k = ga)) := HJ.out.2.1.drew
            have HOn : Hid (OnlyTG wq0 (fun k => k = ga)) := by
              obtain ⟨xb8, pp8, cc8, kg, -⟩ := HTd.out.a.g
              exact only_gb kg
            have HXd : Hid (Blk wr.drew ma #[.slice q0 m0 c0, .int .u64 ((ls : Nat) : Int)] 28) := blk_frm HTd.out.xa HFd.out HOn.out (by decide) (by decide)
            have HDd : Hid (DkL wr.drew 0 (.slice q0 m0 c0) D) := HTd.out.a.d.frm HFd.out HOn.out
            have hbw : Below w.heap.size w wr.drew := HTd.out.lo.trans (HFd.out.below HTd.out.lo.size (fun k hk => by rw [hk]; exact HTd.out.la.1))
            obtain ⟨hrd, z1⟩ := HRH.out _ hbw
            have CTk : Hid (Calls _ _ _ _ _) := HC1.out wr.drew HDd.out hrd
            rw [HLn.out] at CTk z1
            have s0 := HXd.out.cell (i := 0) rfl
            have s1 := HXd.out.cell (i := 1) rfl
            clear hdr HJ HOn HDd hbw hrd HC1 HRH
            go_upto_region 15 with fail
            refine wp_region_any (by kernel_rfl) ?_
            change wpAny _ _ _ _ _ _ _ (World.drew _)
            generalize wr.drew = wd at *
            refine tk (v := ?_) 1 rfl ?_ ?_
            rotate_left
            focus
              intro w9
              go_simp
              try with_reducible rfl
            try simp only [aP]
            refine tk (v := ?_) 2 rfl ?_ ?_
            rotate_left
            focus
              intro w9
              go_simp
              try with_reducible rfl
            try simp only [aP]
            refine tk (v := ?_) 3 rfl ?_ ?_
            rotate_left
            focus
              intro w9
              go_simp
              try with_reducible rfl
            try simp only [aP]
            refine tk (v := ?_) 4 rfl ?_ ?_
            rotate_left
            focus
              intro w9
              go_simp
              try with_reducible rfl
            try simp only [aP]
            apply later5 (fun (q5 : Option Addr) (m5 : Nat) (c5 : Nat) (D5 : List Dk) (w5 : World) => Hid (DkL w5 0 (.slice q5 m5 c5) D5 ∧ D5.map (fun d => (d.t, d.H)) = MM ∧ StpD D D5 ∧ Below wd.heap.size wd w5))
            intro hs0_5_6_11
            apply later5 (fun (q5 : Option Addr) (m5 : Nat) (c5 : Nat) (D5 : List Dk) (w5 : World) => Hid (DkL w5 0 (.slice q5 m5 c5) D5 ∧ D5.map (fun d => (d.t, d.H)) = MM ∧ StpD D D5 ∧ Below wd.heap.size wd w5))
            intro hs0_5_6
            apply later0
            intro hs0_5
            apply later0
            intro hs5
            apply later0
            intro hs0
            · refine wpAny_ready (rs := [0, 5]) (by kernel_rfl) (by simp) ?_
              refine anyN_cons 0 rfl (by rfl) (fun K hK => ?_) (anyN_cons 5 rfl (by rfl) (fun K hK => ?_) AllReady.nil)
              · go_simp
                refine hK.out _ _ ?_
                clear hK K
                try simp only [aP]
                exact hs0
              · go_simp
                refine hK.out _ _ ?_
                clear hK K
                try simp only [aP]
                exact hs5
            · refine wpAny_ready (rs := [5]) (by kernel_rfl) (by simp) ?_
              refine anyN_cons 5 rfl (by rfl) (fun K hK => ?_) AllReady.nil
              go_simp
              refine hK.out _ _ ?_
              clear hK K
              try simp only [aP]
              exact hs0_5
            · refine wpAny_ready (rs := [0]) (by kernel_rfl) (by simp) ?_
              refine anyN_cons 0 rfl (by rfl) (fun K hK => ?_) AllReady.nil
              go_simp
              refine hK.out _ _ ?_
              clear hK K
              try simp only [aP]
              exact hs0_5
            · refine wpAny_ready (rs := [6]) (by kernel_rfl) (by simp) ?_
              refine anyN_cons 6 rfl (by rfl) (fun K hK => ?_) AllReady.nil
              go_simp
              refine CTk.out.mono ?_
              rintro e w5 ⟨v5, D5, rfl, hd5, hm5', hs5, hb5⟩
              dsimp only
              obtain ⟨q5, c5, hv5, -⟩ := hd5.rd
              obtain ⟨m5, hm5⟩ : ∃ m5, D5.length = m5 := ⟨_, rfl⟩
              rw [hm5] at hv5
              subst hv5
              have H5 : Hid (DkL w5 0 (.slice q5 m5 c5) D5 ∧ D5.map (fun d => (d.t, d.H)) = MM ∧ StpD D D5 ∧ Below wd.heap.size wd w5) := ⟨hd5, hm5', hs5, hb5⟩
              clear hd5 hm5' hs5 hb5 hm5
              refine hK.out _ _ ?_
              clear hK K
              try simp only [aP]
              refine tk (v := ?_) 7 rfl ?_ ?_
              rotate_left
              focus
                intro w9
                go_simp
                try with_reducible rfl
              try simp only [aP]
              refine tk (v := ?_) 8 rfl ?_ ?_
              rotate_left
              focus
                intro w9
                go_simp
                try with_reducible rfl
              try simp only [aP]
              refine tk (v := ?_) 9 rfl ?_ ?_
              rotate_left
              focus
                intro w9
                go_simp
                try with_reducible rfl
              try simp only [aP]
              refine tk (v := ?_) 10 rfl ?_ ?_
              rotate_left
              focus
                intro w9
                go_simp
                try with_reducible rfl
              try simp only [aP]
              exact hs0_5_6 q5 m5 c5 D5 w5 H5
            · intro q5 m5 c5 D5 w5 H5
              have HM5 : Hid (Blk w5 ma #[.slice q0 m0 c0, .int .u64 (ls : Nat)] 28) := HXd.out.on H5.out.2.2.2
              have r0 := HM5.out.cell (i := 0) rfl
              have r1 := HM5.out.cell (i := 1) rfl
              have f0 := HM5.out.frozen 0
              have f1 := HM5.out.frozen 1
              refine wpAny_ready (rs := [11]) (by kernel_rfl) (by simp) ?_
              refine anyN_cons 11 rfl (by rfl) (fun K hK => ?_) AllReady.nil
              go_simp
              refine hK.out _ _ ?_
              clear hK K
              try simp only [aP]
              exact hs0_5_6_11 q5 m5 c5 D5 w5 H5
            · intro q5 m5 c5 D5 w5 H5
              refine wpAny_done (by kernel_rfl) ?_ _
              have HT6 : Hid (TwS w ((w5.setCell ⟨ma, 0, none⟩ (.slice q5 m5 c5)).setCell ⟨ma, 1, none⟩ (.int .u64 (ls1 : Nat))) ga gb ma mb (i + 1) i) := by
                have hdo : DoR wq0 w5 ga Y Y1 D D5 := by
                  refine ⟨?_, HY1.out.2, H5.out.2.2.1⟩
                  exact (HFd.out.trans (Frm.of_below (F := fun k => k = ga) H5.out.2.2.2) (fun k hk => .inl hk)).mono (fun k hk => .inl (.inl hk))
                have hpg : PG w5 ga ls1 (.slice q5 m5 c5) Y1 D5 := ⟨HGd.out.on H5.out.2.2.2, H5.out.1, H5.out.2.1.trans HY1.out.1.symm⟩
                have hM := HXd.out.on H5.out.2.2.2
                have hf : Frm w5 ((w5.setCell ⟨ma, 0, none⟩ (.slice q5 m5 c5)).setCell ⟨ma, 1, none⟩ (.int .u64 (ls1 : Nat))) (fun k => k = ma) := (frm_set w5 _ 0 _ (F := fun k => k = ma) (.inl rfl)).trans (frm_set _ _ 1 _ (F := fun k => k = ma) (.inl rfl)) (fun k hk => .inl hk)
                exact ⟨_, ls1, Y1, D5, _, _, _, _, HTd.out.does hpg hdo hf ((hM.set 0 _).set 1 _), by have := HLs.out; have := HL1.out; omega, HLs.out.2⟩
              clear HTd H5 HLs HL1 HY1 HFd HGd HXd
              generalize ((w5.setCell ⟨ma, 0, none⟩ (.slice q5 m5 c5)).setCell ⟨ma, 1, none⟩ (.int .u64 (ls1 : Nat))) = w6 at *
              have HT : Hid (TwS w w6 ga gb ma mb (i + 1) i) := HT6
              clear HT6
              by_cases h2 : i < n2
              · have hi2 : i < L2.length := by rw [HN2.out]; exact h2
                have g2 : decide ((i : Int) < (n2 : Int)) = true := by simp; omega
                have gi2 : (i : Int) < (n2 : Int) := by omega
                have HT2 : Hid (TwS w w6 gb ga mb ma i (i + 1)) := HT.out.swap
                clear HT
                have HT : Hid (TwS w w6 gb ga mb ma i (i + 1)) := HT2
                clear HT2
                have hdr : Below w6.heap.size w6 w6.drew := (Below.refl _ _).drew
                obtain ⟨v, ls, Y, D, v', ls', Y', D', ht, hle, hle'⟩ := HT.out.on hdr
                obtain ⟨q0, c0, hv, -⟩ := ht.a.d.rd
                obtain ⟨m0, hm0⟩ : ∃ m0, D.length = m0 := ⟨_, rfl⟩
                rw [hm0] at hv
                subst hv
                have HTd : Hid (Tw w w6.drew gb ga mb ma (.slice q0 m0 c0) ls Y D v' ls' Y' D') := ht
                have HLs : Hid (ls ≤ i ∧ ls' ≤ (i + 1)) := ⟨hle, hle'⟩
                obtain ⟨b3, o3, hq3, -, z0, z1, z2, hrh, hhl⟩ := HR2.out.keep ht.lo i hi2
                subst hq3
                have CD : Hid (Calls _ _ _ _ _) := does_any gb ls L2[i].c L2[i].kd L2[i].nn L2[i].q L2[i].H (.slice q0 m0 c0) Y D w6.drew ht.a (hrh.wide ht.lo.size) hhl (by have := HIb.out; omega)
                have s0 := ht.xa.cell (i := 0) rfl
                have s1 := ht.xa.cell (i := 1) rfl
                clear hdr ht hle hle' hm0 hrh hhl HT
                generalize L2[i].kd = kd3 at *
                generalize L2[i].nn = nn3 at *
                generalize L2[i].q = lq3 at *
                generalize L2[i].c = lc3 at *
                generalize L2[i].H.length = ln3 at *
                go_upto_region 19 with fail
                refine wp_region_any (by kernel_rfl) ?_
                change wpAny _ _ _ _ _ _ _ (World.drew _)
                generalize w6.drew = wd at *
                refine tk (v := ?_) 0 rfl ?_ ?_
                rotate_left
                focus
                  intro w9
                  go_simp
                  try with_reducible rfl
                try simp only [aP]
                refine tk (v := ?_) 2 rfl ?_ ?_
                rotate_left
                focus
                  intro w9
                  go_simp
                  try with_reducible rfl
                try simp only [aP]
                refine tk (v := ?_) 3 rfl ?_ ?_
                rotate_left
                focus
                  intro w9
                  go_simp
                  try with_reducible rfl
                try simp only [aP]
                refine tk (v := ?_) 4 rfl ?_ ?_
                rotate_left
                focus
                  intro w9
                  go_simp
                  try with_reducible rfl
                try simp only [aP]
                apply later7 (fun (q5 : Option Addr) (m5 : Nat) (c5 : Nat) (ls5 : Nat) (Y5 : List Tkr) (D5 : List Dk) (w5 : World) => Hid (PG w5 gb ls5 (.slice q5 m5 c5) Y5 D5 ∧ ls5 ≤ ls + 1 ∧ DoR wd w5 gb Y Y5 D D5))
                intro hs1_5_6_10
                apply later7 (fun (q5 : Option Addr) (m5 : Nat) (c5 : Nat) (ls5 : Nat) (Y5 : List Tkr) (D5 : List Dk) (w5 : World) => Hid (PG w5 gb ls5 (.slice q5 m5 c5) Y5 D5 ∧ ls5 ≤ ls + 1 ∧ DoR wd w5 gb Y Y5 D D5))
                intro hs1_5_6
                apply later0
                intro hs1_5
                apply later0
                intro hs5
                apply later0
                intro hs1
                · refine wpAny_ready (rs := [1, 5]) (by kernel_rfl) (by simp) ?_
                  refine anyN_cons 1 rfl (by rfl) (fun K hK => ?_) (anyN_cons 5 rfl (by rfl) (fun K hK => ?_) AllReady.nil)
                  · go_simp
                    refine hK.out _ _ ?_
                    clear hK K
                    try simp only [aP]
                    exact hs1
                  · go_simp
                    refine hK.out _ _ ?_
                    clear hK K
                    try simp only [aP]
                    exact hs5
                · refine wpAny_ready (rs := [5]) (by kernel_rfl) (by simp) ?_
                  refine anyN_cons 5 rfl (by rfl) (fun K hK => ?_) AllReady.nil
                  go_simp
                  refine hK.out _ _ ?_
                  clear hK K
                  try simp only [aP]
                  exact hs1_5
                · refine wpAny_ready (rs := [1]) (by kernel_rfl) (by simp) ?_
                  refine anyN_cons 1 rfl (by rfl) (fun K hK => ?_) AllReady.nil
                  go_simp
                  refine hK.out _ _ ?_
                  clear hK K
                  try simp only [aP]
                  exact hs1_5
                · refine wpAny_ready (rs := [6]) (by kernel_rfl) (by simp) ?_
                  refine anyN_cons 6 rfl (by rfl) (fun K hK => ?_) AllReady.nil
                  go_simp
                  refine CD.out.mono ?_
                  rintro e w5 ⟨v5, ls5, Y5, D5, rfl, hp5, hl5, hr5⟩
                  dsimp only
                  obtain ⟨q5, c5, hv5, -⟩ := hp5.d.rd
                  obtain ⟨m5, hm5⟩ : ∃ m5, D5.length = m5 := ⟨_, rfl⟩
                  rw [hm5] at hv5
                  subst hv5
                  have H5 : Hid (PG w5 gb ls5 (.slice q5 m5 c5) Y5 D5 ∧ ls5 ≤ ls + 1 ∧ DoR wd w5 gb Y Y5 D D5) := ⟨hp5, hl5, hr5⟩
                  clear hp5 hl5 hr5 hm5
                  refine hK.out _ _ ?_
                  clear hK K
                  try simp only [aP]
                  refine tk (v := ?_) 7 rfl ?_ ?_
                  rotate_left
                  focus
                    intro w9
                    go_simp
                    try with_reducible rfl
                  try simp only [aP]
                  refine tk (v := ?_) 8 rfl ?_ ?_
                  rotate_left
                  focus
                    intro w9
                    go_simp
                    try with_reducible rfl
                  try simp only [aP]
                  refine tk (v := ?_) 9 rfl ?_ ?_
                  rotate_left
                  focus
                    intro w9
                    go_simp
                    try with_reducible rfl
                  try simp only [aP]
                  exact hs1_5_6 q5 m5 c5 ls5 Y5 D5 w5 H5
                · intro q5 m5 c5 ls5 Y5 D5 w5 H5
                  have HM5 : Hid (Blk w5 mb #[.slice q0 m0 c0, .int .u64 (ls : Nat)] 28) := HTd.out.box H5.out.2.2
                  have r0 := HM5.out.cell (i := 0) rfl
                  have r1 := HM5.out.cell (i := 1) rfl
                  have f0 := HM5.out.frozen 0
                  have f1 := HM5.out.frozen 1
                  refine wpAny_ready (rs := [10]) (by kernel_rfl) (by simp) ?_
                  refine anyN_cons 10 rfl (by rfl) (fun K hK => ?_) AllReady.nil
                  go_simp
                  refine hK.out _ _ ?_
                  clear hK K
                  try simp only [aP]
                  exact hs1_5_6_10 q5 m5 c5 ls5 Y5 D5 w5 H5
                · intro q5 m5 c5 ls5 Y5 D5 w5 H5
                  refine wpAny_done (by kernel_rfl) ?_ _
                  have HT6 : Hid (TwS w ((w5.setCell ⟨mb, 0, none⟩ (.slice q5 m5 c5)).setCell ⟨mb, 1, none⟩ (.int .u64 (ls5 : Nat))) gb ga mb ma (i + 1) (i + 1)) := by
                    have hM := HTd.out.box H5.out.2.2
                    have hf : Frm w5 ((w5.setCell ⟨mb, 0, none⟩ (.slice q5 m5 c5)).setCell ⟨mb, 1, none⟩ (.int .u64 (ls5 : Nat))) (fun k => k = mb) := (frm_set w5 _ 0 _ (F := fun k => k = mb) (.inl rfl)).trans (frm_set _ _ 1 _ (F := fun k => k = mb) (.inl rfl)) (fun k hk => .inl hk)
                    exact ⟨_, ls5, Y5, D5, _, _, _, _, HTd.out.does H5.out.1 H5.out.2.2 hf ((hM.set 0 _).set 1 _), by have := H5.out.2.1; have := HLs.out; omega, HLs.out.2⟩
                  clear HTd H5 HLs
                  generalize ((w5.setCell ⟨mb, 0, none⟩ (.slice q5 m5 c5)).setCell ⟨mb, 1, none⟩ (.int .u64 (ls5 : Nat))) = w6 at *
                  have HT : Hid (TwS w w6 ga gb ma mb (i + 1) (i + 1)) := HT6.out.swap
                  clear HT6
                  obtain ⟨v7, ls7, Y7, D7, v7', ls7', Y7', D7', ht7, hle7, hle7'⟩ := HT.out
                  have CT : Hid (Calls _ _ _ _ _) := tickets_any ga (ls7 + 1) Y7 w6 ht7.a.g
                  obtain ⟨tn, htn⟩ : ∃ tn, (Y7.map (fun y => y.x.t)).length = tn := ⟨_, rfl⟩
                  have HTn : Hid ((Y7.map (fun y => y.x.t)).length = tn) := htn
                  have htl : tn ≤ 256 := by rw [← htn, List.length_map]; exact ht7.a.g.inv.2
                  clear ht7 hle7 hle7' htn
                  go_wp2_with fail
                  refine CT.out.mono ?_
                  rintro e w7 ⟨vt, rfl, ho7, hb7⟩
                  dsimp only
                  have HO7 : Hid (InS w7 w6.heap.size 26 1 vt tn) := by rw [← HTn.out]; exact InS.of ho7
                  have HB7 : Hid (Below w6.heap.size w6 w7) := hb7
                  clear ho7 hb7 CT
                  obtain ⟨pt, ct, hvt, -⟩ := HO7.out
                  subst hvt
                  have HZ7 : Hid (InS w7 w6.heap.size 26 1 (.slice pt tn ct) tn ∧ Below w6.heap.size w6 w7) := ⟨HO7.out, HB7.out⟩
                  clear HO7 HB7
                  go_upto_region 22 with fail
                  go_loopw [13] (fun sj wq => ∃ j : Nat, j ≤ tn ∧ sj = .int .i64 (j : Int) ∧ Hid (InS wq w6.heap.size 26 1 (.slice pt tn ct) tn ∧ Below w6.heap.size w6 wq)) (fun sj _ => ((tn : Int) - intOf sj).toNat)
                  case atStart => exact ⟨0, by omega, rfl, HZ7⟩
                  case round =>
                    clear HZ7
                    obtain ⟨j, hj, rfl, HJ⟩ := hrel
                    rcases Nat.lt_or_eq_of_le hj with hjlt | hjeq
                    · have g7 : decide ((j : Int) < (tn : Int)) = true := by simp; omega
                      have gj : (j : Int) < (tn : Int) := by omega
                      obtain ⟨⟨p8, c8, e8, hin⟩, hbw⟩ := HJ.out
                      injection e8 with e81 _ _
                      subst e81
                      obtain ⟨gt, cs, hpt, hgt, hbk, hcs⟩ := hin (by omega)
                      subst hpt
                      have hjc : j < cs.size := by omega
                      have t0 := hbk.cell (i := j) (Array.getElem?_eq_getElem hjc)
                      have t1 := hbk.frozen j
                      have HJ3 : Hid (InS (wr.setCell ⟨gt, j, none⟩ (.int .u64 77)) w6.heap.size 26 1 (.slice (some ⟨gt, 0, none⟩) tn ct) tn ∧ Below w6.heap.size w6 (wr.setCell ⟨gt, j, none⟩ (.int .u64 77))) := by
                        refine ⟨⟨_, _, rfl, fun _ => ⟨gt, _, rfl, hgt, hbk.set j _, by rw [Array.size_setIfInBounds]; exact hcs⟩⟩, ?_⟩
                        exact hbw.trans ((frm_set wr gt j _ (F := fun k => k = gt) (.inl rfl)).below hbw.size (fun k hk => by rw [hk]; exact hgt))
                      generalize cs[j] = u9 at *
                      clear hin hbw hgt hbk hcs hjc HJ
                      go_wp2_with fail
                      go_roundw
                      case rel => exact ⟨j + 1, by omega, by go_num, HJ3⟩
                      case measure => simp [intOf]; omega
                    · have g7 : decide ((j : Int) < (tn : Int)) = false := by simp; omega
                      have HT9 : Hid (TwS w wr ga gb ma mb (i + 1) (i + 1)) := HT.out.on HJ.out.2
                      clear HJ
                      go_wp2_with fail
                      go_roundw
                      case rel => exact ⟨i + 1, by omega, by go_num, HT9⟩
                      case measure => simp [intOf]; omega
              · have g2 : decide ((i : Int) < (n2 : Int)) = false := by simp; omega
                have HT2 : Hid (TwS w w6 ga gb ma mb (i + 1) (i + 1)) := HT.out.mono (Nat.le_refl _) (Nat.le_succ _)
                clear HT
                have HT : Hid (TwS w w6 ga gb ma mb (i + 1) (i + 1)) := HT2
                clear HT2
                obtain ⟨v7, ls7, Y7, D7, v7', ls7', Y7', D7', ht7, hle7, hle7'⟩ := HT.out
                have CT : Hid (Calls _ _ _ _ _) := tickets_any ga (ls7 + 1) Y7 w6 ht7.a.g
                obtain ⟨tn, htn⟩ : ∃ tn, (Y7.map (fun y => y.x.t)).length = tn := ⟨_, rfl⟩
                have HTn : Hid ((Y7.map (fun y => y.x.t)).length = tn) := htn
                have htl : tn ≤ 256 := by rw [← htn, List.length_map]; exact ht7.a.g.inv.2
                clear ht7 hle7 hle7' htn
                go_wp2_with fail
                refine CT.out.mono ?_
                rintro e w7 ⟨vt, rfl, ho7, hb7⟩
                dsimp only
                have HO7 : Hid (InS w7 w6.heap.size 26 1 vt tn) := by rw [← HTn.out]; exact InS.of ho7
                have HB7 : Hid (Below w6.heap.size w6 w7) := hb7
                clear ho7 hb7 CT
                obtain ⟨pt, ct, hvt, -⟩ := HO7.out
                subst hvt
                have HZ7 : Hid (InS w7 w6.heap.size 26 1 (.slice pt tn ct) tn ∧ Below w6.heap.size w6 w7) := ⟨HO7.out, HB7.out⟩
                clear HO7 HB7
                go_upto_region 22 with fail
                go_loopw [13] (fun sj wq => ∃ j : Nat, j ≤ tn ∧ sj = .int .i64 (j : Int) ∧ Hid (InS wq w6.heap.size 26 1 (.slice pt tn ct) tn ∧ Below w6.heap.size w6 wq)) (fun sj _ => ((tn : Int) - intOf sj).toNat)
                case atStart => exact ⟨0, by omega, rfl, HZ7⟩
                case round =>
                  clear HZ7
                  obtain ⟨j, hj, rfl, HJ⟩ := hrel
                  rcases Nat.lt_or_eq_of_le hj with hjlt | hjeq
                  · have g7 : decide ((j : Int) < (tn : Int)) = true := by simp; omega
                    have gj : (j : Int) < (tn : Int) := by omega
                    obtain ⟨⟨p8, c8, e8, hin⟩, hbw⟩ := HJ.out
                    injection e8 with e81 _ _
                    subst e81
                    obtain ⟨gt, cs, hpt, hgt, hbk, hcs⟩ := hin (by omega)
                    subst hpt
                    have hjc : j < cs.size := by omega
                    have t0 := hbk.cell (i := j) (Array.getElem?_eq_getElem hjc)
                    have t1 := hbk.frozen j
                    have HJ3 : Hid (InS (wr.setCell ⟨gt, j, none⟩ (.int .u64 77)) w6.heap.size 26 1 (.slice (some ⟨gt, 0, none⟩) tn ct) tn ∧ Below w6.heap.size w6 (wr.setCell ⟨gt, j, none⟩ (.int .u64 77))) := by
                      refine ⟨⟨_, _, rfl, fun _ => ⟨gt, _, rfl, hgt, hbk.set j _, by rw [Array.size_setIfInBounds]; exact hcs⟩⟩, ?_⟩
                      exact hbw.trans ((frm_set wr gt j _ (F := fun k => k = gt) (.inl rfl)).below hbw.size (fun k hk => by rw [hk]; exact hgt))
                    generalize cs[j] = u9 at *
                    clear hin hbw hgt hbk hcs hjc HJ
                    go_wp2_with fail
                    go_roundw
                    case rel => exact ⟨j + 1, by omega, by go_num, HJ3⟩
                    case measure => simp [intOf]; omega
                  · have g7 : decide ((j : Int) < (tn : Int)) = false := by simp; omega
                    have HT9 : Hid (TwS w wr ga gb ma mb (i + 1) (i + 1)) := HT.out.on HJ.out.2
                    clear HJ
                    go_wp2_with fail
                    go_roundw
                    case rel => exact ⟨i + 1, by omega, by go_num, HT9⟩
                    case measure => simp [intOf]; omega
      · have hk' : ¬ L1[i].kd = 0 := hk
        clear hk hrh hhl
        generalize hkd : L1[i].kd = kd0 at y0 hk'
        have HKd : Hid (L1[i].kd = kd0) := hkd
        clear hkd y1 y2
        have hdr : Below wr.heap.size wr wr.drew := (Below.refl _ _).drew
        obtain ⟨v, ls, Y, D, v', ls', Y', D', ht, hle, hle'⟩ := HT.out.on hdr
        obtain ⟨q0, c0, hv, -⟩ := ht.a.d.rd
        obtain ⟨m0, hm0⟩ : ∃ m0, D.length = m0 := ⟨_, rfl⟩
        rw [hm0] at hv
        subst hv
        have HTd : Hid (Tw w wr.drew ga gb ma mb (.slice q0 m0 c0) ls Y D v' ls' Y' D') := ht
        have HLs : Hid (ls ≤ i ∧ ls' ≤ i) := ⟨hle, hle'⟩
        obtain ⟨b3, o3, hq3, -, z0, z1, z2, hrh, hhl⟩ := HR1.out.keep ht.lo i hi1
        cases hq3
        have CD : Hid (Calls _ _ _ _ _) := does_any ga ls L1[i].c L1[i].kd L1[i].nn L1[i].q L1[i].H (.slice q0 m0 c0) Y D wr.drew ht.a (hrh.wide ht.lo.size) hhl (by have := HIb.out; omega)
        have s0 := ht.xa.cell (i := 0) rfl
        have s1 := ht.xa.cell (i := 1) rfl
        clear hdr ht hle hle' hm0 hrh hhl HT
        generalize L1[i].kd = kd3 at *
        generalize L1[i].nn = nn3 at *
        generalize L1[i].q = lq3 at *
        generalize L1[i].c = lc3 at *
        generalize L1[i].H.length = ln3 at *
        go_upto_region 17 with fail
        refine wp_region_any (by kernel_rfl) ?_
        change wpAny _ _ _ _ _ _ _ (World.drew _)
        generalize wr.drew = wd at *
        refine tk (v := ?_) 0 rfl ?_ ?_
        rotate_left
        focus
          intro w9
          go_simp
          try with_reducible rfl
        try simp only [aP]
        refine tk (v := ?_) 2 rfl ?_ ?_
        rotate_left
        focus
          intro w9
          go_simp
          try with_reducible rfl
        try simp only [aP]
        refine tk (v := ?_) 3 rfl ?_ ?_
        rotate_left
        focus
          intro w9
          go_simp
          try with_reducible rfl
        try simp only [aP]
        refine tk (v := ?_) 4 rfl ?_ ?_
        rotate_left
        focus
          intro w9
          go_simp
          try with_reducible rfl
        try simp only [aP]
        apply later7 (fun (q5 : Option Addr) (m5 : Nat) (c5 : Nat) (ls5 : Nat) (Y5 : List Tkr) (D5 : List Dk) (w5 : World) => Hid (PG w5 ga ls5 (.slice q5 m5 c5) Y5 D5 ∧ ls5 ≤ ls + 1 ∧ DoR wd w5 ga Y Y5 D D5))
        intro hs1_5_6_10
        apply later7 (fun (q5 : Option Addr) (m5 : Nat) (c5 : Nat) (ls5 : Nat) (Y5 : List Tkr) (D5 : List Dk) (w5 : World) => Hid (PG w5 ga ls5 (.slice q5 m5 c5) Y5 D5 ∧ ls5 ≤ ls + 1 ∧ DoR wd w5 ga Y Y5 D D5))
        intro hs1_5_6
        apply later0
        intro hs1_5
        apply later0
        intro hs5
        apply later0
        intro hs1
        · refine wpAny_ready (rs := [1, 5]) (by kernel_rfl) (by simp) ?_
          refine anyN_cons 1 rfl (by rfl) (fun K hK => ?_) (anyN_cons 5 rfl (by rfl) (fun K hK => ?_) AllReady.nil)
          · go_simp
            refine hK.out _ _ ?_
            clear hK K
            try simp only [aP]
            exact hs1
          · go_simp
            refine hK.out _ _ ?_
            clear hK K
            try simp only [aP]
            exact hs5
        · refine wpAny_ready (rs := [5]) (by kernel_rfl) (by simp) ?_
          refine anyN_cons 5 rfl (by rfl) (fun K hK => ?_) AllReady.nil
          go_simp
          refine hK.out _ _ ?_
          clear hK K
          try simp only [aP]
          exact hs1_5
        · refine wpAny_ready (rs := [1]) (by kernel_rfl) (by simp) ?_
          refine anyN_cons 1 rfl (by rfl) (fun K hK => ?_) AllReady.nil
          go_simp
          refine hK.out _ _ ?_
          clear hK K
          try simp only [aP]
          exact hs1_5
        · refine wpAny_ready (rs := [6]) (by kernel_rfl) (by simp) ?_
          refine anyN_cons 6 rfl (by rfl) (fun K hK => ?_) AllReady.nil
          go_simp
          refine CD.out.mono ?_
          rintro e w5 ⟨v5, ls5, Y5, D5, rfl, hp5, hl5, hr5⟩
          dsimp only
          obtain ⟨q5, c5, hv5, -⟩ := hp5.d.rd
          obtain ⟨m5, hm5⟩ : ∃ m5, D5.length = m5 := ⟨_, rfl⟩
          rw [hm5] at hv5
          subst hv5
          have H5 : Hid (PG w5 ga ls5 (.slice q5 m5 c5) Y5 D5 ∧ ls5 ≤ ls + 1 ∧ DoR wd w5 ga Y Y5 D D5) := ⟨hp5, hl5, hr5⟩
          clear hp5 hl5 hr5 hm5
          refine hK.out _ _ ?_
          clear hK K
          try simp only [aP]
          refine tk (v := ?_) 7 rfl ?_ ?_
          rotate_left
          focus
            intro w9
            go_simp
            try with_reducible rfl
          try simp only [aP]
          refine tk (v := ?_) 8 rfl ?_ ?_
          rotate_left
          focus
            intro w9
            go_simp
            try with_reducible rfl
          try simp only [aP]
          refine tk (v := ?_) 9 rfl ?_ ?_
          rotate_left
          focus
            intro w9
            go_simp
            try with_reducible rfl
          try simp only [aP]
          exact hs1_5_6 q5 m5 c5 ls5 Y5 D5 w5 H5
        · intro q5 m5 c5 ls5 Y5 D5 w5 H5
          have HM5 : Hid (Blk w5 ma #[.slice q0 m0 c0, .int .u64 (ls : Nat)] 28) := HTd.out.box H5.out.2.2
          have r0 := HM5.out.cell (i := 0) rfl
          have r1 := HM5.out.cell (i := 1) rfl
          have f0 := HM5.out.frozen 0
          have f1 := HM5.out.frozen 1
          refine wpAny_ready (rs := [10]) (by kernel_rfl) (by simp) ?_
          refine anyN_cons 10 rfl (by rfl) (fun K hK => ?_) AllReady.nil
          go_simp
          refine hK.out _ _ ?_
          clear hK K
          try simp only [aP]
          exact hs1_5_6_10 q5 m5 c5 ls5 Y5 D5 w5 H5
        · intro q5 m5 c5 ls5 Y5 D5 w5 H5
          refine wpAny_done (by kernel_rfl) ?_ _
          have HT6 : Hid (TwS w ((w5.setCell ⟨ma, 0, none⟩ (.slice q5 m5 c5)).setCell ⟨ma, 1, none⟩ (.int .u64 (ls5 : Nat))) ga gb ma mb (i + 1) i) := by
            have hM := HTd.out.box H5.out.2.2
            have hf : Frm w5 ((w5.setCell ⟨ma, 0, none⟩ (.slice q5 m5 c5)).setCell ⟨ma, 1, none⟩ (.int .u64 (ls5 : Nat))) (fun k => k = ma) := (frm_set w5 _ 0 _ (F := fun k => k = ma) (.inl rfl)).trans (frm_set _ _ 1 _ (F := fun k => k = ma) (.inl rfl)) (fun k hk => .inl hk)
            exact ⟨_, ls5, Y5, D5, _, _, _, _, HTd.out.does H5.out.1 H5.out.2.2 hf ((hM.set 0 _).set 1 _), by have := H5.out.2.1; have := HLs.out; omega, HLs.out.2⟩
          clear HTd H5 HLs
          generalize ((w5.setCell ⟨ma, 0, none⟩ (.slice q5 m5 c5)).setCell ⟨ma, 1, none⟩ (.int .u64 (ls5 : Nat))) = w6 at *
          have HT : Hid (TwS w w6 ga gb ma mb (i + 1) i) := HT6
          clear HT6
          by_cases h2 : i < n2
          · have hi2 : i < L2.length := by rw [HN2.out]; exact h2
            have g2 : decide ((i : Int) < (n2 : Int)) = true := by simp; omega
            have gi2 : (i : Int) < (n2 : Int) := by omega
            have HT2 : Hid (TwS w w6 gb ga mb ma i (i + 1)) := HT.out.swap
            clear HT
            have HT : Hid (TwS w w6 gb ga mb ma i (i + 1)) := HT2
            clear HT2
            have hdr : Below w6.heap.size w6 w6.drew := (Below.refl _ _).drew
            obtain ⟨v, ls, Y, D, v', ls', Y', D', ht, hle, hle'⟩ := HT.out.on hdr
            obtain ⟨q0, c0, hv, -⟩ := ht.a.d.rd
            obtain ⟨m0, hm0⟩ : ∃ m0, D.length = m0 := ⟨_, rfl⟩
            rw [hm0] at hv
            subst hv
            have HTd : Hid (Tw w w6.drew gb ga mb ma (.slice q0 m0 c0) ls Y D v' ls' Y' D') := ht
            have HLs : Hid (ls ≤ i ∧ ls' ≤ (i + 1)) := ⟨hle, hle'⟩
            obtain ⟨b3, o3, hq3, -, z0, z1, z2, hrh, hhl⟩ := HR2.out.keep ht.lo i hi2
            subst hq3
            have CD : Hid (Calls _ _ _ _ _) := does_any gb ls L2[i].c L2[i].kd L2[i].nn L2[i].q L2[i].H (.slice q0 m0 c0) Y D w6.drew ht.a (hrh.wide ht.lo.size) hhl (by have := HIb.out; omega)
            have s0 := ht.xa.cell (i := 0) rfl
            have s1 := ht.xa.cell (i := 1) rfl
            clear hdr ht hle hle' hm0 hrh hhl HT
            generalize L2[i].kd = kd3 at *
            generalize L2[i].nn = nn3 at *
            generalize L2[i].q = lq3 at *
            generalize L2[i].c = lc3 at *
            generalize L2[i].H.length = ln3 at *
            go_upto_region 19 with fail
            refine wp_region_any (by kernel_rfl) ?_
            change wpAny _ _ _ _ _ _ _ (World.drew _)
            generalize w6.drew = wd at *
            refine tk (v := ?_) 0 rfl ?_ ?_
            rotate_left
            focus
              intro w9
              go_simp
              try with_reducible rfl
            try simp only [aP]
            refine tk (v := ?_) 2 rfl ?_ ?_
            rotate_left
            focus
              intro w9
              go_simp
              try with_reducible rfl
            try simp only [aP]
            refine tk (v := ?_) 3 rfl ?_ ?_
            rotate_left
            focus
              intro w9
              go_simp
              try with_reducible rfl
            try simp only [aP]
            refine tk (v := ?_) 4 rfl ?_ ?_
            rotate_left
            focus
              intro w9
              go_simp
              try with_reducible rfl
            try simp only [aP]
            apply later7 (fun (q5 : Option Addr) (m5 : Nat) (c5 : Nat) (ls5 : Nat) (Y5 : List Tkr) (D5 : List Dk) (w5 : World) => Hid (PG w5 gb ls5 (.slice q5 m5 c5) Y5 D5 ∧ ls5 ≤ ls + 1 ∧ DoR wd w5 gb Y Y5 D D5))
            intro hs1_5_6_10
            apply later7 (fun (q5 : Option Addr) (m5 : Nat) (c5 : Nat) (ls5 : Nat) (Y5 : List Tkr) (D5 : List Dk) (w5 : World) => Hid (PG w5 gb ls5 (.slice q5 m5 c5) Y5 D5 ∧ ls5 ≤ ls + 1 ∧ DoR wd w5 gb Y Y5 D D5))
            intro hs1_5_6
            apply later0
            intro hs1_5
            apply later0
            intro hs5
            apply later0
            intro hs1
            · refine wpAny_ready (rs := [1, 5]) (by kernel_rfl) (by simp) ?_
              refine anyN_cons 1 rfl (by rfl) (fun K hK => ?_) (anyN_cons 5 rfl (by rfl) (fun K hK => ?_) AllReady.nil)
              · go_simp
                refine hK.out _ _ ?_
                clear hK K
                try simp only [aP]
                exact hs1
              · go_simp
                refine hK.out _ _ ?_
                clear hK K
                try simp only [aP]
                exact hs5
            · refine wpAny_ready (rs := [5]) (by kernel_rfl) (by simp) ?_
              refine anyN_cons 5 rfl (by rfl) (fun K hK => ?_) AllReady.nil
              go_simp
              refine hK.out _ _ ?_
              clear hK K
              try simp only [aP]
              exact hs1_5
            · refine wpAny_ready (rs := [1]) (by kernel_rfl) (by simp) ?_
              refine anyN_cons 1 rfl (by rfl) (fun K hK => ?_) AllReady.nil
              go_simp
              refine hK.out _ _ ?_
              clear hK K
              try simp only [aP]
              exact hs1_5
            · refine wpAny_ready (rs := [6]) (by kernel_rfl) (by simp) ?_
              refine anyN_cons 6 rfl (by rfl) (fun K hK => ?_) AllReady.nil
              go_simp
              refine CD.out.mono ?_
              rintro e w5 ⟨v5, ls5, Y5, D5, rfl, hp5, hl5, hr5⟩
              dsimp only
              obtain ⟨q5, c5, hv5, -⟩ := hp5.d.rd
              obtain ⟨m5, hm5⟩ : ∃ m5, D5.length = m5 := ⟨_, rfl⟩
              rw [hm5] at hv5
              subst hv5
              have H5 : Hid (PG w5 gb ls5 (.slice q5 m5 c5) Y5 D5 ∧ ls5 ≤ ls + 1 ∧ DoR wd w5 gb Y Y5 D D5) := ⟨hp5, hl5, hr5⟩
              clear hp5 hl5 hr5 hm5
              refine hK.out _ _ ?_
              clear hK K
              try simp only [aP]
              refine tk (v := ?_) 7 rfl ?_ ?_
              rotate_left
              focus
                intro w9
                go_simp
                try with_reducible rfl
              try simp only [aP]
              refine tk (v := ?_) 8 rfl ?_ ?_
              rotate_left
              focus
                intro w9
                go_simp
                try with_reducible rfl
              try simp only [aP]
              refine tk (v := ?_) 9 rfl ?_ ?_
              rotate_left
              focus
                intro w9
                go_simp
                try with_reducible rfl
              try simp only [aP]
              exact hs1_5_6 q5 m5 c5 ls5 Y5 D5 w5 H5
            · intro q5 m5 c5 ls5 Y5 D5 w5 H5
              have HM5 : Hid (Blk w5 mb #[.slice q0 m0 c0, .int .u64 (ls : Nat)] 28) := HTd.out.box H5.out.2.2
              have r0 := HM5.out.cell (i := 0) rfl
              have r1 := HM5.out.cell (i := 1) rfl
              have f0 := HM5.out.frozen 0
              have f1 := HM5.out.frozen 1
              refine wpAny_ready (rs := [10]) (by kernel_rfl) (by simp) ?_
              refine anyN_cons 10 rfl (by rfl) (fun K hK => ?_) AllReady.nil
              go_simp
              refine hK.out _ _ ?_
              clear hK K
              try simp only [aP]
              exact hs1_5_6_10 q5 m5 c5 ls5 Y5 D5 w5 H5
            · intro q5 m5 c5 ls5 Y5 D5 w5 H5
              refine wpAny_done (by kernel_rfl) ?_ _
              have HT6 : Hid (TwS w ((w5.setCell ⟨mb, 0, none⟩ (.slice q5 m5 c5)).setCell ⟨mb, 1, none⟩ (.int .u64 (ls5 : Nat))) gb ga mb ma (i + 1) (i + 1)) := by
                have hM := HTd.out.box H5.out.2.2
                have hf : Frm w5 ((w5.setCell ⟨mb, 0, none⟩ (.slice q5 m5 c5)).setCell ⟨mb, 1, none⟩ (.int .u64 (ls5 : Nat))) (fun k => k = mb) := (frm_set w5 _ 0 _ (F := fun k => k = mb) (.inl rfl)).trans (frm_set _ _ 1 _ (F := fun k => k = mb) (.inl rfl)) (fun k hk => .inl hk)
                exact ⟨_, ls5, Y5, D5, _, _, _, _, HTd.out.does H5.out.1 H5.out.2.2 hf ((hM.set 0 _).set 1 _), by have := H5.out.2.1; have := HLs.out; omega, HLs.out.2⟩
              clear HTd H5 HLs
              generalize ((w5.setCell ⟨mb, 0, none⟩ (.slice q5 m5 c5)).setCell ⟨mb, 1, none⟩ (.int .u64 (ls5 : Nat))) = w6 at *
              have HT : Hid (TwS w w6 ga gb ma mb (i + 1) (i + 1)) := HT6.out.swap
              clear HT6
              obtain ⟨v7, ls7, Y7, D7, v7', ls7', Y7', D7', ht7, hle7, hle7'⟩ := HT.out
              have CT : Hid (Calls _ _ _ _ _) := tickets_any ga (ls7 + 1) Y7 w6 ht7.a.g
              obtain ⟨tn, htn⟩ : ∃ tn, (Y7.map (fun y => y.x.t)).length = tn := ⟨_, rfl⟩
              have HTn : Hid ((Y7.map (fun y => y.x.t)).length = tn) := htn
              have htl : tn ≤ 256 := by rw [← htn, List.length_map]; exact ht7.a.g.inv.2
              clear ht7 hle7 hle7' htn
              go_wp2_with fail
              refine CT.out.mono ?_
              rintro e w7 ⟨vt, rfl, ho7, hb7⟩
              dsimp only
              have HO7 : Hid (InS w7 w6.heap.size 26 1 vt tn) := by rw [← HTn.out]; exact InS.of ho7
              have HB7 : Hid (Below w6.heap.size w6 w7) := hb7
              clear ho7 hb7 CT
              obtain ⟨pt, ct, hvt, -⟩ := HO7.out
              subst hvt
              have HZ7 : Hid (InS w7 w6.heap.size 26 1 (.slice pt tn ct) tn ∧ Below w6.heap.size w6 w7) := ⟨HO7.out, HB7.out⟩
              clear HO7 HB7
              go_upto_region 22 with fail
              go_loopw [13] (fun sj wq => ∃ j : Nat, j ≤ tn ∧ sj = .int .i64 (j : Int) ∧ Hid (InS wq w6.heap.size 26 1 (.slice pt tn ct) tn ∧ Below w6.heap.size w6 wq)) (fun sj _ => ((tn : Int) - intOf sj).toNat)
              case atStart => exact ⟨0, by omega, rfl, HZ7⟩
              case round =>
                clear HZ7
                obtain ⟨j, hj, rfl, HJ⟩ := hrel
                rcases Nat.lt_or_eq_of_le hj with hjlt | hjeq
                · have g7 : decide ((j : Int) < (tn : Int)) = true := by simp; omega
                  have gj : (j : Int) < (tn : Int) := by omega
                  obtain ⟨⟨p8, c8, e8, hin⟩, hbw⟩ := HJ.out
                  injection e8 with e81 _ _
                  subst e81
                  obtain ⟨gt, cs, hpt, hgt, hbk, hcs⟩ := hin (by omega)
                  subst hpt
                  have hjc : j < cs.size := by omega
                  have t0 := hbk.cell (i := j) (Array.getElem?_eq_getElem hjc)
                  have t1 := hbk.frozen j
                  have HJ3 : Hid (InS (wr.setCell ⟨gt, j, none⟩ (.int .u64 77)) w6.heap.size 26 1 (.slice (some ⟨gt, 0, none⟩) tn ct) tn ∧ Below w6.heap.size w6 (wr.setCell ⟨gt, j, none⟩ (.int .u64 77))) := by
                    refine ⟨⟨_, _, rfl, fun _ => ⟨gt, _, rfl, hgt, hbk.set j _, by rw [Array.size_setIfInBounds]; exact hcs⟩⟩, ?_⟩
                    exact hbw.trans ((frm_set wr gt j _ (F := fun k => k = gt) (.inl rfl)).below hbw.size (fun k hk => by rw [hk]; exact hgt))
                  generalize cs[j] = u9 at *
                  clear hin hbw hgt hbk hcs hjc HJ
                  go_wp2_with fail
                  go_roundw
                  case rel => exact ⟨j + 1, by omega, by go_num, HJ3⟩
                  case measure => simp [intOf]; omega
                · have g7 : decide ((j : Int) < (tn : Int)) = false := by simp; omega
                  have HT9 : Hid (TwS w wr ga gb ma mb (i + 1) (i + 1)) := HT.out.on HJ.out.2
                  clear HJ
                  go_wp2_with fail
                  go_roundw
                  case rel => exact ⟨i + 1, by omega, by go_num, HT9⟩
                  case measure => simp [intOf]; omega
          · have g2 : decide ((i : Int) < (n2 : Int)) = false := by simp; omega
            have HT2 : Hid (TwS w w6 ga gb ma mb (i + 1) (i + 1)) := HT.out.mono (Nat.le_refl _) (Nat.le_succ _)
            clear HT
            have HT : Hid (TwS w w6 ga gb ma mb (i + 1) (i + 1)) := HT2
            clear HT2
            obtain ⟨v7, ls7, Y7, D7, v7', ls7', Y7', D7', ht7, hle7, hle7'⟩ := HT.out
            have CT : Hid (Calls _ _ _ _ _) := tickets_any ga (ls7 + 1) Y7 w6 ht7.a.g
            obtain ⟨tn, htn⟩ : ∃ tn, (Y7.map (fun y => y.x.t)).length = tn := ⟨_, rfl⟩
            have HTn : Hid ((Y7.map (fun y => y.x.t)).length = tn) := htn
            have htl : tn ≤ 256 := by rw [← htn, List.length_map]; exact ht7.a.g.inv.2
            clear ht7 hle7 hle7' htn
            go_wp2_with fail
            refine CT.out.mono ?_
            rintro e w7 ⟨vt, rfl, ho7, hb7⟩
            dsimp only
            have HO7 : Hid (InS w7 w6.heap.size 26 1 vt tn) := by rw [← HTn.out]; exact InS.of ho7
            have HB7 : Hid (Below w6.heap.size w6 w7) := hb7
            clear ho7 hb7 CT
            obtain ⟨pt, ct, hvt, -⟩ := HO7.out
            subst hvt
            have HZ7 : Hid (InS w7 w6.heap.size 26 1 (.slice pt tn ct) tn ∧ Below w6.heap.size w6 w7) := ⟨HO7.out, HB7.out⟩
            clear HO7 HB7
            go_upto_region 22 with fail
            go_loopw [13] (fun sj wq => ∃ j : Nat, j ≤ tn ∧ sj = .int .i64 (j : Int) ∧ Hid (InS wq w6.heap.size 26 1 (.slice pt tn ct) tn ∧ Below w6.heap.size w6 wq)) (fun sj _ => ((tn : Int) - intOf sj).toNat)
            case atStart => exact ⟨0, by omega, rfl, HZ7⟩
            case round =>
              clear HZ7
              obtain ⟨j, hj, rfl, HJ⟩ := hrel
              rcases Nat.lt_or_eq_of_le hj with hjlt | hjeq
              · have g7 : decide ((j : Int) < (tn : Int)) = true := by simp; omega
                have gj : (j : Int) < (tn : Int) := by omega
                obtain ⟨⟨p8, c8, e8, hin⟩, hbw⟩ := HJ.out
                injection e8 with e81 _ _
                subst e81
                obtain ⟨gt, cs, hpt, hgt, hbk, hcs⟩ := hin (by omega)
                subst hpt
                have hjc : j < cs.size := by omega
                have t0 := hbk.cell (i := j) (Array.getElem?_eq_getElem hjc)
                have t1 := hbk.frozen j
                have HJ3 : Hid (InS (wr.setCell ⟨gt, j, none⟩ (.int .u64 77)) w6.heap.size 26 1 (.slice (some ⟨gt, 0, none⟩) tn ct) tn ∧ Below w6.heap.size w6 (wr.setCell ⟨gt, j, none⟩ (.int .u64 77))) := by
                  refine ⟨⟨_, _, rfl, fun _ => ⟨gt, _, rfl, hgt, hbk.set j _, by rw [Array.size_setIfInBounds]; exact hcs⟩⟩, ?_⟩
                  exact hbw.trans ((frm_set wr gt j _ (F := fun k => k = gt) (.inl rfl)).below hbw.size (fun k hk => by rw [hk]; exact hgt))
                generalize cs[j] = u9 at *
                clear hin hbw hgt hbk hcs hjc HJ
                go_wp2_with fail
                go_roundw
                case rel => exact ⟨j + 1, by omega, by go_num, HJ3⟩
                case measure => simp [intOf]; omega
              · have g7 : decide ((j : Int) < (tn : Int)) = false := by simp; omega
                have HT9 : Hid (TwS w wr ga gb ma mb (i + 1) (i + 1)) := HT.out.on HJ.out.2
                clear HJ
                go_wp2_with fail
                go_roundw
                case rel => exact ⟨i + 1, by omega, by go_num, HT9⟩
                case measure => simp [intOf]; omega
    · by_cases h2 : i < n2
      · have g1 : decide ((i : Int) < (n1 : Int)) = false := by simp; omega
        have HT2 : Hid (TwS w wr ga gb ma mb (i + 1) i) := HT.out.mono (Nat.le_succ _) (Nat.le_refl _)
        clear HT
        have HT : Hid (TwS w wr ga gb ma mb (i + 1) i) := HT2
        clear HT2
        have hi2 : i < L2.length := by rw [HN2.out]; exact h2
        have g2 : decide ((i : Int) < (n2 : Int)) = true := by simp; omega
        have gi2 : (i : Int) < (n2 : Int) := by omega
        have HT2 : Hid (TwS w wr gb ga mb ma i (i + 1)) := HT.out.swap
        clear HT
        have HT : Hid (TwS w wr gb ga mb ma i (i + 1)) := HT2
        clear HT2
        have hdr : Below wr.heap.size wr wr.drew := (Below.refl _ _).drew
        obtain ⟨v, ls, Y, D, v', ls', Y', D', ht, hle, hle'⟩ := HT.out.on hdr
        obtain ⟨q0, c0, hv, -⟩ := ht.a.d.rd
        obtain ⟨m0, hm0⟩ : ∃ m0, D.length = m0 := ⟨_, rfl⟩
        rw [hm0] at hv
        subst hv
        have HTd : Hid (Tw w wr.drew gb ga mb ma (.slice q0 m0 c0) ls Y D v' ls' Y' D') := ht
        have HLs : Hid (ls ≤ i ∧ ls' ≤ (i + 1)) := ⟨hle, hle'⟩
        obtain ⟨b3, o3, hq3, -, z0, z1, z2, hrh, hhl⟩ := HR2.out.keep ht.lo i hi2
        subst hq3
        have CD : Hid (Calls _ _ _ _ _) := does_any gb ls L2[i].c L2[i].kd L2[i].nn L2[i].q L2[i].H (.slice q0 m0 c0) Y D wr.drew ht.a (hrh.wide ht.lo.size) hhl (by have := HIb.out; omega)
        have s0 := ht.xa.cell (i := 0) rfl
        have s1 := ht.xa.cell (i := 1) rfl
        clear hdr ht hle hle' hm0 hrh hhl HT
        generalize L2[i].kd = kd3 at *
        generalize L2[i].nn = nn3 at *
        generalize L2[i].q = lq3 at *
        generalize L2[i].c = lc3 at *
        generalize L2[i].H.length = ln3 at *
        go_upto_region 19 with fail
        refine wp_region_any (by kernel_rfl) ?_
        change wpAny _ _ _ _ _ _ _ (World.drew _)
        generalize wr.drew = wd at *
        refine tk (v := ?_) 0 rfl ?_ ?_
        rotate_left
        focus
          intro w9
          go_simp
          try with_reducible rfl
        try simp only [aP]
        refine tk (v := ?_) 2 rfl ?_ ?_
        rotate_left
        focus
          intro w9
          go_simp
          try with_reducible rfl
        try simp only [aP]
        refine tk (v := ?_) 3 rfl ?_ ?_
        rotate_left
        focus
          intro w9
          go_simp
          try with_reducible rfl
        try simp only [aP]
        refine tk (v := ?_) 4 rfl ?_ ?_
        rotate_left
        focus
          intro w9
          go_simp
          try with_reducible rfl
        try simp only [aP]
        apply later7 (fun (q5 : Option Addr) (m5 : Nat) (c5 : Nat) (ls5 : Nat) (Y5 : List Tkr) (D5 : List Dk) (w5 : World) => Hid (PG w5 gb ls5 (.slice q5 m5 c5) Y5 D5 ∧ ls5 ≤ ls + 1 ∧ DoR wd w5 gb Y Y5 D D5))
        intro hs1_5_6_10
        apply later7 (fun (q5 : Option Addr) (m5 : Nat) (c5 : Nat) (ls5 : Nat) (Y5 : List Tkr) (D5 : List Dk) (w5 : World) => Hid (PG w5 gb ls5 (.slice q5 m5 c5) Y5 D5 ∧ ls5 ≤ ls + 1 ∧ DoR wd w5 gb Y Y5 D D5))
        intro hs1_5_6
        apply later0
        intro hs1_5
        apply later0
        intro hs5
        apply later0
        intro hs1
        · refine wpAny_ready (rs := [1, 5]) (by kernel_rfl) (by simp) ?_
          refine anyN_cons 1 rfl (by rfl) (fun K hK => ?_) (anyN_cons 5 rfl (by rfl) (fun K hK => ?_) AllReady.nil)
          · go_simp
            refine hK.out _ _ ?_
            clear hK K
            try simp only [aP]
            exact hs1
          · go_simp
            refine hK.out _ _ ?_
            clear hK K
            try simp only [aP]
            exact hs5
        · refine wpAny_ready (rs := [5]) (by kernel_rfl) (by simp) ?_
          refine anyN_cons 5 rfl (by rfl) (fun K hK => ?_) AllReady.nil
          go_simp
          refine hK.out _ _ ?_
          clear hK K
          try simp only [aP]
          exact hs1_5
        · refine wpAny_ready (rs := [1]) (by kernel_rfl) (by simp) ?_
          refine anyN_cons 1 rfl (by rfl) (fun K hK => ?_) AllReady.nil
          go_simp
          refine hK.out _ _ ?_
          clear hK K
          try simp only [aP]
          exact hs1_5
        · refine wpAny_ready (rs := [6]) (by kernel_rfl) (by simp) ?_
          refine anyN_cons 6 rfl (by rfl) (fun K hK => ?_) AllReady.nil
          go_simp
          refine CD.out.mono ?_
          rintro e w5 ⟨v5, ls5, Y5, D5, rfl, hp5, hl5, hr5⟩
          dsimp only
          obtain ⟨q5, c5, hv5, -⟩ := hp5.d.rd
          obtain ⟨m5, hm5⟩ : ∃ m5, D5.length = m5 := ⟨_, rfl⟩
          rw [hm5] at hv5
          subst hv5
          have H5 : Hid (PG w5 gb ls5 (.slice q5 m5 c5) Y5 D5 ∧ ls5 ≤ ls + 1 ∧ DoR wd w5 gb Y Y5 D D5) := ⟨hp5, hl5, hr5⟩
          clear hp5 hl5 hr5 hm5
          refine hK.out _ _ ?_
          clear hK K
          try simp only [aP]
          refine tk (v := ?_) 7 rfl ?_ ?_
          rotate_left
          focus
            intro w9
            go_simp
            try with_reducible rfl
          try simp only [aP]
          refine tk (v := ?_) 8 rfl ?_ ?_
          rotate_left
          focus
            intro w9
            go_simp
            try with_reducible rfl
          try simp only [aP]
          refine tk (v := ?_) 9 rfl ?_ ?_
          rotate_left
          focus
            intro w9
            go_simp
            try with_reducible rfl
          try simp only [aP]
          exact hs1_5_6 q5 m5 c5 ls5 Y5 D5 w5 H5
        · intro q5 m5 c5 ls5 Y5 D5 w5 H5
          have HM5 : Hid (Blk w5 mb #[.slice q0 m0 c0, .int .u64 (ls : Nat)] 28) := HTd.out.box H5.out.2.2
          have r0 := HM5.out.cell (i := 0) rfl
          have r1 := HM5.out.cell (i := 1) rfl
          have f0 := HM5.out.frozen 0
          have f1 := HM5.out.frozen 1
          refine wpAny_ready (rs := [10]) (by kernel_rfl) (by simp) ?_
          refine anyN_cons 10 rfl (by rfl) (fun K hK => ?_) AllReady.nil
          go_simp
          refine hK.out _ _ ?_
          clear hK K
          try simp only [aP]
          exact hs1_5_6_10 q5 m5 c5 ls5 Y5 D5 w5 H5
        · intro q5 m5 c5 ls5 Y5 D5 w5 H5
          refine wpAny_done (by kernel_rfl) ?_ _
          have HT6 : Hid (TwS w ((w5.setCell ⟨mb, 0, none⟩ (.slice q5 m5 c5)).setCell ⟨mb, 1, none⟩ (.int .u64 (ls5 : Nat))) gb ga mb ma (i + 1) (i + 1)) := by
            have hM := HTd.out.box H5.out.2.2
            have hf : Frm w5 ((w5.setCell ⟨mb, 0, none⟩ (.slice q5 m5 c5)).setCell ⟨mb, 1, none⟩ (.int .u64 (ls5 : Nat))) (fun k => k = mb) := (frm_set w5 _ 0 _ (F := fun k => k = mb) (.inl rfl)).trans (frm_set _ _ 1 _ (F := fun k => k = mb) (.inl rfl)) (fun k hk => .inl hk)
            exact ⟨_, ls5, Y5, D5, _, _, _, _, HTd.out.does H5.out.1 H5.out.2.2 hf ((hM.set 0 _).set 1 _), by have := H5.out.2.1; have := HLs.out; omega, HLs.out.2⟩
          clear HTd H5 HLs
          generalize ((w5.setCell ⟨mb, 0, none⟩ (.slice q5 m5 c5)).setCell ⟨mb, 1, none⟩ (.int .u64 (ls5 : Nat))) = w6 at *
          have HT : Hid (TwS w w6 ga gb ma mb (i + 1) (i + 1)) := HT6.out.swap
          clear HT6
          obtain ⟨v7, ls7, Y7, D7, v7', ls7', Y7', D7', ht7, hle7, hle7'⟩ := HT.out
          have CT : Hid (Calls _ _ _ _ _) := tickets_any ga (ls7 + 1) Y7 w6 ht7.a.g
          obtain ⟨tn, htn⟩ : ∃ tn, (Y7.map (fun y => y.x.t)).length = tn := ⟨_, rfl⟩
          have HTn : Hid ((Y7.map (fun y => y.x.t)).length = tn) := htn
          have htl : tn ≤ 256 := by rw [← htn, List.length_map]; exact ht7.a.g.inv.2
          clear ht7 hle7 hle7' htn
          go_wp2_with fail
          refine CT.out.mono ?_
          rintro e w7 ⟨vt, rfl, ho7, hb7⟩
          dsimp only
          have HO7 : Hid (InS w7 w6.heap.size 26 1 vt tn) := by rw [← HTn.out]; exact InS.of ho7
          have HB7 : Hid (Below w6.heap.size w6 w7) := hb7
          clear ho7 hb7 CT
          obtain ⟨pt, ct, hvt, -⟩ := HO7.out
          subst hvt
          have HZ7 : Hid (InS w7 w6.heap.size 26 1 (.slice pt tn ct) tn ∧ Below w6.heap.size w6 w7) := ⟨HO7.out, HB7.out⟩
          clear HO7 HB7
          go_upto_region 22 with fail
          go_loopw [13] (fun sj wq => ∃ j : Nat, j ≤ tn ∧ sj = .int .i64 (j : Int) ∧ Hid (InS wq w6.heap.size 26 1 (.slice pt tn ct) tn ∧ Below w6.heap.size w6 wq)) (fun sj _ => ((tn : Int) - intOf sj).toNat)
          case atStart => exact ⟨0, by omega, rfl, HZ7⟩
          case round =>
            clear HZ7
            obtain ⟨j, hj, rfl, HJ⟩ := hrel
            rcases Nat.lt_or_eq_of_le hj with hjlt | hjeq
            · have g7 : decide ((j : Int) < (tn : Int)) = true := by simp; omega
              have gj : (j : Int) < (tn : Int) := by omega
              obtain ⟨⟨p8, c8, e8, hin⟩, hbw⟩ := HJ.out
              injection e8 with e81 _ _
              subst e81
              obtain ⟨gt, cs, hpt, hgt, hbk, hcs⟩ := hin (by omega)
              subst hpt
              have hjc : j < cs.size := by omega
              have t0 := hbk.cell (i := j) (Array.getElem?_eq_getElem hjc)
              have t1 := hbk.frozen j
              have HJ3 : Hid (InS (wr.setCell ⟨gt, j, none⟩ (.int .u64 77)) w6.heap.size 26 1 (.slice (some ⟨gt, 0, none⟩) tn ct) tn ∧ Below w6.heap.size w6 (wr.setCell ⟨gt, j, none⟩ (.int .u64 77))) := by
                refine ⟨⟨_, _, rfl, fun _ => ⟨gt, _, rfl, hgt, hbk.set j _, by rw [Array.size_setIfInBounds]; exact hcs⟩⟩, ?_⟩
                exact hbw.trans ((frm_set wr gt j _ (F := fun k => k = gt) (.inl rfl)).below hbw.size (fun k hk => by rw [hk]; exact hgt))
              generalize cs[j] = u9 at *
              clear hin hbw hgt hbk hcs hjc HJ
              go_wp2_with fail
              go_roundw
              case rel => exact ⟨j + 1, by omega, by go_num, HJ3⟩
              case measure => simp [intOf]; omega
            · have g7 : decide ((j : Int) < (tn : Int)) = false := by simp; omega
              have HT9 : Hid (TwS w wr ga gb ma mb (i + 1) (i + 1)) := HT.out.on HJ.out.2
              clear HJ
              go_wp2_with fail
              go_roundw
              case rel => exact ⟨i + 1, by omega, by go_num, HT9⟩
              case measure => simp [intOf]; omega
      · have g1 : decide ((i : Int) < (n1 : Int)) = false := by simp; omega
        have g2 : decide ((i : Int) < (n2 : Int)) = false := by simp; omega
        obtain ⟨v, ls, Y, D, v', ls', Y', D', ht, hle, hle'⟩ := HT.out
        have HTd : Hid (Tw w wr ga gb ma mb v ls Y D v' ls' Y' D') := ht
        have CI : Hid (Calls _ _ _ _ _) := is_any ga ls v Y D wr ht.a (by have := HIb.out; omega)
        have HL2 : Hid (ls' < 9000000000000000000) := by have := HIb.out; show _ < _; omega
        have x0 := ht.xa.cell (i := 0) rfl
        have x1 := ht.xa.cell (i := 1) rfl
        clear ht hle hle' HT
        go_wp2_with fail
        refine CI.out.mono ?_
        rintro e w7 ⟨rfl, hb7⟩
        dsimp only
        have HT7 : Hid (Tw w w7 ga gb ma mb v ls Y D v' ls' Y' D') := HTd.out.on hb7
        have CJ : Hid (Calls _ _ _ _ _) := is_any gb ls' v' Y' D' w7 HT7.out.b HL2.out
        have x2 := HT7.out.xb.cell (i := 0) rfl
        have x3 := HT7.out.xb.cell (i := 1) rfl
        clear hb7 CI x0 x1 HTd
        go_wp2_with fail
        refine CJ.out.mono ?_
        rintro e w8 ⟨rfl, hb8⟩
        dsimp only
        have HB8 : Hid (Below w.heap.size w w8) := (HT7.out.on hb8).lo
        clear hb8 CJ x2 x3 HT7
        go_wp2_with fail
        refine (awake_any w8).mono ?_
        rintro e w9 ⟨rfl, hb9⟩
        dsimp only
        have HB9 : Hid (Below w.heap.size w w9) := HB8.out.trans (hb9.mono HB8.out.size)
        clear hb9
        go_wp2_with fail
        go_ret
        exact ⟨rfl, HB9.out⟩
end Go.Proofs.YtcdamalpecedcaaGreat
