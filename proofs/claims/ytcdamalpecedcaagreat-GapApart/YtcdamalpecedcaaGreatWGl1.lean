/- Layer 13: is. -/
import Derived.Test.YtcdamalpecedcaaGreatMGap3
namespace Go.Proofs.YtcdamalpecedcaaGreat
open Go.RowKit
set_option maxRecDepth 100000

theorem ah256 (D : List Dk) (H : List Hd) (k : Nat) (hk : k < D.length) (hl : D.length ≤ 256) : (ahD D H k).length ≤ 256 := by
  have := ahD_len D H k
  omega

theorem OwnU.at2 {w : World} {v : Value} {A : List Nat} (h : OwnU w 0 v A) : ∃ p c, v = .slice p A.length c ∧ ∀ k (hk : k < A.length), ∃ g, p = some ⟨g, 0, none⟩ ∧ g < w.heap.size ∧ w.cell? ⟨g, k, none⟩ = some (.int .u64 (A[k] : Nat)) := by
  obtain ⟨p, c, e, -⟩ := owns_len h
  refine ⟨p, c, e, fun k hk => ?_⟩
  subst e
  obtain ⟨g, c9, e, -, hg⟩ := owns_form h (by omega)
  injection e with e1 e2 e3
  subst e1
  have x1 := World.ownsRow.cellAt h k (by omega)
  rw [List.getElem?_map, List.getElem?_eq_getElem hk] at x1
  exact ⟨g, rfl, hg, x1⟩

set_option maxHeartbeats 16000000 in
theorem is_any (gb ls : Nat) (v : Value) (Y : List Tkr) (D : List Dk) (w : World) (h : PG w gb ls v Y D) (hls : ls < 9000000000000000000) :
    Calls Tryz.prog 7 #[ptr1 gb, .agg #[v, .int .u64 (ls : Nat)]] w fun e w' => e = .returned (.bool true) ∧ Below w.heap.size w w' := by
  have hDl : D.length ≤ 256 := by rw [same_len h.e]; exact h.g.inv.2
  obtain ⟨hX, hal, -⟩ := blk_new w #[v, .int .u64 (ls : Nat)] 28
  have HX1 : Hid (Blk (w.alloc (.cells #[v, .int .u64 (ls : Nat)] 28)) w.heap.size #[v, .int .u64 (ls : Nat)] 28) := hX
  have HP1 : Hid (PG (w.alloc (.cells #[v, .int .u64 (ls : Nat)] 28)) gb ls v Y D) := h.on hal
  have HL1 : Hid (Below w.heap.size w (w.alloc (.cells #[v, .int .u64 (ls : Nat)] 28))) := hal
  have HE : Hid (D.map (fun d => (d.t, d.H)) = Y.map (fun y => (y.x.t, y.x.H))) := h.e
  have x0 := hX.cell (i := 0) rfl
  have x1 := hX.cell (i := 1) rfl
  have HDl : Hid (D.length ≤ 256) := hDl
  obtain ⟨m, hm⟩ : ∃ m, D.length = m := ⟨_, rfl⟩
  have HDm : Hid (D.length = m) := hm
  rw [hm] at hDl
  have HLs : Hid (ls < 9000000000000000000) := hls
  clear h hX hal hm hls
  go_enter Tryz.func7, Tryz.ntmps7
  go_wp2_with fail
  generalize w.alloc (.cells #[v, .int .u64 (ls : Nat)] 28) = w1 at *
  refine (rtickets_any D 0 ls v w1 HP1.out.d HDl.out).mono ?_
  rintro e w2 ⟨tv, rfl, htv, hb2⟩
  dsimp only
  have HP2 : Hid (PG w2 gb ls v Y D) := HP1.out.on hb2
  have HX2 : Hid (Blk w2 w.heap.size #[v, .int .u64 (ls : Nat)] 28) := HX1.out.on hb2
  have HT2 : Hid (OwnU w2 0 tv (D.map Dk.t)) := owns_base htv (Nat.zero_le _)
  have HL2 : Hid (Below w.heap.size w w2) := HL1.out.trans (hb2.mono HL1.out.size)
  clear hb2 htv HP1 HX1 HL1 x0 x1
  go_wp2_with fail
  refine (tickets_any gb (ls + 1) Y w2 HP2.out.g).mono ?_
  rintro e w3' ⟨tu, rfl, htu, hb3⟩
  dsimp only
  rw [same_tks HE.out] at htu
  have HP3' : Hid (PG w3' gb ls v Y D) := HP2.out.on hb3
  have HX3' : Hid (Blk w3' w.heap.size #[v, .int .u64 (ls : Nat)] 28) := HX2.out.on hb3
  have HT3' : Hid (OwnU w3' 0 tv (D.map Dk.t)) := owns_kept HT2.out hb3
  have HU3' : Hid (OwnU w3' 0 tu (D.map Dk.t)) := owns_base htu (Nat.zero_le _)
  have HL3' : Hid (Below w.heap.size w w3') := HL2.out.trans (hb3.mono HL2.out.size)
  clear hb3 htu HP2 HX2 HT2 HL2
  go_wp2_with fail
  refine (same_any (D.map Dk.t) _ _ w3' HU3'.out HT3'.out (by rw [List.length_map]; exact HDl.out)).mono ?_
  rintro e w3 ⟨rfl, hb3⟩
  dsimp only
  have HP3 : Hid (PG w3 gb ls v Y D) := HP3'.out.on hb3
  have HX3 : Hid (Blk w3 w.heap.size #[v, .int .u64 (ls : Nat)] 28) := HX3'.out.on hb3
  have HT3 : Hid (OwnU w3 0 tv (D.map Dk.t)) := owns_kept HT3'.out hb3
  have HL3 : Hid (Below w.heap.size w w3) := HL3'.out.trans (hb3.mono HL3'.out.size)
  clear hb3 HP3' HX3' HT3' HU3' HL3'
  obtain ⟨tp, tc, htv, hta⟩ := OwnU.at2 HT3.out
  rw [List.length_map, HDm.out] at htv
  have HTA : Hid (∀ k (hk : k < D.length), ∃ g, tp = some ⟨g, 0, none⟩ ∧ g < w3.heap.size ∧ w3.cell? ⟨g, k, none⟩ = some (.int .u64 (D[k].t : Nat))) := by
    intro k hk
    obtain ⟨g, h1, h2, h3⟩ := hta k (by rw [List.length_map]; exact hk)
    rw [List.getElem_map] at h3
    exact ⟨g, h1, h2, h3⟩
  clear hta HT3
  subst htv
  go_upto_region 5 with fail
  go_loopw [6] (fun si wq => ∃ k : Nat, k ≤ m ∧ si = .int .i64 (k : Int) ∧ Hid (Below w3.heap.size w3 wq)) (fun si _ => ((m : Int) - intOf si).toNat)
  case atStart => exact ⟨0, by omega, rfl, Below.refl _ _⟩
  case round =>
    obtain ⟨k, hk, rfl, HI⟩ := hrel
    rcases Nat.lt_or_eq_of_le hk with hlt | heq
    · have g1 : decide ((k : Int) < (m : Int)) = true := by simp; omega
      have hkD : k < D.length := by rw [HDm.out]; exact hlt
      have hkY : k < Y.length := by rw [← same_len HE.out]; exact hkD
      have hdr : Below wr.heap.size wr wr.drew := (Below.refl _ _).drew
      have HBd : Hid (Below w3.heap.size w3 wr.drew) := HI.out.trans (hdr.mono HI.out.size)
      have HPd : Hid (PG wr.drew gb ls v Y D) := HP3.out.on HBd.out
      obtain ⟨gt, et1, hgt, z1⟩ := HTA.out k hkD
      subst et1
      have HTV : Hid (w3.cell? ⟨gt, k, none⟩ = some (.int .u64 (D[k].t : Nat)) ∧ ∀ w', Below w3.heap.size w3 w' → w'.cell? ⟨gt, k, none⟩ = some (.int .u64 (D[k].t : Nat))) := ⟨z1, fun w' hb => (hb.cell (p := ⟨gt, k, none⟩) hgt).trans z1⟩
      have z2 := HTV.out.2 _ HBd.out
      have xd := HX3.out.on HBd.out
      have q0 := xd.cell (i := 0) rfl
      have q1 := xd.cell (i := 1) rfl
      have CR : Hid (Calls _ _ _ _ _) := rahead_yes D 0 ls k v wr.drew HPd.out.d HDl.out HPd.out.rise hkD
      have hte := (same_at HE.out k hkD hkY).1
      have hae := HPd.out.ah k hkD hkY
      have HAL : Hid ((ahD D D[k].H k).length ≤ 256) := ah256 D _ k hkD HDl.out
      have HCA : Hid (∀ w', PG w' gb ls v Y D → Calls Tryz.prog 22 #[ptr1 gb, .int .u64 (D[k].t : Nat)] w' fun e w'' => ∃ u, e = .returned (.tuple #[u, .int .i64 0]) ∧ OwnU w'' w'.heap.size u (ahD D D[k].H k) ∧ Below w'.heap.size w' w'') := by
        intro w' h'
        rw [hte, ← hae]
        exact ahead_yes gb (ls + 1) k Y w' h'.g hkY
      have HCH : Hid (∀ w', PG w' gb ls v Y D → Calls Tryz.prog 10 #[ptr1 gb, .int .u64 (D[k].t : Nat)] w' fun e w'' => e = .returned (.tuple #[.bool (decide ((ahD D D[k].H k).length = 0)), .int .i64 0]) ∧ Below w'.heap.size w' w'') := by
        intro w' h'
        rw [hte, ← hae, ← grT_ah]
        exact has_yes gb (ls + 1) k Y w' h'.g hkY
      have HCW : Hid ((ahD D D[k].H k).length = 0 → ∀ w', PG w' gb ls v Y D → Calls Tryz.prog 13 #[ptr1 gb, .int .u64 (D[k].t : Nat)] w' fun e w'' => e = .returned (.int .i64 0) ∧ Below w'.heap.size w' w'') := by
        intro h0 w' h'
        rw [hte]
        refine wait_yes gb (ls + 1) k Y w' h'.g hkY ?_
        rw [grT_ah, hae, h0]
        rfl
      generalize ahD D D[k].H k = A0 at *
      clear hte hae
      generalize (D[k].t : Int) = tz at *
      clear z1 hdr HI hgt xd hkY hkD
      go_upto_region 7 with fail
      refine wp_region_any (by kernel_rfl) ?_
      change wpAny _ _ _ _ _ _ _ (World.drew _)
      generalize wr.drew = wd at *
      by_cases hA0 : A0.length = 0
      · have HA0 : Hid (A0.length = 0) := hA0
        have h9 : decide (A0.length = 0) = true := by simp [hA0]
        rw [h9] at HCH
        replace HCW := HCW.out hA0
        have HCW : Hid _ := HCW
        clear hA0 h9
        refine tk (v := ?_) 1 rfl ?_ ?_
        rotate_left
        focus
          intro w9
          go_simp
          try with_reducible rfl
        try simp only [aP]
        refine tk (v := ?_) 2 rfl ?_ ?_
        rotate_left
        focus
          intro w9
          go_simp
          try with_reducible rfl
        try simp only [aP]
        refine tk (v := ?_) 3 rfl ?_ ?_
        rotate_left
        focus
          intro w9
          go_simp
          try with_reducible rfl
        try simp only [aP]
        apply later2 (fun (u9 : Value) (w5 : World) => Hid (OwnU w5 0 u9 A0 ∧ Below wd.heap.size wd w5))
        intro hs0_4_5
        apply later0
        intro hs0_4
        apply later0
        intro hs4
        apply later0
        intro hs0
        · refine wpAny_ready (rs := [0, 4]) (by kernel_rfl) (by simp) ?_
          refine anyN_cons 0 rfl (by rfl) (fun K hK => ?_) (anyN_cons 4 rfl (by rfl) (fun K hK => ?_) AllReady.nil)
          · go_simp
            refine hK.out _ _ ?_
            clear hK K
            try simp only [aP]
            exact hs0
          · go_simp
            refine hK.out _ _ ?_
            clear hK K
            try simp only [aP]
            exact hs4
        · refine wpAny_ready (rs := [4]) (by kernel_rfl) (by simp) ?_
          refine anyN_cons 4 rfl (by rfl) (fun K hK => ?_) AllReady.nil
          go_simp
          refine hK.out _ _ ?_
          clear hK K
          try simp only [aP]
          exact hs0_4
        · refine wpAny_ready (rs := [0]) (by kernel_rfl) (by simp) ?_
          refine anyN_cons 0 rfl (by rfl) (fun K hK => ?_) AllReady.nil
          go_simp
          refine hK.out _ _ ?_
          clear hK K
          try simp only [aP]
          exact hs0_4
        · refine wpAny_ready (rs := [5]) (by kernel_rfl) (by simp) ?_
          refine anyN_cons 5 rfl (by rfl) (fun K hK => ?_) AllReady.nil
          go_simp
          refine CR.out.mono ?_
          rintro e w5 ⟨u9, rfl, hu9, hb5⟩
          dsimp only
          have H5 : Hid (OwnU w5 0 u9 A0 ∧ Below wd.heap.size wd w5) := ⟨owns_base hu9 (Nat.zero_le _), hb5⟩
          clear hu9 hb5
          refine hK.out _ _ ?_
          clear hK K
          try simp only [aP]
          refine tk (v := ?_) 6 rfl ?_ ?_
          rotate_left
          focus
            intro w9
            go_simp
            try with_reducible rfl
          try simp only [aP]
          refine tk (v := ?_) 7 rfl ?_ ?_
          rotate_left
          focus
            intro w9
            go_simp
            try with_reducible rfl
          try simp only [aP]
          refine tk (v := ?_) 8 rfl ?_ ?_
          rotate_left
          focus
            intro w9
            go_simp
            try with_reducible rfl
          try simp only [aP]
          exact hs0_4_5 u9 w5 H5
        · intro u9 w5 H5
          refine tk (v := ?_) 9 rfl ?_ ?_
          rotate_left
          focus
            intro w9
            go_simp
            try with_reducible rfl
          try simp only [aP]
          refine tk (v := ?_) 10 rfl ?_ ?_
          rotate_left
          focus
            intro w9
            go_simp
            try with_reducible rfl
          try simp only [aP]
          refine wpAny_done (by kernel_rfl) ?_ _
          have HP5 : Hid (PG w5 gb ls v Y D) := HPd.out.on H5.out.2
          obtain ⟨pu, cu, hu9, -⟩ := owns_len H5.out.1
          subst hu9
          obtain ⟨n0, hn0⟩ : ∃ n0, A0.length = n0 := ⟨_, rfl⟩
          have HN0 : Hid (A0.length = n0) := hn0
          rw [hn0] at H5 ⊢
          have hn00 : n0 = 0 := by rw [← hn0]; exact HA0.out
          clear hn0
          subst hn00
          have e5 := HTV.out.2 w5 (HBd.out.trans (H5.out.2.mono HBd.out.size))
          go_wp2_with fail
          refine (HCA.out w5 HP5.out).mono ?_
          rintro e w6 ⟨u8, rfl, hu8, hb6⟩
          dsimp only
          have HP6 : Hid (PG w6 gb ls v Y D) := HP5.out.on hb6
          have HU6 : Hid (OwnU w6 0 u8 A0 ∧ OwnU w6 0 (.slice pu 0 cu) A0 ∧ Below wd.heap.size wd w6) := ⟨owns_base hu8 (Nat.zero_le _), owns_kept H5.out.1 hb6, H5.out.2.trans (hb6.mono H5.out.2.size)⟩
          clear hu8 hb6 HP5 H5 e5
          have e6 := HTV.out.2 w6 (HBd.out.trans (HU6.out.2.2.mono HBd.out.size))
          go_wp2_with fail
          refine (HCH.out w6 HP6.out).mono ?_
          rintro e w7 ⟨rfl, hb7⟩
          dsimp only
          have HP7 : Hid (PG w7 gb ls v Y D) := HP6.out.on hb7
          have HU7 : Hid (OwnU w7 0 u8 A0 ∧ OwnU w7 0 (.slice pu 0 cu) A0 ∧ Below wd.heap.size wd w7) := ⟨owns_kept HU6.out.1 hb7, owns_kept HU6.out.2.1 hb7, HU6.out.2.2.trans (hb7.mono HU6.out.2.2.size)⟩
          clear hb7 HP6 HU6 e6
          have e7 := HTV.out.2 w7 (HBd.out.trans (HU7.out.2.2.mono HBd.out.size))
          go_wp2_with fail
          refine (same_any A0 _ _ w7 HU7.out.1 HU7.out.2.1 HAL.out).mono ?_
          rintro e w8 ⟨rfl, hb8⟩
          dsimp only
          have HP8 : Hid (PG w8 gb ls v Y D) := HP7.out.on hb8
          have HU8 : Hid (Below w3.heap.size w3 w8) := HBd.out.trans ((HU7.out.2.2.trans (hb8.mono HU7.out.2.2.size)).mono HBd.out.size)
          clear hb8 HP7 HU7 e7
          have e8 := HTV.out.2 w8 HU8.out
          go_wp2_with fail
          refine (HCW.out w8 HP8.out).mono ?_
          rintro e w9 ⟨rfl, hb9⟩
          dsimp only
          have HU9 : Hid (Below w3.heap.size w3 w9) := HU8.out.trans (hb9.mono HU8.out.size)
          clear hb9 e8
          go_wp2_with fail
          go_roundw
          case rel => exact ⟨k + 1, by omega, by go_num, HU9⟩
          case measure => simp [intOf]; omega
      · have HA0 : Hid (¬ A0.length = 0) := hA0
        have h9 : decide (A0.length = 0) = false := by simp [hA0]
        rw [h9] at HCH
        clear hA0 h9 HCW
        refine tk (v := ?_) 1 rfl ?_ ?_
        rotate_left
        focus
          intro w9
          go_simp
          try with_reducible rfl
        try simp only [aP]
        refine tk (v := ?_) 2 rfl ?_ ?_
        rotate_left
        focus
          intro w9
          go_simp
          try with_reducible rfl
        try simp only [aP]
        refine tk (v := ?_) 3 rfl ?_ ?_
        rotate_left
        focus
          intro w9
          go_simp
          try with_reducible rfl
        try simp only [aP]
        apply later2 (fun (u9 : Value) (w5 : World) => Hid (OwnU w5 0 u9 A0 ∧ Below wd.heap.size wd w5))
        intro hs0_4_5
        apply later0
        intro hs0_4
        apply later0
        intro hs4
        apply later0
        intro hs0
        · refine wpAny_ready (rs := [0, 4]) (by kernel_rfl) (by simp) ?_
          refine anyN_cons 0 rfl (by rfl) (fun K hK => ?_) (anyN_cons 4 rfl (by rfl) (fun K hK => ?_) AllReady.nil)
          · go_simp
            refine hK.out _ _ ?_
            clear hK K
            try simp only [aP]
            exact hs0
          · go_simp
            refine hK.out _ _ ?_
            clear hK K
            try simp only [aP]
            exact hs4
        · refine wpAny_ready (rs := [4]) (by kernel_rfl) (by simp) ?_
          refine anyN_cons 4 rfl (by rfl) (fun K hK => ?_) AllReady.nil
          go_simp
          refine hK.out _ _ ?_
          clear hK K
          try simp only [aP]
          exact hs0_4
        · refine wpAny_ready (rs := [0]) (by kernel_rfl) (by simp) ?_
          refine anyN_cons 0 rfl (by rfl) (fun K hK => ?_) AllReady.nil
          go_simp
          refine hK.out _ _ ?_
          clear hK K
          try simp only [aP]
          exact hs0_4
        · refine wpAny_ready (rs := [5]) (by kernel_rfl) (by simp) ?_
          refine anyN_cons 5 rfl (by rfl) (fun K hK => ?_) AllReady.nil
          go_simp
          refine CR.out.mono ?_
          rintro e w5 ⟨u9, rfl, hu9, hb5⟩
          dsimp only
          have H5 : Hid (OwnU w5 0 u9 A0 ∧ Below wd.heap.size wd w5) := ⟨owns_base hu9 (Nat.zero_le _), hb5⟩
          clear hu9 hb5
          refine hK.out _ _ ?_
          clear hK K
          try simp only [aP]
          refine tk (v := ?_) 6 rfl ?_ ?_
          rotate_left
          focus
            intro w9
            go_simp
            try with_reducible rfl
          try simp only [aP]
          refine tk (v := ?_) 7 rfl ?_ ?_
          rotate_left
          focus
            intro w9
            go_simp
            try with_reducible rfl
          try simp only [aP]
          refine tk (v := ?_) 8 rfl ?_ ?_
          rotate_left
          focus
            intro w9
            go_simp
            try with_reducible rfl
          try simp only [aP]
          exact hs0_4_5 u9 w5 H5
        · intro u9 w5 H5
          refine tk (v := ?_) 9 rfl ?_ ?_
          rotate_left
          focus
            intro w9
            go_simp
            try with_reducible rfl
          try simp only [aP]
          refine tk (v := ?_) 10 rfl ?_ ?_
          rotate_left
          focus
            intro w9
            go_simp
            try with_reducible rfl
          try simp only [aP]
          refine wpAny_done (by kernel_rfl) ?_ _
          have HP5 : Hid (PG w5 gb ls v Y D) := HPd.out.on H5.out.2
          obtain ⟨pu, cu, hu9, -⟩ := owns_len H5.out.1
          subst hu9
          obtain ⟨n0, hn0⟩ : ∃ n0, A0.length = n0 := ⟨_, rfl⟩
          have HN0 : Hid (A0.length = n0) := hn0
          rw [hn0] at H5 ⊢
          have gn0 : ¬ (n0 : Int) = 0 := by have := HA0.out; omega
          clear hn0

          have e5 := HTV.out.2 w5 (HBd.out.trans (H5.out.2.mono HBd.out.size))
          go_wp2_with fail
          refine (HCA.out w5 HP5.out).mono ?_
          rintro e w6 ⟨u8, rfl, hu8, hb6⟩
          dsimp only
          have HP6 : Hid (PG w6 gb ls v Y D) := HP5.out.on hb6
          have HU6 : Hid (OwnU w6 0 u8 A0 ∧ OwnU w6 0 (.slice pu n0 cu) A0 ∧ Below wd.heap.size wd w6) := ⟨owns_base hu8 (Nat.zero_le _), owns_kept H5.out.1 hb6, H5.out.2.trans (hb6.mono H5.out.2.size)⟩
          clear hu8 hb6 HP5 H5 e5
          have e6 := HTV.out.2 w6 (HBd.out.trans (HU6.out.2.2.mono HBd.out.size))
          go_wp2_with fail
          refine (HCH.out w6 HP6.out).mono ?_
          rintro e w7 ⟨rfl, hb7⟩
          dsimp only
          have HP7 : Hid (PG w7 gb ls v Y D) := HP6.out.on hb7
          have HU7 : Hid (OwnU w7 0 u8 A0 ∧ OwnU w7 0 (.slice pu n0 cu) A0 ∧ Below wd.heap.size wd w7) := ⟨owns_kept HU6.out.1 hb7, owns_kept HU6.out.2.1 hb7, HU6.out.2.2.trans (hb7.mono HU6.out.2.2.size)⟩
          clear hb7 HP6 HU6 e6
          have e7 := HTV.out.2 w7 (HBd.out.trans (HU7.out.2.2.mono HBd.out.size))
          go_wp2_with fail
          refine (same_any A0 _ _ w7 HU7.out.1 HU7.out.2.1 HAL.out).mono ?_
          rintro e w8 ⟨rfl, hb8⟩
          dsimp only
          have HP8 : Hid (PG w8 gb ls v Y D) := HP7.out.on hb8
          have HU8 : Hid (Below w3.heap.size w3 w8) := HBd.out.trans ((HU7.out.2.2.trans (hb8.mono HU7.out.2.2.size)).mono HBd.out.size)
          clear hb8 HP7 HU7 e7
          have e8 := HTV.out.2 w8 HU8.out
          go_wp2_with fail
          go_roundw
          case rel => exact ⟨k + 1, by omega, by go_num, HU8⟩
          case measure => simp [intOf]; omega
    · have g1 : decide ((k : Int) < (m : Int)) = false := by simp; omega
      have HPr : Hid (PG wr gb ls v Y D) := HP3.out.on HI.out
      have hn1 : hasT (zs Y) (ls + 1) = false := HPr.out.no (.inr (Nat.lt_succ_self _))
      have hn0 : hasT (zs Y) 0 = false := HPr.out.no (.inl rfl)
      have C1 : Hid (Calls _ _ _ _ _) := ahead_no gb (ls + 1) (ls + 1) Y wr HPr.out.g hn1
      have C2 : Hid (Calls _ _ _ _ _) := has_no gb (ls + 1) 0 Y wr HPr.out.g hn0
      have C3 : Hid (Calls _ _ _ _ _) := wait_no gb (ls + 1) (ls + 1) Y wr HPr.out.g hn1
      have gw : IntKind.u64.wrap ((ls : Int) + 1) = ((ls + 1 : Nat) : Int) := by have := HLs.out; unfold IntKind.wrap; simp [IntKind.bits, IntKind.signed]; omega
      have xd := HX3.out.on HI.out
      have q1 := xd.cell (i := 1) rfl
      have HZ : Hid (Below w.heap.size w wr) := HL3.out.trans (HI.out.mono HL3.out.size)
      clear hn1 hn0 xd
      generalize ((ls + 1 : Nat) : Int) = l9 at *
      go_wp2_with fail
      refine C1.out.mono ?_
      rintro e w9 ⟨rfl, hw9⟩
      rw [hw9]
      clear hw9 C1
      go_wp2_with fail
      refine C2.out.mono ?_
      rintro e w9 ⟨rfl, hw9⟩
      rw [hw9]
      clear hw9 C2
      go_wp2_with fail
      refine C3.out.mono ?_
      rintro e w9 ⟨rfl, hw9⟩
      rw [hw9]
      clear hw9 C3
      go_wp2_with fail
      go_ret
      exact ⟨rfl, HZ.out⟩
end Go.Proofs.YtcdamalpecedcaaGreat
