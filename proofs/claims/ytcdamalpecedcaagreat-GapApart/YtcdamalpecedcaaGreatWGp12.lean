/- Layer 13: standBehind. -/
import Derived.Test.YtcdamalpecedcaaGreatWGp11
namespace Go.Proofs.YtcdamalpecedcaaGreat
open Go.RowKit
set_option maxRecDepth 100000

theorem plc_zero (Z : List (Nat × Nat)) : plc Z 0 = 0 := by
  unfold plc
  cases Z with
  | nil => rfl
  | cons z Z => simp [List.findIdx_cons]

set_option maxHeartbeats 16000000 in
theorem standBehind_any (xb nx tb ch : Nat) (Y : List Tkr) (H : List Hd) (cl : Cl) (p1 p2 : Option Addr) (n1 n2 c1 c2 : Nat) (w : World) (p : Option Addr) (c : Nat) (hL : LnP w xb nx p c Y) (hB : Blk w tb (tkC 0 (.slice p1 n1 c1) (.slice p2 n2 c2) (.slice none 0 0) ch 0 0 0) 97) (hcl : ClOf cl H) (ho1 : OwnR w 0 (.slice p1 n1 c1) cl.all) (ho2 : OwnR w 0 (.slice p2 n2 c2) cl.alo) (htb : ∀ y ∈ Y, y.b ≠ tb ∧ y.ch ≠ tb) :
    Calls Tryz.prog 48 #[ptr1 tb, ptr1 xb] w fun e w' => e = .returned (.tuple #[]) ∧ (∃ vh, Blk w' tb (tkC nx (.slice p1 n1 c1) (.slice p2 n2 c2) vh ch 0 0 0) 97 ∧ OwnU w' w.heap.size vh (newT H nx (Y.map Tkr.x)).A) ∧ Frm w w' (fun k => k = tb) := by
  obtain ⟨va, hva⟩ : ∃ va, Value.slice p1 n1 c1 = va := ⟨_, rfl⟩
  obtain ⟨vo, hvo⟩ : ∃ vo, Value.slice p2 n2 c2 = vo := ⟨_, rfl⟩
  rw [hva] at hB ho1
  rw [hvo] at hB ho2
  rw [hva, hvo]
  clear hva hvo
  obtain ⟨kz, kc, kn, kp⟩ := hL.z
  have C1 : Hid (Calls _ _ _ _ _) := left_any xb nx c p (zs Y) (.slice none 0 0) [] w kz (.inl ⟨rfl, rfl⟩) (by decide)
  have HLn : Hid (LnP w xb nx p c Y) := hL
  have HB0 : Hid (Blk w tb (tkC 0 va vo (.slice none 0 0) ch 0 0 0) 97) := hB
  have HO : Hid (ClOf cl H ∧ OwnR w 0 va cl.all ∧ OwnR w 0 vo cl.alo) := ⟨hcl, ho1, ho2⟩
  have HNe : Hid (∀ y ∈ Y, y.b ≠ tb ∧ y.ch ≠ tb) := htb
  have y3 := Blk.cell (i := 3) hB rfl
  clear hL hB hcl ho1 ho2 htb kz kc kn kp
  go_enter Tryz.func48, Tryz.ntmps48
  go_wp2_with fail
  refine C1.out.mono ?_
  rintro e w2 ⟨v2, rfl, ho2, hb2⟩
  obtain ⟨pv, nv, cv, hv⟩ : ∃ p n c, v2 = .slice p n c := by
    obtain ⟨p, c, e, -⟩ := owns_len ho2
    exact ⟨p, _, c, e⟩
  subst hv
  have hB2 := HB0.out.on hb2
  have y3 := Blk.cell (i := 3) hB2 rfl
  have f3 := hB2.frozen 3
  have HS2 : Hid (SbS w (w2.setCell ⟨tb, 3, none⟩ (.slice pv nv cv)) tb ch va vo (.slice pv nv cv) H Y 0) := by
    refine ⟨hB2.set 3 _, ?_, (Frm.of_below (F := fun k => k = tb) hb2).trans (frm_set w2 tb 3 _ (F := fun k => k = tb) (.inl rfl)) (fun k hk => .inl hk), HB0.out⟩
    rw [ahI_zero]
    exact owns_frm ho2 (frm_set w2 tb 3 _ (F := fun k => k = tb) (.inl rfl)) (only_one hB2) (by decide) (by decide)
  clear C1 ho2 hb2 hB2
  go_upto_region 1 with fail
  clear y3 f3
  generalize (w2.setCell ⟨tb, 3, none⟩ (.slice pv nv cv)) = w3 at *
  have HL3 : Hid (LnP w3 xb nx p c Y) := HLn.out.frm HS2.out.f (only_one HB0.out) (fun y hy => HNe.out y hy)
  obtain ⟨kz, kc, kn, kp⟩ := HL3.out.z
  have C2 : Hid (Calls _ _ _ _ _) := from_any xb nx c 0 p (zs Y) w3 kz (by rw [List.length_map]; exact kc) kn kp
  rw [plc_zero, List.drop_zero] at C2
  have y0 := Blk.cell (i := 0) HS2.out.x rfl
  clear kz kc kn kp
  go_wp2_with fail
  refine C2.out.mono ?_
  rintro e w9 ⟨⟨p5, c5, rfl, hr5⟩, hw9⟩
  rw [hw9]
  clear hw9 C2 y0
  have HR5 : Hid (∀ wz, RdZ wz p (zs Y) → RdZ wz p5 (zs Y)) := hr5
  have HLl : Hid (Y.length ≤ 256) := HL3.out.l
  rw [List.length_map]
  obtain ⟨n, hn⟩ : ∃ n, Y.length = n := ⟨_, rfl⟩
  have HN : Hid (Y.length = n) := hn
  rw [hn]
  rw [hn] at HLl
  have hl9 := HLl.out
  clear hr5 hn
  go_wp2_with fail
  go_loopw [22] (fun si wq => ∃ (i : Nat) (vh : Value), i ≤ n ∧ si = .int .i64 (i : Int) ∧ Hid (SbS w wq tb ch va vo vh H Y i)) (fun si _ => ((n : Int) - intOf si).toNat)
  case atStart => exact ⟨0, _, by omega, rfl, HS2⟩
  case round =>
    obtain ⟨i, vh, hi, rfl, HI⟩ := hrel
    obtain ⟨pv, nv, cv, hv⟩ : ∃ p n c, vh = .slice p n c := by
      obtain ⟨p, c, e, -⟩ := owns_len HI.out.o
      exact ⟨p, _, c, e⟩
    subst hv
    have HLa : Hid ((ahI H Y i).length ≤ 256) := Nat.le_trans (ahI_len H Y i) (by omega)
    rcases Nat.lt_or_eq_of_le hi with hlt | heq
    · have g1 : decide ((i : Int) < (n : Int)) = true := by simp; omega
      have hltY : i < Y.length := by rw [HN.out]; exact hlt
      have HLr : Hid (LnP wr xb nx p c Y) := HLn.out.frm HI.out.f (only_one HB0.out) (fun y hy => HNe.out y hy)
      obtain ⟨g, o, hp5, hg, d0, -, d1⟩ := HR5.out wr HLr.out.z.1.r i (by rw [List.length_map]; exact hltY)
      subst hp5
      have hz : (zs Y)[i]'(by rw [List.length_map]; exact hltY) = (Y[i].b, Y[i].x.t) := List.getElem_map _
      rw [hz] at d0
      obtain ⟨va', vo', vh', told', d', sm', cl', q1, q2, q3, q4, -, -, -⟩ := HLr.out.t Y[i] (List.getElem_mem hltY)
      have hob := HNe.out Y[i] (List.getElem_mem hltY)
      have hdr : Below wr.heap.size wr wr.drew := (Below.refl _ _).drew
      have hrow1 : OwnR wr 0 va cl.all := owns_frm HO.out.2.1 HI.out.f (only_one HB0.out) (by decide) (by decide)
      have hrow2 : OwnR wr 0 vo cl.alo := owns_frm HO.out.2.2 HI.out.f (only_one HB0.out) (by decide) (by decide)
      have CI : Hid (Calls _ _ _ _ _) := inWay_any cl cl' 0 0 0 0 va vo va' vo' wr.drew (hrow1.kept hdr) (hrow2.kept hdr) (q3.kept hdr) (q4.kept hdr)
      rw [inWay_way HO.out.1 q2, wayB_symm] at CI
      have HQd : Hid (SbS w wr.drew tb ch va vo (.slice pv nv cv) H Y i) := HI.out.on hdr
      have q1d := q1.on hdr
      have HTk : Hid (wr.drew.cell? ⟨Y[i].b, 0, none⟩ = some (.int .u64 (Y[i].x.t : Nat)) ∧ Y[i].b < wr.drew.heap.size) := ⟨Blk.cell (i := 0) q1d rfl, q1d.lt⟩
      have x1 := Blk.cell (i := 1) HQd.out.x rfl
      have x2 := Blk.cell (i := 2) HQd.out.x rfl
      have z1 := Blk.cell (i := 1) q1d rfl
      have z2 := Blk.cell (i := 2) q1d rfl
      obtain ⟨pa', na', ca', hva'⟩ : ∃ p n c, va' = .slice p n c := by
        obtain ⟨p, c, e, -⟩ := q3.len
        exact ⟨p, _, c, e⟩
      obtain ⟨pb', nb', cb', hvb'⟩ : ∃ p n c, vo' = .slice p n c := by
        obtain ⟨p, c, e, -⟩ := q4.len
        exact ⟨p, _, c, e⟩
      subst hva' hvb'
      cases hw : wayB Y[i].x.H H with
      | true =>
        have HAh : Hid (ahI H Y (i + 1) = ahI H Y i ++ [Y[i].x.t]) := ahI_on hltY hw
        rw [hw] at CI
        generalize Y[i].b = ob at *
        generalize Y[i].x.t = tq at *
        clear q1 q2 q3 q4 hrow1 hrow2 hdr q1d hob hz d1 hg HLr
        go_upto_region 4 with fail
        refine wp_region_any (by kernel_rfl) ?_
        change wpAny _ _ _ _ _ _ _ (World.drew _)
        generalize wr.drew = wd at *
        refine tk (v := ?_) 0 rfl ?_ ?_
        rotate_left
        focus
          intro w9
          go_simp
          try with_reducible rfl
        try simp only [aP]
        refine tk (v := ?_) 1 rfl ?_ ?_
        rotate_left
        focus
          intro w9
          go_simp
          try with_reducible rfl
        try simp only [aP]
        refine tk (v := ?_) 2 rfl ?_ ?_
        rotate_left
        focus
          intro w9
          go_simp
          try with_reducible rfl
        try simp only [aP]
        refine tk (v := ?_) 4 rfl ?_ ?_
        rotate_left
        focus
          intro w9
          go_simp
          try with_reducible rfl
        try simp only [aP]
        refine tk (v := ?_) 5 rfl ?_ ?_
        rotate_left
        focus
          intro w9
          go_simp
          try with_reducible rfl
        try simp only [aP]
        refine tk (v := ?_) 6 rfl ?_ ?_
        rotate_left
        focus
          intro w9
          go_simp
          try with_reducible rfl
        try simp only [aP]
        apply later1 (fun (w3 : World) => Hid (Below wd.heap.size wd w3))
        intro hs3_7_8
        apply later0
        intro hs3_7
        apply later0
        intro hs7
        apply later0
        intro hs3
        · refine wpAny_ready (rs := [3, 7]) (by kernel_rfl) (by simp) ?_
          refine anyN_cons 3 rfl (by rfl) (fun K hK => ?_) (anyN_cons 7 rfl (by rfl) (fun K hK => ?_) AllReady.nil)
          · go_simp
            refine hK.out _ _ ?_
            clear hK K
            try simp only [aP]
            exact hs3
          · go_simp
            refine hK.out _ _ ?_
            clear hK K
            try simp only [aP]
            exact hs7
        · refine wpAny_ready (rs := [7]) (by kernel_rfl) (by simp) ?_
          refine anyN_cons 7 rfl (by rfl) (fun K hK => ?_) AllReady.nil
          go_simp
          refine hK.out _ _ ?_
          clear hK K
          try simp only [aP]
          exact hs3_7
        · refine wpAny_ready (rs := [3]) (by kernel_rfl) (by simp) ?_
          refine anyN_cons 3 rfl (by rfl) (fun K hK => ?_) AllReady.nil
          go_simp
          refine hK.out _ _ ?_
          clear hK K
          try simp only [aP]
          exact hs3_7
        · refine wpAny_ready (rs := [8]) (by kernel_rfl) (by simp) ?_
          refine anyN_cons 8 rfl (by rfl) (fun K hK => ?_) AllReady.nil
          go_simp
          refine CI.out.mono ?_
          rintro e w3 ⟨rfl, hb3⟩
          dsimp only
          have H3 : Hid (Below wd.heap.size wd w3) := hb3
          clear hb3
          refine hK.out _ _ ?_
          clear hK K
          try simp only [aP]
          exact hs3_7_8 w3 H3
        · intro w3 H3
          refine wpAny_done (by kernel_rfl) ?_ _
          have HQ3 : Hid (SbS w w3 tb ch va vo (.slice pv nv cv) H Y i) := HQd.out.on H3.out
          have HTk3 : Hid (w3.cell? ⟨ob, 0, none⟩ = some (.int .u64 (tq : Nat)) ∧ ob < w3.heap.size) := ⟨(H3.out.cell (p := ⟨ob, 0, none⟩) HTk.out.2).trans HTk.out.1, Nat.lt_of_lt_of_le HTk.out.2 H3.out.size⟩
          clear H3 CI HQd HTk
          go_upto_region 5 with fail
          have hdr5 : Below w3.heap.size w3 w3.drew := (Below.refl _ _).drew
          have HQ4 : Hid (SbS w w3.drew tb ch va vo (.slice pv nv cv) H Y i) := HQ3.out.on hdr5
          have HTk : Hid (w3.drew.cell? ⟨ob, 0, none⟩ = some (.int .u64 (tq : Nat)) ∧ ob < w3.drew.heap.size) := ⟨(hdr5.cell (p := ⟨ob, 0, none⟩) HTk3.out.2).trans HTk3.out.1, HTk3.out.2⟩
          clear HQ3 HTk3 hdr5
          refine wp_region_any (by kernel_rfl) ?_
          change wpAny _ _ _ _ _ _ _ (World.drew _)
          generalize w3.drew = we at *
          refine tk (v := ?_) 0 rfl ?_ ?_
          rotate_left
          focus
            intro w9
            go_simp
            try with_reducible rfl
          try simp only [aP]
          refine tk (v := ?_) 1 rfl ?_ ?_
          rotate_left
          focus
            intro w9
            go_simp
            try with_reducible rfl
          try simp only [aP]
          refine tk (v := ?_) 2 rfl ?_ ?_
          rotate_left
          focus
            intro w9
            go_simp
            try with_reducible rfl
          try simp only [aP]
          refine tk (v := ?_) 3 rfl ?_ ?_
          rotate_left
          focus
            intro w9
            go_simp
            try with_reducible rfl
          try simp only [aP]
          refine tk (v := ?_) 5 rfl ?_ ?_
          rotate_left
          focus
            intro w9
            go_simp
            try with_reducible rfl
          try simp only [aP]
          refine tk (v := ?_) 6 rfl ?_ ?_
          rotate_left
          focus
            intro w9
            go_simp
            try with_reducible rfl
          try simp only [aP]
          refine tk (v := ?_) 7 rfl ?_ ?_
          rotate_left
          focus
            intro w9
            go_simp
            try with_reducible rfl
          try simp only [aP]
          apply later2 (fun (v6 : Value) (w6 : World) => Hid (∃ p6 n6 c6, v6 = .slice p6 n6 c6 ∧ OwnU w6 w.heap.size v6 (ahI H Y (i + 1)) ∧ Blk w6 tb (tkC 0 va vo (.slice pv nv cv) ch 0 0 0) 97 ∧ Frm w w6 (fun k => k = tb)))
          intro hs4_8_9_10
          apply later0
          intro hs4_8_9
          apply later0
          intro hs8_9
          apply later0
          intro hs4_8
          apply later0
          intro hs8
          apply later0
          intro hs4
          · have y3 := Blk.cell (i := 3) HQ4.out.x rfl
            have o0 := HTk.out.1
            refine wpAny_ready (rs := [4, 8]) (by kernel_rfl) (by simp) ?_
            refine anyN_cons 4 rfl (by rfl) (fun K hK => ?_) (anyN_cons 8 rfl (by rfl) (fun K hK => ?_) AllReady.nil)
            · go_simp
              refine hK.out _ _ ?_
              clear hK K
              try simp only [aP]
              exact hs4
            · go_simp
              refine hK.out _ _ ?_
              clear hK K
              try simp only [aP]
              exact hs8
          · have y3 := Blk.cell (i := 3) HQ4.out.x rfl
            have o0 := HTk.out.1
            refine wpAny_ready (rs := [8]) (by kernel_rfl) (by simp) ?_
            refine anyN_cons 8 rfl (by rfl) (fun K hK => ?_) AllReady.nil
            go_simp
            refine hK.out _ _ ?_
            clear hK K
            try simp only [aP]
            exact hs4_8
          · have y3 := Blk.cell (i := 3) HQ4.out.x rfl
            have o0 := HTk.out.1
            refine wpAny_ready (rs := [4, 9]) (by kernel_rfl) (by simp) ?_
            refine anyN_cons 4 rfl (by rfl) (fun K hK => ?_) (anyN_cons 9 rfl (by rfl) (fun K hK => ?_) AllReady.nil)
            · go_simp
              refine hK.out _ _ ?_
              clear hK K
              try simp only [aP]
              exact hs4_8
            · go_simp
              refine hK.out _ _ ?_
              clear hK K
              try simp only [aP]
              exact hs8_9
          · have y3 := Blk.cell (i := 3) HQ4.out.x rfl
            have o0 := HTk.out.1
            refine wpAny_ready (rs := [9]) (by kernel_rfl) (by simp) ?_
            refine anyN_cons 9 rfl (by rfl) (fun K hK => ?_) AllReady.nil
            go_simp
            refine hK.out _ _ ?_
            clear hK K
            try simp only [aP]
            exact hs4_8_9
          · have y3 := Blk.cell (i := 3) (HQ4.out.x.on ((Below.refl _ _).alloc (Nat.le_refl _) (.cells #[.int .u64 (tq : Nat)] 26))) rfl
            refine wpAny_ready (rs := [4]) (by kernel_rfl) (by simp) ?_
            refine anyN_cons 4 rfl (by rfl) (fun K hK => ?_) AllReady.nil
            go_simp
            refine hK.out _ _ ?_
            clear hK K
            try simp only [aP]
            exact hs4_8_9
          · have y3 := Blk.cell (i := 3) (HQ4.out.x.on ((Below.refl _ _).alloc (Nat.le_refl _) (.cells #[.int .u64 (tq : Nat)] 26))) rfl
            refine wpAny_ready (rs := [10]) (by kernel_rfl) (by simp) ?_
            refine anyN_cons 10 rfl (by rfl) (fun K hK => ?_) AllReady.nil
            have hal : Below we.heap.size we (we.alloc (.cells #[.int .u64 (tq : Nat)] 26)) := (Below.refl _ _).alloc (Nat.le_refl _) _
            have HO2 : Hid (World.ownsRow (we.alloc (.cells #[.int .u64 (tq : Nat)] 26)) w.heap.size 26 1 (.slice pv nv cv) (ahI H Y i).length ((ahI H Y i).map tkV)) := owns_kept HQ4.out.o hal
            refine wp_appW (we.alloc (.cells #[.int .u64 (tq : Nat)] 26)) (.tmp 39) (.tmp 44) 26 37 _ 1 8 rfl Tryz.underlying37 info_u64 rfl (by decide) w.heap.size _ _ _ (by rfl) HO2.out [Value.int .u64 (tq : Nat)] rfl (by intro u hu; simp only [List.mem_cons, List.not_mem_nil, or_false] at hu; rcases hu with rfl; rfl) we.heap.size (by rfl) ?_ (by have := HLa.out; omega) (by have := HLa.out; omega) (Nat.le_trans HQ4.out.f.size hal.size) ?_
            · intro j u hj
              refine Blk.cell (Blk.new we #[Value.int .u64 (tq : Nat)] 26) ?_
              simpa using hj
            intro v6 w6 h6 h8
            have H6 : Hid (∃ p6 n6 c6, v6 = .slice p6 n6 c6 ∧ OwnU w6 w.heap.size v6 (ahI H Y (i + 1)) ∧ Blk w6 tb (tkC 0 va vo (.slice pv nv cv) ch 0 0 0) 97 ∧ Frm w w6 (fun k => k = tb)) := by
              obtain ⟨p6, c6, e, -⟩ := owns_len h6
              refine ⟨p6, _, c6, e, ?_, (HQ4.out.x.on hal).grow h8 (owns_ne HO2.out (HQ4.out.x.on hal) (by decide)), ?_⟩
              · show World.ownsRow _ _ _ _ _ _ _
                rw [HAh.out, List.length_append, List.map_append]
                exact h6
              · refine (HQ4.out.f.trans (Frm.of_below (F := fun k => k = tb) hal) (fun k hk => .inl hk)).trans (Frm.of_grown (F := fun k => w.heap.size ≤ k) h8 (fun g hg => .inl ((HO2.out).lt g hg).1)) (fun k hk => .inr hk)
            clear hal HO2 h6 h8
            refine hK.out _ _ ?_
            clear hK K
            try simp only [aP]
            refine tk (v := ?_) 11 rfl ?_ ?_
            rotate_left
            focus
              intro w9
              go_simp
              try with_reducible rfl
            try simp only [aP]
            refine tk (v := ?_) 12 rfl ?_ ?_
            rotate_left
            focus
              intro w9
              go_simp
              try with_reducible rfl
            try simp only [aP]
            exact hs4_8_9_10 v6 w6 H6
          · intro v6 w6 H6
            obtain ⟨p6, n6, c6, rfl, k1, k2, k3⟩ := H6.out
            have y3 := Blk.cell (i := 3) k2 rfl
            have g3 := k2.frozen 3
            have HS : Hid (SbS w (w6.setCell ⟨tb, 3, none⟩ (.slice p6 n6 c6)) tb ch va vo (.slice p6 n6 c6) H Y (i + 1)) := by
              refine ⟨k2.set 3 _, ?_, k3.trans (frm_set w6 tb 3 _ (F := fun k => k = tb) (.inl rfl)) (fun k hk => .inl hk), HQ4.out.b⟩
              exact owns_frm k1 (frm_set w6 tb 3 _ (F := fun k => k = tb) (.inl rfl)) (only_one k2) (by decide) (by decide)
            clear H6 k1 k2 k3
            refine wpAny_ready (rs := [13]) (by kernel_rfl) (by simp) ?_
            refine anyN_cons 13 rfl (by rfl) (fun K hK => ?_) AllReady.nil
            go_simp
            refine hK.out _ _ ?_
            clear hK K
            try simp only [aP]
            clear y3 g3
            refine wpAny_done (by kernel_rfl) ?_ _
            generalize (w6.setCell ⟨tb, 3, none⟩ (.slice p6 n6 c6)) = w7 at *
            go_wp2_with fail
            go_roundw
            case rel => exact ⟨i + 1, _, by omega, by go_num, HS⟩
            case measure => simp [intOf]; omega
      | false =>
        have HAh : Hid (ahI H Y (i + 1) = ahI H Y i) := ahI_off hltY hw
        rw [hw] at CI
        generalize Y[i].b = ob at *
        generalize Y[i].x.t = tq at *
        clear q1 q2 q3 q4 hrow1 hrow2 hdr q1d hob hz d1 hg HLr
        go_upto_region 4 with fail
        refine wp_region_any (by kernel_rfl) ?_
        change wpAny _ _ _ _ _ _ _ (World.drew _)
        generalize wr.drew = wd at *
        refine tk (v := ?_) 0 rfl ?_ ?_
        rotate_left
        focus
          intro w9
          go_simp
          try with_reducible rfl
        try simp only [aP]
        refine tk (v := ?_) 1 rfl ?_ ?_
        rotate_left
        focus
          intro w9
          go_simp
          try with_reducible rfl
        try simp only [aP]
        refine tk (v := ?_) 2 rfl ?_ ?_
        rotate_left
        focus
          intro w9
          go_simp
          try with_reducible rfl
        try simp only [aP]
        refine tk (v := ?_) 4 rfl ?_ ?_
        rotate_left
        focus
          intro w9
          go_simp
          try with_reducible rfl
        try simp only [aP]
        refine tk (v := ?_) 5 rfl ?_ ?_
        rotate_left
        focus
          intro w9
          go_simp
          try with_reducible rfl
        try simp only [aP]
        refine tk (v := ?_) 6 rfl ?_ ?_
        rotate_left
        focus
          intro w9
          go_simp
          try with_reducible rfl
        try simp only [aP]
        apply later1 (fun (w3 : World) => Hid (Below wd.heap.size wd w3))
        intro hs3_7_8
        apply later0
        intro hs3_7
        apply later0
        intro hs7
        apply later0
        intro hs3
        · refine wpAny_ready (rs := [3, 7]) (by kernel_rfl) (by simp) ?_
          refine anyN_cons 3 rfl (by rfl) (fun K hK => ?_) (anyN_cons 7 rfl (by rfl) (fun K hK => ?_) AllReady.nil)
          · go_simp
            refine hK.out _ _ ?_
            clear hK K
            try simp only [aP]
            exact hs3
          · go_simp
            refine hK.out _ _ ?_
            clear hK K
            try simp only [aP]
            exact hs7
        · refine wpAny_ready (rs := [7]) (by kernel_rfl) (by simp) ?_
          refine anyN_cons 7 rfl (by rfl) (fun K hK => ?_) AllReady.nil
          go_simp
          refine hK.out _ _ ?_
          clear hK K
          try simp only [aP]
          exact hs3_7
        · refine wpAny_ready (rs := [3]) (by kernel_rfl) (by simp) ?_
          refine anyN_cons 3 rfl (by rfl) (fun K hK => ?_) AllReady.nil
          go_simp
          refine hK.out _ _ ?_
          clear hK K
          try simp only [aP]
          exact hs3_7
        · refine wpAny_ready (rs := [8]) (by kernel_rfl) (by simp) ?_
          refine anyN_cons 8 rfl (by rfl) (fun K hK => ?_) AllReady.nil
          go_simp
          refine CI.out.mono ?_
          rintro e w3 ⟨rfl, hb3⟩
          dsimp only
          have H3 : Hid (Below wd.heap.size wd w3) := hb3
          clear hb3
          refine hK.out _ _ ?_
          clear hK K
          try simp only [aP]
          exact hs3_7_8 w3 H3
        · intro w3 H3
          refine wpAny_done (by kernel_rfl) ?_ _
          have HQ3 : Hid (SbS w w3 tb ch va vo (.slice pv nv cv) H Y (i + 1)) := by
            have h9 := HQd.out.on H3.out
            exact ⟨h9.x, by rw [HAh.out]; exact h9.o, h9.f, h9.b⟩
          clear H3 CI HQd HTk
          go_wp2_with fail
          go_roundw
          case rel => exact ⟨i + 1, _, by omega, by go_num, HQ3⟩
          case measure => simp [intOf]; omega
    · have g1 : decide ((i : Int) < (n : Int)) = false := by simp; omega
      have kb9 := (HLn.out.frm HI.out.f (only_one HB0.out) (fun y hy => HNe.out y hy)).b
      have z0 := Blk.cell (i := 0) kb9 rfl
      have x0 := Blk.cell (i := 0) HI.out.x rfl
      have f0 := HI.out.x.frozen 0
      have HZ : Hid ((∃ vh, Blk (wr.setCell ⟨tb, 0, none⟩ (.int .u64 (nx : Nat))) tb (tkC nx va vo vh ch 0 0 0) 97 ∧ OwnU (wr.setCell ⟨tb, 0, none⟩ (.int .u64 (nx : Nat))) w.heap.size vh (newT H nx (Y.map Tkr.x)).A) ∧ Frm w (wr.setCell ⟨tb, 0, none⟩ (.int .u64 (nx : Nat))) (fun k => k = tb)) := by
        refine ⟨⟨_, HI.out.x.set 0 _, ?_⟩, HI.out.f.trans (frm_set wr tb 0 _ (F := fun k => k = tb) (.inl rfl)) (fun k hk => .inl hk)⟩
        rw [← ahI_all, HN.out, ← heq]
        exact owns_frm HI.out.o (frm_set wr tb 0 _ (F := fun k => k = tb) (.inl rfl)) (only_one HI.out.x) (by decide) (by decide)
      clear kb9
      go_wp2_with fail
      go_end0
      exact ⟨rfl, HZ.out⟩
end Go.Proofs.YtcdamalpecedcaaGreat
