/- Layer 12: the law SkipTurns. -/
import Derived.Test.YthpkppfnfbkjoaaGLSkH
namespace Go.Proofs.Ythpkppfnfbkjoaa
open Go.RowKit
set_option maxRecDepth 100000

set_option maxHeartbeats 8000000 in
theorem lawTurns (L : List OpR) (q : Option Addr) (c : Nat) (a : LkR) (w : World) (hR : RdO w w.heap.size q L) (hlen : L.length ≤ 3518437208883) (hs : a.k.size ≤ 140737488351232) :
    Calls Try.prog 5 #[.slice q L.length c, .agg (lkC a)] w fun e w' => e = .returned (.bool true) ∧ Below w.heap.size w w' := by
  obtain ⟨aX, aB, aS⟩ := blk_new w #[.string a.k, .string a.lo, .string a.hi, .bool a.op, .bool a.back, .int .i64 a.most] 38
  have C1 : Hid (Calls _ _ _ _ _) := made_any true L q c w.heap.size (w.alloc (.cells #[.string a.k, .string a.lo, .string a.hi, .bool a.op, .bool a.back, .int .i64 a.most] 38)) (hR.keep aB) aB.size (by omega)
  have HX : Hid (Blk (w.alloc (.cells #[.string a.k, .string a.lo, .string a.hi, .bool a.op, .bool a.back, .int .i64 a.most] 38)) w.heap.size #[.string a.k, .string a.lo, .string a.hi, .bool a.op, .bool a.back, .int .i64 a.most] 38 ∧ Below w.heap.size w (w.alloc (.cells #[.string a.k, .string a.lo, .string a.hi, .bool a.op, .bool a.back, .int .i64 a.most] 38))) := ⟨aX, aB⟩
  have HN : Hid ((madeM true L).length ≤ L.length ∧ L.length ≤ 3518437208883 ∧ a.k.size ≤ 140737488351232) := ⟨by
    have := madeM_len true L L.length (Nat.le_refl _)
    rw [List.take_length] at this
    exact this, hlen, hs⟩
  clear aX aB aS hR hlen hs
  go_enter Try.func5, Try.ntmps5
  go_wp2_with fail
  generalize hw1 : (w.alloc (.cells #[.string a.k, .string a.lo, .string a.hi, .bool a.op, .bool a.back, .int .i64 a.most] 38)) = w1s at *
  refine C1.out.mono ?_
  rintro e w2 ⟨lb, rfl, q2⟩
  have HE : Hid (RiseE (madeM true L) ∧ (madeM true L).length < 4000000000000) := ⟨q2.rise, by have h1 := HN.out.1; have h2 := HN.out.2.1; omega⟩
  have HT : Hid (TuS w w2 w1s lb (madeM true L) a) := ⟨q2, HX.out.1.on q2.bel, HX.out.2.trans (q2.bel.mono HX.out.2.size)⟩
  have HSz : Hid (a.k.size ≤ 140737488351232) := HN.out.2.2
  clear C1 q2 HX hw1 HN
  generalize madeM true L = E at *
  obtain ⟨S, hS⟩ : ∃ S, selE E a.lo a.hi a.op = S := ⟨_, rfl⟩
  have HS : Hid (RiseE S ∧ S.length < 4000000000000) := by
    rw [← hS]
    exact ⟨sel_rise HE.out.1 _ _ _, Nat.lt_of_le_of_lt (sel_len _ _ _ _) HE.out.2⟩
  go_wp2_with fail
  have hdr : Below w2.heap.size w2 w2.drew := (Below.refl _ _).drew
  have HTd : Hid (TuS w w2.drew w1s lb E a) := HT.out.on hdr
  have CL : Hid (Calls _ _ _ _ _) := len_L lb E _ w2.drew HTd.out.l
  have CS : Hid (Calls _ _ _ _ _) := scan_L lb E a.lo a.hi a.op false (E.length : Nat) _ w2.drew HTd.out.l HE.out.2
  rw [scan_all HE.out.1] at CS
  have HK : Hid (w2.drew.cell? ⟨w.heap.size, 1, none⟩ = some (.string a.lo) ∧ w2.drew.cell? ⟨w.heap.size, 2, none⟩ = some (.string a.hi) ∧ w2.drew.cell? ⟨w.heap.size, 3, none⟩ = some (.bool a.op)) := ⟨Blk.cell (i := 1) HTd.out.x rfl, Blk.cell (i := 2) HTd.out.x rfl, Blk.cell (i := 3) HTd.out.x rfl⟩
  rw [hS] at CS
  clear hdr
  refine wp_region_any (by kernel_rfl) ?_
  change wpAny _ _ _ _ _ _ _ (World.drew _)
  generalize w2.drew = wd at *
  refine tk (v := ?_) 0 rfl ?_ ?_
  rotate_left
  focus
    intro w9
    go_simp
    try with_reducible rfl
  try simp only [aP]
  refine tk (v := ?_) 1 rfl ?_ ?_
  rotate_left
  focus
    intro w9
    go_simp
    try with_reducible rfl
  try simp only [aP]
  refine tk (v := ?_) 3 rfl ?_ ?_
  rotate_left
  focus
    intro w9
    go_simp
    try with_reducible rfl
  try simp only [aP]
  apply later2 (fun (v6 : Value) (w6 : World) => Hid (OwnE w6 wd.heap.size v6 S ∧ Below wd.heap.size wd w6))
  intro hs2_4_5
  apply later0
  intro hs2_4
  apply later0
  intro hs4
  apply later0
  intro hs2
  · obtain ⟨k1, k2, k3⟩ := HK.out
    refine wpAny_ready (rs := [2, 4]) (by kernel_rfl) (by simp) ?_
    refine anyN_cons 2 rfl (by rfl) (fun K hK => ?_) (anyN_cons 4 rfl (by rfl) (fun K hK => ?_) AllReady.nil)
    · go_simp
      refine hK.out _ _ ?_
      clear hK K
      try simp only [aP]
      exact hs2
    · go_simp
      refine CL.out.mono ?_
      rintro e w9 ⟨rfl, hw9⟩
      rw [hw9]
      clear hw9
      dsimp only
      refine hK.out _ _ ?_
      clear hK K
      try simp only [aP]
      exact hs4
  · obtain ⟨k1, k2, k3⟩ := HK.out
    refine wpAny_ready (rs := [4]) (by kernel_rfl) (by simp) ?_
    refine anyN_cons 4 rfl (by rfl) (fun K hK => ?_) AllReady.nil
    go_simp
    refine CL.out.mono ?_
    rintro e w9 ⟨rfl, hw9⟩
    rw [hw9]
    clear hw9
    dsimp only
    refine hK.out _ _ ?_
    clear hK K
    try simp only [aP]
    exact hs2_4
  · obtain ⟨k1, k2, k3⟩ := HK.out
    refine wpAny_ready (rs := [2]) (by kernel_rfl) (by simp) ?_
    refine anyN_cons 2 rfl (by rfl) (fun K hK => ?_) AllReady.nil
    go_simp
    refine hK.out _ _ ?_
    clear hK K
    try simp only [aP]
    exact hs2_4
  · obtain ⟨k1, k2, k3⟩ := HK.out
    refine wpAny_ready (rs := [5]) (by kernel_rfl) (by simp) ?_
    refine anyN_cons 5 rfl (by rfl) (fun K hK => ?_) AllReady.nil
    go_simp
    refine CS.out.mono ?_
    rintro e w6 ⟨v6, rfl, ho6, hb6⟩
    dsimp only
    have H6 : Hid (OwnE w6 wd.heap.size v6 S ∧ Below wd.heap.size wd w6) := ⟨ho6, hb6⟩
    clear ho6 hb6
    refine hK.out _ _ ?_
    clear hK K
    try simp only [aP]
    exact hs2_4_5 v6 w6 H6
  · intro v6 w6 H6
    refine wpAny_ready (rs := [6]) (by kernel_rfl) (by simp) ?_
    refine anyN_cons 6 rfl (by rfl) (fun K hK => ?_) AllReady.nil
    go_simp
    refine hK.out _ _ ?_
    clear hK K
    try simp only [aP]
    refine wpAny_done (by kernel_rfl) ?_ _
    obtain ⟨ho6, hb6⟩ := H6.out
    obtain ⟨pa, ca, rfl, hRA⟩ := own_rd ho6
    have HT3 : Hid (TuS w w6 w1s lb E a) := HTd.out.on hb6
    have HRA : Hid (RdE w6 pa S) := hRA
    clear H6 ho6 hb6 hRA CL CS HK HTd HT
    have HT := HT3
    clear HT3
    go_wp2_with fail
    have hdr : Below w6.heap.size w6 w6.drew := (Below.refl _ _).drew
    have HTd : Hid (TuS w w6.drew w1s lb E a) := HT.out.on hdr
    have CL : Hid (Calls _ _ _ _ _) := len_L lb E _ w6.drew HTd.out.l
    have CS : Hid (Calls _ _ _ _ _) := scan_L lb E a.lo a.hi a.op true (E.length : Nat) _ w6.drew HTd.out.l HE.out.2
    rw [scan_allB HE.out.1] at CS
    have HK : Hid (w6.drew.cell? ⟨w.heap.size, 1, none⟩ = some (.string a.lo) ∧ w6.drew.cell? ⟨w.heap.size, 2, none⟩ = some (.string a.hi) ∧ w6.drew.cell? ⟨w.heap.size, 3, none⟩ = some (.bool a.op)) := ⟨Blk.cell (i := 1) HTd.out.x rfl, Blk.cell (i := 2) HTd.out.x rfl, Blk.cell (i := 3) HTd.out.x rfl⟩
    rw [hS] at CS
    have HRAd : Hid (RdE w6.drew pa S) := HRA.out.on hdr
    clear hdr
    refine wp_region_any (by kernel_rfl) ?_
    change wpAny _ _ _ _ _ _ _ (World.drew _)
    generalize w6.drew = wd at *
    refine tk (v := ?_) 0 rfl ?_ ?_
    rotate_left
    focus
      intro w9
      go_simp
      try with_reducible rfl
    try simp only [aP]
    refine tk (v := ?_) 1 rfl ?_ ?_
    rotate_left
    focus
      intro w9
      go_simp
      try with_reducible rfl
    try simp only [aP]
    refine tk (v := ?_) 3 rfl ?_ ?_
    rotate_left
    focus
      intro w9
      go_simp
      try with_reducible rfl
    try simp only [aP]
    apply later2 (fun (v6 : Value) (w7 : World) => Hid (OwnE w7 wd.heap.size v6 S.reverse ∧ Below wd.heap.size wd w7))
    intro hs2_4_5
    apply later0
    intro hs2_4
    apply later0
    intro hs4
    apply later0
    intro hs2
    · obtain ⟨k1, k2, k3⟩ := HK.out
      refine wpAny_ready (rs := [2, 4]) (by kernel_rfl) (by simp) ?_
      refine anyN_cons 2 rfl (by rfl) (fun K hK => ?_) (anyN_cons 4 rfl (by rfl) (fun K hK => ?_) AllReady.nil)
      · go_simp
        refine hK.out _ _ ?_
        clear hK K
        try simp only [aP]
        exact hs2
      · go_simp
        refine CL.out.mono ?_
        rintro e w9 ⟨rfl, hw9⟩
        rw [hw9]
        clear hw9
        dsimp only
        refine hK.out _ _ ?_
        clear hK K
        try simp only [aP]
        exact hs4
    · obtain ⟨k1, k2, k3⟩ := HK.out
      refine wpAny_ready (rs := [4]) (by kernel_rfl) (by simp) ?_
      refine anyN_cons 4 rfl (by rfl) (fun K hK => ?_) AllReady.nil
      go_simp
      refine CL.out.mono ?_
      rintro e w9 ⟨rfl, hw9⟩
      rw [hw9]
      clear hw9
      dsimp only
      refine hK.out _ _ ?_
      clear hK K
      try simp only [aP]
      exact hs2_4
    · obtain ⟨k1, k2, k3⟩ := HK.out
      refine wpAny_ready (rs := [2]) (by kernel_rfl) (by simp) ?_
      refine anyN_cons 2 rfl (by rfl) (fun K hK => ?_) AllReady.nil
      go_simp
      refine hK.out _ _ ?_
      clear hK K
      try simp only [aP]
      exact hs2_4
    · obtain ⟨k1, k2, k3⟩ := HK.out
      refine wpAny_ready (rs := [5]) (by kernel_rfl) (by simp) ?_
      refine anyN_cons 5 rfl (by rfl) (fun K hK => ?_) AllReady.nil
      go_simp
      refine CS.out.mono ?_
      rintro e w7 ⟨v6, rfl, ho6, hb6⟩
      dsimp only
      have H6 : Hid (OwnE w7 wd.heap.size v6 S.reverse ∧ Below wd.heap.size wd w7) := ⟨ho6, hb6⟩
      clear ho6 hb6
      refine hK.out _ _ ?_
      clear hK K
      try simp only [aP]
      exact hs2_4_5 v6 w7 H6
    · intro v6 w7 H6
      refine wpAny_ready (rs := [6]) (by kernel_rfl) (by simp) ?_
      refine anyN_cons 6 rfl (by rfl) (fun K hK => ?_) AllReady.nil
      go_simp
      refine hK.out _ _ ?_
      clear hK K
      try simp only [aP]
      refine wpAny_done (by kernel_rfl) ?_ _
      obtain ⟨ho6, hb6⟩ := H6.out
      obtain ⟨pb, cb, rfl, hRB⟩ := own_rd ho6
      rw [List.length_reverse] at *
      have HT3 : Hid (TuS w w7 w1s lb E a) := HTd.out.on hb6
      have HRB : Hid (RdE w7 pb S.reverse) := hRB
      have HRA3 : Hid (RdE w7 pa S) := HRAd.out.on hb6
      clear H6 ho6 hb6 hRB CL CS HK HTd HT HRA HRAd
      have HT := HT3
      have HRA := HRA3
      clear HT3 HRA3
      clear hS
      go_wp2_with fail
      go_loopw [8] (fun sx wq => ∃ i : Nat, i ≤ S.length ∧ sx = .int .i64 (i : Int) ∧ Hid (TuS w wq w1s lb E a ∧ RdE wq pa S ∧ RdE wq pb S.reverse)) (fun sx _ => ((S.length : Int) - intOf sx).toNat)
      case atStart => exact ⟨0, by omega, rfl, HT.out, HRA.out, HRB.out⟩
      case round =>
        clear HT HRA HRB
        obtain ⟨i, hi, rfl, HI⟩ := hrel
        rcases Nat.lt_or_eq_of_le hi with hlt | heq
        · have g1 : decide ((i : Int) < (S.length : Int)) = true := by simp; omega
          obtain ⟨ga, rfl, -, a0, a1, a2⟩ := HI.out.2.1 i hlt
          obtain ⟨j, hj⟩ : ∃ j, S.length = j + 1 + i := ⟨S.length - 1 - i, by omega⟩
          have hjl : j < S.reverse.length := by rw [List.length_reverse]; omega
          obtain ⟨gb, rfl, -, b0, b1, b2⟩ := HI.out.2.2 j hjl
          rw [show S.reverse[j] = S[i] from by rw [List.getElem_reverse]; congr 1; omega] at b0 b1 b2
          obtain ⟨t, ht⟩ : ∃ t, S.length = t + 1 := ⟨S.length - 1, by omega⟩
          have hb9 : S.length < 4000000000000 := HS.out.2
          have e0 : IntKind.i64.wrap ((S.length : Int) - 1) = (t : Int) := by
            rw [show (S.length : Int) - 1 = (t : Int) by omega]
            exact wrap64_nat (by omega)
          have e1 : IntKind.i64.wrap ((t : Int) - (i : Int)) = (j : Int) := by
            rw [show (t : Int) - (i : Int) = (j : Int) by omega]
            exact wrap64_nat (by omega)
          clear ht
          have hjs : j < S.length := by omega
          have hq := run_eqE
          have hqg := run_eqGE
          have HI2 : Hid (∀ n, TuS w (wr.drewN n) w1s lb E a ∧ RdE (wr.drewN n) (some ⟨ga, 0, none⟩) S ∧ RdE (wr.drewN n) (some ⟨gb, 0, none⟩) S.reverse) := by
            intro n
            have hdr : Below wr.heap.size wr (wr.drewN n) := below_drewN (Below.refl _ _) n
            exact ⟨HI.out.1.on hdr, HI.out.2.1.on hdr, HI.out.2.2.on hdr⟩
          clear hjl hj
          by_cases h0 : i = 0
          · subst h0
            have e3 : IntKind.i64.wrap (t : Int) = (j : Int) := by
              rw [show (t : Int) = (t : Int) - ((0 : Nat) : Int) by omega]
              exact e1
            go_wp2_with fail
            go_quiet (fail)
            go_wp2_with fail
            go_roundw
            case rel => exact ⟨0 + 1, by omega, by go_num, HI2.out _⟩
            case measure => simp [intOf]; omega
          · obtain ⟨m, hm⟩ : ∃ m, i = m + 1 := ⟨i - 1, by omega⟩
            have hml : m < S.length := by omega
            obtain ⟨gc, ec, -, c0, -, -⟩ := HI.out.2.1 m hml
            cases ec
            have g2 : Op.bytesLess S[i].k.toList S[m].k.toList = false := ltB_asymm (HS.out.1.at (by omega) hlt)
            have g4 : (S[i].k.toList == S[m].k.toList) = false := lt_ne (HS.out.1.at (by omega) hlt)
            have e2 : IntKind.i64.wrap ((i : Int) - 1) = (m : Int) := by
              rw [show (i : Int) - 1 = (m : Int) by omega]
              exact wrap64_nat (by omega)
            have g3 : 0 < i := by omega
            clear hm h0
            go_wp2_with fail
            go_quiet (fail)
            go_wp2_with fail
            go_roundw
            case rel => exact ⟨i + 1, by omega, by go_num, HI2.out _⟩
            case measure => simp [intOf]; omega
        · have g1 : decide ((i : Int) < (S.length : Int)) = false := by simp; omega
          have HT : Hid (TuS w wr w1s lb E a) := HI.out.1
          clear HI HS
          cases hsk : seekE E a.k false with
          | none =>
            cases hsb : seekE E a.k true with
            | none =>
              have k0 := Blk.cell (i := 0) HT.out.x rfl
              have C3 : Hid (Calls _ _ _ _ _) := seek_L lb E a.k false w1s wr HT.out.l
              rw [hsk, show keyO (none : Option En) = ⟨#[]⟩ from rfl, show valO (none : Option En) = 0 from rfl, show hgtO (none : Option En) = 0 from rfl, show (none : Option En).isSome = false from rfl] at C3
              go_wp2_with fail
              refine C3.out.mono ?_
              rintro e w4 ⟨rfl, hb4⟩
              obtain ⟨eX, eB, eS⟩ := blk_new w4 #[.string ⟨#[]⟩, .int .i64 0, .int .i64 0] 48
              have hb5 := hb4.trans (eB.mono hb4.size)
              have HB5 : Hid (Below wr.heap.size wr (w4.alloc (.cells #[.string ⟨#[]⟩, .int .i64 0, .int .i64 0] 48)) ∧ wr.heap.size ≤ w4.heap.size) := ⟨hb5, hb4.size⟩
              have HEB : Hid (Blk (w4.alloc (.cells #[.string ⟨#[]⟩, .int .i64 0, .int .i64 0] 48)) w4.heap.size #[.string ⟨#[]⟩, .int .i64 0, .int .i64 0] 48) := eX
              clear k0 C3 hb4 hb5 eX eB eS hi heq g1
              have k0 := Blk.cell (i := 0) (HT.out.on HB5.out.1).x rfl
              have C4 : Hid (Calls _ _ _ _ _) := scan_L lb E a.k ⟨#[]⟩ true false 1 w1s (w4.alloc (.cells #[.string ⟨#[]⟩, .int .i64 0, .int .i64 0] 48)) (HT.out.on HB5.out.1).l HE.out.2
              rw [scan_one HE.out.1, hsk, show (none : Option En).toList = ([] : List En) from rfl] at C4
              go_wp2_with fail
              generalize (w4.alloc (.cells #[.string ⟨#[]⟩, .int .i64 0, .int .i64 0] 48)) = w5 at *
              generalize w4.heap.size = eb at *
              refine C4.out.mono ?_
              rintro e w6 ⟨v6, rfl, ho6, hb6⟩
              obtain ⟨pf, cf, hv6, hRF⟩ := own_rd ho6
              rw [show ([] : List En).length = 0 from rfl] at hv6
              subst hv6
              have HB6 : Hid (Below wr.heap.size wr w6 ∧ wr.heap.size ≤ eb) := ⟨HB5.out.1.trans (hb6.mono HB5.out.1.size), HB5.out.2⟩
              have HEB6 : Hid (Blk w6 eb #[.string ⟨#[]⟩, .int .i64 0, .int .i64 0] 48) := HEB.out.on hb6
              have x0 := Blk.cell (i := 0) HEB6.out rfl
              have x1 := Blk.cell (i := 1) HEB6.out rfl
              have x2 := Blk.cell (i := 2) HEB6.out rfl
              have hq := run_eqE
              have hqg := run_eqGE
              clear k0 C4 ho6 hb6 HB5 HEB hRF
              go_wp2_with fail
              go_quiet (fail)
              have HB7 : Hid (Below wr.heap.size wr (w6.drewN nq) ∧ wr.heap.size ≤ eb) := ⟨below_drewN HB6.out.1 nq, HB6.out.2⟩
              have HEB7 : Hid (Blk (w6.drewN nq) eb #[.string ⟨#[]⟩, .int .i64 0, .int .i64 0] 48) := HEB6.out.on (below_drewN (Below.refl _ _) nq)
              clear HB6 HEB6 x0 x1 x2 hq hqg
              generalize w6.drewN nq = w7 at *
              have k0 := Blk.cell (i := 0) (HT.out.on HB7.out.1).x rfl
              have C5 : Hid (Calls _ _ _ _ _) := seek_L lb E a.k true w1s w7 (HT.out.on HB7.out.1).l
              rw [hsb, show keyO (none : Option En) = ⟨#[]⟩ from rfl, show valO (none : Option En) = 0 from rfl, show hgtO (none : Option En) = 0 from rfl, show (none : Option En).isSome = false from rfl] at C5
              go_wp2_with fail
              refine C5.out.mono ?_
              rintro e w8 ⟨rfl, hb8⟩
              have HB8 : Hid (Below wr.heap.size wr (((w8.setCell ⟨eb, 0, none⟩ (.string ⟨#[]⟩)).setCell ⟨eb, 1, none⟩ (.int .i64 0)).setCell ⟨eb, 2, none⟩ (.int .i64 0))) := below_set (below_set (below_set (HB7.out.1.trans (hb8.mono HB7.out.1.size)) HB7.out.2 0 _) HB7.out.2 1 _) HB7.out.2 2 _
              have hE8 := HEB7.out.on hb8
              have x0 := Blk.cell (i := 0) hE8 rfl
              have x1 := Blk.cell (i := 1) hE8 rfl
              have x2 := Blk.cell (i := 2) hE8 rfl
              have y0 := Blk.frozen hE8 0
              have y1 := Blk.frozen hE8 1
              have y2 := Blk.frozen hE8 2
              have HEB9 : Hid (Blk (((w8.setCell ⟨eb, 0, none⟩ (.string ⟨#[]⟩)).setCell ⟨eb, 1, none⟩ (.int .i64 0)).setCell ⟨eb, 2, none⟩ (.int .i64 0)) eb #[.string ⟨#[]⟩, .int .i64 0, .int .i64 0] 48) := ((hE8.set 0 (.string ⟨#[]⟩)).set 1 (.int .i64 0)).set 2 (.int .i64 0)
              clear k0 C5 hE8 hb8 HB7 HEB7
              have k0 := Blk.cell (i := 0) (HT.out.on HB8.out).x rfl
              have C6 : Hid (Calls _ _ _ _ _) := scan_L lb E ⟨#[]⟩ (a.k ++ ⟨#[0]⟩) false true 1 w1s (((w8.setCell ⟨eb, 0, none⟩ (.string ⟨#[]⟩)).setCell ⟨eb, 1, none⟩ (.int .i64 0)).setCell ⟨eb, 2, none⟩ (.int .i64 0)) (HT.out.on HB8.out).l HE.out.2
              rw [scan_oneB HE.out.1, hsb, show (none : Option En).toList = ([] : List En) from rfl] at C6
              have hsz : a.k.size ≤ 140737488351232 := HSz.out
              go_wp2_with fail
              clear x0 x1 x2 y0 y1 y2 hsz
              generalize (((w8.setCell ⟨eb, 0, none⟩ (.string ⟨#[]⟩)).setCell ⟨eb, 1, none⟩ (.int .i64 0)).setCell ⟨eb, 2, none⟩ (.int .i64 0)) = w9 at *
              refine C6.out.mono ?_
              rintro e w10 ⟨v7, rfl, ho7, hb7⟩
              obtain ⟨pf, cf, hv7, hRF⟩ := own_rd ho7
              rw [show ([] : List En).length = 0 from rfl] at hv7
              subst hv7
              have HBx : Hid (Below w.heap.size w w10) := HT.out.b.trans ((HB8.out.trans (hb7.mono HB8.out.size)).mono HT.out.b.size)
              have HEBx : Hid (Blk w10 eb #[.string ⟨#[]⟩, .int .i64 0, .int .i64 0] 48) := HEB9.out.on hb7
              clear k0 C6 ho7 hb7 HB8 HEB9 hRF HT
              go_wp2_with fail
              have hdr : Below w10.heap.size w10 w10.drew := (Below.refl _ _).drew
              have HBd : Hid (Below w.heap.size w w10.drew) := HBx.out.trans (hdr.mono HBx.out.size)
              have CA : Hid (Calls _ _ _ _ _) := awake_any w10.drew
              clear hdr HEBx HBx
              refine wp_region_any (by kernel_rfl) ?_
              change wpAny _ _ _ _ _ _ _ (World.drew _)
              generalize w10.drew = wd at *
              refine tk (v := ?_) 0 rfl ?_ ?_
              rotate_left
              focus
                intro w9
                go_simp
                try with_reducible rfl
              try simp only [aP]
              refine tk (v := ?_) 1 rfl ?_ ?_
              rotate_left
              focus
                intro w9
                go_simp
                try with_reducible rfl
              try simp only [aP]
              refine tk (v := ?_) 2 rfl ?_ ?_
              rotate_left
              focus
                intro w9
                go_simp
                try with_reducible rfl
              try simp only [aP]
              refine tk (v := ?_) 3 rfl ?_ ?_
              rotate_left
              focus
                intro w9
                go_simp
                try with_reducible rfl
              try simp only [aP]
              refine tk (v := ?_) 4 rfl ?_ ?_
              rotate_left
              focus
                intro w9
                go_simp
                try with_reducible rfl
              try simp only [aP]
              refine tk (v := ?_) 5 rfl ?_ ?_
              rotate_left
              focus
                intro w9
                go_simp
                try with_reducible rfl
              try simp only [aP]
              refine tk (v := ?_) 6 rfl ?_ ?_
              rotate_left
              focus
                intro w9
                go_simp
                try with_reducible rfl
              try simp only [aP]
              refine tk (v := ?_) 7 rfl ?_ ?_
              rotate_left
              focus
                intro w9
                go_simp
                try with_reducible rfl
              try simp only [aP]
              refine tk (v := ?_) 8 rfl ?_ ?_
              rotate_left
              focus
                intro w9
                go_simp
                try with_reducible rfl
              try simp only [aP]
              refine sk 9 rfl ?_
              try simp only [aP]
              refine sk 10 rfl ?_
              try simp only [aP]
              refine sk 11 rfl ?_
              try simp only [aP]
              refine sk 12 rfl ?_
              try simp only [aP]
              refine sk 13 rfl ?_
              try simp only [aP]
              refine tk (v := ?_) 14 rfl ?_ ?_
              rotate_left
              focus
                intro w9
                go_simp
                try with_reducible rfl
              try simp only [aP]
              refine tk (v := ?_) 15 rfl ?_ ?_
              rotate_left
              focus
                intro w9
                go_simp
                try with_reducible rfl
              try simp only [aP]
              refine tk (v := ?_) 16 rfl ?_ ?_
              rotate_left
              focus
                intro w9
                go_simp
                try with_reducible rfl
              try simp only [aP]
              refine wpAny_ready (rs := [17]) (by kernel_rfl) (by simp) ?_
              refine anyN_cons 17 rfl (by rfl) (fun K hK => ?_) AllReady.nil
              go_simp
              refine CA.out.mono ?_
              rintro e w11 ⟨rfl, hb11⟩
              dsimp only
              have HF : Hid (Below w.heap.size w w11) := HBd.out.trans (hb11.mono HBd.out.size)
              clear hb11 CA
              refine hK.out _ _ ?_
              clear hK K
              try simp only [aP]
              refine tk (v := ?_) 18 rfl ?_ ?_
              rotate_left
              focus
                intro w9
                go_simp
                try with_reducible rfl
              try simp only [aP]
              refine wpAny_ready (rs := [19]) (by kernel_rfl) (by simp) ?_
              refine anyN_cons 19 rfl (by rfl) (fun K hK => ?_) AllReady.nil
              go_simp
              refine hK.out _ _ ?_
              clear hK K
              try simp only [aP]
              refine wpAny_done (by kernel_rfl) ?_ _
              go_wp2_with fail
              go_ret
              exact ⟨rfl, HF.out⟩
            | some e1 =>
              have k0 := Blk.cell (i := 0) HT.out.x rfl
              have C3 : Hid (Calls _ _ _ _ _) := seek_L lb E a.k false w1s wr HT.out.l
              rw [hsk, show keyO (none : Option En) = ⟨#[]⟩ from rfl, show valO (none : Option En) = 0 from rfl, show hgtO (none : Option En) = 0 from rfl, show (none : Option En).isSome = false from rfl] at C3
              go_wp2_with fail
              refine C3.out.mono ?_
              rintro e w4 ⟨rfl, hb4⟩
              obtain ⟨eX, eB, eS⟩ := blk_new w4 #[.string ⟨#[]⟩, .int .i64 0, .int .i64 0] 48
              have hb5 := hb4.trans (eB.mono hb4.size)
              have HB5 : Hid (Below wr.heap.size wr (w4.alloc (.cells #[.string ⟨#[]⟩, .int .i64 0, .int .i64 0] 48)) ∧ wr.heap.size ≤ w4.heap.size) := ⟨hb5, hb4.size⟩
              have HEB : Hid (Blk (w4.alloc (.cells #[.string ⟨#[]⟩, .int .i64 0, .int .i64 0] 48)) w4.heap.size #[.string ⟨#[]⟩, .int .i64 0, .int .i64 0] 48) := eX
              clear k0 C3 hb4 hb5 eX eB eS hi heq g1
              have k0 := Blk.cell (i := 0) (HT.out.on HB5.out.1).x rfl
              have C4 : Hid (Calls _ _ _ _ _) := scan_L lb E a.k ⟨#[]⟩ true false 1 w1s (w4.alloc (.cells #[.string ⟨#[]⟩, .int .i64 0, .int .i64 0] 48)) (HT.out.on HB5.out.1).l HE.out.2
              rw [scan_one HE.out.1, hsk, show (none : Option En).toList = ([] : List En) from rfl] at C4
              go_wp2_with fail
              generalize (w4.alloc (.cells #[.string ⟨#[]⟩, .int .i64 0, .int .i64 0] 48)) = w5 at *
              generalize w4.heap.size = eb at *
              refine C4.out.mono ?_
              rintro e w6 ⟨v6, rfl, ho6, hb6⟩
              obtain ⟨pf, cf, hv6, hRF⟩ := own_rd ho6
              rw [show ([] : List En).length = 0 from rfl] at hv6
              subst hv6
              have HB6 : Hid (Below wr.heap.size wr w6 ∧ wr.heap.size ≤ eb) := ⟨HB5.out.1.trans (hb6.mono HB5.out.1.size), HB5.out.2⟩
              have HEB6 : Hid (Blk w6 eb #[.string ⟨#[]⟩, .int .i64 0, .int .i64 0] 48) := HEB.out.on hb6
              have x0 := Blk.cell (i := 0) HEB6.out rfl
              have x1 := Blk.cell (i := 1) HEB6.out rfl
              have x2 := Blk.cell (i := 2) HEB6.out rfl
              have hq := run_eqE
              have hqg := run_eqGE
              clear k0 C4 ho6 hb6 HB5 HEB hRF
              go_wp2_with fail
              go_quiet (fail)
              have HB7 : Hid (Below wr.heap.size wr (w6.drewN nq) ∧ wr.heap.size ≤ eb) := ⟨below_drewN HB6.out.1 nq, HB6.out.2⟩
              have HEB7 : Hid (Blk (w6.drewN nq) eb #[.string ⟨#[]⟩, .int .i64 0, .int .i64 0] 48) := HEB6.out.on (below_drewN (Below.refl _ _) nq)
              clear HB6 HEB6 x0 x1 x2 hq hqg
              generalize w6.drewN nq = w7 at *
              have k0 := Blk.cell (i := 0) (HT.out.on HB7.out.1).x rfl
              have C5 : Hid (Calls _ _ _ _ _) := seek_L lb E a.k true w1s w7 (HT.out.on HB7.out.1).l
              rw [hsb, show keyO (some e1) = e1.k from rfl, show valO (some e1) = e1.v from rfl, show hgtO (some e1) = (e1.h : Nat) from rfl, show (some e1).isSome = true from rfl] at C5
              go_wp2_with fail
              refine C5.out.mono ?_
              rintro e w8 ⟨rfl, hb8⟩
              have HB8 : Hid (Below wr.heap.size wr (((w8.setCell ⟨eb, 0, none⟩ (.string e1.k)).setCell ⟨eb, 1, none⟩ (.int .i64 e1.v)).setCell ⟨eb, 2, none⟩ (.int .i64 (e1.h : Nat)))) := below_set (below_set (below_set (HB7.out.1.trans (hb8.mono HB7.out.1.size)) HB7.out.2 0 _) HB7.out.2 1 _) HB7.out.2 2 _
              have hE8 := HEB7.out.on hb8
              have x0 := Blk.cell (i := 0) hE8 rfl
              have x1 := Blk.cell (i := 1) hE8 rfl
              have x2 := Blk.cell (i := 2) hE8 rfl
              have y0 := Blk.frozen hE8 0
              have y1 := Blk.frozen hE8 1
              have y2 := Blk.frozen hE8 2
              have HEB9 : Hid (Blk (((w8.setCell ⟨eb, 0, none⟩ (.string e1.k)).setCell ⟨eb, 1, none⟩ (.int .i64 e1.v)).setCell ⟨eb, 2, none⟩ (.int .i64 (e1.h : Nat))) eb #[.string e1.k, .int .i64 e1.v, .int .i64 (e1.h : Nat)] 48) := ((hE8.set 0 (.string e1.k)).set 1 (.int .i64 e1.v)).set 2 (.int .i64 (e1.h : Nat))
              clear k0 C5 hE8 hb8 HB7 HEB7
              have k0 := Blk.cell (i := 0) (HT.out.on HB8.out).x rfl
              have C6 : Hid (Calls _ _ _ _ _) := scan_L lb E ⟨#[]⟩ (a.k ++ ⟨#[0]⟩) false true 1 w1s (((w8.setCell ⟨eb, 0, none⟩ (.string e1.k)).setCell ⟨eb, 1, none⟩ (.int .i64 e1.v)).setCell ⟨eb, 2, none⟩ (.int .i64 (e1.h : Nat))) (HT.out.on HB8.out).l HE.out.2
              rw [scan_oneB HE.out.1, hsb, show (some e1).toList = [e1] from rfl] at C6
              have hsz : a.k.size ≤ 140737488351232 := HSz.out
              go_wp2_with fail
              clear x0 x1 x2 y0 y1 y2 hsz
              generalize (((w8.setCell ⟨eb, 0, none⟩ (.string e1.k)).setCell ⟨eb, 1, none⟩ (.int .i64 e1.v)).setCell ⟨eb, 2, none⟩ (.int .i64 (e1.h : Nat))) = w9 at *
              refine C6.out.mono ?_
              rintro e w10 ⟨v7, rfl, ho7, hb7⟩
              obtain ⟨pf, cf, hv7, hRF⟩ := own_rd ho7
              rw [show [e1].length = 1 from rfl] at hv7
              subst hv7
              have HBx : Hid (Below w.heap.size w w10) := HT.out.b.trans ((HB8.out.trans (hb7.mono HB8.out.size)).mono HT.out.b.size)
              have HEBx : Hid (Blk w10 eb #[.string e1.k, .int .i64 e1.v, .int .i64 (e1.h : Nat)] 48) := HEB9.out.on hb7
              obtain ⟨gfb, efp, -, f0, f1, f2⟩ := hRF 0 (by simp)
              subst efp
              rw [show [e1][0] = e1 from rfl] at f0 f1 f2
              rw [Nat.zero_mul] at f0 f1 f2
              rw [Nat.zero_add] at f1 f2
              clear k0 C6 ho7 hb7 HB8 HEB9 hRF HT
              go_wp2_with fail
              have hdr : Below w10.heap.size w10 w10.drew := (Below.refl _ _).drew
              have HBd : Hid (Below w.heap.size w w10.drew) := HBx.out.trans (hdr.mono HBx.out.size)
              have CA : Hid (Calls _ _ _ _ _) := awake_any w10.drew
              have x0 : w10.drew.cell? ⟨eb, 0, none⟩ = some (.string e1.k) := Blk.cell (i := 0) (HEBx.out.on hdr) rfl
              have x1 : w10.drew.cell? ⟨eb, 1, none⟩ = some (.int .i64 e1.v) := Blk.cell (i := 1) (HEBx.out.on hdr) rfl
              have x2 : w10.drew.cell? ⟨eb, 2, none⟩ = some (.int .i64 (e1.h : Nat)) := Blk.cell (i := 2) (HEBx.out.on hdr) rfl
              have z0 : w10.drew.cell? ⟨gfb, 0, none⟩ = some (.string e1.k) := f0
              have z1 : w10.drew.cell? ⟨gfb, 1, none⟩ = some (.int .i64 e1.v) := f1
              have z2 : w10.drew.cell? ⟨gfb, 2, none⟩ = some (.int .i64 (e1.h : Nat)) := f2
              have hq := run_eqE
              have hqg := run_eqGE
              clear f0 f1 f2
              clear hdr HEBx HBx
              refine wp_region_any (by kernel_rfl) ?_
              change wpAny _ _ _ _ _ _ _ (World.drew _)
              generalize w10.drew = wd at *
              refine tk (v := ?_) 0 rfl ?_ ?_
              rotate_left
              focus
                intro w9
                go_simp
                try with_reducible rfl
              try simp only [aP]
              refine tk (v := ?_) 1 rfl ?_ ?_
              rotate_left
              focus
                intro w9
                go_simp
                try with_reducible rfl
              try simp only [aP]
              refine tk (v := ?_) 2 rfl ?_ ?_
              rotate_left
              focus
                intro w9
                go_simp
                try with_reducible rfl
              try simp only [aP]
              refine tk (v := ?_) 3 rfl ?_ ?_
              rotate_left
              focus
                intro w9
                go_simp
                try with_reducible rfl
              try simp only [aP]
              refine tk (v := ?_) 4 rfl ?_ ?_
              rotate_left
              focus
                intro w9
                go_simp
                try with_reducible rfl
              try simp only [aP]
              refine tk (v := ?_) 5 rfl ?_ ?_
              rotate_left
              focus
                intro w9
                go_simp
                try with_reducible rfl
              try simp only [aP]
              refine tk (v := ?_) 6 rfl ?_ ?_
              rotate_left
              focus
                intro w9
                go_simp
                try with_reducible rfl
              try simp only [aP]
              refine tk (v := ?_) 7 rfl ?_ ?_
              rotate_left
              focus
                intro w9
                go_simp
                try with_reducible rfl
              try simp only [aP]
              refine tk (v := ?_) 8 rfl ?_ ?_
              rotate_left
              focus
                intro w9
                go_simp
                try with_reducible rfl
              try simp only [aP]
              refine tk (v := ?_) 10 rfl ?_ ?_
              rotate_left
              focus
                intro w9
                go_simp
                try with_reducible rfl
              try simp only [aP]
              refine tk (v := ?_) 11 rfl ?_ ?_
              rotate_left
              focus
                intro w9
                go_simp
                try with_reducible rfl
              try simp only [aP]
              refine wpAny_ready (rs := [9, 12]) (by kernel_rfl) (by simp) ?_
              refine anyN_cons 9 rfl (by rfl) (fun K hK => ?_) (anyN_cons 12 rfl (by rfl) (fun K hK => ?_) AllReady.nil)
              · go_simp
                refine hK.out _ _ ?_
                clear hK K
                try simp only [aP]
                refine wpAny_ready (rs := [12]) (by kernel_rfl) (by simp) ?_
                refine anyN_cons 12 rfl (by rfl) (fun K hK => ?_) AllReady.nil
                go_simp
                refine hK.out _ _ ?_
                clear hK K
                try simp only [aP]
                refine tk (v := ?_) 13 rfl ?_ ?_
                rotate_left
                focus
                  intro w9
                  go_simp
                  try with_reducible rfl
                try simp only [aP]
                refine tk (v := ?_) 14 rfl ?_ ?_
                rotate_left
                focus
                  intro w9
                  go_simp
                  try with_reducible rfl
                try simp only [aP]
                refine tk (v := ?_) 15 rfl ?_ ?_
                rotate_left
                focus
                  intro w9
                  go_simp
                  try with_reducible rfl
                try simp only [aP]
                refine tk (v := ?_) 16 rfl ?_ ?_
                rotate_left
                focus
                  intro w9
                  go_simp
                  try with_reducible rfl
                try simp only [aP]
                refine wpAny_ready (rs := [17]) (by kernel_rfl) (by simp) ?_
                refine anyN_cons 17 rfl (by rfl) (fun K hK => ?_) AllReady.nil
                go_simp
                refine CA.out.mono ?_
                rintro e w11 ⟨rfl, hb11⟩
                dsimp only
                have HF : Hid (Below w.heap.size w w11) := HBd.out.trans (hb11.mono HBd.out.size)
                clear hb11 CA
                refine hK.out _ _ ?_
                clear hK K
                try simp only [aP]
                refine tk (v := ?_) 18 rfl ?_ ?_
                rotate_left
                focus
                  intro w9
                  go_simp
                  try with_reducible rfl
                try simp only [aP]
                refine wpAny_ready (rs := [19]) (by kernel_rfl) (by simp) ?_
                refine anyN_cons 19 rfl (by rfl) (fun K hK => ?_) AllReady.nil
                go_simp
                refine hK.out _ _ ?_
                clear hK K
                try simp only [aP]
                refine wpAny_done (by kernel_rfl) ?_ _
                go_wp2_with fail
                go_ret
                exact ⟨rfl, HF.out⟩
              · go_simp
                refine hK.out _ _ ?_
                clear hK K
                try simp only [aP]
                refine wpAny_ready (rs := [9]) (by kernel_rfl) (by simp) ?_
                refine anyN_cons 9 rfl (by rfl) (fun K hK => ?_) AllReady.nil
                go_simp
                refine hK.out _ _ ?_
                clear hK K
                try simp only [aP]
                refine tk (v := ?_) 13 rfl ?_ ?_
                rotate_left
                focus
                  intro w9
                  go_simp
                  try with_reducible rfl
                try simp only [aP]
                refine tk (v := ?_) 14 rfl ?_ ?_
                rotate_left
                focus
                  intro w9
                  go_simp
                  try with_reducible rfl
                try simp only [aP]
                refine tk (v := ?_) 15 rfl ?_ ?_
                rotate_left
                focus
                  intro w9
                  go_simp
                  try with_reducible rfl
                try simp only [aP]
                refine tk (v := ?_) 16 rfl ?_ ?_
                rotate_left
                focus
                  intro w9
                  go_simp
                  try with_reducible rfl
                try simp only [aP]
                refine wpAny_ready (rs := [17]) (by kernel_rfl) (by simp) ?_
                refine anyN_cons 17 rfl (by rfl) (fun K hK => ?_) AllReady.nil
                go_simp
                refine CA.out.mono ?_
                rintro e w11 ⟨rfl, hb11⟩
                dsimp only
                have HF : Hid (Below w.heap.size w w11) := HBd.out.trans (hb11.mono HBd.out.size)
                clear hb11 CA
                refine hK.out _ _ ?_
                clear hK K
                try simp only [aP]
                refine tk (v := ?_) 18 rfl ?_ ?_
                rotate_left
                focus
                  intro w9
                  go_simp
                  try with_reducible rfl
                try simp only [aP]
                refine wpAny_ready (rs := [19]) (by kernel_rfl) (by simp) ?_
                refine anyN_cons 19 rfl (by rfl) (fun K hK => ?_) AllReady.nil
                go_simp
                refine hK.out _ _ ?_
                clear hK K
                try simp only [aP]
                refine wpAny_done (by kernel_rfl) ?_ _
                go_wp2_with fail
                go_ret
                exact ⟨rfl, HF.out⟩
          | some e0 =>
            cases hsb : seekE E a.k true with
            | none =>
              have k0 := Blk.cell (i := 0) HT.out.x rfl
              have C3 : Hid (Calls _ _ _ _ _) := seek_L lb E a.k false w1s wr HT.out.l
              rw [hsk, show keyO (some e0) = e0.k from rfl, show valO (some e0) = e0.v from rfl, show hgtO (some e0) = (e0.h : Nat) from rfl, show (some e0).isSome = true from rfl] at C3
              go_wp2_with fail
              refine C3.out.mono ?_
              rintro e w4 ⟨rfl, hb4⟩
              obtain ⟨eX, eB, eS⟩ := blk_new w4 #[.string e0.k, .int .i64 e0.v, .int .i64 (e0.h : Nat)] 48
              have hb5 := hb4.trans (eB.mono hb4.size)
              have HB5 : Hid (Below wr.heap.size wr (w4.alloc (.cells #[.string e0.k, .int .i64 e0.v, .int .i64 (e0.h : Nat)] 48)) ∧ wr.heap.size ≤ w4.heap.size) := ⟨hb5, hb4.size⟩
              have HEB : Hid (Blk (w4.alloc (.cells #[.string e0.k, .int .i64 e0.v, .int .i64 (e0.h : Nat)] 48)) w4.heap.size #[.string e0.k, .int .i64 e0.v, .int .i64 (e0.h : Nat)] 48) := eX
              clear k0 C3 hb4 hb5 eX eB eS hi heq g1
              have k0 := Blk.cell (i := 0) (HT.out.on HB5.out.1).x rfl
              have C4 : Hid (Calls _ _ _ _ _) := scan_L lb E a.k ⟨#[]⟩ true false 1 w1s (w4.alloc (.cells #[.string e0.k, .int .i64 e0.v, .int .i64 (e0.h : Nat)] 48)) (HT.out.on HB5.out.1).l HE.out.2
              rw [scan_one HE.out.1, hsk, show (some e0).toList = [e0] from rfl] at C4
              go_wp2_with fail
              generalize (w4.alloc (.cells #[.string e0.k, .int .i64 e0.v, .int .i64 (e0.h : Nat)] 48)) = w5 at *
              generalize w4.heap.size = eb at *
              refine C4.out.mono ?_
              rintro e w6 ⟨v6, rfl, ho6, hb6⟩
              obtain ⟨pf, cf, hv6, hRF⟩ := own_rd ho6
              rw [show [e0].length = 1 from rfl] at hv6
              subst hv6
              have HB6 : Hid (Below wr.heap.size wr w6 ∧ wr.heap.size ≤ eb) := ⟨HB5.out.1.trans (hb6.mono HB5.out.1.size), HB5.out.2⟩
              have HEB6 : Hid (Blk w6 eb #[.string e0.k, .int .i64 e0.v, .int .i64 (e0.h : Nat)] 48) := HEB.out.on hb6
              obtain ⟨gf, efp, -, f0, f1, f2⟩ := hRF 0 (by simp)
              subst efp
              rw [show [e0][0] = e0 from rfl] at f0 f1 f2
              rw [Nat.zero_mul] at f0 f1 f2
              rw [Nat.zero_add] at f1 f2
              have x0 := Blk.cell (i := 0) HEB6.out rfl
              have x1 := Blk.cell (i := 1) HEB6.out rfl
              have x2 := Blk.cell (i := 2) HEB6.out rfl
              have hq := run_eqE
              have hqg := run_eqGE
              clear k0 C4 ho6 hb6 HB5 HEB hRF
              go_wp2_with fail
              go_quiet (fail)
              have HB7 : Hid (Below wr.heap.size wr (w6.drewN nq) ∧ wr.heap.size ≤ eb) := ⟨below_drewN HB6.out.1 nq, HB6.out.2⟩
              have HEB7 : Hid (Blk (w6.drewN nq) eb #[.string e0.k, .int .i64 e0.v, .int .i64 (e0.h : Nat)] 48) := HEB6.out.on (below_drewN (Below.refl _ _) nq)
              clear HB6 HEB6 x0 x1 x2 hq hqg f0 f1 f2
              generalize w6.drewN nq = w7 at *
              have k0 := Blk.cell (i := 0) (HT.out.on HB7.out.1).x rfl
              have C5 : Hid (Calls _ _ _ _ _) := seek_L lb E a.k true w1s w7 (HT.out.on HB7.out.1).l
              rw [hsb, show keyO (none : Option En) = ⟨#[]⟩ from rfl, show valO (none : Option En) = 0 from rfl, show hgtO (none : Option En) = 0 from rfl, show (none : Option En).isSome = false from rfl] at C5
              go_wp2_with fail
              refine C5.out.mono ?_
              rintro e w8 ⟨rfl, hb8⟩
              have HB8 : Hid (Below wr.heap.size wr (((w8.setCell ⟨eb, 0, none⟩ (.string ⟨#[]⟩)).setCell ⟨eb, 1, none⟩ (.int .i64 0)).setCell ⟨eb, 2, none⟩ (.int .i64 0))) := below_set (below_set (below_set (HB7.out.1.trans (hb8.mono HB7.out.1.size)) HB7.out.2 0 _) HB7.out.2 1 _) HB7.out.2 2 _
              have hE8 := HEB7.out.on hb8
              have x0 := Blk.cell (i := 0) hE8 rfl
              have x1 := Blk.cell (i := 1) hE8 rfl
              have x2 := Blk.cell (i := 2) hE8 rfl
              have y0 := Blk.frozen hE8 0
              have y1 := Blk.frozen hE8 1
              have y2 := Blk.frozen hE8 2
              have HEB9 : Hid (Blk (((w8.setCell ⟨eb, 0, none⟩ (.string ⟨#[]⟩)).setCell ⟨eb, 1, none⟩ (.int .i64 0)).setCell ⟨eb, 2, none⟩ (.int .i64 0)) eb #[.string ⟨#[]⟩, .int .i64 0, .int .i64 0] 48) := ((hE8.set 0 (.string ⟨#[]⟩)).set 1 (.int .i64 0)).set 2 (.int .i64 0)
              clear k0 C5 hE8 hb8 HB7 HEB7
              have k0 := Blk.cell (i := 0) (HT.out.on HB8.out).x rfl
              have C6 : Hid (Calls _ _ _ _ _) := scan_L lb E ⟨#[]⟩ (a.k ++ ⟨#[0]⟩) false true 1 w1s (((w8.setCell ⟨eb, 0, none⟩ (.string ⟨#[]⟩)).setCell ⟨eb, 1, none⟩ (.int .i64 0)).setCell ⟨eb, 2, none⟩ (.int .i64 0)) (HT.out.on HB8.out).l HE.out.2
              rw [scan_oneB HE.out.1, hsb, show (none : Option En).toList = ([] : List En) from rfl] at C6
              have hsz : a.k.size ≤ 140737488351232 := HSz.out
              go_wp2_with fail
              clear x0 x1 x2 y0 y1 y2 hsz
              generalize (((w8.setCell ⟨eb, 0, none⟩ (.string ⟨#[]⟩)).setCell ⟨eb, 1, none⟩ (.int .i64 0)).setCell ⟨eb, 2, none⟩ (.int .i64 0)) = w9 at *
              refine C6.out.mono ?_
              rintro e w10 ⟨v7, rfl, ho7, hb7⟩
              obtain ⟨pf, cf, hv7, hRF⟩ := own_rd ho7
              rw [show ([] : List En).length = 0 from rfl] at hv7
              subst hv7
              have HBx : Hid (Below w.heap.size w w10) := HT.out.b.trans ((HB8.out.trans (hb7.mono HB8.out.size)).mono HT.out.b.size)
              have HEBx : Hid (Blk w10 eb #[.string ⟨#[]⟩, .int .i64 0, .int .i64 0] 48) := HEB9.out.on hb7
              clear k0 C6 ho7 hb7 HB8 HEB9 hRF HT
              go_wp2_with fail
              have hdr : Below w10.heap.size w10 w10.drew := (Below.refl _ _).drew
              have HBd : Hid (Below w.heap.size w w10.drew) := HBx.out.trans (hdr.mono HBx.out.size)
              have CA : Hid (Calls _ _ _ _ _) := awake_any w10.drew
              clear hdr HEBx HBx
              refine wp_region_any (by kernel_rfl) ?_
              change wpAny _ _ _ _ _ _ _ (World.drew _)
              generalize w10.drew = wd at *
              refine tk (v := ?_) 0 rfl ?_ ?_
              rotate_left
              focus
                intro w9
                go_simp
                try with_reducible rfl
              try simp only [aP]
              refine tk (v := ?_) 1 rfl ?_ ?_
              rotate_left
              focus
                intro w9
                go_simp
                try with_reducible rfl
              try simp only [aP]
              refine tk (v := ?_) 2 rfl ?_ ?_
              rotate_left
              focus
                intro w9
                go_simp
                try with_reducible rfl
              try simp only [aP]
              refine tk (v := ?_) 3 rfl ?_ ?_
              rotate_left
              focus
                intro w9
                go_simp
                try with_reducible rfl
              try simp only [aP]
              refine tk (v := ?_) 4 rfl ?_ ?_
              rotate_left
              focus
                intro w9
                go_simp
                try with_reducible rfl
              try simp only [aP]
              refine tk (v := ?_) 5 rfl ?_ ?_
              rotate_left
              focus
                intro w9
                go_simp
                try with_reducible rfl
              try simp only [aP]
              refine tk (v := ?_) 6 rfl ?_ ?_
              rotate_left
              focus
                intro w9
                go_simp
                try with_reducible rfl
              try simp only [aP]
              refine tk (v := ?_) 7 rfl ?_ ?_
              rotate_left
              focus
                intro w9
                go_simp
                try with_reducible rfl
              try simp only [aP]
              refine tk (v := ?_) 8 rfl ?_ ?_
              rotate_left
              focus
                intro w9
                go_simp
                try with_reducible rfl
              try simp only [aP]
              refine sk 9 rfl ?_
              try simp only [aP]
              refine sk 10 rfl ?_
              try simp only [aP]
              refine sk 11 rfl ?_
              try simp only [aP]
              refine sk 12 rfl ?_
              try simp only [aP]
              refine sk 13 rfl ?_
              try simp only [aP]
              refine tk (v := ?_) 14 rfl ?_ ?_
              rotate_left
              focus
                intro w9
                go_simp
                try with_reducible rfl
              try simp only [aP]
              refine tk (v := ?_) 15 rfl ?_ ?_
              rotate_left
              focus
                intro w9
                go_simp
                try with_reducible rfl
              try simp only [aP]
              refine tk (v := ?_) 16 rfl ?_ ?_
              rotate_left
              focus
                intro w9
                go_simp
                try with_reducible rfl
              try simp only [aP]
              refine wpAny_ready (rs := [17]) (by kernel_rfl) (by simp) ?_
              refine anyN_cons 17 rfl (by rfl) (fun K hK => ?_) AllReady.nil
              go_simp
              refine CA.out.mono ?_
              rintro e w11 ⟨rfl, hb11⟩
              dsimp only
              have HF : Hid (Below w.heap.size w w11) := HBd.out.trans (hb11.mono HBd.out.size)
              clear hb11 CA
              refine hK.out _ _ ?_
              clear hK K
              try simp only [aP]
              refine tk (v := ?_) 18 rfl ?_ ?_
              rotate_left
              focus
                intro w9
                go_simp
                try with_reducible rfl
              try simp only [aP]
              refine wpAny_ready (rs := [19]) (by kernel_rfl) (by simp) ?_
              refine anyN_cons 19 rfl (by rfl) (fun K hK => ?_) AllReady.nil
              go_simp
              refine hK.out _ _ ?_
              clear hK K
              try simp only [aP]
              refine wpAny_done (by kernel_rfl) ?_ _
              go_wp2_with fail
              go_ret
              exact ⟨rfl, HF.out⟩
            | some e1 =>
              have k0 := Blk.cell (i := 0) HT.out.x rfl
              have C3 : Hid (Calls _ _ _ _ _) := seek_L lb E a.k false w1s wr HT.out.l
              rw [hsk, show keyO (some e0) = e0.k from rfl, show valO (some e0) = e0.v from rfl, show hgtO (some e0) = (e0.h : Nat) from rfl, show (some e0).isSome = true from rfl] at C3
              go_wp2_with fail
              refine C3.out.mono ?_
              rintro e w4 ⟨rfl, hb4⟩
              obtain ⟨eX, eB, eS⟩ := blk_new w4 #[.string e0.k, .int .i64 e0.v, .int .i64 (e0.h : Nat)] 48
              have hb5 := hb4.trans (eB.mono hb4.size)
              have HB5 : Hid (Below wr.heap.size wr (w4.alloc (.cells #[.string e0.k, .int .i64 e0.v, .int .i64 (e0.h : Nat)] 48)) ∧ wr.heap.size ≤ w4.heap.size) := ⟨hb5, hb4.size⟩
              have HEB : Hid (Blk (w4.alloc (.cells #[.string e0.k, .int .i64 e0.v, .int .i64 (e0.h : Nat)] 48)) w4.heap.size #[.string e0.k, .int .i64 e0.v, .int .i64 (e0.h : Nat)] 48) := eX
              clear k0 C3 hb4 hb5 eX eB eS hi heq g1
              have k0 := Blk.cell (i := 0) (HT.out.on HB5.out.1).x rfl
              have C4 : Hid (Calls _ _ _ _ _) := scan_L lb E a.k ⟨#[]⟩ true false 1 w1s (w4.alloc (.cells #[.string e0.k, .int .i64 e0.v, .int .i64 (e0.h : Nat)] 48)) (HT.out.on HB5.out.1).l HE.out.2
              rw [scan_one HE.out.1, hsk, show (some e0).toList = [e0] from rfl] at C4
              go_wp2_with fail
              generalize (w4.alloc (.cells #[.string e0.k, .int .i64 e0.v, .int .i64 (e0.h : Nat)] 48)) = w5 at *
              generalize w4.heap.size = eb at *
              refine C4.out.mono ?_
              rintro e w6 ⟨v6, rfl, ho6, hb6⟩
              obtain ⟨pf, cf, hv6, hRF⟩ := own_rd ho6
              rw [show [e0].length = 1 from rfl] at hv6
              subst hv6
              have HB6 : Hid (Below wr.heap.size wr w6 ∧ wr.heap.size ≤ eb) := ⟨HB5.out.1.trans (hb6.mono HB5.out.1.size), HB5.out.2⟩
              have HEB6 : Hid (Blk w6 eb #[.string e0.k, .int .i64 e0.v, .int .i64 (e0.h : Nat)] 48) := HEB.out.on hb6
              obtain ⟨gf, efp, -, f0, f1, f2⟩ := hRF 0 (by simp)
              subst efp
              rw [show [e0][0] = e0 from rfl] at f0 f1 f2
              rw [Nat.zero_mul] at f0 f1 f2
              rw [Nat.zero_add] at f1 f2
              have x0 := Blk.cell (i := 0) HEB6.out rfl
              have x1 := Blk.cell (i := 1) HEB6.out rfl
              have x2 := Blk.cell (i := 2) HEB6.out rfl
              have hq := run_eqE
              have hqg := run_eqGE
              clear k0 C4 ho6 hb6 HB5 HEB hRF
              go_wp2_with fail
              go_quiet (fail)
              have HB7 : Hid (Below wr.heap.size wr (w6.drewN nq) ∧ wr.heap.size ≤ eb) := ⟨below_drewN HB6.out.1 nq, HB6.out.2⟩
              have HEB7 : Hid (Blk (w6.drewN nq) eb #[.string e0.k, .int .i64 e0.v, .int .i64 (e0.h : Nat)] 48) := HEB6.out.on (below_drewN (Below.refl _ _) nq)
              clear HB6 HEB6 x0 x1 x2 hq hqg f0 f1 f2
              generalize w6.drewN nq = w7 at *
              have k0 := Blk.cell (i := 0) (HT.out.on HB7.out.1).x rfl
              have C5 : Hid (Calls _ _ _ _ _) := seek_L lb E a.k true w1s w7 (HT.out.on HB7.out.1).l
              rw [hsb, show keyO (some e1) = e1.k from rfl, show valO (some e1) = e1.v from rfl, show hgtO (some e1) = (e1.h : Nat) from rfl, show (some e1).isSome = true from rfl] at C5
              go_wp2_with fail
              refine C5.out.mono ?_
              rintro e w8 ⟨rfl, hb8⟩
              have HB8 : Hid (Below wr.heap.size wr (((w8.setCell ⟨eb, 0, none⟩ (.string e1.k)).setCell ⟨eb, 1, none⟩ (.int .i64 e1.v)).setCell ⟨eb, 2, none⟩ (.int .i64 (e1.h : Nat)))) := below_set (below_set (below_set (HB7.out.1.trans (hb8.mono HB7.out.1.size)) HB7.out.2 0 _) HB7.out.2 1 _) HB7.out.2 2 _
              have hE8 := HEB7.out.on hb8
              have x0 := Blk.cell (i := 0) hE8 rfl
              have x1 := Blk.cell (i := 1) hE8 rfl
              have x2 := Blk.cell (i := 2) hE8 rfl
              have y0 := Blk.frozen hE8 0
              have y1 := Blk.frozen hE8 1
              have y2 := Blk.frozen hE8 2
              have HEB9 : Hid (Blk (((w8.setCell ⟨eb, 0, none⟩ (.string e1.k)).setCell ⟨eb, 1, none⟩ (.int .i64 e1.v)).setCell ⟨eb, 2, none⟩ (.int .i64 (e1.h : Nat))) eb #[.string e1.k, .int .i64 e1.v, .int .i64 (e1.h : Nat)] 48) := ((hE8.set 0 (.string e1.k)).set 1 (.int .i64 e1.v)).set 2 (.int .i64 (e1.h : Nat))
              clear k0 C5 hE8 hb8 HB7 HEB7
              have k0 := Blk.cell (i := 0) (HT.out.on HB8.out).x rfl
              have C6 : Hid (Calls _ _ _ _ _) := scan_L lb E ⟨#[]⟩ (a.k ++ ⟨#[0]⟩) false true 1 w1s (((w8.setCell ⟨eb, 0, none⟩ (.string e1.k)).setCell ⟨eb, 1, none⟩ (.int .i64 e1.v)).setCell ⟨eb, 2, none⟩ (.int .i64 (e1.h : Nat))) (HT.out.on HB8.out).l HE.out.2
              rw [scan_oneB HE.out.1, hsb, show (some e1).toList = [e1] from rfl] at C6
              have hsz : a.k.size ≤ 140737488351232 := HSz.out
              go_wp2_with fail
              clear x0 x1 x2 y0 y1 y2 hsz
              generalize (((w8.setCell ⟨eb, 0, none⟩ (.string e1.k)).setCell ⟨eb, 1, none⟩ (.int .i64 e1.v)).setCell ⟨eb, 2, none⟩ (.int .i64 (e1.h : Nat))) = w9 at *
              refine C6.out.mono ?_
              rintro e w10 ⟨v7, rfl, ho7, hb7⟩
              obtain ⟨pf, cf, hv7, hRF⟩ := own_rd ho7
              rw [show [e1].length = 1 from rfl] at hv7
              subst hv7
              have HBx : Hid (Below w.heap.size w w10) := HT.out.b.trans ((HB8.out.trans (hb7.mono HB8.out.size)).mono HT.out.b.size)
              have HEBx : Hid (Blk w10 eb #[.string e1.k, .int .i64 e1.v, .int .i64 (e1.h : Nat)] 48) := HEB9.out.on hb7
              obtain ⟨gfb, efp, -, f0, f1, f2⟩ := hRF 0 (by simp)
              subst efp
              rw [show [e1][0] = e1 from rfl] at f0 f1 f2
              rw [Nat.zero_mul] at f0 f1 f2
              rw [Nat.zero_add] at f1 f2
              clear k0 C6 ho7 hb7 HB8 HEB9 hRF HT
              go_wp2_with fail
              have hdr : Below w10.heap.size w10 w10.drew := (Below.refl _ _).drew
              have HBd : Hid (Below w.heap.size w w10.drew) := HBx.out.trans (hdr.mono HBx.out.size)
              have CA : Hid (Calls _ _ _ _ _) := awake_any w10.drew
              have x0 : w10.drew.cell? ⟨eb, 0, none⟩ = some (.string e1.k) := Blk.cell (i := 0) (HEBx.out.on hdr) rfl
              have x1 : w10.drew.cell? ⟨eb, 1, none⟩ = some (.int .i64 e1.v) := Blk.cell (i := 1) (HEBx.out.on hdr) rfl
              have x2 : w10.drew.cell? ⟨eb, 2, none⟩ = some (.int .i64 (e1.h : Nat)) := Blk.cell (i := 2) (HEBx.out.on hdr) rfl
              have z0 : w10.drew.cell? ⟨gfb, 0, none⟩ = some (.string e1.k) := f0
              have z1 : w10.drew.cell? ⟨gfb, 1, none⟩ = some (.int .i64 e1.v) := f1
              have z2 : w10.drew.cell? ⟨gfb, 2, none⟩ = some (.int .i64 (e1.h : Nat)) := f2
              have hq := run_eqE
              have hqg := run_eqGE
              clear f0 f1 f2
              clear hdr HEBx HBx
              refine wp_region_any (by kernel_rfl) ?_
              change wpAny _ _ _ _ _ _ _ (World.drew _)
              generalize w10.drew = wd at *
              refine tk (v := ?_) 0 rfl ?_ ?_
              rotate_left
              focus
                intro w9
                go_simp
                try with_reducible rfl
              try simp only [aP]
              refine tk (v := ?_) 1 rfl ?_ ?_
              rotate_left
              focus
                intro w9
                go_simp
                try with_reducible rfl
              try simp only [aP]
              refine tk (v := ?_) 2 rfl ?_ ?_
              rotate_left
              focus
                intro w9
                go_simp
                try with_reducible rfl
              try simp only [aP]
              refine tk (v := ?_) 3 rfl ?_ ?_
              rotate_left
              focus
                intro w9
                go_simp
                try with_reducible rfl
              try simp only [aP]
              refine tk (v := ?_) 4 rfl ?_ ?_
              rotate_left
              focus
                intro w9
                go_simp
                try with_reducible rfl
              try simp only [aP]
              refine tk (v := ?_) 5 rfl ?_ ?_
              rotate_left
              focus
                intro w9
                go_simp
                try with_reducible rfl
              try simp only [aP]
              refine tk (v := ?_) 6 rfl ?_ ?_
              rotate_left
              focus
                intro w9
                go_simp
                try with_reducible rfl
              try simp only [aP]
              refine tk (v := ?_) 7 rfl ?_ ?_
              rotate_left
              focus
                intro w9
                go_simp
                try with_reducible rfl
              try simp only [aP]
              refine tk (v := ?_) 8 rfl ?_ ?_
              rotate_left
              focus
                intro w9
                go_simp
                try with_reducible rfl
              try simp only [aP]
              refine tk (v := ?_) 10 rfl ?_ ?_
              rotate_left
              focus
                intro w9
                go_simp
                try with_reducible rfl
              try simp only [aP]
              refine tk (v := ?_) 11 rfl ?_ ?_
              rotate_left
              focus
                intro w9
                go_simp
                try with_reducible rfl
              try simp only [aP]
              refine wpAny_ready (rs := [9, 12]) (by kernel_rfl) (by simp) ?_
              refine anyN_cons 9 rfl (by rfl) (fun K hK => ?_) (anyN_cons 12 rfl (by rfl) (fun K hK => ?_) AllReady.nil)
              · go_simp
                refine hK.out _ _ ?_
                clear hK K
                try simp only [aP]
                refine wpAny_ready (rs := [12]) (by kernel_rfl) (by simp) ?_
                refine anyN_cons 12 rfl (by rfl) (fun K hK => ?_) AllReady.nil
                go_simp
                refine hK.out _ _ ?_
                clear hK K
                try simp only [aP]
                refine tk (v := ?_) 13 rfl ?_ ?_
                rotate_left
                focus
                  intro w9
                  go_simp
                  try with_reducible rfl
                try simp only [aP]
                refine tk (v := ?_) 14 rfl ?_ ?_
                rotate_left
                focus
                  intro w9
                  go_simp
                  try with_reducible rfl
                try simp only [aP]
                refine tk (v := ?_) 15 rfl ?_ ?_
                rotate_left
                focus
                  intro w9
                  go_simp
                  try with_reducible rfl
                try simp only [aP]
                refine tk (v := ?_) 16 rfl ?_ ?_
                rotate_left
                focus
                  intro w9
                  go_simp
                  try with_reducible rfl
                try simp only [aP]
                refine wpAny_ready (rs := [17]) (by kernel_rfl) (by simp) ?_
                refine anyN_cons 17 rfl (by rfl) (fun K hK => ?_) AllReady.nil
                go_simp
                refine CA.out.mono ?_
                rintro e w11 ⟨rfl, hb11⟩
                dsimp only
                have HF : Hid (Below w.heap.size w w11) := HBd.out.trans (hb11.mono HBd.out.size)
                clear hb11 CA
                refine hK.out _ _ ?_
                clear hK K
                try simp only [aP]
                refine tk (v := ?_) 18 rfl ?_ ?_
                rotate_left
                focus
                  intro w9
                  go_simp
                  try with_reducible rfl
                try simp only [aP]
                refine wpAny_ready (rs := [19]) (by kernel_rfl) (by simp) ?_
                refine anyN_cons 19 rfl (by rfl) (fun K hK => ?_) AllReady.nil
                go_simp
                refine hK.out _ _ ?_
                clear hK K
                try simp only [aP]
                refine wpAny_done (by kernel_rfl) ?_ _
                go_wp2_with fail
                go_ret
                exact ⟨rfl, HF.out⟩
              · go_simp
                refine hK.out _ _ ?_
                clear hK K
                try simp only [aP]
                refine wpAny_ready (rs := [9]) (by kernel_rfl) (by simp) ?_
                refine anyN_cons 9 rfl (by rfl) (fun K hK => ?_) AllReady.nil
                go_simp
                refine hK.out _ _ ?_
                clear hK K
                try simp only [aP]
                refine tk (v := ?_) 13 rfl ?_ ?_
                rotate_left
                focus
                  intro w9
                  go_simp
                  try with_reducible rfl
                try simp only [aP]
                refine tk (v := ?_) 14 rfl ?_ ?_
                rotate_left
                focus
                  intro w9
                  go_simp
                  try with_reducible rfl
                try simp only [aP]
                refine tk (v := ?_) 15 rfl ?_ ?_
                rotate_left
                focus
                  intro w9
                  go_simp
                  try with_reducible rfl
                try simp only [aP]
                refine tk (v := ?_) 16 rfl ?_ ?_
                rotate_left
                focus
                  intro w9
                  go_simp
                  try with_reducible rfl
                try simp only [aP]
                refine wpAny_ready (rs := [17]) (by kernel_rfl) (by simp) ?_
                refine anyN_cons 17 rfl (by rfl) (fun K hK => ?_) AllReady.nil
                go_simp
                refine CA.out.mono ?_
                rintro e w11 ⟨rfl, hb11⟩
                dsimp only
                have HF : Hid (Below w.heap.size w w11) := HBd.out.trans (hb11.mono HBd.out.size)
                clear hb11 CA
                refine hK.out _ _ ?_
                clear hK K
                try simp only [aP]
                refine tk (v := ?_) 18 rfl ?_ ?_
                rotate_left
                focus
                  intro w9
                  go_simp
                  try with_reducible rfl
                try simp only [aP]
                refine wpAny_ready (rs := [19]) (by kernel_rfl) (by simp) ?_
                refine anyN_cons 19 rfl (by rfl) (fun K hK => ?_) AllReady.nil
                go_simp
                refine hK.out _ _ ?_
                clear hK K
                try simp only [aP]
                refine wpAny_done (by kernel_rfl) ?_ _
                go_wp2_with fail
                go_ret
                exact ⟨rfl, HF.out⟩

end Go.Proofs.Ythpkppfnfbkjoaa
