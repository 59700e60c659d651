/- The document's Wrote. The document's Try. -/
import Derived.Test.YtcknhjabdjbjiaaGreatGWLg13
import Derived.Test.YtcknhjabdjbjiaaGreatGWLg12
import Derived.Test.YtcknhjabdjbjiaaGreatGWRs2
import Derived.Test.YtcknhjabdjbjiaaGreatGWRs8
import Derived.Test.YtcknhjabdjbjiaaGreatGWNt
namespace Go.Proofs.YtcknhjabdjbjiaaGreat
open Go.RowKit
set_option maxRecDepth 100000

set_option maxHeartbeats 8000000 in
theorem rwrote_any (a : Ft) (va0 va1 va2 : Value) (B fr : Nat) (v : Value) (M : List Cm) (w : World) (hX : DocC w B v M) (hI : InvC M) (ha : RdF w va0 va1 va2 a) :
    Calls Tryz.prog 17 #[v, .agg #[va0, va1, va2], .int .u64 (fr : Nat)] w fun e w' => ∃ q, e = .returned (clV q) ∧ WrQ a M fr q ∧ Below w.heap.size w w' := by
  obtain ⟨p0, c0, e0, -⟩ := ha.p.f
  obtain ⟨p1, c1, e1, -⟩ := ha.s.f
  obtain ⟨p2, c2, e2, -⟩ := ha.w.f
  obtain ⟨n0, hn0⟩ : ∃ n, a.P.length = n := ⟨_, rfl⟩
  obtain ⟨n1, hn1⟩ : ∃ n, a.S.length = n := ⟨_, rfl⟩
  obtain ⟨n2, hn2⟩ : ∃ n, a.W.length = n := ⟨_, rfl⟩
  rw [hn0] at e0
  rw [hn1] at e1
  rw [hn2] at e2
  subst e0 e1 e2
  clear hn0 hn1 hn2
  obtain ⟨pm, cm, rfl, hrow⟩ := hX.drop
  obtain ⟨n, hn⟩ : ∃ n, M.length = n := ⟨_, rfl⟩
  rw [hn] at hX ⊢
  have HRw : Hid (RowD w pm M) := hrow
  have HXw : Hid (DocC w B (.slice pm n cm) M) := hX
  have HI : Hid (InvC M) := hI
  have HLn : Hid (M.length = n) := hn
  have hn4 : n ≤ 4096 := by have := hI.len; omega
  obtain ⟨w2, hw2⟩ : ∃ w2, ((w.alloc (.cells #[.slice p0 n0 c0, .slice p1 n1 c1, .slice p2 n2 c2] 37)).alloc (.cells #[.int .u64 0, .int .i64 0, .int .i64 0, .string ⟨#[]⟩] 41)) = w2 := ⟨_, rfl⟩
  have HB2 : Hid (Below w.heap.size w w2) := by rw [← hw2]; exact ((Below.refl _ _).alloc (Nat.le_refl _) _).alloc (by simp) _
  have HKA : Hid (Blk w2 w.heap.size #[.slice p0 n0 c0, .slice p1 n1 c1, .slice p2 n2 c2] 37) := by rw [← hw2]; exact (Blk.new w _ _).keep (B := w.heap.size + 1) ((Below.refl _ _).alloc (by simp) _) (by omega)
  have HKB : Hid (Blk w2 (w.heap.size + 1) #[.int .u64 0, .int .i64 0, .int .i64 0, .string ⟨#[]⟩] 41) := by
    rw [← hw2]
    have h := Blk.new (w.alloc (.cells #[.slice p0 n0 c0, .slice p1 n1 c1, .slice p2 n2 c2] 37)) #[.int .u64 0, .int .i64 0, .int .i64 0, .string ⟨#[]⟩] 41
    rw [World.size_alloc] at h
    exact h
  have HA2 : Hid (RdF w2 _ _ _ a) := ha.on HB2.out
  have CC : Hid (Calls _ _ _ _ _) := rcheck_any a _ _ _ w2 HA2.out
  have k0 := HKA.out.cell (i := 0) rfl
  have k1 := HKA.out.cell (i := 1) rfl
  have k2 := HKA.out.cell (i := 2) rfl
  clear hX ha hI hrow hn
  go_enter Tryz.func17, Tryz.ntmps17
  go_wp2_with fail
  refine CC.out.mono ?_
  rintro e w3 ⟨rfl, hb3⟩
  clear CC k0 k1 k2 hw2
  have HB3 : Hid (Below w.heap.size w w3) := HB2.out.trans (hb3.mono HB2.out.size)
  have HA3 : Hid (RdF w3 _ _ _ a) := HA2.out.on hb3
  have HK3 : Hid (Blk w3 w.heap.size #[.slice p0 n0 c0, .slice p1 n1 c1, .slice p2 n2 c2] 37) := HKA.out.on hb3
  have HZ3 : Hid (Blk w3 (w.heap.size + 1) #[.int .u64 0, .int .i64 0, .int .i64 0, .string ⟨#[]⟩] 41) := HKB.out.on hb3
  clear hb3 HB2 HA2 HKA HKB
  by_cases hca : chkF a = 0
  · have HCA : Hid (chkF a = 0) := hca
    rw [hca]
    clear hca
    go_wp2_with fail
    go_loopw [8] (fun i wr => ∃ j : Nat, j ≤ n ∧ i = .int .i64 (j : Int) ∧ Hid (Below w3.heap.size w3 wr) ∧ Hid (∀ k (hk : k < M.length), k < j → fr < M[k].s → ∀ x ∈ M[k].W, ¬ a.wrs x)) (fun i _ => n - (intOf i).toNat)
    case atStart => exact ⟨0, Nat.zero_le _, by go_num, Below.refl _ _, fun k _ hk => absurd hk (by omega)⟩
    case round =>
      obtain ⟨j, hj, rfl, HB, HNo⟩ := hrel
      have HBr : Hid (Below w.heap.size w wr) := HB3.out.trans (HB.out.mono HB3.out.size)
      have HKr : Hid (Blk wr w.heap.size #[.slice p0 n0 c0, .slice p1 n1 c1, .slice p2 n2 c2] 37) := HK3.out.on HB.out
      have HZr : Hid (Blk wr (w.heap.size + 1) #[.int .u64 0, .int .i64 0, .int .i64 0, .string ⟨#[]⟩] 41) := HZ3.out.on HB.out
      have HAr : Hid (RdF wr _ _ _ a) := HA3.out.on HB.out
      have HRr : Hid (RowD wr pm M) := HRw.out.on HBr.out
      have HXr : Hid (DocC wr B (.slice pm n cm) M) := HXw.out.on HBr.out
      clear HB3 HK3 HZ3 HA3
      by_cases hj0 : j = n
      · subst hj0
        have HQ : Hid (WrQ a M fr none) := ⟨fun _ c hc hf x hx => by
          obtain ⟨k, hk, rfl⟩ := List.getElem_of_mem hc
          exact HNo.out k hk (by have := HLn.out; omega) hf x hx, fun h => absurd HCA.out h⟩
        have z0 := HZr.out.cell (i := 0) rfl
        have f0 := HZr.out.frozen 0
        have z1 := HZr.out.cell (i := 1) rfl
        have f1 := HZr.out.frozen 1
        have z2 := HZr.out.cell (i := 2) rfl
        have f2 := HZr.out.frozen 2
        have z3 := HZr.out.cell (i := 3) rfl
        have f3 := HZr.out.frozen 3
        have H4 : Hid (Blk ((((wr.setCell ⟨w.heap.size + 1, 0, none⟩ (.int .u64 0)).setCell ⟨w.heap.size + 1, 1, none⟩ (.int .i64 0)).setCell ⟨w.heap.size + 1, 2, none⟩ (.int .i64 0)).setCell ⟨w.heap.size + 1, 3, none⟩ (.string ⟨#[]⟩)) (w.heap.size + 1) #[(.int .u64 0), (.int .i64 0), (.int .i64 0), (.string ⟨#[]⟩)] 41 ∧ Frm wr ((((wr.setCell ⟨w.heap.size + 1, 0, none⟩ (.int .u64 0)).setCell ⟨w.heap.size + 1, 1, none⟩ (.int .i64 0)).setCell ⟨w.heap.size + 1, 2, none⟩ (.int .i64 0)).setCell ⟨w.heap.size + 1, 3, none⟩ (.string ⟨#[]⟩)) (fun k => k = w.heap.size + 1)) := set4 HZr.out
        have HE4 : Hid (Below w.heap.size w ((((wr.setCell ⟨w.heap.size + 1, 0, none⟩ (.int .u64 0)).setCell ⟨w.heap.size + 1, 1, none⟩ (.int .i64 0)).setCell ⟨w.heap.size + 1, 2, none⟩ (.int .i64 0)).setCell ⟨w.heap.size + 1, 3, none⟩ (.string ⟨#[]⟩))) := HBr.out.trans (H4.out.2.below HBr.out.size (fun k hk => by omega))
        go_wp2_with fail
        clear z0 z1 z2 z3 f0 f1 f2 f3
        generalize (((wr.setCell ⟨w.heap.size + 1, 0, none⟩ (.int .u64 0)).setCell ⟨w.heap.size + 1, 1, none⟩ (.int .i64 0)).setCell ⟨w.heap.size + 1, 2, none⟩ (.int .i64 0)).setCell ⟨w.heap.size + 1, 3, none⟩ (.string ⟨#[]⟩) = wz at *
        have r0 := H4.out.1.cell (i := 0) rfl
        have r1 := H4.out.1.cell (i := 1) rfl
        have r2 := H4.out.1.cell (i := 2) rfl
        have r3 := H4.out.1.cell (i := 3) rfl
        refine bodyPost_ret (v := clV none) (by simp [clV, results, Tryz.results17, go_sem, r0, r1, r2, r3]) rfl ?_
        exact ⟨_, rfl, HQ.out, HE4.out⟩
      · have hj1 : j < n := by omega
        have hjM : j < M.length := by have := HLn.out; omega
        obtain ⟨b, o, rfl, hbl, d0, d1⟩ := HRr.out j hjM
        obtain ⟨s, hs⟩ : ∃ s, M[j].s = s := ⟨_, rfl⟩
        obtain ⟨v2, hv2⟩ : ∃ v2, M[j].v2 = v2 := ⟨_, rfl⟩
        rw [hs] at d0
        rw [hv2] at d1
        have HS : Hid (M[j].s = s) := hs
        by_cases hsf : s ≤ fr
        · have HNo2 : Hid (∀ k (hk : k < M.length), k < j + 1 → fr < M[k].s → ∀ x ∈ M[k].W, ¬ a.wrs x) := fun k hk hkj hf => by
            by_cases hk2 : k = j
            · subst hk2
              have := HS.out
              omega
            · exact HNo.out k hk (by omega) hf
          clear hs hv2 d1 HS hjM
          go_wp2_with fail
          go_roundw
          case rel => exact ⟨j + 1, hj1, by go_num, HB, HNo2⟩
          case measure => simp [intOf]; omega
        · have hsf2 : fr < s := by omega
          have hftj := HXr.out.ft M[j] (List.getElem_mem hjM)
          rw [hv2] at hftj
          have CQ : Hid (∀ w7 : World, Below wr.heap.size wr w7 → Calls Tryz.prog 40 #[.agg #[.slice p0 n0 c0, .slice p1 n1 c1, .slice p2 n2 c2], .agg #[.slice none 0 0, .slice none 0 0, v2]] w7 fun e w' => ∃ oo : Option Pt, IsMin (fun x => x ∈ M[j].W ∧ a.wrs x) oo ∧ e = .returned (.tuple #[.agg #[.int .i64 (lP oo).t, .int .i64 (lP oo).i, .string (lP oo).k], .bool oo.isSome]) ∧ Below w7.heap.size w7 w') := fun w7 hb => by
            refine (rBoth_any a ⟨[], [], M[j].W⟩ _ _ _ _ _ _ w7 (HAr.out.on hb) ⟨SlP.nil18 _, SlS.nil18 _, hftj.1.1.on hb, by simp, by simp, hftj.1.2⟩).mono ?_
            rintro e w' ⟨oo, ho, rfl, hb'⟩
            exact ⟨oo, ho.ext (fun x => wrs_iff a.W M[j].W x), rfl, hb'⟩
          obtain ⟨q2, l2, k2, ev2⟩ : ∃ p n c, v2 = .slice p n c := by obtain ⟨p, c, e, _⟩ := hftj.1.1.f; exact ⟨_, _, _, e⟩
          subst ev2
          clear hs hv2 hftj
          have hsd : decide ((s : Int) ≤ (fr : Int)) = false := decide_eq_false (by omega)
          go_upto_region 7 with fail
          clear hsd
          have HD : Hid (∀ w9, Below wr.heap.size wr w9 → w9.cell? ⟨b, o + j * 2, none⟩ = some (.int .u64 (s : Nat)) ∧ w9.cell? ⟨b, o + j * 2 + 1, none⟩ = some (.slice q2 l2 k2)) := fun w9 h9 => ⟨(h9.cell (p := ⟨b, o + j * 2, none⟩) hbl).trans d0, (h9.cell (p := ⟨b, o + j * 2 + 1, none⟩) hbl).trans d1⟩
          have HLb : Hid (b < wr.heap.size) := hbl
          clear d0 d1 hbl
          refine wp_region_L (fun w' => Below wr.heap.size wr w') 14 (by kernel_rfl) ?_
          have HBwd : Hid (Below wr.heap.size wr wr.drew) := (Below.refl _ _).drew
          generalize wr.drew = wd at *
          refine wpL_take (v := ?_) 0 rfl (by kernel_rfl) (fun _ _ _ h => h) (by rfl) ?_ HBwd.out ?_
          rotate_left
          focus
            intro w9 hw9
            have a0 := (HKr.out.on hw9).cell (i := 0) rfl
            have a1 := (HKr.out.on hw9).cell (i := 1) rfl
            have a2 := (HKr.out.on hw9).cell (i := 2) rfl
            have a3 := (HD.out w9 hw9).1
            have a4 := (HD.out w9 hw9).2
            go_simp
            try with_reducible rfl
          try simp only [Act.put, List.setIfInBounds_toArray, List.set_cons_zero, List.set_cons_succ]
          refine wpL_take (v := ?_) 1 rfl (by kernel_rfl) (fun _ _ _ h => h) (by rfl) ?_ HBwd.out ?_
          rotate_left
          focus
            intro w9 hw9
            have a0 := (HKr.out.on hw9).cell (i := 0) rfl
            have a1 := (HKr.out.on hw9).cell (i := 1) rfl
            have a2 := (HKr.out.on hw9).cell (i := 2) rfl
            have a3 := (HD.out w9 hw9).1
            have a4 := (HD.out w9 hw9).2
            go_simp
            try with_reducible rfl
          try simp only [Act.put, List.setIfInBounds_toArray, List.set_cons_zero, List.set_cons_succ]
          refine wpL_take (v := ?_) 2 rfl (by kernel_rfl) (fun _ _ _ h => h) (by rfl) ?_ HBwd.out ?_
          rotate_left
          focus
            intro w9 hw9
            have a0 := (HKr.out.on hw9).cell (i := 0) rfl
            have a1 := (HKr.out.on hw9).cell (i := 1) rfl
            have a2 := (HKr.out.on hw9).cell (i := 2) rfl
            have a3 := (HD.out w9 hw9).1
            have a4 := (HD.out w9 hw9).2
            go_simp
            try with_reducible rfl
          try simp only [Act.put, List.setIfInBounds_toArray, List.set_cons_zero, List.set_cons_succ]
          refine wpL_take (v := ?_) 3 rfl (by kernel_rfl) (fun _ _ _ h => h) (by rfl) ?_ HBwd.out ?_
          rotate_left
          focus
            intro w9 hw9
            have a0 := (HKr.out.on hw9).cell (i := 0) rfl
            have a1 := (HKr.out.on hw9).cell (i := 1) rfl
            have a2 := (HKr.out.on hw9).cell (i := 2) rfl
            have a3 := (HD.out w9 hw9).1
            have a4 := (HD.out w9 hw9).2
            go_simp
            try with_reducible rfl
          try simp only [Act.put, List.setIfInBounds_toArray, List.set_cons_zero, List.set_cons_succ]
          refine wpL_take (v := ?_) 4 rfl (by kernel_rfl) (fun _ _ _ h => h) (by rfl) ?_ HBwd.out ?_
          rotate_left
          focus
            intro w9 hw9
            have a0 := (HKr.out.on hw9).cell (i := 0) rfl
            have a1 := (HKr.out.on hw9).cell (i := 1) rfl
            have a2 := (HKr.out.on hw9).cell (i := 2) rfl
            have a3 := (HD.out w9 hw9).1
            have a4 := (HD.out w9 hw9).2
            go_simp
            try with_reducible rfl
          try simp only [Act.put, List.setIfInBounds_toArray, List.set_cons_zero, List.set_cons_succ]
          refine wpL_take (v := ?_) 5 rfl (by kernel_rfl) (fun _ _ _ h => h) (by rfl) ?_ HBwd.out ?_
          rotate_left
          focus
            intro w9 hw9
            have a0 := (HKr.out.on hw9).cell (i := 0) rfl
            have a1 := (HKr.out.on hw9).cell (i := 1) rfl
            have a2 := (HKr.out.on hw9).cell (i := 2) rfl
            have a3 := (HD.out w9 hw9).1
            have a4 := (HD.out w9 hw9).2
            go_simp
            try with_reducible rfl
          try simp only [Act.put, List.setIfInBounds_toArray, List.set_cons_zero, List.set_cons_succ]
          refine wpL_take (v := ?_) 6 rfl (by kernel_rfl) (fun _ _ _ h => h) (by rfl) ?_ HBwd.out ?_
          rotate_left
          focus
            intro w9 hw9
            have a0 := (HKr.out.on hw9).cell (i := 0) rfl
            have a1 := (HKr.out.on hw9).cell (i := 1) rfl
            have a2 := (HKr.out.on hw9).cell (i := 2) rfl
            have a3 := (HD.out w9 hw9).1
            have a4 := (HD.out w9 hw9).2
            go_simp
            try with_reducible rfl
          try simp only [Act.put, List.setIfInBounds_toArray, List.set_cons_zero, List.set_cons_succ]
          refine wpL_two18 7 11 rfl rfl (by kernel_rfl) (by rfl) (by rfl) ?_ ?_
          · intro K hK
            go_simp
            refine (CQ.out wd HBwd.out).mono ?_
            rintro e wu1 ⟨oo, hoo, rfl, hbwu1⟩
            have HMn : Hid (IsMin (fun x => x ∈ M[j].W ∧ a.wrs x) oo) := hoo
            clear hoo
            dsimp only
            have HBwu1 : Hid (Below wr.heap.size wr wu1) := HBwd.out.trans (hbwu1.mono HBwd.out.size)
            clear hbwu1
            generalize hlp : lP oo = x at *
            generalize hio : oo.isSome = bo at *
            have HLp : Hid (lP oo = x ∧ oo.isSome = bo) := ⟨hlp, hio⟩
            clear hlp hio
            refine hK.out _ _ (fun _ => HBwu1.out) ?_
            clear hK K
            try simp only [Act.put, List.setIfInBounds_toArray, List.set_cons_zero, List.set_cons_succ]
            refine wpL_take (v := ?_) 8 rfl (by kernel_rfl) (fun _ _ _ h => h) (by rfl) ?_ HBwu1.out ?_
            rotate_left
            focus
              intro w9 hw9

              go_simp
              try with_reducible rfl
            try simp only [Act.put, List.setIfInBounds_toArray, List.set_cons_zero, List.set_cons_succ]
            refine wpL_take (v := ?_) 9 rfl (by kernel_rfl) (fun _ _ _ h => h) (by rfl) ?_ HBwu1.out ?_
            rotate_left
            focus
              intro w9 hw9

              go_simp
              try with_reducible rfl
            try simp only [Act.put, List.setIfInBounds_toArray, List.set_cons_zero, List.set_cons_succ]
            refine wpL_take (v := ?_) 10 rfl (by kernel_rfl) (fun _ _ _ h => h) (by rfl) ?_ HBwu1.out ?_
            rotate_left
            focus
              intro w9 hw9

              go_simp
              try with_reducible rfl
            try simp only [Act.put, List.setIfInBounds_toArray, List.set_cons_zero, List.set_cons_succ]
            refine wpL_one 11 rfl (by kernel_rfl) (by rfl) ?_
            intro K hK
            go_simp
            have hal : Below wu1.heap.size wu1 (wu1.alloc (.cells #[.int .i64 0, .int .i64 0, .string ⟨#[]⟩] 39)) := (Below.refl _ _).alloc (Nat.le_refl _) _
            have HZwu2 : Hid (Blk (wu1.alloc (.cells #[.int .i64 0, .int .i64 0, .string ⟨#[]⟩] 39)) wu1.heap.size #[.int .i64 0, .int .i64 0, .string ⟨#[]⟩] 39) := Blk.new wu1 _ _
            have HBwu2 : Hid (Below wr.heap.size wr (wu1.alloc (.cells #[.int .i64 0, .int .i64 0, .string ⟨#[]⟩] 39))) := HBwu1.out.trans (hal.mono HBwu1.out.size)
            have HLe : Hid (wr.heap.size ≤ wu1.heap.size) := HBwu1.out.size
            clear hal
            generalize (wu1.alloc (.cells #[.int .i64 0, .int .i64 0, .string ⟨#[]⟩] 39)) = wu2 at *
            refine hK.out _ _ (fun _ => HBwu2.out) ?_
            clear hK K
            try simp only [Act.put, List.setIfInBounds_toArray, List.set_cons_zero, List.set_cons_succ]
            have q0 := HZwu2.out.cell (i := 0) rfl
            have q1 := HZwu2.out.cell (i := 1) rfl
            have q2' := HZwu2.out.cell (i := 2) rfl
            have g0 := HZwu2.out.frozen 0
            have g1 := HZwu2.out.frozen 1
            have g2 := HZwu2.out.frozen 2
            have H3 : Hid (Blk (((wu2.setCell ⟨wu1.heap.size, 0, none⟩ (.int .i64 x.t)).setCell ⟨wu1.heap.size, 1, none⟩ (.int .i64 x.i)).setCell ⟨wu1.heap.size, 2, none⟩ (.string x.k)) wu1.heap.size #[.int .i64 x.t, .int .i64 x.i, .string x.k] 39 ∧ Frm wu2 (((wu2.setCell ⟨wu1.heap.size, 0, none⟩ (.int .i64 x.t)).setCell ⟨wu1.heap.size, 1, none⟩ (.int .i64 x.i)).setCell ⟨wu1.heap.size, 2, none⟩ (.string x.k)) (fun k => k = wu1.heap.size)) := set3 HZwu2.out
            have HBs : Hid (Below wr.heap.size wr (((wu2.setCell ⟨wu1.heap.size, 0, none⟩ (.int .i64 x.t)).setCell ⟨wu1.heap.size, 1, none⟩ (.int .i64 x.i)).setCell ⟨wu1.heap.size, 2, none⟩ (.string x.k))) := HBwu2.out.trans (H3.out.2.below HBwu2.out.size (fun k hk => by have := HLe.out; omega))
            refine wpL_one 12 rfl (by kernel_rfl) (by rfl) ?_
            intro K hK
            go_simp
            refine hK.out _ _ (fun _ => HBs.out) ?_
            clear hK K q0 q1 q2' g0 g1 g2
            generalize ((wu2.setCell ⟨wu1.heap.size, 0, none⟩ (.int .i64 x.t)).setCell ⟨wu1.heap.size, 1, none⟩ (.int .i64 x.i)).setCell ⟨wu1.heap.size, 2, none⟩ (.string x.k) = ws at *
            try simp only [Act.put, List.setIfInBounds_toArray, List.set_cons_zero, List.set_cons_succ]
            refine wpL_take (v := ?_) 13 rfl (by kernel_rfl) (fun _ _ _ h => h) (by rfl) ?_ HBs.out ?_
            rotate_left
            focus
              intro w9 hw9

              go_simp
              try with_reducible rfl
            try simp only [Act.put, List.setIfInBounds_toArray, List.set_cons_zero, List.set_cons_succ]
            refine wpL_done (by kernel_rfl) ?_ _
            try simp only [NoPanic]
            have HPs : Hid (Blk ws wu1.heap.size #[.int .i64 x.t, .int .i64 x.i, .string x.k] 39) := H3.out.1
            have HLe2 : Hid (wr.heap.size ≤ wu1.heap.size) := HLe.out
            clear H3 HBwu2 HZwu2 HLe
            generalize wu1.heap.size = pb at *
            cases bo with
            | false =>
              have HNo2 : Hid (∀ k (hk : k < M.length), k < j + 1 → fr < M[k].s → ∀ x ∈ M[k].W, ¬ a.wrs x) := fun k hk hkj hf y hy hm => by
                by_cases hk2 : k = j
                · subst hk2
                  have h9 := HMn.out
                  cases oo with
                  | none => exact h9 y ⟨hy, hm⟩
                  | some z => exact absurd HLp.out.2 (by simp)
                · exact HNo.out k hk (by omega) hf y hy hm
              have HBn : Hid (Below w3.heap.size w3 ws) := HB.out.trans (HBs.out.mono HB.out.size)
              clear HPs HLe2 HMn HLp HD HNo HB CQ HS hjM
              go_wp2_with fail
              go_roundw
              case rel => exact ⟨j + 1, hj1, by go_num, HBn, HNo2⟩
              case measure => simp [intOf]; omega
            | true =>
              have HFx : Hid (WrQ a M fr (some (s, x))) := ⟨fun _ => by
                have h9 := HMn.out
                cases oo with
                | none => exact absurd HLp.out.2 (by simp)
                | some z =>
                  have hz : z = x := HLp.out.1
                  subst hz
                  refine ⟨M[j], List.getElem_mem hjM, HS.out, hsf2, h9, fun c' hc' hf hlt y hy hm => ?_⟩
                  obtain ⟨k, hk, rfl⟩ := List.getElem_of_mem hc'
                  have hlt' : M[k].s < s := hlt
                  have hkj : k < j := by
                    rcases Nat.lt_trichotomy k j with h | h | h
                    · exact h
                    · subst h
                      have := HS.out
                      omega
                    · have := HI.out.ris j k hjM hk h
                      have := HS.out
                      omega
                  exact HNo.out k hk hkj hf y hy hm, fun h => absurd HCA.out h⟩
              go_upto_region 9 with fail
              have HZs : Hid (Blk ws (w.heap.size + 1) #[.int .u64 0, .int .i64 0, .int .i64 0, .string ⟨#[]⟩] 41) := HZr.out.on HBs.out
              have HLz : Hid (w.heap.size + 1 < wr.heap.size) := HZr.out.lt
              have hds := (HD.out ws HBs.out).1
              have HBe : Hid (Below w.heap.size w ws) := HBr.out.trans (HBs.out.mono HBr.out.size)
              have HBd : Hid (¬ b = w.heap.size + 1) := by
                obtain ⟨b', o', e', hb', _⟩ := HRw.out j hjM
                cases e'
                show ¬ b = w.heap.size + 1
                omega
              clear HMn HLp HD HNo HB HBs HZr HRr HXr HAr HKr HBr CQ HS hjM
              refine wp_region_L (fun w' => w'.cell? ⟨b, o + j * 2, none⟩ = some (.int .u64 (s : Nat)) ∧ Blk w' pb #[.int .i64 x.t, .int .i64 x.i, .string x.k] 39) 9 (by kernel_rfl) ?_
              have HSd : Hid (ws.drew.cell? ⟨b, o + j * 2, none⟩ = some (.int .u64 (s : Nat)) ∧ Blk ws.drew pb #[.int .i64 x.t, .int .i64 x.i, .string x.k] 39) := ⟨hds, HPs.out⟩
              have HZd : Hid (Blk ws.drew (w.heap.size + 1) #[.int .u64 0, .int .i64 0, .int .i64 0, .string ⟨#[]⟩] 41) := HZs.out
              have HEd : Hid (Below w.heap.size w ws.drew) := HBe.out.drew
              clear hds HPs HZs HBe
              generalize ws.drew = wd9 at *
              refine wpL_take (v := ?_) 0 rfl (by kernel_rfl) (fun _ _ _ h => h) (by rfl) ?_ HSd.out ?_
              rotate_left
              focus
                intro w9 hw9
                have a0 := hw9.1
                have b0 := hw9.2.cell (i := 0) rfl
                have b1 := hw9.2.cell (i := 1) rfl
                have b2 := hw9.2.cell (i := 2) rfl
                go_simp
                try with_reducible rfl
              try simp only [Act.put, List.setIfInBounds_toArray, List.set_cons_zero, List.set_cons_succ]
              refine wpL_take (v := ?_) 1 rfl (by kernel_rfl) (fun _ _ _ h => h) (by rfl) ?_ HSd.out ?_
              rotate_left
              focus
                intro w9 hw9
                have a0 := hw9.1
                have b0 := hw9.2.cell (i := 0) rfl
                have b1 := hw9.2.cell (i := 1) rfl
                have b2 := hw9.2.cell (i := 2) rfl
                go_simp
                try with_reducible rfl
              try simp only [Act.put, List.setIfInBounds_toArray, List.set_cons_zero, List.set_cons_succ]
              refine wpL_take (v := ?_) 2 rfl (by kernel_rfl) (fun _ _ _ h => h) (by rfl) ?_ HSd.out ?_
              rotate_left
              focus
                intro w9 hw9
                have a0 := hw9.1
                have b0 := hw9.2.cell (i := 0) rfl
                have b1 := hw9.2.cell (i := 1) rfl
                have b2 := hw9.2.cell (i := 2) rfl
                go_simp
                try with_reducible rfl
              try simp only [Act.put, List.setIfInBounds_toArray, List.set_cons_zero, List.set_cons_succ]
              refine wpL_take (v := ?_) 3 rfl (by kernel_rfl) (fun _ _ _ h => h) (by rfl) ?_ HSd.out ?_
              rotate_left
              focus
                intro w9 hw9
                have a0 := hw9.1
                have b0 := hw9.2.cell (i := 0) rfl
                have b1 := hw9.2.cell (i := 1) rfl
                have b2 := hw9.2.cell (i := 2) rfl
                go_simp
                try with_reducible rfl
              try simp only [Act.put, List.setIfInBounds_toArray, List.set_cons_zero, List.set_cons_succ]
              refine wpL_take (v := ?_) 4 rfl (by kernel_rfl) (fun _ _ _ h => h) (by rfl) ?_ HSd.out ?_
              rotate_left
              focus
                intro w9 hw9
                have a0 := hw9.1
                have b0 := hw9.2.cell (i := 0) rfl
                have b1 := hw9.2.cell (i := 1) rfl
                have b2 := hw9.2.cell (i := 2) rfl
                go_simp
                try with_reducible rfl
              try simp only [Act.put, List.setIfInBounds_toArray, List.set_cons_zero, List.set_cons_succ]
              refine wpL_take (v := ?_) 5 rfl (by kernel_rfl) (fun _ _ _ h => h) (by rfl) ?_ HSd.out ?_
              rotate_left
              focus
                intro w9 hw9
                have a0 := hw9.1
                have b0 := hw9.2.cell (i := 0) rfl
                have b1 := hw9.2.cell (i := 1) rfl
                have b2 := hw9.2.cell (i := 2) rfl
                go_simp
                try with_reducible rfl
              try simp only [Act.put, List.setIfInBounds_toArray, List.set_cons_zero, List.set_cons_succ]
              refine wpL_take (v := ?_) 6 rfl (by kernel_rfl) (fun _ _ _ h => h) (by rfl) ?_ HSd.out ?_
              rotate_left
              focus
                intro w9 hw9
                have a0 := hw9.1
                have b0 := hw9.2.cell (i := 0) rfl
                have b1 := hw9.2.cell (i := 1) rfl
                have b2 := hw9.2.cell (i := 2) rfl
                go_simp
                try with_reducible rfl
              try simp only [Act.put, List.setIfInBounds_toArray, List.set_cons_zero, List.set_cons_succ]
              refine wpL_one 7 rfl (by kernel_rfl) (by rfl) ?_
              intro K hK
              have z0 := HZd.out.cell (i := 0) rfl
              have f0 := HZd.out.frozen 0
              have z1 := HZd.out.cell (i := 1) rfl
              have f1 := HZd.out.frozen 1
              have z2 := HZd.out.cell (i := 2) rfl
              have f2 := HZd.out.frozen 2
              have z3 := HZd.out.cell (i := 3) rfl
              have f3 := HZd.out.frozen 3
              have H4 : Hid (Blk ((((wd9.setCell ⟨w.heap.size + 1, 0, none⟩ (.int .u64 (s : Nat))).setCell ⟨w.heap.size + 1, 1, none⟩ (.int .i64 x.t)).setCell ⟨w.heap.size + 1, 2, none⟩ (.int .i64 x.i)).setCell ⟨w.heap.size + 1, 3, none⟩ (.string x.k)) (w.heap.size + 1) #[(.int .u64 (s : Nat)), (.int .i64 x.t), (.int .i64 x.i), (.string x.k)] 41 ∧ Frm wd9 ((((wd9.setCell ⟨w.heap.size + 1, 0, none⟩ (.int .u64 (s : Nat))).setCell ⟨w.heap.size + 1, 1, none⟩ (.int .i64 x.t)).setCell ⟨w.heap.size + 1, 2, none⟩ (.int .i64 x.i)).setCell ⟨w.heap.size + 1, 3, none⟩ (.string x.k)) (fun k => k = w.heap.size + 1)) := set4 HZd.out
              have HE4 : Hid (Below w.heap.size w ((((wd9.setCell ⟨w.heap.size + 1, 0, none⟩ (.int .u64 (s : Nat))).setCell ⟨w.heap.size + 1, 1, none⟩ (.int .i64 x.t)).setCell ⟨w.heap.size + 1, 2, none⟩ (.int .i64 x.i)).setCell ⟨w.heap.size + 1, 3, none⟩ (.string x.k))) := HEd.out.trans (H4.out.2.below HEd.out.size (fun k hk => by omega))
              have HSe : Hid (((((wd9.setCell ⟨w.heap.size + 1, 0, none⟩ (.int .u64 (s : Nat))).setCell ⟨w.heap.size + 1, 1, none⟩ (.int .i64 x.t)).setCell ⟨w.heap.size + 1, 2, none⟩ (.int .i64 x.i)).setCell ⟨w.heap.size + 1, 3, none⟩ (.string x.k)).cell? ⟨b, o + j * 2, none⟩ = some (.int .u64 (s : Nat)) ∧ Blk ((((wd9.setCell ⟨w.heap.size + 1, 0, none⟩ (.int .u64 (s : Nat))).setCell ⟨w.heap.size + 1, 1, none⟩ (.int .i64 x.t)).setCell ⟨w.heap.size + 1, 2, none⟩ (.int .i64 x.i)).setCell ⟨w.heap.size + 1, 3, none⟩ (.string x.k)) pb #[.int .i64 x.t, .int .i64 x.i, .string x.k] 39) := by
                have hf := H4.out.2
                refine ⟨?_, ?_⟩
                · have h8 := HSd.out.1
                  unfold World.cell? at h8 ⊢
                  have hbk : ((((wd9.setCell ⟨w.heap.size + 1, 0, none⟩ (.int .u64 (s : Nat))).setCell ⟨w.heap.size + 1, 1, none⟩ (.int .i64 x.t)).setCell ⟨w.heap.size + 1, 2, none⟩ (.int .i64 x.i)).setCell ⟨w.heap.size + 1, 3, none⟩ (.string x.k)).heap[b]? = wd9.heap[b]? := by
                    rcases Nat.lt_or_ge b wd9.heap.size with hlt | hge
                    · exact hf.block b hlt HBd.out
                    · simp [Array.getElem?_eq_none hge] at h8
                  simp only [hbk]
                  exact h8
                · exact (hf.block pb HSd.out.2.lt (by have h1 := HLe2.out; have h2 := HLz.out; omega)).trans HSd.out.2
              go_simp
              refine hK.out _ _ (fun _ => HSe.out) ?_
              clear hK K
              clear z0 z1 z2 z3 f0 f1 f2 f3
              generalize (((wd9.setCell ⟨w.heap.size + 1, 0, none⟩ (.int .u64 (s : Nat))).setCell ⟨w.heap.size + 1, 1, none⟩ (.int .i64 x.t)).setCell ⟨w.heap.size + 1, 2, none⟩ (.int .i64 x.i)).setCell ⟨w.heap.size + 1, 3, none⟩ (.string x.k) = wz at *
              try simp only [Act.put, List.setIfInBounds_toArray, List.set_cons_zero, List.set_cons_succ]
              refine wpL_take (v := ?_) 8 rfl (by kernel_rfl) (fun _ _ _ h => h) (by rfl) ?_ HSe.out ?_
              rotate_left
              focus
                intro w9 hw9

                go_simp
                try with_reducible rfl
              try simp only [Act.put, List.setIfInBounds_toArray, List.set_cons_zero, List.set_cons_succ]
              refine wpL_done (by kernel_rfl) ?_ _
              try simp only [NoPanic]
              have HQ := HFx
              go_wp2_with fail
              have r0 := H4.out.1.cell (i := 0) rfl
              have r1 := H4.out.1.cell (i := 1) rfl
              have r2 := H4.out.1.cell (i := 2) rfl
              have r3 := H4.out.1.cell (i := 3) rfl
              refine bodyPost_ret (v := clV (some (s, x))) (by simp [clV, results, Tryz.results17, go_sem, r0, r1, r2, r3]) rfl ?_
              exact ⟨_, rfl, HQ.out, HE4.out⟩
          · intro K hK
            go_simp
            have hal : Below wd.heap.size wd (wd.alloc (.cells #[.int .i64 0, .int .i64 0, .string ⟨#[]⟩] 39)) := (Below.refl _ _).alloc (Nat.le_refl _) _
            have HZwu3 : Hid (Blk (wd.alloc (.cells #[.int .i64 0, .int .i64 0, .string ⟨#[]⟩] 39)) wd.heap.size #[.int .i64 0, .int .i64 0, .string ⟨#[]⟩] 39) := Blk.new wd _ _
            have HBwu3 : Hid (Below wr.heap.size wr (wd.alloc (.cells #[.int .i64 0, .int .i64 0, .string ⟨#[]⟩] 39))) := HBwd.out.trans (hal.mono HBwd.out.size)
            have HLe : Hid (wr.heap.size ≤ wd.heap.size) := HBwd.out.size
            clear hal
            generalize (wd.alloc (.cells #[.int .i64 0, .int .i64 0, .string ⟨#[]⟩] 39)) = wu3 at *
            refine hK.out _ _ (fun _ => HBwu3.out) ?_
            clear hK K
            try simp only [Act.put, List.setIfInBounds_toArray, List.set_cons_zero, List.set_cons_succ]
            refine wpL_one 7 rfl (by kernel_rfl) (by rfl) ?_
            intro K hK
            go_simp
            refine (CQ.out wu3 HBwu3.out).mono ?_
            rintro e wu4 ⟨oo, hoo, rfl, hbwu4⟩
            have HMn : Hid (IsMin (fun x => x ∈ M[j].W ∧ a.wrs x) oo) := hoo
            clear hoo
            dsimp only
            have HBwu4 : Hid (Below wr.heap.size wr wu4) := HBwu3.out.trans (hbwu4.mono HBwu3.out.size)
            have HZwu4 : Hid (Blk wu4 wd.heap.size #[.int .i64 0, .int .i64 0, .string ⟨#[]⟩] 39) := HZwu3.out.on hbwu4
            clear hbwu4
            generalize hlp : lP oo = x at *
            generalize hio : oo.isSome = bo at *
            have HLp : Hid (lP oo = x ∧ oo.isSome = bo) := ⟨hlp, hio⟩
            clear hlp hio
            refine hK.out _ _ (fun _ => HBwu4.out) ?_
            clear hK K
            try simp only [Act.put, List.setIfInBounds_toArray, List.set_cons_zero, List.set_cons_succ]
            refine wpL_take (v := ?_) 8 rfl (by kernel_rfl) (fun _ _ _ h => h) (by rfl) ?_ HBwu4.out ?_
            rotate_left
            focus
              intro w9 hw9

              go_simp
              try with_reducible rfl
            try simp only [Act.put, List.setIfInBounds_toArray, List.set_cons_zero, List.set_cons_succ]
            refine wpL_take (v := ?_) 9 rfl (by kernel_rfl) (fun _ _ _ h => h) (by rfl) ?_ HBwu4.out ?_
            rotate_left
            focus
              intro w9 hw9

              go_simp
              try with_reducible rfl
            try simp only [Act.put, List.setIfInBounds_toArray, List.set_cons_zero, List.set_cons_succ]
            refine wpL_take (v := ?_) 10 rfl (by kernel_rfl) (fun _ _ _ h => h) (by rfl) ?_ HBwu4.out ?_
            rotate_left
            focus
              intro w9 hw9

              go_simp
              try with_reducible rfl
            try simp only [Act.put, List.setIfInBounds_toArray, List.set_cons_zero, List.set_cons_succ]
            have q0 := HZwu4.out.cell (i := 0) rfl
            have q1 := HZwu4.out.cell (i := 1) rfl
            have q2' := HZwu4.out.cell (i := 2) rfl
            have g0 := HZwu4.out.frozen 0
            have g1 := HZwu4.out.frozen 1
            have g2 := HZwu4.out.frozen 2
            have H3 : Hid (Blk (((wu4.setCell ⟨wd.heap.size, 0, none⟩ (.int .i64 x.t)).setCell ⟨wd.heap.size, 1, none⟩ (.int .i64 x.i)).setCell ⟨wd.heap.size, 2, none⟩ (.string x.k)) wd.heap.size #[.int .i64 x.t, .int .i64 x.i, .string x.k] 39 ∧ Frm wu4 (((wu4.setCell ⟨wd.heap.size, 0, none⟩ (.int .i64 x.t)).setCell ⟨wd.heap.size, 1, none⟩ (.int .i64 x.i)).setCell ⟨wd.heap.size, 2, none⟩ (.string x.k)) (fun k => k = wd.heap.size)) := set3 HZwu4.out
            have HBs : Hid (Below wr.heap.size wr (((wu4.setCell ⟨wd.heap.size, 0, none⟩ (.int .i64 x.t)).setCell ⟨wd.heap.size, 1, none⟩ (.int .i64 x.i)).setCell ⟨wd.heap.size, 2, none⟩ (.string x.k))) := HBwu4.out.trans (H3.out.2.below HBwu4.out.size (fun k hk => by have := HLe.out; omega))
            refine wpL_one 12 rfl (by kernel_rfl) (by rfl) ?_
            intro K hK
            go_simp
            refine hK.out _ _ (fun _ => HBs.out) ?_
            clear hK K q0 q1 q2' g0 g1 g2
            generalize ((wu4.setCell ⟨wd.heap.size, 0, none⟩ (.int .i64 x.t)).setCell ⟨wd.heap.size, 1, none⟩ (.int .i64 x.i)).setCell ⟨wd.heap.size, 2, none⟩ (.string x.k) = ws at *
            try simp only [Act.put, List.setIfInBounds_toArray, List.set_cons_zero, List.set_cons_succ]
            refine wpL_take (v := ?_) 13 rfl (by kernel_rfl) (fun _ _ _ h => h) (by rfl) ?_ HBs.out ?_
            rotate_left
            focus
              intro w9 hw9

              go_simp
              try with_reducible rfl
            try simp only [Act.put, List.setIfInBounds_toArray, List.set_cons_zero, List.set_cons_succ]
            refine wpL_done (by kernel_rfl) ?_ _
            try simp only [NoPanic]
            have HPs : Hid (Blk ws wd.heap.size #[.int .i64 x.t, .int .i64 x.i, .string x.k] 39) := H3.out.1
            have HLe2 : Hid (wr.heap.size ≤ wd.heap.size) := HLe.out
            clear H3 HBwu4 HZwu4 HLe
            generalize wd.heap.size = pb at *
            cases bo with
            | false =>
              have HNo2 : Hid (∀ k (hk : k < M.length), k < j + 1 → fr < M[k].s → ∀ x ∈ M[k].W, ¬ a.wrs x) := fun k hk hkj hf y hy hm => by
                by_cases hk2 : k = j
                · subst hk2
                  have h9 := HMn.out
                  cases oo with
                  | none => exact h9 y ⟨hy, hm⟩
                  | some z => exact absurd HLp.out.2 (by simp)
                · exact HNo.out k hk (by omega) hf y hy hm
              have HBn : Hid (Below w3.heap.size w3 ws) := HB.out.trans (HBs.out.mono HB.out.size)
              clear HPs HLe2 HMn HLp HD HNo HB CQ HS hjM
              go_wp2_with fail
              go_roundw
              case rel => exact ⟨j + 1, hj1, by go_num, HBn, HNo2⟩
              case measure => simp [intOf]; omega
            | true =>
              have HFx : Hid (WrQ a M fr (some (s, x))) := ⟨fun _ => by
                have h9 := HMn.out
                cases oo with
                | none => exact absurd HLp.out.2 (by simp)
                | some z =>
                  have hz : z = x := HLp.out.1
                  subst hz
                  refine ⟨M[j], List.getElem_mem hjM, HS.out, hsf2, h9, fun c' hc' hf hlt y hy hm => ?_⟩
                  obtain ⟨k, hk, rfl⟩ := List.getElem_of_mem hc'
                  have hlt' : M[k].s < s := hlt
                  have hkj : k < j := by
                    rcases Nat.lt_trichotomy k j with h | h | h
                    · exact h
                    · subst h
                      have := HS.out
                      omega
                    · have := HI.out.ris j k hjM hk h
                      have := HS.out
                      omega
                  exact HNo.out k hk hkj hf y hy hm, fun h => absurd HCA.out h⟩
              go_upto_region 9 with fail
              have HZs : Hid (Blk ws (w.heap.size + 1) #[.int .u64 0, .int .i64 0, .int .i64 0, .string ⟨#[]⟩] 41) := HZr.out.on HBs.out
              have HLz : Hid (w.heap.size + 1 < wr.heap.size) := HZr.out.lt
              have hds := (HD.out ws HBs.out).1
              have HBe : Hid (Below w.heap.size w ws) := HBr.out.trans (HBs.out.mono HBr.out.size)
              have HBd : Hid (¬ b = w.heap.size + 1) := by
                obtain ⟨b', o', e', hb', _⟩ := HRw.out j hjM
                cases e'
                show ¬ b = w.heap.size + 1
                omega
              clear HMn HLp HD HNo HB HBs HZr HRr HXr HAr HKr HBr CQ HS hjM
              refine wp_region_L (fun w' => w'.cell? ⟨b, o + j * 2, none⟩ = some (.int .u64 (s : Nat)) ∧ Blk w' pb #[.int .i64 x.t, .int .i64 x.i, .string x.k] 39) 9 (by kernel_rfl) ?_
              have HSd : Hid (ws.drew.cell? ⟨b, o + j * 2, none⟩ = some (.int .u64 (s : Nat)) ∧ Blk ws.drew pb #[.int .i64 x.t, .int .i64 x.i, .string x.k] 39) := ⟨hds, HPs.out⟩
              have HZd : Hid (Blk ws.drew (w.heap.size + 1) #[.int .u64 0, .int .i64 0, .int .i64 0, .string ⟨#[]⟩] 41) := HZs.out
              have HEd : Hid (Below w.heap.size w ws.drew) := HBe.out.drew
              clear hds HPs HZs HBe
              generalize ws.drew = wd9 at *
              refine wpL_take (v := ?_) 0 rfl (by kernel_rfl) (fun _ _ _ h => h) (by rfl) ?_ HSd.out ?_
              rotate_left
              focus
                intro w9 hw9
                have a0 := hw9.1
                have b0 := hw9.2.cell (i := 0) rfl
                have b1 := hw9.2.cell (i := 1) rfl
                have b2 := hw9.2.cell (i := 2) rfl
                go_simp
                try with_reducible rfl
              try simp only [Act.put, List.setIfInBounds_toArray, List.set_cons_zero, List.set_cons_succ]
              refine wpL_take (v := ?_) 1 rfl (by kernel_rfl) (fun _ _ _ h => h) (by rfl) ?_ HSd.out ?_
              rotate_left
              focus
                intro w9 hw9
                have a0 := hw9.1
                have b0 := hw9.2.cell (i := 0) rfl
                have b1 := hw9.2.cell (i := 1) rfl
                have b2 := hw9.2.cell (i := 2) rfl
                go_simp
                try with_reducible rfl
              try simp only [Act.put, List.setIfInBounds_toArray, List.set_cons_zero, List.set_cons_succ]
              refine wpL_take (v := ?_) 2 rfl (by kernel_rfl) (fun _ _ _ h => h) (by rfl) ?_ HSd.out ?_
              rotate_left
              focus
                intro w9 hw9
                have a0 := hw9.1
                have b0 := hw9.2.cell (i := 0) rfl
                have b1 := hw9.2.cell (i := 1) rfl
                have b2 := hw9.2.cell (i := 2) rfl
                go_simp
                try with_reducible rfl
              try simp only [Act.put, List.setIfInBounds_toArray, List.set_cons_zero, List.set_cons_succ]
              refine wpL_take (v := ?_) 3 rfl (by kernel_rfl) (fun _ _ _ h => h) (by rfl) ?_ HSd.out ?_
              rotate_left
              focus
                intro w9 hw9
                have a0 := hw9.1
                have b0 := hw9.2.cell (i := 0) rfl
                have b1 := hw9.2.cell (i := 1) rfl
                have b2 := hw9.2.cell (i := 2) rfl
                go_simp
                try with_reducible rfl
              try simp only [Act.put, List.setIfInBounds_toArray, List.set_cons_zero, List.set_cons_succ]
              refine wpL_take (v := ?_) 4 rfl (by kernel_rfl) (fun _ _ _ h => h) (by rfl) ?_ HSd.out ?_
              rotate_left
              focus
                intro w9 hw9
                have a0 := hw9.1
                have b0 := hw9.2.cell (i := 0) rfl
                have b1 := hw9.2.cell (i := 1) rfl
                have b2 := hw9.2.cell (i := 2) rfl
                go_simp
                try with_reducible rfl
              try simp only [Act.put, List.setIfInBounds_toArray, List.set_cons_zero, List.set_cons_succ]
              refine wpL_take (v := ?_) 5 rfl (by kernel_rfl) (fun _ _ _ h => h) (by rfl) ?_ HSd.out ?_
              rotate_left
              focus
                intro w9 hw9
                have a0 := hw9.1
                have b0 := hw9.2.cell (i := 0) rfl
                have b1 := hw9.2.cell (i := 1) rfl
                have b2 := hw9.2.cell (i := 2) rfl
                go_simp
                try with_reducible rfl
              try simp only [Act.put, List.setIfInBounds_toArray, List.set_cons_zero, List.set_cons_succ]
              refine wpL_take (v := ?_) 6 rfl (by kernel_rfl) (fun _ _ _ h => h) (by rfl) ?_ HSd.out ?_
              rotate_left
              focus
                intro w9 hw9
                have a0 := hw9.1
                have b0 := hw9.2.cell (i := 0) rfl
                have b1 := hw9.2.cell (i := 1) rfl
                have b2 := hw9.2.cell (i := 2) rfl
                go_simp
                try with_reducible rfl
              try simp only [Act.put, List.setIfInBounds_toArray, List.set_cons_zero, List.set_cons_succ]
              refine wpL_one 7 rfl (by kernel_rfl) (by rfl) ?_
              intro K hK
              have z0 := HZd.out.cell (i := 0) rfl
              have f0 := HZd.out.frozen 0
              have z1 := HZd.out.cell (i := 1) rfl
              have f1 := HZd.out.frozen 1
              have z2 := HZd.out.cell (i := 2) rfl
              have f2 := HZd.out.frozen 2
              have z3 := HZd.out.cell (i := 3) rfl
              have f3 := HZd.out.frozen 3
              have H4 : Hid (Blk ((((wd9.setCell ⟨w.heap.size + 1, 0, none⟩ (.int .u64 (s : Nat))).setCell ⟨w.heap.size + 1, 1, none⟩ (.int .i64 x.t)).setCell ⟨w.heap.size + 1, 2, none⟩ (.int .i64 x.i)).setCell ⟨w.heap.size + 1, 3, none⟩ (.string x.k)) (w.heap.size + 1) #[(.int .u64 (s : Nat)), (.int .i64 x.t), (.int .i64 x.i), (.string x.k)] 41 ∧ Frm wd9 ((((wd9.setCell ⟨w.heap.size + 1, 0, none⟩ (.int .u64 (s : Nat))).setCell ⟨w.heap.size + 1, 1, none⟩ (.int .i64 x.t)).setCell ⟨w.heap.size + 1, 2, none⟩ (.int .i64 x.i)).setCell ⟨w.heap.size + 1, 3, none⟩ (.string x.k)) (fun k => k = w.heap.size + 1)) := set4 HZd.out
              have HE4 : Hid (Below w.heap.size w ((((wd9.setCell ⟨w.heap.size + 1, 0, none⟩ (.int .u64 (s : Nat))).setCell ⟨w.heap.size + 1, 1, none⟩ (.int .i64 x.t)).setCell ⟨w.heap.size + 1, 2, none⟩ (.int .i64 x.i)).setCell ⟨w.heap.size + 1, 3, none⟩ (.string x.k))) := HEd.out.trans (H4.out.2.below HEd.out.size (fun k hk => by omega))
              have HSe : Hid (((((wd9.setCell ⟨w.heap.size + 1, 0, none⟩ (.int .u64 (s : Nat))).setCell ⟨w.heap.size + 1, 1, none⟩ (.int .i64 x.t)).setCell ⟨w.heap.size + 1, 2, none⟩ (.int .i64 x.i)).setCell ⟨w.heap.size + 1, 3, none⟩ (.string x.k)).cell? ⟨b, o + j * 2, none⟩ = some (.int .u64 (s : Nat)) ∧ Blk ((((wd9.setCell ⟨w.heap.size + 1, 0, none⟩ (.int .u64 (s : Nat))).setCell ⟨w.heap.size + 1, 1, none⟩ (.int .i64 x.t)).setCell ⟨w.heap.size + 1, 2, none⟩ (.int .i64 x.i)).setCell ⟨w.heap.size + 1, 3, none⟩ (.string x.k)) pb #[.int .i64 x.t, .int .i64 x.i, .string x.k] 39) := by
                have hf := H4.out.2
                refine ⟨?_, ?_⟩
                · have h8 := HSd.out.1
                  unfold World.cell? at h8 ⊢
                  have hbk : ((((wd9.setCell ⟨w.heap.size + 1, 0, none⟩ (.int .u64 (s : Nat))).setCell ⟨w.heap.size + 1, 1, none⟩ (.int .i64 x.t)).setCell ⟨w.heap.size + 1, 2, none⟩ (.int .i64 x.i)).setCell ⟨w.heap.size + 1, 3, none⟩ (.string x.k)).heap[b]? = wd9.heap[b]? := by
                    rcases Nat.lt_or_ge b wd9.heap.size with hlt | hge
                    · exact hf.block b hlt HBd.out
                    · simp [Array.getElem?_eq_none hge] at h8
                  simp only [hbk]
                  exact h8
                · exact (hf.block pb HSd.out.2.lt (by have h1 := HLe2.out; have h2 := HLz.out; omega)).trans HSd.out.2
              go_simp
              refine hK.out _ _ (fun _ => HSe.out) ?_
              clear hK K
              clear z0 z1 z2 z3 f0 f1 f2 f3
              generalize (((wd9.setCell ⟨w.heap.size + 1, 0, none⟩ (.int .u64 (s : Nat))).setCell ⟨w.heap.size + 1, 1, none⟩ (.int .i64 x.t)).setCell ⟨w.heap.size + 1, 2, none⟩ (.int .i64 x.i)).setCell ⟨w.heap.size + 1, 3, none⟩ (.string x.k) = wz at *
              try simp only [Act.put, List.setIfInBounds_toArray, List.set_cons_zero, List.set_cons_succ]
              refine wpL_take (v := ?_) 8 rfl (by kernel_rfl) (fun _ _ _ h => h) (by rfl) ?_ HSe.out ?_
              rotate_left
              focus
                intro w9 hw9

                go_simp
                try with_reducible rfl
              try simp only [Act.put, List.setIfInBounds_toArray, List.set_cons_zero, List.set_cons_succ]
              refine wpL_done (by kernel_rfl) ?_ _
              try simp only [NoPanic]
              have HQ := HFx
              go_wp2_with fail
              have r0 := H4.out.1.cell (i := 0) rfl
              have r1 := H4.out.1.cell (i := 1) rfl
              have r2 := H4.out.1.cell (i := 2) rfl
              have r3 := H4.out.1.cell (i := 3) rfl
              refine bodyPost_ret (v := clV (some (s, x))) (by simp [clV, results, Tryz.results17, go_sem, r0, r1, r2, r3]) rfl ?_
              exact ⟨_, rfl, HQ.out, HE4.out⟩
  · have HQ : Hid (WrQ a M fr none) := ⟨fun h => absurd h hca, fun _ => rfl⟩
    have z0 := HZ3.out.cell (i := 0) rfl
    have f0 := HZ3.out.frozen 0
    have z1 := HZ3.out.cell (i := 1) rfl
    have f1 := HZ3.out.frozen 1
    have z2 := HZ3.out.cell (i := 2) rfl
    have f2 := HZ3.out.frozen 2
    have z3 := HZ3.out.cell (i := 3) rfl
    have f3 := HZ3.out.frozen 3
    have H4 : Hid (Blk ((((w3.setCell ⟨w.heap.size + 1, 0, none⟩ (.int .u64 0)).setCell ⟨w.heap.size + 1, 1, none⟩ (.int .i64 0)).setCell ⟨w.heap.size + 1, 2, none⟩ (.int .i64 0)).setCell ⟨w.heap.size + 1, 3, none⟩ (.string ⟨#[]⟩)) (w.heap.size + 1) #[(.int .u64 0), (.int .i64 0), (.int .i64 0), (.string ⟨#[]⟩)] 41 ∧ Frm w3 ((((w3.setCell ⟨w.heap.size + 1, 0, none⟩ (.int .u64 0)).setCell ⟨w.heap.size + 1, 1, none⟩ (.int .i64 0)).setCell ⟨w.heap.size + 1, 2, none⟩ (.int .i64 0)).setCell ⟨w.heap.size + 1, 3, none⟩ (.string ⟨#[]⟩)) (fun k => k = w.heap.size + 1)) := set4 HZ3.out
    have HE4 : Hid (Below w.heap.size w ((((w3.setCell ⟨w.heap.size + 1, 0, none⟩ (.int .u64 0)).setCell ⟨w.heap.size + 1, 1, none⟩ (.int .i64 0)).setCell ⟨w.heap.size + 1, 2, none⟩ (.int .i64 0)).setCell ⟨w.heap.size + 1, 3, none⟩ (.string ⟨#[]⟩))) := HB3.out.trans (H4.out.2.below HB3.out.size (fun k hk => by omega))
    go_wp2_with fail
    clear z0 z1 z2 z3 f0 f1 f2 f3
    generalize (((w3.setCell ⟨w.heap.size + 1, 0, none⟩ (.int .u64 0)).setCell ⟨w.heap.size + 1, 1, none⟩ (.int .i64 0)).setCell ⟨w.heap.size + 1, 2, none⟩ (.int .i64 0)).setCell ⟨w.heap.size + 1, 3, none⟩ (.string ⟨#[]⟩) = wz at *
    have r0 := H4.out.1.cell (i := 0) rfl
    have r1 := H4.out.1.cell (i := 1) rfl
    have r2 := H4.out.1.cell (i := 2) rfl
    have r3 := H4.out.1.cell (i := 3) rfl
    refine bodyPost_ret (v := clV none) (by simp [clV, results, Tryz.results17, go_sem, r0, r1, r2, r3]) rfl ?_
    exact ⟨_, rfl, HQ.out, HE4.out⟩

end Go.Proofs.YtcknhjabdjbjiaaGreat

namespace Go.Proofs.YtcknhjabdjbjiaaGreat
open Go.RowKit
set_option maxRecDepth 100000

set_option maxHeartbeats 8000000 in
theorem rtry_any (a : Ft) (va0 va1 va2 : Value) (B fr : Nat) (lv : Int) (v : Value) (M : List Cm) (w : World) (hX : DocC w B v M) (hI : InvC M) (ha : RdF w va0 va1 va2 a) :
    Calls Tryz.prog 19 #[v, .agg #[.int .u64 (fr : Nat), va0, va1, va2, .int .i64 lv]] w fun e w' => ∃ q er, e = .returned (.tuple #[clA q, .int .i64 er]) ∧ TryQ a fr lv M q er ∧ Below w.heap.size w w' := by
  obtain ⟨p0, c0, e0, -⟩ := ha.p.f
  obtain ⟨p1, c1, e1, -⟩ := ha.s.f
  obtain ⟨p2, c2, e2, -⟩ := ha.w.f
  obtain ⟨n0, hn0⟩ : ∃ n, a.P.length = n := ⟨_, rfl⟩
  obtain ⟨n1, hn1⟩ : ∃ n, a.S.length = n := ⟨_, rfl⟩
  obtain ⟨n2, hn2⟩ : ∃ n, a.W.length = n := ⟨_, rfl⟩
  rw [hn0] at e0
  rw [hn1] at e1
  rw [hn2] at e2
  subst e0 e1 e2
  clear hn0 hn1 hn2
  have HI : Hid (InvC M) := hI
  clear hI
  by_cases hca : chkF a = 0
  · by_cases h1 : lv < 1
    · have HT : Hid (TryQ a fr lv M none 200) := .inr (.inl ⟨hca, .inl h1, rfl, rfl⟩)
      obtain ⟨w2, hw2⟩ : ∃ w2, ((w.alloc (.cells #[.int .u64 (fr : Nat), .slice p0 n0 c0, .slice p1 n1 c1, .slice p2 n2 c2, .int .i64 lv] 48)).alloc (.cells #[.int .u64 0, .int .i64 0, .int .i64 0, .string ⟨#[]⟩] 41)) = w2 := ⟨_, rfl⟩
      have HB2 : Hid (Below w.heap.size w w2) := by rw [← hw2]; exact ((Below.refl _ _).alloc (Nat.le_refl _) _).alloc (by simp) _
      have HKA : Hid (Blk w2 w.heap.size #[.int .u64 (fr : Nat), .slice p0 n0 c0, .slice p1 n1 c1, .slice p2 n2 c2, .int .i64 lv] 48) := by rw [← hw2]; exact (Blk.new w _ _).keep (B := w.heap.size + 1) ((Below.refl _ _).alloc (by simp) _) (by omega)
      have HKB : Hid (Blk w2 (w.heap.size + 1) #[.int .u64 0, .int .i64 0, .int .i64 0, .string ⟨#[]⟩] 41) := by
        rw [← hw2]
        have h := Blk.new (w.alloc (.cells #[.int .u64 (fr : Nat), .slice p0 n0 c0, .slice p1 n1 c1, .slice p2 n2 c2, .int .i64 lv] 48)) #[.int .u64 0, .int .i64 0, .int .i64 0, .string ⟨#[]⟩] 41
        rw [World.size_alloc] at h
        exact h
      have HX2 : Hid (DocC w2 B v M) := hX.on HB2.out
      have HA2 : Hid (RdF w2 _ _ _ a) := ha.on HB2.out
      have CC : Hid (Calls _ _ _ _ _) := rcheck_any a _ _ _ w2 HA2.out
      have k1 := HKA.out.cell (i := 1) rfl
      have k2 := HKA.out.cell (i := 2) rfl
      have k3 := HKA.out.cell (i := 3) rfl
      clear hX ha
      have HCA : Hid (chkF a = 0) := hca
      rw [hca] at CC
      clear hca
      go_enter Tryz.func19, Tryz.ntmps19
      go_wp2_with fail
      refine CC.out.mono ?_
      rintro e w3 ⟨rfl, hb3⟩
      clear CC k1 k2 k3 hw2
      have HB3 : Hid (Below w.heap.size w w3) := HB2.out.trans (hb3.mono HB2.out.size)
      have HX3 : Hid (DocC w3 B v M) := HX2.out.on hb3
      have HA3 : Hid (RdF w3 _ _ _ a) := HA2.out.on hb3
      have HA : Hid (Blk w3 w.heap.size #[.int .u64 (fr : Nat), .slice p0 n0 c0, .slice p1 n1 c1, .slice p2 n2 c2, .int .i64 lv] 48) := HKA.out.on hb3
      have HZ : Hid (Blk w3 (w.heap.size + 1) #[.int .u64 0, .int .i64 0, .int .i64 0, .string ⟨#[]⟩] 41) := HKB.out.on hb3
      clear hb3 HB2 HX2 HA2 HKA HKB
      have z0 := HZ.out.cell (i := 0) rfl
      have z1 := HZ.out.cell (i := 1) rfl
      have z2 := HZ.out.cell (i := 2) rfl
      have z3 := HZ.out.cell (i := 3) rfl
      have f0 := HZ.out.frozen 0
      have f1 := HZ.out.frozen 1
      have f2 := HZ.out.frozen 2
      have f3 := HZ.out.frozen 3
      have l4 := HA.out.cell (i := 4) rfl
      have H4 : Hid (Blk ((((w3.setCell ⟨w.heap.size + 1, 0, none⟩ (.int .u64 0)).setCell ⟨w.heap.size + 1, 1, none⟩ (.int .i64 0)).setCell ⟨w.heap.size + 1, 2, none⟩ (.int .i64 0)).setCell ⟨w.heap.size + 1, 3, none⟩ (.string ⟨#[]⟩)) (w.heap.size + 1) #[(.int .u64 0), (.int .i64 0), (.int .i64 0), (.string ⟨#[]⟩)] 41 ∧ Frm w3 ((((w3.setCell ⟨w.heap.size + 1, 0, none⟩ (.int .u64 0)).setCell ⟨w.heap.size + 1, 1, none⟩ (.int .i64 0)).setCell ⟨w.heap.size + 1, 2, none⟩ (.int .i64 0)).setCell ⟨w.heap.size + 1, 3, none⟩ (.string ⟨#[]⟩)) (fun k => k = w.heap.size + 1)) := set4 HZ.out
      have HE4 : Hid (Below w.heap.size w ((((w3.setCell ⟨w.heap.size + 1, 0, none⟩ (.int .u64 0)).setCell ⟨w.heap.size + 1, 1, none⟩ (.int .i64 0)).setCell ⟨w.heap.size + 1, 2, none⟩ (.int .i64 0)).setCell ⟨w.heap.size + 1, 3, none⟩ (.string ⟨#[]⟩))) := HB3.out.trans (H4.out.2.below HB3.out.size (fun k hk => by omega))
      go_wp2_with fail
      clear z0 z1 z2 z3 f0 f1 f2 f3 l4
      generalize (((w3.setCell ⟨w.heap.size + 1, 0, none⟩ (.int .u64 0)).setCell ⟨w.heap.size + 1, 1, none⟩ (.int .i64 0)).setCell ⟨w.heap.size + 1, 2, none⟩ (.int .i64 0)).setCell ⟨w.heap.size + 1, 3, none⟩ (.string ⟨#[]⟩) = wz at *
      have r0 := H4.out.1.cell (i := 0) rfl
      have r1 := H4.out.1.cell (i := 1) rfl
      have r2 := H4.out.1.cell (i := 2) rfl
      have r3 := H4.out.1.cell (i := 3) rfl
      refine bodyPost_ret (v := .tuple #[clA (none), .int .i64 (200)]) (by simp [clA, results, Tryz.results19, go_sem, r0, r1, r2, r3]) rfl ?_
      exact ⟨_, _, rfl, HT.out, HE4.out⟩
    · by_cases h2 : 3 < lv
      · have HT : Hid (TryQ a fr lv M none 200) := .inr (.inl ⟨hca, .inr h2, rfl, rfl⟩)
        obtain ⟨w2, hw2⟩ : ∃ w2, ((w.alloc (.cells #[.int .u64 (fr : Nat), .slice p0 n0 c0, .slice p1 n1 c1, .slice p2 n2 c2, .int .i64 lv] 48)).alloc (.cells #[.int .u64 0, .int .i64 0, .int .i64 0, .string ⟨#[]⟩] 41)) = w2 := ⟨_, rfl⟩
        have HB2 : Hid (Below w.heap.size w w2) := by rw [← hw2]; exact ((Below.refl _ _).alloc (Nat.le_refl _) _).alloc (by simp) _
        have HKA : Hid (Blk w2 w.heap.size #[.int .u64 (fr : Nat), .slice p0 n0 c0, .slice p1 n1 c1, .slice p2 n2 c2, .int .i64 lv] 48) := by rw [← hw2]; exact (Blk.new w _ _).keep (B := w.heap.size + 1) ((Below.refl _ _).alloc (by simp) _) (by omega)
        have HKB : Hid (Blk w2 (w.heap.size + 1) #[.int .u64 0, .int .i64 0, .int .i64 0, .string ⟨#[]⟩] 41) := by
          rw [← hw2]
          have h := Blk.new (w.alloc (.cells #[.int .u64 (fr : Nat), .slice p0 n0 c0, .slice p1 n1 c1, .slice p2 n2 c2, .int .i64 lv] 48)) #[.int .u64 0, .int .i64 0, .int .i64 0, .string ⟨#[]⟩] 41
          rw [World.size_alloc] at h
          exact h
        have HX2 : Hid (DocC w2 B v M) := hX.on HB2.out
        have HA2 : Hid (RdF w2 _ _ _ a) := ha.on HB2.out
        have CC : Hid (Calls _ _ _ _ _) := rcheck_any a _ _ _ w2 HA2.out
        have k1 := HKA.out.cell (i := 1) rfl
        have k2 := HKA.out.cell (i := 2) rfl
        have k3 := HKA.out.cell (i := 3) rfl
        clear hX ha
        have HCA : Hid (chkF a = 0) := hca
        rw [hca] at CC
        clear hca
        go_enter Tryz.func19, Tryz.ntmps19
        go_wp2_with fail
        refine CC.out.mono ?_
        rintro e w3 ⟨rfl, hb3⟩
        clear CC k1 k2 k3 hw2
        have HB3 : Hid (Below w.heap.size w w3) := HB2.out.trans (hb3.mono HB2.out.size)
        have HX3 : Hid (DocC w3 B v M) := HX2.out.on hb3
        have HA3 : Hid (RdF w3 _ _ _ a) := HA2.out.on hb3
        have HA : Hid (Blk w3 w.heap.size #[.int .u64 (fr : Nat), .slice p0 n0 c0, .slice p1 n1 c1, .slice p2 n2 c2, .int .i64 lv] 48) := HKA.out.on hb3
        have HZ : Hid (Blk w3 (w.heap.size + 1) #[.int .u64 0, .int .i64 0, .int .i64 0, .string ⟨#[]⟩] 41) := HKB.out.on hb3
        clear hb3 HB2 HX2 HA2 HKA HKB
        have z0 := HZ.out.cell (i := 0) rfl
        have z1 := HZ.out.cell (i := 1) rfl
        have z2 := HZ.out.cell (i := 2) rfl
        have z3 := HZ.out.cell (i := 3) rfl
        have f0 := HZ.out.frozen 0
        have f1 := HZ.out.frozen 1
        have f2 := HZ.out.frozen 2
        have f3 := HZ.out.frozen 3
        have l4 := HA.out.cell (i := 4) rfl
        have H4 : Hid (Blk ((((w3.setCell ⟨w.heap.size + 1, 0, none⟩ (.int .u64 0)).setCell ⟨w.heap.size + 1, 1, none⟩ (.int .i64 0)).setCell ⟨w.heap.size + 1, 2, none⟩ (.int .i64 0)).setCell ⟨w.heap.size + 1, 3, none⟩ (.string ⟨#[]⟩)) (w.heap.size + 1) #[(.int .u64 0), (.int .i64 0), (.int .i64 0), (.string ⟨#[]⟩)] 41 ∧ Frm w3 ((((w3.setCell ⟨w.heap.size + 1, 0, none⟩ (.int .u64 0)).setCell ⟨w.heap.size + 1, 1, none⟩ (.int .i64 0)).setCell ⟨w.heap.size + 1, 2, none⟩ (.int .i64 0)).setCell ⟨w.heap.size + 1, 3, none⟩ (.string ⟨#[]⟩)) (fun k => k = w.heap.size + 1)) := set4 HZ.out
        have HE4 : Hid (Below w.heap.size w ((((w3.setCell ⟨w.heap.size + 1, 0, none⟩ (.int .u64 0)).setCell ⟨w.heap.size + 1, 1, none⟩ (.int .i64 0)).setCell ⟨w.heap.size + 1, 2, none⟩ (.int .i64 0)).setCell ⟨w.heap.size + 1, 3, none⟩ (.string ⟨#[]⟩))) := HB3.out.trans (H4.out.2.below HB3.out.size (fun k hk => by omega))
        go_wp2_with fail
        clear z0 z1 z2 z3 f0 f1 f2 f3 l4
        generalize (((w3.setCell ⟨w.heap.size + 1, 0, none⟩ (.int .u64 0)).setCell ⟨w.heap.size + 1, 1, none⟩ (.int .i64 0)).setCell ⟨w.heap.size + 1, 2, none⟩ (.int .i64 0)).setCell ⟨w.heap.size + 1, 3, none⟩ (.string ⟨#[]⟩) = wz at *
        have r0 := H4.out.1.cell (i := 0) rfl
        have r1 := H4.out.1.cell (i := 1) rfl
        have r2 := H4.out.1.cell (i := 2) rfl
        have r3 := H4.out.1.cell (i := 3) rfl
        refine bodyPost_ret (v := .tuple #[clA (none), .int .i64 (200)]) (by simp [clA, results, Tryz.results19, go_sem, r0, r1, r2, r3]) rfl ?_
        exact ⟨_, _, rfl, HT.out, HE4.out⟩
      · have h3 : lv = 1 ∨ lv = 2 ∨ lv = 3 := by omega
        clear h1 h2
        rcases h3 with rfl | rfl | rfl
        · skip
          obtain ⟨w2, hw2⟩ : ∃ w2, ((w.alloc (.cells #[.int .u64 (fr : Nat), .slice p0 n0 c0, .slice p1 n1 c1, .slice p2 n2 c2, .int .i64 1] 48)).alloc (.cells #[.int .u64 0, .int .i64 0, .int .i64 0, .string ⟨#[]⟩] 41)) = w2 := ⟨_, rfl⟩
          have HB2 : Hid (Below w.heap.size w w2) := by rw [← hw2]; exact ((Below.refl _ _).alloc (Nat.le_refl _) _).alloc (by simp) _
          have HKA : Hid (Blk w2 w.heap.size #[.int .u64 (fr : Nat), .slice p0 n0 c0, .slice p1 n1 c1, .slice p2 n2 c2, .int .i64 1] 48) := by rw [← hw2]; exact (Blk.new w _ _).keep (B := w.heap.size + 1) ((Below.refl _ _).alloc (by simp) _) (by omega)
          have HKB : Hid (Blk w2 (w.heap.size + 1) #[.int .u64 0, .int .i64 0, .int .i64 0, .string ⟨#[]⟩] 41) := by
            rw [← hw2]
            have h := Blk.new (w.alloc (.cells #[.int .u64 (fr : Nat), .slice p0 n0 c0, .slice p1 n1 c1, .slice p2 n2 c2, .int .i64 1] 48)) #[.int .u64 0, .int .i64 0, .int .i64 0, .string ⟨#[]⟩] 41
            rw [World.size_alloc] at h
            exact h
          have HX2 : Hid (DocC w2 B v M) := hX.on HB2.out
          have HA2 : Hid (RdF w2 _ _ _ a) := ha.on HB2.out
          have CC : Hid (Calls _ _ _ _ _) := rcheck_any a _ _ _ w2 HA2.out
          have k1 := HKA.out.cell (i := 1) rfl
          have k2 := HKA.out.cell (i := 2) rfl
          have k3 := HKA.out.cell (i := 3) rfl
          clear hX ha
          have HCA : Hid (chkF a = 0) := hca
          rw [hca] at CC
          clear hca
          go_enter Tryz.func19, Tryz.ntmps19
          go_wp2_with fail
          refine CC.out.mono ?_
          rintro e w3 ⟨rfl, hb3⟩
          clear CC k1 k2 k3 hw2
          have HB3 : Hid (Below w.heap.size w w3) := HB2.out.trans (hb3.mono HB2.out.size)
          have HX3 : Hid (DocC w3 B v M) := HX2.out.on hb3
          have HA3 : Hid (RdF w3 _ _ _ a) := HA2.out.on hb3
          have HA : Hid (Blk w3 w.heap.size #[.int .u64 (fr : Nat), .slice p0 n0 c0, .slice p1 n1 c1, .slice p2 n2 c2, .int .i64 1] 48) := HKA.out.on hb3
          have HZ : Hid (Blk w3 (w.heap.size + 1) #[.int .u64 0, .int .i64 0, .int .i64 0, .string ⟨#[]⟩] 41) := HKB.out.on hb3
          clear hb3 HB2 HX2 HA2 HKA HKB
          have HT : Hid (TryQ a fr 1 M none 0) := .inr (.inr (.inr (.inr ⟨HCA.out, .inl rfl, fun h => absurd h (by decide), fun h => absurd h (by decide), rfl, rfl⟩)))
          have z0 := HZ.out.cell (i := 0) rfl
          have z1 := HZ.out.cell (i := 1) rfl
          have z2 := HZ.out.cell (i := 2) rfl
          have z3 := HZ.out.cell (i := 3) rfl
          have f0 := HZ.out.frozen 0
          have f1 := HZ.out.frozen 1
          have f2 := HZ.out.frozen 2
          have f3 := HZ.out.frozen 3
          have l4 := HA.out.cell (i := 4) rfl
          have H4 : Hid (Blk ((((w3.setCell ⟨w.heap.size + 1, 0, none⟩ (.int .u64 0)).setCell ⟨w.heap.size + 1, 1, none⟩ (.int .i64 0)).setCell ⟨w.heap.size + 1, 2, none⟩ (.int .i64 0)).setCell ⟨w.heap.size + 1, 3, none⟩ (.string ⟨#[]⟩)) (w.heap.size + 1) #[(.int .u64 0), (.int .i64 0), (.int .i64 0), (.string ⟨#[]⟩)] 41 ∧ Frm w3 ((((w3.setCell ⟨w.heap.size + 1, 0, none⟩ (.int .u64 0)).setCell ⟨w.heap.size + 1, 1, none⟩ (.int .i64 0)).setCell ⟨w.heap.size + 1, 2, none⟩ (.int .i64 0)).setCell ⟨w.heap.size + 1, 3, none⟩ (.string ⟨#[]⟩)) (fun k => k = w.heap.size + 1)) := set4 HZ.out
          have HE4 : Hid (Below w.heap.size w ((((w3.setCell ⟨w.heap.size + 1, 0, none⟩ (.int .u64 0)).setCell ⟨w.heap.size + 1, 1, none⟩ (.int .i64 0)).setCell ⟨w.heap.size + 1, 2, none⟩ (.int .i64 0)).setCell ⟨w.heap.size + 1, 3, none⟩ (.string ⟨#[]⟩))) := HB3.out.trans (H4.out.2.below HB3.out.size (fun k hk => by omega))
          go_wp2_with fail
          clear z0 z1 z2 z3 f0 f1 f2 f3 l4
          generalize (((w3.setCell ⟨w.heap.size + 1, 0, none⟩ (.int .u64 0)).setCell ⟨w.heap.size + 1, 1, none⟩ (.int .i64 0)).setCell ⟨w.heap.size + 1, 2, none⟩ (.int .i64 0)).setCell ⟨w.heap.size + 1, 3, none⟩ (.string ⟨#[]⟩) = wz at *
          have r0 := H4.out.1.cell (i := 0) rfl
          have r1 := H4.out.1.cell (i := 1) rfl
          have r2 := H4.out.1.cell (i := 2) rfl
          have r3 := H4.out.1.cell (i := 3) rfl
          refine bodyPost_ret (v := .tuple #[clA (none), .int .i64 (0)]) (by simp [clA, results, Tryz.results19, go_sem, r0, r1, r2, r3]) rfl ?_
          exact ⟨_, _, rfl, HT.out, HE4.out⟩
        · skip
          obtain ⟨w2, hw2⟩ : ∃ w2, ((w.alloc (.cells #[.int .u64 (fr : Nat), .slice p0 n0 c0, .slice p1 n1 c1, .slice p2 n2 c2, .int .i64 2] 48)).alloc (.cells #[.int .u64 0, .int .i64 0, .int .i64 0, .string ⟨#[]⟩] 41)) = w2 := ⟨_, rfl⟩
          have HB2 : Hid (Below w.heap.size w w2) := by rw [← hw2]; exact ((Below.refl _ _).alloc (Nat.le_refl _) _).alloc (by simp) _
          have HKA : Hid (Blk w2 w.heap.size #[.int .u64 (fr : Nat), .slice p0 n0 c0, .slice p1 n1 c1, .slice p2 n2 c2, .int .i64 2] 48) := by rw [← hw2]; exact (Blk.new w _ _).keep (B := w.heap.size + 1) ((Below.refl _ _).alloc (by simp) _) (by omega)
          have HKB : Hid (Blk w2 (w.heap.size + 1) #[.int .u64 0, .int .i64 0, .int .i64 0, .string ⟨#[]⟩] 41) := by
            rw [← hw2]
            have h := Blk.new (w.alloc (.cells #[.int .u64 (fr : Nat), .slice p0 n0 c0, .slice p1 n1 c1, .slice p2 n2 c2, .int .i64 2] 48)) #[.int .u64 0, .int .i64 0, .int .i64 0, .string ⟨#[]⟩] 41
            rw [World.size_alloc] at h
            exact h
          have HX2 : Hid (DocC w2 B v M) := hX.on HB2.out
          have HA2 : Hid (RdF w2 _ _ _ a) := ha.on HB2.out
          have CC : Hid (Calls _ _ _ _ _) := rcheck_any a _ _ _ w2 HA2.out
          have k1 := HKA.out.cell (i := 1) rfl
          have k2 := HKA.out.cell (i := 2) rfl
          have k3 := HKA.out.cell (i := 3) rfl
          clear hX ha
          have HCA : Hid (chkF a = 0) := hca
          rw [hca] at CC
          clear hca
          go_enter Tryz.func19, Tryz.ntmps19
          go_wp2_with fail
          refine CC.out.mono ?_
          rintro e w3 ⟨rfl, hb3⟩
          clear CC k1 k2 k3 hw2
          have HB3 : Hid (Below w.heap.size w w3) := HB2.out.trans (hb3.mono HB2.out.size)
          have HX3 : Hid (DocC w3 B v M) := HX2.out.on hb3
          have HA3 : Hid (RdF w3 _ _ _ a) := HA2.out.on hb3
          have HA : Hid (Blk w3 w.heap.size #[.int .u64 (fr : Nat), .slice p0 n0 c0, .slice p1 n1 c1, .slice p2 n2 c2, .int .i64 2] 48) := HKA.out.on hb3
          have HZ : Hid (Blk w3 (w.heap.size + 1) #[.int .u64 0, .int .i64 0, .int .i64 0, .string ⟨#[]⟩] 41) := HKB.out.on hb3
          clear hb3 HB2 HX2 HA2 HKA HKB
          have l0 := HA.out.cell (i := 0) rfl
          have l1 := HA.out.cell (i := 1) rfl
          have l2 := HA.out.cell (i := 2) rfl
          have l3 := HA.out.cell (i := 3) rfl
          have l4 := HA.out.cell (i := 4) rfl
          have CW : Hid (Calls _ _ _ _ _) := rwrote_any a _ _ _ B fr v M w3 HX3.out HI.out HA3.out
          go_wp2_with fail
          clear l0 l1 l2 l3 l4
          refine CW.out.mono ?_
          rintro e w4 ⟨q, rfl, hq, hb⟩
          clear CW
          have HB4 : Hid (Below w.heap.size w w4) := HB3.out.trans (hb.mono HB3.out.size)
          have HX4 : Hid (DocC w4 B v M) := HX3.out.on hb
          have HA4 : Hid (RdF w4 _ _ _ a) := HA3.out.on hb
          have HAn : Hid (Blk w4 w.heap.size #[.int .u64 (fr : Nat), .slice p0 n0 c0, .slice p1 n1 c1, .slice p2 n2 c2, .int .i64 2] 48) := HA.out.on hb
          have HZn : Hid (Blk w4 (w.heap.size + 1) #[.int .u64 0, .int .i64 0, .int .i64 0, .string ⟨#[]⟩] 41) := HZ.out.on hb
          have HQ4 := hq.ok HCA.out
          clear hb hq HB3 HX3 HA3 HA HZ
          cases q with
          | some q =>
            obtain ⟨m, x⟩ := q
            have HT : Hid (TryQ a fr 2 M (some (m, x)) 112) := .inr (.inr (.inl ⟨HCA.out, .inl rfl, ⟨_, rfl⟩, HQ4, rfl⟩))
            obtain ⟨wb, hwb⟩ : ∃ wb, w4.alloc (.cells #[.int .u64 (m : Nat), .int .i64 x.t, .int .i64 x.i, .string x.k] 41) = wb := ⟨_, rfl⟩
            have hal : Below w4.heap.size w4 wb := by rw [← hwb]; exact (Below.refl _ _).alloc (Nat.le_refl _) _
            have HBb : Hid (Below w.heap.size w wb) := HB4.out.trans (hal.mono HB4.out.size)
            have HKc : Hid (Blk wb w4.heap.size #[.int .u64 (m : Nat), .int .i64 x.t, .int .i64 x.i, .string x.k] 41) := by rw [← hwb]; exact Blk.new w4 _ _
            have HZb : Hid (Blk wb (w.heap.size + 1) #[.int .u64 0, .int .i64 0, .int .i64 0, .string ⟨#[]⟩] 41) := HZn.out.on hal
            clear hal HB4 HX4 HA4 HZn HAn HQ4
            dsimp only [clV]
            have z0 := HZb.out.cell (i := 0) rfl
            have z1 := HZb.out.cell (i := 1) rfl
            have z2 := HZb.out.cell (i := 2) rfl
            have z3 := HZb.out.cell (i := 3) rfl
            have f0 := HZb.out.frozen 0
            have f1 := HZb.out.frozen 1
            have f2 := HZb.out.frozen 2
            have f3 := HZb.out.frozen 3
            have y0 := HKc.out.cell (i := 0) rfl
            have y1 := HKc.out.cell (i := 1) rfl
            have y2 := HKc.out.cell (i := 2) rfl
            have y3 := HKc.out.cell (i := 3) rfl
            have H4 : Hid (Blk ((((wb.setCell ⟨w.heap.size + 1, 0, none⟩ (.int .u64 (m : Nat))).setCell ⟨w.heap.size + 1, 1, none⟩ (.int .i64 x.t)).setCell ⟨w.heap.size + 1, 2, none⟩ (.int .i64 x.i)).setCell ⟨w.heap.size + 1, 3, none⟩ (.string x.k)) (w.heap.size + 1) #[(.int .u64 (m : Nat)), (.int .i64 x.t), (.int .i64 x.i), (.string x.k)] 41 ∧ Frm wb ((((wb.setCell ⟨w.heap.size + 1, 0, none⟩ (.int .u64 (m : Nat))).setCell ⟨w.heap.size + 1, 1, none⟩ (.int .i64 x.t)).setCell ⟨w.heap.size + 1, 2, none⟩ (.int .i64 x.i)).setCell ⟨w.heap.size + 1, 3, none⟩ (.string x.k)) (fun k => k = w.heap.size + 1)) := set4 HZb.out
            have HE4 : Hid (Below w.heap.size w ((((wb.setCell ⟨w.heap.size + 1, 0, none⟩ (.int .u64 (m : Nat))).setCell ⟨w.heap.size + 1, 1, none⟩ (.int .i64 x.t)).setCell ⟨w.heap.size + 1, 2, none⟩ (.int .i64 x.i)).setCell ⟨w.heap.size + 1, 3, none⟩ (.string x.k))) := HBb.out.trans (H4.out.2.below HBb.out.size (fun k hk => by omega))
            go_wp2_with fail
            clear z0 z1 z2 z3 f0 f1 f2 f3 y0 y1 y2 y3 hwb
            generalize (((wb.setCell ⟨w.heap.size + 1, 0, none⟩ (.int .u64 (m : Nat))).setCell ⟨w.heap.size + 1, 1, none⟩ (.int .i64 x.t)).setCell ⟨w.heap.size + 1, 2, none⟩ (.int .i64 x.i)).setCell ⟨w.heap.size + 1, 3, none⟩ (.string x.k) = wz at *
            have r0 := H4.out.1.cell (i := 0) rfl
            have r1 := H4.out.1.cell (i := 1) rfl
            have r2 := H4.out.1.cell (i := 2) rfl
            have r3 := H4.out.1.cell (i := 3) rfl
            refine bodyPost_ret (v := .tuple #[clA (some (m, x)), .int .i64 (112)]) (by simp [clA, results, Tryz.results19, go_sem, r0, r1, r2, r3]) rfl ?_
            exact ⟨_, _, rfl, HT.out, HE4.out⟩
          | none =>
            obtain ⟨wb4, hwb⟩ : ∃ wb, w4.alloc (.cells #[.int .u64 0, .int .i64 0, .int .i64 0, .string ⟨#[]⟩] 41) = wb := ⟨_, rfl⟩
            have hal : Below w4.heap.size w4 wb4 := by rw [← hwb]; exact (Below.refl _ _).alloc (Nat.le_refl _) _
            have HKc : Hid (Blk wb4 w4.heap.size #[.int .u64 0, .int .i64 0, .int .i64 0, .string ⟨#[]⟩] 41) := by rw [← hwb]; exact Blk.new w4 _ _
            have y0 := HKc.out.cell (i := 0) rfl
            have y1 := HKc.out.cell (i := 1) rfl
            have y2 := HKc.out.cell (i := 2) rfl
            have y3 := HKc.out.cell (i := 3) rfl
            have g0 := HKc.out.frozen 0
            have g1 := HKc.out.frozen 1
            have g2 := HKc.out.frozen 2
            have g3 := HKc.out.frozen 3
            obtain ⟨ws4, hws⟩ : ∃ ws, (((wb4.setCell ⟨w4.heap.size, 0, none⟩ (.int .u64 0)).setCell ⟨w4.heap.size, 1, none⟩ (.int .i64 0)).setCell ⟨w4.heap.size, 2, none⟩ (.int .i64 0)).setCell ⟨w4.heap.size, 3, none⟩ (.string ⟨#[]⟩) = ws := ⟨_, rfl⟩
            have hal2 : Below w4.heap.size w4 ws4 := by
              rw [← hws]
              exact hal.trans ((set4 HKc.out).2.below hal.size (fun k hk => by omega))
            have HBs4 : Hid (Below w.heap.size w ws4) := HB4.out.trans (hal2.mono HB4.out.size)
            have HXs4 : Hid (DocC ws4 B v M) := HX4.out.on hal2
            have HAs4 : Hid (RdF ws4 _ _ _ a) := HA4.out.on hal2
            have HA : Hid (Blk ws4 w.heap.size #[.int .u64 (fr : Nat), .slice p0 n0 c0, .slice p1 n1 c1, .slice p2 n2 c2, .int .i64 2] 48) := HAn.out.on hal2
            have HZ : Hid (Blk ws4 (w.heap.size + 1) #[.int .u64 0, .int .i64 0, .int .i64 0, .string ⟨#[]⟩] 41) := HZn.out.on hal2
            clear hal hal2 HB4 HX4 HA4 HZn HAn HKc
            dsimp only [clV]
            have HT : Hid (TryQ a fr 2 M none 0) := .inr (.inr (.inr (.inr ⟨HCA.out, .inr (.inl rfl), fun _ => HQ4, fun h => absurd h (by decide), rfl, rfl⟩)))
            have z0 := HZ.out.cell (i := 0) rfl
            have z1 := HZ.out.cell (i := 1) rfl
            have z2 := HZ.out.cell (i := 2) rfl
            have z3 := HZ.out.cell (i := 3) rfl
            have f0 := HZ.out.frozen 0
            have f1 := HZ.out.frozen 1
            have f2 := HZ.out.frozen 2
            have f3 := HZ.out.frozen 3
            have l4 := HA.out.cell (i := 4) rfl
            have H4 : Hid (Blk ((((ws4.setCell ⟨w.heap.size + 1, 0, none⟩ (.int .u64 0)).setCell ⟨w.heap.size + 1, 1, none⟩ (.int .i64 0)).setCell ⟨w.heap.size + 1, 2, none⟩ (.int .i64 0)).setCell ⟨w.heap.size + 1, 3, none⟩ (.string ⟨#[]⟩)) (w.heap.size + 1) #[(.int .u64 0), (.int .i64 0), (.int .i64 0), (.string ⟨#[]⟩)] 41 ∧ Frm ws4 ((((ws4.setCell ⟨w.heap.size + 1, 0, none⟩ (.int .u64 0)).setCell ⟨w.heap.size + 1, 1, none⟩ (.int .i64 0)).setCell ⟨w.heap.size + 1, 2, none⟩ (.int .i64 0)).setCell ⟨w.heap.size + 1, 3, none⟩ (.string ⟨#[]⟩)) (fun k => k = w.heap.size + 1)) := set4 HZ.out
            have HE4 : Hid (Below w.heap.size w ((((ws4.setCell ⟨w.heap.size + 1, 0, none⟩ (.int .u64 0)).setCell ⟨w.heap.size + 1, 1, none⟩ (.int .i64 0)).setCell ⟨w.heap.size + 1, 2, none⟩ (.int .i64 0)).setCell ⟨w.heap.size + 1, 3, none⟩ (.string ⟨#[]⟩))) := HBs4.out.trans (H4.out.2.below HBs4.out.size (fun k hk => by omega))
            go_wp2_with fail
            clear z0 z1 z2 z3 f0 f1 f2 f3 l4
            generalize (((ws4.setCell ⟨w.heap.size + 1, 0, none⟩ (.int .u64 0)).setCell ⟨w.heap.size + 1, 1, none⟩ (.int .i64 0)).setCell ⟨w.heap.size + 1, 2, none⟩ (.int .i64 0)).setCell ⟨w.heap.size + 1, 3, none⟩ (.string ⟨#[]⟩) = wz at *
            have r0 := H4.out.1.cell (i := 0) rfl
            have r1 := H4.out.1.cell (i := 1) rfl
            have r2 := H4.out.1.cell (i := 2) rfl
            have r3 := H4.out.1.cell (i := 3) rfl
            refine bodyPost_ret (v := .tuple #[clA (none), .int .i64 (0)]) (by simp [clA, results, Tryz.results19, go_sem, r0, r1, r2, r3]) rfl ?_
            exact ⟨_, _, rfl, HT.out, HE4.out⟩
        · skip
          obtain ⟨w2, hw2⟩ : ∃ w2, ((w.alloc (.cells #[.int .u64 (fr : Nat), .slice p0 n0 c0, .slice p1 n1 c1, .slice p2 n2 c2, .int .i64 3] 48)).alloc (.cells #[.int .u64 0, .int .i64 0, .int .i64 0, .string ⟨#[]⟩] 41)) = w2 := ⟨_, rfl⟩
          have HB2 : Hid (Below w.heap.size w w2) := by rw [← hw2]; exact ((Below.refl _ _).alloc (Nat.le_refl _) _).alloc (by simp) _
          have HKA : Hid (Blk w2 w.heap.size #[.int .u64 (fr : Nat), .slice p0 n0 c0, .slice p1 n1 c1, .slice p2 n2 c2, .int .i64 3] 48) := by rw [← hw2]; exact (Blk.new w _ _).keep (B := w.heap.size + 1) ((Below.refl _ _).alloc (by simp) _) (by omega)
          have HKB : Hid (Blk w2 (w.heap.size + 1) #[.int .u64 0, .int .i64 0, .int .i64 0, .string ⟨#[]⟩] 41) := by
            rw [← hw2]
            have h := Blk.new (w.alloc (.cells #[.int .u64 (fr : Nat), .slice p0 n0 c0, .slice p1 n1 c1, .slice p2 n2 c2, .int .i64 3] 48)) #[.int .u64 0, .int .i64 0, .int .i64 0, .string ⟨#[]⟩] 41
            rw [World.size_alloc] at h
            exact h
          have HX2 : Hid (DocC w2 B v M) := hX.on HB2.out
          have HA2 : Hid (RdF w2 _ _ _ a) := ha.on HB2.out
          have CC : Hid (Calls _ _ _ _ _) := rcheck_any a _ _ _ w2 HA2.out
          have k1 := HKA.out.cell (i := 1) rfl
          have k2 := HKA.out.cell (i := 2) rfl
          have k3 := HKA.out.cell (i := 3) rfl
          clear hX ha
          have HCA : Hid (chkF a = 0) := hca
          rw [hca] at CC
          clear hca
          go_enter Tryz.func19, Tryz.ntmps19
          go_wp2_with fail
          refine CC.out.mono ?_
          rintro e w3 ⟨rfl, hb3⟩
          clear CC k1 k2 k3 hw2
          have HB3 : Hid (Below w.heap.size w w3) := HB2.out.trans (hb3.mono HB2.out.size)
          have HX3 : Hid (DocC w3 B v M) := HX2.out.on hb3
          have HA3 : Hid (RdF w3 _ _ _ a) := HA2.out.on hb3
          have HA : Hid (Blk w3 w.heap.size #[.int .u64 (fr : Nat), .slice p0 n0 c0, .slice p1 n1 c1, .slice p2 n2 c2, .int .i64 3] 48) := HKA.out.on hb3
          have HZ : Hid (Blk w3 (w.heap.size + 1) #[.int .u64 0, .int .i64 0, .int .i64 0, .string ⟨#[]⟩] 41) := HKB.out.on hb3
          clear hb3 HB2 HX2 HA2 HKA HKB
          have l0 := HA.out.cell (i := 0) rfl
          have l1 := HA.out.cell (i := 1) rfl
          have l2 := HA.out.cell (i := 2) rfl
          have l3 := HA.out.cell (i := 3) rfl
          have l4 := HA.out.cell (i := 4) rfl
          have CW : Hid (Calls _ _ _ _ _) := rwrote_any a _ _ _ B fr v M w3 HX3.out HI.out HA3.out
          go_wp2_with fail
          clear l0 l1 l2 l3 l4
          refine CW.out.mono ?_
          rintro e w4 ⟨q, rfl, hq, hb⟩
          clear CW
          have HB4 : Hid (Below w.heap.size w w4) := HB3.out.trans (hb.mono HB3.out.size)
          have HX4 : Hid (DocC w4 B v M) := HX3.out.on hb
          have HA4 : Hid (RdF w4 _ _ _ a) := HA3.out.on hb
          have HAn : Hid (Blk w4 w.heap.size #[.int .u64 (fr : Nat), .slice p0 n0 c0, .slice p1 n1 c1, .slice p2 n2 c2, .int .i64 3] 48) := HA.out.on hb
          have HZn : Hid (Blk w4 (w.heap.size + 1) #[.int .u64 0, .int .i64 0, .int .i64 0, .string ⟨#[]⟩] 41) := HZ.out.on hb
          have HQ4 := hq.ok HCA.out
          clear hb hq HB3 HX3 HA3 HA HZ
          cases q with
          | some q =>
            obtain ⟨m, x⟩ := q
            have HT : Hid (TryQ a fr 3 M (some (m, x)) 112) := .inr (.inr (.inl ⟨HCA.out, .inr rfl, ⟨_, rfl⟩, HQ4, rfl⟩))
            obtain ⟨wb, hwb⟩ : ∃ wb, w4.alloc (.cells #[.int .u64 (m : Nat), .int .i64 x.t, .int .i64 x.i, .string x.k] 41) = wb := ⟨_, rfl⟩
            have hal : Below w4.heap.size w4 wb := by rw [← hwb]; exact (Below.refl _ _).alloc (Nat.le_refl _) _
            have HBb : Hid (Below w.heap.size w wb) := HB4.out.trans (hal.mono HB4.out.size)
            have HKc : Hid (Blk wb w4.heap.size #[.int .u64 (m : Nat), .int .i64 x.t, .int .i64 x.i, .string x.k] 41) := by rw [← hwb]; exact Blk.new w4 _ _
            have HZb : Hid (Blk wb (w.heap.size + 1) #[.int .u64 0, .int .i64 0, .int .i64 0, .string ⟨#[]⟩] 41) := HZn.out.on hal
            clear hal HB4 HX4 HA4 HZn HAn HQ4
            dsimp only [clV]
            have z0 := HZb.out.cell (i := 0) rfl
            have z1 := HZb.out.cell (i := 1) rfl
            have z2 := HZb.out.cell (i := 2) rfl
            have z3 := HZb.out.cell (i := 3) rfl
            have f0 := HZb.out.frozen 0
            have f1 := HZb.out.frozen 1
            have f2 := HZb.out.frozen 2
            have f3 := HZb.out.frozen 3
            have y0 := HKc.out.cell (i := 0) rfl
            have y1 := HKc.out.cell (i := 1) rfl
            have y2 := HKc.out.cell (i := 2) rfl
            have y3 := HKc.out.cell (i := 3) rfl
            have H4 : Hid (Blk ((((wb.setCell ⟨w.heap.size + 1, 0, none⟩ (.int .u64 (m : Nat))).setCell ⟨w.heap.size + 1, 1, none⟩ (.int .i64 x.t)).setCell ⟨w.heap.size + 1, 2, none⟩ (.int .i64 x.i)).setCell ⟨w.heap.size + 1, 3, none⟩ (.string x.k)) (w.heap.size + 1) #[(.int .u64 (m : Nat)), (.int .i64 x.t), (.int .i64 x.i), (.string x.k)] 41 ∧ Frm wb ((((wb.setCell ⟨w.heap.size + 1, 0, none⟩ (.int .u64 (m : Nat))).setCell ⟨w.heap.size + 1, 1, none⟩ (.int .i64 x.t)).setCell ⟨w.heap.size + 1, 2, none⟩ (.int .i64 x.i)).setCell ⟨w.heap.size + 1, 3, none⟩ (.string x.k)) (fun k => k = w.heap.size + 1)) := set4 HZb.out
            have HE4 : Hid (Below w.heap.size w ((((wb.setCell ⟨w.heap.size + 1, 0, none⟩ (.int .u64 (m : Nat))).setCell ⟨w.heap.size + 1, 1, none⟩ (.int .i64 x.t)).setCell ⟨w.heap.size + 1, 2, none⟩ (.int .i64 x.i)).setCell ⟨w.heap.size + 1, 3, none⟩ (.string x.k))) := HBb.out.trans (H4.out.2.below HBb.out.size (fun k hk => by omega))
            go_wp2_with fail
            clear z0 z1 z2 z3 f0 f1 f2 f3 y0 y1 y2 y3 hwb
            generalize (((wb.setCell ⟨w.heap.size + 1, 0, none⟩ (.int .u64 (m : Nat))).setCell ⟨w.heap.size + 1, 1, none⟩ (.int .i64 x.t)).setCell ⟨w.heap.size + 1, 2, none⟩ (.int .i64 x.i)).setCell ⟨w.heap.size + 1, 3, none⟩ (.string x.k) = wz at *
            have r0 := H4.out.1.cell (i := 0) rfl
            have r1 := H4.out.1.cell (i := 1) rfl
            have r2 := H4.out.1.cell (i := 2) rfl
            have r3 := H4.out.1.cell (i := 3) rfl
            refine bodyPost_ret (v := .tuple #[clA (some (m, x)), .int .i64 (112)]) (by simp [clA, results, Tryz.results19, go_sem, r0, r1, r2, r3]) rfl ?_
            exact ⟨_, _, rfl, HT.out, HE4.out⟩
          | none =>
            obtain ⟨wb4, hwb⟩ : ∃ wb, w4.alloc (.cells #[.int .u64 0, .int .i64 0, .int .i64 0, .string ⟨#[]⟩] 41) = wb := ⟨_, rfl⟩
            have hal : Below w4.heap.size w4 wb4 := by rw [← hwb]; exact (Below.refl _ _).alloc (Nat.le_refl _) _
            have HKc : Hid (Blk wb4 w4.heap.size #[.int .u64 0, .int .i64 0, .int .i64 0, .string ⟨#[]⟩] 41) := by rw [← hwb]; exact Blk.new w4 _ _
            have y0 := HKc.out.cell (i := 0) rfl
            have y1 := HKc.out.cell (i := 1) rfl
            have y2 := HKc.out.cell (i := 2) rfl
            have y3 := HKc.out.cell (i := 3) rfl
            have g0 := HKc.out.frozen 0
            have g1 := HKc.out.frozen 1
            have g2 := HKc.out.frozen 2
            have g3 := HKc.out.frozen 3
            obtain ⟨ws4, hws⟩ : ∃ ws, (((wb4.setCell ⟨w4.heap.size, 0, none⟩ (.int .u64 0)).setCell ⟨w4.heap.size, 1, none⟩ (.int .i64 0)).setCell ⟨w4.heap.size, 2, none⟩ (.int .i64 0)).setCell ⟨w4.heap.size, 3, none⟩ (.string ⟨#[]⟩) = ws := ⟨_, rfl⟩
            have hal2 : Below w4.heap.size w4 ws4 := by
              rw [← hws]
              exact hal.trans ((set4 HKc.out).2.below hal.size (fun k hk => by omega))
            have HBs4 : Hid (Below w.heap.size w ws4) := HB4.out.trans (hal2.mono HB4.out.size)
            have HXs4 : Hid (DocC ws4 B v M) := HX4.out.on hal2
            have HAs4 : Hid (RdF ws4 _ _ _ a) := HA4.out.on hal2
            have HA : Hid (Blk ws4 w.heap.size #[.int .u64 (fr : Nat), .slice p0 n0 c0, .slice p1 n1 c1, .slice p2 n2 c2, .int .i64 3] 48) := HAn.out.on hal2
            have HZ : Hid (Blk ws4 (w.heap.size + 1) #[.int .u64 0, .int .i64 0, .int .i64 0, .string ⟨#[]⟩] 41) := HZn.out.on hal2
            clear hal hal2 HB4 HX4 HA4 HZn HAn HKc
            dsimp only [clV]
            have l0 := HA.out.cell (i := 0) rfl
            have l1 := HA.out.cell (i := 1) rfl
            have l2 := HA.out.cell (i := 2) rfl
            have l3 := HA.out.cell (i := 3) rfl
            have l4 := HA.out.cell (i := 4) rfl
            have CW : Hid (Calls _ _ _ _ _) := rread_any a _ _ _ B fr v M ws4 HXs4.out HI.out HAs4.out
            go_wp2_with fail
            clear y0 y1 y2 y3 g0 g1 g2 g3 hws hwb
            clear l0 l1 l2 l3 l4
            refine CW.out.mono ?_
            rintro e w5 ⟨q, rfl, hq, hb⟩
            clear CW
            have HB5 : Hid (Below w.heap.size w w5) := HBs4.out.trans (hb.mono HBs4.out.size)
            have HX5 : Hid (DocC w5 B v M) := HXs4.out.on hb
            have HA5 : Hid (RdF w5 _ _ _ a) := HAs4.out.on hb
            have HAn : Hid (Blk w5 w.heap.size #[.int .u64 (fr : Nat), .slice p0 n0 c0, .slice p1 n1 c1, .slice p2 n2 c2, .int .i64 3] 48) := HA.out.on hb
            have HZn : Hid (Blk w5 (w.heap.size + 1) #[.int .u64 0, .int .i64 0, .int .i64 0, .string ⟨#[]⟩] 41) := HZ.out.on hb
            have HQ5 := hq.ok HCA.out
            clear hb hq HBs4 HXs4 HAs4 HA HZ
            cases q with
            | some q =>
              obtain ⟨m, x⟩ := q
              have HT : Hid (TryQ a fr 3 M (some (m, x)) 205) := .inr (.inr (.inr (.inl ⟨HCA.out, rfl, HQ4, ⟨_, rfl⟩, HQ5, rfl⟩)))
              obtain ⟨wb, hwb⟩ : ∃ wb, w5.alloc (.cells #[.int .u64 (m : Nat), .int .i64 x.t, .int .i64 x.i, .string x.k] 41) = wb := ⟨_, rfl⟩
              have hal : Below w5.heap.size w5 wb := by rw [← hwb]; exact (Below.refl _ _).alloc (Nat.le_refl _) _
              have HBb : Hid (Below w.heap.size w wb) := HB5.out.trans (hal.mono HB5.out.size)
              have HKc : Hid (Blk wb w5.heap.size #[.int .u64 (m : Nat), .int .i64 x.t, .int .i64 x.i, .string x.k] 41) := by rw [← hwb]; exact Blk.new w5 _ _
              have HZb : Hid (Blk wb (w.heap.size + 1) #[.int .u64 0, .int .i64 0, .int .i64 0, .string ⟨#[]⟩] 41) := HZn.out.on hal
              clear hal HB5 HX5 HA5 HZn HAn HQ5
              dsimp only [clV]
              have z0 := HZb.out.cell (i := 0) rfl
              have z1 := HZb.out.cell (i := 1) rfl
              have z2 := HZb.out.cell (i := 2) rfl
              have z3 := HZb.out.cell (i := 3) rfl
              have f0 := HZb.out.frozen 0
              have f1 := HZb.out.frozen 1
              have f2 := HZb.out.frozen 2
              have f3 := HZb.out.frozen 3
              have y0 := HKc.out.cell (i := 0) rfl
              have y1 := HKc.out.cell (i := 1) rfl
              have y2 := HKc.out.cell (i := 2) rfl
              have y3 := HKc.out.cell (i := 3) rfl
              have H4 : Hid (Blk ((((wb.setCell ⟨w.heap.size + 1, 0, none⟩ (.int .u64 (m : Nat))).setCell ⟨w.heap.size + 1, 1, none⟩ (.int .i64 x.t)).setCell ⟨w.heap.size + 1, 2, none⟩ (.int .i64 x.i)).setCell ⟨w.heap.size + 1, 3, none⟩ (.string x.k)) (w.heap.size + 1) #[(.int .u64 (m : Nat)), (.int .i64 x.t), (.int .i64 x.i), (.string x.k)] 41 ∧ Frm wb ((((wb.setCell ⟨w.heap.size + 1, 0, none⟩ (.int .u64 (m : Nat))).setCell ⟨w.heap.size + 1, 1, none⟩ (.int .i64 x.t)).setCell ⟨w.heap.size + 1, 2, none⟩ (.int .i64 x.i)).setCell ⟨w.heap.size + 1, 3, none⟩ (.string x.k)) (fun k => k = w.heap.size + 1)) := set4 HZb.out
              have HE4 : Hid (Below w.heap.size w ((((wb.setCell ⟨w.heap.size + 1, 0, none⟩ (.int .u64 (m : Nat))).setCell ⟨w.heap.size + 1, 1, none⟩ (.int .i64 x.t)).setCell ⟨w.heap.size + 1, 2, none⟩ (.int .i64 x.i)).setCell ⟨w.heap.size + 1, 3, none⟩ (.string x.k))) := HBb.out.trans (H4.out.2.below HBb.out.size (fun k hk => by omega))
              go_wp2_with fail
              clear z0 z1 z2 z3 f0 f1 f2 f3 y0 y1 y2 y3 hwb
              generalize (((wb.setCell ⟨w.heap.size + 1, 0, none⟩ (.int .u64 (m : Nat))).setCell ⟨w.heap.size + 1, 1, none⟩ (.int .i64 x.t)).setCell ⟨w.heap.size + 1, 2, none⟩ (.int .i64 x.i)).setCell ⟨w.heap.size + 1, 3, none⟩ (.string x.k) = wz at *
              have r0 := H4.out.1.cell (i := 0) rfl
              have r1 := H4.out.1.cell (i := 1) rfl
              have r2 := H4.out.1.cell (i := 2) rfl
              have r3 := H4.out.1.cell (i := 3) rfl
              refine bodyPost_ret (v := .tuple #[clA (some (m, x)), .int .i64 (205)]) (by simp [clA, results, Tryz.results19, go_sem, r0, r1, r2, r3]) rfl ?_
              exact ⟨_, _, rfl, HT.out, HE4.out⟩
            | none =>
              obtain ⟨wb5, hwb⟩ : ∃ wb, w5.alloc (.cells #[.int .u64 0, .int .i64 0, .int .i64 0, .string ⟨#[]⟩] 41) = wb := ⟨_, rfl⟩
              have hal : Below w5.heap.size w5 wb5 := by rw [← hwb]; exact (Below.refl _ _).alloc (Nat.le_refl _) _
              have HKc : Hid (Blk wb5 w5.heap.size #[.int .u64 0, .int .i64 0, .int .i64 0, .string ⟨#[]⟩] 41) := by rw [← hwb]; exact Blk.new w5 _ _
              have y0 := HKc.out.cell (i := 0) rfl
              have y1 := HKc.out.cell (i := 1) rfl
              have y2 := HKc.out.cell (i := 2) rfl
              have y3 := HKc.out.cell (i := 3) rfl
              have g0 := HKc.out.frozen 0
              have g1 := HKc.out.frozen 1
              have g2 := HKc.out.frozen 2
              have g3 := HKc.out.frozen 3
              obtain ⟨ws5, hws⟩ : ∃ ws, (((wb5.setCell ⟨w5.heap.size, 0, none⟩ (.int .u64 0)).setCell ⟨w5.heap.size, 1, none⟩ (.int .i64 0)).setCell ⟨w5.heap.size, 2, none⟩ (.int .i64 0)).setCell ⟨w5.heap.size, 3, none⟩ (.string ⟨#[]⟩) = ws := ⟨_, rfl⟩
              have hal2 : Below w5.heap.size w5 ws5 := by
                rw [← hws]
                exact hal.trans ((set4 HKc.out).2.below hal.size (fun k hk => by omega))
              have HBs5 : Hid (Below w.heap.size w ws5) := HB5.out.trans (hal2.mono HB5.out.size)
              have HXs5 : Hid (DocC ws5 B v M) := HX5.out.on hal2
              have HAs5 : Hid (RdF ws5 _ _ _ a) := HA5.out.on hal2
              have HA : Hid (Blk ws5 w.heap.size #[.int .u64 (fr : Nat), .slice p0 n0 c0, .slice p1 n1 c1, .slice p2 n2 c2, .int .i64 3] 48) := HAn.out.on hal2
              have HZ : Hid (Blk ws5 (w.heap.size + 1) #[.int .u64 0, .int .i64 0, .int .i64 0, .string ⟨#[]⟩] 41) := HZn.out.on hal2
              clear hal hal2 HB5 HX5 HA5 HZn HAn HKc
              dsimp only [clV]
              have HT : Hid (TryQ a fr 3 M none 0) := .inr (.inr (.inr (.inr ⟨HCA.out, .inr (.inr rfl), fun _ => HQ4, fun _ => HQ5, rfl, rfl⟩)))
              have z0 := HZ.out.cell (i := 0) rfl
              have z1 := HZ.out.cell (i := 1) rfl
              have z2 := HZ.out.cell (i := 2) rfl
              have z3 := HZ.out.cell (i := 3) rfl
              have f0 := HZ.out.frozen 0
              have f1 := HZ.out.frozen 1
              have f2 := HZ.out.frozen 2
              have f3 := HZ.out.frozen 3
              have l4 := HA.out.cell (i := 4) rfl
              have H4 : Hid (Blk ((((ws5.setCell ⟨w.heap.size + 1, 0, none⟩ (.int .u64 0)).setCell ⟨w.heap.size + 1, 1, none⟩ (.int .i64 0)).setCell ⟨w.heap.size + 1, 2, none⟩ (.int .i64 0)).setCell ⟨w.heap.size + 1, 3, none⟩ (.string ⟨#[]⟩)) (w.heap.size + 1) #[(.int .u64 0), (.int .i64 0), (.int .i64 0), (.string ⟨#[]⟩)] 41 ∧ Frm ws5 ((((ws5.setCell ⟨w.heap.size + 1, 0, none⟩ (.int .u64 0)).setCell ⟨w.heap.size + 1, 1, none⟩ (.int .i64 0)).setCell ⟨w.heap.size + 1, 2, none⟩ (.int .i64 0)).setCell ⟨w.heap.size + 1, 3, none⟩ (.string ⟨#[]⟩)) (fun k => k = w.heap.size + 1)) := set4 HZ.out
              have HE4 : Hid (Below w.heap.size w ((((ws5.setCell ⟨w.heap.size + 1, 0, none⟩ (.int .u64 0)).setCell ⟨w.heap.size + 1, 1, none⟩ (.int .i64 0)).setCell ⟨w.heap.size + 1, 2, none⟩ (.int .i64 0)).setCell ⟨w.heap.size + 1, 3, none⟩ (.string ⟨#[]⟩))) := HBs5.out.trans (H4.out.2.below HBs5.out.size (fun k hk => by omega))
              go_wp2_with fail
              clear z0 z1 z2 z3 f0 f1 f2 f3 l4
              generalize (((ws5.setCell ⟨w.heap.size + 1, 0, none⟩ (.int .u64 0)).setCell ⟨w.heap.size + 1, 1, none⟩ (.int .i64 0)).setCell ⟨w.heap.size + 1, 2, none⟩ (.int .i64 0)).setCell ⟨w.heap.size + 1, 3, none⟩ (.string ⟨#[]⟩) = wz at *
              have r0 := H4.out.1.cell (i := 0) rfl
              have r1 := H4.out.1.cell (i := 1) rfl
              have r2 := H4.out.1.cell (i := 2) rfl
              have r3 := H4.out.1.cell (i := 3) rfl
              refine bodyPost_ret (v := .tuple #[clA (none), .int .i64 (0)]) (by simp [clA, results, Tryz.results19, go_sem, r0, r1, r2, r3]) rfl ?_
              exact ⟨_, _, rfl, HT.out, HE4.out⟩
  · have HT : Hid (TryQ a fr lv M none (chkF a)) := .inl ⟨hca, rfl, rfl⟩
    obtain ⟨w2, hw2⟩ : ∃ w2, ((w.alloc (.cells #[.int .u64 (fr : Nat), .slice p0 n0 c0, .slice p1 n1 c1, .slice p2 n2 c2, .int .i64 lv] 48)).alloc (.cells #[.int .u64 0, .int .i64 0, .int .i64 0, .string ⟨#[]⟩] 41)) = w2 := ⟨_, rfl⟩
    have HB2 : Hid (Below w.heap.size w w2) := by rw [← hw2]; exact ((Below.refl _ _).alloc (Nat.le_refl _) _).alloc (by simp) _
    have HKA : Hid (Blk w2 w.heap.size #[.int .u64 (fr : Nat), .slice p0 n0 c0, .slice p1 n1 c1, .slice p2 n2 c2, .int .i64 lv] 48) := by rw [← hw2]; exact (Blk.new w _ _).keep (B := w.heap.size + 1) ((Below.refl _ _).alloc (by simp) _) (by omega)
    have HKB : Hid (Blk w2 (w.heap.size + 1) #[.int .u64 0, .int .i64 0, .int .i64 0, .string ⟨#[]⟩] 41) := by
      rw [← hw2]
      have h := Blk.new (w.alloc (.cells #[.int .u64 (fr : Nat), .slice p0 n0 c0, .slice p1 n1 c1, .slice p2 n2 c2, .int .i64 lv] 48)) #[.int .u64 0, .int .i64 0, .int .i64 0, .string ⟨#[]⟩] 41
      rw [World.size_alloc] at h
      exact h
    have HX2 : Hid (DocC w2 B v M) := hX.on HB2.out
    have HA2 : Hid (RdF w2 _ _ _ a) := ha.on HB2.out
    have CC : Hid (Calls _ _ _ _ _) := rcheck_any a _ _ _ w2 HA2.out
    have k1 := HKA.out.cell (i := 1) rfl
    have k2 := HKA.out.cell (i := 2) rfl
    have k3 := HKA.out.cell (i := 3) rfl
    clear hX ha
    go_enter Tryz.func19, Tryz.ntmps19
    go_wp2_with fail
    refine CC.out.mono ?_
    rintro e w3 ⟨rfl, hb3⟩
    clear CC k1 k2 k3 hw2
    have HB3 : Hid (Below w.heap.size w w3) := HB2.out.trans (hb3.mono HB2.out.size)
    have HX3 : Hid (DocC w3 B v M) := HX2.out.on hb3
    have HA3 : Hid (RdF w3 _ _ _ a) := HA2.out.on hb3
    have HA : Hid (Blk w3 w.heap.size #[.int .u64 (fr : Nat), .slice p0 n0 c0, .slice p1 n1 c1, .slice p2 n2 c2, .int .i64 lv] 48) := HKA.out.on hb3
    have HZ : Hid (Blk w3 (w.heap.size + 1) #[.int .u64 0, .int .i64 0, .int .i64 0, .string ⟨#[]⟩] 41) := HKB.out.on hb3
    clear hb3 HB2 HX2 HA2 HKA HKB
    have z0 := HZ.out.cell (i := 0) rfl
    have z1 := HZ.out.cell (i := 1) rfl
    have z2 := HZ.out.cell (i := 2) rfl
    have z3 := HZ.out.cell (i := 3) rfl
    have f0 := HZ.out.frozen 0
    have f1 := HZ.out.frozen 1
    have f2 := HZ.out.frozen 2
    have f3 := HZ.out.frozen 3
    have H4 : Hid (Blk ((((w3.setCell ⟨w.heap.size + 1, 0, none⟩ (.int .u64 0)).setCell ⟨w.heap.size + 1, 1, none⟩ (.int .i64 0)).setCell ⟨w.heap.size + 1, 2, none⟩ (.int .i64 0)).setCell ⟨w.heap.size + 1, 3, none⟩ (.string ⟨#[]⟩)) (w.heap.size + 1) #[(.int .u64 0), (.int .i64 0), (.int .i64 0), (.string ⟨#[]⟩)] 41 ∧ Frm w3 ((((w3.setCell ⟨w.heap.size + 1, 0, none⟩ (.int .u64 0)).setCell ⟨w.heap.size + 1, 1, none⟩ (.int .i64 0)).setCell ⟨w.heap.size + 1, 2, none⟩ (.int .i64 0)).setCell ⟨w.heap.size + 1, 3, none⟩ (.string ⟨#[]⟩)) (fun k => k = w.heap.size + 1)) := set4 HZ.out
    have HE4 : Hid (Below w.heap.size w ((((w3.setCell ⟨w.heap.size + 1, 0, none⟩ (.int .u64 0)).setCell ⟨w.heap.size + 1, 1, none⟩ (.int .i64 0)).setCell ⟨w.heap.size + 1, 2, none⟩ (.int .i64 0)).setCell ⟨w.heap.size + 1, 3, none⟩ (.string ⟨#[]⟩))) := HB3.out.trans (H4.out.2.below HB3.out.size (fun k hk => by omega))
    go_wp2_with fail
    clear z0 z1 z2 z3 f0 f1 f2 f3
    generalize (((w3.setCell ⟨w.heap.size + 1, 0, none⟩ (.int .u64 0)).setCell ⟨w.heap.size + 1, 1, none⟩ (.int .i64 0)).setCell ⟨w.heap.size + 1, 2, none⟩ (.int .i64 0)).setCell ⟨w.heap.size + 1, 3, none⟩ (.string ⟨#[]⟩) = wz at *
    have r0 := H4.out.1.cell (i := 0) rfl
    have r1 := H4.out.1.cell (i := 1) rfl
    have r2 := H4.out.1.cell (i := 2) rfl
    have r3 := H4.out.1.cell (i := 3) rfl
    refine bodyPost_ret (v := .tuple #[clA (none), .int .i64 (chkF a)]) (by simp [clA, results, Tryz.results19, go_sem, r0, r1, r2, r3]) rfl ?_
    exact ⟨_, _, rfl, HT.out, HE4.out⟩

end Go.Proofs.YtcknhjabdjbjiaaGreat
