/- The same walk, with too few shards. -/
import Derived.Test.YtammkfilihlmhaaLApa
namespace Go.Proofs.Ytammkfilihlmhaa
open Go.RowKit
set_option maxRecDepth 100000

set_option maxHeartbeats 8000000 in
theorem lawApart_few (L : List Ad) (p : Option Addr) (c : Nat) (N : List Int) (q : Option Addr) (d : Nat) (w : World) (hR : RdA w w.heap.size p L) (hQ : RdN w w.heap.size q .u64 N) (hok : ∀ x ∈ N, 0 ≤ x ∧ x < 18446744073709551616) (hlen : L.length ≤ 140737488355328) (hlen2 : N.length ≤ 17592186044416) (n0 : Int) (hbad : n0 < 1) :
    Calls Try.prog 6 #[.int .i64 n0, .slice p L.length c, .slice q N.length d] w fun e w' => e = .returned (.bool true) ∧ Below w.heap.size w w' := by
  obtain ⟨n, hn3, n1, n2⟩ : ∃ n : Nat, (3 : Int) = (n : Int) ∧ 1 ≤ n ∧ n ≤ 64 := ⟨3, rfl, by decide, by decide⟩
  have HN3 : Hid _ := hn3
  clear hn3
  obtain ⟨i, hi, hz0, hz1, hz2⟩ := info_parts info_i64
  have HI : Hid _ := hi
  have HZ : Hid (i.zero = _ ∧ i.size = _ ∧ i.bytes = _) := ⟨hz0, hz1, hz2⟩
  have HA : Hid (RdA _ _ _ _) := hR
  have HQ : Hid (RdN _ _ _ _ _) := hQ
  have HK : Hid _ := hok
  have C1 : Hid (∀ w1, Calls _ _ _ _ _) := fun w1 => new_any n w1 n1 n2
  have CH : Hid (∀ w1, Calls _ _ _ _ _) := fun w1 => newhist_any w1
  clear hi hz0 hz1 hz2 hR hQ hok
  go_enter Try.func6, Try.ntmps6
  go_wp2_with fail
  rw [HN3.out]
  clear HN3
  refine (C1.out w).mono ?_
  rintro e w1 ⟨b1, g1, rfl, hC1, hg1, hb1, hbz1, hB1⟩
  have HC1 : Hid (Cnt _ _ _ _) := hC1
  have HB1 : Hid (Below _ _ _) := hB1
  clear hC1 hB1
  go_wp2_with fail
  refine (C1.out w1).mono ?_
  rintro e w2 ⟨b2, g2, rfl, hC2, hg2, hb2, hbz2, hB2⟩
  have HC2 : Hid (Cnt _ _ _ _) := hC2
  have HC12 : Hid (Cnt _ _ _ _) := below_cnt HC1.out hB2
  have HB2 : Hid (Below _ _ _) := HB1.out.trans (hB2.mono HB1.out.size)
  have z1 := HB1.out.size
  have z1b := HC1.out.row.1
  have z2 := hB2.size
  clear hC2 hB2 HC1 HB1
  go_wp2_with fail
  refine (CH.out w2).mono ?_
  rintro e w3 ⟨h1, rfl, hN3, hh1, hB3⟩
  have HN3 : Hid (RowN _ _ _ _) := hN3
  have HC13 : Hid (Cnt _ _ _ _) := below_cnt HC12.out hB3
  have HC23 : Hid (Cnt _ _ _ _) := below_cnt HC2.out hB3
  have HB3 : Hid (Below _ _ _) := HB2.out.trans (hB3.mono HB2.out.size)
  have z2b := HC2.out.row.1
  have z3 := hB3.size
  clear hN3 hB3 HC12 HC2 HB2
  go_wp2_with fail
  refine (CH.out w3).mono ?_
  rintro e w4 ⟨h2, rfl, hN4, hh2, hB4⟩
  have HN4 : Hid (RowN _ _ _ _) := hN4
  have HN34 : Hid (RowN _ _ _ _) := HN3.out.keep hB4 HN3.out.1
  have HC14 : Hid (Cnt _ _ _ _) := below_cnt HC13.out hB4
  have HC24 : Hid (Cnt _ _ _ _) := below_cnt HC23.out hB4
  have HB4 : Hid (Below _ _ _) := HB3.out.trans (hB4.mono HB3.out.size)
  have z3b := HN3.out.1
  have z4 := hB4.size
  have z4b := HN4.out.1
  clear hN4 hB4 HC13 HC23 HB3 HN3
  go_wp2_with (at_make; refine wpList_make_full _ rfl _ _ 29 rfl w4.heap.size 2 i _ 1 Try.underlying29 HI.out HZ.out.1 HZ.out.2.1 .i64 .i64 (n : Int) (n : Int) n rfl rfl rfl rfl (by rw [HZ.out.2.2]; omega) (by unfold maxLen; omega) (Nat.le_refl _) ?_)
  intro w5 hown hgrow
  have hN : RowN w5 w4.heap.size .i64 (List.replicate n 0) := by
    have e : (madeCells #[Value.int .i64 0] n).toList = (List.replicate n (0 : Int)).map (.int .i64) := by
      rw [toList_madeCells_one]
      simp
    rw [e] at hown
    exact RowN.of_owns hown
  have HAp : Hid (Ap w5 b1 g1 b2 g2 h1 h2 w4.heap.size n (List.replicate n 0) (cntS [])) :=
    ⟨HC14.out.grown hgrow (by simp) (by simp), HC24.out.grown hgrow (by simp) (by simp), HN34.out.grown hgrow (by simp), HN4.out.grown hgrow (by simp), hN⟩
  have HB5 : Hid (Below _ _ _) := HB4.out.grown hgrow HB4.out.size (by simp)
  have HD : Hid (Dis w.heap.size b1 g1 b2 g2 h1 h2) := ⟨by omega, by omega, by omega, by omega, by omega, by omega, by omega, by omega, by omega, by omega⟩
  have HE : Hid (w4.heap.size ≠ g1 ∧ w4.heap.size ≠ h1 ∧ w.heap.size ≤ w4.heap.size) := ⟨by omega, by omega, by omega⟩
  have hgne : b1 ≠ g1 := HC14.out.ne
  clear hown hgrow hN HC14 HC24 HN34 HN4 HB4 z1 z1b z2 z2b z3 z3b z4 z4b hg1 hb1 hbz1 hg2 hb2 hbz2 hh1 hh2
  go_wp2_with fail
  go_loopw [13, 14, 15, 16] (fun u i _ _ wr => ∃ j : Nat, j ≤ L.length ∧ i = .int .i64 (j : Int) ∧ (∃ gw cap S, u = .slice (some ⟨gw, 0, none⟩) n cap ∧ S.length = n ∧ Hid (Ap wr b1 g1 b2 g2 h1 h2 gw n S (cntS [])) ∧ Hid (gw ≠ g1 ∧ gw ≠ h1 ∧ w.heap.size ≤ gw)) ∧ Hid (Below w.heap.size w wr)) (fun _ i _ _ _ => L.length - (intOf i).toNat)
  case atStart => exact ⟨0, Nat.zero_le _, by go_num, ⟨w4.heap.size, n, List.replicate n 0, rfl, by simp, HAp, HE⟩, HB5⟩
  case round =>
    clear HAp HB5 HE
    obtain ⟨j, hj, rfl, ⟨gw, cap, S, rfl, hSl, hS, hgw⟩, hn⟩ := hrel
    by_cases hj0 : j = L.length
    · subst hj0
      generalize wr = w6 at *
      go_wp2_with fail
      go_loopw [17, 18, 19] (fun i _ _ wx => ∃ k : Nat, k ≤ N.length ∧ i = .int .i64 (k : Int) ∧ Hid (Ap wx b1 g1 b2 g2 h1 h2 gw n S (cntS (N.take k))) ∧ Hid (Below w.heap.size w wx)) (fun i _ _ _ => N.length - (intOf i).toNat)
      case atStart => exact ⟨0, Nat.zero_le _, by go_num, hS, hn⟩
      case round =>
        clear hS hn
        obtain ⟨k, hk, rfl, hS, hn⟩ := hrel
        by_cases hk0 : k = N.length
        · subst hk0
          rw [List.take_length] at hS
          generalize wr = w7 at *
          have C5 : Hid (Calls _ _ _ _ _) := shards_any b1 g1 S w7 hS.out.c1
          rw [hSl] at C5
          go_wp2_with fail
          refine C5.out.mono ?_
          rintro e w8 ⟨h, rfl, hh, hhz, hb8⟩
          have HS8 : Hid (Ap _ _ _ _ _ _ _ _ _ _ _) := hS.out.keep hb8
          have HB8 : Hid (Below _ _ _) := hn.out.trans (hb8.mono hn.out.size)
          have C6 : Hid (Calls _ _ _ _ _) := same_any S (some ⟨h, 0, none⟩) (some ⟨gw, 0, none⟩) n cap w8 hh.rd HS8.out.rw.rd (by omega)
          rw [hSl] at C6
          clear C5 hh hhz hb8 hS hn
          go_wp2_with fail
          refine C6.out.mono ?_
          rintro e w9 ⟨rfl, hb9⟩
          have HS9 : Hid (Ap _ _ _ _ _ _ _ _ _ _ _) := HS8.out.keep hb9
          have HB9 : Hid (Below _ _ _) := HB8.out.trans (hb9.mono HB8.out.size)
          have C7 : Hid (Calls _ _ _ _ _) := sum_any b2 g2 _ w9 HS9.out.c2
          have hs0 : sumS (List.replicate n 0) = 0 := sum_noughts n
          rw [hs0] at C7
          clear C6 hb9 HS8 HB8 hs0
          go_wp2_with fail
          refine C7.out.mono ?_
          rintro e w10 ⟨rfl, hw⟩
          rw [hw]
          clear hw C7
          have C8 : Hid (Calls _ _ _ _ _) := counts_any h1 (cntS N) w9 HS9.out.r1 (cntS_len N)
          go_wp2_with fail
          refine C8.out.mono ?_
          rintro e w11 ⟨h4, rfl, hN4, hz4, hb4⟩
          have HN4 : Hid (RowN _ _ _ _) := hN4
          have HS11 : Hid (Ap _ _ _ _ _ _ _ _ _ _ _) := HS9.out.keep hb4
          have HB11 : Hid (Below _ _ _) := HB9.out.trans (hb4.mono HB9.out.size)
          have C9 : Hid (Calls _ _ _ _ _) := rcounts_any N q d w11 (HQ.out.keep HB11.out HB11.out.size) HK.out hlen2
          clear C8 hN4 hz4 hb4 HS9 HB9
          go_wp2_with fail
          refine C9.out.mono ?_
          rintro e w12 ⟨h5, rfl, hN5, hz5, hb5⟩
          have HS12 : Hid (Ap _ _ _ _ _ _ _ _ _ _ _) := HS11.out.keep hb5
          have HB12 : Hid (Below _ _ _) := HB11.out.trans (hb5.mono HB11.out.size)
          have C10 : Hid (Calls _ _ _ _ _) := counts_same (cntS N) (some ⟨h4, 0, none⟩) (some ⟨h5, 0, none⟩) w12 (HN4.out.keep hb5 HN4.out.1).rd hN5.rd (cntS_len N)
          clear C9 hN5 hz5 hb5 HS11 HB11 HN4
          go_wp2_with fail
          refine C10.out.mono ?_
          rintro e w13 ⟨rfl, hb13⟩
          have HS13 : Hid (Ap _ _ _ _ _ _ _ _ _ _ _) := HS12.out.keep hb13
          have HB13 : Hid (Below _ _ _) := HB12.out.trans (hb13.mono HB12.out.size)
          have C11 : Hid (Calls _ _ _ _ _) := counts_any h2 (cntS []) w13 HS13.out.r2 (cntS_len [])
          clear C10 hb13 HS12 HB12
          go_wp2_with fail
          refine C11.out.mono ?_
          rintro e w14 ⟨h6, rfl, hN6, hz6, hb6⟩
          have HN6 : Hid (RowN _ _ _ _) := hN6
          have HB14 : Hid (Below _ _ _) := HB13.out.trans (hb6.mono HB13.out.size)
          have C12 : Hid (Calls _ _ _ _ _) := rcounts_any [] none 0 w14 (fun i hi => absurd hi (by simp)) (fun x hx => by cases hx) (by simp)
          clear C11 hN6 hz6 hb6 HS13 HB13
          go_wp2_with fail
          refine C12.out.mono ?_
          rintro e w15 ⟨h7, rfl, hN7, hz7, hb7⟩
          have HB15 : Hid (Below _ _ _) := HB14.out.trans (hb7.mono HB14.out.size)
          have C13 : Hid (Calls _ _ _ _ _) := counts_same (cntS []) (some ⟨h6, 0, none⟩) (some ⟨h7, 0, none⟩) w15 (HN6.out.keep hb7 HN6.out.1).rd hN7.rd (cntS_len [])
          clear C12 hN7 hz7 hb7 HN6 HB14
          go_wp2_with fail
          refine C13.out.mono ?_
          rintro e w16 ⟨rfl, hb16⟩
          have HB16 : Hid (Below _ _ _) := HB15.out.trans (hb16.mono HB15.out.size)
          have C14 : Hid (Calls _ _ _ _ _) := awake_any w16
          clear C13 hb16 HB15
          go_wp2_with fail
          refine C14.out.mono ?_
          rintro e w17 ⟨rfl, hb17⟩
          go_wp2_with fail
          go_ret
          exact ⟨rfl, HB16.out.trans (hb17.mono HB16.out.size)⟩
        · have hk1 : k < N.length := by omega
          obtain ⟨ba, oa, rfl, hbB, d0⟩ := HQ.out k hk1
          have a0 := (hn.out.cell (p := ⟨ba, oa + k, none⟩) hbB).trans d0
          obtain ⟨x0, x1⟩ := HK.out N[k] (List.getElem_mem hk1)
          have HS : Hid (cntS (N.take (k + 1)) = _) := cntS_take N k hk1
          have C2 : Hid (Calls _ _ _ _ _) := count_any h1 (cntS (N.take k)) N[k] wr hS.out.r1 (cntS_len _) x0 (by omega)
          rw [← HS.out] at C2
          clear d0 HS x0 x1
          generalize N[k] = x at *
          have hcl := cntS_len (N.take (k + 1))
          go_wp2_with fail
          refine C2.out.mono ?_
          rintro e w2 ⟨rfl, hN2, hG2⟩
          have HS2 : Hid (Ap w2 b1 g1 b2 g2 h1 h2 gw n S (cntS (N.take (k + 1)))) := by
            obtain ⟨q1, q2, q3, q4, q5, q6, q7, q8, q9, q10⟩ := HD.out
            have hs := hS.out
            exact ⟨hs.c1.grown hG2 (by simpa using q3) (by simpa using q5.symm), hs.c2.grown hG2 (by simpa using q7.symm) (by simpa using q6.symm), hN2, hs.r2.grown hG2 (by simpa using q8.symm), hs.rw.grown hG2 (by simpa using hgw.out.2.1)⟩
          have HB2 : Hid (Below _ _ _) := hn.out.grown hG2 hn.out.size (fun k hk => by cases hk; exact HD.out.2.2.2.2.2.2.2.2.2)
          have C3 : Hid (Calls _ _ _ _ _) := counts_any h1 _ w2 HS2.out.r1 hcl
          clear hN2 hG2 C2
          go_wp2_with fail
          refine C3.out.mono ?_
          rintro e w3 ⟨h3, rfl, hN3, hz3, hb3⟩
          have HS3 : Hid (Ap _ _ _ _ _ _ _ _ _ _ _) := HS2.out.keep hb3
          have HB3 : Hid (Below _ _ _) := HB2.out.trans (hb3.mono HB2.out.size)
          have HN3 : Hid (RowN _ _ _ _) := hN3
          have hz2 := HB2.out.size
          have hlt2 := HS2.out.lt
          have HLt : Hid _ := hlt2
          clear C3 hN3 hb3 HS2 HB2 hlt2
          go_wp2_with fail
          go_loopw [19] (fun i wx => ∃ m : Nat, m ≤ 65 ∧ i = .int .i64 (m : Int) ∧ Hid (RowN wx h3 .u64 (sevS (cntS (N.take (k + 1))) m)) ∧ Hid (Ap wx b1 g1 b2 g2 h1 h2 gw n S (cntS (N.take (k + 1)))) ∧ Hid (Below w.heap.size w wx)) (fun i _ => 65 - (intOf i).toNat)
          case atStart => exact ⟨0, Nat.zero_le _, by go_num, (by rw [sev_zero]; exact HN3), HS3, HB3⟩
          case round =>
            clear HN3 HS3 HB3
            obtain ⟨m, hm, rfl, hNm, hSm, hBm⟩ := hrel
            by_cases hm0 : m = 65
            · subst hm0
              go_wp2_with fail
              go_roundw
              case rel => exact ⟨k + 1, hk1, by go_num, hSm, hBm⟩
              case measure => simp [intOf]; omega
            · have hm1 : m < 65 := by omega
              obtain ⟨c1, f1⟩ := hNm.out.2 m (by rw [sev_len _ _ (by omega)]; omega)
              have HT : Hid (RowN _ _ _ _) := hNm.out.set m 77
              rw [sev_set (cntS (N.take (k + 1))) m (by omega)] at HT
              have HS4 : Hid (Ap _ _ _ _ _ _ _ _ _ _ _) := hSm.out.grown (grownBy_set _ h3 m (.int .u64 77)) (by have := HLt.out; omega) (by have := HLt.out; omega) (by have := HLt.out; omega) (by have := HLt.out; omega) (by have := HLt.out; omega) (by have := HLt.out; omega) (by have := HLt.out; omega)
              have HB4 : Hid (Below _ _ _) := hBm.out.setCell (p := ⟨h3, m, none⟩) (by have := HLt.out; show w.heap.size ≤ h3; omega) (.int .u64 77)
              go_wp2_with fail
              go_roundw
              case rel => exact ⟨m + 1, hm1, by go_num, HT, HS4, HB4⟩
              case measure => simp [intOf]; omega
    · have hj1 : j < L.length := by omega
      obtain ⟨ba, oa, rfl, hbB, d0, d1⟩ := HA.out j hj1
      have a0 := (hn.out.cell (p := ⟨ba, oa + j * 2, none⟩) hbB).trans d0
      have a1 := (hn.out.cell (p := ⟨ba, oa + j * 2 + 1, none⟩) hbB).trans d1
      clear d0 d1
      generalize (L[j]).s = s at *
      generalize (L[j]).n = x at *
      have C4 : Hid (Calls _ _ _ _ _) := add_any b1 g1 S s x wr.drew (below_cnt hS.out.c1 (Below.refl _ _).drew)
      have hba : ba ≠ g1 := by have := HD.out.2.2.2.2.2.2.2.2.1; omega
      go_wp2_with fail
      go_region_with (first | (go_at_call 10; refine C4.out.mono ?_; rintro e w4 ⟨rfl, hC4, hG4⟩))
      all_goals (
        have hG4' : wr.grownBy w4 (some g1) := ⟨hG4.os, hG4.tape, hG4.output, hG4.size, hG4.block⟩
        have HC4 : Hid (Cnt _ _ _ _) := hC4
        have a0' := hG4'.cell a0 (by simpa using hba)
        have a1' := hG4'.cell a1 (by simpa using hba)
        have hN4 := hS.out.rw.grown hG4' (by simpa using hgw.out.1)
        have C5 : Hid (Calls _ _ _ _ _) := radd_any S s x (some ⟨gw, 0, none⟩) cap w4.drew (hN4.rd.keep (Below.refl _ _).drew (Nat.le_refl _)) (by omega) (by omega)
        rw [hSl] at C5
        have HR4 : Hid (Cnt w4 b2 g2 (List.replicate n 0) ∧ RowN w4 h1 .u64 (cntS []) ∧ RowN w4 h2 .u64 (cntS [])) := by
          obtain ⟨q1, q2, q3, q4, q5, q6, q7, q8, q9, q10⟩ := HD.out
          have hs := hS.out
          exact ⟨hs.c2.grown hG4' (by simpa using q2.symm) (by simpa using q1.symm), hs.r1.grown hG4' (by simpa using q3.symm), hs.r2.grown hG4' (by simpa using q4.symm)⟩
        have HB4 : Hid (Below _ _ _) := hn.out.grown hG4' hn.out.size (fun k hk => by cases hk; exact HD.out.2.2.2.2.2.2.2.2.1)
        clear hG4 hC4 C4 a0 a1 hG4' hN4
        go_wp2_with fail
        go_region_with (first | (go_at_call 11; refine C5.out.mono ?_; rintro e w5 ⟨g5, cap5, rfl, hN5, hg5, hb5⟩))
        all_goals (
          have hb5' : Below w4.heap.size w4 w5 := ⟨hb5.os, hb5.tape, hb5.output, hb5.size, hb5.block⟩
          have hg5' : w4.heap.size ≤ g5 := hg5
          have hl5 : (addS S s x).length = n := by rw [addS_len]; exact hSl
          have HS5 : Hid (Ap w5 b1 g1 b2 g2 h1 h2 g5 n (addS S s x) (cntS [])) := ⟨below_cnt HC4.out hb5', below_cnt HR4.out.1 hb5', HR4.out.2.1.keep hb5' HR4.out.2.1.1, HR4.out.2.2.keep hb5' HR4.out.2.2.1, hN5⟩
          have HB5 : Hid (Below _ _ _) := HB4.out.trans (hb5'.mono HB4.out.size)
          have HG5 : Hid (g5 ≠ g1 ∧ g5 ≠ h1 ∧ w.heap.size ≤ g5) := by
            have y1 := HC4.out.row.1
            have y2 := HR4.out.2.1.1
            have y3 := HB4.out.size
            exact ⟨by omega, by omega, by omega⟩
          have C6 : Hid (Calls _ _ _ _ _) := shards_any b1 g1 (addS S s x) w5 HS5.out.c1
          rw [hl5] at C6
          clear C5 hb5 hN5 hb5' hg5 hg5' HR4 HB4 HC4 a0' a1' hS hgw hn
          generalize addS S s x = S' at *
          go_wp2_with fail
          refine C6.out.mono ?_
          rintro e w6 ⟨h3, rfl, hN3, hz3, hb3⟩
          have HS6 : Hid (Ap _ _ _ _ _ _ _ _ _ _ _) := HS5.out.keep hb3
          have HB6 : Hid (Below _ _ _) := HB5.out.trans (hb3.mono HB5.out.size)
          have HN6 : Hid (RowN _ _ _ _) := hN3
          have hz2 := HB5.out.size
          have HLt : Hid _ := HS5.out.lt
          clear C6 hN3 hb3 HS5 HB5
          go_wp2_with fail
          go_loopw [16] (fun i wx => ∃ m : Nat, m ≤ n ∧ i = .int .i64 (m : Int) ∧ Hid (RowN wx h3 .i64 (sevS S' m)) ∧ Hid (Ap wx b1 g1 b2 g2 h1 h2 g5 n S' (cntS [])) ∧ Hid (Below w.heap.size w wx)) (fun i _ => n - (intOf i).toNat)
          case atStart => exact ⟨0, Nat.zero_le _, by go_num, (by rw [sev_zero]; exact HN6), HS6, HB6⟩
          case round =>
            clear HN6 HS6 HB6
            obtain ⟨m, hm, rfl, hNm, hSm, hBm⟩ := hrel
            by_cases hm0 : m = n
            · subst hm0
              go_wp2_with fail
              go_roundw
              case rel => exact ⟨j + 1, hj1, by go_num, ⟨g5, cap5, S', rfl, hl5, hSm, HG5⟩, hBm⟩
              case measure => simp [intOf]; omega
            · have hm1 : m < n := by omega
              obtain ⟨c1, f1⟩ := hNm.out.2 m (by rw [sev_len _ _ (by omega)]; omega)
              have HT : Hid (RowN _ _ _ _) := hNm.out.set m 77
              rw [sev_set S' m (by omega)] at HT
              have HS4 : Hid (Ap _ _ _ _ _ _ _ _ _ _ _) := hSm.out.grown (grownBy_set _ h3 m (.int .i64 77)) (by have := HLt.out; omega) (by have := HLt.out; omega) (by have := HLt.out; omega) (by have := HLt.out; omega) (by have := HLt.out; omega) (by have := HLt.out; omega) (by have := HLt.out; omega)
              have HB4 : Hid (Below _ _ _) := hBm.out.setCell (p := ⟨h3, m, none⟩) (by have := HLt.out; show w.heap.size ≤ h3; omega) (.int .i64 77)
              go_wp2_with fail
              go_roundw
              case rel => exact ⟨m + 1, hm1, by go_num, HT, HS4, HB4⟩
              case measure => simp [intOf]; omega))
end Go.Proofs.Ytammkfilihlmhaa
