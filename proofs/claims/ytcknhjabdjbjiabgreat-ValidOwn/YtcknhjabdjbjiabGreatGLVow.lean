/- The law of ValidOwn. -/
import Derived.Test.YtcknhjabdjbjiabGreatGWNt2
import Derived.Test.YtcknhjabdjbjiabGreatGWSt18
import Derived.Test.YtcknhjabdjbjiabGreatGWLq
import Derived.Test.YtcknhjabdjbjiabGreatGWLg15
namespace Go.Proofs.YtcknhjabdjbjiabGreat
open Go.RowKit
set_option maxRecDepth 100000

set_option maxHeartbeats 16000000 in
theorem lawVOwn (v : Value) (K : List Lc) (a : Ft) (va0 va1 va2 : Value) (fr : Nat) (w : World) (hK : RdLc w v K) (hKn : K.length ≤ 1759218604441) (ha : RdF w va0 va1 va2 a) (hfr : fr < 18446744073709551616) :
    Calls Tryz.prog 5 #[v, .agg #[va0, va1, va2], .int .u64 (fr : Nat)] w fun e w' => e = .returned (.bool true) ∧ Below w.heap.size w w' := by
  obtain ⟨p0, c0, e0, -⟩ := ha.p.f
  obtain ⟨p1, c1, e1, -⟩ := ha.s.f
  obtain ⟨p2, c2, e2, -⟩ := ha.w.f
  obtain ⟨n0, hn0⟩ : ∃ n, a.P.length = n := ⟨_, rfl⟩
  obtain ⟨n1, hn1⟩ : ∃ n, a.S.length = n := ⟨_, rfl⟩
  obtain ⟨n2, hn2⟩ : ∃ n, a.W.length = n := ⟨_, rfl⟩
  rw [hn0] at e0
  rw [hn1] at e1
  rw [hn2] at e2
  subst e0 e1 e2
  clear hn0 hn1 hn2
  have HFr : Hid (fr < 18446744073709551616) := hfr
  obtain ⟨w1, hw1⟩ : ∃ w1, w.alloc (.cells #[.slice p0 n0 c0, .slice p1 n1 c1, .slice p2 n2 c2] 27) = w1 := ⟨_, rfl⟩
  have HB1 : Hid (Below w.heap.size w w1) := by rw [← hw1]; exact (Below.refl _ _).alloc (Nat.le_refl _) _
  have HK1 : Hid (Blk w1 w.heap.size #[.slice p0 n0 c0, .slice p1 n1 c1, .slice p2 n2 c2] 27) := by rw [← hw1]; exact Blk.new w _ _
  have HA1 : Hid (RdF w1 _ _ _ a) := ha.on HB1.out
  have HKw : Hid (RdLc w1 v K) := hK.on HB1.out
  clear hK ha hfr
  obtain ⟨p, c, rfl, hlc, hln, hrow⟩ := HKw.out.f
  obtain ⟨n, hn⟩ : ∃ n, K.length = n := ⟨_, rfl⟩
  rw [hn] at hlc hln HKw ⊢
  have HKl : Hid (K.length = n) := hn
  have HKn : Hid (n ≤ 1759218604441) := by rw [← hn]; exact hKn
  clear hKn
  have HRow : Hid (∀ i (hi : i < K.length), ∃ b o, p = some ⟨b, o, none⟩ ∧ b < w1.heap.size ∧ w1.cell? ⟨b, o + i * 4, none⟩ = some (.int .u64 (K[i].s : Nat)) ∧ w1.cell? ⟨b, o + i * 4 + 1, none⟩ = some K[i].v0 ∧ w1.cell? ⟨b, o + i * 4 + 2, none⟩ = some K[i].v1 ∧ w1.cell? ⟨b, o + i * 4 + 3, none⟩ = some K[i].v2) := hrow
  have HFt : Hid (∀ c ∈ K, RdF w1 c.v0 c.v1 c.v2 c.a ∧ c.s < 18446744073709551616) := HKw.out.ft
  clear hrow hn
  go_enter Tryz.func5, Tryz.ntmps5
  go_wp2_with fail
  clear hw1
  go_loopw [7, 8] (fun m i wr => ∃ (j : Nat) (C : List Lc), j ≤ n ∧ i = .int .i64 (j : Int) ∧ Hid (CpL wr w1.heap.size m C) ∧ Hid (C.map (fun k => (k.s, k.a)) = (K.take j).map (fun k => (k.s, k.a))) ∧ Hid (Below w1.heap.size w1 wr)) (fun _ i _ => n - (intOf i).toNat)
  case atStart => exact ⟨0, [], Nat.zero_le _, by go_num, ⟨OwnL.nil _ _, by simp⟩, rfl, Below.refl _ _⟩
  case round =>
    obtain ⟨j, C, hj, rfl, HC, HCm, HBw⟩ := hrel
    by_cases hj0 : j = n
    · subst hj0
      have HCm2 : Hid (K.map (fun k => (k.s, k.a)) = C.map (fun k => (k.s, k.a))) := by
        have h := HCm.out
        rw [List.take_of_length_le (by have := HKl.out; omega)] at h
        exact h.symm
      have HCl : Hid (C.length = j) := by
        have h := congrArg List.length HCm2.out
        rw [List.length_map, List.length_map] at h
        have := HKl.out
        show _ = _
        omega
      clear HCm
      have CN : Hid (Calls _ _ _ _ _) := noted_any2 u7 C wr (HC.out.read (by have := HCl.out; omega))
      go_wp2_with fail
      refine CN.out.mono ?_
      rintro e w3 ⟨lb, mb, vC, E, L, vm1, M1, rfl, hP1, hD1, -⟩
      clear CN
      have HP1 : Hid (NtP wr w3 lb mb vC E L vm1 M1 ∧ DetM C M1) := ⟨hP1, hD1⟩
      clear hP1 hD1
      have CN : Hid (Calls _ _ _ _ _) := noted_any2 _ K w3 ((HKw.out.on HBw.out).on HP1.out.1.bel)
      go_wp2_with fail
      refine CN.out.mono ?_
      rintro e w4 ⟨lb2, mb2, vC2, E2, L2, vm, M, rfl, hP2, hD2, -⟩
      clear CN
      have HS : Hid (SamC L M ∧ InvC M) := ⟨HP1.out.1.sam.trans (HP1.out.2.sam hD2 HCm2.out), hP2.inv⟩
      have HX4 : Hid (LogO w4 wr.heap.size lb vC mb E L) := HP1.out.1.log.on hP2.bel
      have HD4 : Hid (DocB w3 w4 w3.heap.size vm M ∧ DetM K M) := ⟨hP2.doc, hD2⟩
      have HB14 : Hid (Below wr.heap.size wr w4) := HP1.out.1.bel.trans (hP2.bel.mono HP1.out.1.bel.size)
      have HSz : Hid (wr.heap.size ≤ w3.heap.size) := HP1.out.1.bel.size
      clear hP2 hD2 HP1
      obtain ⟨pw, cw, ew, hsp⟩ := SpX.of HC.out HB14.out
      rw [HCl.out] at ew
      subst ew
      have HSp0 : Hid (SpX w4 w4 w1.heap.size wr.heap.size pw C) := hsp
      clear hsp HC
      generalize wr = w2 at *
      go_wp2_with fail
      go_loopw [16] (fun i wr => ∃ r : Nat, r ≤ j ∧ i = .int .i64 (r : Int) ∧ Hid (SpX w4 wr w1.heap.size w2.heap.size pw C)) (fun i _ => j - (intOf i).toNat)
      case atStart => exact ⟨0, Nat.zero_le _, by go_num, HSp0.out⟩
      case round =>
        obtain ⟨r, hr, rfl, HSp⟩ := hrel
        clear HSp0
        by_cases hr0 : r = j
        · subst hr0
          have hfr5 := HSp.out.frm
          have HX5 : Hid (LogO wr w2.heap.size lb vC mb E L) := HX4.out.low ⟨hfr5.os, hfr5.tape, hfr5.output, hfr5.size, fun k h1 h2 => hfr5.block k h1 (fun h => h2 h.2)⟩
          have hb15 : Below w1.heap.size w1 wr := (HBw.out.trans (HB14.out.mono HBw.out.size)).trans (hfr5.below (Nat.le_trans HBw.out.size HB14.out.size) (fun k h => h.1))
          have HD5 : Hid (DocC wr w3.heap.size vm M) := HD4.out.1.low HD4.out.2 HFt.out hb15 ⟨hfr5.os, hfr5.tape, hfr5.output, hfr5.size, fun k h1 h2 => hfr5.block k h1 (fun h => h2 (Nat.lt_of_lt_of_le h.2 HSz.out))⟩
          have HB15 : Hid (Below w1.heap.size w1 wr) := hb15
          clear hfr5 hb15 HSp HX4 HD4 HB14 HBw
          generalize wr = w5 at *
          have CS : Hid (Calls _ _ _ _ _) := stampsL_any lb vC mb _ L w5 HX5.out.x
          go_wp2_with fail
          refine CS.out.mono ?_
          rintro e w6 ⟨rfl, hU, hb6⟩
          clear CS
          have HU : Hid (∃ cs : Array Value, Blk w6 w5.heap.size cs 23 ∧ cs.size = L.length) := by
            obtain ⟨cs, h1, h2, _⟩ := hU
            exact ⟨cs, h1, by rw [h2, List.length_map]⟩
          have HB6 : Hid (Below w5.heap.size w5 w6) := hb6
          have HLl : Hid (L.length ≤ 4096) := HX5.out.inv.len
          clear hU hb6
          obtain ⟨nl, hnl⟩ : ∃ nl, L.length = nl := ⟨_, rfl⟩
          rw [hnl] at HU ⊢
          have hnl4 : nl ≤ 4096 := by rw [← hnl]; exact HLl.out
          clear hnl
          go_wp2_with fail
          go_loopw [19] (fun i wr => ∃ r : Nat, r ≤ nl ∧ i = .int .i64 (r : Int) ∧ Hid (∃ cs : Array Value, Blk wr w5.heap.size cs 23 ∧ cs.size = nl) ∧ Hid (Below w5.heap.size w5 wr)) (fun i _ => nl - (intOf i).toNat)
          case atStart => exact ⟨0, Nat.zero_le _, by go_num, HU, HB6⟩
          case round =>
            obtain ⟨r2, hr2, rfl, HU2, HB7⟩ := hrel
            clear HU HB6
            by_cases hr20 : r2 = nl
            · rw [hr20]
              clear hr20 hr2
              generalize wr = w7 at *
              have HX7 : Hid (LogX w7 lb vC mb _ L) := HX5.out.x.on HB7.out
              have HD7 : Hid (DocC w7 w3.heap.size vm M) := HD5.out.on HB7.out
              have HB17 : Hid (Below w1.heap.size w1 w7) := HB15.out.trans (HB7.out.mono HB15.out.size)
              clear HX5 HD5 HB15 HB7 HU2
              have l0 := (HK1.out.on HB17.out).cell (i := 0) rfl
              have l1 := (HK1.out.on HB17.out).cell (i := 1) rfl
              have l2 := (HK1.out.on HB17.out).cell (i := 2) rfl
              have CR : Hid (Calls _ _ _ _ _) := read_any a _ _ _ lb fr vC mb _ L w7 HX7.out (HA1.out.on HB17.out) HFr.out
              go_wp2_with fail
              clear l0 l1 l2
              refine CR.out.mono ?_
              rintro e w8 ⟨q, rfl, hq, hb⟩
              clear CR
              have HQA : Hid (RdQ a L fr q) := hq
              rw [clV_eq]
              obtain ⟨bA, hbA⟩ : ∃ b, q.isSome = b := ⟨_, rfl⟩
              obtain ⟨⟨mA, xA⟩, hxA⟩ : ∃ y, clC q = y := ⟨_, rfl⟩
              rw [hbA, hxA]
              have HLA : Hid (clC q = (mA, xA) ∧ q.isSome = bA) := ⟨hxA, hbA⟩
              clear hbA hxA hq
              dsimp only
              obtain ⟨wb8, hwb8⟩ : ∃ wb, w8.alloc (.cells #[.int .u64 (mA : Nat), .int .i64 xA.t, .int .i64 xA.i, .string xA.k] 38) = wb := ⟨_, rfl⟩
              have hal : Below w7.heap.size w7 wb8 := by rw [← hwb8]; exact hb.trans ((Below.refl _ _).alloc hb.size _)
              have HX0b : Hid (Blk wb8 w8.heap.size #[.int .u64 (mA : Nat), .int .i64 xA.t, .int .i64 xA.i, .string xA.k] 38) := by rw [← hwb8]; exact Blk.new w8 _ _
              have HX8 : Hid (LogX wb8 lb vC mb _ L) := HX7.out.on hal
              have HD8 : Hid (DocC wb8 w3.heap.size vm M) := HD7.out.on hal
              have HB18 : Hid (Below w1.heap.size w1 wb8) := HB17.out.trans (hal.mono HB17.out.size)
              clear hal hb HX7 HD7 HB17
              have l0 := (HK1.out.on HB18.out).cell (i := 0) rfl
              have l1 := (HK1.out.on HB18.out).cell (i := 1) rfl
              have l2 := (HK1.out.on HB18.out).cell (i := 2) rfl
              have CR : Hid (Calls _ _ _ _ _) := rread_any a _ _ _ _ fr vm M wb8 HD8.out HS.out.2 (HA1.out.on HB18.out)
              go_wp2_with fail
              clear l0 l1 l2 hwb8
              refine CR.out.mono ?_
              rintro e w9 ⟨q, rfl, hq, hb⟩
              clear CR
              obtain rfl := HQA.out.same HS.out.1 HS.out.2 hq
              rw [clV_eq, HLA.out.1, HLA.out.2]
              clear hq
              dsimp only
              obtain ⟨wb9, hwb9⟩ : ∃ wb, w9.alloc (.cells #[.int .u64 (mA : Nat), .int .i64 xA.t, .int .i64 xA.i, .string xA.k] 38) = wb := ⟨_, rfl⟩
              have hal : Below wb8.heap.size wb8 wb9 := by rw [← hwb9]; exact hb.trans ((Below.refl _ _).alloc hb.size _)
              have HX1b : Hid (Blk wb9 w9.heap.size #[.int .u64 (mA : Nat), .int .i64 xA.t, .int .i64 xA.i, .string xA.k] 38) := by rw [← hwb9]; exact Blk.new w9 _ _
              have HX0c : Hid (Blk wb9 w8.heap.size #[.int .u64 (mA : Nat), .int .i64 xA.t, .int .i64 xA.i, .string xA.k] 38) := HX0b.out.on hal
              have HX9 : Hid (LogX wb9 lb vC mb _ L) := HX8.out.on hal
              have HD9 : Hid (DocC wb9 w3.heap.size vm M) := HD8.out.on hal
              have HB19 : Hid (Below w1.heap.size w1 wb9) := HB18.out.trans (hal.mono HB18.out.size)
              clear hal hb HX8 HD8 HB18 HX0b
              have y00 := HX0c.out.cell (i := 0) rfl
              have y01 := HX0c.out.cell (i := 1) rfl
              have y02 := HX0c.out.cell (i := 2) rfl
              have y03 := HX0c.out.cell (i := 3) rfl
              have y10 := HX1b.out.cell (i := 0) rfl
              have y11 := HX1b.out.cell (i := 1) rfl
              have y12 := HX1b.out.cell (i := 2) rfl
              have y13 := HX1b.out.cell (i := 3) rfl
              have CR : Hid (Calls _ _ _ _ _) := sameClash_any mA xA.t xA.i xA.k wb9
              go_wp2_with fail
              clear y00 y01 y02 y03 y10 y11 y12 y13 hwb9
              refine CR.out.mono ?_
              rintro e w10 ⟨rfl, hb⟩
              clear CR
              have HX10 : Hid (LogX w10 lb vC mb _ L) := HX9.out.on hb
              have HD10 : Hid (DocC w10 w3.heap.size vm M) := HD9.out.on hb
              have HB110 : Hid (Below w1.heap.size w1 w10) := HB19.out.trans (hb.mono HB19.out.size)
              clear hb HX9 HD9 HB19 HX0c HX1b
              have CS : Hid (Calls _ _ _ _ _) := stampsE_any lb vC mb _ L M _ vm w10 HX10.out HD10.out HS.out.1
              go_wp2_with fail
              refine CS.out.mono ?_
              rintro e w11 ⟨rfl, hb⟩
              have HB111 : Hid (Below w.heap.size w w11) := HB1.out.trans ((HB110.out.trans (hb.mono HB110.out.size)).mono HB1.out.size)
              clear CS hb HX10 HD10 HB110
              have CW : Hid (Calls _ _ _ _ _) := awake18_any w11
              go_wp2_with fail
              refine CW.out.mono ?_
              rintro e w12 ⟨rfl, hb⟩
              have HE : Hid (Below w.heap.size w w12) := HB111.out.trans (hb.mono HB111.out.size)
              clear CW hb
              go_wp2_with fail
              go_ret
              exact ⟨rfl, HE.out⟩
            · have hr21 : r2 < nl := by omega
              obtain ⟨cs, hcb, hcs⟩ := HU2.out
              have y0 : wr.cell? ⟨w5.heap.size, r2, none⟩ = some cs[r2] := hcb.cell (Array.getElem?_eq_getElem (by omega))
              have y1 := hcb.frozen r2
              have HU3 : Hid (∃ cs : Array Value, Blk (wr.setCell ⟨w5.heap.size, r2, none⟩ (.int .u64 99)) w5.heap.size cs 23 ∧ cs.size = nl) := ⟨_, hcb.set r2 (.int .u64 99), by simpa using hcs⟩
              have HB8 : Hid (Below w5.heap.size w5 (wr.setCell ⟨w5.heap.size, r2, none⟩ (.int .u64 99))) := below_set HB7.out HB7.out.size (Nat.le_refl _)
              generalize cs[r2] = cy at *
              clear hcb hcs HU2 HB7
              go_wp2_with fail
              go_roundw
              case rel => exact ⟨r2 + 1, by omega, by go_num, HU3, HB8⟩
              case measure => simp [intOf]; omega
        · have hr1 : r < j := by omega
          generalize wr = wq at *
          go_wp2_with fail
          have hrC : r < C.length := by have := HCl.out; omega
          obtain ⟨q, nw, cq, eq9, hnw, -⟩ := HSp.out.ft C[r] (List.getElem_mem hrC)
          have HQ : Hid (∃ h : r < C.length, C[r].v2 = .slice q nw cq) := ⟨hrC, eq9⟩
          clear eq9 hrC
          go_loopw [17] (fun i wr => ∃ k : Nat, k ≤ nw ∧ i = .int .i64 (k : Int) ∧ Hid (SpX w4 wr w1.heap.size w2.heap.size pw C)) (fun i _ => nw - (intOf i).toNat)
          case atStart => exact ⟨0, Nat.zero_le _, by go_num, HSp.out⟩
          case round =>
            clear HSp
            obtain ⟨k, hk, rfl, HSp⟩ := hrel
            obtain ⟨bw, ebw, c3⟩ : ∃ b, pw = some ⟨b, 0, none⟩ ∧ wr.cell? ⟨b, r * 4 + 3, none⟩ = some (.slice q nw cq) := by
              obtain ⟨hrC, e9⟩ := HQ.out
              obtain ⟨b9, e1, _, _, _, _, _, _, k3⟩ := HSp.out.row r hrC
              rw [e9, Nat.zero_add] at k3
              exact ⟨b9, e1, k3⟩
            subst ebw
            by_cases hk0 : k = nw
            · subst hk0
              go_wp2_with fail
              go_roundw
              case rel => exact ⟨r + 1, by omega, by go_num, HSp.out⟩
              case measure => simp [intOf]; omega
            · have hk1 : k < nw := by omega
              obtain ⟨g, cu, eqg, hg1, hg2, hgb, hgs⟩ : ∃ g cur, q = some ⟨g, 0, none⟩ ∧ w1.heap.size ≤ g ∧ g < w2.heap.size ∧ wr.heap[g]? = some (.cells cur 36 (0, 0)) ∧ nw * 3 ≤ cur.size := by
                obtain ⟨hrC, e9⟩ := HQ.out
                obtain ⟨q', n', c', e1, _, h9⟩ := HSp.out.ft C[r] (List.getElem_mem hrC)
                rw [e9] at e1
                cases e1
                rcases h9 with h9 | h9
                · omega
                · exact h9
              have hBg : Blk wr g cu 36 := hgb
              have s0 : wr.cell? ⟨g, k * 3, none⟩ = some cu[k * 3] := hBg.cell (Array.getElem?_eq_getElem (by omega))
              have s1 : wr.cell? ⟨g, k * 3 + 1, none⟩ = some cu[k * 3 + 1] := hBg.cell (Array.getElem?_eq_getElem (by omega))
              have s2 : wr.cell? ⟨g, k * 3 + 2, none⟩ = some cu[k * 3 + 2] := hBg.cell (Array.getElem?_eq_getElem (by omega))
              have z0 := hBg.frozen (k * 3)
              have z1 := hBg.frozen (k * 3 + 1)
              have z2 := hBg.frozen (k * 3 + 2)
              have HSp1 := HSp.out.set hgb hg1 hg2 (k * 3) (.int .i64 77)
              have HSp2 := HSp1.set (hBg.set (k * 3) (.int .i64 77)) hg1 hg2 (k * 3 + 1) (.int .i64 0)
              have HSp3 : Hid (SpX w4 (((wr.setCell ⟨g, k * 3, none⟩ (.int .i64 77)).setCell ⟨g, k * 3 + 1, none⟩ (.int .i64 0)).setCell ⟨g, k * 3 + 2, none⟩ (.string ⟨#[115, 112, 111, 105, 108, 116]⟩)) w1.heap.size w2.heap.size (some ⟨bw, 0, none⟩) C) := HSp2.set ((hBg.set (k * 3) (.int .i64 77)).set (k * 3 + 1) (.int .i64 0)) hg1 hg2 (k * 3 + 2) (.string ⟨#[115, 112, 111, 105, 108, 116]⟩)
              generalize cu[k * 3] = x0 at *
              generalize cu[k * 3 + 1] = x1 at *
              generalize cu[k * 3 + 2] = x2 at *
              clear HSp1 HSp2 hBg hgb hgs HSp
              subst eqg
              go_wp2_with fail
              go_roundw
              case rel => exact ⟨k + 1, by omega, by go_num, HSp3.out⟩
              case measure => simp [intOf]; omega
    · have hj1 : j < n := by omega
      have hjK : j < K.length := by have := HKl.out; omega
      obtain ⟨b, o, rfl, hbl, d0, d1, d2, d3⟩ := HRow.out j hjK
      have hft := HFt.out K[j] (List.getElem_mem hjK)
      obtain ⟨k, hk⟩ : ∃ k, K[j] = k := ⟨_, rfl⟩
      rw [hk] at d0 d1 d2 d3 hft
      have HKj : Hid (∃ h : j < K.length, K[j] = k) := ⟨hjK, hk⟩
      clear hk hjK
      obtain ⟨s, ka, v0, v1, v2⟩ := k
      dsimp only at d0 d1 d2 d3 hft
      obtain ⟨⟨q0, m0, f0, e0⟩, ⟨q1, m1, f1, e1⟩, ⟨q2, m2, f2, e2⟩⟩ : (∃ p n c, v0 = .slice p n c) ∧ (∃ p n c, v1 = .slice p n c) ∧ (∃ p n c, v2 = .slice p n c) := by
        obtain ⟨p0, c0, e0, _⟩ := hft.1.p.f
        obtain ⟨p1, c1, e1, _⟩ := hft.1.s.f
        obtain ⟨p2, c2, e2, _⟩ := hft.1.w.f
        exact ⟨⟨_, _, _, e0⟩, ⟨_, _, _, e1⟩, ⟨_, _, _, e2⟩⟩
      subst e0 e1 e2
      have HR : Hid (RdF w1 (.slice q0 m0 f0) (.slice q1 m1 f1) (.slice q2 m2 f2) ka ∧ s < 18446744073709551616) := hft
      have HD : Hid (∀ w9, Below w1.heap.size w1 w9 → w9.cell? ⟨b, o + j * 4, none⟩ = some (.int .u64 (s : Nat)) ∧ w9.cell? ⟨b, o + j * 4 + 1, none⟩ = some (.slice q0 m0 f0) ∧ w9.cell? ⟨b, o + j * 4 + 2, none⟩ = some (.slice q1 m1 f1) ∧ w9.cell? ⟨b, o + j * 4 + 3, none⟩ = some (.slice q2 m2 f2)) := fun w9 h9 => ⟨(h9.cell (p := ⟨b, o + j * 4, none⟩) hbl).trans d0, (h9.cell (p := ⟨b, o + j * 4 + 1, none⟩) hbl).trans d1, (h9.cell (p := ⟨b, o + j * 4 + 2, none⟩) hbl).trans d2, (h9.cell (p := ⟨b, o + j * 4 + 3, none⟩) hbl).trans d3⟩
      clear hft d0 d1 d2 d3 hbl
      obtain ⟨a0, a1, a2, a3⟩ := HD.out wr HBw.out
      have HBr : Hid (Below wr.heap.size wr (wr.alloc (.cells #[.int .u64 (s : Nat), .slice none 0 0, .slice none 0 0, .slice none 0 0] 45))) := (Below.refl _ _).alloc (Nat.le_refl _) _
      have HX : Hid (Blk (wr.alloc (.cells #[.int .u64 (s : Nat), .slice none 0 0, .slice none 0 0, .slice none 0 0] 45)) wr.heap.size #[.int .u64 (s : Nat), .slice none 0 0, .slice none 0 0, .slice none 0 0] 45) := Blk.new wr _ _
      obtain ⟨zb, hzb⟩ : ∃ zb, wr.heap.size = zb := ⟨_, rfl⟩
      have HZb : Hid (wr.heap.size = zb ∧ w1.heap.size ≤ zb) := ⟨hzb, by rw [← hzb]; exact HBw.out.size⟩
      rw [hzb] at HX HBr
      go_upto_region 6 with fail
      clear a0 a1 a2 a3
      generalize wr.alloc (.cells #[.int .u64 (s : Nat), .slice none 0 0, .slice none 0 0, .slice none 0 0] 45) = wa at *
      refine wp_region_L (fun w' => Below w1.heap.size w1 w' ∧ Blk w' zb #[.int .u64 (s : Nat), .slice none 0 0, .slice none 0 0, .slice none 0 0] 45) 12 (by kernel_rfl) ?_
      have HBrd : Hid (Below zb wr wa.drew) := HBr.out.trans (((Below.refl wa.heap.size _).drew).mono (by have h1 := HBr.out.size; have h2 := HZb.out.1; omega))
      have HXd : Hid (Blk wa.drew zb #[.int .u64 (s : Nat), .slice none 0 0, .slice none 0 0, .slice none 0 0] 45) := HX.out.on ((Below.refl _ _).drew)
      clear HBr HX 
      generalize wa.drew = wd1 at *
      have HS : Hid (Below w1.heap.size w1 wd1 ∧ Blk wd1 zb #[.int .u64 (s : Nat), .slice none 0 0, .slice none 0 0, .slice none 0 0] 45) := ⟨HBw.out.trans (HBrd.out.mono HZb.out.2), HXd.out⟩
      refine wpL_take (v := ?_) 0 rfl (by kernel_rfl) (fun _ _ _ h => h) (by rfl) ?_ HS.out ?_
      rotate_left
      focus
        intro w9 hw9
        obtain ⟨hw8, hw7⟩ := hw9
        obtain ⟨a0, a1, a2, a3⟩ := HD.out w9 hw8
        have k1 := hw7.cell (i := 1) rfl
        go_simp
        try with_reducible rfl
      try simp only [Act.put, List.setIfInBounds_toArray, List.set_cons_zero, List.set_cons_succ]
      refine wpL_take (v := ?_) 1 rfl (by kernel_rfl) (fun _ _ _ h => h) (by rfl) ?_ HS.out ?_
      rotate_left
      focus
        intro w9 hw9
        obtain ⟨hw8, hw7⟩ := hw9
        obtain ⟨a0, a1, a2, a3⟩ := HD.out w9 hw8
        have k1 := hw7.cell (i := 1) rfl
        go_simp
        try with_reducible rfl
      try simp only [Act.put, List.setIfInBounds_toArray, List.set_cons_zero, List.set_cons_succ]
      refine wpL_take (v := ?_) 2 rfl (by kernel_rfl) (fun _ _ _ h => h) (by rfl) ?_ HS.out ?_
      rotate_left
      focus
        intro w9 hw9
        obtain ⟨hw8, hw7⟩ := hw9
        obtain ⟨a0, a1, a2, a3⟩ := HD.out w9 hw8
        have k1 := hw7.cell (i := 1) rfl
        go_simp
        try with_reducible rfl
      try simp only [Act.put, List.setIfInBounds_toArray, List.set_cons_zero, List.set_cons_succ]
      refine wpL_take (v := ?_) 3 rfl (by kernel_rfl) (fun _ _ _ h => h) (by rfl) ?_ HS.out ?_
      rotate_left
      focus
        intro w9 hw9
        obtain ⟨hw8, hw7⟩ := hw9
        obtain ⟨a0, a1, a2, a3⟩ := HD.out w9 hw8
        have k1 := hw7.cell (i := 1) rfl
        go_simp
        try with_reducible rfl
      try simp only [Act.put, List.setIfInBounds_toArray, List.set_cons_zero, List.set_cons_succ]
      refine wpL_take (v := ?_) 4 rfl (by kernel_rfl) (fun _ _ _ h => h) (by rfl) ?_ HS.out ?_
      rotate_left
      focus
        intro w9 hw9
        obtain ⟨hw8, hw7⟩ := hw9
        obtain ⟨a0, a1, a2, a3⟩ := HD.out w9 hw8
        have k1 := hw7.cell (i := 1) rfl
        go_simp
        try with_reducible rfl
      try simp only [Act.put, List.setIfInBounds_toArray, List.set_cons_zero, List.set_cons_succ]
      refine wpL_take (v := ?_) 5 rfl (by kernel_rfl) (fun _ _ _ h => h) (by rfl) ?_ HS.out ?_
      rotate_left
      focus
        intro w9 hw9
        obtain ⟨hw8, hw7⟩ := hw9
        obtain ⟨a0, a1, a2, a3⟩ := HD.out w9 hw8
        have k1 := hw7.cell (i := 1) rfl
        go_simp
        try with_reducible rfl
      try simp only [Act.put, List.setIfInBounds_toArray, List.set_cons_zero, List.set_cons_succ]
      refine wpL_take (v := ?_) 6 rfl (by kernel_rfl) (fun _ _ _ h => h) (by rfl) ?_ HS.out ?_
      rotate_left
      focus
        intro w9 hw9
        obtain ⟨hw8, hw7⟩ := hw9
        obtain ⟨a0, a1, a2, a3⟩ := HD.out w9 hw8
        have k1 := hw7.cell (i := 1) rfl
        go_simp
        try with_reducible rfl
      try simp only [Act.put, List.setIfInBounds_toArray, List.set_cons_zero, List.set_cons_succ]
      refine wpL_take (v := ?_) 7 rfl (by kernel_rfl) (fun _ _ _ h => h) (by rfl) ?_ HS.out ?_
      rotate_left
      focus
        intro w9 hw9
        obtain ⟨hw8, hw7⟩ := hw9
        obtain ⟨a0, a1, a2, a3⟩ := HD.out w9 hw8
        have k1 := hw7.cell (i := 1) rfl
        go_simp
        try with_reducible rfl
      try simp only [Act.put, List.setIfInBounds_toArray, List.set_cons_zero, List.set_cons_succ]
      refine wpL_take (v := ?_) 8 rfl (by kernel_rfl) (fun _ _ _ h => h) (by rfl) ?_ HS.out ?_
      rotate_left
      focus
        intro w9 hw9
        obtain ⟨hw8, hw7⟩ := hw9
        obtain ⟨a0, a1, a2, a3⟩ := HD.out w9 hw8
        have k1 := hw7.cell (i := 1) rfl
        go_simp
        try with_reducible rfl
      try simp only [Act.put, List.setIfInBounds_toArray, List.set_cons_zero, List.set_cons_succ]
      refine wpL_one 9 rfl (by kernel_rfl) (by rfl) ?_
      intro K2 hK2
      refine wp_appPs wd1 (.tmp 38) (.tmp 44) rfl zb (.slice q0 m0 f0) ka.P (by rfl) (by rfl) (HR.out.1.p.on HS.out.1) HR.out.1.lp (by have h1 := HBrd.out.size; have h2 := HZb.out.1; omega) ?_
      intro u0 we1 ho hb
      obtain ⟨t0, g0, h0, rfl⟩ : ∃ p n c, u0 = .slice p n c := by
        obtain ⟨p9, c9, e9, _⟩ := ho.sl.f
        exact ⟨_, _, _, e9⟩
      have HO1e : Hid (OwnP we1 zb (.slice t0 g0 h0) ka.P) := ho
      have HBre : Hid (Below zb wr we1) := HBrd.out.trans (hb.mono (Nat.le_trans (by have := HZb.out.1; omega) HBrd.out.size))
      have HXe : Hid (Blk we1 zb #[.int .u64 (s : Nat), .slice none 0 0, .slice none 0 0, .slice none 0 0] 45) := HXd.out.on hb
      have HSe : Hid (Below w1.heap.size w1 we1 ∧ Blk we1 zb #[.int .u64 (s : Nat), .slice none 0 0, .slice none 0 0, .slice none 0 0] 45) := ⟨HBw.out.trans (HBre.out.mono HZb.out.2), HXe.out⟩
      clear ho hb HBrd HXd HS 
      refine hK2.out _ _ (fun _ => HSe.out) ?_
      clear hK2 K2
      try simp only [Act.put, List.setIfInBounds_toArray, List.set_cons_zero, List.set_cons_succ]
      refine wpL_one 10 rfl (by kernel_rfl) (by rfl) ?_
      intro K2 hK2
      go_simp
      refine hK2.out _ _ (fun _ => HSe.out) ?_
      clear hK2 K2
      try simp only [Act.put, List.setIfInBounds_toArray, List.set_cons_zero, List.set_cons_succ]
      refine wpL_one 11 rfl (by kernel_rfl) (by rfl) ?_
      intro K2 hK2
      go_simp
      refine hK2.out _ _ (fun _ => HSe.out) ?_
      clear hK2 K2
      try simp only [Act.put, List.setIfInBounds_toArray, List.set_cons_zero, List.set_cons_succ]
      refine wpL_one 12 rfl (by kernel_rfl) (by rfl) ?_
      intro K2 hK2
      have k1 := HXe.out.cell (i := 1) rfl
      have z1 := HXe.out.frozen 1
      go_simp
      refine hK2.out _ _ (fun h => absurd rfl h) ?_
      clear hK2 K2 k1 z1
      try simp only [Act.put, List.setIfInBounds_toArray, List.set_cons_zero, List.set_cons_succ]
      refine wpL_done (by kernel_rfl) ?_ _
      try simp only [NoPanic]
      have HX : Hid (Blk (we1.setCell ⟨zb, 1, none⟩ (.slice t0 g0 h0)) zb #[.int .u64 (s : Nat), .slice t0 g0 h0, .slice none 0 0, .slice none 0 0] 45) := HXe.out.set 1 _
      have HBr : Hid (Below zb wr (we1.setCell ⟨zb, 1, none⟩ (.slice t0 g0 h0))) := below_set HBre.out (Nat.le_trans (by have := HZb.out.1; omega) HBre.out.size) (Nat.le_refl _)
      have HO1 : Hid (OwnP (we1.setCell ⟨zb, 1, none⟩ (.slice t0 g0 h0)) zb (.slice t0 g0 h0) ka.P) := ownsRow_set HXe.out HO1e.out (by decide) _ _
      clear HXe HBre HSe HO1e
      generalize we1.setCell ⟨zb, 1, none⟩ (.slice t0 g0 h0) = wf1 at *
      go_upto_region 7 with fail
      refine wp_region_L (fun w' => Below w1.heap.size w1 w' ∧ Blk w' zb #[.int .u64 (s : Nat), .slice t0 g0 h0, .slice none 0 0, .slice none 0 0] 45) 12 (by kernel_rfl) ?_
      have HBrd : Hid (Below zb wr wf1.drew) := HBr.out.trans (((Below.refl wf1.heap.size _).drew).mono (by have h1 := HBr.out.size; have h2 := HZb.out.1; omega))
      have HXd : Hid (Blk wf1.drew zb #[.int .u64 (s : Nat), .slice t0 g0 h0, .slice none 0 0, .slice none 0 0] 45) := HX.out.on ((Below.refl _ _).drew)
      have HO1d : Hid (OwnP wf1.drew zb (.slice t0 g0 h0) ka.P) := ownsRow_on HO1.out ((Below.refl _ _).drew)
      clear HBr HX HO1
      generalize wf1.drew = wd2 at *
      have HS : Hid (Below w1.heap.size w1 wd2 ∧ Blk wd2 zb #[.int .u64 (s : Nat), .slice t0 g0 h0, .slice none 0 0, .slice none 0 0] 45) := ⟨HBw.out.trans (HBrd.out.mono HZb.out.2), HXd.out⟩
      refine wpL_take (v := ?_) 0 rfl (by kernel_rfl) (fun _ _ _ h => h) (by rfl) ?_ HS.out ?_
      rotate_left
      focus
        intro w9 hw9
        obtain ⟨hw8, hw7⟩ := hw9
        obtain ⟨a0, a1, a2, a3⟩ := HD.out w9 hw8
        have k2 := hw7.cell (i := 2) rfl
        go_simp
        try with_reducible rfl
      try simp only [Act.put, List.setIfInBounds_toArray, List.set_cons_zero, List.set_cons_succ]
      refine wpL_take (v := ?_) 1 rfl (by kernel_rfl) (fun _ _ _ h => h) (by rfl) ?_ HS.out ?_
      rotate_left
      focus
        intro w9 hw9
        obtain ⟨hw8, hw7⟩ := hw9
        obtain ⟨a0, a1, a2, a3⟩ := HD.out w9 hw8
        have k2 := hw7.cell (i := 2) rfl
        go_simp
        try with_reducible rfl
      try simp only [Act.put, List.setIfInBounds_toArray, List.set_cons_zero, List.set_cons_succ]
      refine wpL_take (v := ?_) 2 rfl (by kernel_rfl) (fun _ _ _ h => h) (by rfl) ?_ HS.out ?_
      rotate_left
      focus
        intro w9 hw9
        obtain ⟨hw8, hw7⟩ := hw9
        obtain ⟨a0, a1, a2, a3⟩ := HD.out w9 hw8
        have k2 := hw7.cell (i := 2) rfl
        go_simp
        try with_reducible rfl
      try simp only [Act.put, List.setIfInBounds_toArray, List.set_cons_zero, List.set_cons_succ]
      refine wpL_take (v := ?_) 3 rfl (by kernel_rfl) (fun _ _ _ h => h) (by rfl) ?_ HS.out ?_
      rotate_left
      focus
        intro w9 hw9
        obtain ⟨hw8, hw7⟩ := hw9
        obtain ⟨a0, a1, a2, a3⟩ := HD.out w9 hw8
        have k2 := hw7.cell (i := 2) rfl
        go_simp
        try with_reducible rfl
      try simp only [Act.put, List.setIfInBounds_toArray, List.set_cons_zero, List.set_cons_succ]
      refine wpL_take (v := ?_) 4 rfl (by kernel_rfl) (fun _ _ _ h => h) (by rfl) ?_ HS.out ?_
      rotate_left
      focus
        intro w9 hw9
        obtain ⟨hw8, hw7⟩ := hw9
        obtain ⟨a0, a1, a2, a3⟩ := HD.out w9 hw8
        have k2 := hw7.cell (i := 2) rfl
        go_simp
        try with_reducible rfl
      try simp only [Act.put, List.setIfInBounds_toArray, List.set_cons_zero, List.set_cons_succ]
      refine wpL_take (v := ?_) 5 rfl (by kernel_rfl) (fun _ _ _ h => h) (by rfl) ?_ HS.out ?_
      rotate_left
      focus
        intro w9 hw9
        obtain ⟨hw8, hw7⟩ := hw9
        obtain ⟨a0, a1, a2, a3⟩ := HD.out w9 hw8
        have k2 := hw7.cell (i := 2) rfl
        go_simp
        try with_reducible rfl
      try simp only [Act.put, List.setIfInBounds_toArray, List.set_cons_zero, List.set_cons_succ]
      refine wpL_take (v := ?_) 6 rfl (by kernel_rfl) (fun _ _ _ h => h) (by rfl) ?_ HS.out ?_
      rotate_left
      focus
        intro w9 hw9
        obtain ⟨hw8, hw7⟩ := hw9
        obtain ⟨a0, a1, a2, a3⟩ := HD.out w9 hw8
        have k2 := hw7.cell (i := 2) rfl
        go_simp
        try with_reducible rfl
      try simp only [Act.put, List.setIfInBounds_toArray, List.set_cons_zero, List.set_cons_succ]
      refine wpL_take (v := ?_) 7 rfl (by kernel_rfl) (fun _ _ _ h => h) (by rfl) ?_ HS.out ?_
      rotate_left
      focus
        intro w9 hw9
        obtain ⟨hw8, hw7⟩ := hw9
        obtain ⟨a0, a1, a2, a3⟩ := HD.out w9 hw8
        have k2 := hw7.cell (i := 2) rfl
        go_simp
        try with_reducible rfl
      try simp only [Act.put, List.setIfInBounds_toArray, List.set_cons_zero, List.set_cons_succ]
      refine wpL_take (v := ?_) 8 rfl (by kernel_rfl) (fun _ _ _ h => h) (by rfl) ?_ HS.out ?_
      rotate_left
      focus
        intro w9 hw9
        obtain ⟨hw8, hw7⟩ := hw9
        obtain ⟨a0, a1, a2, a3⟩ := HD.out w9 hw8
        have k2 := hw7.cell (i := 2) rfl
        go_simp
        try with_reducible rfl
      try simp only [Act.put, List.setIfInBounds_toArray, List.set_cons_zero, List.set_cons_succ]
      refine wpL_one 9 rfl (by kernel_rfl) (by rfl) ?_
      intro K2 hK2
      refine wp_appSs wd2 (.tmp 50) (.tmp 56) rfl zb (.slice q1 m1 f1) ka.S (by rfl) (by rfl) (HR.out.1.s.on HS.out.1) HR.out.1.ls (by have h1 := HBrd.out.size; have h2 := HZb.out.1; omega) ?_
      intro u1 we2 ho hb
      obtain ⟨t1, g1, h1, rfl⟩ : ∃ p n c, u1 = .slice p n c := by
        obtain ⟨p9, c9, e9, _⟩ := ho.sl.f
        exact ⟨_, _, _, e9⟩
      have HO2e : Hid (OwnS we2 zb (.slice t1 g1 h1) ka.S) := ho
      have HBre : Hid (Below zb wr we2) := HBrd.out.trans (hb.mono (Nat.le_trans (by have := HZb.out.1; omega) HBrd.out.size))
      have HXe : Hid (Blk we2 zb #[.int .u64 (s : Nat), .slice t0 g0 h0, .slice none 0 0, .slice none 0 0] 45) := HXd.out.on hb
      have HO1e : Hid (OwnP we2 zb (.slice t0 g0 h0) ka.P) := ownsRow_on HO1d.out hb
      have HSe : Hid (Below w1.heap.size w1 we2 ∧ Blk we2 zb #[.int .u64 (s : Nat), .slice t0 g0 h0, .slice none 0 0, .slice none 0 0] 45) := ⟨HBw.out.trans (HBre.out.mono HZb.out.2), HXe.out⟩
      clear ho hb HBrd HXd HS HO1d
      refine hK2.out _ _ (fun _ => HSe.out) ?_
      clear hK2 K2
      try simp only [Act.put, List.setIfInBounds_toArray, List.set_cons_zero, List.set_cons_succ]
      refine wpL_one 10 rfl (by kernel_rfl) (by rfl) ?_
      intro K2 hK2
      go_simp
      refine hK2.out _ _ (fun _ => HSe.out) ?_
      clear hK2 K2
      try simp only [Act.put, List.setIfInBounds_toArray, List.set_cons_zero, List.set_cons_succ]
      refine wpL_one 11 rfl (by kernel_rfl) (by rfl) ?_
      intro K2 hK2
      go_simp
      refine hK2.out _ _ (fun _ => HSe.out) ?_
      clear hK2 K2
      try simp only [Act.put, List.setIfInBounds_toArray, List.set_cons_zero, List.set_cons_succ]
      refine wpL_one 12 rfl (by kernel_rfl) (by rfl) ?_
      intro K2 hK2
      have k2 := HXe.out.cell (i := 2) rfl
      have z2 := HXe.out.frozen 2
      go_simp
      refine hK2.out _ _ (fun h => absurd rfl h) ?_
      clear hK2 K2 k2 z2
      try simp only [Act.put, List.setIfInBounds_toArray, List.set_cons_zero, List.set_cons_succ]
      refine wpL_done (by kernel_rfl) ?_ _
      try simp only [NoPanic]
      have HX : Hid (Blk (we2.setCell ⟨zb, 2, none⟩ (.slice t1 g1 h1)) zb #[.int .u64 (s : Nat), .slice t0 g0 h0, .slice t1 g1 h1, .slice none 0 0] 45) := HXe.out.set 2 _
      have HBr : Hid (Below zb wr (we2.setCell ⟨zb, 2, none⟩ (.slice t1 g1 h1))) := below_set HBre.out (Nat.le_trans (by have := HZb.out.1; omega) HBre.out.size) (Nat.le_refl _)
      have HO1 : Hid (OwnP (we2.setCell ⟨zb, 2, none⟩ (.slice t1 g1 h1)) zb (.slice t0 g0 h0) ka.P) := ownsRow_set HXe.out HO1e.out (by decide) _ _
      have HO2 : Hid (OwnS (we2.setCell ⟨zb, 2, none⟩ (.slice t1 g1 h1)) zb (.slice t1 g1 h1) ka.S) := ownsRow_set HXe.out HO2e.out (by decide) _ _
      clear HXe HBre HSe HO1e HO2e
      generalize we2.setCell ⟨zb, 2, none⟩ (.slice t1 g1 h1) = wf2 at *
      go_upto_region 8 with fail
      refine wp_region_L (fun w' => Below w1.heap.size w1 w' ∧ Blk w' zb #[.int .u64 (s : Nat), .slice t0 g0 h0, .slice t1 g1 h1, .slice none 0 0] 45) 12 (by kernel_rfl) ?_
      have HBrd : Hid (Below zb wr wf2.drew) := HBr.out.trans (((Below.refl wf2.heap.size _).drew).mono (by have h1 := HBr.out.size; have h2 := HZb.out.1; omega))
      have HXd : Hid (Blk wf2.drew zb #[.int .u64 (s : Nat), .slice t0 g0 h0, .slice t1 g1 h1, .slice none 0 0] 45) := HX.out.on ((Below.refl _ _).drew)
      have HO1d : Hid (OwnP wf2.drew zb (.slice t0 g0 h0) ka.P) := ownsRow_on HO1.out ((Below.refl _ _).drew)
      have HO2d : Hid (OwnS wf2.drew zb (.slice t1 g1 h1) ka.S) := ownsRow_on HO2.out ((Below.refl _ _).drew)
      clear HBr HX HO1 HO2
      generalize wf2.drew = wd3 at *
      have HS : Hid (Below w1.heap.size w1 wd3 ∧ Blk wd3 zb #[.int .u64 (s : Nat), .slice t0 g0 h0, .slice t1 g1 h1, .slice none 0 0] 45) := ⟨HBw.out.trans (HBrd.out.mono HZb.out.2), HXd.out⟩
      refine wpL_take (v := ?_) 0 rfl (by kernel_rfl) (fun _ _ _ h => h) (by rfl) ?_ HS.out ?_
      rotate_left
      focus
        intro w9 hw9
        obtain ⟨hw8, hw7⟩ := hw9
        obtain ⟨a0, a1, a2, a3⟩ := HD.out w9 hw8
        have k3 := hw7.cell (i := 3) rfl
        go_simp
        try with_reducible rfl
      try simp only [Act.put, List.setIfInBounds_toArray, List.set_cons_zero, List.set_cons_succ]
      refine wpL_take (v := ?_) 1 rfl (by kernel_rfl) (fun _ _ _ h => h) (by rfl) ?_ HS.out ?_
      rotate_left
      focus
        intro w9 hw9
        obtain ⟨hw8, hw7⟩ := hw9
        obtain ⟨a0, a1, a2, a3⟩ := HD.out w9 hw8
        have k3 := hw7.cell (i := 3) rfl
        go_simp
        try with_reducible rfl
      try simp only [Act.put, List.setIfInBounds_toArray, List.set_cons_zero, List.set_cons_succ]
      refine wpL_take (v := ?_) 2 rfl (by kernel_rfl) (fun _ _ _ h => h) (by rfl) ?_ HS.out ?_
      rotate_left
      focus
        intro w9 hw9
        obtain ⟨hw8, hw7⟩ := hw9
        obtain ⟨a0, a1, a2, a3⟩ := HD.out w9 hw8
        have k3 := hw7.cell (i := 3) rfl
        go_simp
        try with_reducible rfl
      try simp only [Act.put, List.setIfInBounds_toArray, List.set_cons_zero, List.set_cons_succ]
      refine wpL_take (v := ?_) 3 rfl (by kernel_rfl) (fun _ _ _ h => h) (by rfl) ?_ HS.out ?_
      rotate_left
      focus
        intro w9 hw9
        obtain ⟨hw8, hw7⟩ := hw9
        obtain ⟨a0, a1, a2, a3⟩ := HD.out w9 hw8
        have k3 := hw7.cell (i := 3) rfl
        go_simp
        try with_reducible rfl
      try simp only [Act.put, List.setIfInBounds_toArray, List.set_cons_zero, List.set_cons_succ]
      refine wpL_take (v := ?_) 4 rfl (by kernel_rfl) (fun _ _ _ h => h) (by rfl) ?_ HS.out ?_
      rotate_left
      focus
        intro w9 hw9
        obtain ⟨hw8, hw7⟩ := hw9
        obtain ⟨a0, a1, a2, a3⟩ := HD.out w9 hw8
        have k3 := hw7.cell (i := 3) rfl
        go_simp
        try with_reducible rfl
      try simp only [Act.put, List.setIfInBounds_toArray, List.set_cons_zero, List.set_cons_succ]
      refine wpL_take (v := ?_) 5 rfl (by kernel_rfl) (fun _ _ _ h => h) (by rfl) ?_ HS.out ?_
      rotate_left
      focus
        intro w9 hw9
        obtain ⟨hw8, hw7⟩ := hw9
        obtain ⟨a0, a1, a2, a3⟩ := HD.out w9 hw8
        have k3 := hw7.cell (i := 3) rfl
        go_simp
        try with_reducible rfl
      try simp only [Act.put, List.setIfInBounds_toArray, List.set_cons_zero, List.set_cons_succ]
      refine wpL_take (v := ?_) 6 rfl (by kernel_rfl) (fun _ _ _ h => h) (by rfl) ?_ HS.out ?_
      rotate_left
      focus
        intro w9 hw9
        obtain ⟨hw8, hw7⟩ := hw9
        obtain ⟨a0, a1, a2, a3⟩ := HD.out w9 hw8
        have k3 := hw7.cell (i := 3) rfl
        go_simp
        try with_reducible rfl
      try simp only [Act.put, List.setIfInBounds_toArray, List.set_cons_zero, List.set_cons_succ]
      refine wpL_take (v := ?_) 7 rfl (by kernel_rfl) (fun _ _ _ h => h) (by rfl) ?_ HS.out ?_
      rotate_left
      focus
        intro w9 hw9
        obtain ⟨hw8, hw7⟩ := hw9
        obtain ⟨a0, a1, a2, a3⟩ := HD.out w9 hw8
        have k3 := hw7.cell (i := 3) rfl
        go_simp
        try with_reducible rfl
      try simp only [Act.put, List.setIfInBounds_toArray, List.set_cons_zero, List.set_cons_succ]
      refine wpL_take (v := ?_) 8 rfl (by kernel_rfl) (fun _ _ _ h => h) (by rfl) ?_ HS.out ?_
      rotate_left
      focus
        intro w9 hw9
        obtain ⟨hw8, hw7⟩ := hw9
        obtain ⟨a0, a1, a2, a3⟩ := HD.out w9 hw8
        have k3 := hw7.cell (i := 3) rfl
        go_simp
        try with_reducible rfl
      try simp only [Act.put, List.setIfInBounds_toArray, List.set_cons_zero, List.set_cons_succ]
      refine wpL_one 9 rfl (by kernel_rfl) (by rfl) ?_
      intro K2 hK2
      refine wp_appPs wd3 (.tmp 62) (.tmp 68) rfl zb (.slice q2 m2 f2) ka.W (by rfl) (by rfl) (HR.out.1.w.on HS.out.1) HR.out.1.lw (by have h1 := HBrd.out.size; have h2 := HZb.out.1; omega) ?_
      intro u2 we3 ho hb
      obtain ⟨t2, g2, h2, rfl⟩ : ∃ p n c, u2 = .slice p n c := by
        obtain ⟨p9, c9, e9, _⟩ := ho.sl.f
        exact ⟨_, _, _, e9⟩
      have HO3e : Hid (OwnP we3 zb (.slice t2 g2 h2) ka.W) := ho
      have HBre : Hid (Below zb wr we3) := HBrd.out.trans (hb.mono (Nat.le_trans (by have := HZb.out.1; omega) HBrd.out.size))
      have HXe : Hid (Blk we3 zb #[.int .u64 (s : Nat), .slice t0 g0 h0, .slice t1 g1 h1, .slice none 0 0] 45) := HXd.out.on hb
      have HO1e : Hid (OwnP we3 zb (.slice t0 g0 h0) ka.P) := ownsRow_on HO1d.out hb
      have HO2e : Hid (OwnS we3 zb (.slice t1 g1 h1) ka.S) := ownsRow_on HO2d.out hb
      have HSe : Hid (Below w1.heap.size w1 we3 ∧ Blk we3 zb #[.int .u64 (s : Nat), .slice t0 g0 h0, .slice t1 g1 h1, .slice none 0 0] 45) := ⟨HBw.out.trans (HBre.out.mono HZb.out.2), HXe.out⟩
      clear ho hb HBrd HXd HS HO1d HO2d
      refine hK2.out _ _ (fun _ => HSe.out) ?_
      clear hK2 K2
      try simp only [Act.put, List.setIfInBounds_toArray, List.set_cons_zero, List.set_cons_succ]
      refine wpL_one 10 rfl (by kernel_rfl) (by rfl) ?_
      intro K2 hK2
      go_simp
      refine hK2.out _ _ (fun _ => HSe.out) ?_
      clear hK2 K2
      try simp only [Act.put, List.setIfInBounds_toArray, List.set_cons_zero, List.set_cons_succ]
      refine wpL_one 11 rfl (by kernel_rfl) (by rfl) ?_
      intro K2 hK2
      go_simp
      refine hK2.out _ _ (fun _ => HSe.out) ?_
      clear hK2 K2
      try simp only [Act.put, List.setIfInBounds_toArray, List.set_cons_zero, List.set_cons_succ]
      refine wpL_one 12 rfl (by kernel_rfl) (by rfl) ?_
      intro K2 hK2
      have k3 := HXe.out.cell (i := 3) rfl
      have z3 := HXe.out.frozen 3
      go_simp
      refine hK2.out _ _ (fun h => absurd rfl h) ?_
      clear hK2 K2 k3 z3
      try simp only [Act.put, List.setIfInBounds_toArray, List.set_cons_zero, List.set_cons_succ]
      refine wpL_done (by kernel_rfl) ?_ _
      try simp only [NoPanic]
      have HX : Hid (Blk (we3.setCell ⟨zb, 3, none⟩ (.slice t2 g2 h2)) zb #[.int .u64 (s : Nat), .slice t0 g0 h0, .slice t1 g1 h1, .slice t2 g2 h2] 45) := HXe.out.set 3 _
      have HBr : Hid (Below zb wr (we3.setCell ⟨zb, 3, none⟩ (.slice t2 g2 h2))) := below_set HBre.out (Nat.le_trans (by have := HZb.out.1; omega) HBre.out.size) (Nat.le_refl _)
      have HO1 : Hid (OwnP (we3.setCell ⟨zb, 3, none⟩ (.slice t2 g2 h2)) zb (.slice t0 g0 h0) ka.P) := ownsRow_set HXe.out HO1e.out (by decide) _ _
      have HO2 : Hid (OwnS (we3.setCell ⟨zb, 3, none⟩ (.slice t2 g2 h2)) zb (.slice t1 g1 h1) ka.S) := ownsRow_set HXe.out HO2e.out (by decide) _ _
      have HO3 : Hid (OwnP (we3.setCell ⟨zb, 3, none⟩ (.slice t2 g2 h2)) zb (.slice t2 g2 h2) ka.W) := ownsRow_set HXe.out HO3e.out (by decide) _ _
      clear HXe HBre HSe HO1e HO2e HO3e
      generalize we3.setCell ⟨zb, 3, none⟩ (.slice t2 g2 h2) = wf3 at *
      have k0 := HX.out.cell (i := 0) rfl
      have k1 := HX.out.cell (i := 1) rfl
      have k2 := HX.out.cell (i := 2) rfl
      have k3 := HX.out.cell (i := 3) rfl
      have hbal : Below zb wr (wf3.alloc (.cells #[.int .u64 (s : Nat), .slice t0 g0 h0, .slice t1 g1 h1, .slice t2 g2 h2] 45)) := HBr.out.alloc (Nat.le_trans (by have := HZb.out.1; omega) HBr.out.size) _
      have hal : Below wf3.heap.size wf3 (wf3.alloc (.cells #[.int .u64 (s : Nat), .slice t0 g0 h0, .slice t1 g1 h1, .slice t2 g2 h2] 45)) := (Below.refl _ _).alloc (Nat.le_refl _) _
      have HCp : Hid (CpL (wf3.alloc (.cells #[.int .u64 (s : Nat), .slice t0 g0 h0, .slice t1 g1 h1, .slice t2 g2 h2] 45)) w1.heap.size u7 C) := HC.out.on (by rw [HZb.out.1]; exact hbal)
      have HBl : Hid (Blk (wf3.alloc (.cells #[.int .u64 (s : Nat), .slice t0 g0 h0, .slice t1 g1 h1, .slice t2 g2 h2] 45)) wf3.heap.size #[.int .u64 (s : Nat), .slice t0 g0 h0, .slice t1 g1 h1, .slice t2 g2 h2] 45) := Blk.new _ _ _
      have HOo : Hid (OwnP (wf3.alloc (.cells #[.int .u64 (s : Nat), .slice t0 g0 h0, .slice t1 g1 h1, .slice t2 g2 h2] 45)) zb (.slice t0 g0 h0) ka.P ∧ OwnS (wf3.alloc (.cells #[.int .u64 (s : Nat), .slice t0 g0 h0, .slice t1 g1 h1, .slice t2 g2 h2] 45)) zb (.slice t1 g1 h1) ka.S ∧ OwnP (wf3.alloc (.cells #[.int .u64 (s : Nat), .slice t0 g0 h0, .slice t1 g1 h1, .slice t2 g2 h2] 45)) zb (.slice t2 g2 h2) ka.W) := ⟨ownsRow_on HO1.out hal, ownsRow_on HO2.out hal, ownsRow_on HO3.out hal⟩
      have HBal : Hid (Below w1.heap.size w1 (wf3.alloc (.cells #[.int .u64 (s : Nat), .slice t0 g0 h0, .slice t1 g1 h1, .slice t2 g2 h2] 45))) := HBw.out.trans (hbal.mono HZb.out.2)
      have hCl : C.length + 1 ≤ 1759218604441 := by
        have h := congrArg List.length HCm.out
        rw [List.length_map, List.length_map, List.length_take] at h
        have := HKn.out
        omega
      clear hbal hal HO1 HO2 HO3 HBr HC
      go_wp2_with (first | (at_builtin; go_loud (refine wpList_appL1 _ rfl (.tmp 72) (.tmp 74) rfl w1.heap.size _ C rfl HCp.out.own ⟨s, ka, .slice t0 g0 h0, .slice t1 g1 h1, .slice t2 g2 h2⟩ ⟨rfl, rfl, rfl⟩ _ rfl HBl.out (by omega) HBal.out.size ?_); intro v7 w7 h7 hg7 hb7))
      have HC7 : Hid (CpL w7 w1.heap.size v7 (C ++ [⟨s, ka, .slice t0 g0 h0, .slice t1 g1 h1, .slice t2 g2 h2⟩])) := HCp.out.snoc h7 hg7 ⟨HOo.out.1.mono HZb.out.2, HOo.out.2.1.mono HZb.out.2, HOo.out.2.2.mono HZb.out.2, HR.out.1.lp, HR.out.1.ls, HR.out.1.lw, HR.out.2⟩
      have HB7 : Hid (Below w1.heap.size w1 w7) := HBal.out.trans hb7
      have HM7 : Hid ((C ++ [(⟨s, ka, .slice t0 g0 h0, .slice t1 g1 h1, .slice t2 g2 h2⟩ : Lc)]).map (fun k => (k.s, k.a)) = (K.take (j + 1)).map (fun k => (k.s, k.a))) := by
        obtain ⟨hjK, hk⟩ := HKj.out
        show _ = _
        rw [take_snoc K j hjK, List.map_append, List.map_append, HCm.out, hk]
        rfl
      clear h7 hg7 hb7 k0 k1 k2 k3 HCp HBl HOo HBal HX HR HD hCl
      go_wp2_with fail
      go_roundw
      case rel => exact ⟨j + 1, _, hj1, by go_num, HC7, HM7, HB7⟩
      case measure => simp [intOf]; omega

end Go.Proofs.YtcknhjabdjbjiabGreat
