/- The law of ValidAsks. -/
import Derived.Test.YtcknhjabdjbjiaaGreatGWNt
import Derived.Test.YtcknhjabdjbjiaaGreatGWLd4
namespace Go.Proofs.YtcknhjabdjbjiaaGreat
open Go.RowKit
set_option maxRecDepth 100000

set_option maxHeartbeats 8000000 in
theorem lawVAsks (v : Value) (K : List Lc) (a : Ft) (va0 va1 va2 : Value) (fr : Nat) (w : World) (hK : RdLc w v K) (ha : RdF w va0 va1 va2 a) (hfr : fr < 18446744073709551616) :
    Calls Tryz.prog 4 #[v, .agg #[va0, va1, va2], .int .u64 (fr : Nat)] w fun e w' => e = .returned (.bool true) ∧ Below w.heap.size w w' := by
  obtain ⟨p0, c0, e0, -⟩ := ha.p.f
  obtain ⟨p1, c1, e1, -⟩ := ha.s.f
  obtain ⟨p2, c2, e2, -⟩ := ha.w.f
  obtain ⟨n0, hn0⟩ : ∃ n, a.P.length = n := ⟨_, rfl⟩
  obtain ⟨n1, hn1⟩ : ∃ n, a.S.length = n := ⟨_, rfl⟩
  obtain ⟨n2, hn2⟩ : ∃ n, a.W.length = n := ⟨_, rfl⟩
  rw [hn0] at e0
  rw [hn1] at e1
  rw [hn2] at e2
  subst e0 e1 e2
  clear hn0 hn1 hn2
  have HFr : Hid (fr < 18446744073709551616) := hfr
  obtain ⟨w1, hw1⟩ : ∃ w1, w.alloc (.cells #[.slice p0 n0 c0, .slice p1 n1 c1, .slice p2 n2 c2] 37) = w1 := ⟨_, rfl⟩
  have HB1 : Hid (Below w.heap.size w w1) := by rw [← hw1]; exact (Below.refl _ _).alloc (Nat.le_refl _) _
  have HK1 : Hid (Blk w1 w.heap.size #[.slice p0 n0 c0, .slice p1 n1 c1, .slice p2 n2 c2] 37) := by rw [← hw1]; exact Blk.new w _ _
  have HA1 : Hid (RdF w1 _ _ _ a) := ha.on HB1.out
  have CN : Hid (Calls _ _ _ _ _) := noted_any v K w1 (hK.on HB1.out)
  clear hK ha hfr
  go_enter Tryz.func4, Tryz.ntmps4
  go_wp2_with fail
  refine CN.out.mono ?_
  rintro e w2 ⟨lb, mb, vC, E, L, vm, M, rfl, hP⟩
  clear CN hw1
  have HP2 : Hid (NtP w1 w2 lb mb vC E L vm M) := hP
  clear hP
  have l0 := (HK1.out.on HP2.out.bel).cell (i := 0) rfl
  have l1 := (HK1.out.on HP2.out.bel).cell (i := 1) rfl
  have l2 := (HK1.out.on HP2.out.bel).cell (i := 2) rfl
  have CR : Hid (Calls _ _ _ _ _) := read_any a _ _ _ lb fr vC mb _ L w2 HP2.out.log.x (HA1.out.on HP2.out.bel) HFr.out
  go_wp2_with fail
  clear l0 l1 l2
  refine CR.out.mono ?_
  rintro e w3 ⟨q, rfl, hq, hb⟩
  clear CR
  have HQA : Hid (RdQ a L fr q) := hq
  rw [clV_eq]
  obtain ⟨bA, hbA⟩ : ∃ b, q.isSome = b := ⟨_, rfl⟩
  obtain ⟨⟨mA, xA⟩, hxA⟩ : ∃ y, clC q = y := ⟨_, rfl⟩
  rw [hbA, hxA]
  have HLA : Hid (clC q = (mA, xA) ∧ q.isSome = bA) := ⟨hxA, hbA⟩
  clear hbA hxA
  clear hq
  have HP3 : Hid (NtP w1 w3 lb mb vC E L vm M) := HP2.out.on (hb)
  clear HP2
  clear hb
  dsimp only
  obtain ⟨wb3, hwb3⟩ : ∃ wb, w3.alloc (.cells #[.int .u64 (mA : Nat), .int .i64 xA.t, .int .i64 xA.i, .string xA.k] 41) = wb := ⟨_, rfl⟩
  have hal : Below w3.heap.size w3 wb3 := by rw [← hwb3]; exact (Below.refl _ _).alloc (Nat.le_refl _) _
  have HX0b3 : Hid (Blk wb3 w3.heap.size #[.int .u64 (mA : Nat), .int .i64 xA.t, .int .i64 xA.i, .string xA.k] 41) := by rw [← hwb3]; exact Blk.new w3 _ _
  have HPb3 : Hid (NtP w1 wb3 lb mb vC E L vm M) := HP3.out.on (hal)
  clear HP3
  clear hal
  have l0 := (HK1.out.on HPb3.out.bel).cell (i := 0) rfl
  have l1 := (HK1.out.on HPb3.out.bel).cell (i := 1) rfl
  have l2 := (HK1.out.on HPb3.out.bel).cell (i := 2) rfl
  have CR : Hid (Calls _ _ _ _ _) := rread_any a _ _ _ _ fr vm M wb3 (HPb3.out.doc.doc HPb3.out.bel) HPb3.out.inv (HA1.out.on HPb3.out.bel)
  go_wp2_with fail
  clear l0 l1 l2
  refine CR.out.mono ?_
  rintro e w4 ⟨q, rfl, hq, hb⟩
  clear CR
  obtain rfl := HQA.out.same HPb3.out.sam HPb3.out.inv hq
  rw [clV_eq, HLA.out.1, HLA.out.2]
  clear hq
  have HP4 : Hid (NtP w1 w4 lb mb vC E L vm M) := HPb3.out.on (hb)
  have HX04 : Hid (Blk w4 w3.heap.size #[.int .u64 (mA : Nat), .int .i64 xA.t, .int .i64 xA.i, .string xA.k] 41) := HX0b3.out.on (hb)
  clear HPb3 HX0b3
  clear hb
  dsimp only
  obtain ⟨wb4, hwb4⟩ : ∃ wb, w4.alloc (.cells #[.int .u64 (mA : Nat), .int .i64 xA.t, .int .i64 xA.i, .string xA.k] 41) = wb := ⟨_, rfl⟩
  have hal : Below w4.heap.size w4 wb4 := by rw [← hwb4]; exact (Below.refl _ _).alloc (Nat.le_refl _) _
  have HX1b4 : Hid (Blk wb4 w4.heap.size #[.int .u64 (mA : Nat), .int .i64 xA.t, .int .i64 xA.i, .string xA.k] 41) := by rw [← hwb4]; exact Blk.new w4 _ _
  have HPb4 : Hid (NtP w1 wb4 lb mb vC E L vm M) := HP4.out.on (hal)
  have HX0b4 : Hid (Blk wb4 w3.heap.size #[.int .u64 (mA : Nat), .int .i64 xA.t, .int .i64 xA.i, .string xA.k] 41) := HX04.out.on (hal)
  clear HP4 HX04
  clear hal
  have l0 := (HK1.out.on HPb4.out.bel).cell (i := 0) rfl
  have l1 := (HK1.out.on HPb4.out.bel).cell (i := 1) rfl
  have l2 := (HK1.out.on HPb4.out.bel).cell (i := 2) rfl
  have CR : Hid (Calls _ _ _ _ _) := wrote_any a _ _ _ lb fr vC mb _ L wb4 HPb4.out.log.x (HA1.out.on HPb4.out.bel) HFr.out
  go_wp2_with fail
  clear l0 l1 l2
  refine CR.out.mono ?_
  rintro e w5 ⟨q, rfl, hq, hb⟩
  clear CR
  have HQB : Hid (WrQ a L fr q) := hq
  rw [clV_eq]
  obtain ⟨bB, hbB⟩ : ∃ b, q.isSome = b := ⟨_, rfl⟩
  obtain ⟨⟨mB, xB⟩, hxB⟩ : ∃ y, clC q = y := ⟨_, rfl⟩
  rw [hbB, hxB]
  have HLB : Hid (clC q = (mB, xB) ∧ q.isSome = bB) := ⟨hxB, hbB⟩
  clear hbB hxB
  clear hq
  have HP5 : Hid (NtP w1 w5 lb mb vC E L vm M) := HPb4.out.on (hb)
  have HX05 : Hid (Blk w5 w3.heap.size #[.int .u64 (mA : Nat), .int .i64 xA.t, .int .i64 xA.i, .string xA.k] 41) := HX0b4.out.on (hb)
  have HX15 : Hid (Blk w5 w4.heap.size #[.int .u64 (mA : Nat), .int .i64 xA.t, .int .i64 xA.i, .string xA.k] 41) := HX1b4.out.on (hb)
  clear HPb4 HX0b4 HX1b4
  clear hb
  dsimp only
  obtain ⟨wb5, hwb5⟩ : ∃ wb, w5.alloc (.cells #[.int .u64 (mB : Nat), .int .i64 xB.t, .int .i64 xB.i, .string xB.k] 41) = wb := ⟨_, rfl⟩
  have hal : Below w5.heap.size w5 wb5 := by rw [← hwb5]; exact (Below.refl _ _).alloc (Nat.le_refl _) _
  have HX2b5 : Hid (Blk wb5 w5.heap.size #[.int .u64 (mB : Nat), .int .i64 xB.t, .int .i64 xB.i, .string xB.k] 41) := by rw [← hwb5]; exact Blk.new w5 _ _
  have HPb5 : Hid (NtP w1 wb5 lb mb vC E L vm M) := HP5.out.on (hal)
  have HX0b5 : Hid (Blk wb5 w3.heap.size #[.int .u64 (mA : Nat), .int .i64 xA.t, .int .i64 xA.i, .string xA.k] 41) := HX05.out.on (hal)
  have HX1b5 : Hid (Blk wb5 w4.heap.size #[.int .u64 (mA : Nat), .int .i64 xA.t, .int .i64 xA.i, .string xA.k] 41) := HX15.out.on (hal)
  clear HP5 HX05 HX15
  clear hal
  have l0 := (HK1.out.on HPb5.out.bel).cell (i := 0) rfl
  have l1 := (HK1.out.on HPb5.out.bel).cell (i := 1) rfl
  have l2 := (HK1.out.on HPb5.out.bel).cell (i := 2) rfl
  have CR : Hid (Calls _ _ _ _ _) := rwrote_any a _ _ _ _ fr vm M wb5 (HPb5.out.doc.doc HPb5.out.bel) HPb5.out.inv (HA1.out.on HPb5.out.bel)
  go_wp2_with fail
  clear l0 l1 l2
  refine CR.out.mono ?_
  rintro e w6 ⟨q, rfl, hq, hb⟩
  clear CR
  obtain rfl := HQB.out.same HPb5.out.sam HPb5.out.inv hq
  rw [clV_eq, HLB.out.1, HLB.out.2]
  clear hq
  have HP6 : Hid (NtP w1 w6 lb mb vC E L vm M) := HPb5.out.on (hb)
  have HX06 : Hid (Blk w6 w3.heap.size #[.int .u64 (mA : Nat), .int .i64 xA.t, .int .i64 xA.i, .string xA.k] 41) := HX0b5.out.on (hb)
  have HX16 : Hid (Blk w6 w4.heap.size #[.int .u64 (mA : Nat), .int .i64 xA.t, .int .i64 xA.i, .string xA.k] 41) := HX1b5.out.on (hb)
  have HX26 : Hid (Blk w6 w5.heap.size #[.int .u64 (mB : Nat), .int .i64 xB.t, .int .i64 xB.i, .string xB.k] 41) := HX2b5.out.on (hb)
  clear HPb5 HX0b5 HX1b5 HX2b5
  clear hb
  dsimp only
  obtain ⟨wb6, hwb6⟩ : ∃ wb, w6.alloc (.cells #[.int .u64 (mB : Nat), .int .i64 xB.t, .int .i64 xB.i, .string xB.k] 41) = wb := ⟨_, rfl⟩
  have hal : Below w6.heap.size w6 wb6 := by rw [← hwb6]; exact (Below.refl _ _).alloc (Nat.le_refl _) _
  have HX3b6 : Hid (Blk wb6 w6.heap.size #[.int .u64 (mB : Nat), .int .i64 xB.t, .int .i64 xB.i, .string xB.k] 41) := by rw [← hwb6]; exact Blk.new w6 _ _
  have HPb6 : Hid (NtP w1 wb6 lb mb vC E L vm M) := HP6.out.on (hal)
  have HX0b6 : Hid (Blk wb6 w3.heap.size #[.int .u64 (mA : Nat), .int .i64 xA.t, .int .i64 xA.i, .string xA.k] 41) := HX06.out.on (hal)
  have HX1b6 : Hid (Blk wb6 w4.heap.size #[.int .u64 (mA : Nat), .int .i64 xA.t, .int .i64 xA.i, .string xA.k] 41) := HX16.out.on (hal)
  have HX2b6 : Hid (Blk wb6 w5.heap.size #[.int .u64 (mB : Nat), .int .i64 xB.t, .int .i64 xB.i, .string xB.k] 41) := HX26.out.on (hal)
  clear HP6 HX06 HX16 HX26
  clear hal
  have y00 := HX0b6.out.cell (i := 0) rfl
  have y01 := HX0b6.out.cell (i := 1) rfl
  have y02 := HX0b6.out.cell (i := 2) rfl
  have y03 := HX0b6.out.cell (i := 3) rfl
  have y10 := HX1b6.out.cell (i := 0) rfl
  have y11 := HX1b6.out.cell (i := 1) rfl
  have y12 := HX1b6.out.cell (i := 2) rfl
  have y13 := HX1b6.out.cell (i := 3) rfl
  have CR : Hid (Calls _ _ _ _ _) := sameClash_any mA xA.t xA.i xA.k wb6
  go_wp2_with fail
  clear hwb6 y00 y01 y02 y03 y10 y11 y12 y13
  refine CR.out.mono ?_
  rintro e w7 ⟨rfl, hb⟩
  clear CR
  have HP7 : Hid (NtP w1 w7 lb mb vC E L vm M) := HPb6.out.on (hb)
  have HX07 : Hid (Blk w7 w3.heap.size #[.int .u64 (mA : Nat), .int .i64 xA.t, .int .i64 xA.i, .string xA.k] 41) := HX0b6.out.on (hb)
  have HX17 : Hid (Blk w7 w4.heap.size #[.int .u64 (mA : Nat), .int .i64 xA.t, .int .i64 xA.i, .string xA.k] 41) := HX1b6.out.on (hb)
  have HX27 : Hid (Blk w7 w5.heap.size #[.int .u64 (mB : Nat), .int .i64 xB.t, .int .i64 xB.i, .string xB.k] 41) := HX2b6.out.on (hb)
  have HX37 : Hid (Blk w7 w6.heap.size #[.int .u64 (mB : Nat), .int .i64 xB.t, .int .i64 xB.i, .string xB.k] 41) := HX3b6.out.on (hb)
  clear HPb6 HX0b6 HX1b6 HX2b6 HX3b6
  clear hb
  have y20 := HX27.out.cell (i := 0) rfl
  have y21 := HX27.out.cell (i := 1) rfl
  have y22 := HX27.out.cell (i := 2) rfl
  have y23 := HX27.out.cell (i := 3) rfl
  have y30 := HX37.out.cell (i := 0) rfl
  have y31 := HX37.out.cell (i := 1) rfl
  have y32 := HX37.out.cell (i := 2) rfl
  have y33 := HX37.out.cell (i := 3) rfl
  have CR : Hid (Calls _ _ _ _ _) := sameClash_any mB xB.t xB.i xB.k w7
  go_wp2_with fail
  clear y20 y21 y22 y23 y30 y31 y32 y33
  refine CR.out.mono ?_
  rintro e w8 ⟨rfl, hb⟩
  clear CR
  have HB8 : Hid (Below w.heap.size w w8) := HB1.out.trans ((HP7.out.on hb).bel.mono HB1.out.size)
  clear hb HP7
  have CW : Hid (Calls _ _ _ _ _) := awake18_any w8
  go_wp2_with fail
  refine CW.out.mono ?_
  rintro e w9 ⟨rfl, hb⟩
  have HE : Hid (Below w.heap.size w w9) := HB8.out.trans (hb.mono HB8.out.size)
  clear CW hb
  go_wp2_with fail
  go_ret
  exact ⟨rfl, HE.out⟩

end Go.Proofs.YtcknhjabdjbjiaaGreat
