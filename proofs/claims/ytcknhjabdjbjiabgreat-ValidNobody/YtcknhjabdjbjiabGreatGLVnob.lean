/- The law of ValidNobody. -/
import Derived.Test.YtcknhjabdjbjiabGreatGWLg15
namespace Go.Proofs.YtcknhjabdjbjiabGreat
open Go.RowKit
set_option maxRecDepth 100000

set_option maxHeartbeats 8000000 in
theorem lawVNobody (q0 q1 q2 p0 p1 p2 : Option Addr) (m0 m1 m2 d0 d1 d2 n0 n1 n2 c0 c1 c2 cs fr fl : Nat) (lv : Int) (w : World) :
    Calls Tryz.prog 4 #[.agg #[.int .u64 (cs : Nat), .slice q0 m0 d0, .slice q1 m1 d1, .slice q2 m2 d2], .agg #[.int .u64 (fr : Nat), .slice p0 n0 c0, .slice p1 n1 c1, .slice p2 n2 c2, .int .i64 lv], .int .u64 (fl : Nat)] w fun e w' => e = .returned (.bool true) ∧ Below w.heap.size w w' := by
  obtain ⟨w2, hw2⟩ : ∃ w2, ((w.alloc (.cells #[.int .u64 (cs : Nat), .slice q0 m0 d0, .slice q1 m1 d1, .slice q2 m2 d2] 45)).alloc (.cells #[.int .u64 (fr : Nat), .slice p0 n0 c0, .slice p1 n1 c1, .slice p2 n2 c2, .int .i64 lv] 29)) = w2 := ⟨_, rfl⟩
  have HB2 : Hid (Below w.heap.size w w2) := by rw [← hw2]; exact ((Below.refl _ _).alloc (Nat.le_refl _) _).alloc (by simp) _
  have HC2 : Hid (Blk w2 w.heap.size #[.int .u64 (cs : Nat), .slice q0 m0 d0, .slice q1 m1 d1, .slice q2 m2 d2] 45) := by rw [← hw2]; exact (Blk.new w _ _).keep (B := w.heap.size + 1) ((Below.refl _ _).alloc (by simp) _) (by omega)
  have HA2 : Hid (Blk w2 (w.heap.size + 1) #[.int .u64 (fr : Nat), .slice p0 n0 c0, .slice p1 n1 c1, .slice p2 n2 c2, .int .i64 lv] 29) := by
    rw [← hw2]
    have h := Blk.new (w.alloc (.cells #[.int .u64 (cs : Nat), .slice q0 m0 d0, .slice q1 m1 d1, .slice q2 m2 d2] 45)) #[.int .u64 (fr : Nat), .slice p0 n0 c0, .slice p1 n1 c1, .slice p2 n2 c2, .int .i64 lv] 29
    rw [World.size_alloc] at h
    exact h
  go_enter Tryz.func4, Tryz.ntmps4
  go_wp2_with fail
  clear hw2
  go_loopw [7] (fun i wr => ∃ j : Nat, j ≤ 2 ∧ i = .int .i64 (j : Int) ∧ Hid (Below w.heap.size w wr) ∧ Hid (Blk wr w.heap.size #[.int .u64 (cs : Nat), .slice q0 m0 d0, .slice q1 m1 d1, .slice q2 m2 d2] 45) ∧ Hid (Blk wr (w.heap.size + 1) #[.int .u64 (fr : Nat), .slice p0 n0 c0, .slice p1 n1 c1, .slice p2 n2 c2, .int .i64 lv] 29)) (fun i _ => 2 - (intOf i).toNat)
  case atStart => exact ⟨0, by omega, by go_num, HB2, HC2, HA2⟩
  case round =>
    obtain ⟨j, hj, rfl, HB, HC, HA⟩ := hrel
    clear HB2 HC2 HA2
    have hj3 : j = 0 ∨ j = 1 ∨ j = 2 := by omega
    rcases hj3 with rfl | rfl | rfl
    · rw [show ((0 : Nat) : Int) = 0 from rfl]
      have HN : Hid (Nob wr (.pointer none)) := .inl rfl
      have HBr := HB
      have HCr := HC
      have HAr := HA
      have HNr := HN
      clear HB HC HA HN
      have a0 := HAr.out.cell (i := 0) rfl
      have a1 := HAr.out.cell (i := 1) rfl
      have a2 := HAr.out.cell (i := 2) rfl
      have a3 := HAr.out.cell (i := 3) rfl
      have a4 := HAr.out.cell (i := 4) rfl
      have b0 := HCr.out.cell (i := 0) rfl
      have b1 := HCr.out.cell (i := 1) rfl
      have b2 := HCr.out.cell (i := 2) rfl
      have b3 := HCr.out.cell (i := 3) rfl
      have CR : Hid (Calls _ _ _ _ _) := read_no (.pointer none) p0 p1 p2 n0 n1 n2 c0 c1 c2 fr wr HNr.out
      go_wp2_with fail
      clear a0 a1 a2 a3 a4 b0 b1 b2 b3
      refine CR.out.mono ?_
      rintro e w3 ⟨rfl, hb⟩
      clear CR
      have HB3 : Hid (Below w.heap.size w w3) := HBr.out.trans ((hb).mono HBr.out.size)
      have HC3 : Hid (Blk w3 w.heap.size #[.int .u64 (cs : Nat), .slice q0 m0 d0, .slice q1 m1 d1, .slice q2 m2 d2] 45) := HCr.out.on (hb)
      have HA3 : Hid (Blk w3 (w.heap.size + 1) #[.int .u64 (fr : Nat), .slice p0 n0 c0, .slice p1 n1 c1, .slice p2 n2 c2, .int .i64 lv] 29) := HAr.out.on (hb)
      have HN3 : Hid (Nob w3 (.pointer none)) := HNr.out.on (hb)
      clear HBr HCr HAr HNr
      clear hb
      obtain ⟨wb3, hwb3⟩ : ∃ wb, w3.alloc (.cells #[.int .u64 0, .int .i64 0, .int .i64 0, .string ⟨#[]⟩] 38) = wb := ⟨_, rfl⟩
      have hal : Below w3.heap.size w3 wb3 := by rw [← hwb3]; exact (Below.refl _ _).alloc (Nat.le_refl _) _
      have HK : Hid (Blk wb3 w3.heap.size #[.int .u64 0, .int .i64 0, .int .i64 0, .string ⟨#[]⟩] 38) := by rw [← hwb3]; exact Blk.new w3 _ _
      have y0 := HK.out.cell (i := 0) rfl
      have g0 := HK.out.frozen 0
      have y1 := HK.out.cell (i := 1) rfl
      have g1 := HK.out.frozen 1
      have y2 := HK.out.cell (i := 2) rfl
      have g2 := HK.out.frozen 2
      have y3 := HK.out.cell (i := 3) rfl
      have g3 := HK.out.frozen 3
      obtain ⟨ws3, hws3⟩ : ∃ ws, (((wb3.setCell ⟨w3.heap.size, 0, none⟩ (.int .u64 0)).setCell ⟨w3.heap.size, 1, none⟩ (.int .i64 0)).setCell ⟨w3.heap.size, 2, none⟩ (.int .i64 0)).setCell ⟨w3.heap.size, 3, none⟩ (.string ⟨#[]⟩) = ws := ⟨_, rfl⟩
      have hal2 : Below w3.heap.size w3 ws3 := by
        rw [← hws3]
        exact hal.trans ((set4 HK.out).2.below hal.size (fun k hk => by omega))
      have HBs3 : Hid (Below w.heap.size w ws3) := HB3.out.trans ((hal2).mono HB3.out.size)
      have HCs3 : Hid (Blk ws3 w.heap.size #[.int .u64 (cs : Nat), .slice q0 m0 d0, .slice q1 m1 d1, .slice q2 m2 d2] 45) := HC3.out.on (hal2)
      have HAs3 : Hid (Blk ws3 (w.heap.size + 1) #[.int .u64 (fr : Nat), .slice p0 n0 c0, .slice p1 n1 c1, .slice p2 n2 c2, .int .i64 lv] 29) := HA3.out.on (hal2)
      have HNs3 : Hid (Nob ws3 (.pointer none)) := HN3.out.on (hal2)
      clear HB3 HC3 HA3 HN3
      clear hal hal2 HK
      dsimp only [clV]
      have a0 := HAs3.out.cell (i := 0) rfl
      have a1 := HAs3.out.cell (i := 1) rfl
      have a2 := HAs3.out.cell (i := 2) rfl
      have a3 := HAs3.out.cell (i := 3) rfl
      have a4 := HAs3.out.cell (i := 4) rfl
      have b0 := HCs3.out.cell (i := 0) rfl
      have b1 := HCs3.out.cell (i := 1) rfl
      have b2 := HCs3.out.cell (i := 2) rfl
      have b3 := HCs3.out.cell (i := 3) rfl
      have CR : Hid (Calls _ _ _ _ _) := wrote_no (.pointer none) p0 p1 p2 n0 n1 n2 c0 c1 c2 fr ws3 HNs3.out
      go_wp2_with fail
      clear a0 a1 a2 a3 a4 b0 b1 b2 b3
      clear y0 y1 y2 y3 g0 g1 g2 g3 hws3 hwb3
      refine CR.out.mono ?_
      rintro e w4 ⟨rfl, hb⟩
      clear CR
      have HB4 : Hid (Below w.heap.size w w4) := HBs3.out.trans ((hb).mono HBs3.out.size)
      have HC4 : Hid (Blk w4 w.heap.size #[.int .u64 (cs : Nat), .slice q0 m0 d0, .slice q1 m1 d1, .slice q2 m2 d2] 45) := HCs3.out.on (hb)
      have HA4 : Hid (Blk w4 (w.heap.size + 1) #[.int .u64 (fr : Nat), .slice p0 n0 c0, .slice p1 n1 c1, .slice p2 n2 c2, .int .i64 lv] 29) := HAs3.out.on (hb)
      have HN4 : Hid (Nob w4 (.pointer none)) := HNs3.out.on (hb)
      clear HBs3 HCs3 HAs3 HNs3
      clear hb
      obtain ⟨wb4, hwb4⟩ : ∃ wb, w4.alloc (.cells #[.int .u64 0, .int .i64 0, .int .i64 0, .string ⟨#[]⟩] 38) = wb := ⟨_, rfl⟩
      have hal : Below w4.heap.size w4 wb4 := by rw [← hwb4]; exact (Below.refl _ _).alloc (Nat.le_refl _) _
      have HK : Hid (Blk wb4 w4.heap.size #[.int .u64 0, .int .i64 0, .int .i64 0, .string ⟨#[]⟩] 38) := by rw [← hwb4]; exact Blk.new w4 _ _
      have y0 := HK.out.cell (i := 0) rfl
      have g0 := HK.out.frozen 0
      have y1 := HK.out.cell (i := 1) rfl
      have g1 := HK.out.frozen 1
      have y2 := HK.out.cell (i := 2) rfl
      have g2 := HK.out.frozen 2
      have y3 := HK.out.cell (i := 3) rfl
      have g3 := HK.out.frozen 3
      obtain ⟨ws4, hws4⟩ : ∃ ws, (((wb4.setCell ⟨w4.heap.size, 0, none⟩ (.int .u64 0)).setCell ⟨w4.heap.size, 1, none⟩ (.int .i64 0)).setCell ⟨w4.heap.size, 2, none⟩ (.int .i64 0)).setCell ⟨w4.heap.size, 3, none⟩ (.string ⟨#[]⟩) = ws := ⟨_, rfl⟩
      have hal2 : Below w4.heap.size w4 ws4 := by
        rw [← hws4]
        exact hal.trans ((set4 HK.out).2.below hal.size (fun k hk => by omega))
      have HBs4 : Hid (Below w.heap.size w ws4) := HB4.out.trans ((hal2).mono HB4.out.size)
      have HCs4 : Hid (Blk ws4 w.heap.size #[.int .u64 (cs : Nat), .slice q0 m0 d0, .slice q1 m1 d1, .slice q2 m2 d2] 45) := HC4.out.on (hal2)
      have HAs4 : Hid (Blk ws4 (w.heap.size + 1) #[.int .u64 (fr : Nat), .slice p0 n0 c0, .slice p1 n1 c1, .slice p2 n2 c2, .int .i64 lv] 29) := HA4.out.on (hal2)
      have HNs4 : Hid (Nob ws4 (.pointer none)) := HN4.out.on (hal2)
      clear HB4 HC4 HA4 HN4
      clear hal hal2 HK
      dsimp only [clV]
      have a0 := HAs4.out.cell (i := 0) rfl
      have a1 := HAs4.out.cell (i := 1) rfl
      have a2 := HAs4.out.cell (i := 2) rfl
      have a3 := HAs4.out.cell (i := 3) rfl
      have a4 := HAs4.out.cell (i := 4) rfl
      have b0 := HCs4.out.cell (i := 0) rfl
      have b1 := HCs4.out.cell (i := 1) rfl
      have b2 := HCs4.out.cell (i := 2) rfl
      have b3 := HCs4.out.cell (i := 3) rfl
      have CR : Hid (Calls _ _ _ _ _) := try_no (.pointer none) p0 p1 p2 n0 n1 n2 c0 c1 c2 fr lv ws4 HNs4.out
      go_wp2_with fail
      clear a0 a1 a2 a3 a4 b0 b1 b2 b3
      clear y0 y1 y2 y3 g0 g1 g2 g3 hws4 hwb4
      refine CR.out.mono ?_
      rintro e w5 ⟨rfl, hb⟩
      clear CR
      have HB5 : Hid (Below w.heap.size w w5) := HBs4.out.trans ((hb).mono HBs4.out.size)
      have HC5 : Hid (Blk w5 w.heap.size #[.int .u64 (cs : Nat), .slice q0 m0 d0, .slice q1 m1 d1, .slice q2 m2 d2] 45) := HCs4.out.on (hb)
      have HA5 : Hid (Blk w5 (w.heap.size + 1) #[.int .u64 (fr : Nat), .slice p0 n0 c0, .slice p1 n1 c1, .slice p2 n2 c2, .int .i64 lv] 29) := HAs4.out.on (hb)
      have HN5 : Hid (Nob w5 (.pointer none)) := HNs4.out.on (hb)
      clear HBs4 HCs4 HAs4 HNs4
      clear hb
      obtain ⟨wb5, hwb5⟩ : ∃ wb, w5.alloc (.cells #[.int .u64 0, .int .i64 0, .int .i64 0, .string ⟨#[]⟩] 38) = wb := ⟨_, rfl⟩
      have hal : Below w5.heap.size w5 wb5 := by rw [← hwb5]; exact (Below.refl _ _).alloc (Nat.le_refl _) _
      have HK : Hid (Blk wb5 w5.heap.size #[.int .u64 0, .int .i64 0, .int .i64 0, .string ⟨#[]⟩] 38) := by rw [← hwb5]; exact Blk.new w5 _ _
      have y0 := HK.out.cell (i := 0) rfl
      have g0 := HK.out.frozen 0
      have y1 := HK.out.cell (i := 1) rfl
      have g1 := HK.out.frozen 1
      have y2 := HK.out.cell (i := 2) rfl
      have g2 := HK.out.frozen 2
      have y3 := HK.out.cell (i := 3) rfl
      have g3 := HK.out.frozen 3
      obtain ⟨ws5, hws5⟩ : ∃ ws, (((wb5.setCell ⟨w5.heap.size, 0, none⟩ (.int .u64 0)).setCell ⟨w5.heap.size, 1, none⟩ (.int .i64 0)).setCell ⟨w5.heap.size, 2, none⟩ (.int .i64 0)).setCell ⟨w5.heap.size, 3, none⟩ (.string ⟨#[]⟩) = ws := ⟨_, rfl⟩
      have hal2 : Below w5.heap.size w5 ws5 := by
        rw [← hws5]
        exact hal.trans ((set4 HK.out).2.below hal.size (fun k hk => by omega))
      have HBs5 : Hid (Below w.heap.size w ws5) := HB5.out.trans ((hal2).mono HB5.out.size)
      have HCs5 : Hid (Blk ws5 w.heap.size #[.int .u64 (cs : Nat), .slice q0 m0 d0, .slice q1 m1 d1, .slice q2 m2 d2] 45) := HC5.out.on (hal2)
      have HAs5 : Hid (Blk ws5 (w.heap.size + 1) #[.int .u64 (fr : Nat), .slice p0 n0 c0, .slice p1 n1 c1, .slice p2 n2 c2, .int .i64 lv] 29) := HA5.out.on (hal2)
      have HNs5 : Hid (Nob ws5 (.pointer none)) := HN5.out.on (hal2)
      clear HB5 HC5 HA5 HN5
      clear hal hal2 HK
      dsimp only [clA]
      have a0 := HAs5.out.cell (i := 0) rfl
      have a1 := HAs5.out.cell (i := 1) rfl
      have a2 := HAs5.out.cell (i := 2) rfl
      have a3 := HAs5.out.cell (i := 3) rfl
      have a4 := HAs5.out.cell (i := 4) rfl
      have b0 := HCs5.out.cell (i := 0) rfl
      have b1 := HCs5.out.cell (i := 1) rfl
      have b2 := HCs5.out.cell (i := 2) rfl
      have b3 := HCs5.out.cell (i := 3) rfl
      have CR : Hid (Calls _ _ _ _ _) := note_no (.pointer none) q0 q1 q2 m0 m1 m2 d0 d1 d2 cs ws5 HNs5.out
      go_wp2_with fail
      clear a0 a1 a2 a3 a4 b0 b1 b2 b3
      clear y0 y1 y2 y3 g0 g1 g2 g3 hws5 hwb5
      refine CR.out.mono ?_
      rintro e w6 ⟨rfl, hb⟩
      clear CR
      have HB6 : Hid (Below w.heap.size w w6) := HBs5.out.trans ((hb).mono HBs5.out.size)
      have HC6 : Hid (Blk w6 w.heap.size #[.int .u64 (cs : Nat), .slice q0 m0 d0, .slice q1 m1 d1, .slice q2 m2 d2] 45) := HCs5.out.on (hb)
      have HA6 : Hid (Blk w6 (w.heap.size + 1) #[.int .u64 (fr : Nat), .slice p0 n0 c0, .slice p1 n1 c1, .slice p2 n2 c2, .int .i64 lv] 29) := HAs5.out.on (hb)
      have HN6 : Hid (Nob w6 (.pointer none)) := HNs5.out.on (hb)
      clear HBs5 HCs5 HAs5 HNs5
      clear hb
      have CR : Hid (Calls _ _ _ _ _) := trim_no (.pointer none) fl w6 HN6.out
      go_wp2_with fail
      refine CR.out.mono ?_
      rintro e w7 ⟨rfl, hb⟩
      clear CR
      have HB7 : Hid (Below w.heap.size w w7) := HB6.out.trans ((hb).mono HB6.out.size)
      have HC7 : Hid (Blk w7 w.heap.size #[.int .u64 (cs : Nat), .slice q0 m0 d0, .slice q1 m1 d1, .slice q2 m2 d2] 45) := HC6.out.on (hb)
      have HA7 : Hid (Blk w7 (w.heap.size + 1) #[.int .u64 (fr : Nat), .slice p0 n0 c0, .slice p1 n1 c1, .slice p2 n2 c2, .int .i64 lv] 29) := HA6.out.on (hb)
      have HN7 : Hid (Nob w7 (.pointer none)) := HN6.out.on (hb)
      clear HB6 HC6 HA6 HN6
      clear hb
      have CR : Hid (Calls _ _ _ _ _) := stamps_no (.pointer none) w7 HN7.out
      go_wp2_with fail
      refine CR.out.mono ?_
      rintro e w8 ⟨rfl, hb⟩
      clear CR
      have HB8 : Hid (Below w.heap.size w w8) := HB7.out.trans ((hb).mono HB7.out.size)
      have HC8 : Hid (Blk w8 w.heap.size #[.int .u64 (cs : Nat), .slice q0 m0 d0, .slice q1 m1 d1, .slice q2 m2 d2] 45) := HC7.out.on (hb)
      have HA8 : Hid (Blk w8 (w.heap.size + 1) #[.int .u64 (fr : Nat), .slice p0 n0 c0, .slice p1 n1 c1, .slice p2 n2 c2, .int .i64 lv] 29) := HA7.out.on (hb)
      have HN8 : Hid (Nob w8 (.pointer none)) := HN7.out.on (hb)
      clear HB7 HC7 HA7 HN7
      clear hb
      go_wp2_with fail
      go_roundw
      case rel => exact ⟨1, by omega, by go_num, HB8, HC8, HA8⟩
      case measure => simp [intOf]
    · rw [show ((1 : Nat) : Int) = 1 from rfl]
      obtain ⟨wl, hwl⟩ : ∃ wl, wr.alloc (.cells #[.pointer none, .slice none 0 0, .map none] 49) = wl := ⟨_, rfl⟩
      have hal : Below wr.heap.size wr wl := by rw [← hwl]; exact (Below.refl _ _).alloc (Nat.le_refl _) _
      have HNl : Hid (Nob wl (ptr1 wr.heap.size)) := .inr ⟨_, rfl, by rw [← hwl]; exact Blk.new wr _ _⟩
      have HBl : Hid (Below w.heap.size w wl) := HB.out.trans (hal.mono HB.out.size)
      have HCl : Hid (Blk wl w.heap.size #[.int .u64 (cs : Nat), .slice q0 m0 d0, .slice q1 m1 d1, .slice q2 m2 d2] 45) := HC.out.on hal
      have HAl : Hid (Blk wl (w.heap.size + 1) #[.int .u64 (fr : Nat), .slice p0 n0 c0, .slice p1 n1 c1, .slice p2 n2 c2, .int .i64 lv] 29) := HA.out.on hal
      clear hal HB HC HA
      have a0 := HAl.out.cell (i := 0) rfl
      have a1 := HAl.out.cell (i := 1) rfl
      have a2 := HAl.out.cell (i := 2) rfl
      have a3 := HAl.out.cell (i := 3) rfl
      have a4 := HAl.out.cell (i := 4) rfl
      have b0 := HCl.out.cell (i := 0) rfl
      have b1 := HCl.out.cell (i := 1) rfl
      have b2 := HCl.out.cell (i := 2) rfl
      have b3 := HCl.out.cell (i := 3) rfl
      have CR : Hid (Calls _ _ _ _ _) := read_no (ptr1 wr.heap.size) p0 p1 p2 n0 n1 n2 c0 c1 c2 fr wl HNl.out
      go_wp2_with fail
      clear a0 a1 a2 a3 a4 b0 b1 b2 b3
      refine CR.out.mono ?_
      rintro e w3 ⟨rfl, hb⟩
      clear CR
      have HB3 : Hid (Below w.heap.size w w3) := HBl.out.trans ((hb).mono HBl.out.size)
      have HC3 : Hid (Blk w3 w.heap.size #[.int .u64 (cs : Nat), .slice q0 m0 d0, .slice q1 m1 d1, .slice q2 m2 d2] 45) := HCl.out.on (hb)
      have HA3 : Hid (Blk w3 (w.heap.size + 1) #[.int .u64 (fr : Nat), .slice p0 n0 c0, .slice p1 n1 c1, .slice p2 n2 c2, .int .i64 lv] 29) := HAl.out.on (hb)
      have HN3 : Hid (Nob w3 (ptr1 wr.heap.size)) := HNl.out.on (hb)
      clear HBl HCl HAl HNl
      clear hb
      obtain ⟨wb3, hwb3⟩ : ∃ wb, w3.alloc (.cells #[.int .u64 0, .int .i64 0, .int .i64 0, .string ⟨#[]⟩] 38) = wb := ⟨_, rfl⟩
      have hal : Below w3.heap.size w3 wb3 := by rw [← hwb3]; exact (Below.refl _ _).alloc (Nat.le_refl _) _
      have HK : Hid (Blk wb3 w3.heap.size #[.int .u64 0, .int .i64 0, .int .i64 0, .string ⟨#[]⟩] 38) := by rw [← hwb3]; exact Blk.new w3 _ _
      have y0 := HK.out.cell (i := 0) rfl
      have g0 := HK.out.frozen 0
      have y1 := HK.out.cell (i := 1) rfl
      have g1 := HK.out.frozen 1
      have y2 := HK.out.cell (i := 2) rfl
      have g2 := HK.out.frozen 2
      have y3 := HK.out.cell (i := 3) rfl
      have g3 := HK.out.frozen 3
      obtain ⟨ws3, hws3⟩ : ∃ ws, (((wb3.setCell ⟨w3.heap.size, 0, none⟩ (.int .u64 0)).setCell ⟨w3.heap.size, 1, none⟩ (.int .i64 0)).setCell ⟨w3.heap.size, 2, none⟩ (.int .i64 0)).setCell ⟨w3.heap.size, 3, none⟩ (.string ⟨#[]⟩) = ws := ⟨_, rfl⟩
      have hal2 : Below w3.heap.size w3 ws3 := by
        rw [← hws3]
        exact hal.trans ((set4 HK.out).2.below hal.size (fun k hk => by omega))
      have HBs3 : Hid (Below w.heap.size w ws3) := HB3.out.trans ((hal2).mono HB3.out.size)
      have HCs3 : Hid (Blk ws3 w.heap.size #[.int .u64 (cs : Nat), .slice q0 m0 d0, .slice q1 m1 d1, .slice q2 m2 d2] 45) := HC3.out.on (hal2)
      have HAs3 : Hid (Blk ws3 (w.heap.size + 1) #[.int .u64 (fr : Nat), .slice p0 n0 c0, .slice p1 n1 c1, .slice p2 n2 c2, .int .i64 lv] 29) := HA3.out.on (hal2)
      have HNs3 : Hid (Nob ws3 (ptr1 wr.heap.size)) := HN3.out.on (hal2)
      clear HB3 HC3 HA3 HN3
      clear hal hal2 HK
      dsimp only [clV]
      have a0 := HAs3.out.cell (i := 0) rfl
      have a1 := HAs3.out.cell (i := 1) rfl
      have a2 := HAs3.out.cell (i := 2) rfl
      have a3 := HAs3.out.cell (i := 3) rfl
      have a4 := HAs3.out.cell (i := 4) rfl
      have b0 := HCs3.out.cell (i := 0) rfl
      have b1 := HCs3.out.cell (i := 1) rfl
      have b2 := HCs3.out.cell (i := 2) rfl
      have b3 := HCs3.out.cell (i := 3) rfl
      have CR : Hid (Calls _ _ _ _ _) := wrote_no (ptr1 wr.heap.size) p0 p1 p2 n0 n1 n2 c0 c1 c2 fr ws3 HNs3.out
      go_wp2_with fail
      clear a0 a1 a2 a3 a4 b0 b1 b2 b3
      clear y0 y1 y2 y3 g0 g1 g2 g3 hws3 hwb3
      refine CR.out.mono ?_
      rintro e w4 ⟨rfl, hb⟩
      clear CR
      have HB4 : Hid (Below w.heap.size w w4) := HBs3.out.trans ((hb).mono HBs3.out.size)
      have HC4 : Hid (Blk w4 w.heap.size #[.int .u64 (cs : Nat), .slice q0 m0 d0, .slice q1 m1 d1, .slice q2 m2 d2] 45) := HCs3.out.on (hb)
      have HA4 : Hid (Blk w4 (w.heap.size + 1) #[.int .u64 (fr : Nat), .slice p0 n0 c0, .slice p1 n1 c1, .slice p2 n2 c2, .int .i64 lv] 29) := HAs3.out.on (hb)
      have HN4 : Hid (Nob w4 (ptr1 wr.heap.size)) := HNs3.out.on (hb)
      clear HBs3 HCs3 HAs3 HNs3
      clear hb
      obtain ⟨wb4, hwb4⟩ : ∃ wb, w4.alloc (.cells #[.int .u64 0, .int .i64 0, .int .i64 0, .string ⟨#[]⟩] 38) = wb := ⟨_, rfl⟩
      have hal : Below w4.heap.size w4 wb4 := by rw [← hwb4]; exact (Below.refl _ _).alloc (Nat.le_refl _) _
      have HK : Hid (Blk wb4 w4.heap.size #[.int .u64 0, .int .i64 0, .int .i64 0, .string ⟨#[]⟩] 38) := by rw [← hwb4]; exact Blk.new w4 _ _
      have y0 := HK.out.cell (i := 0) rfl
      have g0 := HK.out.frozen 0
      have y1 := HK.out.cell (i := 1) rfl
      have g1 := HK.out.frozen 1
      have y2 := HK.out.cell (i := 2) rfl
      have g2 := HK.out.frozen 2
      have y3 := HK.out.cell (i := 3) rfl
      have g3 := HK.out.frozen 3
      obtain ⟨ws4, hws4⟩ : ∃ ws, (((wb4.setCell ⟨w4.heap.size, 0, none⟩ (.int .u64 0)).setCell ⟨w4.heap.size, 1, none⟩ (.int .i64 0)).setCell ⟨w4.heap.size, 2, none⟩ (.int .i64 0)).setCell ⟨w4.heap.size, 3, none⟩ (.string ⟨#[]⟩) = ws := ⟨_, rfl⟩
      have hal2 : Below w4.heap.size w4 ws4 := by
        rw [← hws4]
        exact hal.trans ((set4 HK.out).2.below hal.size (fun k hk => by omega))
      have HBs4 : Hid (Below w.heap.size w ws4) := HB4.out.trans ((hal2).mono HB4.out.size)
      have HCs4 : Hid (Blk ws4 w.heap.size #[.int .u64 (cs : Nat), .slice q0 m0 d0, .slice q1 m1 d1, .slice q2 m2 d2] 45) := HC4.out.on (hal2)
      have HAs4 : Hid (Blk ws4 (w.heap.size + 1) #[.int .u64 (fr : Nat), .slice p0 n0 c0, .slice p1 n1 c1, .slice p2 n2 c2, .int .i64 lv] 29) := HA4.out.on (hal2)
      have HNs4 : Hid (Nob ws4 (ptr1 wr.heap.size)) := HN4.out.on (hal2)
      clear HB4 HC4 HA4 HN4
      clear hal hal2 HK
      dsimp only [clV]
      have a0 := HAs4.out.cell (i := 0) rfl
      have a1 := HAs4.out.cell (i := 1) rfl
      have a2 := HAs4.out.cell (i := 2) rfl
      have a3 := HAs4.out.cell (i := 3) rfl
      have a4 := HAs4.out.cell (i := 4) rfl
      have b0 := HCs4.out.cell (i := 0) rfl
      have b1 := HCs4.out.cell (i := 1) rfl
      have b2 := HCs4.out.cell (i := 2) rfl
      have b3 := HCs4.out.cell (i := 3) rfl
      have CR : Hid (Calls _ _ _ _ _) := try_no (ptr1 wr.heap.size) p0 p1 p2 n0 n1 n2 c0 c1 c2 fr lv ws4 HNs4.out
      go_wp2_with fail
      clear a0 a1 a2 a3 a4 b0 b1 b2 b3
      clear y0 y1 y2 y3 g0 g1 g2 g3 hws4 hwb4
      refine CR.out.mono ?_
      rintro e w5 ⟨rfl, hb⟩
      clear CR
      have HB5 : Hid (Below w.heap.size w w5) := HBs4.out.trans ((hb).mono HBs4.out.size)
      have HC5 : Hid (Blk w5 w.heap.size #[.int .u64 (cs : Nat), .slice q0 m0 d0, .slice q1 m1 d1, .slice q2 m2 d2] 45) := HCs4.out.on (hb)
      have HA5 : Hid (Blk w5 (w.heap.size + 1) #[.int .u64 (fr : Nat), .slice p0 n0 c0, .slice p1 n1 c1, .slice p2 n2 c2, .int .i64 lv] 29) := HAs4.out.on (hb)
      have HN5 : Hid (Nob w5 (ptr1 wr.heap.size)) := HNs4.out.on (hb)
      clear HBs4 HCs4 HAs4 HNs4
      clear hb
      obtain ⟨wb5, hwb5⟩ : ∃ wb, w5.alloc (.cells #[.int .u64 0, .int .i64 0, .int .i64 0, .string ⟨#[]⟩] 38) = wb := ⟨_, rfl⟩
      have hal : Below w5.heap.size w5 wb5 := by rw [← hwb5]; exact (Below.refl _ _).alloc (Nat.le_refl _) _
      have HK : Hid (Blk wb5 w5.heap.size #[.int .u64 0, .int .i64 0, .int .i64 0, .string ⟨#[]⟩] 38) := by rw [← hwb5]; exact Blk.new w5 _ _
      have y0 := HK.out.cell (i := 0) rfl
      have g0 := HK.out.frozen 0
      have y1 := HK.out.cell (i := 1) rfl
      have g1 := HK.out.frozen 1
      have y2 := HK.out.cell (i := 2) rfl
      have g2 := HK.out.frozen 2
      have y3 := HK.out.cell (i := 3) rfl
      have g3 := HK.out.frozen 3
      obtain ⟨ws5, hws5⟩ : ∃ ws, (((wb5.setCell ⟨w5.heap.size, 0, none⟩ (.int .u64 0)).setCell ⟨w5.heap.size, 1, none⟩ (.int .i64 0)).setCell ⟨w5.heap.size, 2, none⟩ (.int .i64 0)).setCell ⟨w5.heap.size, 3, none⟩ (.string ⟨#[]⟩) = ws := ⟨_, rfl⟩
      have hal2 : Below w5.heap.size w5 ws5 := by
        rw [← hws5]
        exact hal.trans ((set4 HK.out).2.below hal.size (fun k hk => by omega))
      have HBs5 : Hid (Below w.heap.size w ws5) := HB5.out.trans ((hal2).mono HB5.out.size)
      have HCs5 : Hid (Blk ws5 w.heap.size #[.int .u64 (cs : Nat), .slice q0 m0 d0, .slice q1 m1 d1, .slice q2 m2 d2] 45) := HC5.out.on (hal2)
      have HAs5 : Hid (Blk ws5 (w.heap.size + 1) #[.int .u64 (fr : Nat), .slice p0 n0 c0, .slice p1 n1 c1, .slice p2 n2 c2, .int .i64 lv] 29) := HA5.out.on (hal2)
      have HNs5 : Hid (Nob ws5 (ptr1 wr.heap.size)) := HN5.out.on (hal2)
      clear HB5 HC5 HA5 HN5
      clear hal hal2 HK
      dsimp only [clA]
      have a0 := HAs5.out.cell (i := 0) rfl
      have a1 := HAs5.out.cell (i := 1) rfl
      have a2 := HAs5.out.cell (i := 2) rfl
      have a3 := HAs5.out.cell (i := 3) rfl
      have a4 := HAs5.out.cell (i := 4) rfl
      have b0 := HCs5.out.cell (i := 0) rfl
      have b1 := HCs5.out.cell (i := 1) rfl
      have b2 := HCs5.out.cell (i := 2) rfl
      have b3 := HCs5.out.cell (i := 3) rfl
      have CR : Hid (Calls _ _ _ _ _) := note_no (ptr1 wr.heap.size) q0 q1 q2 m0 m1 m2 d0 d1 d2 cs ws5 HNs5.out
      go_wp2_with fail
      clear a0 a1 a2 a3 a4 b0 b1 b2 b3
      clear y0 y1 y2 y3 g0 g1 g2 g3 hws5 hwb5
      refine CR.out.mono ?_
      rintro e w6 ⟨rfl, hb⟩
      clear CR
      have HB6 : Hid (Below w.heap.size w w6) := HBs5.out.trans ((hb).mono HBs5.out.size)
      have HC6 : Hid (Blk w6 w.heap.size #[.int .u64 (cs : Nat), .slice q0 m0 d0, .slice q1 m1 d1, .slice q2 m2 d2] 45) := HCs5.out.on (hb)
      have HA6 : Hid (Blk w6 (w.heap.size + 1) #[.int .u64 (fr : Nat), .slice p0 n0 c0, .slice p1 n1 c1, .slice p2 n2 c2, .int .i64 lv] 29) := HAs5.out.on (hb)
      have HN6 : Hid (Nob w6 (ptr1 wr.heap.size)) := HNs5.out.on (hb)
      clear HBs5 HCs5 HAs5 HNs5
      clear hb
      have CR : Hid (Calls _ _ _ _ _) := trim_no (ptr1 wr.heap.size) fl w6 HN6.out
      go_wp2_with fail
      refine CR.out.mono ?_
      rintro e w7 ⟨rfl, hb⟩
      clear CR
      have HB7 : Hid (Below w.heap.size w w7) := HB6.out.trans ((hb).mono HB6.out.size)
      have HC7 : Hid (Blk w7 w.heap.size #[.int .u64 (cs : Nat), .slice q0 m0 d0, .slice q1 m1 d1, .slice q2 m2 d2] 45) := HC6.out.on (hb)
      have HA7 : Hid (Blk w7 (w.heap.size + 1) #[.int .u64 (fr : Nat), .slice p0 n0 c0, .slice p1 n1 c1, .slice p2 n2 c2, .int .i64 lv] 29) := HA6.out.on (hb)
      have HN7 : Hid (Nob w7 (ptr1 wr.heap.size)) := HN6.out.on (hb)
      clear HB6 HC6 HA6 HN6
      clear hb
      have CR : Hid (Calls _ _ _ _ _) := stamps_no (ptr1 wr.heap.size) w7 HN7.out
      go_wp2_with fail
      refine CR.out.mono ?_
      rintro e w8 ⟨rfl, hb⟩
      clear CR
      have HB8 : Hid (Below w.heap.size w w8) := HB7.out.trans ((hb).mono HB7.out.size)
      have HC8 : Hid (Blk w8 w.heap.size #[.int .u64 (cs : Nat), .slice q0 m0 d0, .slice q1 m1 d1, .slice q2 m2 d2] 45) := HC7.out.on (hb)
      have HA8 : Hid (Blk w8 (w.heap.size + 1) #[.int .u64 (fr : Nat), .slice p0 n0 c0, .slice p1 n1 c1, .slice p2 n2 c2, .int .i64 lv] 29) := HA7.out.on (hb)
      have HN8 : Hid (Nob w8 (ptr1 wr.heap.size)) := HN7.out.on (hb)
      clear HB7 HC7 HA7 HN7
      clear hb
      go_wp2_with fail
      go_roundw
      case rel => exact ⟨2, by omega, by go_num, HB8, HC8, HA8⟩
      case measure => simp [intOf]
    · rw [show ((2 : Nat) : Int) = 2 from rfl]
      have CW : Hid (Calls _ _ _ _ _) := awake18_any wr
      go_wp2_with fail
      refine CW.out.mono ?_
      rintro e w3 ⟨rfl, hb⟩
      have HE : Hid (Below w.heap.size w w3) := HB.out.trans (hb.mono HB.out.size)
      clear hb CW
      go_wp2_with fail
      go_ret
      exact ⟨rfl, HE.out⟩

end Go.Proofs.YtcknhjabdjbjiabGreat
