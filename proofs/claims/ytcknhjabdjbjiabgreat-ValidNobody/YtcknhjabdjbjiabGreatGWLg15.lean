/- awake: a read of what was written later meets it. Logs that nobody made. -/
import Derived.Test.YtcknhjabdjbjiabGreatGWLg11
import Derived.Test.YtcknhjabdjbjiabGreatGWLg12
namespace Go.Proofs.YtcknhjabdjbjiabGreat
open Go.RowKit
set_option maxRecDepth 100000

def pK : Pt := ⟨1, -1, ⟨#[107]⟩⟩
theorem SlP.oneK {w : World} {b : Nat} (h : Blk w b #[.int .i64 1, .int .i64 (-1), .string ⟨#[107]⟩] 36) : SlP w (.slice (some ⟨b, 0, none⟩) 1 1) [pK] :=
  ⟨some ⟨b, 0, none⟩, 1, rfl, Nat.le_refl _, (fun h => by cases h), fun i hi => by
    have hi0 : i = 0 := by simpa using hi
    subst hi0
    exact ⟨b, 0, rfl, h.lt, h.cell rfl, h.cell rfl, h.cell rfl⟩⟩
theorem SlP.nil18 (w : World) : SlP w (.slice none 0 0) [] := ⟨none, 0, rfl, Nat.le_refl _, fun _ => rfl, fun i hi => absurd hi (by simp)⟩
theorem SlS.nil18 (w : World) : SlS w (.slice none 0 0) [] := ⟨none, 0, rfl, Nat.le_refl _, fun _ => rfl, fun i hi => absurd hi (by simp)⟩
theorem Frm.lowB {w w' : World} {B : Nat} (h : Frm w w' (FB B w)) (hB : B ≤ w.heap.size) : Below B w w' := h.below hB (fun _ hk => hk.1)
set_option maxHeartbeats 4000000 in
theorem awake18_any (w : World) : Calls Tryz.prog 8 #[] w fun e w' => e = .returned (.bool true) ∧ Below w.heap.size w w' := by
  have CN : Hid (Calls _ _ _ _ _) := newLog_any w
  go_enter Tryz.func8, Tryz.ntmps8
  go_wp2_with fail
  refine CN.out.mono ?_
  rintro e w1 ⟨lb, vC, mb, E, rfl, hX1, hb1⟩
  clear CN
  obtain ⟨w2, hw2⟩ : ∃ w2, w1.alloc (.cells #[.int .i64 1, .int .i64 (-1), .string ⟨#[107]⟩] 36) = w2 := ⟨_, rfl⟩
  have hal : Below w1.heap.size w1 w2 := by rw [← hw2]; exact (Below.refl _ _).alloc (Nat.le_refl _) _
  have HX2 : Hid (LogO w2 w.heap.size lb vC mb E []) := hX1.on hal
  have HB2 : Hid (Below w.heap.size w w2) := hb1.trans (hal.mono hb1.size)
  have HK2 : Hid (Blk w2 w1.heap.size #[.int .i64 1, .int .i64 (-1), .string ⟨#[107]⟩] 36) := by rw [← hw2]; exact Blk.new w1 _ _
  have CT : Hid (Calls _ _ _ _ _) := note_any ⟨[], [], [pK]⟩ _ _ _ w.heap.size lb 5 vC mb E [] w2 HX2.out ⟨SlP.nil18 _, SlS.nil18 _, SlP.oneK HK2.out, by simp, by simp, by simp⟩ (by omega)
  clear hal hX1 hb1
  go_wp2_with fail
  refine CT.out.mono ?_
  rintro e w3 ⟨rfl, vC', E', L', hX3, hN3, hF3⟩
  clear CT hw2
  have hn0 : noteE ⟨[], [], [pK]⟩ 5 (lastC []) ([] : List Cm).length = 0 := by decide
  obtain ⟨c, rfl, hcs, hcW⟩ := hN3.2 hn0
  rw [hn0]
  have HX3 : Hid (LogO w3 w.heap.size lb vC' mb E' ([] ++ [c])) := hX3
  have HB3 : Hid (Below w.heap.size w w3) := HB2.out.trans (hF3.lowB HB2.out.size)
  have HK3 : Hid (Blk w3 w1.heap.size #[.int .i64 1, .int .i64 (-1), .string ⟨#[107]⟩] 36) := (FB.other hF3 HK2.out (by decide)).trans HK2.out
  have HW : Hid (c.s = 5 ∧ ∀ x, x ∈ c.W ↔ x ∈ [pK]) := ⟨hcs, hcW⟩
  clear hn0 hN3 hF3 hX3 HX2 HB2 HK2 hcs hcW
  have CR : Hid (Calls _ _ _ _ _) := read_any ⟨[pK], [], []⟩ _ _ _ lb 4 vC' mb _ _ w3 HX3.out.x ⟨SlP.oneK HK3.out, SlS.nil18 _, SlP.nil18 _, by simp, by simp, by simp⟩ (by omega)
  go_wp2_with fail
  refine CR.out.mono ?_
  rintro e w4 ⟨q, rfl, hq, hb4⟩
  clear CR
  have hq4 := hq.ok (by decide)
  cases q with
  | none => exact absurd (Or.inl (List.mem_singleton.2 rfl)) (hq4 c (by simp) (by have := HW.out.1; omega) pK ((HW.out.2 pK).2 (by simp)))
  | some q =>
    obtain ⟨m, x⟩ := q
    obtain ⟨wb, hwb⟩ : ∃ wb, w4.alloc (.cells #[.int .u64 (m : Nat), .int .i64 x.t, .int .i64 x.i, .string x.k] 38) = wb := ⟨_, rfl⟩
    have hal : Below w3.heap.size w3 wb := by rw [← hwb]; exact hb4.trans ((Below.refl _ _).alloc hb4.size _)
    have HXb : Hid (LogO wb w.heap.size lb vC' mb E' ([] ++ [c])) := HX3.out.on hal
    have HBb : Hid (Below w.heap.size w wb) := HB3.out.trans (hal.mono HB3.out.size)
    have HKb : Hid (Blk wb w1.heap.size #[.int .i64 1, .int .i64 (-1), .string ⟨#[107]⟩] 36) := HK3.out.on hal
    have CR : Hid (Calls _ _ _ _ _) := read_any ⟨[pK], [], []⟩ _ _ _ lb 5 vC' mb _ _ wb HXb.out.x ⟨SlP.oneK HKb.out, SlS.nil18 _, SlP.nil18 _, by simp, by simp, by simp⟩ (by omega)
    clear hal hq hq4 hb4 HX3 HB3 HK3
    dsimp only [clV]
    go_wp2_with fail
    refine CR.out.mono ?_
    rintro e w5 ⟨q, rfl, hq, hb5⟩
    clear CR hwb
    have hq4 := hq.ok (by decide)
    have hqn : q = none := by
      cases q with
      | none => rfl
      | some q =>
        obtain ⟨c', hc', e1, h1, -⟩ := hq4
        have e2 : c' = c := by simpa using hc'
        subst e2
        have := HW.out.1
        omega
    subst hqn
    have HB5 : Hid (Below w.heap.size w w5) := HBb.out.trans (hb5.mono HBb.out.size)
    obtain ⟨wc, hwc⟩ : ∃ wc, w5.alloc (.cells #[.int .u64 0, .int .i64 0, .int .i64 0, .string ⟨#[]⟩] 38) = wc := ⟨_, rfl⟩
    have HKc : Hid (Blk wc w5.heap.size #[.int .u64 0, .int .i64 0, .int .i64 0, .string ⟨#[]⟩] 38) := by rw [← hwc]; exact Blk.new w5 _ _
    have HBc : Hid (Below w.heap.size w wc) := by rw [← hwc]; exact HB5.out.alloc HB5.out.size _
    have y0 := HKc.out.cell (i := 0) rfl
    have y1 := HKc.out.cell (i := 1) rfl
    have y2 := HKc.out.cell (i := 2) rfl
    have y3 := HKc.out.cell (i := 3) rfl
    have g0 := HKc.out.frozen 0
    have g1 := HKc.out.frozen 1
    have g2 := HKc.out.frozen 2
    have g3 := HKc.out.frozen 3
    have HE : Hid (Below w.heap.size w ((((wc.setCell ⟨w5.heap.size, 0, none⟩ (.int .u64 0)).setCell ⟨w5.heap.size, 1, none⟩ (.int .i64 0)).setCell ⟨w5.heap.size, 2, none⟩ (.int .i64 0)).setCell ⟨w5.heap.size, 3, none⟩ (.string ⟨#[]⟩))) := HBc.out.trans ((set4 HKc.out).2.below HBc.out.size (fun k hk => by have := HB5.out.size; omega))
    clear hq hq4 hb5 HXb HBb HKb
    dsimp only [clV]
    go_wp2_with fail
    go_ret
    exact ⟨rfl, HE.out⟩

end Go.Proofs.YtcknhjabdjbjiabGreat

namespace Go.Proofs.YtcknhjabdjbjiabGreat
open Go.RowKit
set_option maxRecDepth 100000

/-- a Log that New did not give -/
def Nob (w : World) (v : Value) : Prop := v = .pointer none ∨ ∃ lb, v = ptr1 lb ∧ Blk w lb #[.pointer none, .slice none 0 0, .map none] 49
theorem Nob.on {w w' : World} {v : Value} (h : Nob w v) (hb : Below w.heap.size w w') : Nob w' v := by
  rcases h with h | ⟨lb, h1, h2⟩
  · exact .inl h
  · exact .inr ⟨lb, h1, h2.on hb⟩
theorem run_eql_nil_ptr (w : World) (a : Addr) : (binOp .eql 31 (.pointer none) (.pointer (some a))).run Tryz.prog w = .ok (.bool false) w := by
  have h : ∀ d : Nat, (Op.equalIn (d + 1) 31 (.pointer none) (.pointer (some a))).run Tryz.prog w = .ok false w := fun d => by
    simp [Op.equalIn, run_underlying Tryz.underlying31]
  simp only [binOp]
  simp [Op.equal, Op.maxDepth, h 9999]
theorem given_no (v : Value) (w : World) (h : Nob w v) :
    Calls Tryz.prog 19 #[v] w fun e w' => e = .returned (.bool false) ∧ w' = w := by
  rcases h with rfl | ⟨lb, rfl, h⟩
  · go_enter Tryz.func19, Tryz.ntmps19
    go_wp2_with fail
    go_ret
    exact ⟨rfl, rfl⟩
  · have c0 : w.cell? ⟨lb, 0, none⟩ = some (.pointer none) := h.cell rfl
    have c1 := run_eql_nil_ptr w ⟨lb, 0, none⟩
    clear h
    go_enter Tryz.func19, Tryz.ntmps19
    go_wp2_with fail
    go_ret
    exact ⟨rfl, rfl⟩
set_option maxHeartbeats 2000000 in
theorem read_no (v : Value) (p0 p1 p2 : Option Addr) (n0 n1 n2 c0 c1 c2 : Nat) (fr : Nat) (w : World) (h : Nob w v) :
    Calls Tryz.prog 9 #[v, .agg #[.slice p0 n0 c0, .slice p1 n1 c1, .slice p2 n2 c2], .int .u64 (fr : Nat)] w fun e w' => e = .returned (clV none) ∧ Below w.heap.size w w' := by
  obtain ⟨w2, hw2⟩ : ∃ w2, ((w.alloc (.cells #[.slice p0 n0 c0, .slice p1 n1 c1, .slice p2 n2 c2] 27)).alloc (.cells #[.int .u64 0, .int .i64 0, .int .i64 0, .string ⟨#[]⟩] 38)) = w2 := ⟨_, rfl⟩
  have HB2 : Hid (Below w.heap.size w w2) := by rw [← hw2]; exact ((Below.refl _ _).alloc (Nat.le_refl _) _).alloc (by simp) _
  have CG : Hid (Calls _ _ _ _ _) := given_no v w2 (h.on HB2.out)
  clear h
  have HKB : Hid (Blk w2 (w.heap.size + 1) #[.int .u64 0, .int .i64 0, .int .i64 0, .string ⟨#[]⟩] 38) := by
    rw [← hw2]
    have h := Blk.new (w.alloc (.cells #[.slice p0 n0 c0, .slice p1 n1 c1, .slice p2 n2 c2] 27)) #[.int .u64 0, .int .i64 0, .int .i64 0, .string ⟨#[]⟩] 38
    rw [World.size_alloc] at h
    exact h
  go_enter Tryz.func9, Tryz.ntmps9
  go_wp2_with fail
  refine CG.out.mono ?_
  rintro e w3 ⟨rfl, hw3⟩
  obtain rfl := hw3.symm
  clear CG hw2
  have z0 := HKB.out.cell (i := 0) rfl
  have f0 := HKB.out.frozen 0
  have z1 := HKB.out.cell (i := 1) rfl
  have f1 := HKB.out.frozen 1
  have z2 := HKB.out.cell (i := 2) rfl
  have f2 := HKB.out.frozen 2
  have z3 := HKB.out.cell (i := 3) rfl
  have f3 := HKB.out.frozen 3
  have H4 : Hid (Blk ((((w2.setCell ⟨w.heap.size + 1, 0, none⟩ (.int .u64 0)).setCell ⟨w.heap.size + 1, 1, none⟩ (.int .i64 0)).setCell ⟨w.heap.size + 1, 2, none⟩ (.int .i64 0)).setCell ⟨w.heap.size + 1, 3, none⟩ (.string ⟨#[]⟩)) (w.heap.size + 1) #[.int .u64 0, .int .i64 0, .int .i64 0, .string ⟨#[]⟩] 38 ∧ Frm w2 ((((w2.setCell ⟨w.heap.size + 1, 0, none⟩ (.int .u64 0)).setCell ⟨w.heap.size + 1, 1, none⟩ (.int .i64 0)).setCell ⟨w.heap.size + 1, 2, none⟩ (.int .i64 0)).setCell ⟨w.heap.size + 1, 3, none⟩ (.string ⟨#[]⟩)) (fun k => k = w.heap.size + 1)) := set4 HKB.out
  have HE4 : Hid (Below w.heap.size w ((((w2.setCell ⟨w.heap.size + 1, 0, none⟩ (.int .u64 0)).setCell ⟨w.heap.size + 1, 1, none⟩ (.int .i64 0)).setCell ⟨w.heap.size + 1, 2, none⟩ (.int .i64 0)).setCell ⟨w.heap.size + 1, 3, none⟩ (.string ⟨#[]⟩))) := HB2.out.trans (H4.out.2.below HB2.out.size (fun k hk => by omega))
  go_wp2_with fail
  clear z0 z1 z2 z3 f0 f1 f2 f3
  generalize (((w2.setCell ⟨w.heap.size + 1, 0, none⟩ (.int .u64 0)).setCell ⟨w.heap.size + 1, 1, none⟩ (.int .i64 0)).setCell ⟨w.heap.size + 1, 2, none⟩ (.int .i64 0)).setCell ⟨w.heap.size + 1, 3, none⟩ (.string ⟨#[]⟩) = wz at *
  have r0 := H4.out.1.cell (i := 0) rfl
  have r1 := H4.out.1.cell (i := 1) rfl
  have r2 := H4.out.1.cell (i := 2) rfl
  have r3 := H4.out.1.cell (i := 3) rfl
  refine bodyPost_ret (v := clV none) (by simp [clV, results, Tryz.results9, go_sem, r0, r1, r2, r3]) rfl ?_
  exact ⟨rfl, HE4.out⟩
set_option maxHeartbeats 2000000 in
theorem wrote_no (v : Value) (p0 p1 p2 : Option Addr) (n0 n1 n2 c0 c1 c2 : Nat) (fr : Nat) (w : World) (h : Nob w v) :
    Calls Tryz.prog 10 #[v, .agg #[.slice p0 n0 c0, .slice p1 n1 c1, .slice p2 n2 c2], .int .u64 (fr : Nat)] w fun e w' => e = .returned (clV none) ∧ Below w.heap.size w w' := by
  obtain ⟨w2, hw2⟩ : ∃ w2, ((w.alloc (.cells #[.slice p0 n0 c0, .slice p1 n1 c1, .slice p2 n2 c2] 27)).alloc (.cells #[.int .u64 0, .int .i64 0, .int .i64 0, .string ⟨#[]⟩] 38)) = w2 := ⟨_, rfl⟩
  have HB2 : Hid (Below w.heap.size w w2) := by rw [← hw2]; exact ((Below.refl _ _).alloc (Nat.le_refl _) _).alloc (by simp) _
  have CG : Hid (Calls _ _ _ _ _) := given_no v w2 (h.on HB2.out)
  clear h
  have HKB : Hid (Blk w2 (w.heap.size + 1) #[.int .u64 0, .int .i64 0, .int .i64 0, .string ⟨#[]⟩] 38) := by
    rw [← hw2]
    have h := Blk.new (w.alloc (.cells #[.slice p0 n0 c0, .slice p1 n1 c1, .slice p2 n2 c2] 27)) #[.int .u64 0, .int .i64 0, .int .i64 0, .string ⟨#[]⟩] 38
    rw [World.size_alloc] at h
    exact h
  go_enter Tryz.func10, Tryz.ntmps10
  go_wp2_with fail
  refine CG.out.mono ?_
  rintro e w3 ⟨rfl, hw3⟩
  obtain rfl := hw3.symm
  clear CG hw2
  have z0 := HKB.out.cell (i := 0) rfl
  have f0 := HKB.out.frozen 0
  have z1 := HKB.out.cell (i := 1) rfl
  have f1 := HKB.out.frozen 1
  have z2 := HKB.out.cell (i := 2) rfl
  have f2 := HKB.out.frozen 2
  have z3 := HKB.out.cell (i := 3) rfl
  have f3 := HKB.out.frozen 3
  have H4 : Hid (Blk ((((w2.setCell ⟨w.heap.size + 1, 0, none⟩ (.int .u64 0)).setCell ⟨w.heap.size + 1, 1, none⟩ (.int .i64 0)).setCell ⟨w.heap.size + 1, 2, none⟩ (.int .i64 0)).setCell ⟨w.heap.size + 1, 3, none⟩ (.string ⟨#[]⟩)) (w.heap.size + 1) #[.int .u64 0, .int .i64 0, .int .i64 0, .string ⟨#[]⟩] 38 ∧ Frm w2 ((((w2.setCell ⟨w.heap.size + 1, 0, none⟩ (.int .u64 0)).setCell ⟨w.heap.size + 1, 1, none⟩ (.int .i64 0)).setCell ⟨w.heap.size + 1, 2, none⟩ (.int .i64 0)).setCell ⟨w.heap.size + 1, 3, none⟩ (.string ⟨#[]⟩)) (fun k => k = w.heap.size + 1)) := set4 HKB.out
  have HE4 : Hid (Below w.heap.size w ((((w2.setCell ⟨w.heap.size + 1, 0, none⟩ (.int .u64 0)).setCell ⟨w.heap.size + 1, 1, none⟩ (.int .i64 0)).setCell ⟨w.heap.size + 1, 2, none⟩ (.int .i64 0)).setCell ⟨w.heap.size + 1, 3, none⟩ (.string ⟨#[]⟩))) := HB2.out.trans (H4.out.2.below HB2.out.size (fun k hk => by omega))
  go_wp2_with fail
  clear z0 z1 z2 z3 f0 f1 f2 f3
  generalize (((w2.setCell ⟨w.heap.size + 1, 0, none⟩ (.int .u64 0)).setCell ⟨w.heap.size + 1, 1, none⟩ (.int .i64 0)).setCell ⟨w.heap.size + 1, 2, none⟩ (.int .i64 0)).setCell ⟨w.heap.size + 1, 3, none⟩ (.string ⟨#[]⟩) = wz at *
  have r0 := H4.out.1.cell (i := 0) rfl
  have r1 := H4.out.1.cell (i := 1) rfl
  have r2 := H4.out.1.cell (i := 2) rfl
  have r3 := H4.out.1.cell (i := 3) rfl
  refine bodyPost_ret (v := clV none) (by simp [clV, results, Tryz.results10, go_sem, r0, r1, r2, r3]) rfl ?_
  exact ⟨rfl, HE4.out⟩
set_option maxHeartbeats 2000000 in
theorem try_no (v : Value) (p0 p1 p2 : Option Addr) (n0 n1 n2 c0 c1 c2 : Nat) (fr : Nat) (lv : Int) (w : World) (h : Nob w v) :
    Calls Tryz.prog 7 #[v, .agg #[.int .u64 (fr : Nat), .slice p0 n0 c0, .slice p1 n1 c1, .slice p2 n2 c2, .int .i64 lv]] w fun e w' => e = .returned (.tuple #[clA none, .int .i64 1]) ∧ Below w.heap.size w w' := by
  obtain ⟨w2, hw2⟩ : ∃ w2, ((w.alloc (.cells #[.int .u64 (fr : Nat), .slice p0 n0 c0, .slice p1 n1 c1, .slice p2 n2 c2, .int .i64 lv] 29)).alloc (.cells #[.int .u64 0, .int .i64 0, .int .i64 0, .string ⟨#[]⟩] 38)) = w2 := ⟨_, rfl⟩
  have HB2 : Hid (Below w.heap.size w w2) := by rw [← hw2]; exact ((Below.refl _ _).alloc (Nat.le_refl _) _).alloc (by simp) _
  have CG : Hid (Calls _ _ _ _ _) := given_no v w2 (h.on HB2.out)
  clear h
  have HKB : Hid (Blk w2 (w.heap.size + 1) #[.int .u64 0, .int .i64 0, .int .i64 0, .string ⟨#[]⟩] 38) := by
    rw [← hw2]
    have h := Blk.new (w.alloc (.cells #[.int .u64 (fr : Nat), .slice p0 n0 c0, .slice p1 n1 c1, .slice p2 n2 c2, .int .i64 lv] 29)) #[.int .u64 0, .int .i64 0, .int .i64 0, .string ⟨#[]⟩] 38
    rw [World.size_alloc] at h
    exact h
  go_enter Tryz.func7, Tryz.ntmps7
  go_wp2_with fail
  refine CG.out.mono ?_
  rintro e w3 ⟨rfl, hw3⟩
  obtain rfl := hw3.symm
  clear CG hw2
  have z0 := HKB.out.cell (i := 0) rfl
  have f0 := HKB.out.frozen 0
  have z1 := HKB.out.cell (i := 1) rfl
  have f1 := HKB.out.frozen 1
  have z2 := HKB.out.cell (i := 2) rfl
  have f2 := HKB.out.frozen 2
  have z3 := HKB.out.cell (i := 3) rfl
  have f3 := HKB.out.frozen 3
  have H4 : Hid (Blk ((((w2.setCell ⟨w.heap.size + 1, 0, none⟩ (.int .u64 0)).setCell ⟨w.heap.size + 1, 1, none⟩ (.int .i64 0)).setCell ⟨w.heap.size + 1, 2, none⟩ (.int .i64 0)).setCell ⟨w.heap.size + 1, 3, none⟩ (.string ⟨#[]⟩)) (w.heap.size + 1) #[.int .u64 0, .int .i64 0, .int .i64 0, .string ⟨#[]⟩] 38 ∧ Frm w2 ((((w2.setCell ⟨w.heap.size + 1, 0, none⟩ (.int .u64 0)).setCell ⟨w.heap.size + 1, 1, none⟩ (.int .i64 0)).setCell ⟨w.heap.size + 1, 2, none⟩ (.int .i64 0)).setCell ⟨w.heap.size + 1, 3, none⟩ (.string ⟨#[]⟩)) (fun k => k = w.heap.size + 1)) := set4 HKB.out
  have HE4 : Hid (Below w.heap.size w ((((w2.setCell ⟨w.heap.size + 1, 0, none⟩ (.int .u64 0)).setCell ⟨w.heap.size + 1, 1, none⟩ (.int .i64 0)).setCell ⟨w.heap.size + 1, 2, none⟩ (.int .i64 0)).setCell ⟨w.heap.size + 1, 3, none⟩ (.string ⟨#[]⟩))) := HB2.out.trans (H4.out.2.below HB2.out.size (fun k hk => by omega))
  go_wp2_with fail
  clear z0 z1 z2 z3 f0 f1 f2 f3
  generalize (((w2.setCell ⟨w.heap.size + 1, 0, none⟩ (.int .u64 0)).setCell ⟨w.heap.size + 1, 1, none⟩ (.int .i64 0)).setCell ⟨w.heap.size + 1, 2, none⟩ (.int .i64 0)).setCell ⟨w.heap.size + 1, 3, none⟩ (.string ⟨#[]⟩) = wz at *
  have r0 := H4.out.1.cell (i := 0) rfl
  have r1 := H4.out.1.cell (i := 1) rfl
  have r2 := H4.out.1.cell (i := 2) rfl
  have r3 := H4.out.1.cell (i := 3) rfl
  refine bodyPost_ret (v := .tuple #[clA none, .int .i64 1]) (by simp [clA, results, Tryz.results7, go_sem, r0, r1, r2, r3]) rfl ?_
  exact ⟨rfl, HE4.out⟩
set_option maxHeartbeats 2000000 in
theorem note_no (v : Value) (p0 p1 p2 : Option Addr) (n0 n1 n2 c0 c1 c2 : Nat) (s : Nat) (w : World) (h : Nob w v) :
    Calls Tryz.prog 11 #[v, .int .u64 (s : Nat), .agg #[.slice p0 n0 c0, .slice p1 n1 c1, .slice p2 n2 c2]] w fun e w' => e = .returned (.int .i64 1) ∧ Below w.heap.size w w' := by
  obtain ⟨w2, hw2⟩ : ∃ w2, (w.alloc (.cells #[.slice p0 n0 c0, .slice p1 n1 c1, .slice p2 n2 c2] 27)) = w2 := ⟨_, rfl⟩
  have HB2 : Hid (Below w.heap.size w w2) := by rw [← hw2]; exact (Below.refl _ _).alloc (Nat.le_refl _) _
  have CG : Hid (Calls _ _ _ _ _) := given_no v w2 (h.on HB2.out)
  clear h
  go_enter Tryz.func11, Tryz.ntmps11
  go_wp2_with fail
  refine CG.out.mono ?_
  rintro e w3 ⟨rfl, hw3⟩
  obtain rfl := hw3.symm
  clear CG hw2
  go_wp2_with fail
  go_ret
  exact ⟨rfl, HB2.out⟩
set_option maxHeartbeats 2000000 in
theorem trim_no (v : Value) (s : Nat) (w : World) (h : Nob w v) :
    Calls Tryz.prog 12 #[v, .int .u64 (s : Nat)] w fun e w' => e = .returned (.int .i64 0) ∧ Below w.heap.size w w' := by
  have CG : Hid (Calls _ _ _ _ _) := given_no v w h
  clear h
  go_enter Tryz.func12, Tryz.ntmps12
  go_wp2_with fail
  refine CG.out.mono ?_
  rintro e w3 ⟨rfl, hw3⟩
  obtain rfl := hw3.symm
  clear CG
  go_wp2_with fail
  go_ret
  exact ⟨rfl, Below.refl _ _⟩
set_option maxHeartbeats 2000000 in
theorem stamps_no (v : Value) (w : World) (h : Nob w v) :
    Calls Tryz.prog 13 #[v] w fun e w' => e = .returned (.slice none 0 0) ∧ Below w.heap.size w w' := by
  have CG : Hid (Calls _ _ _ _ _) := given_no v w h
  clear h
  go_enter Tryz.func13, Tryz.ntmps13
  go_wp2_with fail
  refine CG.out.mono ?_
  rintro e w3 ⟨rfl, hw3⟩
  obtain rfl := hw3.symm
  clear CG
  go_wp2_with fail
  go_ret
  exact ⟨rfl, Below.refl _ _⟩

end Go.Proofs.YtcknhjabdjbjiabGreat
