/- What the proofs of this seat share: feet, opened. What the proofs of this seat share: commits and attempts, opened. -/
import Derived.WalkLawsBesides
import Derived.JoinedOf
import Derived.Handed
import Derived.Test.YtcknhjabdjbjiabGreatGFOpen
import Derived.Test.YtcknhjabdjbjiabGreatGWCl10
namespace Go.Proofs.YtcknhjabdjbjiabGreat
open Go.ChangeShapes Go.WideShapes Go.ChangeAt Go.RowKit Go.Joins Go.Deep
set_option maxRecDepth 100000

theorem own : ownKnob Tryz.prog.godebug = none := by kernel_rfl
theorem laidOut : laidOutB Tryz.prog = true := by kernel_rfl
theorem cellsPt : Tryz.prog.cellsOf 36 = 3 := by kernel_rfl
theorem bytesPt : Tryz.prog.bytesOf 36 = 32 := by kernel_rfl
theorem cellsSp : Tryz.prog.cellsOf 86 = 5 := by kernel_rfl
theorem bytesSp : Tryz.prog.bytesOf 86 = 56 := by kernel_rfl
theorem cellsFt : Tryz.prog.cellsOf 27 = 3 := by kernel_rfl
theorem cellsRg : Tryz.prog.cellsOf 84 = 3 := by kernel_rfl
theorem cellsI : Tryz.prog.cellsOf 3 = 1 := by kernel_rfl
theorem cellsS : Tryz.prog.cellsOf 9 = 1 := by kernel_rfl
theorem cellsB : Tryz.prog.cellsOf 4 = 1 := by kernel_rfl
theorem cellsLP : Tryz.prog.cellsOf 24 = 1 := by kernel_rfl
theorem cellsLS : Tryz.prog.cellsOf 25 = 1 := by kernel_rfl

theorem openPtT {H : Type} {enc : TypeId × Value → H} {W : World} {fuel : Nat} {cs : List Value} {x : DataW H × List MemPlace} (h : DataW.trod enc Tryz.prog W 0 (fun _ => true) true fuel 36 cs = some x) :
    ∃ a : Pt, cs = [.int .i64 a.t, .int .i64 a.i, .string a.k] := by
  obtain ⟨y0, y1, y2, n, hx, hl, h0, h1, h2⟩ := trod_struct3 Tryz.underlying36 h
  rw [cellsPt] at hl
  match cs, hl with
  | [c0, c1, c2], _ =>
    obtain ⟨k0, e0, _⟩ := DataW.trod_int Tryz.underlying3 h0
    obtain ⟨k1, e1, _⟩ := DataW.trod_int Tryz.underlying3 h1
    obtain ⟨s2, e2, _⟩ := DataW.trod_string Tryz.underlying9 h2
    simp [cellsI, cellsS] at e0 e1 e2
    subst e0 e1 e2
    exact ⟨⟨k0, k1, s2⟩, rfl⟩
theorem openSpT {H : Type} {enc : TypeId × Value → H} {W : World} {fuel : Nat} {cs : List Value} {x : DataW H × List MemPlace} (h : DataW.trod enc Tryz.prog W 0 (fun _ => true) true fuel 86 cs = some x) :
    ∃ a : Sp, cs = [.int .i64 a.t, .int .i64 a.i, .string a.lo, .string a.hi, .bool a.op] := by
  obtain ⟨y0, y1, y2, n, hx, hl, h0, h1, h2⟩ := trod_struct3 Tryz.underlying86 h
  rw [cellsSp] at hl
  match cs, hl with
  | [c0, c1, c2, c3, c4], _ =>
    obtain ⟨k0, e0, _⟩ := DataW.trod_int Tryz.underlying3 h0
    obtain ⟨k1, e1, _⟩ := DataW.trod_int Tryz.underlying3 h1
    obtain ⟨z0, z1, z2, n', _, _, g0, g1, g2⟩ := trod_struct3 Tryz.underlying84 h2
    obtain ⟨s0, e2, _⟩ := DataW.trod_string Tryz.underlying9 g0
    obtain ⟨s1, e3, _⟩ := DataW.trod_string Tryz.underlying9 g1
    obtain ⟨b2, e4, _⟩ := DataW.trod_bool Tryz.underlying4 g2
    simp [cellsI, cellsS, cellsB, cellsRg] at e0 e1 e2 e3 e4
    subst e0 e1 e2 e3 e4
    exact ⟨⟨k0, k1, s0, s1, b2⟩, rfl⟩
theorem openPts {H : Type} {enc : TypeId × Value → H} {W : World} {fuel : Nat} {cs : List Value} {x : DataW H × List MemPlace} (h : DataW.trod enc Tryz.prog W 0 (fun _ => true) true fuel 24 cs = some x) (hr : Reach Tryz.prog 24 x.1) :
    ∃ (L : List Pt) (v : Value), cs = [v] ∧ SlP W v L ∧ L.length ≤ 4398046511104 := by
  obtain ⟨L, q, c, e, hl, hb, hq, he⟩ := openList (⟨0, 0, ⟨#[]⟩⟩ : Pt) (fun cs a => cs = [.int .i64 a.t, .int .i64 a.i, .string a.k]) Tryz.underlying24 cellsPt (by decide)
    (fun n cs' y hy _ => openPtT hy) h hr
  rw [bytesPt] at hb
  simp only [reachBytes] at hb
  refine ⟨L, _, e, ⟨q, c, rfl, hl, hq, fun i hi => ?_⟩, by omega⟩
  obtain ⟨b, o, e, hlt, cs', rfl, _, hc⟩ := he i hi
  exact ⟨b, o, e, hlt, hc 0 (by decide), hc 1 (by decide), hc 2 (by decide)⟩
theorem openSps {H : Type} {enc : TypeId × Value → H} {W : World} {fuel : Nat} {cs : List Value} {x : DataW H × List MemPlace} (h : DataW.trod enc Tryz.prog W 0 (fun _ => true) true fuel 25 cs = some x) (hr : Reach Tryz.prog 25 x.1) :
    ∃ (L : List Sp) (v : Value), cs = [v] ∧ SlS W v L ∧ L.length ≤ 2513169434916 := by
  obtain ⟨L, q, c, e, hl, hb, hq, he⟩ := openList (⟨0, 0, ⟨#[]⟩, ⟨#[]⟩, false⟩ : Sp) (fun cs a => cs = [.int .i64 a.t, .int .i64 a.i, .string a.lo, .string a.hi, .bool a.op]) Tryz.underlying25 cellsSp (by decide)
    (fun n cs' y hy _ => openSpT hy) h hr
  rw [bytesSp] at hb
  simp only [reachBytes] at hb
  refine ⟨L, _, e, ⟨q, c, rfl, hl, hq, fun i hi => ?_⟩, by omega⟩
  obtain ⟨b, o, e, hlt, cs', rfl, _, hc⟩ := he i hi
  exact ⟨b, o, e, hlt, hc 0 (by decide), hc 1 (by decide), hc 2 (by decide), hc 3 (by decide), hc 4 (by decide)⟩
theorem openFoot {H : Type} {enc : TypeId × Value → H} {W : World} {b0 : Nat} {v : Value} {d : DataW H} {p : List MemPlace}
    (hv : Value.okWide Tryz.prog W .any b0 27 v) (h : DataW.Trod enc Tryz.prog W 0 (fun _ => true) true 27 v d p) (hr : Reach Tryz.prog 27 d) :
    ∃ (a : Ft) (v0 v1 v2 : Value), v = .agg #[v0, v1, v2] ∧ RdF W v0 v1 v2 a := by
  obtain ⟨cs, rfl, hsz⟩ := okWide_struct Tryz.underlying27 hv
  obtain ⟨fuel, hf⟩ := h
  obtain ⟨y0, y1, y2, n, hx, hl, h0, h1, h2⟩ := trod_struct3 Tryz.underlying27 hf
  simp only [Prod.mk.injEq] at hx
  obtain ⟨rfl, _⟩ := hx
  rw [cellsFt] at hsz
  obtain ⟨cs⟩ := cs
  match cs, hsz with
  | [c0, c1, c2], _ =>
    obtain ⟨P, v0, e0, hP, lP⟩ := openPts h0 (hr.part Tryz.underlying27 (j := 0) (u := 24) (d := y0.1) rfl rfl)
    obtain ⟨S, v1, e1, hS, lS⟩ := openSps h1 (hr.part Tryz.underlying27 (j := 1) (u := 25) (d := y1.1) rfl rfl)
    obtain ⟨Q, v2, e2, hQ, lQ⟩ := openPts h2 (hr.part Tryz.underlying27 (j := 2) (u := 24) (d := y2.1) rfl rfl)
    simp [Value.cells, cellsLP, cellsLS] at e0 e1 e2
    subst e0 e1 e2
    exact ⟨⟨P, S, Q⟩, _, _, _, rfl, hP, hS, hQ, lP, lS, lQ⟩
theorem openPoint {H : Type} {enc : TypeId × Value → H} {W : World} {b0 : Nat} {v : Value} {d : DataW H} {p : List MemPlace}
    (hv : Value.okWide Tryz.prog W .any b0 36 v) (h : DataW.Trod enc Tryz.prog W 0 (fun _ => true) true 36 v d p) : ∃ x : Pt, v = PV x := by
  obtain ⟨cs, rfl, hsz⟩ := okWide_struct Tryz.underlying36 hv
  obtain ⟨fuel, hf⟩ := h
  obtain ⟨cs⟩ := cs
  obtain ⟨x, e⟩ := openPtT hf
  simp [Value.cells] at e
  subst e
  exact ⟨x, rfl⟩

end Go.Proofs.YtcknhjabdjbjiabGreat

namespace Go.Proofs.YtcknhjabdjbjiabGreat
open Go.ChangeShapes Go.WideShapes Go.ChangeAt Go.RowKit Go.Joins Go.Deep
set_option maxRecDepth 100000

theorem cellsU : Tryz.prog.cellsOf 23 = 1 := by kernel_rfl
theorem cellsAt : Tryz.prog.cellsOf 29 = 5 := by kernel_rfl
theorem okU64 {H : Type} {enc : TypeId × Value → H} {W : World} {b0 : Nat} {v : Value} {d : DataW H} {p : List MemPlace}
    (hv : Value.okWide Tryz.prog W .any b0 23 v) (h : DataW.Trod enc Tryz.prog W 0 (fun _ => true) true 23 v d p) : ∃ n : Nat, v = .int .u64 (n : Int) ∧ n < 18446744073709551616 := by
  obtain ⟨n, rfl⟩ := okWide_int Tryz.underlying23 hv
  obtain ⟨fuel, hf⟩ := h
  obtain ⟨k, e0, _, hw⟩ := DataW.trod_int Tryz.underlying23 hf
  simp [Value.cells] at e0
  subst e0
  simp only [Lit.wf, Bool.and_eq_true, decide_eq_true_eq] at hw
  have h1 : (0 : Int) ≤ n := hw.1
  have h2 : n ≤ (18446744073709551615 : Int) := hw.2
  exact ⟨n.toNat, by rw [Int.toNat_of_nonneg h1], by omega⟩
theorem openU {H : Type} {enc : TypeId × Value → H} {W : World} {fuel : Nat} {cs : List Value} {x : DataW H × List MemPlace} (h : DataW.trod enc Tryz.prog W 0 (fun _ => true) true fuel 23 cs = some x) : ∃ n : Nat, cs = [.int .u64 (n : Int)] ∧ n < 18446744073709551616 := by
  obtain ⟨k, e0, _, hw⟩ := DataW.trod_int Tryz.underlying23 h
  simp only [Lit.wf, Bool.and_eq_true, decide_eq_true_eq] at hw
  have h1 : (0 : Int) ≤ k := hw.1
  have h2 : k ≤ (18446744073709551615 : Int) := hw.2
  exact ⟨k.toNat, by rw [e0, Int.toNat_of_nonneg h1], by omega⟩
theorem openFtT {H : Type} {enc : TypeId × Value → H} {W : World} {fuel : Nat} {cs : List Value} {x : DataW H × List MemPlace} (h : DataW.trod enc Tryz.prog W 0 (fun _ => true) true fuel 27 cs = some x) (hr : Reach Tryz.prog 27 x.1) :
    ∃ (a : Ft) (v0 v1 v2 : Value), cs = [v0, v1, v2] ∧ RdF W v0 v1 v2 a := by
  obtain ⟨y0, y1, y2, n, hx, hl, h0, h1, h2⟩ := trod_struct3 Tryz.underlying27 h
  subst hx
  rw [cellsFt] at hl
  match cs, hl with
  | [c0, c1, c2], _ =>
    obtain ⟨P, v0, e0, hP, lP⟩ := openPts h0 (hr.part Tryz.underlying27 (j := 0) (u := 24) (d := y0.1) rfl rfl)
    obtain ⟨S, v1, e1, hS, lS⟩ := openSps h1 (hr.part Tryz.underlying27 (j := 1) (u := 25) (d := y1.1) rfl rfl)
    obtain ⟨Q, v2, e2, hQ, lQ⟩ := openPts h2 (hr.part Tryz.underlying27 (j := 2) (u := 24) (d := y2.1) rfl rfl)
    simp [cellsLP, cellsLS] at e0 e1 e2
    subst e0 e1 e2
    exact ⟨⟨P, S, Q⟩, _, _, _, rfl, hP, hS, hQ, lP, lS, lQ⟩

theorem cellsCm : Tryz.prog.cellsOf 45 = 4 := by kernel_rfl
theorem openCmT {H : Type} {enc : TypeId × Value → H} {W : World} {fuel : Nat} {cs : List Value} {x : DataW H × List MemPlace} (h : DataW.trod enc Tryz.prog W 0 (fun _ => true) true fuel 45 cs = some x) (hr : Reach Tryz.prog 45 x.1) :
    ∃ (s : Nat) (a : Ft) (v0 v1 v2 : Value), cs = [.int .u64 (s : Int), v0, v1, v2] ∧ s < 18446744073709551616 ∧ RdF W v0 v1 v2 a := by
  obtain ⟨y0, y1, n, hx, hl, h0, h1⟩ := trod_struct2 Tryz.underlying45 h
  subst hx
  rw [cellsCm] at hl
  match cs, hl with
  | [c0, c1, c2, c3], _ =>
    obtain ⟨s, e0, hs⟩ := openU h0
    obtain ⟨a, v0, v1, v2, e1, ha⟩ := openFtT h1 (hr.part Tryz.underlying45 (j := 1) (u := 27) (d := y1.1) rfl rfl)
    simp [cellsU, cellsFt] at e0 e1
    obtain ⟨rfl, rfl, rfl⟩ := e1
    subst e0
    exact ⟨s, a, _, _, _, rfl, hs, ha⟩
theorem openCommit {H : Type} {enc : TypeId × Value → H} {W : World} {b0 : Nat} {v : Value} {d : DataW H} {p : List MemPlace}
    (hv : Value.okWide Tryz.prog W .any b0 45 v) (h : DataW.Trod enc Tryz.prog W 0 (fun _ => true) true 45 v d p) (hr : Reach Tryz.prog 45 d) :
    ∃ (s : Nat) (a : Ft) (v0 v1 v2 : Value), v = .agg #[.int .u64 (s : Int), v0, v1, v2] ∧ s < 18446744073709551616 ∧ RdF W v0 v1 v2 a := by
  obtain ⟨cs, rfl, hsz⟩ := okWide_struct Tryz.underlying45 hv
  obtain ⟨fuel, hf⟩ := h
  obtain ⟨s, a, v0, v1, v2, e, hs, ha⟩ := openCmT hf hr
  obtain ⟨cs⟩ := cs
  simp [Value.cells] at e
  subst e
  exact ⟨s, a, v0, v1, v2, rfl, hs, ha⟩

theorem openAtT {H : Type} {enc : TypeId × Value → H} {W : World} {fuel : Nat} {cs : List Value} {x : DataW H × List MemPlace} (h : DataW.trod enc Tryz.prog W 0 (fun _ => true) true fuel 29 cs = some x) (hr : Reach Tryz.prog 29 x.1) :
    ∃ (s : Nat) (a : Ft) (lv : Int) (v0 v1 v2 : Value), cs = [.int .u64 (s : Int), v0, v1, v2, .int .i64 lv] ∧ s < 18446744073709551616 ∧ RdF W v0 v1 v2 a := by
  obtain ⟨y0, y1, y2, n, hx, hl, h0, h1, h2⟩ := trod_struct3 Tryz.underlying29 h
  subst hx
  rw [cellsAt] at hl
  match cs, hl with
  | [c0, c1, c2, c3, c4], _ =>
    obtain ⟨s, e0, hs⟩ := openU h0
    obtain ⟨a, v0, v1, v2, e1, ha⟩ := openFtT h1 (hr.part Tryz.underlying29 (j := 1) (u := 27) (d := y1.1) rfl rfl)
    obtain ⟨lv, e2, _⟩ := DataW.trod_int Tryz.underlying3 h2
    simp [cellsU, cellsFt, cellsI] at e0 e1 e2
    obtain ⟨rfl, rfl, rfl⟩ := e1
    subst e0 e2
    exact ⟨s, a, lv, _, _, _, rfl, hs, ha⟩
theorem openAttempt {H : Type} {enc : TypeId × Value → H} {W : World} {b0 : Nat} {v : Value} {d : DataW H} {p : List MemPlace}
    (hv : Value.okWide Tryz.prog W .any b0 29 v) (h : DataW.Trod enc Tryz.prog W 0 (fun _ => true) true 29 v d p) (hr : Reach Tryz.prog 29 d) :
    ∃ (s : Nat) (a : Ft) (lv : Int) (v0 v1 v2 : Value), v = .agg #[.int .u64 (s : Int), v0, v1, v2, .int .i64 lv] ∧ s < 18446744073709551616 ∧ RdF W v0 v1 v2 a := by
  obtain ⟨cs, rfl, hsz⟩ := okWide_struct Tryz.underlying29 hv
  obtain ⟨fuel, hf⟩ := h
  obtain ⟨s, a, lv, v0, v1, v2, e, hs, ha⟩ := openAtT hf hr
  obtain ⟨cs⟩ := cs
  simp [Value.cells] at e
  subst e
  exact ⟨s, a, lv, v0, v1, v2, rfl, hs, ha⟩

end Go.Proofs.YtcknhjabdjbjiabGreat
