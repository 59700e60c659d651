/- What the proofs of this seat share: feet, opened. -/
import Derived.Test.YtiiladcihheogaaGreatFOpen
import Derived.Test.YtiiladcihheogaaGreatWCl10
import Derived.WalkLawsBesides
import Derived.JoinedOf
import Derived.Handed
namespace Go.Proofs.YtiiladcihheogaaGreat
open Go.ChangeShapes Go.WideShapes Go.ChangeAt Go.RowKit Go.Joins Go.Deep
set_option maxRecDepth 100000

theorem own : ownKnob Tryz.prog.godebug = none := by kernel_rfl
theorem laidOut : laidOutB Tryz.prog = true := by kernel_rfl
theorem cellsPt : Tryz.prog.cellsOf 38 = 3 := by kernel_rfl
theorem bytesPt : Tryz.prog.bytesOf 38 = 32 := by kernel_rfl
theorem cellsSp : Tryz.prog.cellsOf 42 = 5 := by kernel_rfl
theorem bytesSp : Tryz.prog.bytesOf 42 = 56 := by kernel_rfl
theorem cellsFt : Tryz.prog.cellsOf 25 = 3 := by kernel_rfl
theorem cellsRg : Tryz.prog.cellsOf 40 = 3 := by kernel_rfl
theorem cellsI : Tryz.prog.cellsOf 3 = 1 := by kernel_rfl
theorem cellsS : Tryz.prog.cellsOf 9 = 1 := by kernel_rfl
theorem cellsB : Tryz.prog.cellsOf 4 = 1 := by kernel_rfl
theorem cellsLP : Tryz.prog.cellsOf 22 = 1 := by kernel_rfl
theorem cellsLS : Tryz.prog.cellsOf 23 = 1 := by kernel_rfl

theorem openPtT {H : Type} {enc : TypeId × Value → H} {W : World} {fuel : Nat} {cs : List Value} {x : DataW H × List MemPlace} (h : DataW.trod enc Tryz.prog W 0 (fun _ => true) true fuel 38 cs = some x) :
    ∃ a : Pt, cs = [.int .i64 a.t, .int .i64 a.i, .string a.k] := by
  obtain ⟨y0, y1, y2, n, hx, hl, h0, h1, h2⟩ := trod_struct3 Tryz.underlying38 h
  rw [cellsPt] at hl
  match cs, hl with
  | [c0, c1, c2], _ =>
    obtain ⟨k0, e0, _⟩ := DataW.trod_int Tryz.underlying3 h0
    obtain ⟨k1, e1, _⟩ := DataW.trod_int Tryz.underlying3 h1
    obtain ⟨s2, e2, _⟩ := DataW.trod_string Tryz.underlying9 h2
    simp [cellsI, cellsS] at e0 e1 e2
    subst e0 e1 e2
    exact ⟨⟨k0, k1, s2⟩, rfl⟩
theorem openSpT {H : Type} {enc : TypeId × Value → H} {W : World} {fuel : Nat} {cs : List Value} {x : DataW H × List MemPlace} (h : DataW.trod enc Tryz.prog W 0 (fun _ => true) true fuel 42 cs = some x) :
    ∃ a : Sp, cs = [.int .i64 a.t, .int .i64 a.i, .string a.lo, .string a.hi, .bool a.op] := by
  obtain ⟨y0, y1, y2, n, hx, hl, h0, h1, h2⟩ := trod_struct3 Tryz.underlying42 h
  rw [cellsSp] at hl
  match cs, hl with
  | [c0, c1, c2, c3, c4], _ =>
    obtain ⟨k0, e0, _⟩ := DataW.trod_int Tryz.underlying3 h0
    obtain ⟨k1, e1, _⟩ := DataW.trod_int Tryz.underlying3 h1
    obtain ⟨z0, z1, z2, n', _, _, g0, g1, g2⟩ := trod_struct3 Tryz.underlying40 h2
    obtain ⟨s0, e2, _⟩ := DataW.trod_string Tryz.underlying9 g0
    obtain ⟨s1, e3, _⟩ := DataW.trod_string Tryz.underlying9 g1
    obtain ⟨b2, e4, _⟩ := DataW.trod_bool Tryz.underlying4 g2
    simp [cellsI, cellsS, cellsB, cellsRg] at e0 e1 e2 e3 e4
    subst e0 e1 e2 e3 e4
    exact ⟨⟨k0, k1, s0, s1, b2⟩, rfl⟩
theorem openPts {H : Type} {enc : TypeId × Value → H} {W : World} {fuel : Nat} {cs : List Value} {x : DataW H × List MemPlace} (h : DataW.trod enc Tryz.prog W 0 (fun _ => true) true fuel 22 cs = some x) (hr : Reach Tryz.prog 22 x.1) :
    ∃ (L : List Pt) (v : Value), cs = [v] ∧ SlP W v L ∧ L.length ≤ 4398046511104 := by
  obtain ⟨L, q, c, e, hl, hb, hq, he⟩ := openList (⟨0, 0, ⟨#[]⟩⟩ : Pt) (fun cs a => cs = [.int .i64 a.t, .int .i64 a.i, .string a.k]) Tryz.underlying22 cellsPt (by decide)
    (fun n cs' y hy _ => openPtT hy) h hr
  rw [bytesPt] at hb
  simp only [reachBytes] at hb
  refine ⟨L, _, e, ⟨q, c, rfl, hl, hq, fun i hi => ?_⟩, by omega⟩
  obtain ⟨b, o, e, hlt, cs', rfl, _, hc⟩ := he i hi
  exact ⟨b, o, e, hlt, hc 0 (by decide), hc 1 (by decide), hc 2 (by decide)⟩
theorem openSps {H : Type} {enc : TypeId × Value → H} {W : World} {fuel : Nat} {cs : List Value} {x : DataW H × List MemPlace} (h : DataW.trod enc Tryz.prog W 0 (fun _ => true) true fuel 23 cs = some x) (hr : Reach Tryz.prog 23 x.1) :
    ∃ (L : List Sp) (v : Value), cs = [v] ∧ SlS W v L ∧ L.length ≤ 2513169434916 := by
  obtain ⟨L, q, c, e, hl, hb, hq, he⟩ := openList (⟨0, 0, ⟨#[]⟩, ⟨#[]⟩, false⟩ : Sp) (fun cs a => cs = [.int .i64 a.t, .int .i64 a.i, .string a.lo, .string a.hi, .bool a.op]) Tryz.underlying23 cellsSp (by decide)
    (fun n cs' y hy _ => openSpT hy) h hr
  rw [bytesSp] at hb
  simp only [reachBytes] at hb
  refine ⟨L, _, e, ⟨q, c, rfl, hl, hq, fun i hi => ?_⟩, by omega⟩
  obtain ⟨b, o, e, hlt, cs', rfl, _, hc⟩ := he i hi
  exact ⟨b, o, e, hlt, hc 0 (by decide), hc 1 (by decide), hc 2 (by decide), hc 3 (by decide), hc 4 (by decide)⟩
theorem openFoot {H : Type} {enc : TypeId × Value → H} {W : World} {b0 : Nat} {v : Value} {d : DataW H} {p : List MemPlace}
    (hv : Value.okWide Tryz.prog W .any b0 25 v) (h : DataW.Trod enc Tryz.prog W 0 (fun _ => true) true 25 v d p) (hr : Reach Tryz.prog 25 d) :
    ∃ (a : Ft) (v0 v1 v2 : Value), v = .agg #[v0, v1, v2] ∧ RdF W v0 v1 v2 a := by
  obtain ⟨cs, rfl, hsz⟩ := okWide_struct Tryz.underlying25 hv
  obtain ⟨fuel, hf⟩ := h
  obtain ⟨y0, y1, y2, n, hx, hl, h0, h1, h2⟩ := trod_struct3 Tryz.underlying25 hf
  simp only [Prod.mk.injEq] at hx
  obtain ⟨rfl, _⟩ := hx
  rw [cellsFt] at hsz
  obtain ⟨cs⟩ := cs
  match cs, hsz with
  | [c0, c1, c2], _ =>
    obtain ⟨P, v0, e0, hP, lP⟩ := openPts h0 (hr.part Tryz.underlying25 (j := 0) (u := 22) (d := y0.1) rfl rfl)
    obtain ⟨S, v1, e1, hS, lS⟩ := openSps h1 (hr.part Tryz.underlying25 (j := 1) (u := 23) (d := y1.1) rfl rfl)
    obtain ⟨Q, v2, e2, hQ, lQ⟩ := openPts h2 (hr.part Tryz.underlying25 (j := 2) (u := 22) (d := y2.1) rfl rfl)
    simp [Value.cells, cellsLP, cellsLS] at e0 e1 e2
    subst e0 e1 e2
    exact ⟨⟨P, S, Q⟩, _, _, _, rfl, hP, hS, hQ, lP, lS, lQ⟩
theorem openPoint {H : Type} {enc : TypeId × Value → H} {W : World} {b0 : Nat} {v : Value} {d : DataW H} {p : List MemPlace}
    (hv : Value.okWide Tryz.prog W .any b0 38 v) (h : DataW.Trod enc Tryz.prog W 0 (fun _ => true) true 38 v d p) : ∃ x : Pt, v = PV x := by
  obtain ⟨cs, rfl, hsz⟩ := okWide_struct Tryz.underlying38 hv
  obtain ⟨fuel, hf⟩ := h
  obtain ⟨cs⟩ := cs
  obtain ⟨x, e⟩ := openPtT hf
  simp [Value.cells] at e
  subst e
  exact ⟨x, rfl⟩
end Go.Proofs.YtiiladcihheogaaGreat
