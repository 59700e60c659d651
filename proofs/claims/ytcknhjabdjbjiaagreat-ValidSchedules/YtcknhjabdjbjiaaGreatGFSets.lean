/- What the proofs of this seat share: feet, opened. What the proofs of this seat share: commits and attempts, opened. Normal spans: what they are; that there is one list of them; a point is looked for among them. -/
import Derived.WalkLawsBesides
import Derived.JoinedOf
import Derived.Handed
import Derived.Test.YtcknhjabdjbjiaaGreatGFOpen
import Derived.Test.YtcknhjabdjbjiaaGreatGWCl10
import Derived.Test.YtcknhjabdjbjiaaGreatGWCl1
namespace Go.Proofs.YtcknhjabdjbjiaaGreat
open Go.ChangeShapes Go.WideShapes Go.ChangeAt Go.RowKit Go.Joins Go.Deep
set_option maxRecDepth 100000

theorem own : ownKnob Tryz.prog.godebug = none := by kernel_rfl
theorem laidOut : laidOutB Tryz.prog = true := by kernel_rfl
theorem cellsPt : Tryz.prog.cellsOf 39 = 3 := by kernel_rfl
theorem bytesPt : Tryz.prog.bytesOf 39 = 32 := by kernel_rfl
theorem cellsSp : Tryz.prog.cellsOf 103 = 5 := by kernel_rfl
theorem bytesSp : Tryz.prog.bytesOf 103 = 56 := by kernel_rfl
theorem cellsFt : Tryz.prog.cellsOf 37 = 3 := by kernel_rfl
theorem cellsRg : Tryz.prog.cellsOf 101 = 3 := by kernel_rfl
theorem cellsI : Tryz.prog.cellsOf 3 = 1 := by kernel_rfl
theorem cellsS : Tryz.prog.cellsOf 9 = 1 := by kernel_rfl
theorem cellsB : Tryz.prog.cellsOf 4 = 1 := by kernel_rfl
theorem cellsLP : Tryz.prog.cellsOf 34 = 1 := by kernel_rfl
theorem cellsLS : Tryz.prog.cellsOf 35 = 1 := by kernel_rfl

theorem openPtT {H : Type} {enc : TypeId × Value → H} {W : World} {fuel : Nat} {cs : List Value} {x : DataW H × List MemPlace} (h : DataW.trod enc Tryz.prog W 0 (fun _ => true) true fuel 39 cs = some x) :
    ∃ a : Pt, cs = [.int .i64 a.t, .int .i64 a.i, .string a.k] := by
  obtain ⟨y0, y1, y2, n, hx, hl, h0, h1, h2⟩ := trod_struct3 Tryz.underlying39 h
  rw [cellsPt] at hl
  match cs, hl with
  | [c0, c1, c2], _ =>
    obtain ⟨k0, e0, _⟩ := DataW.trod_int Tryz.underlying3 h0
    obtain ⟨k1, e1, _⟩ := DataW.trod_int Tryz.underlying3 h1
    obtain ⟨s2, e2, _⟩ := DataW.trod_string Tryz.underlying9 h2
    simp [cellsI, cellsS] at e0 e1 e2
    subst e0 e1 e2
    exact ⟨⟨k0, k1, s2⟩, rfl⟩
theorem openSpT {H : Type} {enc : TypeId × Value → H} {W : World} {fuel : Nat} {cs : List Value} {x : DataW H × List MemPlace} (h : DataW.trod enc Tryz.prog W 0 (fun _ => true) true fuel 103 cs = some x) :
    ∃ a : Sp, cs = [.int .i64 a.t, .int .i64 a.i, .string a.lo, .string a.hi, .bool a.op] := by
  obtain ⟨y0, y1, y2, n, hx, hl, h0, h1, h2⟩ := trod_struct3 Tryz.underlying103 h
  rw [cellsSp] at hl
  match cs, hl with
  | [c0, c1, c2, c3, c4], _ =>
    obtain ⟨k0, e0, _⟩ := DataW.trod_int Tryz.underlying3 h0
    obtain ⟨k1, e1, _⟩ := DataW.trod_int Tryz.underlying3 h1
    obtain ⟨z0, z1, z2, n', _, _, g0, g1, g2⟩ := trod_struct3 Tryz.underlying101 h2
    obtain ⟨s0, e2, _⟩ := DataW.trod_string Tryz.underlying9 g0
    obtain ⟨s1, e3, _⟩ := DataW.trod_string Tryz.underlying9 g1
    obtain ⟨b2, e4, _⟩ := DataW.trod_bool Tryz.underlying4 g2
    simp [cellsI, cellsS, cellsB, cellsRg] at e0 e1 e2 e3 e4
    subst e0 e1 e2 e3 e4
    exact ⟨⟨k0, k1, s0, s1, b2⟩, rfl⟩
theorem openPts {H : Type} {enc : TypeId × Value → H} {W : World} {fuel : Nat} {cs : List Value} {x : DataW H × List MemPlace} (h : DataW.trod enc Tryz.prog W 0 (fun _ => true) true fuel 34 cs = some x) (hr : Reach Tryz.prog 34 x.1) :
    ∃ (L : List Pt) (v : Value), cs = [v] ∧ SlP W v L ∧ L.length ≤ 4398046511104 := by
  obtain ⟨L, q, c, e, hl, hb, hq, he⟩ := openList (⟨0, 0, ⟨#[]⟩⟩ : Pt) (fun cs a => cs = [.int .i64 a.t, .int .i64 a.i, .string a.k]) Tryz.underlying34 cellsPt (by decide)
    (fun n cs' y hy _ => openPtT hy) h hr
  rw [bytesPt] at hb
  simp only [reachBytes] at hb
  refine ⟨L, _, e, ⟨q, c, rfl, hl, hq, fun i hi => ?_⟩, by omega⟩
  obtain ⟨b, o, e, hlt, cs', rfl, _, hc⟩ := he i hi
  exact ⟨b, o, e, hlt, hc 0 (by decide), hc 1 (by decide), hc 2 (by decide)⟩
theorem openSps {H : Type} {enc : TypeId × Value → H} {W : World} {fuel : Nat} {cs : List Value} {x : DataW H × List MemPlace} (h : DataW.trod enc Tryz.prog W 0 (fun _ => true) true fuel 35 cs = some x) (hr : Reach Tryz.prog 35 x.1) :
    ∃ (L : List Sp) (v : Value), cs = [v] ∧ SlS W v L ∧ L.length ≤ 2513169434916 := by
  obtain ⟨L, q, c, e, hl, hb, hq, he⟩ := openList (⟨0, 0, ⟨#[]⟩, ⟨#[]⟩, false⟩ : Sp) (fun cs a => cs = [.int .i64 a.t, .int .i64 a.i, .string a.lo, .string a.hi, .bool a.op]) Tryz.underlying35 cellsSp (by decide)
    (fun n cs' y hy _ => openSpT hy) h hr
  rw [bytesSp] at hb
  simp only [reachBytes] at hb
  refine ⟨L, _, e, ⟨q, c, rfl, hl, hq, fun i hi => ?_⟩, by omega⟩
  obtain ⟨b, o, e, hlt, cs', rfl, _, hc⟩ := he i hi
  exact ⟨b, o, e, hlt, hc 0 (by decide), hc 1 (by decide), hc 2 (by decide), hc 3 (by decide), hc 4 (by decide)⟩
theorem openFoot {H : Type} {enc : TypeId × Value → H} {W : World} {b0 : Nat} {v : Value} {d : DataW H} {p : List MemPlace}
    (hv : Value.okWide Tryz.prog W .any b0 37 v) (h : DataW.Trod enc Tryz.prog W 0 (fun _ => true) true 37 v d p) (hr : Reach Tryz.prog 37 d) :
    ∃ (a : Ft) (v0 v1 v2 : Value), v = .agg #[v0, v1, v2] ∧ RdF W v0 v1 v2 a := by
  obtain ⟨cs, rfl, hsz⟩ := okWide_struct Tryz.underlying37 hv
  obtain ⟨fuel, hf⟩ := h
  obtain ⟨y0, y1, y2, n, hx, hl, h0, h1, h2⟩ := trod_struct3 Tryz.underlying37 hf
  simp only [Prod.mk.injEq] at hx
  obtain ⟨rfl, _⟩ := hx
  rw [cellsFt] at hsz
  obtain ⟨cs⟩ := cs
  match cs, hsz with
  | [c0, c1, c2], _ =>
    obtain ⟨P, v0, e0, hP, lP⟩ := openPts h0 (hr.part Tryz.underlying37 (j := 0) (u := 34) (d := y0.1) rfl rfl)
    obtain ⟨S, v1, e1, hS, lS⟩ := openSps h1 (hr.part Tryz.underlying37 (j := 1) (u := 35) (d := y1.1) rfl rfl)
    obtain ⟨Q, v2, e2, hQ, lQ⟩ := openPts h2 (hr.part Tryz.underlying37 (j := 2) (u := 34) (d := y2.1) rfl rfl)
    simp [Value.cells, cellsLP, cellsLS] at e0 e1 e2
    subst e0 e1 e2
    exact ⟨⟨P, S, Q⟩, _, _, _, rfl, hP, hS, hQ, lP, lS, lQ⟩
theorem openPoint {H : Type} {enc : TypeId × Value → H} {W : World} {b0 : Nat} {v : Value} {d : DataW H} {p : List MemPlace}
    (hv : Value.okWide Tryz.prog W .any b0 39 v) (h : DataW.Trod enc Tryz.prog W 0 (fun _ => true) true 39 v d p) : ∃ x : Pt, v = PV x := by
  obtain ⟨cs, rfl, hsz⟩ := okWide_struct Tryz.underlying39 hv
  obtain ⟨fuel, hf⟩ := h
  obtain ⟨cs⟩ := cs
  obtain ⟨x, e⟩ := openPtT hf
  simp [Value.cells] at e
  subst e
  exact ⟨x, rfl⟩

end Go.Proofs.YtcknhjabdjbjiaaGreat

namespace Go.Proofs.YtcknhjabdjbjiaaGreat
open Go.ChangeShapes Go.WideShapes Go.ChangeAt Go.RowKit Go.Joins Go.Deep
set_option maxRecDepth 100000

theorem cellsU : Tryz.prog.cellsOf 23 = 1 := by kernel_rfl
theorem cellsAt : Tryz.prog.cellsOf 48 = 5 := by kernel_rfl
theorem okU64 {H : Type} {enc : TypeId × Value → H} {W : World} {b0 : Nat} {v : Value} {d : DataW H} {p : List MemPlace}
    (hv : Value.okWide Tryz.prog W .any b0 23 v) (h : DataW.Trod enc Tryz.prog W 0 (fun _ => true) true 23 v d p) : ∃ n : Nat, v = .int .u64 (n : Int) ∧ n < 18446744073709551616 := by
  obtain ⟨n, rfl⟩ := okWide_int Tryz.underlying23 hv
  obtain ⟨fuel, hf⟩ := h
  obtain ⟨k, e0, _, hw⟩ := DataW.trod_int Tryz.underlying23 hf
  simp [Value.cells] at e0
  subst e0
  simp only [Lit.wf, Bool.and_eq_true, decide_eq_true_eq] at hw
  have h1 : (0 : Int) ≤ n := hw.1
  have h2 : n ≤ (18446744073709551615 : Int) := hw.2
  exact ⟨n.toNat, by rw [Int.toNat_of_nonneg h1], by omega⟩
theorem openU {H : Type} {enc : TypeId × Value → H} {W : World} {fuel : Nat} {cs : List Value} {x : DataW H × List MemPlace} (h : DataW.trod enc Tryz.prog W 0 (fun _ => true) true fuel 23 cs = some x) : ∃ n : Nat, cs = [.int .u64 (n : Int)] ∧ n < 18446744073709551616 := by
  obtain ⟨k, e0, _, hw⟩ := DataW.trod_int Tryz.underlying23 h
  simp only [Lit.wf, Bool.and_eq_true, decide_eq_true_eq] at hw
  have h1 : (0 : Int) ≤ k := hw.1
  have h2 : k ≤ (18446744073709551615 : Int) := hw.2
  exact ⟨k.toNat, by rw [e0, Int.toNat_of_nonneg h1], by omega⟩
theorem openFtT {H : Type} {enc : TypeId × Value → H} {W : World} {fuel : Nat} {cs : List Value} {x : DataW H × List MemPlace} (h : DataW.trod enc Tryz.prog W 0 (fun _ => true) true fuel 37 cs = some x) (hr : Reach Tryz.prog 37 x.1) :
    ∃ (a : Ft) (v0 v1 v2 : Value), cs = [v0, v1, v2] ∧ RdF W v0 v1 v2 a := by
  obtain ⟨y0, y1, y2, n, hx, hl, h0, h1, h2⟩ := trod_struct3 Tryz.underlying37 h
  subst hx
  rw [cellsFt] at hl
  match cs, hl with
  | [c0, c1, c2], _ =>
    obtain ⟨P, v0, e0, hP, lP⟩ := openPts h0 (hr.part Tryz.underlying37 (j := 0) (u := 34) (d := y0.1) rfl rfl)
    obtain ⟨S, v1, e1, hS, lS⟩ := openSps h1 (hr.part Tryz.underlying37 (j := 1) (u := 35) (d := y1.1) rfl rfl)
    obtain ⟨Q, v2, e2, hQ, lQ⟩ := openPts h2 (hr.part Tryz.underlying37 (j := 2) (u := 34) (d := y2.1) rfl rfl)
    simp [cellsLP, cellsLS] at e0 e1 e2
    subst e0 e1 e2
    exact ⟨⟨P, S, Q⟩, _, _, _, rfl, hP, hS, hQ, lP, lS, lQ⟩

theorem cellsCm : Tryz.prog.cellsOf 67 = 4 := by kernel_rfl
theorem openCmT {H : Type} {enc : TypeId × Value → H} {W : World} {fuel : Nat} {cs : List Value} {x : DataW H × List MemPlace} (h : DataW.trod enc Tryz.prog W 0 (fun _ => true) true fuel 67 cs = some x) (hr : Reach Tryz.prog 67 x.1) :
    ∃ (s : Nat) (a : Ft) (v0 v1 v2 : Value), cs = [.int .u64 (s : Int), v0, v1, v2] ∧ s < 18446744073709551616 ∧ RdF W v0 v1 v2 a := by
  obtain ⟨y0, y1, n, hx, hl, h0, h1⟩ := trod_struct2 Tryz.underlying67 h
  subst hx
  rw [cellsCm] at hl
  match cs, hl with
  | [c0, c1, c2, c3], _ =>
    obtain ⟨s, e0, hs⟩ := openU h0
    obtain ⟨a, v0, v1, v2, e1, ha⟩ := openFtT h1 (hr.part Tryz.underlying67 (j := 1) (u := 37) (d := y1.1) rfl rfl)
    simp [cellsU, cellsFt] at e0 e1
    obtain ⟨rfl, rfl, rfl⟩ := e1
    subst e0
    exact ⟨s, a, _, _, _, rfl, hs, ha⟩
theorem openCommit {H : Type} {enc : TypeId × Value → H} {W : World} {b0 : Nat} {v : Value} {d : DataW H} {p : List MemPlace}
    (hv : Value.okWide Tryz.prog W .any b0 67 v) (h : DataW.Trod enc Tryz.prog W 0 (fun _ => true) true 67 v d p) (hr : Reach Tryz.prog 67 d) :
    ∃ (s : Nat) (a : Ft) (v0 v1 v2 : Value), v = .agg #[.int .u64 (s : Int), v0, v1, v2] ∧ s < 18446744073709551616 ∧ RdF W v0 v1 v2 a := by
  obtain ⟨cs, rfl, hsz⟩ := okWide_struct Tryz.underlying67 hv
  obtain ⟨fuel, hf⟩ := h
  obtain ⟨s, a, v0, v1, v2, e, hs, ha⟩ := openCmT hf hr
  obtain ⟨cs⟩ := cs
  simp [Value.cells] at e
  subst e
  exact ⟨s, a, v0, v1, v2, rfl, hs, ha⟩

theorem openAtT {H : Type} {enc : TypeId × Value → H} {W : World} {fuel : Nat} {cs : List Value} {x : DataW H × List MemPlace} (h : DataW.trod enc Tryz.prog W 0 (fun _ => true) true fuel 48 cs = some x) (hr : Reach Tryz.prog 48 x.1) :
    ∃ (s : Nat) (a : Ft) (lv : Int) (v0 v1 v2 : Value), cs = [.int .u64 (s : Int), v0, v1, v2, .int .i64 lv] ∧ s < 18446744073709551616 ∧ RdF W v0 v1 v2 a := by
  obtain ⟨y0, y1, y2, n, hx, hl, h0, h1, h2⟩ := trod_struct3 Tryz.underlying48 h
  subst hx
  rw [cellsAt] at hl
  match cs, hl with
  | [c0, c1, c2, c3, c4], _ =>
    obtain ⟨s, e0, hs⟩ := openU h0
    obtain ⟨a, v0, v1, v2, e1, ha⟩ := openFtT h1 (hr.part Tryz.underlying48 (j := 1) (u := 37) (d := y1.1) rfl rfl)
    obtain ⟨lv, e2, _⟩ := DataW.trod_int Tryz.underlying3 h2
    simp [cellsU, cellsFt, cellsI] at e0 e1 e2
    obtain ⟨rfl, rfl, rfl⟩ := e1
    subst e0 e2
    exact ⟨s, a, lv, _, _, _, rfl, hs, ha⟩
theorem openAttempt {H : Type} {enc : TypeId × Value → H} {W : World} {b0 : Nat} {v : Value} {d : DataW H} {p : List MemPlace}
    (hv : Value.okWide Tryz.prog W .any b0 48 v) (h : DataW.Trod enc Tryz.prog W 0 (fun _ => true) true 48 v d p) (hr : Reach Tryz.prog 48 d) :
    ∃ (s : Nat) (a : Ft) (lv : Int) (v0 v1 v2 : Value), v = .agg #[.int .u64 (s : Int), v0, v1, v2, .int .i64 lv] ∧ s < 18446744073709551616 ∧ RdF W v0 v1 v2 a := by
  obtain ⟨cs, rfl, hsz⟩ := okWide_struct Tryz.underlying48 hv
  obtain ⟨fuel, hf⟩ := h
  obtain ⟨s, a, lv, v0, v1, v2, e, hs, ha⟩ := openAtT hf hr
  obtain ⟨cs⟩ := cs
  simp [Value.cells] at e
  subst e
  exact ⟨s, a, lv, v0, v1, v2, rfl, hs, ha⟩

end Go.Proofs.YtcknhjabdjbjiaaGreat

namespace Go.Proofs.YtcknhjabdjbjiaaGreat
open Go.RowKit

/-- a span's range -/
def Sp.rg (s : Sp) : Rg := ⟨s.lo, s.hi, s.op⟩
/-- one span is whole ahead of another one, and they do not touch -/
def ApS (x y : Sp) : Prop := x.t < y.t ∨ x.t = y.t ∧ (x.i < y.i ∨ x.i = y.i ∧ Apart x.rg y.rg)
def SepS (U : List Sp) : Prop := (∀ s ∈ U, GoodR s.rg) ∧ U.Pairwise ApS
/-- is a point in one of these? -/
def anyS (L : List Sp) (x : Pt) : Bool := L.any (inS x)
theorem anyS_iff (L : List Sp) (x : Pt) : anyS L x = true ↔ ∃ s ∈ L, inS x s = true := List.any_eq_true
theorem inS_iff (x : Pt) (s : Sp) : inS x s = true ↔ x.t = s.t ∧ x.i = s.i ∧ s.rg.has x.k := by
  rw [has_iff]
  simp [inS, Sp.rg]
theorem bgn_in {s : Sp} (h : GoodR s.rg) : inS (bgn s) s = true := (inS_iff _ _).2 ⟨rfl, rfl, some_has h.1⟩
theorem apS_lt {x y : Sp} (h : ApS x y) (hx : GoodR x.rg) : ltP (bgn x) (bgn y) = true := by
  rw [ltP_iff]
  rcases h with h | ⟨h1, h | ⟨h2, h3⟩⟩
  · exact .inl h
  · exact .inr ⟨h1, .inl h⟩
  · refine .inr ⟨h1, .inr ⟨h2, ?_⟩⟩
    have h4 : ltB x.lo x.hi = true := by
      rcases hx.1 with h5 | h5
      · rw [h3.1] at h5; cases h5
      · exact h5
    exact lt_trans' h4 h3.2
theorem apS_not {x y : Sp} (h : ApS x y) {p : Pt} (hp : ltP p (bgn y) = false) : inS p x = false := by
  cases hc : inS p x
  · rfl
  · exfalso
    rw [inS_iff] at hc
    obtain ⟨h1, h2, h3⟩ := hc
    have h4 := ltP_false hp
    simp only [bgn] at h4
    rcases h with h | ⟨e1, h | ⟨e2, h⟩⟩
    · rcases h4 with h4 | ⟨h4, _⟩ <;> omega
    · rcases h4 with h4 | ⟨_, h4 | ⟨h4, _⟩⟩ <;> omega
    · have h5 : ltB p.k y.lo = false := by
        rcases h4 with h4 | ⟨_, h4 | ⟨_, h4⟩⟩
        · omega
        · omega
        · exact h4
      have h6 : ltB x.hi y.lo = true := h.2
      rcases h3.2 with h7 | h7
      · rw [show x.rg.op = false from h.1] at h7; cases h7
      · have h8 : ltB p.k x.hi = true := h7
        rw [lt_trans' h8 h6] at h5; cases h5
theorem SepS.tail {r : Sp} {U : List Sp} (hs : SepS (r :: U)) : SepS U := ⟨fun q hq => hs.1 q (List.mem_cons_of_mem _ hq), (List.pairwise_cons.1 hs.2).2⟩
theorem SepS.head {r : Sp} {U : List Sp} (hs : SepS (r :: U)) {s : Sp} (h : s ∈ U) : ApS r s := (List.pairwise_cons.1 hs.2).1 s h
theorem SepS.ge {r : Sp} {U : List Sp} (hs : SepS (r :: U)) {x : Pt} (h : anyS (r :: U) x = true) : ltP x (bgn r) = false := by
  obtain ⟨s, hm, hx⟩ := (anyS_iff _ _).1 h
  rcases List.mem_cons.1 hm with rfl | hm
  · exact inS_ge hx
  · exact leP_trans (ltP_asymm (apS_lt (hs.head hm) (hs.1 r (by simp)))) (inS_ge hx)
theorem SepS.rest {r : Sp} {U : List Sp} (hs : SepS (r :: U)) (x : Pt) : anyS U x = (anyS (r :: U) x && !inS x r) := by
  cases h : inS x r
  · simp [anyS, h]
  · have h1 : anyS U x = false := by
      cases hc : anyS U x
      · rfl
      · exfalso
        obtain ⟨s, hm, hx⟩ := (anyS_iff _ _).1 hc
        rw [apS_not (hs.head hm) (inS_ge hx)] at h
        cases h
    simp [h1]
theorem SepS.hi {r : Sp} {U : List Sp} (hs : SepS (r :: U)) (ho : r.op = false) : anyS (r :: U) ⟨r.t, r.i, r.hi⟩ = false := by
  cases hc : anyS (r :: U) ⟨r.t, r.i, r.hi⟩
  · rfl
  · exfalso
    obtain ⟨s, hm, hx⟩ := (anyS_iff _ _).1 hc
    obtain ⟨h1, h2, h3⟩ := (inS_iff _ _).1 hx
    rcases List.mem_cons.1 hm with rfl | hm
    · rcases h3.2 with h4 | h4
      · rw [show s.rg.op = false from ho] at h4; cases h4
      · have h5 : ltB s.hi s.hi = true := h4
        rw [ltB_irrefl] at h5; cases h5
    · rcases hs.head hm with h | ⟨_, h | ⟨_, h⟩⟩
      · simp only at h1; omega
      · simp only at h2; omega
      · have h5 : ltB r.hi s.lo = true := h.2
        have h6 : ltB r.hi s.lo = false := h3.1
        rw [h5] at h6; cases h6
theorem sepS_hi {r q : Sp} {U V : List Sp} (hU : SepS (r :: U)) (h : ∀ x, anyS (r :: U) x = anyS (q :: V) x) (hb : bgn r = bgn q) (ho : r.op = false) : q.op = false ∧ ltB r.hi q.hi = false := by
  have hn := hU.hi ho
  have e1 : r.t = q.t := congrArg Pt.t hb
  have e2 : r.i = q.i := congrArg Pt.i hb
  have e3 : r.lo = q.lo := congrArg Pt.k hb
  have hs : ltB r.lo r.hi = true := by
    rcases (hU.1 r (by simp)).1 with h3 | h3
    · rw [show r.rg.op = false from ho] at h3; cases h3
    · exact h3
  have hge : ltB r.hi q.lo = false := by rw [← e3]; exact le_of_lt hs
  rw [h] at hn
  constructor
  · cases hq : q.op with
    | false => rfl
    | true =>
      rw [(anyS_iff _ _).2 ⟨q, by simp, (inS_iff _ _).2 ⟨e1, e2, hge, .inl hq⟩⟩] at hn
      cases hn
  · cases hq : ltB r.hi q.hi with
    | false => rfl
    | true =>
      rw [(anyS_iff _ _).2 ⟨q, by simp, (inS_iff _ _).2 ⟨e1, e2, hge, .inr hq⟩⟩] at hn
      cases hn

/-- there is one list of normal spans -/
theorem sepS_unique : ∀ (U V : List Sp), SepS U → SepS V → (∀ x, anyS U x = anyS V x) → U = V
  | [], [], _, _, _ => rfl
  | [], q :: V, _, hV, h => by
    have h1 := h (bgn q)
    rw [(anyS_iff (q :: V) _).2 ⟨q, by simp, bgn_in (hV.1 q (by simp))⟩] at h1
    cases h1
  | r :: U, [], hU, _, h => by
    have h1 := h (bgn r)
    rw [(anyS_iff (r :: U) _).2 ⟨r, by simp, bgn_in (hU.1 r (by simp))⟩] at h1
    cases h1
  | r :: U, q :: V, hU, hV, h => by
    have h' : ∀ x, anyS (q :: V) x = anyS (r :: U) x := fun x => (h x).symm
    have hb : bgn r = bgn q := leP_antisymm (hU.ge ((h (bgn q)).trans ((anyS_iff _ _).2 ⟨q, by simp, bgn_in (hV.1 q (by simp))⟩))) (hV.ge ((h (bgn r)).symm.trans ((anyS_iff _ _).2 ⟨r, by simp, bgn_in (hU.1 r (by simp))⟩)))
    have e1 : r.t = q.t := congrArg Pt.t hb
    have e2 : r.i = q.i := congrArg Pt.i hb
    have e3 : r.lo = q.lo := congrArg Pt.k hb
    have hrq : r = q := by
      cases ho : r.op with
      | false =>
        obtain ⟨h1, h2⟩ := sepS_hi hU h hb ho
        obtain ⟨_, h3⟩ := sepS_hi hV h' hb.symm h1
        have hh := le_antisymm' h3 h2
        cases r; cases q; simp_all
      | true =>
        cases hq : q.op with
        | false =>
          have := (sepS_hi hV h' hb.symm hq).1
          rw [ho] at this; cases this
        | true =>
          have e4 : r.hi = ⟨#[]⟩ := (hU.1 r (by simp)).2 ho
          have e5 : q.hi = ⟨#[]⟩ := (hV.1 q (by simp)).2 hq
          cases r; cases q; simp_all
    subst hrq
    congr 1
    exact sepS_unique U V hU.tail hV.tail fun x => by rw [hU.rest, hV.rest, h x]

/-- a point is looked for among normal spans -/
theorem SepS.look {U : List Sp} (hs : SepS U) (x : Pt) (i : Nat) (hi : i ≤ U.length) (h1 : ∀ k (hk : k < U.length), k < i → ltP (bgn U[k]) x = true) (h2 : ∀ k (hk : k < U.length), i ≤ k → ltP (bgn U[k]) x = false) :
    anyS U x = (decide (∃ h : i < U.length, bgn U[i] = x) || (match i with | 0 => false | j + 1 => if h : j < U.length then inS x U[j] else false)) := by
  rw [Bool.eq_iff_iff, anyS_iff, Bool.or_eq_true, decide_eq_true_eq]
  constructor
  · rintro ⟨s, hm, hx⟩
    obtain ⟨k, hk, rfl⟩ := List.getElem_of_mem hm
    by_cases hki : i ≤ k
    · left
      have h3 := h2 k hk hki
      have h4 := inS_ge hx
      have e : bgn U[k] = x := leP_antisymm h4 h3
      have hik : i = k := by
        rcases Nat.lt_or_eq_of_le hki with h | h
        · exfalso
          have h5 := apS_lt (List.pairwise_iff_getElem.1 hs.2 i k (by omega) hk h) (hs.1 _ (List.getElem_mem _))
          have h6 := h2 i (by omega) (Nat.le_refl _)
          rw [e] at h5
          rw [h5] at h6
          cases h6
        · exact h
      subst hik
      exact ⟨hk, e⟩
    · right
      cases i with
      | zero => omega
      | succ j =>
        have hj : j < U.length := by omega
        have e : k = j := by
          rcases Nat.lt_or_eq_of_le (show k ≤ j by omega) with h | h
          · exfalso
            have h5 := apS_not (List.pairwise_iff_getElem.1 hs.2 k j hk hj h) (ltP_asymm (h1 j hj (by omega)))
            rw [hx] at h5
            cases h5
          · exact h
        subst e
        simp only [hj, dif_pos]
        exact hx
  · rintro (⟨h, e⟩ | h)
    · exact ⟨U[i], List.getElem_mem _, by rw [← e]; exact bgn_in (hs.1 _ (List.getElem_mem _))⟩
    · cases i with
      | zero => cases h
      | succ j =>
        have hj : j < U.length := by omega
        simp only [hj, dif_pos] at h
        exact ⟨U[j], List.getElem_mem _, h⟩

/-- where a span lies -/
def plcS (s : Sp) : Pt := ⟨s.t, s.i, ⟨#[]⟩⟩
/-- the ranges that lie at a place -/
def rngsAt (L : List Sp) (p : Pt) : List Rg := (L.filter (fun s => decide (plcS s = p))).map Sp.rg
def spOf (p : Pt) (r : Rg) : Sp := ⟨p.t, p.i, r.lo, r.hi, r.op⟩
/-- the normal spans of places and of the unions there -/
def layU : List (Pt × List Rg) → List Sp
  | [] => []
  | x :: M => x.2.map (spOf x.1) ++ layU M
theorem mem_layU : ∀ (M : List (Pt × List Rg)) (s : Sp), s ∈ layU M ↔ ∃ x ∈ M, ∃ r ∈ x.2, s = spOf x.1 r
  | [], s => by simp [layU]
  | x :: M, s => by
    simp only [layU, List.mem_append, List.mem_map, List.mem_cons, mem_layU M s]
    constructor
    · rintro (⟨r, hr, rfl⟩ | ⟨y, hy, h⟩)
      · exact ⟨x, .inl rfl, r, hr, rfl⟩
      · exact ⟨y, .inr hy, h⟩
    · rintro ⟨y, rfl | hy, r, hr, rfl⟩
      · exact .inl ⟨r, hr, rfl⟩
      · exact .inr ⟨y, hy, r, hr, rfl⟩
theorem layU_snoc (M : List (Pt × List Rg)) (x : Pt × List Rg) : layU (M ++ [x]) = layU M ++ x.2.map (spOf x.1) := by
  induction M with
  | nil => simp [layU]
  | cons y M ih => simp [layU, ih]
/-- the union of ranges -/
def UnOf (L U : List Rg) : Prop := Sep U ∧ ∀ k, inL U k ↔ inL L k
theorem layU_sep : ∀ (M : List (Pt × List Rg)), RisP (M.map (·.1)) → (∀ x ∈ M, x.1.k = ⟨#[]⟩) → (∀ x ∈ M, Sep x.2) → SepS (layU M)
  | [], _, _, _ => ⟨fun _ h => by simp [layU] at h, List.Pairwise.nil⟩
  | x :: M, hR, hk, hS => by
    have ih := layU_sep M (List.pairwise_cons.1 hR).2 (fun y hy => hk y (List.mem_cons_of_mem _ hy)) (fun y hy => hS y (List.mem_cons_of_mem _ hy))
    have hx := hS x (by simp)
    refine ⟨fun s hs => ?_, ?_⟩
    · obtain ⟨y, hy, r, hr, rfl⟩ := (mem_layU _ _).1 hs
      exact (hS y hy).1 r hr
    · unfold layU
      refine List.pairwise_append.2 ⟨List.pairwise_map.2 (hx.2.imp (fun h => .inr ⟨rfl, .inr ⟨rfl, h⟩⟩)), ih.2, ?_⟩
      rintro a ha b hb
      obtain ⟨r, hr, rfl⟩ := List.mem_map.1 ha
      obtain ⟨y, hy, q, hq, rfl⟩ := (mem_layU _ _).1 hb
      have h1 : ltP x.1 y.1 = true := (List.pairwise_cons.1 hR).1 y.1 (List.mem_map.2 ⟨y, hy, rfl⟩)
      rw [ltP_iff] at h1
      rcases h1 with h1 | ⟨h1, h2 | ⟨h2, h3⟩⟩
      · exact .inl h1
      · exact .inr ⟨h1, .inl h2⟩
      · rw [hk x (by simp), hk y (List.mem_cons_of_mem _ hy), ltB_irrefl] at h3
        cases h3
theorem layU_any (M : List (Pt × List Rg)) (L : List Sp) (hM : ∀ x ∈ M, x.1.k = ⟨#[]⟩ ∧ ∀ k, inL x.2 k ↔ inL (rngsAt L x.1) k) (hp : ∀ s ∈ L, plcS s ∈ M.map (·.1)) (x : Pt) : anyS (layU M) x = anyS L x := by
  rw [Bool.eq_iff_iff, anyS_iff, anyS_iff]
  constructor
  · rintro ⟨s, hs, hx⟩
    obtain ⟨y, hy, r, hr, rfl⟩ := (mem_layU _ _).1 hs
    obtain ⟨h1, h2, h3⟩ := (inS_iff _ _).1 hx
    obtain ⟨q, hq, h4⟩ := ((hM y hy).2 x.k).1 ⟨r, hr, h3⟩
    obtain ⟨s', hs', rfl⟩ := List.mem_map.1 hq
    obtain ⟨h5, h6⟩ := List.mem_filter.1 hs'
    have h7 : plcS s' = y.1 := of_decide_eq_true h6
    exact ⟨s', h5, (inS_iff _ _).2 ⟨h1.trans (congrArg Pt.t h7).symm, h2.trans (congrArg Pt.i h7).symm, h4⟩⟩
  · rintro ⟨s, hs, hx⟩
    obtain ⟨h1, h2, h3⟩ := (inS_iff _ _).1 hx
    obtain ⟨y, hy, e⟩ := List.mem_map.1 (hp s hs)
    obtain ⟨r, hr, h4⟩ := ((hM y hy).2 x.k).2 ⟨s.rg, List.mem_map.2 ⟨s, List.mem_filter.2 ⟨hs, decide_eq_true e.symm⟩, rfl⟩, h3⟩
    exact ⟨spOf y.1 r, (mem_layU _ _).2 ⟨y, hy, r, hr, rfl⟩, (inS_iff _ _).2 ⟨h1.trans (congrArg Pt.t e).symm, h2.trans (congrArg Pt.i e).symm, h4⟩⟩

end Go.Proofs.YtcknhjabdjbjiaaGreat
