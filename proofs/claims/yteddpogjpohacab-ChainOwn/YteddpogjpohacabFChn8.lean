/- What the proofs of this seat share: versions, writes, intents, opened. -/
import Derived.Test.YteddpogjpohacabFOpen
import Derived.Test.YteddpogjpohacabWSam8
import Derived.Test.YteddpogjpohacabWOwn8
import Derived.WalkLawsBesides
import Derived.JoinedOf
import Derived.Handed
namespace Go.Proofs.Yteddpogjpohacab
open Go.ChangeShapes Go.WideShapes Go.ChangeAt Go.RowKit Go.Joins Go.Deep
set_option maxRecDepth 100000

theorem own : ownKnob Try.prog.godebug = none := by kernel_rfl
theorem laidOut : laidOutB Try.prog = true := by kernel_rfl
theorem cellsV : Try.prog.cellsOf 69 = 4 := by kernel_rfl
theorem cellsVs : Try.prog.cellsOf 29 = 1 := by kernel_rfl
theorem cellsI : Try.prog.cellsOf 3 = 1 := by kernel_rfl
theorem cellsS : Try.prog.cellsOf 9 = 1 := by kernel_rfl
theorem cellsB : Try.prog.cellsOf 4 = 1 := by kernel_rfl
theorem cellsN : Try.prog.cellsOf 2 = 1 := by kernel_rfl
theorem cellsU : Try.prog.cellsOf 23 = 1 := by kernel_rfl
theorem cellsFl : Try.prog.cellsOf 67 = 1 := by kernel_rfl
theorem cellsVer : Try.prog.cellsOf 31 = 3 := by kernel_rfl
theorem bytesV : Try.prog.bytesOf 69 = 40 := by kernel_rfl
theorem bytesVer : Try.prog.bytesOf 31 = 40 := by kernel_rfl

theorem cellsWri : Try.prog.cellsOf 40 = 3 := by kernel_rfl

theorem bytesWri : Try.prog.bytesOf 40 = 40 := by kernel_rfl

theorem cellsWs : Try.prog.cellsOf 34 = 1 := by kernel_rfl

theorem cellsIn : Try.prog.cellsOf 36 = 2 := by kernel_rfl

theorem openValue {H : Type} {enc : TypeId × Value → H} {W : World} {fuel : Nat} {cs : List Value} {x : DataW H × List MemPlace} (h : DataW.trod enc Try.prog W 0 (fun _ => true) true fuel 69 cs = some x) : ∃ v : Vl, cs = [.int .i64 v.k, .int .i64 v.n, .float .f64 v.f, .string v.s] := by
  obtain ⟨y0, y1, y2, y3, n, _, hl, h0, h1, h2, h3⟩ := trod_struct4 Try.underlying69 h
  rw [cellsV] at hl
  match cs, hl with
  | [c0, c1, c2, c3], _ =>
    obtain ⟨k, e0, _, w0⟩ := DataW.trod_int Try.underlying3 h0
    obtain ⟨m, e1, _, w1⟩ := DataW.trod_int Try.underlying2 h1
    obtain ⟨f, e2, _, w2⟩ := trod_float Try.underlying67 h2
    obtain ⟨s, e3, _, w3⟩ := DataW.trod_string Try.underlying9 h3
    simp [cellsI, cellsN, cellsFl, cellsS] at e0 e1 e2 e3
    subst e0 e1 e2 e3
    exact ⟨⟨k, m, f, s⟩, rfl⟩

/-- a row of values, opened -/
theorem openRow {H : Type} {enc : TypeId × Value → H} {W : World} {fuel : Nat} {cs : List Value} {x : DataW H × List MemPlace} (h : DataW.trod enc Try.prog W 0 (fun _ => true) true fuel 29 cs = some x) (hr : Reach Try.prog 29 x.1) :
    ∃ (L : List Vl) (q : Option Addr) (c : Nat), cs = [.slice q L.length c] ∧ RowV W W.heap.size q L ∧ L.length ≤ 3518437208780 ∧ (q = none → c = 0) := by
  obtain ⟨L, q, c, e, hl, hb, hq, he⟩ := openList (⟨0, 0, 0, ⟨#[]⟩⟩ : Vl) _ Try.underlying29 cellsV (by decide) (fun n cs y h _ => openValue h) h hr
  rw [bytesV] at hb
  simp only [reachBytes] at hb
  refine ⟨L, q, c, e, ?_, by omega, hq⟩
  intro i hi
  obtain ⟨b, o, e, hb, cs', hQ, _, hc⟩ := he i hi
  have g0 := hc 0 (by decide)
  have g1 := hc 1 (by decide)
  have g2 := hc 2 (by decide)
  have g3 := hc 3 (by decide)
  rw [hQ] at g0 g1 g2 g3
  exact ⟨b, o, e, hb, g0, g1, g2, g3⟩

/-- a version's cells -/
def IsRw (k : IntKind) (W : World) (cs : List Value) (r : Rw) : Prop := ∃ q c, cs = [.int k r.n, .bool r.gn, .slice q r.row.length c] ∧ RowV W W.heap.size q r.row ∧ r.row.length ≤ 3518437208780 ∧ (q = none → c = 0)
theorem openVer {H : Type} {enc : TypeId × Value → H} {W : World} {fuel : Nat} {cs : List Value} {x : DataW H × List MemPlace} (h : DataW.trod enc Try.prog W 0 (fun _ => true) true fuel 31 cs = some x) (hr : Reach Try.prog 31 x.1) : ∃ r : Rw, IsRw .u64 W cs r := by
  obtain ⟨y0, y1, y2, n, hx, hl, h0, h1, h2⟩ := trod_struct3 Try.underlying31 h
  subst hx
  rw [cellsVer] at hl
  match cs, hl with
  | [c0, c1, c2], _ =>
    obtain ⟨k, e0, _, w0⟩ := DataW.trod_int Try.underlying23 h0
    obtain ⟨b, e1, _⟩ := DataW.trod_bool Try.underlying4 h1
    obtain ⟨L, q, c, e2, hR, hlen, hq⟩ := openRow h2 (hr.part Try.underlying31 (j := 2) (u := 29) (d := y2.1) rfl rfl)
    simp [cellsU, cellsB, cellsVs] at e0 e1 e2
    subst e0 e1 e2
    exact ⟨⟨k, b, L⟩, q, c, rfl, hR, hlen, hq⟩

theorem openWri {H : Type} {enc : TypeId × Value → H} {W : World} {fuel : Nat} {cs : List Value} {x : DataW H × List MemPlace} (h : DataW.trod enc Try.prog W 0 (fun _ => true) true fuel 40 cs = some x) (hr : Reach Try.prog 40 x.1) : ∃ r : Rw, IsRw .i64 W cs r ∧ (-9223372036854775808 ≤ r.n ∧ r.n ≤ 9223372036854775807) := by
  obtain ⟨y0, y1, y2, n, hx, hl, h0, h1, h2⟩ := trod_struct3 Try.underlying40 h
  subst hx
  rw [cellsWri] at hl
  match cs, hl with
  | [c0, c1, c2], _ =>
    obtain ⟨k, e0, _, w0⟩ := DataW.trod_int Try.underlying3 h0
    obtain ⟨b, e1, _⟩ := DataW.trod_bool Try.underlying4 h1
    obtain ⟨L, q, c, e2, hR, hlen, hq⟩ := openRow h2 (hr.part Try.underlying40 (j := 2) (u := 29) (d := y2.1) rfl rfl)
    simp [cellsI, cellsB, cellsVs] at e0 e1 e2
    subst e0 e1 e2
    exact ⟨⟨k, b, L⟩, ⟨q, c, rfl, hR, hlen, hq⟩, wf_i64 w0⟩

theorem rd_of {k : IntKind} {W : World} {L : List Rw} {q : Option Addr} (he : ∀ i (hi : i < L.length), ∃ b o, q = some ⟨b, o, none⟩ ∧ b < W.heap.size ∧ ∃ cs', IsRw k W cs' L[i] ∧ cs'.length = 3 ∧ ∀ j, j < 3 → W.cell? ⟨b, o + i * 3 + j, none⟩ = cs'[j]?) : RdR k W W.heap.size q L ∧ shortR L := by
  refine ⟨fun i hi => ?_, fun i hi => ?_⟩
  · obtain ⟨b, o, e, hb, cs', ⟨q', c', rfl, hR, _, hq⟩, _, hc⟩ := he i hi
    exact ⟨b, o, q', c', e, hb, hc 0 (by decide), hc 1 (by decide), hc 2 (by decide), hR, hq⟩
  · obtain ⟨_, _, _, _, _, ⟨_, _, _, _, hl, _⟩, _⟩ := he i hi
    exact hl
/-- VERSIONS, OPENED. -/
theorem openVers {H : Type} {enc : TypeId × Value → H} {W : World} {b0 : Nat} {v : Value} {d : DataW H} {p : List MemPlace}
    (hv : Value.okWide Try.prog W .any b0 22 v) (h : DataW.Trod enc Try.prog W 0 (fun _ => true) true 22 v d p) (hr : Reach Try.prog 22 d) :
    ∃ (L : List Rw) (q : Option Addr) (c : Nat), v = .slice q L.length c ∧ RdR .u64 W W.heap.size q L ∧ shortR L ∧ L.length ≤ 3518437208780 ∧ (q = none → c = 0) := by
  obtain ⟨a0, len, cap, rfl⟩ := okWide_slice Try.underlying22 hv
  obtain ⟨fuel, hf⟩ := h
  obtain ⟨L, q, c, e, hl, hb, hq, he⟩ := openList (⟨0, false, []⟩ : Rw) (IsRw .u64 W) Try.underlying22 cellsVer (by decide) (fun n cs y h hr => openVer h hr) hf hr
  rw [bytesVer] at hb
  simp only [reachBytes] at hb
  simp [Value.cells] at e
  obtain ⟨rfl, rfl, rfl⟩ := e
  exact ⟨L, a0, cap, rfl, (rd_of he).1, (rd_of he).2, by omega, hq⟩

/-- what holds of each write: its level is an int -/
def lvR (L : List Rw) : Prop := ∀ i (hi : i < L.length), -9223372036854775808 ≤ L[i].n ∧ L[i].n ≤ 9223372036854775807
theorem openWrisT {H : Type} {enc : TypeId × Value → H} {W : World} {fuel : Nat} {cs : List Value} {x : DataW H × List MemPlace} (h : DataW.trod enc Try.prog W 0 (fun _ => true) true fuel 34 cs = some x) (hr : Reach Try.prog 34 x.1) :
    ∃ (L : List Rw) (q : Option Addr) (c : Nat), cs = [.slice q L.length c] ∧ RdR .i64 W W.heap.size q L ∧ shortR L ∧ L.length ≤ 3518437208780 ∧ (q = none → c = 0) ∧ lvR L := by
  obtain ⟨L, q, c, e, hl, hb, hq, he⟩ := openList (⟨0, false, []⟩ : Rw) (fun cs r => IsRw .i64 W cs r ∧ (-9223372036854775808 ≤ r.n ∧ r.n ≤ 9223372036854775807)) Try.underlying34 cellsWri (by decide) (fun n cs y h hr => openWri h hr) h hr
  rw [bytesWri] at hb
  simp only [reachBytes] at hb
  have he' : ∀ i (hi : i < L.length), ∃ b o, q = some ⟨b, o, none⟩ ∧ b < W.heap.size ∧ ∃ cs', IsRw .i64 W cs' L[i] ∧ cs'.length = 3 ∧ ∀ j, j < 3 → W.cell? ⟨b, o + i * 3 + j, none⟩ = cs'[j]? := fun i hi => by
    obtain ⟨b, o, e, hb, cs', ⟨h1, _⟩, h3⟩ := he i hi
    exact ⟨b, o, e, hb, cs', h1, h3⟩
  refine ⟨L, q, c, e, (rd_of he').1, (rd_of he').2, by omega, hq, fun i hi => ?_⟩
  obtain ⟨_, _, _, _, _, ⟨_, h2⟩, _⟩ := he i hi
  exact h2

theorem openWris {H : Type} {enc : TypeId × Value → H} {W : World} {b0 : Nat} {v : Value} {d : DataW H} {p : List MemPlace}
    (hv : Value.okWide Try.prog W .any b0 34 v) (h : DataW.Trod enc Try.prog W 0 (fun _ => true) true 34 v d p) (hr : Reach Try.prog 34 d) :
    ∃ (L : List Rw) (q : Option Addr) (c : Nat), v = .slice q L.length c ∧ RdR .i64 W W.heap.size q L ∧ shortR L ∧ L.length ≤ 3518437208780 ∧ (q = none → c = 0) ∧ lvR L := by
  obtain ⟨a0, len, cap, rfl⟩ := okWide_slice Try.underlying34 hv
  obtain ⟨fuel, hf⟩ := h
  obtain ⟨L, q, c, e, r⟩ := openWrisT hf hr
  simp [Value.cells] at e
  obtain ⟨rfl, rfl, rfl⟩ := e
  exact ⟨L, a0, cap, rfl, r⟩

theorem openVer1 {H : Type} {enc : TypeId × Value → H} {W : World} {b0 : Nat} {v : Value} {d : DataW H} {p : List MemPlace}
    (hv : Value.okWide Try.prog W .any b0 31 v) (h : DataW.Trod enc Try.prog W 0 (fun _ => true) true 31 v d p) (hr : Reach Try.prog 31 d) :
    ∃ (n : Int) (g : Bool) (row : List Vl) (q : Option Addr) (c : Nat), v = .agg #[.int .u64 n, .bool g, .slice q row.length c] ∧ SlV W W.heap.size (.slice q row.length c) row ∧ row.length ≤ 3518437208780 := by
  obtain ⟨cs, rfl, hsz⟩ := okWide_struct Try.underlying31 hv
  obtain ⟨fuel, hf⟩ := h
  obtain ⟨cs⟩ := cs
  obtain ⟨r, q, c, e, hR, hl, hq⟩ := openVer hf hr
  simp only [Value.cells] at e
  subst e
  exact ⟨r.n, r.gn, r.row, q, c, rfl, ⟨q, c, rfl, hR, hq⟩, hl⟩

/-- an intent's cells -/
theorem openInT {H : Type} {enc : TypeId × Value → H} {W : World} {fuel : Nat} {cs : List Value} {x : DataW H × List MemPlace} (h : DataW.trod enc Try.prog W 0 (fun _ => true) true fuel 36 cs = some x) (hr : Reach Try.prog 36 x.1) :
    ∃ (tx : Int) (L : List Rw) (q : Option Addr) (c : Nat), cs = [.int .i64 tx, .slice q L.length c] ∧ RdR .i64 W W.heap.size q L ∧ shortR L ∧ L.length ≤ 3518437208780 ∧ (q = none → c = 0) ∧ lvR L ∧ (-9223372036854775808 ≤ tx ∧ tx ≤ 9223372036854775807) := by
  obtain ⟨y0, y1, n, hx, hl, h0, h1⟩ := trod_struct2 Try.underlying36 h
  subst hx
  rw [cellsIn] at hl
  match cs, hl with
  | [c0, c1], _ =>
    obtain ⟨k, e0, _, w0⟩ := DataW.trod_int Try.underlying3 h0
    obtain ⟨L, q, c, e1, hR, hs, hlen, hq, hlv⟩ := openWrisT h1 (hr.part Try.underlying36 (j := 1) (u := 34) (d := y1.1) rfl rfl)
    simp [cellsI, cellsWs] at e0 e1
    subst e0 e1
    exact ⟨k, L, q, c, rfl, hR, hs, hlen, hq, hlv, wf_i64 w0⟩

theorem openIn {H : Type} {enc : TypeId × Value → H} {W : World} {b0 : Nat} {v : Value} {d : DataW H} {p : List MemPlace}
    (hv : Value.okWide Try.prog W .any b0 36 v) (h : DataW.Trod enc Try.prog W 0 (fun _ => true) true 36 v d p) (hr : Reach Try.prog 36 d) :
    ∃ (tx : Int) (L : List Rw) (q : Option Addr) (c : Nat), v = .agg #[.int .i64 tx, .slice q L.length c] ∧ RdR .i64 W W.heap.size q L ∧ shortR L ∧ L.length ≤ 3518437208780 ∧ (q = none → c = 0) ∧ lvR L ∧ (-9223372036854775808 ≤ tx ∧ tx ≤ 9223372036854775807) := by
  obtain ⟨cs, rfl, hsz⟩ := okWide_struct Try.underlying36 hv
  obtain ⟨fuel, hf⟩ := h
  obtain ⟨cs⟩ := cs
  obtain ⟨tx, L, q, c, e, r⟩ := openInT hf hr
  simp only [Value.cells] at e
  subst e
  exact ⟨tx, L, q, c, rfl, r⟩





theorem openInt {H : Type} {enc : TypeId × Value → H} {W : World} {b0 : Nat} {v : Value} {d : DataW H} {p : List MemPlace}
    (hv : Value.okWide Try.prog W .any b0 3 v) (h : DataW.Trod enc Try.prog W 0 (fun _ => true) true 3 v d p) : ∃ a : Int, v = .int .i64 a ∧ (-9223372036854775808 ≤ a ∧ a ≤ 9223372036854775807) := by
  obtain ⟨a, rfl⟩ := okWide_int Try.underlying3 hv
  obtain ⟨fuel, hf⟩ := h
  obtain ⟨k, e, _, w0⟩ := DataW.trod_int Try.underlying3 hf
  simp [Value.cells] at e
  subst e
  exact ⟨a, rfl, wf_i64 w0⟩

theorem openU64 {H : Type} {enc : TypeId × Value → H} {W : World} {b0 : Nat} {v : Value} {d : DataW H} {p : List MemPlace}
    (hv : Value.okWide Try.prog W .any b0 23 v) (h : DataW.Trod enc Try.prog W 0 (fun _ => true) true 23 v d p) : ∃ a : Int, v = .int .u64 a ∧ (0 ≤ a ∧ a ≤ 18446744073709551615) := by
  obtain ⟨a, rfl⟩ := okWide_int Try.underlying23 hv
  obtain ⟨fuel, hf⟩ := h
  obtain ⟨k, e, _, w0⟩ := DataW.trod_int Try.underlying23 hf
  simp [Value.cells] at e
  subst e
  simp only [Lit.wf, Bool.and_eq_true, decide_eq_true_eq] at w0
  exact ⟨a, rfl, w0⟩
end Go.Proofs.Yteddpogjpohacab
