/- Tables opened. The walks of what a column, an index, a reference may be. The walk of what a column may be. -/
import Derived.Test.YtfknmblobcjapaaDoorGFOpen
import Derived.Test.YtfknmblobcjapaaDoorGWTab
namespace Go.Proofs.YtfknmblobcjapaaDoor
open Go.ChangeShapes Go.WideShapes Go.ChangeAt Go.RowKit Go.Joins Go.Deep
set_option maxRecDepth 100000

theorem cellsV : Tryd.prog.cellsOf 44 = 4 := by kernel_rfl
theorem cellsC : Tryd.prog.cellsOf 66 = 7 := by kernel_rfl
theorem cellsX : Tryd.prog.cellsOf 85 = 3 := by kernel_rfl
theorem cellsF : Tryd.prog.cellsOf 72 = 2 := by kernel_rfl
theorem cellsT : Tryd.prog.cellsOf 27 = 5 := by kernel_rfl
theorem cellsI : Tryd.prog.cellsOf 3 = 1 := by kernel_rfl
theorem cellsS : Tryd.prog.cellsOf 9 = 1 := by kernel_rfl
theorem cellsB : Tryd.prog.cellsOf 4 = 1 := by kernel_rfl
theorem cellsN : Tryd.prog.cellsOf 2 = 1 := by kernel_rfl
theorem cellsFl : Tryd.prog.cellsOf 42 = 1 := by kernel_rfl
theorem cellsIs : Tryd.prog.cellsOf 23 = 1 := by kernel_rfl
theorem cellsCs : Tryd.prog.cellsOf 22 = 1 := by kernel_rfl
theorem cellsXs : Tryd.prog.cellsOf 24 = 1 := by kernel_rfl
theorem cellsFs : Tryd.prog.cellsOf 25 = 1 := by kernel_rfl
theorem bytesV : Tryd.prog.bytesOf 44 = 40 := by kernel_rfl
theorem bytesC : Tryd.prog.bytesOf 66 = 72 := by kernel_rfl
theorem bytesX : Tryd.prog.bytesOf 85 = 48 := by kernel_rfl
theorem bytesF : Tryd.prog.bytesOf 72 = 40 := by kernel_rfl
theorem bytesI : Tryd.prog.bytesOf 3 = 8 := by kernel_rfl

section
variable {H : Type} {enc : TypeId × Value → H} {W : World} {fuel : Nat} {cs : List Value} {x : DataW H × List MemPlace}
theorem openValue (h : DataW.trod enc Tryd.prog W 0 (fun _ => true) true fuel 44 cs = some x) : ∃ v : Vl, cs = [.int .i64 v.k, .int .i64 v.n, .float .f64 v.f, .string v.s] ∧ v.ok := by
  obtain ⟨y0, y1, y2, y3, n, _, hl, h0, h1, h2, h3⟩ := trod_struct4 Tryd.underlying44 h
  rw [cellsV] at hl
  match cs, hl with
  | [c0, c1, c2, c3], _ =>
    obtain ⟨k, e0, _, w0⟩ := DataW.trod_int Tryd.underlying3 h0
    obtain ⟨m, e1, _, w1⟩ := DataW.trod_int Tryd.underlying2 h1
    obtain ⟨f, e2, _, w2⟩ := trod_float Tryd.underlying42 h2
    obtain ⟨s, e3, _, w3⟩ := DataW.trod_string Tryd.underlying9 h3
    simp [cellsI, cellsN, cellsFl, cellsS] at e0 e1 e2 e3
    subst e0 e1 e2 e3
    exact ⟨⟨k, m, f, s⟩, rfl, wf_i64 w0, wf_i64 w1, wf_f64 w2, by unfold maxLen at w3; exact w3⟩
theorem openColumn (h : DataW.trod enc Tryd.prog W 0 (fun _ => true) true fuel 66 cs = some x) (hr : Reach Tryd.prog 66 x.1) :
    ∃ c : Cl, cs = [.string c.nm, .int .i64 c.kd, .bool c.nl, .int .i64 c.df.k, .int .i64 c.df.n, .float .f64 c.df.f, .string c.df.s] ∧ c.nm.size ≤ 140737488351232 ∧ c.df.ok := by
  obtain ⟨y0, y1, y2, y3, n, hx, hl, h0, h1, h2, h3⟩ := trod_struct4 Tryd.underlying66 h
  subst hx
  rw [cellsC] at hl
  match cs, hl with
  | [c0, c1, c2, c3, c4, c5, c6], _ =>
    obtain ⟨s, e0, f0, _⟩ := DataW.trod_string Tryd.underlying9 h0
    obtain ⟨k, e1, _, _⟩ := DataW.trod_int Tryd.underlying3 h1
    obtain ⟨b, e2, _⟩ := DataW.trod_bool Tryd.underlying4 h2
    obtain ⟨v, e3, hv⟩ := openValue h3
    have hs := hr.part Tryd.underlying66 (j := 0) (u := 9) (d := y0.1) rfl rfl
    rw [f0] at hs
    have hs' := hs.str
    simp [cellsI, cellsB, cellsS, cellsV] at e0 e1 e2 e3
    obtain ⟨rfl, rfl, rfl, rfl⟩ := e3
    subst e0 e1 e2
    exact ⟨⟨s, k, b, v⟩, rfl, by simpa [reachBytes] using hs', hv⟩
theorem openInts (h : DataW.trod enc Tryd.prog W 0 (fun _ => true) true fuel 23 cs = some x) (hr : Reach Tryd.prog 23 x.1) :
    ∃ (L : List Int) (q : Option Addr) (c : Nat), cs = [.slice q L.length c] ∧ L.length ≤ c ∧ L.length ≤ 17592186043904 ∧ (q = none → c = 0) ∧ (∀ n ∈ L, -9223372036854775808 ≤ n ∧ n ≤ 9223372036854775807) ∧ RowI W W.heap.size q L := by
  obtain ⟨L, q, c, e, hl, hb, hq, he⟩ := openList (0 : Int) (fun cs n => cs = [.int .i64 n] ∧ -9223372036854775808 ≤ n ∧ n ≤ 9223372036854775807) Tryd.underlying23 cellsI (by decide) (fun n cs y h _ => by
    obtain ⟨k, e0, _, w0⟩ := DataW.trod_int Tryd.underlying3 h
    exact ⟨k, e0, wf_i64 w0⟩) h hr
  rw [bytesI] at hb
  simp only [reachBytes] at hb
  refine ⟨L, q, c, e, hl, by omega, hq, ?_, ?_⟩
  · intro n hn
    obtain ⟨i, hi, rfl⟩ := List.getElem_of_mem hn
    obtain ⟨_, _, _, _, _, hQ, _⟩ := he i hi
    exact hQ.2
  · intro i hi
    obtain ⟨b, o, e, hb, cs', hQ, _, hc⟩ := he i hi
    have := hc 0 (by decide)
    rw [hQ.1] at this
    exact ⟨b, o, e, hb, by simpa using this⟩
theorem openIndex (h : DataW.trod enc Tryd.prog W 0 (fun _ => true) true fuel 85 cs = some x) (hr : Reach Tryd.prog 85 x.1) :
    ∃ u : Ix, ∃ q c, cs = [.string u.nm, .slice q u.cs.length c, .bool u.un] ∧ RowI W W.heap.size q u.cs ∧ u.nm.size ≤ 140737488351232 ∧ u.cs.length ≤ 17592186043904 := by
  obtain ⟨y0, y1, y2, n, hx, hl, h0, h1, h2⟩ := trod_struct3 Tryd.underlying85 h
  subst hx
  rw [cellsX] at hl
  match cs, hl with
  | [c0, c1, c2], _ =>
    obtain ⟨s, e0, f0, _⟩ := DataW.trod_string Tryd.underlying9 h0
    obtain ⟨b, e2, _⟩ := DataW.trod_bool Tryd.underlying4 h2
    have hs := hr.part Tryd.underlying85 (j := 0) (u := 9) (d := y0.1) rfl rfl
    rw [f0] at hs
    have hs' := hs.str
    obtain ⟨L, q, c, e1, _, hb, _, _, hR⟩ := openInts h1 (hr.part Tryd.underlying85 (j := 1) (u := 23) (d := y1.1) rfl rfl)
    simp [cellsB, cellsS, cellsIs] at e0 e1 e2
    subst e0 e1 e2
    exact ⟨⟨s, L, b⟩, q, c, rfl, hR, by simpa [reachBytes] using hs', hb⟩
theorem openRef (h : DataW.trod enc Tryd.prog W 0 (fun _ => true) true fuel 72 cs = some x) (hr : Reach Tryd.prog 72 x.1) :
    ∃ u : Rf, ∃ q c, cs = [.slice q u.cs.length c, .string u.tb] ∧ RowI W W.heap.size q u.cs ∧ u.tb.size ≤ 140737488351232 ∧ u.cs.length ≤ 17592186043904 := by
  obtain ⟨y0, y1, n, hx, hl, h0, h1⟩ := trod_struct2 Tryd.underlying72 h
  subst hx
  rw [cellsF] at hl
  match cs, hl with
  | [c0, c1], _ =>
    obtain ⟨s, e1, f1, _⟩ := DataW.trod_string Tryd.underlying9 h1
    have hs := hr.part Tryd.underlying72 (j := 1) (u := 9) (d := y1.1) rfl rfl
    rw [f1] at hs
    have hs' := hs.str
    obtain ⟨L, q, c, e0, _, hb, _, _, hR⟩ := openInts h0 (hr.part Tryd.underlying72 (j := 0) (u := 23) (d := y0.1) rfl rfl)
    simp [cellsS, cellsIs] at e0 e1
    subst e0 e1
    exact ⟨⟨L, s⟩, q, c, rfl, hR, by simpa [reachBytes] using hs', hb⟩
theorem openColumns (h : DataW.trod enc Tryd.prog W 0 (fun _ => true) true fuel 22 cs = some x) (hr : Reach Tryd.prog 22 x.1) :
    ∃ (L : List Cl) (q : Option Addr) (c : Nat), cs = [.slice q L.length c] ∧ L.length ≤ c ∧ L.length ≤ 1954687338211 ∧ (∀ u ∈ L, u.nm.size ≤ 140737488351232 ∧ u.df.ok) ∧ RowC W W.heap.size q L := by
  obtain ⟨L, q, c, e, hl, hb, hq, he⟩ := openList (⟨⟨#[]⟩, 0, false, ⟨0, 0, 0, ⟨#[]⟩⟩⟩ : Cl) _ Tryd.underlying22 cellsC (by decide) (fun n cs y h hr => openColumn h hr) h hr
  rw [bytesC] at hb
  simp only [reachBytes] at hb
  refine ⟨L, q, c, e, hl, by omega, ?_, ?_⟩
  · intro n hn
    obtain ⟨i, hi, rfl⟩ := List.getElem_of_mem hn
    obtain ⟨_, _, _, _, _, hQ, _⟩ := he i hi
    exact hQ.2
  · intro i hi
    obtain ⟨b, o, e, hb, cs', hQ, _, hc⟩ := he i hi
    have g0 := hc 0 (by decide)
    have g1 := hc 1 (by decide)
    have g2 := hc 2 (by decide)
    have g3 := hc 3 (by decide)
    have g4 := hc 4 (by decide)
    have g5 := hc 5 (by decide)
    have g6 := hc 6 (by decide)
    rw [hQ.1] at g0 g1 g2 g3 g4 g5 g6
    exact ⟨b, o, e, hb, g0, g1, g2, g3, g4, g5, g6⟩
theorem openIndexes (h : DataW.trod enc Tryd.prog W 0 (fun _ => true) true fuel 24 cs = some x) (hr : Reach Tryd.prog 24 x.1) :
    ∃ (L : List Ix) (q : Option Addr) (c : Nat), cs = [.slice q L.length c] ∧ L.length ≤ c ∧ L.length ≤ 2932031007317 ∧ (∀ u ∈ L, u.nm.size ≤ 140737488351232 ∧ u.cs.length ≤ 17592186043904) ∧ RowX W W.heap.size q L := by
  obtain ⟨L, q, c, e, hl, hb, hq, he⟩ := openList (⟨⟨#[]⟩, [], false⟩ : Ix) _ Tryd.underlying24 cellsX (by decide) (fun n cs y h hr => openIndex h hr) h hr
  rw [bytesX] at hb
  simp only [reachBytes] at hb
  refine ⟨L, q, c, e, hl, by omega, ?_, ?_⟩
  · intro n hn
    obtain ⟨i, hi, rfl⟩ := List.getElem_of_mem hn
    obtain ⟨_, _, _, _, _, ⟨_, _, hQ⟩, _⟩ := he i hi
    exact hQ.2.2
  · intro i hi
    obtain ⟨b, o, e, hb, cs', ⟨q', c', hQ⟩, _, hc⟩ := he i hi
    have g0 := hc 0 (by decide)
    have g1 := hc 1 (by decide)
    have g2 := hc 2 (by decide)
    rw [hQ.1] at g0 g1 g2
    exact ⟨b, o, e, hb, g0, ⟨q', c', g1, hQ.2.1⟩, g2⟩
theorem openRefs (h : DataW.trod enc Tryd.prog W 0 (fun _ => true) true fuel 25 cs = some x) (hr : Reach Tryd.prog 25 x.1) :
    ∃ (L : List Rf) (q : Option Addr) (c : Nat), cs = [.slice q L.length c] ∧ L.length ≤ c ∧ L.length ≤ 3518437208784 ∧ (∀ u ∈ L, u.tb.size ≤ 140737488351232 ∧ u.cs.length ≤ 17592186043904) ∧ RowF W W.heap.size q L := by
  obtain ⟨L, q, c, e, hl, hb, hq, he⟩ := openList (⟨[], ⟨#[]⟩⟩ : Rf) _ Tryd.underlying25 cellsF (by decide) (fun n cs y h hr => openRef h hr) h hr
  rw [bytesF] at hb
  simp only [reachBytes] at hb
  refine ⟨L, q, c, e, hl, by omega, ?_, ?_⟩
  · intro n hn
    obtain ⟨i, hi, rfl⟩ := List.getElem_of_mem hn
    obtain ⟨_, _, _, _, _, ⟨_, _, hQ⟩, _⟩ := he i hi
    exact hQ.2.2
  · intro i hi
    obtain ⟨b, o, e, hb, cs', ⟨q', c', hQ⟩, _, hc⟩ := he i hi
    have g0 := hc 0 (by decide)
    have g1 := hc 1 (by decide)
    rw [hQ.1] at g0 g1
    exact ⟨b, o, e, hb, ⟨q', c', g0, hQ.2.1⟩, g1⟩
end

/-- A TABLE, OPENED. -/
theorem openTable {H : Type} {enc : TypeId × Value → H} {W : World} {b0 : Nat} {v : Value} {d : DataW H} {p : List MemPlace}
    (hv : Value.okWide Tryd.prog W .any b0 27 v) (h : DataW.Trod enc Tryd.prog W 0 (fun _ => true) true 27 v d p) (hr : Reach Tryd.prog 27 d) :
    ∃ (t : Tb) (a : TabP), v = a.val t ∧ t.ok ∧ TabV W W.heap.size t a ∧ t.cs.length ≤ 1954687338211 ∧ t.ix.length ≤ 2932031007317 := by
  obtain ⟨cs, rfl, hsz⟩ := okWide_struct Tryd.underlying27 hv
  obtain ⟨fuel, hf⟩ := h
  obtain ⟨y0, y1, y2, y3, y4, n, hx, hl, h0, h1, h2, h3, h4⟩ := trod_struct5 Tryd.underlying27 hf
  dsimp only at hx
  subst hx
  rw [cellsT] at hsz
  obtain ⟨cs⟩ := cs
  match cs, hsz with
  | [c0, c1, c2, c3, c4], _ =>
    obtain ⟨s, e0, f0, _⟩ := DataW.trod_string Tryd.underlying9 h0
    have hs := hr.part Tryd.underlying27 (j := 0) (u := 9) (d := y0.1) rfl rfl
    rw [f0] at hs
    have hs' := hs.str
    obtain ⟨L1, q1, k1, e1, g1, b1, o1, r1⟩ := openColumns h1 (hr.part Tryd.underlying27 (j := 1) (u := 22) (d := y1.1) rfl rfl)
    obtain ⟨L2, q2, k2, e2, g2, b2, _, _, r2⟩ := openInts h2 (hr.part Tryd.underlying27 (j := 2) (u := 23) (d := y2.1) rfl rfl)
    obtain ⟨L3, q3, k3, e3, g3, b3, o3, r3⟩ := openIndexes h3 (hr.part Tryd.underlying27 (j := 3) (u := 24) (d := y3.1) rfl rfl)
    obtain ⟨L4, q4, k4, e4, g4, b4, o4, r4⟩ := openRefs h4 (hr.part Tryd.underlying27 (j := 4) (u := 25) (d := y4.1) rfl rfl)
    simp [Value.cells, cellsS, cellsCs, cellsIs, cellsXs, cellsFs] at e0 e1 e2 e3 e4
    subst e0 e1 e2 e3 e4
    exact ⟨⟨s, L1, L2, L3, L4⟩, ⟨q1, k1, q2, k2, q3, k3, q4, k4⟩, rfl, ⟨by simpa [reachBytes] using hs', by dsimp only; omega, o1, b2, by dsimp only; omega, o3, b4, o4⟩, ⟨r1, r2, r3, r4, g1, g3⟩, b1, b3⟩

/-- A LIST OF VALUES, OPENED. -/
theorem openVals {H : Type} {enc : TypeId × Value → H} {W : World} {b0 : Nat} {v : Value} {d : DataW H} {p : List MemPlace}
    (hv : Value.okWide Tryd.prog W .any b0 28 v) (h : DataW.Trod enc Tryd.prog W 0 (fun _ => true) true 28 v d p) (hr : Reach Tryd.prog 28 d) :
    ∃ (L : List Vl) (q : Option Addr) (c : Nat), v = .slice q L.length c ∧ RowV W W.heap.size q L ∧ (∀ u ∈ L, u.ok) ∧ L.length ≤ c ∧ L.length ≤ 3518437208784 ∧ (q = none → c = 0) := by
  obtain ⟨a0, len, cap, rfl⟩ := okWide_slice Tryd.underlying28 hv
  obtain ⟨fuel, hf⟩ := h
  obtain ⟨L, q, c, e, hl, hb, hq, he⟩ := openList (⟨0, 0, 0, ⟨#[]⟩⟩ : Vl) _ Tryd.underlying28 cellsV (by decide) (fun n cs y h _ => openValue h) hf hr
  rw [bytesV] at hb
  simp only [reachBytes] at hb
  simp [Value.cells] at e
  obtain ⟨rfl, rfl, rfl⟩ := e
  refine ⟨L, a0, cap, rfl, ?_, ?_, hl, by omega, hq⟩
  · intro i hi
    obtain ⟨b, o, e, hb, cs', hQ, _, hc⟩ := he i hi
    have g0 := hc 0 (by decide)
    have g1 := hc 1 (by decide)
    have g2 := hc 2 (by decide)
    have g3 := hc 3 (by decide)
    rw [hQ.1] at g0 g1 g2 g3
    exact ⟨b, o, e, hb, g0, g1, g2, g3⟩
  · intro n hn
    obtain ⟨i, hi, rfl⟩ := List.getElem_of_mem hn
    obtain ⟨_, _, _, _, _, hQ, _⟩ := he i hi
    exact hQ.2
/-- A LIST OF NUMBERS, OPENED. -/
theorem openNums {H : Type} {enc : TypeId × Value → H} {W : World} {b0 : Nat} {v : Value} {d : DataW H} {p : List MemPlace}
    (hv : Value.okWide Tryd.prog W .any b0 23 v) (h : DataW.Trod enc Tryd.prog W 0 (fun _ => true) true 23 v d p) (hr : Reach Tryd.prog 23 d) :
    ∃ (L : List Int) (q : Option Addr) (c : Nat), v = .slice q L.length c ∧ RowI W W.heap.size q L ∧ L.length ≤ c ∧ L.length ≤ 17592186043904 ∧ (q = none → c = 0) := by
  obtain ⟨a0, len, cap, rfl⟩ := okWide_slice Tryd.underlying23 hv
  obtain ⟨fuel, hf⟩ := h
  obtain ⟨L, q, c, e, hl, hb, hq, _, he⟩ := openInts hf hr
  simp [Value.cells] at e
  obtain ⟨rfl, rfl, rfl⟩ := e
  exact ⟨L, a0, cap, rfl, he, hl, hb, hq⟩

end Go.Proofs.YtfknmblobcjapaaDoor

namespace Go.Proofs.YtfknmblobcjapaaDoor
open Go.RowKit
set_option maxRecDepth 100000

/-- the library's tables stand -/
structure Env (w : World) : Prop where
  hg : 3 < w.heap.size
  hT : Lib.Utf8Tabs 2 3 w
theorem Env.on {w w' : World} (h : Env w) (hb : Below w.heap.size w w') : Env w' := ⟨Nat.lt_of_lt_of_le h.hg hb.size, tabs_keep hb h.hg h.hT⟩
abbrev Cl.val (c : Cl) : Value := .agg #[.string c.nm, .int .i64 c.kd, .bool c.nl, .int .i64 c.df.k, .int .i64 c.df.n, .float .f64 c.df.f, .string c.df.s]
theorem errV {a b : Int} (h : a = b) : Ending.returned (.int .i64 a) = Ending.returned (.int .i64 b) := by rw [h]

set_option maxHeartbeats 2000000 in
theorem counts_any (t : Tb) (a : TabP) (w : World) (h1 : t.cs.length ≤ 17592186043904) (h2 : t.ix.length ≤ 17592186043904) (h3 : t.rf.length ≤ 17592186043904) :
    Calls Tryd.prog 29 #[a.val t] w fun e w' => e = .returned (.bool (countsB t)) ∧ Below w.heap.size w w' := by
  have HC : Hid (countsB t = (decide (1 ≤ t.cs.length) && decide (t.cs.length ≤ 64) && decide (t.ix.length ≤ 16) && decide (t.rf.length ≤ 16))) := rfl
  unfold TabP.val
  generalize countsB t = d at *
  generalize t.cs.length = n1 at *
  generalize t.ix.length = n2 at *
  generalize t.rf.length = n3 at *
  generalize t.key.length = n4 at *
  rcases Nat.lt_or_ge n1 1 with c1 | c1
  · go_enter Tryd.func29, Tryd.ntmps29
    go_wp2
    go_ret
    exact ⟨boolV (by rw [HC.out, Bool.eq_iff_iff]; simp <;> omega), by go_grown⟩
  · rcases Nat.lt_or_ge 64 n1 with c2 | c2
    · go_enter Tryd.func29, Tryd.ntmps29
      go_wp2
      go_ret
      exact ⟨boolV (by rw [HC.out, Bool.eq_iff_iff]; simp <;> omega), by go_grown⟩
    · rcases Nat.lt_or_ge 16 n2 with c3 | c3
      all_goals
        go_enter Tryd.func29, Tryd.ntmps29
        go_wp2
        go_ret
        exact ⟨boolV (by rw [HC.out, Bool.eq_iff_iff]; simp <;> omega), by go_grown⟩

set_option maxHeartbeats 2000000 in
theorem default_any (c : Cl) (w : World) (hc : c.df.ok) (hE : Env w) :
    Calls Tryd.prog 42 #[c.val] w fun e w' => e = .returned (.bool (defB c)) ∧ Below w.heap.size w w' := by
  have HC : Hid (defB c = (decide (c.df.chk = 0) && (decide (c.df.k = 0) || decide (c.df.k = c.kd)))) := rfl
  have C1 : Hid (∀ w1, Below w.heap.size w w1 → Calls Tryd.prog 44 #[.agg #[.int .i64 c.df.k, .int .i64 c.df.n, .float .f64 c.df.f, .string c.df.s]] w1 fun e w' => e = .returned (.int .i64 c.df.chk) ∧ Below w1.heap.size w1 w') := fun w1 hb => check_ok c.df w1 hc (hE.on hb).hg (hE.on hb).hT
  generalize defB c = d at *
  generalize c.df.chk = ch at *
  unfold Cl.val
  generalize c.df.k = k at *
  generalize c.df.n = n at *
  generalize c.df.f = f at *
  generalize c.df.s = s at *
  generalize c.kd = kd at *
  generalize c.nm = nm at *
  generalize c.nl = nl at *
  clear hc hE
  have hb0 : Below w.heap.size w (w.alloc (Obj.cells #[Value.string nm, Value.int IntKind.i64 kd, Value.bool nl, Value.int IntKind.i64 k, Value.int IntKind.i64 n, Value.float FloatKind.f64 f, Value.string s] 66)) := by go_grown
  by_cases c1 : ch = 0
  · subst c1
    by_cases c2 : k = 0
    · subst c2
      go_enter Tryd.func42, Tryd.ntmps42
      go_wp2_with fail
      refine (C1.out _ hb0).mono ?_
      rintro e w5 ⟨rfl, hb5⟩
      have x0 : w5.cell? ⟨w.heap.size, 1, none⟩ = some (.int .i64 kd) := (hb5.cell (p := ⟨w.heap.size, 1, none⟩) (by simp)).trans (by simp [go_sem])
      have x1 : w5.cell? ⟨w.heap.size, 3, none⟩ = some (.int .i64 0) := (hb5.cell (p := ⟨w.heap.size, 3, none⟩) (by simp)).trans (by simp [go_sem])
      go_wp2
      go_ret
      exact ⟨boolV (by rw [HC.out, Bool.eq_iff_iff]; simp), hb0.trans (hb5.mono hb0.size)⟩
    · skip
      go_enter Tryd.func42, Tryd.ntmps42
      go_wp2_with fail
      refine (C1.out _ hb0).mono ?_
      rintro e w5 ⟨rfl, hb5⟩
      have x0 : w5.cell? ⟨w.heap.size, 1, none⟩ = some (.int .i64 kd) := (hb5.cell (p := ⟨w.heap.size, 1, none⟩) (by simp)).trans (by simp [go_sem])
      have x1 : w5.cell? ⟨w.heap.size, 3, none⟩ = some (.int .i64 k) := (hb5.cell (p := ⟨w.heap.size, 3, none⟩) (by simp)).trans (by simp [go_sem])
      go_wp2
      go_ret
      exact ⟨boolV (by rw [HC.out, Bool.eq_iff_iff]; simp [c2]), hb0.trans (hb5.mono hb0.size)⟩
  · go_enter Tryd.func42, Tryd.ntmps42
    go_wp2_with fail
    refine (C1.out _ hb0).mono ?_
    rintro e w5 ⟨rfl, hb5⟩
    go_wp2
    go_ret
    exact ⟨boolV (by rw [HC.out, Bool.eq_iff_iff]; simp [c1]), hb0.trans (hb5.mono hb0.size)⟩

end Go.Proofs.YtfknmblobcjapaaDoor

namespace Go.Proofs.YtfknmblobcjapaaDoor
open Go.RowKit
set_option maxRecDepth 100000

/-- a column's box -/
structure BoxC (w : World) (g : Nat) (c : Cl) : Prop where
  hg : g < w.heap.size
  c0 : w.cell? ⟨g, 0, none⟩ = some (.string c.nm)
  c1 : w.cell? ⟨g, 1, none⟩ = some (.int .i64 c.kd)
  c2 : w.cell? ⟨g, 2, none⟩ = some (.bool c.nl)
  c3 : w.cell? ⟨g, 3, none⟩ = some (.int .i64 c.df.k)
  c4 : w.cell? ⟨g, 4, none⟩ = some (.int .i64 c.df.n)
  c5 : w.cell? ⟨g, 5, none⟩ = some (.float .f64 c.df.f)
  c6 : w.cell? ⟨g, 6, none⟩ = some (.string c.df.s)
theorem BoxC.on {w w' : World} {g : Nat} {c : Cl} (h : BoxC w g c) {B : Nat} (hb : Below B w w') (hB : g < B) : BoxC w' g c := by
  have k : ∀ {o : Nat} {v : Option Value}, w.cell? ⟨g, o, none⟩ = v → w'.cell? ⟨g, o, none⟩ = v := fun {o v} hc => (hb.cell (p := ⟨g, o, none⟩) hB).trans hc
  exact ⟨Nat.lt_of_lt_of_le h.hg hb.size, k h.c0, k h.c1, k h.c2, k h.c3, k h.c4, k h.c5, k h.c6⟩
theorem BoxC.new (w : World) (c : Cl) : BoxC (w.alloc (.cells #[.string c.nm, .int .i64 c.kd, .bool c.nl, .int .i64 c.df.k, .int .i64 c.df.n, .float .f64 c.df.f, .string c.df.s] 66)) w.heap.size c := by
  refine ⟨by simp, ?_, ?_, ?_, ?_, ?_, ?_, ?_⟩ <;> simp [go_sem]

set_option maxHeartbeats 2000000 in
theorem checkCol_any (L : List Cl) (p : Option Addr) (cp : Nat) (i : Nat) (hi : i < L.length) (w : World) (hR : RowC w w.heap.size p L) (hlen : L.length ≤ 2513169434845) (hcp : L.length ≤ cp) (hok : ∀ c ∈ L, c.nm.size ≤ 140737488351232 ∧ c.df.ok) (hE : Env w) :
    Calls Tryd.prog 30 #[.slice p L.length cp, .int .i64 (i : Int)] w fun e w' => e = .returned (.int .i64 (colE L i)) ∧ Below w.heap.size w w' := by
  have HA : Hid (RowC _ _ _ _) := hR
  have hc := hok L[i] (List.getElem_mem hi)
  have HC : Hid (colE L i = colE1 (L.take i) L[i]) := colE_at hi
  have HTW : Hid (∀ j (hj : j < i), (L[j].nm.toList == L[i].nm.toList) = true → twinB ((L.take i).map Cl.nm) L[i].nm = true) := by
    intro j hj h
    refine twin_hit (j := j) (by simp; omega) ?_
    simpa using h
  have HTN : Hid (∀ j (hj : j < i), twinB (((L.take i).map Cl.nm).take (j + 1)) L[i].nm = (twinB (((L.take i).map Cl.nm).take j) L[i].nm || (L[j].nm.toList == L[i].nm.toList))) := by
    intro j hj
    have h := twin_take (L := (L.take i).map Cl.nm) (s := L[i].nm) (j := j) (by simp; omega)
    rw [h]
    simp
  have HTE : Hid (((L.take i).map Cl.nm).take i = (L.take i).map Cl.nm) := (show _ = _ from List.take_of_length_le (by simp; omega))
  obtain ⟨b, o, rfl, hbB, a0, a1, a2, a3, a4, a5, a6⟩ := hR i hi
  have CN : Hid (∀ w1, Calls Tryd.prog 28 #[.string L[i].nm] w1 fun e w' => e = .returned (.bool (nameB L[i].nm.data.toList)) ∧ Below w1.heap.size w1 w') := fun w1 => name_any L[i].nm w1 hc.1
  have CD : Hid (∀ w1, Below w.heap.size w w1 → Calls Tryd.prog 42 #[L[i].val] w1 fun e w' => e = .returned (.bool (defB L[i])) ∧ Below w1.heap.size w1 w') := fun w1 hb => default_any L[i] w1 hc.2 (hE.on hb)
  have BN := BoxC.new w L[i]
  have HOK : Hid (∀ c ∈ L, c.nm.size ≤ 140737488351232 ∧ c.df.ok) := hok
  clear hR hok hc hE
  generalize colE L i = d at *
  obtain ⟨c, hcc⟩ : ∃ c, L[i] = c := ⟨_, rfl⟩
  simp only [hcc] at a0 a1 a2 a3 a4 a5 a6 CN CD BN HC HTW HTN
  clear hcc
  unfold Cl.val at CD
  have HBN : Hid (BoxC _ _ _) := BN
  clear BN
  have hsf := run_store_float
  have hb0 : Below w.heap.size w (w.alloc (.cells #[.string c.nm, .int .i64 c.kd, .bool c.nl, .int .i64 c.df.k, .int .i64 c.df.n, .float .f64 c.df.f, .string c.df.s] 66)) := by go_grown
  unfold colE1 at HC
  cases hnm : nameB c.nm.data.toList
  · rw [hnm] at CN HC
    simp only [Bool.false_eq_true, if_false] at HC
    clear hnm
    go_enter Tryd.func30, Tryd.ntmps30
    go_wp2_with fail
    refine (CN.out _).mono ?_
    rintro e w5 ⟨rfl, hb5⟩
    go_wp2
    go_ret
    exact ⟨errV HC.out.symm, hb0.trans (hb5.mono hb0.size)⟩
  · rw [hnm] at CN HC
    simp only [if_true] at HC
    clear hnm
    go_enter Tryd.func30, Tryd.ntmps30
    go_wp2_with fail
    refine (CN.out _).mono ?_
    rintro e w5 ⟨rfl, hb5⟩
    have hB5 : BoxC w5 w.heap.size c := HBN.out.on hb5 (by simp)
    have h05 : Below w.heap.size w w5 := hb0.trans (hb5.mono hb0.size)
    have hz5 : w.heap.size + 1 ≤ w5.heap.size := hB5.hg
    have H5 : Hid (BoxC w5 w.heap.size c ∧ Below w.heap.size w w5) := ⟨hB5, h05⟩
    clear hb5 hB5 h05 CN HBN
    go_wp2_with fail
    go_loopw [20] (fun k wr => ∃ j : Nat, j ≤ i ∧ k = .int .i64 (j : Int) ∧ Hid (twinB (((L.take i).map Cl.nm).take j) c.nm = false) ∧ Below (w.heap.size + 1) w5 wr) (fun k _ => i - (intOf k).toNat)
    case atStart => exact ⟨0, Nat.zero_le _, by go_num, (show _ = _ by simp [twinB]), Below.refl _ _⟩
    case round =>
      obtain ⟨j, hj, rfl, htw, hn⟩ := hrel
      have hBw : BoxC wr w.heap.size c := H5.out.1.on hn (by omega)
      have hbw : Below w.heap.size w wr := H5.out.2.trans (hn.mono (by omega))
      have hzw := hBw.hg
      by_cases hj0 : j = i
      · subst hj0
        rw [HTE.out] at htw
        rw [htw.out] at HC
        simp only [Bool.false_eq_true, if_false] at HC
        obtain ⟨_, c0, c1, c2, c3, c4, c5, c6⟩ := hBw
        have CD' : Hid (Calls Tryd.prog 42 #[.agg #[.string c.nm, .int .i64 c.kd, .bool c.nl, .int .i64 c.df.k, .int .i64 c.df.n, .float .f64 c.df.f, .string c.df.s]] wr fun e w' => e = .returned (.bool (defB c)) ∧ Below wr.heap.size wr w') := CD.out wr hbw
        clear CD HTW HTN HTE HA HOK
        generalize defB c = db at *
        rcases (by omega : c.kd < 1 ∨ 5 < c.kd ∨ (1 ≤ c.kd ∧ c.kd ≤ 5)) with h1 | h1 | ⟨h1, h2⟩
        · have hd : Hid (d = 32) := by
            have e : decide (1 ≤ c.kd) = false := by simp; omega
            rw [e] at HC; exact HC
          clear HC
          go_wp2
          go_ret
          exact ⟨errV hd.out.symm, hbw⟩
        · have hd : Hid (d = 32) := by
            have e : decide (c.kd ≤ 5) = false := by simp; omega
            rw [e, Bool.and_false] at HC; exact HC
          clear HC
          go_wp2
          go_ret
          exact ⟨errV hd.out.symm, hbw⟩
        · rw [decide_eq_true h1, decide_eq_true h2, Bool.true_and, Bool.true_and] at HC
          cases db
          all_goals
            go_wp2_with fail
            refine CD'.out.mono ?_
            rintro e w6 ⟨rfl, hb6⟩
            go_wp2
            go_ret
            exact ⟨errV HC.out.symm, hbw.trans (hb6.mono hbw.size)⟩
      · have hj1 : j < i := by omega
        obtain ⟨b', o', eb, hbB', x0, x1, x2, x3, x4, x5, x6⟩ := HA.out j (by omega)
        injection eb with eb
        injection eb with eb1 eb2
        subst eb1 eb2
        have k : ∀ {o : Nat} {v : Option Value}, w.cell? ⟨b, o, none⟩ = v → wr.cell? ⟨b, o, none⟩ = v := fun {o v} hc => (hbw.cell (p := ⟨b, o, none⟩) hbB).trans hc
        have y0 := k x0
        have y1 := k x1
        have y2 := k x2
        have y3 := k x3
        have y4 := k x4
        have y5 := k x5
        have y6 := k x6
        have c0 := hBw.c0
        have hhit := HTW.out j hj1
        have hnext := HTN.out j hj1
        rw [htw.out, Bool.false_or] at hnext
        clear k x0 x1 x2 x3 x4 x5 x6 hBw
        generalize L[j] = u at *
        obtain ⟨un, uk, ul, ⟨v1, v2, v3, v4⟩⟩ := u
        dsimp only at y0 y1 y2 y3 y4 y5 y6 hhit hnext
        cases hsame : (un.toList == c.nm.toList)
        · rw [hsame] at hnext
          have HX : Hid (_ = _) := hnext
          clear hhit hnext
          go_wp2_with fail
          go_roundw
          case rel => exact ⟨j + 1, hj1, by go_num, HX, (hn.alloc hzw _)⟩
          case measure => simp [intOf]; omega
        · have h31 := hhit hsame
          rw [h31] at HC
          simp only [if_true] at HC
          clear hhit hnext h31
          go_wp2
          go_ret
          exact ⟨errV HC.out.symm, hbw.alloc (by omega) _⟩

end Go.Proofs.YtfknmblobcjapaaDoor
