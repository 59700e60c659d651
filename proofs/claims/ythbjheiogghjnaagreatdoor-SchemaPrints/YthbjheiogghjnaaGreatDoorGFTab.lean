/- Tables opened. The walks of what a column, an index, a reference may be. -/
import Derived.Test.YthbjheiogghjnaaGreatDoorGFOpen
import Derived.Test.YthbjheiogghjnaaGreatDoorGWTab
namespace Go.Proofs.YthbjheiogghjnaaGreatDoor
open Go.ChangeShapes Go.WideShapes Go.ChangeAt Go.RowKit Go.Joins Go.Deep
set_option maxRecDepth 100000

theorem cellsV : Tryz.prog.cellsOf 38 = 4 := by kernel_rfl
theorem cellsC : Tryz.prog.cellsOf 40 = 7 := by kernel_rfl
theorem cellsX : Tryz.prog.cellsOf 44 = 3 := by kernel_rfl
theorem cellsF : Tryz.prog.cellsOf 47 = 2 := by kernel_rfl
theorem cellsT : Tryz.prog.cellsOf 27 = 5 := by kernel_rfl
theorem cellsI : Tryz.prog.cellsOf 3 = 1 := by kernel_rfl
theorem cellsS : Tryz.prog.cellsOf 9 = 1 := by kernel_rfl
theorem cellsB : Tryz.prog.cellsOf 4 = 1 := by kernel_rfl
theorem cellsN : Tryz.prog.cellsOf 2 = 1 := by kernel_rfl
theorem cellsFl : Tryz.prog.cellsOf 36 = 1 := by kernel_rfl
theorem cellsIs : Tryz.prog.cellsOf 23 = 1 := by kernel_rfl
theorem cellsCs : Tryz.prog.cellsOf 22 = 1 := by kernel_rfl
theorem cellsXs : Tryz.prog.cellsOf 24 = 1 := by kernel_rfl
theorem cellsFs : Tryz.prog.cellsOf 25 = 1 := by kernel_rfl
theorem bytesV : Tryz.prog.bytesOf 38 = 40 := by kernel_rfl
theorem bytesC : Tryz.prog.bytesOf 40 = 72 := by kernel_rfl
theorem bytesX : Tryz.prog.bytesOf 44 = 48 := by kernel_rfl
theorem bytesF : Tryz.prog.bytesOf 47 = 40 := by kernel_rfl
theorem bytesI : Tryz.prog.bytesOf 3 = 8 := by kernel_rfl

section
variable {H : Type} {enc : TypeId × Value → H} {W : World} {fuel : Nat} {cs : List Value} {x : DataW H × List MemPlace}
theorem openValue (h : DataW.trod enc Tryz.prog W 0 (fun _ => true) true fuel 38 cs = some x) : ∃ v : Vl, cs = [.int .i64 v.k, .int .i64 v.n, .float .f64 v.f, .string v.s] ∧ v.ok := by
  obtain ⟨y0, y1, y2, y3, n, _, hl, h0, h1, h2, h3⟩ := trod_struct4 Tryz.underlying38 h
  rw [cellsV] at hl
  match cs, hl with
  | [c0, c1, c2, c3], _ =>
    obtain ⟨k, e0, _, w0⟩ := DataW.trod_int Tryz.underlying3 h0
    obtain ⟨m, e1, _, w1⟩ := DataW.trod_int Tryz.underlying2 h1
    obtain ⟨f, e2, _, w2⟩ := trod_float Tryz.underlying36 h2
    obtain ⟨s, e3, _, w3⟩ := DataW.trod_string Tryz.underlying9 h3
    simp [cellsI, cellsN, cellsFl, cellsS] at e0 e1 e2 e3
    subst e0 e1 e2 e3
    exact ⟨⟨k, m, f, s⟩, rfl, wf_i64 w0, wf_i64 w1, wf_f64 w2, by unfold maxLen at w3; exact w3⟩
theorem openColumn (h : DataW.trod enc Tryz.prog W 0 (fun _ => true) true fuel 40 cs = some x) (hr : Reach Tryz.prog 40 x.1) :
    ∃ c : Cl, cs = [.string c.nm, .int .i64 c.kd, .bool c.nl, .int .i64 c.df.k, .int .i64 c.df.n, .float .f64 c.df.f, .string c.df.s] ∧ c.nm.size ≤ 140737488351232 ∧ c.df.ok := by
  obtain ⟨y0, y1, y2, y3, n, hx, hl, h0, h1, h2, h3⟩ := trod_struct4 Tryz.underlying40 h
  subst hx
  rw [cellsC] at hl
  match cs, hl with
  | [c0, c1, c2, c3, c4, c5, c6], _ =>
    obtain ⟨s, e0, f0, _⟩ := DataW.trod_string Tryz.underlying9 h0
    obtain ⟨k, e1, _, _⟩ := DataW.trod_int Tryz.underlying3 h1
    obtain ⟨b, e2, _⟩ := DataW.trod_bool Tryz.underlying4 h2
    obtain ⟨v, e3, hv⟩ := openValue h3
    have hs := hr.part Tryz.underlying40 (j := 0) (u := 9) (d := y0.1) rfl rfl
    rw [f0] at hs
    have hs' := hs.str
    simp [cellsI, cellsB, cellsS, cellsV] at e0 e1 e2 e3
    obtain ⟨rfl, rfl, rfl, rfl⟩ := e3
    subst e0 e1 e2
    exact ⟨⟨s, k, b, v⟩, rfl, by simpa [reachBytes] using hs', hv⟩
theorem openInts (h : DataW.trod enc Tryz.prog W 0 (fun _ => true) true fuel 23 cs = some x) (hr : Reach Tryz.prog 23 x.1) :
    ∃ (L : List Int) (q : Option Addr) (c : Nat), cs = [.slice q L.length c] ∧ L.length ≤ c ∧ L.length ≤ 17592186043904 ∧ (q = none → c = 0) ∧ (∀ n ∈ L, -9223372036854775808 ≤ n ∧ n ≤ 9223372036854775807) ∧ RowI W W.heap.size q L := by
  obtain ⟨L, q, c, e, hl, hb, hq, he⟩ := openList (0 : Int) (fun cs n => cs = [.int .i64 n] ∧ -9223372036854775808 ≤ n ∧ n ≤ 9223372036854775807) Tryz.underlying23 cellsI (by decide) (fun n cs y h _ => by
    obtain ⟨k, e0, _, w0⟩ := DataW.trod_int Tryz.underlying3 h
    exact ⟨k, e0, wf_i64 w0⟩) h hr
  rw [bytesI] at hb
  simp only [reachBytes] at hb
  refine ⟨L, q, c, e, hl, by omega, hq, ?_, ?_⟩
  · intro n hn
    obtain ⟨i, hi, rfl⟩ := List.getElem_of_mem hn
    obtain ⟨_, _, _, _, _, hQ, _⟩ := he i hi
    exact hQ.2
  · intro i hi
    obtain ⟨b, o, e, hb, cs', hQ, _, hc⟩ := he i hi
    have := hc 0 (by decide)
    rw [hQ.1] at this
    exact ⟨b, o, e, hb, by simpa using this⟩
theorem openIndex (h : DataW.trod enc Tryz.prog W 0 (fun _ => true) true fuel 44 cs = some x) (hr : Reach Tryz.prog 44 x.1) :
    ∃ u : Ix, ∃ q c, cs = [.string u.nm, .slice q u.cs.length c, .bool u.un] ∧ RowI W W.heap.size q u.cs ∧ u.nm.size ≤ 140737488351232 ∧ u.cs.length ≤ 17592186043904 := by
  obtain ⟨y0, y1, y2, n, hx, hl, h0, h1, h2⟩ := trod_struct3 Tryz.underlying44 h
  subst hx
  rw [cellsX] at hl
  match cs, hl with
  | [c0, c1, c2], _ =>
    obtain ⟨s, e0, f0, _⟩ := DataW.trod_string Tryz.underlying9 h0
    obtain ⟨b, e2, _⟩ := DataW.trod_bool Tryz.underlying4 h2
    have hs := hr.part Tryz.underlying44 (j := 0) (u := 9) (d := y0.1) rfl rfl
    rw [f0] at hs
    have hs' := hs.str
    obtain ⟨L, q, c, e1, _, hb, _, _, hR⟩ := openInts h1 (hr.part Tryz.underlying44 (j := 1) (u := 23) (d := y1.1) rfl rfl)
    simp [cellsB, cellsS, cellsIs] at e0 e1 e2
    subst e0 e1 e2
    exact ⟨⟨s, L, b⟩, q, c, rfl, hR, by simpa [reachBytes] using hs', hb⟩
theorem openRef (h : DataW.trod enc Tryz.prog W 0 (fun _ => true) true fuel 47 cs = some x) (hr : Reach Tryz.prog 47 x.1) :
    ∃ u : Rf, ∃ q c, cs = [.slice q u.cs.length c, .string u.tb] ∧ RowI W W.heap.size q u.cs ∧ u.tb.size ≤ 140737488351232 ∧ u.cs.length ≤ 17592186043904 := by
  obtain ⟨y0, y1, n, hx, hl, h0, h1⟩ := trod_struct2 Tryz.underlying47 h
  subst hx
  rw [cellsF] at hl
  match cs, hl with
  | [c0, c1], _ =>
    obtain ⟨s, e1, f1, _⟩ := DataW.trod_string Tryz.underlying9 h1
    have hs := hr.part Tryz.underlying47 (j := 1) (u := 9) (d := y1.1) rfl rfl
    rw [f1] at hs
    have hs' := hs.str
    obtain ⟨L, q, c, e0, _, hb, _, _, hR⟩ := openInts h0 (hr.part Tryz.underlying47 (j := 0) (u := 23) (d := y0.1) rfl rfl)
    simp [cellsS, cellsIs] at e0 e1
    subst e0 e1
    exact ⟨⟨L, s⟩, q, c, rfl, hR, by simpa [reachBytes] using hs', hb⟩
theorem openColumns (h : DataW.trod enc Tryz.prog W 0 (fun _ => true) true fuel 22 cs = some x) (hr : Reach Tryz.prog 22 x.1) :
    ∃ (L : List Cl) (q : Option Addr) (c : Nat), cs = [.slice q L.length c] ∧ L.length ≤ c ∧ L.length ≤ 1954687338211 ∧ (∀ u ∈ L, u.nm.size ≤ 140737488351232 ∧ u.df.ok) ∧ RowC W W.heap.size q L := by
  obtain ⟨L, q, c, e, hl, hb, hq, he⟩ := openList (⟨⟨#[]⟩, 0, false, ⟨0, 0, 0, ⟨#[]⟩⟩⟩ : Cl) _ Tryz.underlying22 cellsC (by decide) (fun n cs y h hr => openColumn h hr) h hr
  rw [bytesC] at hb
  simp only [reachBytes] at hb
  refine ⟨L, q, c, e, hl, by omega, ?_, ?_⟩
  · intro n hn
    obtain ⟨i, hi, rfl⟩ := List.getElem_of_mem hn
    obtain ⟨_, _, _, _, _, hQ, _⟩ := he i hi
    exact hQ.2
  · intro i hi
    obtain ⟨b, o, e, hb, cs', hQ, _, hc⟩ := he i hi
    have g0 := hc 0 (by decide)
    have g1 := hc 1 (by decide)
    have g2 := hc 2 (by decide)
    have g3 := hc 3 (by decide)
    have g4 := hc 4 (by decide)
    have g5 := hc 5 (by decide)
    have g6 := hc 6 (by decide)
    rw [hQ.1] at g0 g1 g2 g3 g4 g5 g6
    exact ⟨b, o, e, hb, g0, g1, g2, g3, g4, g5, g6⟩
theorem openIndexes (h : DataW.trod enc Tryz.prog W 0 (fun _ => true) true fuel 24 cs = some x) (hr : Reach Tryz.prog 24 x.1) :
    ∃ (L : List Ix) (q : Option Addr) (c : Nat), cs = [.slice q L.length c] ∧ L.length ≤ c ∧ L.length ≤ 2932031007317 ∧ (∀ u ∈ L, u.nm.size ≤ 140737488351232 ∧ u.cs.length ≤ 17592186043904) ∧ RowX W W.heap.size q L := by
  obtain ⟨L, q, c, e, hl, hb, hq, he⟩ := openList (⟨⟨#[]⟩, [], false⟩ : Ix) _ Tryz.underlying24 cellsX (by decide) (fun n cs y h hr => openIndex h hr) h hr
  rw [bytesX] at hb
  simp only [reachBytes] at hb
  refine ⟨L, q, c, e, hl, by omega, ?_, ?_⟩
  · intro n hn
    obtain ⟨i, hi, rfl⟩ := List.getElem_of_mem hn
    obtain ⟨_, _, _, _, _, ⟨_, _, hQ⟩, _⟩ := he i hi
    exact hQ.2.2
  · intro i hi
    obtain ⟨b, o, e, hb, cs', ⟨q', c', hQ⟩, _, hc⟩ := he i hi
    have g0 := hc 0 (by decide)
    have g1 := hc 1 (by decide)
    have g2 := hc 2 (by decide)
    rw [hQ.1] at g0 g1 g2
    exact ⟨b, o, e, hb, g0, ⟨q', c', g1, hQ.2.1⟩, g2⟩
theorem openRefs (h : DataW.trod enc Tryz.prog W 0 (fun _ => true) true fuel 25 cs = some x) (hr : Reach Tryz.prog 25 x.1) :
    ∃ (L : List Rf) (q : Option Addr) (c : Nat), cs = [.slice q L.length c] ∧ L.length ≤ c ∧ L.length ≤ 3518437208784 ∧ (∀ u ∈ L, u.tb.size ≤ 140737488351232 ∧ u.cs.length ≤ 17592186043904) ∧ RowF W W.heap.size q L := by
  obtain ⟨L, q, c, e, hl, hb, hq, he⟩ := openList (⟨[], ⟨#[]⟩⟩ : Rf) _ Tryz.underlying25 cellsF (by decide) (fun n cs y h hr => openRef h hr) h hr
  rw [bytesF] at hb
  simp only [reachBytes] at hb
  refine ⟨L, q, c, e, hl, by omega, ?_, ?_⟩
  · intro n hn
    obtain ⟨i, hi, rfl⟩ := List.getElem_of_mem hn
    obtain ⟨_, _, _, _, _, ⟨_, _, hQ⟩, _⟩ := he i hi
    exact hQ.2.2
  · intro i hi
    obtain ⟨b, o, e, hb, cs', ⟨q', c', hQ⟩, _, hc⟩ := he i hi
    have g0 := hc 0 (by decide)
    have g1 := hc 1 (by decide)
    rw [hQ.1] at g0 g1
    exact ⟨b, o, e, hb, ⟨q', c', g0, hQ.2.1⟩, g1⟩
end

/-- A TABLE, OPENED. -/
theorem openTable {H : Type} {enc : TypeId × Value → H} {W : World} {b0 : Nat} {v : Value} {d : DataW H} {p : List MemPlace}
    (hv : Value.okWide Tryz.prog W .any b0 27 v) (h : DataW.Trod enc Tryz.prog W 0 (fun _ => true) true 27 v d p) (hr : Reach Tryz.prog 27 d) :
    ∃ (t : Tb) (a : TabP), v = a.val t ∧ t.ok ∧ TabV W W.heap.size t a ∧ t.cs.length ≤ 1954687338211 ∧ t.ix.length ≤ 2932031007317 := by
  obtain ⟨cs, rfl, hsz⟩ := okWide_struct Tryz.underlying27 hv
  obtain ⟨fuel, hf⟩ := h
  obtain ⟨y0, y1, y2, y3, y4, n, hx, hl, h0, h1, h2, h3, h4⟩ := trod_struct5 Tryz.underlying27 hf
  dsimp only at hx
  subst hx
  rw [cellsT] at hsz
  obtain ⟨cs⟩ := cs
  match cs, hsz with
  | [c0, c1, c2, c3, c4], _ =>
    obtain ⟨s, e0, f0, _⟩ := DataW.trod_string Tryz.underlying9 h0
    have hs := hr.part Tryz.underlying27 (j := 0) (u := 9) (d := y0.1) rfl rfl
    rw [f0] at hs
    have hs' := hs.str
    obtain ⟨L1, q1, k1, e1, g1, b1, o1, r1⟩ := openColumns h1 (hr.part Tryz.underlying27 (j := 1) (u := 22) (d := y1.1) rfl rfl)
    obtain ⟨L2, q2, k2, e2, g2, b2, _, _, r2⟩ := openInts h2 (hr.part Tryz.underlying27 (j := 2) (u := 23) (d := y2.1) rfl rfl)
    obtain ⟨L3, q3, k3, e3, g3, b3, o3, r3⟩ := openIndexes h3 (hr.part Tryz.underlying27 (j := 3) (u := 24) (d := y3.1) rfl rfl)
    obtain ⟨L4, q4, k4, e4, g4, b4, o4, r4⟩ := openRefs h4 (hr.part Tryz.underlying27 (j := 4) (u := 25) (d := y4.1) rfl rfl)
    simp [Value.cells, cellsS, cellsCs, cellsIs, cellsXs, cellsFs] at e0 e1 e2 e3 e4
    subst e0 e1 e2 e3 e4
    exact ⟨⟨s, L1, L2, L3, L4⟩, ⟨q1, k1, q2, k2, q3, k3, q4, k4⟩, rfl, ⟨by simpa [reachBytes] using hs', by dsimp only; omega, o1, b2, by dsimp only; omega, o3, b4, o4⟩, ⟨r1, r2, r3, r4, g1, g3⟩, b1, b3⟩

/-- A LIST OF VALUES, OPENED. -/
theorem openVals {H : Type} {enc : TypeId × Value → H} {W : World} {b0 : Nat} {v : Value} {d : DataW H} {p : List MemPlace}
    (hv : Value.okWide Tryz.prog W .any b0 54 v) (h : DataW.Trod enc Tryz.prog W 0 (fun _ => true) true 54 v d p) (hr : Reach Tryz.prog 54 d) :
    ∃ (L : List Vl) (q : Option Addr) (c : Nat), v = .slice q L.length c ∧ RowV W W.heap.size q L ∧ (∀ u ∈ L, u.ok) ∧ L.length ≤ c ∧ L.length ≤ 3518437208784 ∧ (q = none → c = 0) := by
  obtain ⟨a0, len, cap, rfl⟩ := okWide_slice Tryz.underlying54 hv
  obtain ⟨fuel, hf⟩ := h
  obtain ⟨L, q, c, e, hl, hb, hq, he⟩ := openList (⟨0, 0, 0, ⟨#[]⟩⟩ : Vl) _ Tryz.underlying54 cellsV (by decide) (fun n cs y h _ => openValue h) hf hr
  rw [bytesV] at hb
  simp only [reachBytes] at hb
  simp [Value.cells] at e
  obtain ⟨rfl, rfl, rfl⟩ := e
  refine ⟨L, a0, cap, rfl, ?_, ?_, hl, by omega, hq⟩
  · intro i hi
    obtain ⟨b, o, e, hb, cs', hQ, _, hc⟩ := he i hi
    have g0 := hc 0 (by decide)
    have g1 := hc 1 (by decide)
    have g2 := hc 2 (by decide)
    have g3 := hc 3 (by decide)
    rw [hQ.1] at g0 g1 g2 g3
    exact ⟨b, o, e, hb, g0, g1, g2, g3⟩
  · intro n hn
    obtain ⟨i, hi, rfl⟩ := List.getElem_of_mem hn
    obtain ⟨_, _, _, _, _, hQ, _⟩ := he i hi
    exact hQ.2
/-- A LIST OF NUMBERS, OPENED. -/
theorem openNums {H : Type} {enc : TypeId × Value → H} {W : World} {b0 : Nat} {v : Value} {d : DataW H} {p : List MemPlace}
    (hv : Value.okWide Tryz.prog W .any b0 23 v) (h : DataW.Trod enc Tryz.prog W 0 (fun _ => true) true 23 v d p) (hr : Reach Tryz.prog 23 d) :
    ∃ (L : List Int) (q : Option Addr) (c : Nat), v = .slice q L.length c ∧ RowI W W.heap.size q L ∧ L.length ≤ c ∧ L.length ≤ 17592186043904 ∧ (q = none → c = 0) := by
  obtain ⟨a0, len, cap, rfl⟩ := okWide_slice Tryz.underlying23 hv
  obtain ⟨fuel, hf⟩ := h
  obtain ⟨L, q, c, e, hl, hb, hq, _, he⟩ := openInts hf hr
  simp [Value.cells] at e
  obtain ⟨rfl, rfl, rfl⟩ := e
  exact ⟨L, a0, cap, rfl, he, hl, hb, hq⟩

end Go.Proofs.YthbjheiogghjnaaGreatDoor

namespace Go.Proofs.YthbjheiogghjnaaGreatDoor
open Go.RowKit
set_option maxRecDepth 100000

/-- the library's tables stand -/
structure Env (w : World) : Prop where
  hg : 3 < w.heap.size
  hT : Lib.Utf8Tabs 2 3 w
theorem Env.on {w w' : World} (h : Env w) (hb : Below w.heap.size w w') : Env w' := ⟨Nat.lt_of_lt_of_le h.hg hb.size, tabs_keep hb h.hg h.hT⟩
abbrev Cl.val (c : Cl) : Value := .agg #[.string c.nm, .int .i64 c.kd, .bool c.nl, .int .i64 c.df.k, .int .i64 c.df.n, .float .f64 c.df.f, .string c.df.s]
theorem errV {a b : Int} (h : a = b) : Ending.returned (.int .i64 a) = Ending.returned (.int .i64 b) := by rw [h]

set_option maxHeartbeats 2000000 in
theorem counts_any (t : Tb) (a : TabP) (w : World) (h1 : t.cs.length ≤ 17592186043904) (h2 : t.ix.length ≤ 17592186043904) (h3 : t.rf.length ≤ 17592186043904) :
    Calls Tryz.prog 22 #[a.val t] w fun e w' => e = .returned (.bool (countsB t)) ∧ Below w.heap.size w w' := by
  have HC : Hid (countsB t = (decide (1 ≤ t.cs.length) && decide (t.cs.length ≤ 64) && decide (t.ix.length ≤ 16) && decide (t.rf.length ≤ 16))) := rfl
  unfold TabP.val
  generalize countsB t = d at *
  generalize t.cs.length = n1 at *
  generalize t.ix.length = n2 at *
  generalize t.rf.length = n3 at *
  generalize t.key.length = n4 at *
  rcases Nat.lt_or_ge n1 1 with c1 | c1
  · go_enter Tryz.func22, Tryz.ntmps22
    go_wp2
    go_ret
    exact ⟨boolV (by rw [HC.out, Bool.eq_iff_iff]; simp <;> omega), by go_grown⟩
  · rcases Nat.lt_or_ge 64 n1 with c2 | c2
    · go_enter Tryz.func22, Tryz.ntmps22
      go_wp2
      go_ret
      exact ⟨boolV (by rw [HC.out, Bool.eq_iff_iff]; simp <;> omega), by go_grown⟩
    · rcases Nat.lt_or_ge 16 n2 with c3 | c3
      all_goals
        go_enter Tryz.func22, Tryz.ntmps22
        go_wp2
        go_ret
        exact ⟨boolV (by rw [HC.out, Bool.eq_iff_iff]; simp <;> omega), by go_grown⟩

set_option maxHeartbeats 2000000 in
theorem default_any (c : Cl) (w : World) (hc : c.df.ok) (hE : Env w) :
    Calls Tryz.prog 42 #[c.val] w fun e w' => e = .returned (.bool (defB c)) ∧ Below w.heap.size w w' := by
  have HC : Hid (defB c = (decide (c.df.chk = 0) && (decide (c.df.k = 0) || decide (c.df.k = c.kd)))) := rfl
  have C1 : Hid (∀ w1, Below w.heap.size w w1 → Calls Tryz.prog 43 #[.agg #[.int .i64 c.df.k, .int .i64 c.df.n, .float .f64 c.df.f, .string c.df.s]] w1 fun e w' => e = .returned (.int .i64 c.df.chk) ∧ Below w1.heap.size w1 w') := fun w1 hb => check_ok c.df w1 hc (hE.on hb).hg (hE.on hb).hT
  generalize defB c = d at *
  generalize c.df.chk = ch at *
  unfold Cl.val
  generalize c.df.k = k at *
  generalize c.df.n = n at *
  generalize c.df.f = f at *
  generalize c.df.s = s at *
  generalize c.kd = kd at *
  generalize c.nm = nm at *
  generalize c.nl = nl at *
  clear hc hE
  have hb0 : Below w.heap.size w (w.alloc (Obj.cells #[Value.string nm, Value.int IntKind.i64 kd, Value.bool nl, Value.int IntKind.i64 k, Value.int IntKind.i64 n, Value.float FloatKind.f64 f, Value.string s] 40)) := by go_grown
  by_cases c1 : ch = 0
  · subst c1
    by_cases c2 : k = 0
    · subst c2
      go_enter Tryz.func42, Tryz.ntmps42
      go_wp2_with fail
      refine (C1.out _ hb0).mono ?_
      rintro e w5 ⟨rfl, hb5⟩
      have x0 : w5.cell? ⟨w.heap.size, 1, none⟩ = some (.int .i64 kd) := (hb5.cell (p := ⟨w.heap.size, 1, none⟩) (by simp)).trans (by simp [go_sem])
      have x1 : w5.cell? ⟨w.heap.size, 3, none⟩ = some (.int .i64 0) := (hb5.cell (p := ⟨w.heap.size, 3, none⟩) (by simp)).trans (by simp [go_sem])
      go_wp2
      go_ret
      exact ⟨boolV (by rw [HC.out, Bool.eq_iff_iff]; simp), hb0.trans (hb5.mono hb0.size)⟩
    · skip
      go_enter Tryz.func42, Tryz.ntmps42
      go_wp2_with fail
      refine (C1.out _ hb0).mono ?_
      rintro e w5 ⟨rfl, hb5⟩
      have x0 : w5.cell? ⟨w.heap.size, 1, none⟩ = some (.int .i64 kd) := (hb5.cell (p := ⟨w.heap.size, 1, none⟩) (by simp)).trans (by simp [go_sem])
      have x1 : w5.cell? ⟨w.heap.size, 3, none⟩ = some (.int .i64 k) := (hb5.cell (p := ⟨w.heap.size, 3, none⟩) (by simp)).trans (by simp [go_sem])
      go_wp2
      go_ret
      exact ⟨boolV (by rw [HC.out, Bool.eq_iff_iff]; simp [c2]), hb0.trans (hb5.mono hb0.size)⟩
  · go_enter Tryz.func42, Tryz.ntmps42
    go_wp2_with fail
    refine (C1.out _ hb0).mono ?_
    rintro e w5 ⟨rfl, hb5⟩
    go_wp2
    go_ret
    exact ⟨boolV (by rw [HC.out, Bool.eq_iff_iff]; simp [c1]), hb0.trans (hb5.mono hb0.size)⟩

end Go.Proofs.YthbjheiogghjnaaGreatDoor
