/- The walks of Put, Back, Fold. -/
import Derived.Test.YteddpogjpohacabWTop8
namespace Go.Proofs.Yteddpogjpohacab
open Go.RowKit
set_option maxRecDepth 100000

/-- what Put tells -/
def putB (tx : Int) (W : List Rw) (v : Rw) : Bool := decide (v.n < 0) || abvL W v.n || (v.gn && decide (0 < v.row.length)) || decide (tx < 1)
def putE (tx : Int) (W : List Rw) (v : Rw) : Int := if putB tx W v then 1 else 0
def putT (tx : Int) (W : List Rw) (v : Rw) : Int := if putB tx W v then 0 else tx
def putL (tx : Int) (W : List Rw) (v : Rw) : List Rw := if putB tx W v then [] else belL W v.n ++ [v]
theorem put_bad {tx : Int} {W : List Rw} {v : Rw} (h : putB tx W v = true) : putE tx W v = 1 ∧ putT tx W v = 0 ∧ putL tx W v = [] := by
  unfold putE putT putL
  rw [h]
  exact ⟨rfl, rfl, rfl⟩
theorem put_ok {tx : Int} {W : List Rw} {v : Rw} (h : putB tx W v = false) : putE tx W v = 0 ∧ putT tx W v = tx ∧ putL tx W v = belL W v.n ++ [v] := by
  unfold putE putT putL
  rw [h]
  exact ⟨rfl, rfl, rfl⟩
/-- what Back tells -/
def bakT (tx : Int) (W : List Rw) (s : Int) : Int := if (belL W s).length = 0 then 0 else tx
/-- what Fold tells -/
def fldE (s : Int) : Int := if s < 1 then 1 else 0
def fldT (tx s : Int) : Int := if s < 1 then 0 else tx
def fldL (W : List Rw) (s : Int) : List Rw := if s < 1 then [] else if abvL W (s - 1) then (match W[W.length - 1]? with | none => [] | some v => belL W (s - 1) ++ [⟨s - 1, v.gn, v.row⟩]) else belL W s
theorem abv_len {W : List Rw} {s : Int} (h : abvL W s = true) : 0 < W.length := by
  cases W with
  | nil => cases h
  | cons => simp

set_option maxHeartbeats 8000000 in
theorem put_any (W : List Rw) (p : Option Addr) (c : Nat) (tx n : Int) (g : Bool) (row : List Vl) (q : Option Addr) (d : Nat) (w : World) (hR : RdR .i64 w w.heap.size p W) (hV : SlV w w.heap.size (.slice q row.length d) row) (hlen : W.length ≤ 3518437208780) (hsh : shortR W) (hrow : row.length ≤ 3518437208780) :
    Calls Try.prog 12 #[.agg #[.int .i64 tx, .slice p W.length c], .agg #[.int .i64 n, .bool g, .slice q row.length d]] w fun e w' => (∃ v Z, e = .returned (.tuple #[.agg #[.int .i64 (putT tx W ⟨n, g, row⟩), v], .int .i64 (putE tx W ⟨n, g, row⟩)]) ∧ Z.map Prod.fst = putL tx W ⟨n, g, row⟩ ∧ OwnRs .i64 40 w' w.heap.size v Z) ∧ Below w.heap.size w w' := by
  have HR : Hid (∀ w1, Below w.heap.size w w1 → RdR .i64 w1 w1.heap.size p W) := fun w1 h => hR.on h
  have HV : Hid (∀ w1, Below w.heap.size w w1 → SlV w1 w1.heap.size (.slice q row.length d) row) := fun w1 h => (hV.keep h).mono h.size
  have CA : Hid (∀ w1, Below w.heap.size w w1 → Calls Try.prog 24 #[.slice p W.length c, .int .i64 n] w1 fun e w' => e = .returned (.bool (abvL W n)) ∧ Below w1.heap.size w1 w') := fun w1 h => above_any W p c n w1 (HR.out w1 h) (by omega)
  have CG : Hid (∀ w1 : World, Calls Try.prog 25 #[.bool g, .slice q row.length d] w1 fun e w' => e = .returned (.bool (g && decide (0 < row.length))) ∧ w' = w1) := fun w1 => gone_any _ _ _ _ w1
  have CT : Hid (∀ w1, Below w.heap.size w w1 → Calls Try.prog 26 #[.agg #[.int .i64 tx, .slice p W.length c], .agg #[.int .i64 n, .bool g, .slice q row.length d]] w1 fun e w' => (∃ v Z, e = .returned (.agg #[.int .i64 tx, v]) ∧ Z.map Prod.fst = belL W n ++ [⟨n, g, row⟩] ∧ OwnRs .i64 40 w' w1.heap.size v Z) ∧ Below w1.heap.size w1 w') := fun w1 h => topped_any W p c tx n g row q d w1 (HR.out w1 h) (HV.out w1 h) hlen hsh hrow
  have HPB : Hid (putB tx W ⟨n, g, row⟩ = (decide (n < 0) || abvL W n || (g && decide (0 < row.length)) || decide (tx < 1))) := rfl
  have HBad : Hid (putB tx W ⟨n, g, row⟩ = true → putE tx W ⟨n, g, row⟩ = 1 ∧ putT tx W ⟨n, g, row⟩ = 0 ∧ putL tx W ⟨n, g, row⟩ = []) := put_bad
  have HOk : Hid (putB tx W ⟨n, g, row⟩ = false → putE tx W ⟨n, g, row⟩ = 0 ∧ putT tx W ⟨n, g, row⟩ = tx ∧ putL tx W ⟨n, g, row⟩ = belL W n ++ [⟨n, g, row⟩]) := put_ok
  clear hR hV hsh hrow HR HV
  generalize row.length = rl at *
  generalize abvL W n = ab at *
  generalize putB tx W ⟨n, g, row⟩ = pb at *
  generalize putE tx W ⟨n, g, row⟩ = pe at *
  generalize putT tx W ⟨n, g, row⟩ = pt at *
  generalize putL tx W ⟨n, g, row⟩ = pl at *
  have hx1 := ((Box.new w #[.int .i64 tx, .slice p W.length c] 36).on ((Below.refl _ _).alloc (Nat.le_refl _) (.cells #[.int .i64 n, .bool g, .slice q rl d] 40))).on ((Below.refl _ _).alloc (Nat.le_refl _) (.cells #[.int .i64 0, .slice none 0 0] 36))
  have hx2 := (Box.new (w.alloc (.cells #[.int .i64 tx, .slice p W.length c] 36)) #[.int .i64 n, .bool g, .slice q rl d] 40).on ((Below.refl _ _).alloc (Nat.le_refl _) (.cells #[.int .i64 0, .slice none 0 0] 36))
  have hx3 := Box.new ((w.alloc (.cells #[.int .i64 tx, .slice p W.length c] 36)).alloc (.cells #[.int .i64 n, .bool g, .slice q rl d] 40)) #[.int .i64 0, .slice none 0 0] 36
  have hs1 : (w.alloc (.cells #[.int .i64 tx, .slice p W.length c] 36)).heap.size = w.heap.size + 1 := by simp [go_sem]
  have hs2 : ((w.alloc (.cells #[.int .i64 tx, .slice p W.length c] 36)).alloc (.cells #[.int .i64 n, .bool g, .slice q rl d] 40)).heap.size = w.heap.size + 1 + 1 := by simp [go_sem]
  have hs3 : (((w.alloc (.cells #[.int .i64 tx, .slice p W.length c] 36)).alloc (.cells #[.int .i64 n, .bool g, .slice q rl d] 40)).alloc (.cells #[.int .i64 0, .slice none 0 0] 36)).heap.size = w.heap.size + 3 := by simp [go_sem]
  rw [hs1] at hx2
  rw [hs2] at hx3
  have HB0 : Hid (Below w.heap.size w (((w.alloc (.cells #[.int .i64 tx, .slice p W.length c] 36)).alloc (.cells #[.int .i64 n, .bool g, .slice q rl d] 40)).alloc (.cells #[.int .i64 0, .slice none 0 0] 36)) ∧ (((w.alloc (.cells #[.int .i64 tx, .slice p W.length c] 36)).alloc (.cells #[.int .i64 n, .bool g, .slice q rl d] 40)).alloc (.cells #[.int .i64 0, .slice none 0 0] 36)).heap.size = w.heap.size + 3) := ⟨by go_grown, hs3⟩
  have HX0 : Hid (Box (((w.alloc (.cells #[.int .i64 tx, .slice p W.length c] 36)).alloc (.cells #[.int .i64 n, .bool g, .slice q rl d] 40)).alloc (.cells #[.int .i64 0, .slice none 0 0] 36)) w.heap.size #[.int .i64 tx, .slice p W.length c] 36 ∧ Box (((w.alloc (.cells #[.int .i64 tx, .slice p W.length c] 36)).alloc (.cells #[.int .i64 n, .bool g, .slice q rl d] 40)).alloc (.cells #[.int .i64 0, .slice none 0 0] 36)) (w.heap.size + 1) #[.int .i64 n, .bool g, .slice q rl d] 40 ∧ Box (((w.alloc (.cells #[.int .i64 tx, .slice p W.length c] 36)).alloc (.cells #[.int .i64 n, .bool g, .slice q rl d] 40)).alloc (.cells #[.int .i64 0, .slice none 0 0] 36)) (w.heap.size + 1 + 1) #[.int .i64 0, .slice none 0 0] 36) := ⟨hx1, hx2, hx3⟩
  clear hx1 hx2 hx3 hs1 hs2 hs3
  cases h1 : decide (n < 0) with
  | true =>
    have hpb : pb = true := HPB.out.trans (by rw [h1]; rfl)
    subst hpb
    obtain ⟨e1, e2, e3⟩ := HBad.out rfl
    subst e1 e2 e3
    clear HPB HBad HOk
    go_enter Try.func12, Try.ntmps12
    go_wp2_with fail
    obtain ⟨y0, y1, _⟩ := box2 HX0.out.2.2
    (try simp only [Exit.inBlock, Exit.then])
    refine bodyPost_ret (v := .tuple #[.agg #[.int .i64 0, .slice none 0 0], .int .i64 1]) (by simp [results, Try.results12, go_sem, y0, y1]) rfl ?_
    exact ⟨⟨_, [], rfl, rfl, OwnRs.nil _ _ _ _⟩, HB0.out.1⟩
  | false =>
    cases ab with
    | true =>
      have hpb : pb = true := HPB.out.trans (by rw [h1]; rfl)
      subst hpb
      obtain ⟨e1, e2, e3⟩ := HBad.out rfl
      subst e1 e2 e3
      clear HPB HBad HOk
      go_enter Try.func12, Try.ntmps12
      go_wp2_with fail
      generalize (((w.alloc (.cells #[.int .i64 tx, .slice p W.length c] 36)).alloc (.cells #[.int .i64 n, .bool g, .slice q rl d] 40)).alloc (.cells #[.int .i64 0, .slice none 0 0] 36)) = w3 at *
      refine (CA.out _ HB0.out.1).mono ?_
      rintro e w4 ⟨rfl, hb4⟩
      have HB4 : Hid (Below w.heap.size w w4) := HB0.out.1.trans (hb4.mono HB0.out.1.size)
      have HX4 : Hid (Box w4 w.heap.size #[.int .i64 tx, .slice p W.length c] 36 ∧ Box w4 (w.heap.size + 1) #[.int .i64 n, .bool g, .slice q rl d] 40 ∧ Box w4 (w.heap.size + 1 + 1) #[.int .i64 0, .slice none 0 0] 36) := ⟨HX0.out.1.on hb4, HX0.out.2.1.on hb4, HX0.out.2.2.on hb4⟩
      have HS4 : Hid (w.heap.size + 3 ≤ w4.heap.size) := by have := hb4.size; rw [HB0.out.2] at this; exact this
      obtain ⟨a0, a1, _, _⟩ := box2 HX4.out.1
      obtain ⟨⟨b0, b1, b2⟩, _⟩ := box3 HX4.out.2.1
      obtain ⟨d0, d1, d2, d3⟩ := box2 HX4.out.2.2
      clear hb4 HB0 HX0
      go_wp2_with fail
      have hZ := (HX4.out.2.2.set (i := 0) (.int .i64 0)).set (i := 1) (.slice none 0 0)
      have hB := (HB4.out.setCell (p := ⟨w.heap.size + 1 + 1, 0, none⟩) (show w.heap.size ≤ w.heap.size + 1 + 1 by omega) (.int .i64 0)).setCell (p := ⟨w.heap.size + 1 + 1, 1, none⟩) (show w.heap.size ≤ w.heap.size + 1 + 1 by omega) (.slice none 0 0)
      generalize (w4.setCell ⟨w.heap.size + 1 + 1, 0, none⟩ (.int .i64 0)).setCell ⟨w.heap.size + 1 + 1, 1, none⟩ (.slice none 0 0) = w9 at *
      obtain ⟨y0, y1, _⟩ := box2 hZ
      (try simp only [Exit.inBlock, Exit.then])
      refine bodyPost_ret (v := .tuple #[.agg #[.int .i64 0, .slice none 0 0], .int .i64 1]) (by simp [results, Try.results12, go_sem, y0, y1]) rfl ?_
      exact ⟨⟨_, [], rfl, rfl, OwnRs.nil _ _ _ _⟩, hB⟩
    | false =>
      cases h3 : (g && decide (0 < rl)) with
      | true =>
        have hpb : pb = true := HPB.out.trans (by rw [h1, h3]; rfl)
        subst hpb
        obtain ⟨e1, e2, e3⟩ := HBad.out rfl
        subst e1 e2 e3
        rw [h3] at CG
        clear HPB HBad HOk h3
        go_enter Try.func12, Try.ntmps12
        go_wp2_with fail
        generalize (((w.alloc (.cells #[.int .i64 tx, .slice p W.length c] 36)).alloc (.cells #[.int .i64 n, .bool g, .slice q rl d] 40)).alloc (.cells #[.int .i64 0, .slice none 0 0] 36)) = w3 at *
        refine (CA.out _ HB0.out.1).mono ?_
        rintro e w4 ⟨rfl, hb4⟩
        have HB4 : Hid (Below w.heap.size w w4) := HB0.out.1.trans (hb4.mono HB0.out.1.size)
        have HX4 : Hid (Box w4 w.heap.size #[.int .i64 tx, .slice p W.length c] 36 ∧ Box w4 (w.heap.size + 1) #[.int .i64 n, .bool g, .slice q rl d] 40 ∧ Box w4 (w.heap.size + 1 + 1) #[.int .i64 0, .slice none 0 0] 36) := ⟨HX0.out.1.on hb4, HX0.out.2.1.on hb4, HX0.out.2.2.on hb4⟩
        have HS4 : Hid (w.heap.size + 3 ≤ w4.heap.size) := by have := hb4.size; rw [HB0.out.2] at this; exact this
        obtain ⟨a0, a1, _, _⟩ := box2 HX4.out.1
        obtain ⟨⟨b0, b1, b2⟩, _⟩ := box3 HX4.out.2.1
        obtain ⟨d0, d1, d2, d3⟩ := box2 HX4.out.2.2
        clear hb4 HB0 HX0
        go_wp2_with fail
        refine (CG.out _).mono ?_
        rintro e w5 ⟨rfl, hw5⟩
        obtain rfl := hw5.symm
        go_wp2_with fail
        have hZ := (HX4.out.2.2.set (i := 0) (.int .i64 0)).set (i := 1) (.slice none 0 0)
        have hB := (HB4.out.setCell (p := ⟨w.heap.size + 1 + 1, 0, none⟩) (show w.heap.size ≤ w.heap.size + 1 + 1 by omega) (.int .i64 0)).setCell (p := ⟨w.heap.size + 1 + 1, 1, none⟩) (show w.heap.size ≤ w.heap.size + 1 + 1 by omega) (.slice none 0 0)
        generalize (w4.setCell ⟨w.heap.size + 1 + 1, 0, none⟩ (.int .i64 0)).setCell ⟨w.heap.size + 1 + 1, 1, none⟩ (.slice none 0 0) = w9 at *
        obtain ⟨y0, y1, _⟩ := box2 hZ
        (try simp only [Exit.inBlock, Exit.then])
        refine bodyPost_ret (v := .tuple #[.agg #[.int .i64 0, .slice none 0 0], .int .i64 1]) (by simp [results, Try.results12, go_sem, y0, y1]) rfl ?_
        exact ⟨⟨_, [], rfl, rfl, OwnRs.nil _ _ _ _⟩, hB⟩
      | false =>
        rw [h3] at CG
        cases h4 : decide (tx < 1) with
        | true =>
          have hpb : pb = true := HPB.out.trans (by rw [h1, h3, h4]; rfl)
          subst hpb
          obtain ⟨e1, e2, e3⟩ := HBad.out rfl
          subst e1 e2 e3
          clear HPB HBad HOk h3
          go_enter Try.func12, Try.ntmps12
          go_wp2_with fail
          generalize (((w.alloc (.cells #[.int .i64 tx, .slice p W.length c] 36)).alloc (.cells #[.int .i64 n, .bool g, .slice q rl d] 40)).alloc (.cells #[.int .i64 0, .slice none 0 0] 36)) = w3 at *
          refine (CA.out _ HB0.out.1).mono ?_
          rintro e w4 ⟨rfl, hb4⟩
          have HB4 : Hid (Below w.heap.size w w4) := HB0.out.1.trans (hb4.mono HB0.out.1.size)
          have HX4 : Hid (Box w4 w.heap.size #[.int .i64 tx, .slice p W.length c] 36 ∧ Box w4 (w.heap.size + 1) #[.int .i64 n, .bool g, .slice q rl d] 40 ∧ Box w4 (w.heap.size + 1 + 1) #[.int .i64 0, .slice none 0 0] 36) := ⟨HX0.out.1.on hb4, HX0.out.2.1.on hb4, HX0.out.2.2.on hb4⟩
          have HS4 : Hid (w.heap.size + 3 ≤ w4.heap.size) := by have := hb4.size; rw [HB0.out.2] at this; exact this
          obtain ⟨a0, a1, _, _⟩ := box2 HX4.out.1
          obtain ⟨⟨b0, b1, b2⟩, _⟩ := box3 HX4.out.2.1
          obtain ⟨d0, d1, d2, d3⟩ := box2 HX4.out.2.2
          clear hb4 HB0 HX0
          go_wp2_with fail
          refine (CG.out _).mono ?_
          rintro e w5 ⟨rfl, hw5⟩
          obtain rfl := hw5.symm
          go_wp2_with fail
          have hZ := (HX4.out.2.2.set (i := 0) (.int .i64 0)).set (i := 1) (.slice none 0 0)
          have hB := (HB4.out.setCell (p := ⟨w.heap.size + 1 + 1, 0, none⟩) (show w.heap.size ≤ w.heap.size + 1 + 1 by omega) (.int .i64 0)).setCell (p := ⟨w.heap.size + 1 + 1, 1, none⟩) (show w.heap.size ≤ w.heap.size + 1 + 1 by omega) (.slice none 0 0)
          generalize (w4.setCell ⟨w.heap.size + 1 + 1, 0, none⟩ (.int .i64 0)).setCell ⟨w.heap.size + 1 + 1, 1, none⟩ (.slice none 0 0) = w9 at *
          obtain ⟨y0, y1, _⟩ := box2 hZ
          (try simp only [Exit.inBlock, Exit.then])
          refine bodyPost_ret (v := .tuple #[.agg #[.int .i64 0, .slice none 0 0], .int .i64 1]) (by simp [results, Try.results12, go_sem, y0, y1]) rfl ?_
          exact ⟨⟨_, [], rfl, rfl, OwnRs.nil _ _ _ _⟩, hB⟩
        | false =>
          have hpb : pb = false := HPB.out.trans (by rw [h1, h3, h4]; rfl)
          subst hpb
          obtain ⟨e1, e2, e3⟩ := HOk.out rfl
          rw [e1, e2, e3]
          clear HPB HBad HOk h3 e1 e2 e3
          go_enter Try.func12, Try.ntmps12
          go_wp2_with fail
          generalize (((w.alloc (.cells #[.int .i64 tx, .slice p W.length c] 36)).alloc (.cells #[.int .i64 n, .bool g, .slice q rl d] 40)).alloc (.cells #[.int .i64 0, .slice none 0 0] 36)) = w3 at *
          refine (CA.out _ HB0.out.1).mono ?_
          rintro e w4 ⟨rfl, hb4⟩
          have HB4 : Hid (Below w.heap.size w w4) := HB0.out.1.trans (hb4.mono HB0.out.1.size)
          have HX4 : Hid (Box w4 w.heap.size #[.int .i64 tx, .slice p W.length c] 36 ∧ Box w4 (w.heap.size + 1) #[.int .i64 n, .bool g, .slice q rl d] 40 ∧ Box w4 (w.heap.size + 1 + 1) #[.int .i64 0, .slice none 0 0] 36) := ⟨HX0.out.1.on hb4, HX0.out.2.1.on hb4, HX0.out.2.2.on hb4⟩
          have HS4 : Hid (w.heap.size + 3 ≤ w4.heap.size) := by have := hb4.size; rw [HB0.out.2] at this; exact this
          obtain ⟨a0, a1, _, _⟩ := box2 HX4.out.1
          obtain ⟨⟨b0, b1, b2⟩, _⟩ := box3 HX4.out.2.1
          obtain ⟨d0, d1, d2, d3⟩ := box2 HX4.out.2.2
          clear hb4 HB0 HX0
          go_wp2_with fail
          refine (CG.out _).mono ?_
          rintro e w5 ⟨rfl, hw5⟩
          obtain rfl := hw5.symm
          go_wp2_with fail
          refine (CT.out _ HB4.out).mono ?_
          rintro e w6 ⟨⟨v6, Z6, rfl, hZ6, hO6⟩, hb6⟩
          obtain ⟨p6, c6, rfl, _⟩ := owns_len hO6.1
          have hX6 := HX4.out.2.2.on hb6
          obtain ⟨z0, z1, z2, z3⟩ := box2 hX6
          have HX6 : Hid (Box w6 (w.heap.size + 1 + 1) #[.int .i64 0, .slice none 0 0] 36) := hX6
          have HB6 : Hid (Below w.heap.size w w6) := HB4.out.trans (hb6.mono HB4.out.size)
          have HO6 : Hid (OwnRs .i64 40 w6 (w.heap.size + 3) (.slice p6 Z6.length c6) Z6 ∧ Z6.map Prod.fst = belL W n ++ [⟨n, g, row⟩]) := ⟨hO6.base HS4.out, hZ6⟩
          clear hb6 hO6 hZ6 hX6
          go_wp2_with fail
          have hZ := (HX6.out.set (i := 0) (.int .i64 tx)).set (i := 1) (.slice p6 Z6.length c6)
          have hN := (HO6.out.1.off (i := 0) (.int .i64 tx) (show w.heap.size + 1 + 1 < w.heap.size + 3 by omega)).off (i := 1) (.slice p6 Z6.length c6) (show w.heap.size + 1 + 1 < w.heap.size + 3 by omega)
          have hB := (HB6.out.setCell (p := ⟨w.heap.size + 1 + 1, 0, none⟩) (show w.heap.size ≤ w.heap.size + 1 + 1 by omega) (.int .i64 tx)).setCell (p := ⟨w.heap.size + 1 + 1, 1, none⟩) (show w.heap.size ≤ w.heap.size + 1 + 1 by omega) (.slice p6 Z6.length c6)
          generalize (w6.setCell ⟨w.heap.size + 1 + 1, 0, none⟩ (.int .i64 tx)).setCell ⟨w.heap.size + 1 + 1, 1, none⟩ (.slice p6 Z6.length c6) = w9 at *
          obtain ⟨y0, y1, _⟩ := box2 hZ
          (try simp only [Exit.inBlock, Exit.then])
          refine bodyPost_ret (v := .tuple #[.agg #[.int .i64 tx, .slice p6 Z6.length c6], .int .i64 0]) (by simp [results, Try.results12, go_sem, y0, y1]) rfl ?_
          exact ⟨⟨_, Z6, rfl, HO6.out.2, hN.base (by omega)⟩, hB⟩

set_option maxHeartbeats 8000000 in
theorem back_any (W : List Rw) (p : Option Addr) (c : Nat) (tx s : Int) (w : World) (hR : RdR .i64 w w.heap.size p W) (hlen : W.length ≤ 3518437208780) (hsh : shortR W) :
    Calls Try.prog 11 #[.agg #[.int .i64 tx, .slice p W.length c], .int .i64 s] w fun e w' => (∃ v Z, e = .returned (.agg #[.int .i64 (bakT tx W s), v]) ∧ Z.map Prod.fst = belL W s ∧ OwnRs .i64 40 w' w.heap.size v Z) ∧ Below w.heap.size w w' := by
  have HR : Hid (∀ w1, Below w.heap.size w w1 → RdR .i64 w1 w1.heap.size p W) := fun w1 h => hR.on h
  have CB : Hid (∀ w1, Below w.heap.size w w1 → Calls Try.prog 23 #[.slice p W.length c, .int .i64 s] w1 fun e w' => (∃ v Z, e = .returned v ∧ Z.map Prod.fst = belL W s ∧ OwnRs .i64 40 w' w1.heap.size v Z) ∧ Below w1.heap.size w1 w') := fun w1 h => below_any W p c s w1 (HR.out w1 h) hlen hsh
  have HT : Hid (bakT tx W s = if (belL W s).length = 0 then 0 else tx) := rfl
  clear hR hsh HR
  generalize bakT tx W s = bt at *
  generalize belL W s = M at *
  have hx1 := (Box.new w #[.int .i64 tx, .slice p W.length c] 36).on ((Below.refl _ _).alloc (Nat.le_refl _) (.cells #[.int .i64 0, .slice none 0 0] 36))
  have hx3 := Box.new (w.alloc (.cells #[.int .i64 tx, .slice p W.length c] 36)) #[.int .i64 0, .slice none 0 0] 36
  have hs1 : (w.alloc (.cells #[.int .i64 tx, .slice p W.length c] 36)).heap.size = w.heap.size + 1 := by simp [go_sem]
  have hs3 : ((w.alloc (.cells #[.int .i64 tx, .slice p W.length c] 36)).alloc (.cells #[.int .i64 0, .slice none 0 0] 36)).heap.size = w.heap.size + 1 + 1 := by simp [go_sem]
  rw [hs1] at hx3
  have HB0 : Hid (Below w.heap.size w ((w.alloc (.cells #[.int .i64 tx, .slice p W.length c] 36)).alloc (.cells #[.int .i64 0, .slice none 0 0] 36)) ∧ ((w.alloc (.cells #[.int .i64 tx, .slice p W.length c] 36)).alloc (.cells #[.int .i64 0, .slice none 0 0] 36)).heap.size = w.heap.size + 1 + 1) := ⟨by go_grown, hs3⟩
  have HX0 : Hid (Box ((w.alloc (.cells #[.int .i64 tx, .slice p W.length c] 36)).alloc (.cells #[.int .i64 0, .slice none 0 0] 36)) w.heap.size #[.int .i64 tx, .slice p W.length c] 36 ∧ Box ((w.alloc (.cells #[.int .i64 tx, .slice p W.length c] 36)).alloc (.cells #[.int .i64 0, .slice none 0 0] 36)) (w.heap.size + 1) #[.int .i64 0, .slice none 0 0] 36) := ⟨hx1, hx3⟩
  clear hx1 hx3 hs1 hs3
  go_enter Try.func11, Try.ntmps11
  go_wp2_with fail
  generalize ((w.alloc (.cells #[.int .i64 tx, .slice p W.length c] 36)).alloc (.cells #[.int .i64 0, .slice none 0 0] 36)) = w3 at *
  refine (CB.out _ HB0.out.1).mono ?_
  rintro e w4 ⟨⟨v4, Z4, rfl, hZ4, hO4⟩, hb4⟩
  have HB4 : Hid (Below w.heap.size w w4) := HB0.out.1.trans (hb4.mono HB0.out.1.size)
  have HX4 : Hid (Box w4 w.heap.size #[.int .i64 tx, .slice p W.length c] 36 ∧ Box w4 (w.heap.size + 1) #[.int .i64 0, .slice none 0 0] 36) := ⟨HX0.out.1.on hb4, HX0.out.2.on hb4⟩
  have HO4 : Hid (OwnRs .i64 40 w4 (w.heap.size + 1 + 1) v4 Z4 ∧ Z4.map Prod.fst = M) := ⟨hO4.base (by rw [HB0.out.2]; exact Nat.le_refl _), hZ4⟩
  have hZl : Z4.length = M.length := by
    have := congrArg List.length hZ4
    simpa using this
  obtain ⟨p4, c4, rfl, _⟩ := owns_len hO4.1
  obtain ⟨a0, a1, _, _⟩ := box2 HX4.out.1
  obtain ⟨d0, d1, d2, d3⟩ := box2 HX4.out.2
  clear hb4 HB0 HX0 hO4 hZ4
  obtain ⟨m, hm⟩ : ∃ m, Z4.length = m := ⟨_, rfl⟩
  rw [hm]
  by_cases h0 : m = 0
  · have HT2 : Hid (bt = 0) := HT.out.trans (if_pos (by omega))
    have hM0 : Hid (M = [] ∧ True) := ⟨List.eq_nil_of_length_eq_zero (by omega), trivial⟩
    subst h0
    go_wp2_with fail
    have hZ := (HX4.out.2.set (i := 0) (.int .i64 0)).set (i := 1) (.slice none 0 0)
    have hB := (HB4.out.setCell (p := ⟨w.heap.size + 1, 0, none⟩) (Nat.le_succ _) (.int .i64 0)).setCell (p := ⟨w.heap.size + 1, 1, none⟩) (Nat.le_succ _) (.slice none 0 0)
    generalize (w4.setCell ⟨w.heap.size + 1, 0, none⟩ (.int .i64 0)).setCell ⟨w.heap.size + 1, 1, none⟩ (.slice none 0 0) = w9 at *
    obtain ⟨y0, y1, _⟩ := box2 hZ
    (try simp only [Exit.inBlock, Exit.then])
    refine bodyPost_ret (v := .agg #[.int .i64 0, .slice none 0 0]) (by simp [results, Try.results11, go_sem, y0, y1]) rfl ?_
    exact ⟨⟨_, [], by rw [HT2.out], by rw [hM0.out.1]; rfl, OwnRs.nil _ _ _ _⟩, hB⟩
  · have HT2 : Hid (bt = tx) := HT.out.trans (if_neg (by omega))
    have hmb : ((m : Int) == 0) = false := beq_eq_false_iff_ne.2 (by omega)
    have Hm : Hid (Z4.length = m) := hm
    rw [hm] at HO4
    clear hm h0 hZl
    go_wp2_with fail
    have hZ := (HX4.out.2.set (i := 0) (.int .i64 tx)).set (i := 1) (.slice p4 m c4)
    have hN := (HO4.out.1.off (i := 0) (.int .i64 tx) (show w.heap.size + 1 < w.heap.size + 1 + 1 by omega)).off (i := 1) (.slice p4 m c4) (show w.heap.size + 1 < w.heap.size + 1 + 1 by omega)
    have hB := (HB4.out.setCell (p := ⟨w.heap.size + 1, 0, none⟩) (Nat.le_succ _) (.int .i64 tx)).setCell (p := ⟨w.heap.size + 1, 1, none⟩) (Nat.le_succ _) (.slice p4 m c4)
    generalize (w4.setCell ⟨w.heap.size + 1, 0, none⟩ (.int .i64 tx)).setCell ⟨w.heap.size + 1, 1, none⟩ (.slice p4 m c4) = w9 at *
    obtain ⟨y0, y1, _⟩ := box2 hZ
    (try simp only [Exit.inBlock, Exit.then])
    refine bodyPost_ret (v := .agg #[.int .i64 tx, .slice p4 m c4]) (by simp [results, Try.results11, go_sem, y0, y1]) rfl ?_
    exact ⟨⟨_, Z4, by rw [HT2.out], HO4.out.2, hN.base (by omega)⟩, hB⟩

set_option maxHeartbeats 8000000 in
theorem fold_any (W : List Rw) (p : Option Addr) (c : Nat) (tx s : Int) (w : World) (hR : RdR .i64 w w.heap.size p W) (hlen : W.length ≤ 3518437208780) (hsh : shortR W) (hs : s ≤ 9223372036854775807) :
    Calls Try.prog 13 #[.agg #[.int .i64 tx, .slice p W.length c], .int .i64 s] w fun e w' => (∃ v Z, e = .returned (.tuple #[.agg #[.int .i64 (fldT tx s), v], .int .i64 (fldE s)]) ∧ Z.map Prod.fst = fldL W s ∧ OwnRs .i64 40 w' w.heap.size v Z) ∧ Below w.heap.size w w' := by
  have HR : Hid (∀ w1, Below w.heap.size w w1 → RdR .i64 w1 w1.heap.size p W) := fun w1 h => hR.on h
  have HS : Hid (shortR W) := hsh
  have CB : Hid (∀ w1, Below w.heap.size w w1 → Calls Try.prog 23 #[.slice p W.length c, .int .i64 s] w1 fun e w' => (∃ v Z, e = .returned v ∧ Z.map Prod.fst = belL W s ∧ OwnRs .i64 40 w' w1.heap.size v Z) ∧ Below w1.heap.size w1 w') := fun w1 h => below_any W p c s w1 (HR.out w1 h) hlen hsh
  have CA : Hid (∀ w1, Below w.heap.size w w1 → Calls Try.prog 24 #[.slice p W.length c, .int .i64 (s - 1)] w1 fun e w' => e = .returned (.bool (abvL W (s - 1))) ∧ Below w1.heap.size w1 w') := fun w1 h => above_any W p c (s - 1) w1 (HR.out w1 h) (by omega)
  have HF : Hid (fldL W s = if s < 1 then [] else if abvL W (s - 1) then (match W[W.length - 1]? with | none => [] | some v => belL W (s - 1) ++ [⟨s - 1, v.gn, v.row⟩]) else belL W s) := rfl
  clear hR
  have hx1 := (Box.new w #[.int .i64 tx, .slice p W.length c] 36).on ((Below.refl _ _).alloc (Nat.le_refl _) (.cells #[.int .i64 0, .slice none 0 0] 36))
  have hx3 := Box.new (w.alloc (.cells #[.int .i64 tx, .slice p W.length c] 36)) #[.int .i64 0, .slice none 0 0] 36
  have hs1 : (w.alloc (.cells #[.int .i64 tx, .slice p W.length c] 36)).heap.size = w.heap.size + 1 := by simp [go_sem]
  have hs3 : ((w.alloc (.cells #[.int .i64 tx, .slice p W.length c] 36)).alloc (.cells #[.int .i64 0, .slice none 0 0] 36)).heap.size = w.heap.size + 1 + 1 := by simp [go_sem]
  rw [hs1] at hx3
  have HB0 : Hid (Below w.heap.size w ((w.alloc (.cells #[.int .i64 tx, .slice p W.length c] 36)).alloc (.cells #[.int .i64 0, .slice none 0 0] 36)) ∧ ((w.alloc (.cells #[.int .i64 tx, .slice p W.length c] 36)).alloc (.cells #[.int .i64 0, .slice none 0 0] 36)).heap.size = w.heap.size + 1 + 1) := ⟨by go_grown, hs3⟩
  have HX0 : Hid (Box ((w.alloc (.cells #[.int .i64 tx, .slice p W.length c] 36)).alloc (.cells #[.int .i64 0, .slice none 0 0] 36)) w.heap.size #[.int .i64 tx, .slice p W.length c] 36 ∧ Box ((w.alloc (.cells #[.int .i64 tx, .slice p W.length c] 36)).alloc (.cells #[.int .i64 0, .slice none 0 0] 36)) (w.heap.size + 1) #[.int .i64 0, .slice none 0 0] 36) := ⟨hx1, hx3⟩
  clear hx1 hx3 hs1 hs3
  by_cases h1 : s < 1
  · have HF2 : Hid (fldL W s = []) := HF.out.trans (if_pos h1)
    have HE2 : Hid (fldE s = 1 ∧ fldT tx s = 0) := ⟨if_pos h1, if_pos h1⟩
    rw [HF2.out, HE2.out.1, HE2.out.2]
    clear HF HF2 HE2
    go_enter Try.func13, Try.ntmps13
    go_wp2_with fail
    obtain ⟨y0, y1, _⟩ := box2 HX0.out.2
    (try simp only [Exit.inBlock, Exit.then])
    refine bodyPost_ret (v := .tuple #[.agg #[.int .i64 0, .slice none 0 0], .int .i64 1]) (by simp [results, Try.results13, go_sem, y0, y1]) rfl ?_
    exact ⟨⟨_, [], rfl, rfl, OwnRs.nil _ _ _ _⟩, HB0.out.1⟩
  · have HF2 := HF.out.trans (if_neg h1)
    have HE2 : Hid (fldE s = 0 ∧ fldT tx s = tx) := ⟨if_neg h1, if_neg h1⟩
    rw [HE2.out.1, HE2.out.2]
    have h1' : 1 ≤ s := by omega
    clear HF HE2 h1
    cases hab : abvL W (s - 1) with
    | false =>
      rw [hab] at HF2 CA
      rw [show fldL W s = belL W s from HF2]
      clear HF2 hab HS
      generalize belL W s = M at *
      go_enter Try.func13, Try.ntmps13
      go_wp2_with fail
      generalize ((w.alloc (.cells #[.int .i64 tx, .slice p W.length c] 36)).alloc (.cells #[.int .i64 0, .slice none 0 0] 36)) = w3 at *
      refine (CA.out _ HB0.out.1).mono ?_
      rintro e w4 ⟨rfl, hb4⟩
      have HB4 : Hid (Below w.heap.size w w4) := HB0.out.1.trans (hb4.mono HB0.out.1.size)
      have HX4 : Hid (Box w4 w.heap.size #[.int .i64 tx, .slice p W.length c] 36 ∧ Box w4 (w.heap.size + 1) #[.int .i64 0, .slice none 0 0] 36) := ⟨HX0.out.1.on hb4, HX0.out.2.on hb4⟩
      have HS4 : Hid (w.heap.size + 1 + 1 ≤ w4.heap.size) := by have := hb4.size; rw [HB0.out.2] at this; exact this
      clear hb4 HB0 HX0 CA
      go_wp2_with fail
      refine wp_region_L (fun w' => Box w' w.heap.size #[.int .i64 tx, .slice p W.length c] 36) 8 (by kernel_rfl) ?_
      have hS0 : Box w4.drew w.heap.size #[.int .i64 tx, .slice p W.length c] 36 := HX4.out.1
      have HBd : Hid (Below w.heap.size w w4.drew) := HB4.out.drew
      refine wpL_take (v := ?_) 0 rfl (by kernel_rfl) (fun _ _ _ h => h) (by rfl) ?_ hS0 ?_
      rotate_left
      focus
        intro w9 hw9
        obtain ⟨a0, a1, _, _⟩ := box2 hw9
        go_simp
        try with_reducible rfl
      try simp only [Act.put, List.setIfInBounds_toArray, List.set_cons_zero, List.set_cons_succ]
      refine wpL_take (v := ?_) 1 rfl (by kernel_rfl) (fun _ _ _ h => h) (by rfl) ?_ hS0 ?_
      rotate_left
      focus
        intro w9 hw9
        obtain ⟨a0, a1, _, _⟩ := box2 hw9
        go_simp
        try with_reducible rfl
      try simp only [Act.put, List.setIfInBounds_toArray, List.set_cons_zero, List.set_cons_succ]
      refine wpL_take (v := ?_) 2 rfl (by kernel_rfl) (fun _ _ _ h => h) (by rfl) ?_ hS0 ?_
      rotate_left
      focus
        intro w9 hw9
        obtain ⟨a0, a1, _, _⟩ := box2 hw9
        go_simp
        try with_reducible rfl
      try simp only [Act.put, List.setIfInBounds_toArray, List.set_cons_zero, List.set_cons_succ]
      refine wpL_take (v := ?_) 3 rfl (by kernel_rfl) (fun _ _ _ h => h) (by rfl) ?_ hS0 ?_
      rotate_left
      focus
        intro w9 hw9
        obtain ⟨a0, a1, _, _⟩ := box2 hw9
        go_simp
        try with_reducible rfl
      try simp only [Act.put, List.setIfInBounds_toArray, List.set_cons_zero, List.set_cons_succ]
      refine wpL_take (v := ?_) 4 rfl (by kernel_rfl) (fun _ _ _ h => h) (by rfl) ?_ hS0 ?_
      rotate_left
      focus
        intro w9 hw9
        obtain ⟨a0, a1, _, _⟩ := box2 hw9
        go_simp
        try with_reducible rfl
      try simp only [Act.put, List.setIfInBounds_toArray, List.set_cons_zero, List.set_cons_succ]
      refine wpL_one 5 rfl (by kernel_rfl) (by rfl) ?_
      intro K hK
      go_simp
      refine (CB.out _ HBd.out).mono ?_
      rintro e w5 ⟨⟨v5, Z5, rfl, hZ5, hO5⟩, hb5⟩
      dsimp only
      obtain ⟨p5, c5, rfl, _⟩ := owns_len hO5.1
      have hS5 : Box w5 w.heap.size #[.int .i64 tx, .slice p W.length c] 36 := hS0.on hb5
      have hY5 : Box w5 (w.heap.size + 1) #[.int .i64 0, .slice none 0 0] 36 := Box.on (w := w4.drew) HX4.out.2 hb5
      have HB5 : Hid (Below w.heap.size w w5) := HBd.out.trans (hb5.mono HBd.out.size)
      have HO5 : Hid (OwnRs .i64 40 w5 (w.heap.size + 1 + 1) (.slice p5 Z5.length c5) Z5 ∧ Z5.map Prod.fst = M) := ⟨hO5.base HS4.out, hZ5⟩
      clear hb5 hO5 hZ5 HBd hS0
      refine hK.out _ _ (fun _ => hS5) ?_
      clear hK K
      try simp only [Act.put, List.setIfInBounds_toArray, List.set_cons_zero, List.set_cons_succ]
      refine wpL_take (v := ?_) 6 rfl (by kernel_rfl) (fun _ _ _ h => h) (by rfl) ?_ hS5 ?_
      rotate_left
      focus
        intro w9 hw9
        go_simp
        try with_reducible rfl
      try simp only [Act.put, List.setIfInBounds_toArray, List.set_cons_zero, List.set_cons_succ]
      refine wpL_one 7 rfl (by kernel_rfl) (by rfl) ?_
      intro K hK
      obtain ⟨z0, z1, z2, z3⟩ := box2 hY5
      go_simp
      refine hK.out _ _ (fun _ => (hS5.off _ (by omega)).off _ (by omega)) ?_
      clear hK K
      try simp only [Act.put, List.setIfInBounds_toArray, List.set_cons_zero, List.set_cons_succ]
      refine wpL_one 8 rfl (by kernel_rfl) (by rfl) ?_
      intro K hK
      go_simp
      refine hK.out _ _ (fun h => absurd rfl h) ?_
      clear hK K
      refine wpL_done (by kernel_rfl) ?_ _
      refine NoPanic.normal ?_
      have hZ := (hY5.set (i := 0) (.int .i64 tx)).set (i := 1) (.slice p5 Z5.length c5)
      have hN := (HO5.out.1.off (i := 0) (.int .i64 tx) (show w.heap.size + 1 < w.heap.size + 1 + 1 by omega)).off (i := 1) (.slice p5 Z5.length c5) (show w.heap.size + 1 < w.heap.size + 1 + 1 by omega)
      have hB := (HB5.out.setCell (p := ⟨w.heap.size + 1, 0, none⟩) (Nat.le_succ _) (.int .i64 tx)).setCell (p := ⟨w.heap.size + 1, 1, none⟩) (Nat.le_succ _) (.slice p5 Z5.length c5)
      generalize (w5.setCell ⟨w.heap.size + 1, 0, none⟩ (.int .i64 tx)).setCell ⟨w.heap.size + 1, 1, none⟩ (.slice p5 Z5.length c5) = w9 at *
      obtain ⟨y0, y1, _⟩ := box2 hZ
      go_wp2_with fail
      (try simp only [Exit.inBlock, Exit.then])
      refine bodyPost_ret (v := .tuple #[.agg #[.int .i64 tx, .slice p5 Z5.length c5], .int .i64 0]) (by simp [results, Try.results13, go_sem, y0, y1]) rfl ?_
      exact ⟨⟨_, Z5, rfl, HO5.out.2, hN.base (by omega)⟩, hB⟩
    | true =>
      have hW0 := abv_len hab
      obtain ⟨m, hm⟩ : ∃ m, W.length = m + 1 := ⟨W.length - 1, by omega⟩
      have hm1 : m < W.length := by omega
      rw [hab] at HF2 CA
      have HF3 : Hid (fldL W s = belL W (s - 1) ++ [⟨s - 1, W[m].gn, W[m].row⟩]) := by
        show _ = _
        refine HF2.trans ?_
        rw [if_pos rfl, hm, Nat.add_sub_cancel, List.getElem?_eq_getElem hm1]
      rw [HF3.out]
      obtain ⟨b, o, q, d, hp, hbB, c0, c1, c2, hr, hq⟩ := HR.out w (Below.refl _ _) m hm1
      have CT : Hid (∀ w1, Below w.heap.size w w1 → Calls Try.prog 26 #[.agg #[.int .i64 tx, .slice p W.length c], .agg #[.int .i64 (s - 1), .bool W[m].gn, .slice q W[m].row.length d]] w1 fun e w' => (∃ v Z, e = .returned (.agg #[.int .i64 tx, v]) ∧ Z.map Prod.fst = belL W (s - 1) ++ [⟨s - 1, W[m].gn, W[m].row⟩] ∧ OwnRs .i64 40 w' w1.heap.size v Z) ∧ Below w1.heap.size w1 w') := fun w1 h => topped_any W p c tx (s - 1) W[m].gn W[m].row q d w1 (HR.out w1 h) ((SlV.keep ⟨q, d, rfl, hr, hq⟩ h).mono h.size) hlen hsh (HS.out m hm1)
      clear HF2 HF3 hab hr hq HS HR
      generalize belL W (s - 1) ++ [⟨s - 1, W[m].gn, W[m].row⟩] = M at *
      generalize W[m].n = xn at *
      generalize W[m].gn = xg at *
      generalize W[m].row.length = xl at *
      subst hp
      have Hm : Hid (W.length = m + 1) := hm
      rw [hm] at CA CT HX0 HB0 ⊢
      clear hm CB
      go_enter Try.func13, Try.ntmps13
      go_wp2_with fail
      generalize ((w.alloc (.cells #[.int .i64 tx, .slice (some ⟨b, o, none⟩) (m + 1) c] 36)).alloc (.cells #[.int .i64 0, .slice none 0 0] 36)) = w3 at *
      refine (CA.out _ HB0.out.1).mono ?_
      rintro e w4 ⟨rfl, hb4⟩
      have HB4 : Hid (Below w.heap.size w w4) := HB0.out.1.trans (hb4.mono HB0.out.1.size)
      have HX4 : Hid (Box w4 w.heap.size #[.int .i64 tx, .slice (some ⟨b, o, none⟩) (m + 1) c] 36 ∧ Box w4 (w.heap.size + 1) #[.int .i64 0, .slice none 0 0] 36) := ⟨HX0.out.1.on hb4, HX0.out.2.on hb4⟩
      have HS4 : Hid (w.heap.size + 1 + 1 ≤ w4.heap.size) := by have := hb4.size; rw [HB0.out.2] at this; exact this
      have a0 := (HB4.out.cell (p := ⟨b, o + m * 3, none⟩) hbB).trans c0
      have a1 := (HB4.out.cell (p := ⟨b, o + m * 3 + 1, none⟩) hbB).trans c1
      have a2 := (HB4.out.cell (p := ⟨b, o + m * 3 + 2, none⟩) hbB).trans c2
      obtain ⟨x0, x1, _, _⟩ := box2 HX4.out.1
      obtain ⟨d0, d1, d2, d3⟩ := box2 HX4.out.2
      have hx1 := HX4.out.1.lt
      have hx2 := HX4.out.2.lt
      clear hb4 HB0 HX0 CA c0 c1 c2
      go_wp2_with fail
      have hba : Below w4.heap.size w4 (w4.alloc (.cells #[.int .i64 (s - 1), .bool xg, .slice q xl d] 40)) := (Below.refl _ _).alloc (Nat.le_refl _) _
      have hBa := HB4.out.trans (hba.mono HB4.out.size)
      refine (CT.out _ hBa).mono ?_
      rintro e w6 ⟨⟨v6, Z6, rfl, hZ6, hO6⟩, hb6⟩
      obtain ⟨p6, c6, rfl, _⟩ := owns_len hO6.1
      have hX6 := (HX4.out.2.on hba).on hb6
      obtain ⟨z0, z1, z2, z3⟩ := box2 hX6
      have HX6 : Hid (Box w6 (w.heap.size + 1) #[.int .i64 0, .slice none 0 0] 36) := hX6
      have HB6 : Hid (Below w.heap.size w w6) := hBa.trans (hb6.mono hBa.size)
      have HO6 : Hid (OwnRs .i64 40 w6 (w.heap.size + 1 + 1) (.slice p6 Z6.length c6) Z6 ∧ Z6.map Prod.fst = M) := ⟨hO6.base (Nat.le_trans HS4.out hba.size), hZ6⟩
      clear hb6 hO6 hZ6 hX6 hba hBa
      go_wp2_with fail
      have hZ := (HX6.out.set (i := 0) (.int .i64 tx)).set (i := 1) (.slice p6 Z6.length c6)
      have hN := (HO6.out.1.off (i := 0) (.int .i64 tx) (show w.heap.size + 1 < w.heap.size + 1 + 1 by omega)).off (i := 1) (.slice p6 Z6.length c6) (show w.heap.size + 1 < w.heap.size + 1 + 1 by omega)
      have hB := (HB6.out.setCell (p := ⟨w.heap.size + 1, 0, none⟩) (Nat.le_succ _) (.int .i64 tx)).setCell (p := ⟨w.heap.size + 1, 1, none⟩) (Nat.le_succ _) (.slice p6 Z6.length c6)
      generalize (w6.setCell ⟨w.heap.size + 1, 0, none⟩ (.int .i64 tx)).setCell ⟨w.heap.size + 1, 1, none⟩ (.slice p6 Z6.length c6) = w9 at *
      obtain ⟨y0, y1, _⟩ := box2 hZ
      (try simp only [Exit.inBlock, Exit.then])
      refine bodyPost_ret (v := .tuple #[.agg #[.int .i64 tx, .slice p6 Z6.length c6], .int .i64 0]) (by simp [results, Try.results13, go_sem, y0, y1]) rfl ?_
      exact ⟨⟨_, Z6, rfl, HO6.out.2, hN.base (by omega)⟩, hB⟩
end Go.Proofs.Yteddpogjpohacab
