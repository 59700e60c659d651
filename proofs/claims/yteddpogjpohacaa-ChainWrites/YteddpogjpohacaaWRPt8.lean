/- The walk of the document's Put. -/
import Derived.Test.YteddpogjpohacaaWRBk8
namespace Go.Proofs.Yteddpogjpohacaa
open Go.RowKit
set_option maxRecDepth 100000

set_option maxHeartbeats 8000000 in
theorem rput_any (W : List Rw) (p : Option Addr) (c : Nat) (tx n : Int) (g : Bool) (row : List Vl) (q : Option Addr) (d : Nat) (w : World) (hR : RdR .i64 w w.heap.size p W) (hV : SlV w w.heap.size (.slice q row.length d) row) (hlen : W.length ≤ 3518437208780) :
    Calls Try.prog 26 #[.agg #[.int .i64 tx, .slice p W.length c], .agg #[.int .i64 n, .bool g, .slice q row.length d]] w fun e w' => (∃ v Z, e = .returned (.tuple #[.agg #[.int .i64 (putT tx W ⟨n, g, row⟩), v], .int .i64 (putE tx W ⟨n, g, row⟩)]) ∧ Z.map Prod.fst = putL tx W ⟨n, g, row⟩ ∧ HasRb w' w.heap.size w.heap.size v Z) ∧ Below w.heap.size w w' := by
  have HR : Hid (RdR .i64 w w.heap.size p W) := hR
  have HV : Hid (SlV w w.heap.size (.slice q row.length d) row) := hV
  have HPB : Hid (putB tx W ⟨n, g, row⟩ = (decide (n < 0) || abvL W n || (g && decide (0 < row.length)) || decide (tx < 1))) := rfl
  have HBad : Hid (putB tx W ⟨n, g, row⟩ = true → putE tx W ⟨n, g, row⟩ = 1 ∧ putT tx W ⟨n, g, row⟩ = 0 ∧ putL tx W ⟨n, g, row⟩ = []) := put_bad
  have HOk : Hid (putB tx W ⟨n, g, row⟩ = false → putE tx W ⟨n, g, row⟩ = 0 ∧ putT tx W ⟨n, g, row⟩ = tx ∧ putL tx W ⟨n, g, row⟩ = belL W n ++ [⟨n, g, row⟩]) := put_ok
  have HN : Hid ((∀ i (hi : i < W.length), W[i].n ≤ n) → abvL W n = false) := abv_false
  have HP : Hid (∀ j (hj : j < W.length), n < W[j].n → abvL W n = true) := fun j hj h1 => abv_true hj h1
  have HC0 : Hid (∀ v, rcell .i64 (⟨n, g, row⟩, v) = [.int .i64 n, .bool g, v]) := fun v => rfl
  clear hR hV
  generalize row.length = rl at *
  generalize abvL W n = ab at *
  generalize putB tx W ⟨n, g, row⟩ = pb at *
  generalize putE tx W ⟨n, g, row⟩ = pe at *
  generalize putT tx W ⟨n, g, row⟩ = pt at *
  generalize putL tx W ⟨n, g, row⟩ = pl at *
  have hx1 := ((Box.new w #[.int .i64 tx, .slice p W.length c] 46).on ((Below.refl _ _).alloc (Nat.le_refl _) (.cells #[.int .i64 n, .bool g, .slice q rl d] 48))).on ((Below.refl _ _).alloc (Nat.le_refl _) (.cells #[.int .i64 0, .slice none 0 0] 46))
  have hx2 := (Box.new (w.alloc (.cells #[.int .i64 tx, .slice p W.length c] 46)) #[.int .i64 n, .bool g, .slice q rl d] 48).on ((Below.refl _ _).alloc (Nat.le_refl _) (.cells #[.int .i64 0, .slice none 0 0] 46))
  have hx3 := Box.new ((w.alloc (.cells #[.int .i64 tx, .slice p W.length c] 46)).alloc (.cells #[.int .i64 n, .bool g, .slice q rl d] 48)) #[.int .i64 0, .slice none 0 0] 46
  have hx4 := Box.new (((w.alloc (.cells #[.int .i64 tx, .slice p W.length c] 46)).alloc (.cells #[.int .i64 n, .bool g, .slice q rl d] 48)).alloc (.cells #[.int .i64 0, .slice none 0 0] 46)) #[.int .i64 tx, .slice none 0 0] 46
  have hs1 : (w.alloc (.cells #[.int .i64 tx, .slice p W.length c] 46)).heap.size = w.heap.size + 1 := by simp [go_sem]
  have hs2 : ((w.alloc (.cells #[.int .i64 tx, .slice p W.length c] 46)).alloc (.cells #[.int .i64 n, .bool g, .slice q rl d] 48)).heap.size = w.heap.size + 1 + 1 := by simp [go_sem]
  have hs3 : (((w.alloc (.cells #[.int .i64 tx, .slice p W.length c] 46)).alloc (.cells #[.int .i64 n, .bool g, .slice q rl d] 48)).alloc (.cells #[.int .i64 0, .slice none 0 0] 46)).heap.size = w.heap.size + 1 + 1 + 1 := by simp [go_sem]
  have hs4 : ((((w.alloc (.cells #[.int .i64 tx, .slice p W.length c] 46)).alloc (.cells #[.int .i64 n, .bool g, .slice q rl d] 48)).alloc (.cells #[.int .i64 0, .slice none 0 0] 46)).alloc (.cells #[.int .i64 tx, .slice none 0 0] 46)).heap.size = w.heap.size + 4 := by simp [go_sem]
  rw [hs1] at hx2
  rw [hs2] at hx3
  rw [hs3] at hx4
  have hal : Below (((w.alloc (.cells #[.int .i64 tx, .slice p W.length c] 46)).alloc (.cells #[.int .i64 n, .bool g, .slice q rl d] 48)).alloc (.cells #[.int .i64 0, .slice none 0 0] 46)).heap.size (((w.alloc (.cells #[.int .i64 tx, .slice p W.length c] 46)).alloc (.cells #[.int .i64 n, .bool g, .slice q rl d] 48)).alloc (.cells #[.int .i64 0, .slice none 0 0] 46)) ((((w.alloc (.cells #[.int .i64 tx, .slice p W.length c] 46)).alloc (.cells #[.int .i64 n, .bool g, .slice q rl d] 48)).alloc (.cells #[.int .i64 0, .slice none 0 0] 46)).alloc (.cells #[.int .i64 tx, .slice none 0 0] 46)) := (Below.refl _ _).alloc (Nat.le_refl _) _
  have HB3 : Hid (Below w.heap.size w (((w.alloc (.cells #[.int .i64 tx, .slice p W.length c] 46)).alloc (.cells #[.int .i64 n, .bool g, .slice q rl d] 48)).alloc (.cells #[.int .i64 0, .slice none 0 0] 46))) := by
    show Below _ _ _
    go_grown
  have HX3 : Hid (Box (((w.alloc (.cells #[.int .i64 tx, .slice p W.length c] 46)).alloc (.cells #[.int .i64 n, .bool g, .slice q rl d] 48)).alloc (.cells #[.int .i64 0, .slice none 0 0] 46)) w.heap.size #[.int .i64 tx, .slice p W.length c] 46 ∧ Box (((w.alloc (.cells #[.int .i64 tx, .slice p W.length c] 46)).alloc (.cells #[.int .i64 n, .bool g, .slice q rl d] 48)).alloc (.cells #[.int .i64 0, .slice none 0 0] 46)) (w.heap.size + 1) #[.int .i64 n, .bool g, .slice q rl d] 48 ∧ Box (((w.alloc (.cells #[.int .i64 tx, .slice p W.length c] 46)).alloc (.cells #[.int .i64 n, .bool g, .slice q rl d] 48)).alloc (.cells #[.int .i64 0, .slice none 0 0] 46)) (w.heap.size + 1 + 1) #[.int .i64 0, .slice none 0 0] 46) := ⟨hx1, hx2, hx3⟩
  have HB0 : Hid (Below w.heap.size w ((((w.alloc (.cells #[.int .i64 tx, .slice p W.length c] 46)).alloc (.cells #[.int .i64 n, .bool g, .slice q rl d] 48)).alloc (.cells #[.int .i64 0, .slice none 0 0] 46)).alloc (.cells #[.int .i64 tx, .slice none 0 0] 46)) ∧ w.heap.size + 4 ≤ ((((w.alloc (.cells #[.int .i64 tx, .slice p W.length c] 46)).alloc (.cells #[.int .i64 n, .bool g, .slice q rl d] 48)).alloc (.cells #[.int .i64 0, .slice none 0 0] 46)).alloc (.cells #[.int .i64 tx, .slice none 0 0] 46)).heap.size) := ⟨by go_grown, by rw [hs4]; exact Nat.le_refl _⟩
  have HX0 : Hid (Box ((((w.alloc (.cells #[.int .i64 tx, .slice p W.length c] 46)).alloc (.cells #[.int .i64 n, .bool g, .slice q rl d] 48)).alloc (.cells #[.int .i64 0, .slice none 0 0] 46)).alloc (.cells #[.int .i64 tx, .slice none 0 0] 46)) w.heap.size #[.int .i64 tx, .slice p W.length c] 46 ∧ Box ((((w.alloc (.cells #[.int .i64 tx, .slice p W.length c] 46)).alloc (.cells #[.int .i64 n, .bool g, .slice q rl d] 48)).alloc (.cells #[.int .i64 0, .slice none 0 0] 46)).alloc (.cells #[.int .i64 tx, .slice none 0 0] 46)) (w.heap.size + 1) #[.int .i64 n, .bool g, .slice q rl d] 48 ∧ Box ((((w.alloc (.cells #[.int .i64 tx, .slice p W.length c] 46)).alloc (.cells #[.int .i64 n, .bool g, .slice q rl d] 48)).alloc (.cells #[.int .i64 0, .slice none 0 0] 46)).alloc (.cells #[.int .i64 tx, .slice none 0 0] 46)) (w.heap.size + 1 + 1) #[.int .i64 0, .slice none 0 0] 46 ∧ Box ((((w.alloc (.cells #[.int .i64 tx, .slice p W.length c] 46)).alloc (.cells #[.int .i64 n, .bool g, .slice q rl d] 48)).alloc (.cells #[.int .i64 0, .slice none 0 0] 46)).alloc (.cells #[.int .i64 tx, .slice none 0 0] 46)) (w.heap.size + 1 + 1 + 1) #[.int .i64 tx, .slice none 0 0] 46) := ⟨hx1.on hal, hx2.on hal, hx3.on hal, hx4⟩
  clear hx1 hx2 hx3 hx4 hs1 hs2 hs3 hs4 hal
  cases h1 : decide (n < 0) with
  | true =>
    have HE : Hid (pt = 0 ∧ pe = 1 ∧ pl = []) := by
      obtain ⟨e1, e2, e3⟩ := HBad.out (HPB.out.trans (by rw [h1]; simp))
      exact ⟨e2, e1, e3⟩
    clear HPB HBad HOk HP HN
    go_enter Try.func26, Try.ntmps26
    go_wp2_with fail
    obtain ⟨k0, k1, _⟩ := box2 HX3.out.2.2
    (try simp only [Exit.inBlock, Exit.then])
    refine bodyPost_ret (v := .tuple #[.agg #[.int .i64 0, .slice none 0 0], .int .i64 1]) (by simp [results, Try.results26, go_sem, k0, k1]) rfl ?_
    exact ⟨⟨_, [], by rw [HE.out.1, HE.out.2.1], by rw [HE.out.2.2]; rfl, HasRb.nil _ _ _⟩, HB3.out⟩
  | false =>
    cases h3 : (g && decide (0 < rl)) with
    | true =>
      have HPB2 : Hid (pb = true) := HPB.out.trans (by rw [h1, h3]; simp)
      obtain ⟨rfl, h5⟩ : g = true ∧ 0 < rl := by simpa using h3
      clear h3
      have HE : Hid (pt = 0 ∧ pe = 1 ∧ pl = []) := by
        obtain ⟨e1, e2, e3⟩ := HBad.out HPB2.out
        exact ⟨e2, e1, e3⟩
      clear HPB HBad HOk HP HN
      go_enter Try.func26, Try.ntmps26
      go_wp2_with fail
      obtain ⟨k0, k1, _⟩ := box2 HX3.out.2.2
      (try simp only [Exit.inBlock, Exit.then])
      refine bodyPost_ret (v := .tuple #[.agg #[.int .i64 0, .slice none 0 0], .int .i64 1]) (by simp [results, Try.results26, go_sem, k0, k1]) rfl ?_
      exact ⟨⟨_, [], by rw [HE.out.1, HE.out.2.1], by rw [HE.out.2.2]; rfl, HasRb.nil _ _ _⟩, HB3.out⟩
    | false =>
      cases h4 : decide (tx < 1) with
      | true =>
        have HPB2 : Hid (pb = true) := HPB.out.trans (by rw [h1, h3, h4]; simp)
        cases g with
        | false =>
          clear h3
          have HE : Hid (pt = 0 ∧ pe = 1 ∧ pl = []) := by
            obtain ⟨e1, e2, e3⟩ := HBad.out HPB2.out
            exact ⟨e2, e1, e3⟩
          clear HPB HBad HOk HP HN
          go_enter Try.func26, Try.ntmps26
          go_wp2_with fail
          obtain ⟨k0, k1, _⟩ := box2 HX3.out.2.2
          (try simp only [Exit.inBlock, Exit.then])
          refine bodyPost_ret (v := .tuple #[.agg #[.int .i64 0, .slice none 0 0], .int .i64 1]) (by simp [results, Try.results26, go_sem, k0, k1]) rfl ?_
          exact ⟨⟨_, [], by rw [HE.out.1, HE.out.2.1], by rw [HE.out.2.2]; rfl, HasRb.nil _ _ _⟩, HB3.out⟩
        | true =>
          have h5 : rl = 0 := by simpa using h3
          subst h5
          clear h3
          have HE : Hid (pt = 0 ∧ pe = 1 ∧ pl = []) := by
            obtain ⟨e1, e2, e3⟩ := HBad.out HPB2.out
            exact ⟨e2, e1, e3⟩
          clear HPB HBad HOk HP HN
          go_enter Try.func26, Try.ntmps26
          go_wp2_with fail
          obtain ⟨k0, k1, _⟩ := box2 HX3.out.2.2
          (try simp only [Exit.inBlock, Exit.then])
          refine bodyPost_ret (v := .tuple #[.agg #[.int .i64 0, .slice none 0 0], .int .i64 1]) (by simp [results, Try.results26, go_sem, k0, k1]) rfl ?_
          exact ⟨⟨_, [], by rw [HE.out.1, HE.out.2.1], by rw [HE.out.2.2]; rfl, HasRb.nil _ _ _⟩, HB3.out⟩
      | false =>
        have HPB2 : Hid (pb = ab) := HPB.out.trans (by rw [h1, h3, h4]; simp)
        clear HPB HX3 HB3
        have hgs : g = false ∨ (g = true ∧ rl = 0) := by
          cases g with
          | false => exact Or.inl rfl
          | true => exact Or.inr ⟨rfl, by simpa using h3⟩
        clear h3
        rcases hgs with rfl | ⟨rfl, rfl⟩
        · go_enter Try.func26, Try.ntmps26
          go_wp2_with fail
          generalize ((((w.alloc (.cells #[.int .i64 tx, .slice p W.length c] 46)).alloc (.cells #[.int .i64 n, .bool false, .slice q rl d] 48)).alloc (.cells #[.int .i64 0, .slice none 0 0] 46)).alloc (.cells #[.int .i64 tx, .slice none 0 0] 46)) = w3 at *
          go_loopw [7] (fun i wr => ∃ (j : Nat) (Z : List (Rw × Value)) (v : Value), j ≤ W.length ∧ i = .int .i64 (j : Int) ∧ Hid (Z.map Prod.fst = belL (W.take j) n ∧ ∀ i (hi : i < W.length), i < j → W[i].n ≤ n) ∧ Hid (HasRb wr (w.heap.size + 4) w.heap.size v Z) ∧ Hid (Box wr w.heap.size #[.int .i64 tx, .slice p W.length c] 46 ∧ Box wr (w.heap.size + 1) #[.int .i64 n, .bool false, .slice q rl d] 48 ∧ Box wr (w.heap.size + 1 + 1) #[.int .i64 0, .slice none 0 0] 46 ∧ Box wr (w.heap.size + 1 + 1 + 1) #[.int .i64 tx, v] 46) ∧ Hid (w.heap.size + 4 ≤ wr.heap.size) ∧ Below w.heap.size w wr) (fun i _ => W.length - (intOf i).toNat)
          case atStart => exact ⟨0, [], _, Nat.zero_le _, by go_num, ⟨rfl, fun i hi h => absurd h (by omega)⟩, HasRb.nil _ _ _, HX0, HB0.out.2, HB0.out.1⟩
          case round =>
            obtain ⟨j, Z, v, hj, rfl, hZ, hO, HX, HSz, hn⟩ := hrel
            clear HX0 HB0
            have hZl : Z.length ≤ j := by
              have := congrArg List.length hZ.out.1
              rw [List.length_map] at this
              rw [this]
              exact bel_len _ _ _
            obtain ⟨pv, cv, rfl, _⟩ := owns_len hO.out.1
            obtain ⟨x0, x1, x2, x3⟩ := box2 HX.out.1
            obtain ⟨⟨u0, u1, u2⟩, _⟩ := box3 HX.out.2.1
            obtain ⟨r0, r1, r2, r3⟩ := box2 HX.out.2.2.1
            obtain ⟨y0, y1, y2, y3⟩ := box2 HX.out.2.2.2
            by_cases hj0 : j = W.length
            · subst hj0
              have HE : Hid (pt = tx ∧ pe = 0 ∧ pl = belL W n ++ [⟨n, false, row⟩]) := by
                obtain ⟨e1, e2, e3⟩ := HOk.out (HPB2.out.trans (HN.out fun i hi => hZ.out.2 i hi hi))
                exact ⟨e2, e1, e3⟩
              have HZ2 : Hid (Z.map Prod.fst = belL W n) := hZ.out.1.trans (bel_all W n)
              have hszr := HSz.out
              have HVr : Hid (SlV wr w.heap.size (.slice q rl d) row) := HV.out.keep hn
              clear HOk HBad HN HP hZ
              go_wp2_with (first | (at_builtin; go_loud (refine wpList_app1 wr rfl (.tmp 67) (.tmp 69) 48 44 _ 3 40 rfl Try.underlying44 info_wri rfl (by decide) (w.heap.size + 4) _ _ _ (by rfl) hO.out.1 [.int .i64 n, .bool false, .slice q rl d] rfl (by simp [Value.oneCell']) _ rfl (by simp) (by omega) (by omega) hszr ?_); intro v6 w6 h6 h7 h8; have hX6 := HX.out.2.2.2.keep h7 (show w.heap.size + 1 + 1 + 1 < w.heap.size + 4 by omega); have hR6 := HX.out.2.2.1.keep h7 (show w.heap.size + 1 + 1 < w.heap.size + 4 by omega); obtain ⟨k0, k1, k2, k3⟩ := box2 hX6; obtain ⟨m0, m1, m2, m3⟩ := box2 hR6; obtain ⟨p6, c6, e6, _⟩ := owns_len h6; subst e6))
              have H6 : HasRb w6 (w.heap.size + 4) w.heap.size (.slice p6 (Z.length + 1) c6) (Z ++ [(⟨n, false, row⟩, .slice q rl d)]) := hO.out.app (z := (⟨n, false, row⟩, .slice q rl d)) HVr.out (by rw [HC0.out]; exact h6) (h7.mono (by omega))
              have hB6 : Below w.heap.size w w6 := hn.trans (h7.mono (by omega))
              have hZm : (Z ++ [((⟨n, false, row⟩ : Rw), Value.slice q rl d)]).map Prod.fst = belL W n ++ [⟨n, false, row⟩] := by
                rw [List.map_append, HZ2.out]
                rfl
              have hN := ((H6.off (i := 1) (j := (w.heap.size + 1 + 1 + 1)) (.slice p6 (Z.length + 1) c6) (by omega) (by omega)).off (i := 0) (j := w.heap.size + 1 + 1) (.int .i64 tx) (by omega) (by omega)).off (i := 1) (j := w.heap.size + 1 + 1) (.slice p6 (Z.length + 1) c6) (by omega) (by omega)
              have hB := ((hB6.setCell (p := ⟨(w.heap.size + 1 + 1 + 1), 1, none⟩) (show w.heap.size ≤ (w.heap.size + 1 + 1 + 1) by omega) (.slice p6 (Z.length + 1) c6)).setCell (p := ⟨w.heap.size + 1 + 1, 0, none⟩) (show w.heap.size ≤ w.heap.size + 1 + 1 by omega) (.int .i64 tx)).setCell (p := ⟨w.heap.size + 1 + 1, 1, none⟩) (show w.heap.size ≤ w.heap.size + 1 + 1 by omega) (.slice p6 (Z.length + 1) c6)
              have hZZ := ((hR6.off (i := 1) (j := (w.heap.size + 1 + 1 + 1)) (.slice p6 (Z.length + 1) c6) (by omega)).set (i := 0) (.int .i64 tx)).set (i := 1) (.slice p6 (Z.length + 1) c6)
              clear h6 h7 h8 k0 k1 k2 k3 m0 m1 m2 m3 hX6 hR6 H6 hB6
              generalize ((w6.setCell ⟨(w.heap.size + 1 + 1 + 1), 1, none⟩ (.slice p6 (Z.length + 1) c6)).setCell ⟨w.heap.size + 1 + 1, 0, none⟩ (.int .i64 tx)).setCell ⟨w.heap.size + 1 + 1, 1, none⟩ (.slice p6 (Z.length + 1) c6) = w9 at *
              obtain ⟨k0, k1, _⟩ := box2 hZZ
              (try simp only [Exit.inBlock, Exit.then])
              refine bodyPost_ret (v := .tuple #[.agg #[.int .i64 tx, .slice p6 (Z.length + 1) c6], .int .i64 0]) (by simp [results, Try.results26, go_sem, k0, k1]) rfl ?_
              exact ⟨⟨_, Z ++ [((⟨n, false, row⟩ : Rw), Value.slice q rl d)], by rw [HE.out.1, HE.out.2.1], by rw [HE.out.2.2, hZm], ⟨owns_base hN.1 (by omega), hN.2⟩⟩, hB⟩
            · have hj1 : j < W.length := by omega
              obtain ⟨b, o, q1, d1, rfl, hbB, c0, c1, c2, hr, hq⟩ := HR.out j hj1
              have a0 := (hn.cell (p := ⟨b, o + j * 3, none⟩) hbB).trans c0
              have a1 := (hn.cell (p := ⟨b, o + j * 3 + 1, none⟩) hbB).trans c1
              have a2 := (hn.cell (p := ⟨b, o + j * 3 + 2, none⟩) hbB).trans c2
              have HSl : Hid (SlV w w.heap.size (.slice q1 W[j].row.length d1) W[j].row) := ⟨q1, d1, rfl, hr, hq⟩
              have HC : Hid (∀ v, rcell .i64 (W[j], v) = [.int .i64 W[j].n, .bool W[j].gn, v]) := fun v => rfl
              have HY : Hid (W[j].n < n → ∀ v, (Z ++ [(W[j], v)]).map Prod.fst = belL (W.take (j + 1)) n) := fun h v => bel_yes hj1 h v hZ.out.1
              have HNo : Hid (¬ W[j].n < n → Z.map Prod.fst = belL (W.take (j + 1)) n) := fun h => bel_no hj1 h hZ.out.1
              have HUp : Hid (n < W[j].n → ab = true) := fun h => HP.out j hj1 h
              have HLe : Hid (W[j].n ≤ n → ∀ i (hi : i < W.length), i < j + 1 → W[i].n ≤ n) := fun h i hi hi2 => by
                rcases Nat.lt_succ_iff_lt_or_eq.1 hi2 with h3 | rfl
                · exact hZ.out.2 i hi h3
                · exact h
              clear c0 c1 c2 hj0 hr hq hZ
              generalize W[j].n = xn at *
              generalize W[j].gn = xg at *
              generalize W[j].row.length = xl at *
              by_cases hup : n < xn
              · have HE : Hid (pt = 0 ∧ pe = 1 ∧ pl = []) := by
                  obtain ⟨e1, e2, e3⟩ := HBad.out (HPB2.out.trans (HUp.out hup))
                  exact ⟨e2, e1, e3⟩
                clear HY HNo HLe HUp
                go_wp2_with fail
                go_quiet (fail)
                go_wp2_with fail
                have hXd : Box (wr.drewN nq) (w.heap.size + 1 + 1) #[.int .i64 0, .slice none 0 0] 46 := HX.out.2.2.1.on (below_drewN (Below.refl _ _) _)
                have hBd : Below w.heap.size w (wr.drewN nq) := below_drewN hn _
                have hZZ := (hXd.set (i := 0) (.int .i64 0)).set (i := 1) (.slice none 0 0)
                have hB := (hBd.setCell (p := ⟨w.heap.size + 1 + 1, 0, none⟩) (show w.heap.size ≤ w.heap.size + 1 + 1 by omega) (.int .i64 0)).setCell (p := ⟨w.heap.size + 1 + 1, 1, none⟩) (show w.heap.size ≤ w.heap.size + 1 + 1 by omega) (.slice none 0 0)
                generalize ((wr.drewN nq).setCell ⟨w.heap.size + 1 + 1, 0, none⟩ (.int .i64 0)).setCell ⟨w.heap.size + 1 + 1, 1, none⟩ (.slice none 0 0) = w9 at *
                obtain ⟨k0, k1, _⟩ := box2 hZZ
                (try simp only [Exit.inBlock, Exit.then])
                refine bodyPost_ret (v := .tuple #[.agg #[.int .i64 0, .slice none 0 0], .int .i64 1]) (by simp [results, Try.results26, go_sem, k0, k1]) rfl ?_
                exact ⟨⟨_, [], by rw [HE.out.1, HE.out.2.1], by rw [HE.out.2.2]; rfl, HasRb.nil _ _ _⟩, hB⟩
              · have HLe2 : Hid (∀ i (hi : i < W.length), i < j + 1 → W[i].n ≤ n) := HLe.out (by omega)
                have hup' : xn ≤ n := by omega
                clear hup HUp HLe
                by_cases hx : xn < n
                · have HY2 : Hid (∀ v, (Z ++ [(W[j], v)]).map Prod.fst = belL (W.take (j + 1)) n) := HY.out hx
                  clear HY HNo
                  go_wp2_with fail
                  go_quiet (fail)
                  have hdr : Below wr.heap.size wr (wr.drewN nq) := below_drewN (Below.refl _ _) _
                  have HX1 : Hid (Box (wr.drewN nq) w.heap.size #[.int .i64 tx, .slice (some ⟨b, o, none⟩) W.length c] 46 ∧ Box (wr.drewN nq) (w.heap.size + 1) #[.int .i64 n, .bool false, .slice q rl d] 48 ∧ Box (wr.drewN nq) (w.heap.size + 1 + 1) #[.int .i64 0, .slice none 0 0] 46 ∧ Box (wr.drewN nq) (w.heap.size + 1 + 1 + 1) #[.int .i64 tx, (.slice pv Z.length cv)] 46) := ⟨HX.out.1.on hdr, HX.out.2.1.on hdr, HX.out.2.2.1.on hdr, HX.out.2.2.2.on hdr⟩
                  have hO1 : Hid (HasRb (wr.drewN nq) (w.heap.size + 4) w.heap.size (.slice pv Z.length cv) Z) := hO.out.kept hdr hn.size
                  have HSz1 : Hid (w.heap.size + 4 ≤ (wr.drewN nq).heap.size) := Nat.le_trans HSz.out hdr.size
                  have hn1 : Below w.heap.size w (wr.drewN nq) := below_drewN hn _
                  have a0 := (hdr.cell (p := ⟨b, o + j * 3, none⟩) (Nat.lt_of_lt_of_le hbB hn.size)).trans a0
                  have a1 := (hdr.cell (p := ⟨b, o + j * 3 + 1, none⟩) (Nat.lt_of_lt_of_le hbB hn.size)).trans a1
                  have a2 := (hdr.cell (p := ⟨b, o + j * 3 + 2, none⟩) (Nat.lt_of_lt_of_le hbB hn.size)).trans a2
                  clear x0 x1 x2 x3 u0 u1 u2 r0 r1 r2 r3 y0 y1 y2 y3 hO HX HSz hn hdr
                  generalize wr.drewN nq = wr2 at *
                  obtain ⟨x0, x1, x2, x3⟩ := box2 HX1.out.1
                  obtain ⟨⟨u0, u1, u2⟩, _⟩ := box3 HX1.out.2.1
                  go_wp2_with fail
                  go_quiet (fail)
                  have hdr : Below wr2.heap.size wr2 (wr2.drewN nq) := below_drewN (Below.refl _ _) _
                  have HX2 : Hid (Box (wr2.drewN nq) w.heap.size #[.int .i64 tx, .slice (some ⟨b, o, none⟩) W.length c] 46 ∧ Box (wr2.drewN nq) (w.heap.size + 1) #[.int .i64 n, .bool false, .slice q rl d] 48 ∧ Box (wr2.drewN nq) (w.heap.size + 1 + 1) #[.int .i64 0, .slice none 0 0] 46 ∧ Box (wr2.drewN nq) (w.heap.size + 1 + 1 + 1) #[.int .i64 tx, (.slice pv Z.length cv)] 46) := ⟨HX1.out.1.on hdr, HX1.out.2.1.on hdr, HX1.out.2.2.1.on hdr, HX1.out.2.2.2.on hdr⟩
                  have hO2 : Hid (HasRb (wr2.drewN nq) (w.heap.size + 4) w.heap.size (.slice pv Z.length cv) Z) := hO1.out.kept hdr hn1.size
                  have HSz2 : Hid (w.heap.size + 4 ≤ (wr2.drewN nq).heap.size) := Nat.le_trans HSz1.out hdr.size
                  have hn2 : Below w.heap.size w (wr2.drewN nq) := below_drewN hn1 _
                  have a0 := (hdr.cell (p := ⟨b, o + j * 3, none⟩) (Nat.lt_of_lt_of_le hbB hn1.size)).trans a0
                  have a1 := (hdr.cell (p := ⟨b, o + j * 3 + 1, none⟩) (Nat.lt_of_lt_of_le hbB hn1.size)).trans a1
                  have a2 := (hdr.cell (p := ⟨b, o + j * 3 + 2, none⟩) (Nat.lt_of_lt_of_le hbB hn1.size)).trans a2
                  clear x0 x1 x2 x3 u0 u1 u2 hO1 HX1 HSz1 hn1 hdr
                  generalize wr2.drewN nq = wr3 at *
                  have hbw : b < wr3.drew.heap.size := Nat.lt_of_lt_of_le hbB hn2.size
                  go_wp2_with fail
                  refine wp_region_L (fun w' => Box w' w.heap.size #[.int .i64 tx, .slice (some ⟨b, o, none⟩) W.length c] 46 ∧ Box w' (w.heap.size + 1 + 1 + 1) #[.int .i64 tx, (.slice pv Z.length cv)] 46 ∧ w'.cell? ⟨b, o + j * 3, none⟩ = some (.int .i64 xn) ∧ w'.cell? ⟨b, o + j * 3 + 1, none⟩ = some (.bool xg) ∧ w'.cell? ⟨b, o + j * 3 + 2, none⟩ = some (.slice q1 xl d1)) 10 (by kernel_rfl) ?_
                  have hS0 : Box wr3.drew w.heap.size #[.int .i64 tx, .slice (some ⟨b, o, none⟩) W.length c] 46 ∧ Box wr3.drew (w.heap.size + 1 + 1 + 1) #[.int .i64 tx, (.slice pv Z.length cv)] 46 ∧ wr3.drew.cell? ⟨b, o + j * 3, none⟩ = some (.int .i64 xn) ∧ wr3.drew.cell? ⟨b, o + j * 3 + 1, none⟩ = some (.bool xg) ∧ wr3.drew.cell? ⟨b, o + j * 3 + 2, none⟩ = some (.slice q1 xl d1) := ⟨HX2.out.1, HX2.out.2.2.2, a0, a1, a2⟩
                  have hO0 : HasRb wr3.drew (w.heap.size + 4) w.heap.size (.slice pv Z.length cv) Z := hO2.out
                  have hBd : Below w.heap.size w wr3.drew := hn2.drew
                  clear hO2
                  refine wpL_take (v := ?_) 0 rfl (by kernel_rfl) (fun _ _ _ h => h) (by rfl) ?_ hS0 ?_
                  rotate_left
                  focus
                    intro w9 hw9
                    obtain ⟨a0, a1, _, _⟩ := box2 hw9.1
                    obtain ⟨e0, e1, _, _⟩ := box2 hw9.2.1
                    obtain ⟨f0, f1, f2⟩ := hw9.2.2
                    go_simp
                    try with_reducible rfl
                  try simp only [Act.put, List.setIfInBounds_toArray, List.set_cons_zero, List.set_cons_succ]
                  refine wpL_take (v := ?_) 1 rfl (by kernel_rfl) (fun _ _ _ h => h) (by rfl) ?_ hS0 ?_
                  rotate_left
                  focus
                    intro w9 hw9
                    obtain ⟨a0, a1, _, _⟩ := box2 hw9.1
                    obtain ⟨e0, e1, _, _⟩ := box2 hw9.2.1
                    obtain ⟨f0, f1, f2⟩ := hw9.2.2
                    go_simp
                    try with_reducible rfl
                  try simp only [Act.put, List.setIfInBounds_toArray, List.set_cons_zero, List.set_cons_succ]
                  refine wpL_take (v := ?_) 2 rfl (by kernel_rfl) (fun _ _ _ h => h) (by rfl) ?_ hS0 ?_
                  rotate_left
                  focus
                    intro w9 hw9
                    obtain ⟨a0, a1, _, _⟩ := box2 hw9.1
                    obtain ⟨e0, e1, _, _⟩ := box2 hw9.2.1
                    obtain ⟨f0, f1, f2⟩ := hw9.2.2
                    go_simp
                    try with_reducible rfl
                  try simp only [Act.put, List.setIfInBounds_toArray, List.set_cons_zero, List.set_cons_succ]
                  refine wpL_take (v := ?_) 3 rfl (by kernel_rfl) (fun _ _ _ h => h) (by rfl) ?_ hS0 ?_
                  rotate_left
                  focus
                    intro w9 hw9
                    obtain ⟨a0, a1, _, _⟩ := box2 hw9.1
                    obtain ⟨e0, e1, _, _⟩ := box2 hw9.2.1
                    obtain ⟨f0, f1, f2⟩ := hw9.2.2
                    go_simp
                    try with_reducible rfl
                  try simp only [Act.put, List.setIfInBounds_toArray, List.set_cons_zero, List.set_cons_succ]
                  refine wpL_take (v := ?_) 4 rfl (by kernel_rfl) (fun _ _ _ h => h) (by rfl) ?_ hS0 ?_
                  rotate_left
                  focus
                    intro w9 hw9
                    obtain ⟨a0, a1, _, _⟩ := box2 hw9.1
                    obtain ⟨e0, e1, _, _⟩ := box2 hw9.2.1
                    obtain ⟨f0, f1, f2⟩ := hw9.2.2
                    go_simp
                    try with_reducible rfl
                  try simp only [Act.put, List.setIfInBounds_toArray, List.set_cons_zero, List.set_cons_succ]
                  refine wpL_take (v := ?_) 5 rfl (by kernel_rfl) (fun _ _ _ h => h) (by rfl) ?_ hS0 ?_
                  rotate_left
                  focus
                    intro w9 hw9
                    obtain ⟨a0, a1, _, _⟩ := box2 hw9.1
                    obtain ⟨e0, e1, _, _⟩ := box2 hw9.2.1
                    obtain ⟨f0, f1, f2⟩ := hw9.2.2
                    go_simp
                    try with_reducible rfl
                  try simp only [Act.put, List.setIfInBounds_toArray, List.set_cons_zero, List.set_cons_succ]
                  refine wpL_take (v := ?_) 6 rfl (by kernel_rfl) (fun _ _ _ h => h) (by rfl) ?_ hS0 ?_
                  rotate_left
                  focus
                    intro w9 hw9
                    obtain ⟨a0, a1, _, _⟩ := box2 hw9.1
                    obtain ⟨e0, e1, _, _⟩ := box2 hw9.2.1
                    obtain ⟨f0, f1, f2⟩ := hw9.2.2
                    go_simp
                    try with_reducible rfl
                  try simp only [Act.put, List.setIfInBounds_toArray, List.set_cons_zero, List.set_cons_succ]
                  refine wpL_one 7 rfl (by kernel_rfl) (by rfl) ?_
                  intro K hK
                  go_simp
                  have hba : Below wr3.drew.heap.size wr3.drew (wr3.drew.alloc (.cells #[.int .i64 xn, .bool xg, .slice q1 xl d1] 48)) := (Below.refl _ _).alloc (Nat.le_refl _) _
                  have kp : ∀ {k : Nat} {u : Option Value}, wr3.drew.cell? ⟨b, k, none⟩ = u → (wr3.drew.alloc (.cells #[.int .i64 xn, .bool xg, .slice q1 xl d1] 48)).cell? ⟨b, k, none⟩ = u := fun {k u} h => (hba.cell (p := ⟨b, k, none⟩) hbw).trans h
                  have hS7 : Box (wr3.drew.alloc (.cells #[.int .i64 xn, .bool xg, .slice q1 xl d1] 48)) w.heap.size #[.int .i64 tx, .slice (some ⟨b, o, none⟩) W.length c] 46 ∧ Box (wr3.drew.alloc (.cells #[.int .i64 xn, .bool xg, .slice q1 xl d1] 48)) (w.heap.size + 1 + 1 + 1) #[.int .i64 tx, (.slice pv Z.length cv)] 46 ∧ (wr3.drew.alloc (.cells #[.int .i64 xn, .bool xg, .slice q1 xl d1] 48)).cell? ⟨b, o + j * 3, none⟩ = some (.int .i64 xn) ∧ (wr3.drew.alloc (.cells #[.int .i64 xn, .bool xg, .slice q1 xl d1] 48)).cell? ⟨b, o + j * 3 + 1, none⟩ = some (.bool xg) ∧ (wr3.drew.alloc (.cells #[.int .i64 xn, .bool xg, .slice q1 xl d1] 48)).cell? ⟨b, o + j * 3 + 2, none⟩ = some (.slice q1 xl d1) := ⟨hS0.1.on hba, hS0.2.1.on hba, kp hS0.2.2.1, kp hS0.2.2.2.1, kp hS0.2.2.2.2⟩
                  refine hK.out _ _ (fun _ => hS7) ?_
                  clear hK K kp
                  try simp only [Act.put, List.setIfInBounds_toArray, List.set_cons_zero, List.set_cons_succ]
                  refine wpL_one 8 rfl (by kernel_rfl) (by rfl) ?_
                  intro K hK
                  refine wp_app8 _ (.tmp 57) (.tmp 63) 48 44 _ 3 40 rfl Try.underlying44 info_wri rfl (by decide) (w.heap.size + 4) _ Z.length (Z.flatMap (rcell .i64)) (by rfl) (hO0.kept hba hBd.size).1 [.int .i64 xn, .bool xg, .slice q1 xl d1] rfl (three_one rfl) wr3.drew.heap.size (by rfl) (cell_new8 wr3.drew _ _) (by omega) (by omega) (Nat.le_trans HSz2.out hba.size) ?_
                  intro v8 w8 h8 h9
                  have hb78 : Below (w.heap.size + 4) (wr3.drew.alloc (.cells #[.int .i64 xn, .bool xg, .slice q1 xl d1] 48)) w8 := (Below.refl _ _).grown h9 (Nat.le_trans HSz2.out hba.size) (fun k hk => ((hO0.kept hba hBd.size).1.lt k hk).1)
                  have hbw8 : Below w.heap.size wr3.drew w8 := (hba.mono hBd.size).trans (hb78.mono (by omega))
                  have HO8 : Hid (HasRb w8 (w.heap.size + 4) w.heap.size v8 (Z ++ [(W[j], .slice q1 xl d1)])) := hO0.app (z := (W[j], .slice q1 xl d1)) (HSl.out.keep hBd) (by rw [HC.out]; exact h8) hbw8
                  have kp : ∀ {k : Nat} {u : Option Value}, wr3.drew.cell? ⟨b, k, none⟩ = u → w8.cell? ⟨b, k, none⟩ = u := fun {k u} h => (hbw8.cell (p := ⟨b, k, none⟩) hbB).trans h
                  have hS8 : Box w8 w.heap.size #[.int .i64 tx, .slice (some ⟨b, o, none⟩) W.length c] 46 ∧ Box w8 (w.heap.size + 1 + 1 + 1) #[.int .i64 tx, (.slice pv Z.length cv)] 46 ∧ w8.cell? ⟨b, o + j * 3, none⟩ = some (.int .i64 xn) ∧ w8.cell? ⟨b, o + j * 3 + 1, none⟩ = some (.bool xg) ∧ w8.cell? ⟨b, o + j * 3 + 2, none⟩ = some (.slice q1 xl d1) := ⟨hS7.1.keep hb78 (by omega), hS7.2.1.keep hb78 (by omega), kp hS0.2.2.1, kp hS0.2.2.2.1, kp hS0.2.2.2.2⟩
                  have HXr : Hid (Box w8 (w.heap.size + 1 + 1) _ _) := (Box.on (w := wr3.drew) HX2.out.2.2.1 hba).keep hb78 (by omega)
                  have HXw : Hid (Box w8 (w.heap.size + 1) _ _) := (Box.on (w := wr3.drew) HX2.out.2.1 hba).keep hb78 (by omega)
                  have HB8 : Hid (Below w.heap.size w w8) := hBd.trans hbw8
                  have HSz8 : Hid ((w.heap.size + 4) ≤ w8.heap.size) := Nat.le_trans (Nat.le_trans HSz2.out hba.size) hb78.size
                  clear h8 h9 hb78 hbw8 kp
                  obtain ⟨p8, c8, e8, _⟩ := owns_len HO8.out.1
                  rw [show (Z ++ [(W[j], Value.slice q1 xl d1)]).length = Z.length + 1 by simp] at e8
                  subst e8
                  refine hK.out _ _ (fun _ => hS8) ?_
                  clear hK K hba hS7 hS0
                  try simp only [Act.put, List.setIfInBounds_toArray, List.set_cons_zero, List.set_cons_succ]
                  refine wpL_take (v := ?_) 9 rfl (by kernel_rfl) (fun _ _ _ h => h) (by rfl) ?_ hS8 ?_
                  rotate_left
                  focus
                    intro w9 hw9
                    go_simp
                    try with_reducible rfl
                  try simp only [Act.put, List.setIfInBounds_toArray, List.set_cons_zero, List.set_cons_succ]
                  refine wpL_one 10 rfl (by kernel_rfl) (by rfl) ?_
                  intro K hK
                  obtain ⟨z0, z1, z2, z3⟩ := box2 hS8.2.1
                  go_simp
                  refine hK.out _ _ (fun h => absurd rfl h) ?_
                  clear hK K
                  refine wpL_done (by kernel_rfl) ?_ _
                  refine NoPanic.normal ?_
                  have hZ := hS8.2.1.set (i := 1) (.slice p8 (Z.length + 1) c8)
                  have hN := HO8.out.off (i := 1) (j := (w.heap.size + 1 + 1 + 1)) (.slice p8 (Z.length + 1) c8) (by omega) (by omega)
                  have hB := HB8.out.setCell (p := ⟨(w.heap.size + 1 + 1 + 1), 1, none⟩) (show w.heap.size ≤ (w.heap.size + 1 + 1 + 1) by omega) (.slice p8 (Z.length + 1) c8)
                  have hXr := HXr.out.off (i := 1) (j := (w.heap.size + 1 + 1 + 1)) (.slice p8 (Z.length + 1) c8) (by omega)
                  have hXi := hS8.1.off (i := 1) (j := (w.heap.size + 1 + 1 + 1)) (.slice p8 (Z.length + 1) c8) (by omega)
                  have hXw := HXw.out.off (i := 1) (j := (w.heap.size + 1 + 1 + 1)) (.slice p8 (Z.length + 1) c8) (by omega)
                  have hSz9 : w.heap.size + 4 ≤ (w8.setCell ⟨(w.heap.size + 1 + 1 + 1), 1, none⟩ (.slice p8 (Z.length + 1) c8)).heap.size := by simpa [World.setCell] using HSz8.out
                  generalize w8.setCell ⟨(w.heap.size + 1 + 1 + 1), 1, none⟩ (.slice p8 (Z.length + 1) c8) = w9 at *
                  go_wp2_with fail
                  go_roundw
                  case rel => exact ⟨j + 1, Z ++ [(W[j], Value.slice q1 xl d1)], .slice p8 (Z.length + 1) c8, hj1, by go_num, ⟨HY2.out _, HLe2.out⟩, hN, ⟨hXi, hXw, hXr, hZ⟩, hSz9, hB⟩
                  case measure => simp [intOf]; omega
                · have HN2 : Hid (Z.map Prod.fst = belL (W.take (j + 1)) n) := HNo.out hx
                  have hx' : n ≤ xn := by omega
                  clear HY HNo hx
                  go_wp2_with fail
                  go_quiet (fail)
                  have hdr : Below wr.heap.size wr (wr.drewN nq) := below_drewN (Below.refl _ _) _
                  have HX1 : Hid (Box (wr.drewN nq) w.heap.size #[.int .i64 tx, .slice (some ⟨b, o, none⟩) W.length c] 46 ∧ Box (wr.drewN nq) (w.heap.size + 1) #[.int .i64 n, .bool false, .slice q rl d] 48 ∧ Box (wr.drewN nq) (w.heap.size + 1 + 1) #[.int .i64 0, .slice none 0 0] 46 ∧ Box (wr.drewN nq) (w.heap.size + 1 + 1 + 1) #[.int .i64 tx, (.slice pv Z.length cv)] 46) := ⟨HX.out.1.on hdr, HX.out.2.1.on hdr, HX.out.2.2.1.on hdr, HX.out.2.2.2.on hdr⟩
                  have hO1 : Hid (HasRb (wr.drewN nq) (w.heap.size + 4) w.heap.size (.slice pv Z.length cv) Z) := hO.out.kept hdr hn.size
                  have HSz1 : Hid (w.heap.size + 4 ≤ (wr.drewN nq).heap.size) := Nat.le_trans HSz.out hdr.size
                  have hn1 : Below w.heap.size w (wr.drewN nq) := below_drewN hn _
                  have a0 := (hdr.cell (p := ⟨b, o + j * 3, none⟩) (Nat.lt_of_lt_of_le hbB hn.size)).trans a0
                  have a1 := (hdr.cell (p := ⟨b, o + j * 3 + 1, none⟩) (Nat.lt_of_lt_of_le hbB hn.size)).trans a1
                  have a2 := (hdr.cell (p := ⟨b, o + j * 3 + 2, none⟩) (Nat.lt_of_lt_of_le hbB hn.size)).trans a2
                  clear x0 x1 x2 x3 u0 u1 u2 r0 r1 r2 r3 y0 y1 y2 y3 hO HX HSz hn hdr
                  generalize wr.drewN nq = wr2 at *
                  obtain ⟨x0, x1, x2, x3⟩ := box2 HX1.out.1
                  obtain ⟨⟨u0, u1, u2⟩, _⟩ := box3 HX1.out.2.1
                  go_wp2_with fail
                  go_quiet (fail)
                  have hdr : Below wr2.heap.size wr2 (wr2.drewN nq) := below_drewN (Below.refl _ _) _
                  have HX2 : Hid (Box (wr2.drewN nq) w.heap.size #[.int .i64 tx, .slice (some ⟨b, o, none⟩) W.length c] 46 ∧ Box (wr2.drewN nq) (w.heap.size + 1) #[.int .i64 n, .bool false, .slice q rl d] 48 ∧ Box (wr2.drewN nq) (w.heap.size + 1 + 1) #[.int .i64 0, .slice none 0 0] 46 ∧ Box (wr2.drewN nq) (w.heap.size + 1 + 1 + 1) #[.int .i64 tx, (.slice pv Z.length cv)] 46) := ⟨HX1.out.1.on hdr, HX1.out.2.1.on hdr, HX1.out.2.2.1.on hdr, HX1.out.2.2.2.on hdr⟩
                  have hO2 : Hid (HasRb (wr2.drewN nq) (w.heap.size + 4) w.heap.size (.slice pv Z.length cv) Z) := hO1.out.kept hdr hn1.size
                  have HSz2 : Hid (w.heap.size + 4 ≤ (wr2.drewN nq).heap.size) := Nat.le_trans HSz1.out hdr.size
                  have hn2 : Below w.heap.size w (wr2.drewN nq) := below_drewN hn1 _
                  have a0 := (hdr.cell (p := ⟨b, o + j * 3, none⟩) (Nat.lt_of_lt_of_le hbB hn1.size)).trans a0
                  have a1 := (hdr.cell (p := ⟨b, o + j * 3 + 1, none⟩) (Nat.lt_of_lt_of_le hbB hn1.size)).trans a1
                  have a2 := (hdr.cell (p := ⟨b, o + j * 3 + 2, none⟩) (Nat.lt_of_lt_of_le hbB hn1.size)).trans a2
                  clear x0 x1 x2 x3 u0 u1 u2 hO1 HX1 HSz1 hn1 hdr
                  generalize wr2.drewN nq = wr3 at *
                  have hbw : b < wr3.drew.heap.size := Nat.lt_of_lt_of_le hbB hn2.size
                  go_wp2_with fail
                  go_roundw
                  case rel => exact ⟨j + 1, Z, _, hj1, by go_num, ⟨HN2.out, HLe2.out⟩, hO2, HX2, HSz2, hn2⟩
                  case measure => simp [intOf]; omega
        · go_enter Try.func26, Try.ntmps26
          go_wp2_with fail
          generalize ((((w.alloc (.cells #[.int .i64 tx, .slice p W.length c] 46)).alloc (.cells #[.int .i64 n, .bool true, .slice q 0 d] 48)).alloc (.cells #[.int .i64 0, .slice none 0 0] 46)).alloc (.cells #[.int .i64 tx, .slice none 0 0] 46)) = w3 at *
          go_loopw [7] (fun i wr => ∃ (j : Nat) (Z : List (Rw × Value)) (v : Value), j ≤ W.length ∧ i = .int .i64 (j : Int) ∧ Hid (Z.map Prod.fst = belL (W.take j) n ∧ ∀ i (hi : i < W.length), i < j → W[i].n ≤ n) ∧ Hid (HasRb wr (w.heap.size + 4) w.heap.size v Z) ∧ Hid (Box wr w.heap.size #[.int .i64 tx, .slice p W.length c] 46 ∧ Box wr (w.heap.size + 1) #[.int .i64 n, .bool true, .slice q 0 d] 48 ∧ Box wr (w.heap.size + 1 + 1) #[.int .i64 0, .slice none 0 0] 46 ∧ Box wr (w.heap.size + 1 + 1 + 1) #[.int .i64 tx, v] 46) ∧ Hid (w.heap.size + 4 ≤ wr.heap.size) ∧ Below w.heap.size w wr) (fun i _ => W.length - (intOf i).toNat)
          case atStart => exact ⟨0, [], _, Nat.zero_le _, by go_num, ⟨rfl, fun i hi h => absurd h (by omega)⟩, HasRb.nil _ _ _, HX0, HB0.out.2, HB0.out.1⟩
          case round =>
            obtain ⟨j, Z, v, hj, rfl, hZ, hO, HX, HSz, hn⟩ := hrel
            clear HX0 HB0
            have hZl : Z.length ≤ j := by
              have := congrArg List.length hZ.out.1
              rw [List.length_map] at this
              rw [this]
              exact bel_len _ _ _
            obtain ⟨pv, cv, rfl, _⟩ := owns_len hO.out.1
            obtain ⟨x0, x1, x2, x3⟩ := box2 HX.out.1
            obtain ⟨⟨u0, u1, u2⟩, _⟩ := box3 HX.out.2.1
            obtain ⟨r0, r1, r2, r3⟩ := box2 HX.out.2.2.1
            obtain ⟨y0, y1, y2, y3⟩ := box2 HX.out.2.2.2
            by_cases hj0 : j = W.length
            · subst hj0
              have HE : Hid (pt = tx ∧ pe = 0 ∧ pl = belL W n ++ [⟨n, true, row⟩]) := by
                obtain ⟨e1, e2, e3⟩ := HOk.out (HPB2.out.trans (HN.out fun i hi => hZ.out.2 i hi hi))
                exact ⟨e2, e1, e3⟩
              have HZ2 : Hid (Z.map Prod.fst = belL W n) := hZ.out.1.trans (bel_all W n)
              have hszr := HSz.out
              have HVr : Hid (SlV wr w.heap.size (.slice q 0 d) row) := HV.out.keep hn
              clear HOk HBad HN HP hZ
              go_wp2_with (first | (at_builtin; go_loud (refine wpList_app1 wr rfl (.tmp 67) (.tmp 69) 48 44 _ 3 40 rfl Try.underlying44 info_wri rfl (by decide) (w.heap.size + 4) _ _ _ (by rfl) hO.out.1 [.int .i64 n, .bool true, .slice q 0 d] rfl (by simp [Value.oneCell']) _ rfl (by simp) (by omega) (by omega) hszr ?_); intro v6 w6 h6 h7 h8; have hX6 := HX.out.2.2.2.keep h7 (show w.heap.size + 1 + 1 + 1 < w.heap.size + 4 by omega); have hR6 := HX.out.2.2.1.keep h7 (show w.heap.size + 1 + 1 < w.heap.size + 4 by omega); obtain ⟨k0, k1, k2, k3⟩ := box2 hX6; obtain ⟨m0, m1, m2, m3⟩ := box2 hR6; obtain ⟨p6, c6, e6, _⟩ := owns_len h6; subst e6))
              have H6 : HasRb w6 (w.heap.size + 4) w.heap.size (.slice p6 (Z.length + 1) c6) (Z ++ [(⟨n, true, row⟩, .slice q 0 d)]) := hO.out.app (z := (⟨n, true, row⟩, .slice q 0 d)) HVr.out (by rw [HC0.out]; exact h6) (h7.mono (by omega))
              have hB6 : Below w.heap.size w w6 := hn.trans (h7.mono (by omega))
              have hZm : (Z ++ [((⟨n, true, row⟩ : Rw), Value.slice q 0 d)]).map Prod.fst = belL W n ++ [⟨n, true, row⟩] := by
                rw [List.map_append, HZ2.out]
                rfl
              have hN := ((H6.off (i := 1) (j := (w.heap.size + 1 + 1 + 1)) (.slice p6 (Z.length + 1) c6) (by omega) (by omega)).off (i := 0) (j := w.heap.size + 1 + 1) (.int .i64 tx) (by omega) (by omega)).off (i := 1) (j := w.heap.size + 1 + 1) (.slice p6 (Z.length + 1) c6) (by omega) (by omega)
              have hB := ((hB6.setCell (p := ⟨(w.heap.size + 1 + 1 + 1), 1, none⟩) (show w.heap.size ≤ (w.heap.size + 1 + 1 + 1) by omega) (.slice p6 (Z.length + 1) c6)).setCell (p := ⟨w.heap.size + 1 + 1, 0, none⟩) (show w.heap.size ≤ w.heap.size + 1 + 1 by omega) (.int .i64 tx)).setCell (p := ⟨w.heap.size + 1 + 1, 1, none⟩) (show w.heap.size ≤ w.heap.size + 1 + 1 by omega) (.slice p6 (Z.length + 1) c6)
              have hZZ := ((hR6.off (i := 1) (j := (w.heap.size + 1 + 1 + 1)) (.slice p6 (Z.length + 1) c6) (by omega)).set (i := 0) (.int .i64 tx)).set (i := 1) (.slice p6 (Z.length + 1) c6)
              clear h6 h7 h8 k0 k1 k2 k3 m0 m1 m2 m3 hX6 hR6 H6 hB6
              generalize ((w6.setCell ⟨(w.heap.size + 1 + 1 + 1), 1, none⟩ (.slice p6 (Z.length + 1) c6)).setCell ⟨w.heap.size + 1 + 1, 0, none⟩ (.int .i64 tx)).setCell ⟨w.heap.size + 1 + 1, 1, none⟩ (.slice p6 (Z.length + 1) c6) = w9 at *
              obtain ⟨k0, k1, _⟩ := box2 hZZ
              (try simp only [Exit.inBlock, Exit.then])
              refine bodyPost_ret (v := .tuple #[.agg #[.int .i64 tx, .slice p6 (Z.length + 1) c6], .int .i64 0]) (by simp [results, Try.results26, go_sem, k0, k1]) rfl ?_
              exact ⟨⟨_, Z ++ [((⟨n, true, row⟩ : Rw), Value.slice q 0 d)], by rw [HE.out.1, HE.out.2.1], by rw [HE.out.2.2, hZm], ⟨owns_base hN.1 (by omega), hN.2⟩⟩, hB⟩
            · have hj1 : j < W.length := by omega
              obtain ⟨b, o, q1, d1, rfl, hbB, c0, c1, c2, hr, hq⟩ := HR.out j hj1
              have a0 := (hn.cell (p := ⟨b, o + j * 3, none⟩) hbB).trans c0
              have a1 := (hn.cell (p := ⟨b, o + j * 3 + 1, none⟩) hbB).trans c1
              have a2 := (hn.cell (p := ⟨b, o + j * 3 + 2, none⟩) hbB).trans c2
              have HSl : Hid (SlV w w.heap.size (.slice q1 W[j].row.length d1) W[j].row) := ⟨q1, d1, rfl, hr, hq⟩
              have HC : Hid (∀ v, rcell .i64 (W[j], v) = [.int .i64 W[j].n, .bool W[j].gn, v]) := fun v => rfl
              have HY : Hid (W[j].n < n → ∀ v, (Z ++ [(W[j], v)]).map Prod.fst = belL (W.take (j + 1)) n) := fun h v => bel_yes hj1 h v hZ.out.1
              have HNo : Hid (¬ W[j].n < n → Z.map Prod.fst = belL (W.take (j + 1)) n) := fun h => bel_no hj1 h hZ.out.1
              have HUp : Hid (n < W[j].n → ab = true) := fun h => HP.out j hj1 h
              have HLe : Hid (W[j].n ≤ n → ∀ i (hi : i < W.length), i < j + 1 → W[i].n ≤ n) := fun h i hi hi2 => by
                rcases Nat.lt_succ_iff_lt_or_eq.1 hi2 with h3 | rfl
                · exact hZ.out.2 i hi h3
                · exact h
              clear c0 c1 c2 hj0 hr hq hZ
              generalize W[j].n = xn at *
              generalize W[j].gn = xg at *
              generalize W[j].row.length = xl at *
              by_cases hup : n < xn
              · have HE : Hid (pt = 0 ∧ pe = 1 ∧ pl = []) := by
                  obtain ⟨e1, e2, e3⟩ := HBad.out (HPB2.out.trans (HUp.out hup))
                  exact ⟨e2, e1, e3⟩
                clear HY HNo HLe HUp
                go_wp2_with fail
                go_quiet (fail)
                go_wp2_with fail
                have hXd : Box (wr.drewN nq) (w.heap.size + 1 + 1) #[.int .i64 0, .slice none 0 0] 46 := HX.out.2.2.1.on (below_drewN (Below.refl _ _) _)
                have hBd : Below w.heap.size w (wr.drewN nq) := below_drewN hn _
                have hZZ := (hXd.set (i := 0) (.int .i64 0)).set (i := 1) (.slice none 0 0)
                have hB := (hBd.setCell (p := ⟨w.heap.size + 1 + 1, 0, none⟩) (show w.heap.size ≤ w.heap.size + 1 + 1 by omega) (.int .i64 0)).setCell (p := ⟨w.heap.size + 1 + 1, 1, none⟩) (show w.heap.size ≤ w.heap.size + 1 + 1 by omega) (.slice none 0 0)
                generalize ((wr.drewN nq).setCell ⟨w.heap.size + 1 + 1, 0, none⟩ (.int .i64 0)).setCell ⟨w.heap.size + 1 + 1, 1, none⟩ (.slice none 0 0) = w9 at *
                obtain ⟨k0, k1, _⟩ := box2 hZZ
                (try simp only [Exit.inBlock, Exit.then])
                refine bodyPost_ret (v := .tuple #[.agg #[.int .i64 0, .slice none 0 0], .int .i64 1]) (by simp [results, Try.results26, go_sem, k0, k1]) rfl ?_
                exact ⟨⟨_, [], by rw [HE.out.1, HE.out.2.1], by rw [HE.out.2.2]; rfl, HasRb.nil _ _ _⟩, hB⟩
              · have HLe2 : Hid (∀ i (hi : i < W.length), i < j + 1 → W[i].n ≤ n) := HLe.out (by omega)
                have hup' : xn ≤ n := by omega
                clear hup HUp HLe
                by_cases hx : xn < n
                · have HY2 : Hid (∀ v, (Z ++ [(W[j], v)]).map Prod.fst = belL (W.take (j + 1)) n) := HY.out hx
                  clear HY HNo
                  go_wp2_with fail
                  go_quiet (fail)
                  have hdr : Below wr.heap.size wr (wr.drewN nq) := below_drewN (Below.refl _ _) _
                  have HX1 : Hid (Box (wr.drewN nq) w.heap.size #[.int .i64 tx, .slice (some ⟨b, o, none⟩) W.length c] 46 ∧ Box (wr.drewN nq) (w.heap.size + 1) #[.int .i64 n, .bool true, .slice q 0 d] 48 ∧ Box (wr.drewN nq) (w.heap.size + 1 + 1) #[.int .i64 0, .slice none 0 0] 46 ∧ Box (wr.drewN nq) (w.heap.size + 1 + 1 + 1) #[.int .i64 tx, (.slice pv Z.length cv)] 46) := ⟨HX.out.1.on hdr, HX.out.2.1.on hdr, HX.out.2.2.1.on hdr, HX.out.2.2.2.on hdr⟩
                  have hO1 : Hid (HasRb (wr.drewN nq) (w.heap.size + 4) w.heap.size (.slice pv Z.length cv) Z) := hO.out.kept hdr hn.size
                  have HSz1 : Hid (w.heap.size + 4 ≤ (wr.drewN nq).heap.size) := Nat.le_trans HSz.out hdr.size
                  have hn1 : Below w.heap.size w (wr.drewN nq) := below_drewN hn _
                  have a0 := (hdr.cell (p := ⟨b, o + j * 3, none⟩) (Nat.lt_of_lt_of_le hbB hn.size)).trans a0
                  have a1 := (hdr.cell (p := ⟨b, o + j * 3 + 1, none⟩) (Nat.lt_of_lt_of_le hbB hn.size)).trans a1
                  have a2 := (hdr.cell (p := ⟨b, o + j * 3 + 2, none⟩) (Nat.lt_of_lt_of_le hbB hn.size)).trans a2
                  clear x0 x1 x2 x3 u0 u1 u2 r0 r1 r2 r3 y0 y1 y2 y3 hO HX HSz hn hdr
                  generalize wr.drewN nq = wr2 at *
                  obtain ⟨x0, x1, x2, x3⟩ := box2 HX1.out.1
                  obtain ⟨⟨u0, u1, u2⟩, _⟩ := box3 HX1.out.2.1
                  go_wp2_with fail
                  go_quiet (fail)
                  have hdr : Below wr2.heap.size wr2 (wr2.drewN nq) := below_drewN (Below.refl _ _) _
                  have HX2 : Hid (Box (wr2.drewN nq) w.heap.size #[.int .i64 tx, .slice (some ⟨b, o, none⟩) W.length c] 46 ∧ Box (wr2.drewN nq) (w.heap.size + 1) #[.int .i64 n, .bool true, .slice q 0 d] 48 ∧ Box (wr2.drewN nq) (w.heap.size + 1 + 1) #[.int .i64 0, .slice none 0 0] 46 ∧ Box (wr2.drewN nq) (w.heap.size + 1 + 1 + 1) #[.int .i64 tx, (.slice pv Z.length cv)] 46) := ⟨HX1.out.1.on hdr, HX1.out.2.1.on hdr, HX1.out.2.2.1.on hdr, HX1.out.2.2.2.on hdr⟩
                  have hO2 : Hid (HasRb (wr2.drewN nq) (w.heap.size + 4) w.heap.size (.slice pv Z.length cv) Z) := hO1.out.kept hdr hn1.size
                  have HSz2 : Hid (w.heap.size + 4 ≤ (wr2.drewN nq).heap.size) := Nat.le_trans HSz1.out hdr.size
                  have hn2 : Below w.heap.size w (wr2.drewN nq) := below_drewN hn1 _
                  have a0 := (hdr.cell (p := ⟨b, o + j * 3, none⟩) (Nat.lt_of_lt_of_le hbB hn1.size)).trans a0
                  have a1 := (hdr.cell (p := ⟨b, o + j * 3 + 1, none⟩) (Nat.lt_of_lt_of_le hbB hn1.size)).trans a1
                  have a2 := (hdr.cell (p := ⟨b, o + j * 3 + 2, none⟩) (Nat.lt_of_lt_of_le hbB hn1.size)).trans a2
                  clear x0 x1 x2 x3 u0 u1 u2 hO1 HX1 HSz1 hn1 hdr
                  generalize wr2.drewN nq = wr3 at *
                  have hbw : b < wr3.drew.heap.size := Nat.lt_of_lt_of_le hbB hn2.size
                  go_wp2_with fail
                  refine wp_region_L (fun w' => Box w' w.heap.size #[.int .i64 tx, .slice (some ⟨b, o, none⟩) W.length c] 46 ∧ Box w' (w.heap.size + 1 + 1 + 1) #[.int .i64 tx, (.slice pv Z.length cv)] 46 ∧ w'.cell? ⟨b, o + j * 3, none⟩ = some (.int .i64 xn) ∧ w'.cell? ⟨b, o + j * 3 + 1, none⟩ = some (.bool xg) ∧ w'.cell? ⟨b, o + j * 3 + 2, none⟩ = some (.slice q1 xl d1)) 10 (by kernel_rfl) ?_
                  have hS0 : Box wr3.drew w.heap.size #[.int .i64 tx, .slice (some ⟨b, o, none⟩) W.length c] 46 ∧ Box wr3.drew (w.heap.size + 1 + 1 + 1) #[.int .i64 tx, (.slice pv Z.length cv)] 46 ∧ wr3.drew.cell? ⟨b, o + j * 3, none⟩ = some (.int .i64 xn) ∧ wr3.drew.cell? ⟨b, o + j * 3 + 1, none⟩ = some (.bool xg) ∧ wr3.drew.cell? ⟨b, o + j * 3 + 2, none⟩ = some (.slice q1 xl d1) := ⟨HX2.out.1, HX2.out.2.2.2, a0, a1, a2⟩
                  have hO0 : HasRb wr3.drew (w.heap.size + 4) w.heap.size (.slice pv Z.length cv) Z := hO2.out
                  have hBd : Below w.heap.size w wr3.drew := hn2.drew
                  clear hO2
                  refine wpL_take (v := ?_) 0 rfl (by kernel_rfl) (fun _ _ _ h => h) (by rfl) ?_ hS0 ?_
                  rotate_left
                  focus
                    intro w9 hw9
                    obtain ⟨a0, a1, _, _⟩ := box2 hw9.1
                    obtain ⟨e0, e1, _, _⟩ := box2 hw9.2.1
                    obtain ⟨f0, f1, f2⟩ := hw9.2.2
                    go_simp
                    try with_reducible rfl
                  try simp only [Act.put, List.setIfInBounds_toArray, List.set_cons_zero, List.set_cons_succ]
                  refine wpL_take (v := ?_) 1 rfl (by kernel_rfl) (fun _ _ _ h => h) (by rfl) ?_ hS0 ?_
                  rotate_left
                  focus
                    intro w9 hw9
                    obtain ⟨a0, a1, _, _⟩ := box2 hw9.1
                    obtain ⟨e0, e1, _, _⟩ := box2 hw9.2.1
                    obtain ⟨f0, f1, f2⟩ := hw9.2.2
                    go_simp
                    try with_reducible rfl
                  try simp only [Act.put, List.setIfInBounds_toArray, List.set_cons_zero, List.set_cons_succ]
                  refine wpL_take (v := ?_) 2 rfl (by kernel_rfl) (fun _ _ _ h => h) (by rfl) ?_ hS0 ?_
                  rotate_left
                  focus
                    intro w9 hw9
                    obtain ⟨a0, a1, _, _⟩ := box2 hw9.1
                    obtain ⟨e0, e1, _, _⟩ := box2 hw9.2.1
                    obtain ⟨f0, f1, f2⟩ := hw9.2.2
                    go_simp
                    try with_reducible rfl
                  try simp only [Act.put, List.setIfInBounds_toArray, List.set_cons_zero, List.set_cons_succ]
                  refine wpL_take (v := ?_) 3 rfl (by kernel_rfl) (fun _ _ _ h => h) (by rfl) ?_ hS0 ?_
                  rotate_left
                  focus
                    intro w9 hw9
                    obtain ⟨a0, a1, _, _⟩ := box2 hw9.1
                    obtain ⟨e0, e1, _, _⟩ := box2 hw9.2.1
                    obtain ⟨f0, f1, f2⟩ := hw9.2.2
                    go_simp
                    try with_reducible rfl
                  try simp only [Act.put, List.setIfInBounds_toArray, List.set_cons_zero, List.set_cons_succ]
                  refine wpL_take (v := ?_) 4 rfl (by kernel_rfl) (fun _ _ _ h => h) (by rfl) ?_ hS0 ?_
                  rotate_left
                  focus
                    intro w9 hw9
                    obtain ⟨a0, a1, _, _⟩ := box2 hw9.1
                    obtain ⟨e0, e1, _, _⟩ := box2 hw9.2.1
                    obtain ⟨f0, f1, f2⟩ := hw9.2.2
                    go_simp
                    try with_reducible rfl
                  try simp only [Act.put, List.setIfInBounds_toArray, List.set_cons_zero, List.set_cons_succ]
                  refine wpL_take (v := ?_) 5 rfl (by kernel_rfl) (fun _ _ _ h => h) (by rfl) ?_ hS0 ?_
                  rotate_left
                  focus
                    intro w9 hw9
                    obtain ⟨a0, a1, _, _⟩ := box2 hw9.1
                    obtain ⟨e0, e1, _, _⟩ := box2 hw9.2.1
                    obtain ⟨f0, f1, f2⟩ := hw9.2.2
                    go_simp
                    try with_reducible rfl
                  try simp only [Act.put, List.setIfInBounds_toArray, List.set_cons_zero, List.set_cons_succ]
                  refine wpL_take (v := ?_) 6 rfl (by kernel_rfl) (fun _ _ _ h => h) (by rfl) ?_ hS0 ?_
                  rotate_left
                  focus
                    intro w9 hw9
                    obtain ⟨a0, a1, _, _⟩ := box2 hw9.1
                    obtain ⟨e0, e1, _, _⟩ := box2 hw9.2.1
                    obtain ⟨f0, f1, f2⟩ := hw9.2.2
                    go_simp
                    try with_reducible rfl
                  try simp only [Act.put, List.setIfInBounds_toArray, List.set_cons_zero, List.set_cons_succ]
                  refine wpL_one 7 rfl (by kernel_rfl) (by rfl) ?_
                  intro K hK
                  go_simp
                  have hba : Below wr3.drew.heap.size wr3.drew (wr3.drew.alloc (.cells #[.int .i64 xn, .bool xg, .slice q1 xl d1] 48)) := (Below.refl _ _).alloc (Nat.le_refl _) _
                  have kp : ∀ {k : Nat} {u : Option Value}, wr3.drew.cell? ⟨b, k, none⟩ = u → (wr3.drew.alloc (.cells #[.int .i64 xn, .bool xg, .slice q1 xl d1] 48)).cell? ⟨b, k, none⟩ = u := fun {k u} h => (hba.cell (p := ⟨b, k, none⟩) hbw).trans h
                  have hS7 : Box (wr3.drew.alloc (.cells #[.int .i64 xn, .bool xg, .slice q1 xl d1] 48)) w.heap.size #[.int .i64 tx, .slice (some ⟨b, o, none⟩) W.length c] 46 ∧ Box (wr3.drew.alloc (.cells #[.int .i64 xn, .bool xg, .slice q1 xl d1] 48)) (w.heap.size + 1 + 1 + 1) #[.int .i64 tx, (.slice pv Z.length cv)] 46 ∧ (wr3.drew.alloc (.cells #[.int .i64 xn, .bool xg, .slice q1 xl d1] 48)).cell? ⟨b, o + j * 3, none⟩ = some (.int .i64 xn) ∧ (wr3.drew.alloc (.cells #[.int .i64 xn, .bool xg, .slice q1 xl d1] 48)).cell? ⟨b, o + j * 3 + 1, none⟩ = some (.bool xg) ∧ (wr3.drew.alloc (.cells #[.int .i64 xn, .bool xg, .slice q1 xl d1] 48)).cell? ⟨b, o + j * 3 + 2, none⟩ = some (.slice q1 xl d1) := ⟨hS0.1.on hba, hS0.2.1.on hba, kp hS0.2.2.1, kp hS0.2.2.2.1, kp hS0.2.2.2.2⟩
                  refine hK.out _ _ (fun _ => hS7) ?_
                  clear hK K kp
                  try simp only [Act.put, List.setIfInBounds_toArray, List.set_cons_zero, List.set_cons_succ]
                  refine wpL_one 8 rfl (by kernel_rfl) (by rfl) ?_
                  intro K hK
                  refine wp_app8 _ (.tmp 57) (.tmp 63) 48 44 _ 3 40 rfl Try.underlying44 info_wri rfl (by decide) (w.heap.size + 4) _ Z.length (Z.flatMap (rcell .i64)) (by rfl) (hO0.kept hba hBd.size).1 [.int .i64 xn, .bool xg, .slice q1 xl d1] rfl (three_one rfl) wr3.drew.heap.size (by rfl) (cell_new8 wr3.drew _ _) (by omega) (by omega) (Nat.le_trans HSz2.out hba.size) ?_
                  intro v8 w8 h8 h9
                  have hb78 : Below (w.heap.size + 4) (wr3.drew.alloc (.cells #[.int .i64 xn, .bool xg, .slice q1 xl d1] 48)) w8 := (Below.refl _ _).grown h9 (Nat.le_trans HSz2.out hba.size) (fun k hk => ((hO0.kept hba hBd.size).1.lt k hk).1)
                  have hbw8 : Below w.heap.size wr3.drew w8 := (hba.mono hBd.size).trans (hb78.mono (by omega))
                  have HO8 : Hid (HasRb w8 (w.heap.size + 4) w.heap.size v8 (Z ++ [(W[j], .slice q1 xl d1)])) := hO0.app (z := (W[j], .slice q1 xl d1)) (HSl.out.keep hBd) (by rw [HC.out]; exact h8) hbw8
                  have kp : ∀ {k : Nat} {u : Option Value}, wr3.drew.cell? ⟨b, k, none⟩ = u → w8.cell? ⟨b, k, none⟩ = u := fun {k u} h => (hbw8.cell (p := ⟨b, k, none⟩) hbB).trans h
                  have hS8 : Box w8 w.heap.size #[.int .i64 tx, .slice (some ⟨b, o, none⟩) W.length c] 46 ∧ Box w8 (w.heap.size + 1 + 1 + 1) #[.int .i64 tx, (.slice pv Z.length cv)] 46 ∧ w8.cell? ⟨b, o + j * 3, none⟩ = some (.int .i64 xn) ∧ w8.cell? ⟨b, o + j * 3 + 1, none⟩ = some (.bool xg) ∧ w8.cell? ⟨b, o + j * 3 + 2, none⟩ = some (.slice q1 xl d1) := ⟨hS7.1.keep hb78 (by omega), hS7.2.1.keep hb78 (by omega), kp hS0.2.2.1, kp hS0.2.2.2.1, kp hS0.2.2.2.2⟩
                  have HXr : Hid (Box w8 (w.heap.size + 1 + 1) _ _) := (Box.on (w := wr3.drew) HX2.out.2.2.1 hba).keep hb78 (by omega)
                  have HXw : Hid (Box w8 (w.heap.size + 1) _ _) := (Box.on (w := wr3.drew) HX2.out.2.1 hba).keep hb78 (by omega)
                  have HB8 : Hid (Below w.heap.size w w8) := hBd.trans hbw8
                  have HSz8 : Hid ((w.heap.size + 4) ≤ w8.heap.size) := Nat.le_trans (Nat.le_trans HSz2.out hba.size) hb78.size
                  clear h8 h9 hb78 hbw8 kp
                  obtain ⟨p8, c8, e8, _⟩ := owns_len HO8.out.1
                  rw [show (Z ++ [(W[j], Value.slice q1 xl d1)]).length = Z.length + 1 by simp] at e8
                  subst e8
                  refine hK.out _ _ (fun _ => hS8) ?_
                  clear hK K hba hS7 hS0
                  try simp only [Act.put, List.setIfInBounds_toArray, List.set_cons_zero, List.set_cons_succ]
                  refine wpL_take (v := ?_) 9 rfl (by kernel_rfl) (fun _ _ _ h => h) (by rfl) ?_ hS8 ?_
                  rotate_left
                  focus
                    intro w9 hw9
                    go_simp
                    try with_reducible rfl
                  try simp only [Act.put, List.setIfInBounds_toArray, List.set_cons_zero, List.set_cons_succ]
                  refine wpL_one 10 rfl (by kernel_rfl) (by rfl) ?_
                  intro K hK
                  obtain ⟨z0, z1, z2, z3⟩ := box2 hS8.2.1
                  go_simp
                  refine hK.out _ _ (fun h => absurd rfl h) ?_
                  clear hK K
                  refine wpL_done (by kernel_rfl) ?_ _
                  refine NoPanic.normal ?_
                  have hZ := hS8.2.1.set (i := 1) (.slice p8 (Z.length + 1) c8)
                  have hN := HO8.out.off (i := 1) (j := (w.heap.size + 1 + 1 + 1)) (.slice p8 (Z.length + 1) c8) (by omega) (by omega)
                  have hB := HB8.out.setCell (p := ⟨(w.heap.size + 1 + 1 + 1), 1, none⟩) (show w.heap.size ≤ (w.heap.size + 1 + 1 + 1) by omega) (.slice p8 (Z.length + 1) c8)
                  have hXr := HXr.out.off (i := 1) (j := (w.heap.size + 1 + 1 + 1)) (.slice p8 (Z.length + 1) c8) (by omega)
                  have hXi := hS8.1.off (i := 1) (j := (w.heap.size + 1 + 1 + 1)) (.slice p8 (Z.length + 1) c8) (by omega)
                  have hXw := HXw.out.off (i := 1) (j := (w.heap.size + 1 + 1 + 1)) (.slice p8 (Z.length + 1) c8) (by omega)
                  have hSz9 : w.heap.size + 4 ≤ (w8.setCell ⟨(w.heap.size + 1 + 1 + 1), 1, none⟩ (.slice p8 (Z.length + 1) c8)).heap.size := by simpa [World.setCell] using HSz8.out
                  generalize w8.setCell ⟨(w.heap.size + 1 + 1 + 1), 1, none⟩ (.slice p8 (Z.length + 1) c8) = w9 at *
                  go_wp2_with fail
                  go_roundw
                  case rel => exact ⟨j + 1, Z ++ [(W[j], Value.slice q1 xl d1)], .slice p8 (Z.length + 1) c8, hj1, by go_num, ⟨HY2.out _, HLe2.out⟩, hN, ⟨hXi, hXw, hXr, hZ⟩, hSz9, hB⟩
                  case measure => simp [intOf]; omega
                · have HN2 : Hid (Z.map Prod.fst = belL (W.take (j + 1)) n) := HNo.out hx
                  have hx' : n ≤ xn := by omega
                  clear HY HNo hx
                  go_wp2_with fail
                  go_quiet (fail)
                  have hdr : Below wr.heap.size wr (wr.drewN nq) := below_drewN (Below.refl _ _) _
                  have HX1 : Hid (Box (wr.drewN nq) w.heap.size #[.int .i64 tx, .slice (some ⟨b, o, none⟩) W.length c] 46 ∧ Box (wr.drewN nq) (w.heap.size + 1) #[.int .i64 n, .bool true, .slice q 0 d] 48 ∧ Box (wr.drewN nq) (w.heap.size + 1 + 1) #[.int .i64 0, .slice none 0 0] 46 ∧ Box (wr.drewN nq) (w.heap.size + 1 + 1 + 1) #[.int .i64 tx, (.slice pv Z.length cv)] 46) := ⟨HX.out.1.on hdr, HX.out.2.1.on hdr, HX.out.2.2.1.on hdr, HX.out.2.2.2.on hdr⟩
                  have hO1 : Hid (HasRb (wr.drewN nq) (w.heap.size + 4) w.heap.size (.slice pv Z.length cv) Z) := hO.out.kept hdr hn.size
                  have HSz1 : Hid (w.heap.size + 4 ≤ (wr.drewN nq).heap.size) := Nat.le_trans HSz.out hdr.size
                  have hn1 : Below w.heap.size w (wr.drewN nq) := below_drewN hn _
                  have a0 := (hdr.cell (p := ⟨b, o + j * 3, none⟩) (Nat.lt_of_lt_of_le hbB hn.size)).trans a0
                  have a1 := (hdr.cell (p := ⟨b, o + j * 3 + 1, none⟩) (Nat.lt_of_lt_of_le hbB hn.size)).trans a1
                  have a2 := (hdr.cell (p := ⟨b, o + j * 3 + 2, none⟩) (Nat.lt_of_lt_of_le hbB hn.size)).trans a2
                  clear x0 x1 x2 x3 u0 u1 u2 r0 r1 r2 r3 y0 y1 y2 y3 hO HX HSz hn hdr
                  generalize wr.drewN nq = wr2 at *
                  obtain ⟨x0, x1, x2, x3⟩ := box2 HX1.out.1
                  obtain ⟨⟨u0, u1, u2⟩, _⟩ := box3 HX1.out.2.1
                  go_wp2_with fail
                  go_quiet (fail)
                  have hdr : Below wr2.heap.size wr2 (wr2.drewN nq) := below_drewN (Below.refl _ _) _
                  have HX2 : Hid (Box (wr2.drewN nq) w.heap.size #[.int .i64 tx, .slice (some ⟨b, o, none⟩) W.length c] 46 ∧ Box (wr2.drewN nq) (w.heap.size + 1) #[.int .i64 n, .bool true, .slice q 0 d] 48 ∧ Box (wr2.drewN nq) (w.heap.size + 1 + 1) #[.int .i64 0, .slice none 0 0] 46 ∧ Box (wr2.drewN nq) (w.heap.size + 1 + 1 + 1) #[.int .i64 tx, (.slice pv Z.length cv)] 46) := ⟨HX1.out.1.on hdr, HX1.out.2.1.on hdr, HX1.out.2.2.1.on hdr, HX1.out.2.2.2.on hdr⟩
                  have hO2 : Hid (HasRb (wr2.drewN nq) (w.heap.size + 4) w.heap.size (.slice pv Z.length cv) Z) := hO1.out.kept hdr hn1.size
                  have HSz2 : Hid (w.heap.size + 4 ≤ (wr2.drewN nq).heap.size) := Nat.le_trans HSz1.out hdr.size
                  have hn2 : Below w.heap.size w (wr2.drewN nq) := below_drewN hn1 _
                  have a0 := (hdr.cell (p := ⟨b, o + j * 3, none⟩) (Nat.lt_of_lt_of_le hbB hn1.size)).trans a0
                  have a1 := (hdr.cell (p := ⟨b, o + j * 3 + 1, none⟩) (Nat.lt_of_lt_of_le hbB hn1.size)).trans a1
                  have a2 := (hdr.cell (p := ⟨b, o + j * 3 + 2, none⟩) (Nat.lt_of_lt_of_le hbB hn1.size)).trans a2
                  clear x0 x1 x2 x3 u0 u1 u2 hO1 HX1 HSz1 hn1 hdr
                  generalize wr2.drewN nq = wr3 at *
                  have hbw : b < wr3.drew.heap.size := Nat.lt_of_lt_of_le hbB hn2.size
                  go_wp2_with fail
                  go_roundw
                  case rel => exact ⟨j + 1, Z, _, hj1, by go_num, ⟨HN2.out, HLe2.out⟩, hO2, HX2, HSz2, hn2⟩
                  case measure => simp [intOf]; omega
end Go.Proofs.Yteddpogjpohacaa
