/- The law of Rises. -/
import Derived.Test.YtckjgnjakkeodaaMOps
namespace Go.Proofs.Ytckjgnjakkeodaa
open Go.RowKit
set_option maxRecDepth 100000

theorem clk_facts {w : World} {b la : Nat} {O : List Nat} (h : ClkE w b la O) : (∀ i k (hi : i < O.length) (hk : k < O.length), i < k → O[i] < O[k]) ∧ (∀ s ∈ O, frO la O < s ∧ s ≤ la) ∧ (O = [] → frO la O = la) ∧ frO la O ≤ la ∧ la ≤ 4611686018427387904 ∧ O.length ≤ 4096 := by
  obtain ⟨fr, D, h1, h2⟩ := h
  exact ⟨fun i k hi hk hik => List.pairwise_iff_getElem.1 h2.sort i k hi hk hik, fun s hs => ⟨h2.lt s hs, h2.below s hs⟩, fun e => by rw [e]; rfl, h2.le, h2.top, h2.len⟩
theorem clk_left {w : World} {b la : Nat} {O : List Nat} (h : ClkE w b la O) (s : Nat) : frO la O ≤ frO la (left O s) := by
  obtain ⟨fr, D, h1, h2⟩ := h
  exact frO_left h2.sort h2.below s
theorem clk_ring {w : World} {b la : Nat} {O : List Nat} (h : ClkE w b la O) : la ≤ frO la O + 4096 := by
  obtain ⟨fr, D, h1, h2⟩ := h
  exact h2.ring

set_option maxHeartbeats 16000000 in
theorem lawRises (n : Nat) (L : List OpC) (q : Option Addr) (c : Nat) (w : World) (hn : n < 18446744073709551616) (hR : RdOp w w.heap.size q L) (hlen : L.length ≤ 8796093022208) :
    Calls Try.prog 6 #[.int .u64 (n : Int), .slice q L.length c] w fun e w' => e = .returned (.bool true) ∧ Below w.heap.size w w' := by
  have HR : Hid (RdOp _ _ _ _) := hR
  clear hR
  have C9 : Hid (∀ w', Calls _ _ _ _ _) := fun w' => awake_any w'
  by_cases hn2 : n ≤ 4611686018427387904
  · have C1 : Hid (Calls _ _ _ _ _) := newE n w hn2
    go_enter Try.func6, Try.ntmps6
    go_wp2_with fail
    refine C1.out.mono ?_
    rintro e w1 ⟨b, rfl, hC, hb, hB⟩
    have HC : Hid (ClkE _ _ _ _) := hC
    have HB : Hid (Below _ _ _) := hB
    clear C1 hC hB
    go_wp2_with fail
    go_loopw [7, 8, 9] (fun v7 v8 v9 wr => ∃ (j la : Nat) (O : List Nat) (F0 : Nat), j ≤ L.length ∧ v9 = .int .i64 (j : Int) ∧ v7 = .int .u64 (la : Int) ∧ v8 = .int .u64 (F0 : Int) ∧ F0 = frO la O ∧ Hid (ClkE wr b la O) ∧ Hid (Below w.heap.size w wr)) (fun _ _ v9 _ => L.length - (intOf v9).toNat)
    case atStart => exact ⟨0, n, [], n, Nat.zero_le _, by go_num, rfl, rfl, rfl, HC, HB⟩
    case round =>
      obtain ⟨j, la, O, F0, hj, rfl, rfl, rfl, hF0, hC, hB⟩ := hrel
      have HF : Hid _ := hF0
      clear HC HB hF0
      by_cases hj0 : j = L.length
      · subst hj0
        go_wp2_with fail
        refine (C9.out _).mono ?_
        rintro e w5 ⟨rfl, hB5⟩
        go_wp2_with fail
        go_ret
        exact ⟨rfl, hB.out.trans (hB5.mono hB.out.size)⟩
      · have hj1 : j < L.length := by omega
        obtain ⟨go, oo, rfl, hgo, c0, c1, c2⟩ := HR.out j hj1
        have C2 : Hid (True → Calls _ _ _ _ _) := fun _ => openE b la O wr hC.out
        have htop := (clk_facts hC.out).2.2.2.2.1
        have hOl := (clk_facts hC.out).2.2.2.2.2
        have hrg : Hid _ := clk_ring hC.out
        have hbl := hC.out.lt
        clear hj0
        go_wp2_with fail
        refine (C2.out trivial).mono ?_
        rintro e w2 ⟨p2, q2, rfl, hR2, hC2, hG2⟩
        have HC2 : Hid (ClkE _ _ _ _) := hC2
        have HR2 : Hid (RdU _ _ _ _) := hR2
        have HB2 : Hid (Below w.heap.size w w2) := below_own hB.out hG2 hb
        clear hC2 hR2 hG2 C2 hC hB
        have e0 := (HB2.out.cell (p := ⟨go, oo + j * 3, none⟩) hgo).trans c0
        have e1 := (HB2.out.cell (p := ⟨go, oo + j * 3 + 1, none⟩) hgo).trans c1
        clear c0 c1 c2
        cases htk : L[j].tk with
        | true =>
          rw [htk] at e0
          clear htk
          by_cases hE : la = 4611686018427387904
          · have C3 : Hid (True → Calls _ _ _ _ _) := fun _ => takeE_end b la O w2 HC2.out hE
            have HM : Hid (F0 ≤ frO la O) := Nat.le_of_eq HF.out
            clear hE HF hrg
            go_wp2_with fail
            refine (C3.out trivial).mono ?_
            rintro e w3 ⟨rfl, hC3, hG3⟩
            have hC : Hid (ClkE _ _ _ _) := hC3
            have hB : Hid (Below w.heap.size w w3) := below_own HB2.out hG3 hb
            clear hC3 hG3 C3 HC2 HB2 HR2 e0 e1
            have C5 : Hid (True → Calls _ _ _ _ _) := fun _ => openE b la O w3 hC.out
            obtain ⟨g1, g2, g3, g4, g5, g6⟩ := clk_facts hC.out
            go_wp2_with fail
            refine (C5.out trivial).mono ?_
            rintro e w5 ⟨p5, c5, rfl, hR5, hC5, hG5⟩
            have C6 : Hid (True → Calls _ _ _ _ _) := fun _ => frontE b la O w5 hC5
            have hbl := hC.out.lt
            have HB5 : Hid (Below w.heap.size w w5) := below_own hB.out hG5 hb
            have HR5 : Hid (RdU _ _ _ _) := hR5
            clear hC5 hG5 hR5 C5 hC hB
            go_wp2_with fail
            refine (C6.out trivial).mono ?_
            rintro e w6 ⟨rfl, hC6, hG6⟩
            have HC6 : Hid (ClkE _ _ _ _) := hC6
            have HB6 : Hid (Below w.heap.size w w6) := below_own HB5.out hG6 hb
            have HR6 : Hid (RdU w6 _ p5 _) := HR5.out.grown hG6 hbl
            have G1 : Hid _ := g1
            have G2 : Hid _ := g2
            have G3 : Hid _ := g3
            clear hC6 hG6 C6 HR5 HB5 g1 g2 g3
            generalize O = P at *
            generalize la = lb at *
            have hmn := HM.out
            generalize hFq : frO lb P = F1 at *
            have HFq : Hid (F1 = frO lb P) := hFq.symm
            clear hFq
            have d1 : ¬ ((F1 : Int) < (F0 : Int)) := by omega
            have d2 : ¬ ((lb : Int) < (F1 : Int)) := by omega
            have hend : ∀ w7, Below w6.heap.size w6 w7 → Hid (ClkE w7 b lb P) ∧ Hid (Below w.heap.size w w7) := fun w7 h7 => ⟨HC6.out.keep h7 HC6.out.lt, HB6.out.trans (h7.mono HB6.out.size)⟩
            have HE : Hid _ := hend
            clear hend
            have hPl : P.length ≤ 4096 := g6
            obtain ⟨pl, hpl⟩ : ∃ pl : Nat, P.length = pl := ⟨_, rfl⟩
            rw [hpl] at hPl ⊢
            have HPl : Hid (P.length = pl) := hpl
            have d3 : ¬ ((pl : Int) = 0) ∨ pl = 0 ∧ F1 = lb := by
              by_cases hz : P = []
              · right
                exact ⟨by rw [← hpl]; simp [hz], G3.out hz⟩
              · left
                have : 0 < P.length := List.length_pos_iff.2 hz
                omega
            clear hpl
            rcases d3 with d3 | ⟨d3, d4⟩
            · go_wp2_with fail
              go_loopw [14] (fun i wx => ∃ k : Nat, k ≤ pl ∧ i = .int .i64 (k : Int) ∧ Below w6.heap.size w6 wx) (fun i _ => pl - (intOf i).toNat)
              case atStart => exact ⟨0, Nat.zero_le _, by go_num, Below.refl _ _⟩
              case round =>
                obtain ⟨k, hk, rfl, hn⟩ := hrel
                by_cases hk0 : k = pl
                · subst hk0
                  obtain ⟨E1, E2⟩ := HE.out _ hn
                  go_wp2_with fail
                  go_roundw
                  case rel => exact ⟨j + 1, lb, P, F1, hj1, by go_num, rfl, rfl, HFq.out, E1, E2⟩
                  case measure => simp [intOf]; omega
                · have hk1 : k < P.length := by have := HPl.out; omega
                  have hkl : k < pl := by omega
                  obtain ⟨g, o, rfl, _, hgB, d0⟩ := HR6.out k hk1
                  have x0 := (hn.cell (p := ⟨g, o + k, none⟩) hgB).trans d0
                  obtain ⟨u1, u2⟩ := G2.out P[k] (List.getElem_mem hk1)
                  have y1 : ¬ (((P[k] : Nat) : Int) ≤ (F1 : Int)) := by omega
                  have y2 : ¬ ((lb : Int) < ((P[k] : Nat) : Int)) := by omega
                  clear d0 u1 u2
                  cases k with
                  | zero =>
                    generalize P[0] = x at *
                    simp only [Nat.add_zero] at x0
                    have Y1 : Hid _ := y1
                    have Y2 : Hid _ := y2
                    clear y1 y2
                    go_wp2_with fail
                    have z1 : ¬ ((x : Int) ≤ (F1 : Int)) := Y1.out
                    have z2 : ¬ ((lb : Int) < (x : Int)) := Y2.out
                    clear d1 d2
                    go_quiet (fail)
                    go_wp2_with fail
                    go_roundw
                    case rel => exact ⟨1, by omega, by go_num, below_drewN hn _⟩
                    case measure => simp [intOf]; omega
                  | succ m =>
                    have hm1 : m < P.length := by have := HPl.out; omega
                    obtain ⟨g', o', e', _, hgB', d0'⟩ := HR6.out m hm1
                    cases e'
                    have x1 := (hn.cell (p := ⟨g, o + m, none⟩) hgB').trans d0'
                    have y3 : ¬ (((P[m + 1] : Nat) : Int) ≤ ((P[m] : Nat) : Int)) := by
                      have := G1.out m (m + 1) hm1 hk1 (Nat.lt_succ_self m)
                      omega
                    clear d0'
                    have y4 : (0 : Int) < ((m + 1 : Nat) : Int) := by omega
                    have y5 : ((m + 1 : Nat) : Int) - 1 = (m : Int) := by omega
                    generalize P[m + 1] = x at *
                    generalize P[m] = y at *
                    have Y1 : Hid _ := y1
                    have Y2 : Hid _ := y2
                    have Y3 : Hid _ := y3
                    clear y1 y2 y3
                    go_wp2_with fail
                    have z1 : ¬ ((x : Int) ≤ (F1 : Int)) := Y1.out
                    have z2 : ¬ ((lb : Int) < (x : Int)) := Y2.out
                    have z3 : ¬ ((x : Int) ≤ (y : Int)) := Y3.out
                    clear d1 d2
                    go_quiet (fail)
                    go_wp2_with fail
                    go_roundw
                    case rel => exact ⟨m + 1 + 1, by omega, by go_num, below_drewN hn _⟩
                    case measure => simp [intOf]; omega
            · have D5 : Hid (lb = frO lb P) := (show lb = frO lb P by rw [← HFq.out, d4])
              have a5 : (F1 : Int) = (lb : Int) := by omega
              obtain ⟨E1, E2⟩ := HE.out w6 (Below.refl _ _)
              subst d3
              go_wp2_with fail
              go_loopw [14] (fun i wx => i = .int .i64 0 ∧ wx = w6) (fun _ _ => 0)
              case atStart => exact ⟨rfl, rfl⟩
              case round =>
                obtain ⟨rfl, hw⟩ := hrel
                rw [hw]
                clear hw
                go_wp2_with fail
                go_roundw
                case rel => exact ⟨j + 1, lb, P, lb, hj1, by go_num, rfl, rfl, D5.out, E1, E2⟩
                case measure => simp [intOf]; omega
          · by_cases hF : frO la O + 4096 = la
            · have C3 : Hid (True → Calls _ _ _ _ _) := fun _ => takeE_full b la O w2 HC2.out (by omega) hF
              have HM : Hid (F0 ≤ frO la O) := Nat.le_of_eq HF.out
              clear hE HF hrg hF
              go_wp2_with fail
              refine (C3.out trivial).mono ?_
              rintro e w3 ⟨rfl, hC3, hG3⟩
              have hC : Hid (ClkE _ _ _ _) := hC3
              have hB : Hid (Below w.heap.size w w3) := below_own HB2.out hG3 hb
              clear hC3 hG3 C3 HC2 HB2 HR2 e0 e1
              have C5 : Hid (True → Calls _ _ _ _ _) := fun _ => openE b la O w3 hC.out
              obtain ⟨g1, g2, g3, g4, g5, g6⟩ := clk_facts hC.out
              go_wp2_with fail
              refine (C5.out trivial).mono ?_
              rintro e w5 ⟨p5, c5, rfl, hR5, hC5, hG5⟩
              have C6 : Hid (True → Calls _ _ _ _ _) := fun _ => frontE b la O w5 hC5
              have hbl := hC.out.lt
              have HB5 : Hid (Below w.heap.size w w5) := below_own hB.out hG5 hb
              have HR5 : Hid (RdU _ _ _ _) := hR5
              clear hC5 hG5 hR5 C5 hC hB
              go_wp2_with fail
              refine (C6.out trivial).mono ?_
              rintro e w6 ⟨rfl, hC6, hG6⟩
              have HC6 : Hid (ClkE _ _ _ _) := hC6
              have HB6 : Hid (Below w.heap.size w w6) := below_own HB5.out hG6 hb
              have HR6 : Hid (RdU w6 _ p5 _) := HR5.out.grown hG6 hbl
              have G1 : Hid _ := g1
              have G2 : Hid _ := g2
              have G3 : Hid _ := g3
              clear hC6 hG6 C6 HR5 HB5 g1 g2 g3
              generalize O = P at *
              generalize la = lb at *
              have hmn := HM.out
              generalize hFq : frO lb P = F1 at *
              have HFq : Hid (F1 = frO lb P) := hFq.symm
              clear hFq
              have d1 : ¬ ((F1 : Int) < (F0 : Int)) := by omega
              have d2 : ¬ ((lb : Int) < (F1 : Int)) := by omega
              have hend : ∀ w7, Below w6.heap.size w6 w7 → Hid (ClkE w7 b lb P) ∧ Hid (Below w.heap.size w w7) := fun w7 h7 => ⟨HC6.out.keep h7 HC6.out.lt, HB6.out.trans (h7.mono HB6.out.size)⟩
              have HE : Hid _ := hend
              clear hend
              have hPl : P.length ≤ 4096 := g6
              obtain ⟨pl, hpl⟩ : ∃ pl : Nat, P.length = pl := ⟨_, rfl⟩
              rw [hpl] at hPl ⊢
              have HPl : Hid (P.length = pl) := hpl
              have d3 : ¬ ((pl : Int) = 0) ∨ pl = 0 ∧ F1 = lb := by
                by_cases hz : P = []
                · right
                  exact ⟨by rw [← hpl]; simp [hz], G3.out hz⟩
                · left
                  have : 0 < P.length := List.length_pos_iff.2 hz
                  omega
              clear hpl
              rcases d3 with d3 | ⟨d3, d4⟩
              · go_wp2_with fail
                go_loopw [14] (fun i wx => ∃ k : Nat, k ≤ pl ∧ i = .int .i64 (k : Int) ∧ Below w6.heap.size w6 wx) (fun i _ => pl - (intOf i).toNat)
                case atStart => exact ⟨0, Nat.zero_le _, by go_num, Below.refl _ _⟩
                case round =>
                  obtain ⟨k, hk, rfl, hn⟩ := hrel
                  by_cases hk0 : k = pl
                  · subst hk0
                    obtain ⟨E1, E2⟩ := HE.out _ hn
                    go_wp2_with fail
                    go_roundw
                    case rel => exact ⟨j + 1, lb, P, F1, hj1, by go_num, rfl, rfl, HFq.out, E1, E2⟩
                    case measure => simp [intOf]; omega
                  · have hk1 : k < P.length := by have := HPl.out; omega
                    have hkl : k < pl := by omega
                    obtain ⟨g, o, rfl, _, hgB, d0⟩ := HR6.out k hk1
                    have x0 := (hn.cell (p := ⟨g, o + k, none⟩) hgB).trans d0
                    obtain ⟨u1, u2⟩ := G2.out P[k] (List.getElem_mem hk1)
                    have y1 : ¬ (((P[k] : Nat) : Int) ≤ (F1 : Int)) := by omega
                    have y2 : ¬ ((lb : Int) < ((P[k] : Nat) : Int)) := by omega
                    clear d0 u1 u2
                    cases k with
                    | zero =>
                      generalize P[0] = x at *
                      simp only [Nat.add_zero] at x0
                      have Y1 : Hid _ := y1
                      have Y2 : Hid _ := y2
                      clear y1 y2
                      go_wp2_with fail
                      have z1 : ¬ ((x : Int) ≤ (F1 : Int)) := Y1.out
                      have z2 : ¬ ((lb : Int) < (x : Int)) := Y2.out
                      clear d1 d2
                      go_quiet (fail)
                      go_wp2_with fail
                      go_roundw
                      case rel => exact ⟨1, by omega, by go_num, below_drewN hn _⟩
                      case measure => simp [intOf]; omega
                    | succ m =>
                      have hm1 : m < P.length := by have := HPl.out; omega
                      obtain ⟨g', o', e', _, hgB', d0'⟩ := HR6.out m hm1
                      cases e'
                      have x1 := (hn.cell (p := ⟨g, o + m, none⟩) hgB').trans d0'
                      have y3 : ¬ (((P[m + 1] : Nat) : Int) ≤ ((P[m] : Nat) : Int)) := by
                        have := G1.out m (m + 1) hm1 hk1 (Nat.lt_succ_self m)
                        omega
                      clear d0'
                      have y4 : (0 : Int) < ((m + 1 : Nat) : Int) := by omega
                      have y5 : ((m + 1 : Nat) : Int) - 1 = (m : Int) := by omega
                      generalize P[m + 1] = x at *
                      generalize P[m] = y at *
                      have Y1 : Hid _ := y1
                      have Y2 : Hid _ := y2
                      have Y3 : Hid _ := y3
                      clear y1 y2 y3
                      go_wp2_with fail
                      have z1 : ¬ ((x : Int) ≤ (F1 : Int)) := Y1.out
                      have z2 : ¬ ((lb : Int) < (x : Int)) := Y2.out
                      have z3 : ¬ ((x : Int) ≤ (y : Int)) := Y3.out
                      clear d1 d2
                      go_quiet (fail)
                      go_wp2_with fail
                      go_roundw
                      case rel => exact ⟨m + 1 + 1, by omega, by go_num, below_drewN hn _⟩
                      case measure => simp [intOf]; omega
              · have D5 : Hid (lb = frO lb P) := (show lb = frO lb P by rw [← HFq.out, d4])
                have a5 : (F1 : Int) = (lb : Int) := by omega
                obtain ⟨E1, E2⟩ := HE.out w6 (Below.refl _ _)
                subst d3
                go_wp2_with fail
                go_loopw [14] (fun i wx => i = .int .i64 0 ∧ wx = w6) (fun _ _ => 0)
                case atStart => exact ⟨rfl, rfl⟩
                case round =>
                  obtain ⟨rfl, hw⟩ := hrel
                  rw [hw]
                  clear hw
                  go_wp2_with fail
                  go_roundw
                  case rel => exact ⟨j + 1, lb, P, lb, hj1, by go_num, rfl, rfl, D5.out, E1, E2⟩
                  case measure => simp [intOf]; omega
            · obtain ⟨lb, hlb⟩ : ∃ lb : Nat, la + 1 = lb := ⟨_, rfl⟩
              obtain ⟨P, hPq⟩ : ∃ P : List Nat, O ++ [la + 1] = P := ⟨_, rfl⟩
              have HLB : Hid ((lb : Int) = (la : Int) + 1) := (show (lb : Int) = (la : Int) + 1 by omega)
              have C3 : Hid (True → Calls Try.prog 13 #[.pointer (some ⟨b, 0, none⟩)] w2 fun e w' => e = .returned (.tuple #[.int .u64 ((la : Int) + 1), .int .i64 0]) ∧ ClkE w' b lb P ∧ w2.grownBy w' (some b)) := fun _ => by
                have hk := takeE_ok b la O w2 HC2.out (by omega) (by have := hrg.out; omega)
                rw [show ((la + 1 : Nat) : Int) = (la : Int) + 1 by omega, hPq, hlb] at hk
                exact hk
              have HM : Hid (F0 ≤ frO lb P) := (show F0 ≤ frO lb P by rw [← hlb, ← hPq, frO_append]; exact Nat.le_of_eq HF.out)
              have hla1 : la < 4611686018427387904 := by omega
              have HPN : Hid (P ≠ []) := (show P ≠ [] by rw [← hPq]; simp)
              clear hE HF hrg hF hlb hPq
              go_wp2_with fail
              refine (C3.out trivial).mono ?_
              rintro e w3 ⟨rfl, hC3, hG3⟩
              have hC : Hid (ClkE _ _ _ _) := hC3
              have hB : Hid (Below w.heap.size w w3) := below_own HB2.out hG3 hb
              clear hC3 hG3 C3 HC2 HB2 HR2 e0 e1
              have C5 : Hid (True → Calls _ _ _ _ _) := fun _ => openE b lb P w3 hC.out
              obtain ⟨g1, g2, g3, g4, g5, g6⟩ := clk_facts hC.out
              go_wp2_with fail
              refine (C5.out trivial).mono ?_
              rintro e w5 ⟨p5, c5, rfl, hR5, hC5, hG5⟩
              have C6 : Hid (True → Calls _ _ _ _ _) := fun _ => frontE b lb P w5 hC5
              have hbl := hC.out.lt
              have HB5 : Hid (Below w.heap.size w w5) := below_own hB.out hG5 hb
              have HR5 : Hid (RdU _ _ _ _) := hR5
              clear hC5 hG5 hR5 C5 hC hB
              go_wp2_with fail
              refine (C6.out trivial).mono ?_
              rintro e w6 ⟨rfl, hC6, hG6⟩
              have HC6 : Hid (ClkE _ _ _ _) := hC6
              have HB6 : Hid (Below w.heap.size w w6) := below_own HB5.out hG6 hb
              have HR6 : Hid (RdU w6 _ p5 _) := HR5.out.grown hG6 hbl
              have G1 : Hid _ := g1
              have G2 : Hid _ := g2
              have G3 : Hid _ := g3
              clear hC6 hG6 C6 HR5 HB5 g1 g2 g3
              skip
              have hlb2 : (lb : Int) = (la : Int) + 1 := HLB.out
              have hmn := HM.out
              generalize hFq : frO lb P = F1 at *
              have HFq : Hid (F1 = frO lb P) := hFq.symm
              clear hFq
              have d1 : ¬ ((F1 : Int) < (F0 : Int)) := by omega
              have d2 : ¬ ((la : Int) + 1 < (F1 : Int)) := by omega
              clear hlb2
              have hend : ∀ w7, Below w6.heap.size w6 w7 → Hid (ClkE w7 b lb P) ∧ Hid (Below w.heap.size w w7) := fun w7 h7 => ⟨HC6.out.keep h7 HC6.out.lt, HB6.out.trans (h7.mono HB6.out.size)⟩
              have HE : Hid _ := hend
              clear hend
              have hPl : P.length ≤ 4096 := g6
              obtain ⟨pl, hpl⟩ : ∃ pl : Nat, P.length = pl := ⟨_, rfl⟩
              rw [hpl] at hPl ⊢
              have HPl : Hid (P.length = pl) := hpl
              have d3 : ¬ ((pl : Int) = 0) ∨ pl = 0 ∧ F1 = lb := by
                by_cases hz : P = []
                · right
                  exact ⟨by rw [← hpl]; simp [hz], G3.out hz⟩
                · left
                  have : 0 < P.length := List.length_pos_iff.2 hz
                  omega
              clear hpl
              rcases d3 with d3 | ⟨d3, d4⟩
              · go_wp2_with fail
                go_loopw [14] (fun i wx => ∃ k : Nat, k ≤ pl ∧ i = .int .i64 (k : Int) ∧ Below w6.heap.size w6 wx) (fun i _ => pl - (intOf i).toNat)
                case atStart => exact ⟨0, Nat.zero_le _, by go_num, Below.refl _ _⟩
                case round =>
                  obtain ⟨k, hk, rfl, hn⟩ := hrel
                  by_cases hk0 : k = pl
                  · subst hk0
                    obtain ⟨E1, E2⟩ := HE.out _ hn
                    go_wp2_with fail
                    go_roundw
                    case rel => exact ⟨j + 1, lb, P, F1, hj1, by go_num, by rw [HLB.out], rfl, HFq.out, E1, E2⟩
                    case measure => simp [intOf]; omega
                  · have hk1 : k < P.length := by have := HPl.out; omega
                    have hkl : k < pl := by omega
                    obtain ⟨g, o, rfl, _, hgB, d0⟩ := HR6.out k hk1
                    have x0 := (hn.cell (p := ⟨g, o + k, none⟩) hgB).trans d0
                    obtain ⟨u1, u2⟩ := G2.out P[k] (List.getElem_mem hk1)
                    have y1 : ¬ (((P[k] : Nat) : Int) ≤ (F1 : Int)) := by omega
                    have y2 : ¬ ((la : Int) + 1 < ((P[k] : Nat) : Int)) := by have := HLB.out; omega
                    clear d0 u1 u2
                    cases k with
                    | zero =>
                      generalize P[0] = x at *
                      simp only [Nat.add_zero] at x0
                      have Y1 : Hid _ := y1
                      have Y2 : Hid _ := y2
                      clear y1 y2
                      go_wp2_with fail
                      have z1 : ¬ ((x : Int) ≤ (F1 : Int)) := Y1.out
                      have z2 : ¬ ((la : Int) + 1 < (x : Int)) := Y2.out
                      clear d1 d2
                      go_quiet (fail)
                      go_wp2_with fail
                      go_roundw
                      case rel => exact ⟨1, by omega, by go_num, below_drewN hn _⟩
                      case measure => simp [intOf]; omega
                    | succ m =>
                      have hm1 : m < P.length := by have := HPl.out; omega
                      obtain ⟨g', o', e', _, hgB', d0'⟩ := HR6.out m hm1
                      cases e'
                      have x1 := (hn.cell (p := ⟨g, o + m, none⟩) hgB').trans d0'
                      have y3 : ¬ (((P[m + 1] : Nat) : Int) ≤ ((P[m] : Nat) : Int)) := by
                        have := G1.out m (m + 1) hm1 hk1 (Nat.lt_succ_self m)
                        omega
                      clear d0'
                      have y4 : (0 : Int) < ((m + 1 : Nat) : Int) := by omega
                      have y5 : ((m + 1 : Nat) : Int) - 1 = (m : Int) := by omega
                      generalize P[m + 1] = x at *
                      generalize P[m] = y at *
                      have Y1 : Hid _ := y1
                      have Y2 : Hid _ := y2
                      have Y3 : Hid _ := y3
                      clear y1 y2 y3
                      go_wp2_with fail
                      have z1 : ¬ ((x : Int) ≤ (F1 : Int)) := Y1.out
                      have z2 : ¬ ((la : Int) + 1 < (x : Int)) := Y2.out
                      have z3 : ¬ ((x : Int) ≤ (y : Int)) := Y3.out
                      clear d1 d2
                      go_quiet (fail)
                      go_wp2_with fail
                      go_roundw
                      case rel => exact ⟨m + 1 + 1, by omega, by go_num, below_drewN hn _⟩
                      case measure => simp [intOf]; omega
              · exact absurd (List.eq_nil_of_length_eq_zero (HPl.out.trans d3)) HPN.out
        | false =>
          rw [htk] at e0
          clear htk
          generalize L[j].pk = pk at *
          by_cases hp : 0 ≤ pk ∧ pk < (O.length : Int)
          · obtain ⟨hp1, hp2⟩ := hp
            obtain ⟨i, rfl⟩ : ∃ i : Nat, pk = (i : Int) := ⟨pk.toNat, by omega⟩
            have hi : i < O.length := by omega
            obtain ⟨g7, o7, rfl, _, hg7, x7⟩ := HR2.out i hi
            obtain ⟨s, hs⟩ : ∃ s : Nat, O[i] = s := ⟨_, rfl⟩
            have hin : s ∈ O := by rw [← hs]; exact List.getElem_mem hi
            rw [hs] at x7
            have C3 : Hid (True → Calls Try.prog 14 #[.pointer (some ⟨b, 0, none⟩), .int .u64 (s : Nat)] w2 fun e w' => e = .returned (.int .i64 0) ∧ ClkE w' b la (left O s) ∧ w2.grownBy w' (some b)) := fun _ => doneE_ok b la O s w2 HC2.out hin
            have HM : Hid (F0 ≤ frO la (left O s)) := Nat.le_trans (Nat.le_of_eq HF.out) (clk_left HC2.out s)
            clear HF hrg hs hin
            go_wp2_with fail
            refine (C3.out trivial).mono ?_
            rintro e w3 ⟨rfl, hC3, hG3⟩
            have hC : Hid (ClkE _ _ _ _) := hC3
            have hB : Hid (Below w.heap.size w w3) := below_own HB2.out hG3 hb
            clear hC3 hG3 C3 HC2 HB2 HR2 e0 e1 x7 hp1 hp2 hi
            have C5 : Hid (True → Calls _ _ _ _ _) := fun _ => openE b la (left O s) w3 hC.out
            obtain ⟨g1, g2, g3, g4, g5, g6⟩ := clk_facts hC.out
            go_wp2_with fail
            refine (C5.out trivial).mono ?_
            rintro e w5 ⟨p5, c5, rfl, hR5, hC5, hG5⟩
            have C6 : Hid (True → Calls _ _ _ _ _) := fun _ => frontE b la (left O s) w5 hC5
            have hbl := hC.out.lt
            have HB5 : Hid (Below w.heap.size w w5) := below_own hB.out hG5 hb
            have HR5 : Hid (RdU _ _ _ _) := hR5
            clear hC5 hG5 hR5 C5 hC hB
            go_wp2_with fail
            refine (C6.out trivial).mono ?_
            rintro e w6 ⟨rfl, hC6, hG6⟩
            have HC6 : Hid (ClkE _ _ _ _) := hC6
            have HB6 : Hid (Below w.heap.size w w6) := below_own HB5.out hG6 hb
            have HR6 : Hid (RdU w6 _ p5 _) := HR5.out.grown hG6 hbl
            have G1 : Hid _ := g1
            have G2 : Hid _ := g2
            have G3 : Hid _ := g3
            clear hC6 hG6 C6 HR5 HB5 g1 g2 g3
            generalize (left O s) = P at *
            generalize la = lb at *
            have hmn := HM.out
            generalize hFq : frO lb P = F1 at *
            have HFq : Hid (F1 = frO lb P) := hFq.symm
            clear hFq
            have d1 : ¬ ((F1 : Int) < (F0 : Int)) := by omega
            have d2 : ¬ ((lb : Int) < (F1 : Int)) := by omega
            have hend : ∀ w7, Below w6.heap.size w6 w7 → Hid (ClkE w7 b lb P) ∧ Hid (Below w.heap.size w w7) := fun w7 h7 => ⟨HC6.out.keep h7 HC6.out.lt, HB6.out.trans (h7.mono HB6.out.size)⟩
            have HE : Hid _ := hend
            clear hend
            have hPl : P.length ≤ 4096 := g6
            obtain ⟨pl, hpl⟩ : ∃ pl : Nat, P.length = pl := ⟨_, rfl⟩
            rw [hpl] at hPl ⊢
            have HPl : Hid (P.length = pl) := hpl
            have d3 : ¬ ((pl : Int) = 0) ∨ pl = 0 ∧ F1 = lb := by
              by_cases hz : P = []
              · right
                exact ⟨by rw [← hpl]; simp [hz], G3.out hz⟩
              · left
                have : 0 < P.length := List.length_pos_iff.2 hz
                omega
            clear hpl
            rcases d3 with d3 | ⟨d3, d4⟩
            · go_wp2_with fail
              go_loopw [14] (fun i wx => ∃ k : Nat, k ≤ pl ∧ i = .int .i64 (k : Int) ∧ Below w6.heap.size w6 wx) (fun i _ => pl - (intOf i).toNat)
              case atStart => exact ⟨0, Nat.zero_le _, by go_num, Below.refl _ _⟩
              case round =>
                obtain ⟨k, hk, rfl, hn⟩ := hrel
                by_cases hk0 : k = pl
                · subst hk0
                  obtain ⟨E1, E2⟩ := HE.out _ hn
                  go_wp2_with fail
                  go_roundw
                  case rel => exact ⟨j + 1, lb, P, F1, hj1, by go_num, rfl, rfl, HFq.out, E1, E2⟩
                  case measure => simp [intOf]; omega
                · have hk1 : k < P.length := by have := HPl.out; omega
                  have hkl : k < pl := by omega
                  obtain ⟨g, o, rfl, _, hgB, d0⟩ := HR6.out k hk1
                  have x0 := (hn.cell (p := ⟨g, o + k, none⟩) hgB).trans d0
                  obtain ⟨u1, u2⟩ := G2.out P[k] (List.getElem_mem hk1)
                  have y1 : ¬ (((P[k] : Nat) : Int) ≤ (F1 : Int)) := by omega
                  have y2 : ¬ ((lb : Int) < ((P[k] : Nat) : Int)) := by omega
                  clear d0 u1 u2
                  cases k with
                  | zero =>
                    generalize P[0] = x at *
                    simp only [Nat.add_zero] at x0
                    have Y1 : Hid _ := y1
                    have Y2 : Hid _ := y2
                    clear y1 y2
                    go_wp2_with fail
                    have z1 : ¬ ((x : Int) ≤ (F1 : Int)) := Y1.out
                    have z2 : ¬ ((lb : Int) < (x : Int)) := Y2.out
                    clear d1 d2
                    go_quiet (fail)
                    go_wp2_with fail
                    go_roundw
                    case rel => exact ⟨1, by omega, by go_num, below_drewN hn _⟩
                    case measure => simp [intOf]; omega
                  | succ m =>
                    have hm1 : m < P.length := by have := HPl.out; omega
                    obtain ⟨g', o', e', _, hgB', d0'⟩ := HR6.out m hm1
                    cases e'
                    have x1 := (hn.cell (p := ⟨g, o + m, none⟩) hgB').trans d0'
                    have y3 : ¬ (((P[m + 1] : Nat) : Int) ≤ ((P[m] : Nat) : Int)) := by
                      have := G1.out m (m + 1) hm1 hk1 (Nat.lt_succ_self m)
                      omega
                    clear d0'
                    have y4 : (0 : Int) < ((m + 1 : Nat) : Int) := by omega
                    have y5 : ((m + 1 : Nat) : Int) - 1 = (m : Int) := by omega
                    generalize P[m + 1] = x at *
                    generalize P[m] = y at *
                    have Y1 : Hid _ := y1
                    have Y2 : Hid _ := y2
                    have Y3 : Hid _ := y3
                    clear y1 y2 y3
                    go_wp2_with fail
                    have z1 : ¬ ((x : Int) ≤ (F1 : Int)) := Y1.out
                    have z2 : ¬ ((lb : Int) < (x : Int)) := Y2.out
                    have z3 : ¬ ((x : Int) ≤ (y : Int)) := Y3.out
                    clear d1 d2
                    go_quiet (fail)
                    go_wp2_with fail
                    go_roundw
                    case rel => exact ⟨m + 1 + 1, by omega, by go_num, below_drewN hn _⟩
                    case measure => simp [intOf]; omega
            · have D5 : Hid (lb = frO lb P) := (show lb = frO lb P by rw [← HFq.out, d4])
              have a5 : (F1 : Int) = (lb : Int) := by omega
              obtain ⟨E1, E2⟩ := HE.out w6 (Below.refl _ _)
              subst d3
              go_wp2_with fail
              go_loopw [14] (fun i wx => i = .int .i64 0 ∧ wx = w6) (fun _ _ => 0)
              case atStart => exact ⟨rfl, rfl⟩
              case round =>
                obtain ⟨rfl, hw⟩ := hrel
                rw [hw]
                clear hw
                go_wp2_with fail
                go_roundw
                case rel => exact ⟨j + 1, lb, P, lb, hj1, by go_num, rfl, rfl, D5.out, E1, E2⟩
                case measure => simp [intOf]; omega
          · have HM : Hid (F0 ≤ frO la O) := Nat.le_of_eq HF.out
            have hC : Hid (ClkE _ _ _ _) := HC2
            have hB : Hid (Below w.heap.size w w2) := HB2
            have hp3 : pk < 0 ∨ (0 ≤ pk ∧ ¬ (pk < (O.length : Int))) := by omega
            clear HF hrg HC2 HB2 HR2 hp
            rcases hp3 with hp3 | ⟨hp3, hp4⟩
            · have hp5 : ¬ (0 ≤ pk) := by omega
              have C5 : Hid (True → Calls _ _ _ _ _) := fun _ => openE b la O w2 hC.out
              obtain ⟨g1, g2, g3, g4, g5, g6⟩ := clk_facts hC.out
              go_wp2_with fail
              refine (C5.out trivial).mono ?_
              rintro e w5 ⟨p5, c5, rfl, hR5, hC5, hG5⟩
              have C6 : Hid (True → Calls _ _ _ _ _) := fun _ => frontE b la O w5 hC5
              have hbl := hC.out.lt
              have HB5 : Hid (Below w.heap.size w w5) := below_own hB.out hG5 hb
              have HR5 : Hid (RdU _ _ _ _) := hR5
              clear hC5 hG5 hR5 C5 hC hB
              go_wp2_with fail
              refine (C6.out trivial).mono ?_
              rintro e w6 ⟨rfl, hC6, hG6⟩
              have HC6 : Hid (ClkE _ _ _ _) := hC6
              have HB6 : Hid (Below w.heap.size w w6) := below_own HB5.out hG6 hb
              have HR6 : Hid (RdU w6 _ p5 _) := HR5.out.grown hG6 hbl
              have G1 : Hid _ := g1
              have G2 : Hid _ := g2
              have G3 : Hid _ := g3
              clear hC6 hG6 C6 HR5 HB5 g1 g2 g3
              generalize O = P at *
              generalize la = lb at *
              have hmn := HM.out
              generalize hFq : frO lb P = F1 at *
              have HFq : Hid (F1 = frO lb P) := hFq.symm
              clear hFq
              have d1 : ¬ ((F1 : Int) < (F0 : Int)) := by omega
              have d2 : ¬ ((lb : Int) < (F1 : Int)) := by omega
              have hend : ∀ w7, Below w6.heap.size w6 w7 → Hid (ClkE w7 b lb P) ∧ Hid (Below w.heap.size w w7) := fun w7 h7 => ⟨HC6.out.keep h7 HC6.out.lt, HB6.out.trans (h7.mono HB6.out.size)⟩
              have HE : Hid _ := hend
              clear hend
              have hPl : P.length ≤ 4096 := g6
              obtain ⟨pl, hpl⟩ : ∃ pl : Nat, P.length = pl := ⟨_, rfl⟩
              rw [hpl] at hPl ⊢
              have HPl : Hid (P.length = pl) := hpl
              have d3 : ¬ ((pl : Int) = 0) ∨ pl = 0 ∧ F1 = lb := by
                by_cases hz : P = []
                · right
                  exact ⟨by rw [← hpl]; simp [hz], G3.out hz⟩
                · left
                  have : 0 < P.length := List.length_pos_iff.2 hz
                  omega
              clear hpl
              rcases d3 with d3 | ⟨d3, d4⟩
              · go_wp2_with fail
                go_loopw [14] (fun i wx => ∃ k : Nat, k ≤ pl ∧ i = .int .i64 (k : Int) ∧ Below w6.heap.size w6 wx) (fun i _ => pl - (intOf i).toNat)
                case atStart => exact ⟨0, Nat.zero_le _, by go_num, Below.refl _ _⟩
                case round =>
                  obtain ⟨k, hk, rfl, hn⟩ := hrel
                  by_cases hk0 : k = pl
                  · subst hk0
                    obtain ⟨E1, E2⟩ := HE.out _ hn
                    go_wp2_with fail
                    go_roundw
                    case rel => exact ⟨j + 1, lb, P, F1, hj1, by go_num, rfl, rfl, HFq.out, E1, E2⟩
                    case measure => simp [intOf]; omega
                  · have hk1 : k < P.length := by have := HPl.out; omega
                    have hkl : k < pl := by omega
                    obtain ⟨g, o, rfl, _, hgB, d0⟩ := HR6.out k hk1
                    have x0 := (hn.cell (p := ⟨g, o + k, none⟩) hgB).trans d0
                    obtain ⟨u1, u2⟩ := G2.out P[k] (List.getElem_mem hk1)
                    have y1 : ¬ (((P[k] : Nat) : Int) ≤ (F1 : Int)) := by omega
                    have y2 : ¬ ((lb : Int) < ((P[k] : Nat) : Int)) := by omega
                    clear d0 u1 u2
                    cases k with
                    | zero =>
                      generalize P[0] = x at *
                      simp only [Nat.add_zero] at x0
                      have Y1 : Hid _ := y1
                      have Y2 : Hid _ := y2
                      clear y1 y2
                      go_wp2_with fail
                      have z1 : ¬ ((x : Int) ≤ (F1 : Int)) := Y1.out
                      have z2 : ¬ ((lb : Int) < (x : Int)) := Y2.out
                      clear d1 d2
                      go_quiet (fail)
                      go_wp2_with fail
                      go_roundw
                      case rel => exact ⟨1, by omega, by go_num, below_drewN hn _⟩
                      case measure => simp [intOf]; omega
                    | succ m =>
                      have hm1 : m < P.length := by have := HPl.out; omega
                      obtain ⟨g', o', e', _, hgB', d0'⟩ := HR6.out m hm1
                      cases e'
                      have x1 := (hn.cell (p := ⟨g, o + m, none⟩) hgB').trans d0'
                      have y3 : ¬ (((P[m + 1] : Nat) : Int) ≤ ((P[m] : Nat) : Int)) := by
                        have := G1.out m (m + 1) hm1 hk1 (Nat.lt_succ_self m)
                        omega
                      clear d0'
                      have y4 : (0 : Int) < ((m + 1 : Nat) : Int) := by omega
                      have y5 : ((m + 1 : Nat) : Int) - 1 = (m : Int) := by omega
                      generalize P[m + 1] = x at *
                      generalize P[m] = y at *
                      have Y1 : Hid _ := y1
                      have Y2 : Hid _ := y2
                      have Y3 : Hid _ := y3
                      clear y1 y2 y3
                      go_wp2_with fail
                      have z1 : ¬ ((x : Int) ≤ (F1 : Int)) := Y1.out
                      have z2 : ¬ ((lb : Int) < (x : Int)) := Y2.out
                      have z3 : ¬ ((x : Int) ≤ (y : Int)) := Y3.out
                      clear d1 d2
                      go_quiet (fail)
                      go_wp2_with fail
                      go_roundw
                      case rel => exact ⟨m + 1 + 1, by omega, by go_num, below_drewN hn _⟩
                      case measure => simp [intOf]; omega
              · have D5 : Hid (lb = frO lb P) := (show lb = frO lb P by rw [← HFq.out, d4])
                have a5 : (F1 : Int) = (lb : Int) := by omega
                obtain ⟨E1, E2⟩ := HE.out w6 (Below.refl _ _)
                subst d3
                go_wp2_with fail
                go_loopw [14] (fun i wx => i = .int .i64 0 ∧ wx = w6) (fun _ _ => 0)
                case atStart => exact ⟨rfl, rfl⟩
                case round =>
                  obtain ⟨rfl, hw⟩ := hrel
                  rw [hw]
                  clear hw
                  go_wp2_with fail
                  go_roundw
                  case rel => exact ⟨j + 1, lb, P, lb, hj1, by go_num, rfl, rfl, D5.out, E1, E2⟩
                  case measure => simp [intOf]; omega
            · skip
              have C5 : Hid (True → Calls _ _ _ _ _) := fun _ => openE b la O w2 hC.out
              obtain ⟨g1, g2, g3, g4, g5, g6⟩ := clk_facts hC.out
              go_wp2_with fail
              refine (C5.out trivial).mono ?_
              rintro e w5 ⟨p5, c5, rfl, hR5, hC5, hG5⟩
              have C6 : Hid (True → Calls _ _ _ _ _) := fun _ => frontE b la O w5 hC5
              have hbl := hC.out.lt
              have HB5 : Hid (Below w.heap.size w w5) := below_own hB.out hG5 hb
              have HR5 : Hid (RdU _ _ _ _) := hR5
              clear hC5 hG5 hR5 C5 hC hB
              go_wp2_with fail
              refine (C6.out trivial).mono ?_
              rintro e w6 ⟨rfl, hC6, hG6⟩
              have HC6 : Hid (ClkE _ _ _ _) := hC6
              have HB6 : Hid (Below w.heap.size w w6) := below_own HB5.out hG6 hb
              have HR6 : Hid (RdU w6 _ p5 _) := HR5.out.grown hG6 hbl
              have G1 : Hid _ := g1
              have G2 : Hid _ := g2
              have G3 : Hid _ := g3
              clear hC6 hG6 C6 HR5 HB5 g1 g2 g3
              generalize O = P at *
              generalize la = lb at *
              have hmn := HM.out
              generalize hFq : frO lb P = F1 at *
              have HFq : Hid (F1 = frO lb P) := hFq.symm
              clear hFq
              have d1 : ¬ ((F1 : Int) < (F0 : Int)) := by omega
              have d2 : ¬ ((lb : Int) < (F1 : Int)) := by omega
              have hend : ∀ w7, Below w6.heap.size w6 w7 → Hid (ClkE w7 b lb P) ∧ Hid (Below w.heap.size w w7) := fun w7 h7 => ⟨HC6.out.keep h7 HC6.out.lt, HB6.out.trans (h7.mono HB6.out.size)⟩
              have HE : Hid _ := hend
              clear hend
              have hPl : P.length ≤ 4096 := g6
              obtain ⟨pl, hpl⟩ : ∃ pl : Nat, P.length = pl := ⟨_, rfl⟩
              rw [hpl] at hPl ⊢
              have HPl : Hid (P.length = pl) := hpl
              have d3 : ¬ ((pl : Int) = 0) ∨ pl = 0 ∧ F1 = lb := by
                by_cases hz : P = []
                · right
                  exact ⟨by rw [← hpl]; simp [hz], G3.out hz⟩
                · left
                  have : 0 < P.length := List.length_pos_iff.2 hz
                  omega
              clear hpl
              rcases d3 with d3 | ⟨d3, d4⟩
              · go_wp2_with fail
                go_loopw [14] (fun i wx => ∃ k : Nat, k ≤ pl ∧ i = .int .i64 (k : Int) ∧ Below w6.heap.size w6 wx) (fun i _ => pl - (intOf i).toNat)
                case atStart => exact ⟨0, Nat.zero_le _, by go_num, Below.refl _ _⟩
                case round =>
                  obtain ⟨k, hk, rfl, hn⟩ := hrel
                  by_cases hk0 : k = pl
                  · subst hk0
                    obtain ⟨E1, E2⟩ := HE.out _ hn
                    go_wp2_with fail
                    go_roundw
                    case rel => exact ⟨j + 1, lb, P, F1, hj1, by go_num, rfl, rfl, HFq.out, E1, E2⟩
                    case measure => simp [intOf]; omega
                  · have hk1 : k < P.length := by have := HPl.out; omega
                    have hkl : k < pl := by omega
                    obtain ⟨g, o, rfl, _, hgB, d0⟩ := HR6.out k hk1
                    have x0 := (hn.cell (p := ⟨g, o + k, none⟩) hgB).trans d0
                    obtain ⟨u1, u2⟩ := G2.out P[k] (List.getElem_mem hk1)
                    have y1 : ¬ (((P[k] : Nat) : Int) ≤ (F1 : Int)) := by omega
                    have y2 : ¬ ((lb : Int) < ((P[k] : Nat) : Int)) := by omega
                    clear d0 u1 u2
                    cases k with
                    | zero =>
                      generalize P[0] = x at *
                      simp only [Nat.add_zero] at x0
                      have Y1 : Hid _ := y1
                      have Y2 : Hid _ := y2
                      clear y1 y2
                      go_wp2_with fail
                      have z1 : ¬ ((x : Int) ≤ (F1 : Int)) := Y1.out
                      have z2 : ¬ ((lb : Int) < (x : Int)) := Y2.out
                      clear d1 d2
                      go_quiet (fail)
                      go_wp2_with fail
                      go_roundw
                      case rel => exact ⟨1, by omega, by go_num, below_drewN hn _⟩
                      case measure => simp [intOf]; omega
                    | succ m =>
                      have hm1 : m < P.length := by have := HPl.out; omega
                      obtain ⟨g', o', e', _, hgB', d0'⟩ := HR6.out m hm1
                      cases e'
                      have x1 := (hn.cell (p := ⟨g, o + m, none⟩) hgB').trans d0'
                      have y3 : ¬ (((P[m + 1] : Nat) : Int) ≤ ((P[m] : Nat) : Int)) := by
                        have := G1.out m (m + 1) hm1 hk1 (Nat.lt_succ_self m)
                        omega
                      clear d0'
                      have y4 : (0 : Int) < ((m + 1 : Nat) : Int) := by omega
                      have y5 : ((m + 1 : Nat) : Int) - 1 = (m : Int) := by omega
                      generalize P[m + 1] = x at *
                      generalize P[m] = y at *
                      have Y1 : Hid _ := y1
                      have Y2 : Hid _ := y2
                      have Y3 : Hid _ := y3
                      clear y1 y2 y3
                      go_wp2_with fail
                      have z1 : ¬ ((x : Int) ≤ (F1 : Int)) := Y1.out
                      have z2 : ¬ ((lb : Int) < (x : Int)) := Y2.out
                      have z3 : ¬ ((x : Int) ≤ (y : Int)) := Y3.out
                      clear d1 d2
                      go_quiet (fail)
                      go_wp2_with fail
                      go_roundw
                      case rel => exact ⟨m + 1 + 1, by omega, by go_num, below_drewN hn _⟩
                      case measure => simp [intOf]; omega
              · have D5 : Hid (lb = frO lb P) := (show lb = frO lb P by rw [← HFq.out, d4])
                have a5 : (F1 : Int) = (lb : Int) := by omega
                obtain ⟨E1, E2⟩ := HE.out w6 (Below.refl _ _)
                subst d3
                go_wp2_with fail
                go_loopw [14] (fun i wx => i = .int .i64 0 ∧ wx = w6) (fun _ _ => 0)
                case atStart => exact ⟨rfl, rfl⟩
                case round =>
                  obtain ⟨rfl, hw⟩ := hrel
                  rw [hw]
                  clear hw
                  go_wp2_with fail
                  go_roundw
                  case rel => exact ⟨j + 1, lb, P, lb, hj1, by go_num, rfl, rfl, D5.out, E1, E2⟩
                  case measure => simp [intOf]; omega
  · have C1 : Hid (Calls _ _ _ _ _) := new_bad (n : Int) w (by omega)
    clear hn2 HR
    go_enter Try.func6, Try.ntmps6
    go_wp2_with fail
    refine C1.out.mono ?_
    rintro e w1 ⟨rfl, hw⟩
    rw [hw]
    clear hw
    go_wp2_with fail
    refine (C9.out _).mono ?_
    rintro e w5 ⟨rfl, hB5⟩
    go_wp2_with fail
    go_ret
    exact ⟨rfl, hB5⟩
end Go.Proofs.Ytckjgnjakkeodaa
