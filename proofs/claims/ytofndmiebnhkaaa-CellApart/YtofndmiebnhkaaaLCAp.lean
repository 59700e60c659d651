/- CellApart: the law's walk. -/
import Derived.Test.YtofndmiebnhkaaaMAp
namespace Go.Proofs.Ytofndmiebnhkaaa
open Go.RowKit
set_option maxRecDepth 100000

/-- THREE PLACES: one of numbers with the document's, an empty one (b1), one of texts (b2). -/
structure AP (w : World) (b1 b2 bx lo : Nat) (O : List Int) (n : Nat) (v : Value) (S : List ByteArray) (m : Nat) (k1 k2 : Nat) (wr : World) : Prop where
  pl : PL w w.heap.size bx lo O n v wr
  cb : CelE wr b1 lo [] 0
  cs : CelS wr b2 lo S m
  e1 : w.heap.size < b1
  e2 : b1 < b2
  e3 : b2 < bx
theorem AP.on {w w1 w2 : World} {b1 b2 bx lo : Nat} {O : List Int} {n : Nat} {v : Value} {S : List ByteArray} {m k1 k2 : Nat} (h : AP w b1 b2 bx lo O n v S m k1 k2 w1) (hb : Below w1.heap.size w1 w2) : AP w b1 b2 bx lo O n v S m k1 k2 w2 :=
  ⟨h.pl.on hb, h.cb.keep hb (Nat.le_refl _), h.cs.keep hb (Nat.le_refl _), h.e1, h.e2, h.e3⟩
theorem AP.drew {w w1 : World} {b1 b2 bx lo : Nat} {O : List Int} {n : Nat} {v : Value} {S : List ByteArray} {m k1 k2 : Nat} (h : AP w b1 b2 bx lo O n v S m k1 k2 w1) : AP w b1 b2 bx lo O n v S m k1 k2 w1.drew := h.on (by go_grown)
theorem AP.set {w w1 w2 : World} {b1 b2 bx lo : Nat} {O O2 : List Int} {n n2 : Nat} {v v2 : Value} {S : List ByteArray} {m k1 k2 : Nat} (h : AP w b1 b2 bx lo O n v S m k1 k2 w1) (hg : w1.grownBy w2 (some w.heap.size)) (hs : SlI w2 lo v2 O2) (hc : CelE w2 w.heap.size lo O2 n2) :
    AP w b1 b2 bx lo O2 n2 v2 S m k1 k2 ((w2.setCell ⟨bx, 0, none⟩ v2).setCell ⟨bx, 1, none⟩ (.int .u64 (n2 : Nat))) := by
  have g1 := grownBy_set w2 bx 0 v2
  have g2 := grownBy_set (w2.setCell ⟨bx, 0, none⟩ v2) bx 1 (.int .u64 (n2 : Nat))
  have hbl := h.pl.cel.lt
  have hxl := h.pl.xlo
  have a1 := h.e1
  have a2 := h.e2
  have a3 := h.e3
  exact ⟨h.pl.set hg hs hc, ((h.cb.other hg (by omega) hbl).other g1 (by omega) hxl).other g2 (by omega) hxl, ((h.cs.other hg (by omega) hbl).other g1 (by omega) hxl).other g2 (by omega) hxl, h.e1, h.e2, h.e3⟩
theorem AP.push {w w1 w2 : World} {b1 b2 bx lo : Nat} {O : List Int} {n : Nat} {v : Value} {S S2 : List ByteArray} {m m2 k1 k2 : Nat} (h : AP w b1 b2 bx lo O n v S m k1 k2 w1) (hg : w1.grownBy w2 (some b2)) (hc : CelS w2 b2 lo S2 m2) : AP w b1 b2 bx lo O n v S2 m2 k1 k2 w2 := by
  have hxl := h.pl.xlo
  have a1 := h.e1
  have a2 := h.e2
  have a3 := h.e3
  exact ⟨h.pl.other hg (by omega) (by omega) (by omega) (by omega), h.cb.other hg (by omega) (by omega), hc, h.e1, h.e2, h.e3⟩

theorem cell_lt {w : World} {g i : Nat} {v : Value} (h : w.cell? ⟨g, i, none⟩ = some v) : g < w.heap.size := by
  rw [← Nat.not_le]
  intro hl
  have : w.heap[g]? = none := Array.getElem?_eq_none hl
  simp [World.cell?, this] at h

set_option maxHeartbeats 16000000 in
theorem lawApart (L : List ActC) (N : List ByteArray) (q r : Option Addr) (c d : Nat) (w : World) (hR : RdA w w.heap.size q L) (hS : RdS w w.heap.size r N) (hlen : L.length ≤ 8796093022208) (hlen2 : N.length ≤ 8796093022208) :
    Calls Try.prog 5 #[.slice q L.length c, .slice r N.length d] w fun e w' => e = .returned (.bool true) ∧ Below w.heap.size w w' := by
  have HRL : Hid (RdA _ _ _ _) := hR
  have HRN : Hid (RdS _ _ _ _) := hS
  clear hR hS
  have C0 : Hid (Calls _ _ _ _ _) := newE w
  go_enter Try.func5, Try.ntmps5
  go_wp2_with fail
  refine C0.out.mono ?_
  rintro e w1 ⟨rfl, hc1, hz1, hb1⟩
  have C1 : Hid (Calls _ _ _ _ _) := newE w1
  have H1 : Hid _ := And.intro hc1 (And.intro hz1 hb1)
  clear hc1 hz1 hb1 C0
  go_wp2_with fail
  refine C1.out.mono ?_
  rintro e w2 ⟨rfl, hc2, hz2, hb2⟩
  have C2 : Hid (Calls _ _ _ _ _) := newS w2
  have H2 : Hid _ := And.intro hc2 (And.intro hz2 hb2)
  clear hc2 hz2 hb2 C1
  go_wp2_with fail
  refine C2.out.mono ?_
  rintro e w3 ⟨rfl, hc3, hz3, hb3⟩
  obtain ⟨hc1, hz1, hb1⟩ := H1.out
  obtain ⟨hc2, hz2, hb2⟩ := H2.out
  have hb12 : Below w.heap.size w w2 := hb1.trans (hb2.mono (by omega))
  have hb13 : Below w.heap.size w w3 := hb12.trans (hb3.mono (by omega))
  have P0 := PL.start (w := w) (w1 := w3) ((hc1.keep hb2 (Nat.le_refl _)).keep hb3 (Nat.le_refl _)) (by omega) hb13 (Nat.le_refl _)
  have hba : Below w3.heap.size w3 (w3.alloc (.cells #[.slice none 0 0, .int .u64 0] 28)) := by go_grown
  have HA0 : Hid (AP w w1.heap.size w2.heap.size w3.heap.size (w3.heap.size + 1) _ _ _ _ _ 0 0 _) := ⟨P0, ((hc2.keep hb3 (Nat.le_refl _)).lift (by omega)).keep hba (Nat.le_refl _), (hc3.lift (by omega)).keep hba (Nat.le_refl _), by omega, by omega, by omega⟩
  clear hc1 hz1 hb1 hc2 hz2 hb2 hc3 hz3 hb3 hb12 hb13 P0 hba H1 H2 C2
  generalize hlo : w3.heap.size + 1 = lo at HA0
  clear hlo
  go_wp2_with fail
  generalize w3.heap.size = bx at *
  generalize w2.heap.size = b2 at *
  generalize w1.heap.size = b1 at *
  go_loopw [9] (fun i wr => ∃ (j : Nat) (O : List Int) (n : Nat) (v : Value), j ≤ L.length ∧ i = .int .i64 (j : Int) ∧ Hid (AP w b1 b2 bx lo O n v [] 0 0 0 wr) ∧ O.length ≤ j ∧ n ≤ j) (fun i _ => L.length - (intOf i).toNat)
  case atStart => exact ⟨0, [], 0, _, Nat.zero_le _, by go_num, HA0, Nat.zero_le _, Nat.zero_le _⟩
  case round =>
    obtain ⟨j, O, n, v, hj, rfl, hP, hO, hN⟩ := hrel
    clear HA0
    by_cases hj0 : j = L.length
    · subst hj0
      clear hj
      obtain ⟨p, c1, rfl, _⟩ := hP.out.pl.sl.rd
      go_wp2_with fail
      go_loopw [10] (fun i wr => ∃ (j : Nat), j ≤ N.length ∧ i = .int .i64 (j : Int) ∧ Hid (AP w b1 b2 bx lo O n (.slice p O.length c1) (N.take j).reverse j 0 0 wr)) (fun i _ => N.length - (intOf i).toNat)
      case atStart => exact ⟨0, Nat.zero_le _, by go_num, hP⟩
      case round =>
        clear hP
        obtain ⟨j, hj, rfl, hP⟩ := hrel
        by_cases hj0 : j = N.length
        · subst hj0
          clear hj
          rw [List.take_length] at hP
          have C2 : Hid (Calls _ _ _ _ _) := allS _ _ N.reverse _ wr hP.out.cs (by simp; omega)
          go_wp2_with fail
          refine C2.out.mono ?_
          rintro e w4 ⟨⟨pa, ca, rfl, hra⟩, hb4⟩
          have HP4 : Hid (AP _ _ _ _ _ _ _ _ _ _ _ _ _) := hP.out.on hb4
          have HRa : Hid (∀ i (hi : i < N.length), ∃ g, pa = some ⟨g, 0, none⟩ ∧ w4.cell? ⟨g, N.length - 1 - i, none⟩ = some (.string N[i])) := by
            intro i hi
            obtain ⟨g, h1, h2⟩ := hra (N.length - 1 - i) (by simp; omega)
            refine ⟨g, h1, ?_⟩
            rw [h2, List.getElem_reverse]
            congr 2
            simp only [show N.length - 1 - (N.length - 1 - i) = i by omega]
          rw [List.length_reverse]
          clear hb4 hra C2 hP
          go_wp2_with fail
          go_loopw [12] (fun i wr => ∃ (j : Nat), j ≤ N.length ∧ i = .int .i64 (j : Int) ∧ Hid (Below w4.heap.size w4 wr)) (fun i _ => N.length - (intOf i).toNat)
          case atStart => exact ⟨0, Nat.zero_le _, by go_num, Below.refl _ _⟩
          case round =>
            obtain ⟨j, hj, rfl, hB⟩ := hrel
            by_cases hj0 : j = N.length
            · subst hj0
              clear hj HRa
              have HP5 := HP4.out.on hB.out
              have C3 : Hid (Calls _ _ _ _ _) := is_any _ _ _ _ _ wr HP5.pl.cel (HP5.pl.sl.weaken (Nat.zero_le _)) (by omega)
              unfold celV at C3
              obtain ⟨x0, x1, x2, x3⟩ := box_facts HP5.pl.box
              have HP5h : Hid (AP _ _ _ _ _ _ _ _ _ _ _ _ _) := HP5
              clear HP5
              go_wp2_with fail
              refine C3.out.mono ?_
              rintro e w6 ⟨rfl, hb6⟩
              have HP6 : Hid (AP _ _ _ _ _ _ _ _ _ _ _ _ _) := HP5h.out.on hb6
              have C4 : Hid (Calls _ _ _ _ _) := is_any _ _ _ _ (.slice none 0 0) w6 HP6.out.cb (.inl ⟨rfl, rfl⟩) (Nat.zero_le _)
              unfold celV at C4
              clear hb6 C3 x0 x1 x2 x3
              go_wp2_with fail
              refine C4.out.mono ?_
              rintro e w7 ⟨rfl, hb7⟩
              have HB7 : Hid (Below w.heap.size w w7) := HP6.out.pl.bl.trans (hb7.mono HP6.out.pl.bl.size)
              have C5 : Hid (Calls _ _ _ _ _) := awake_any w7
              clear hb7 C4
              go_wp2_with fail
              refine C5.out.mono ?_
              rintro e w8 ⟨rfl, hb8⟩
              have HB8 : Hid (Below w.heap.size w w8) := HB7.out.trans (hb8.mono HB7.out.size)
              clear hb8 C5
              go_wp2_with fail
              go_ret
              exact ⟨rfl, HB8.out⟩
            · have hj1 : j < N.length := by omega
              obtain ⟨ga, rfl, k0⟩ := HRa.out j hj1
              obtain ⟨g, o, rfl, hgB, d0⟩ := HRN.out j hj1
              have hga : ga < w4.heap.size := cell_lt k0
              have e0 := (hB.out.cell (p := ⟨ga, N.length - 1 - j, none⟩) hga).trans k0
              have hbb : Below w.heap.size w wr := HP4.out.pl.bl.trans (hB.out.mono HP4.out.pl.bl.size)
              have e1 := (hbb.cell (p := ⟨g, o + j, none⟩) hgB).trans d0
              have i1 : (N.length : Int) - 1 - (j : Int) = ((N.length - 1 - j : Nat) : Int) := by omega
              have i2 : N.length - 1 - j < N.length := by omega
              clear d0 k0 hbb
              generalize N[j] = y at *
              generalize N.length - 1 - j = jj at *
              go_wp2_with fail
              go_quiet (fail)
              go_wp2_with fail
              go_roundw
              case rel => exact ⟨j + 1, hj1, by go_num, below_drewN hB.out _⟩
              case measure => simp [intOf]; omega
        · have hj1 : j < N.length := by omega
          obtain ⟨g, o, rfl, hgB, d0⟩ := HRN.out j hj1
          have e0 := (hP.out.pl.bl.cell (p := ⟨g, o + j, none⟩) hgB).trans d0
          have C1 : Hid (True → Calls Try.prog 14 #[.pointer (some ⟨b2, 0, none⟩), .int .u64 (j : Nat), .string N[j]] wr fun e w' => e = .returned (.bool true) ∧ CelS w' b2 lo (N[j] :: (N.take j).reverse) (j + 1) ∧ wr.grownBy w' (some b2)) := fun _ => pushS b2 lo _ j N[j] wr hP.out.cs hP.out.pl.sz (by omega) (by simp; omega)
          have HT : Hid (N[j] :: (N.take j).reverse = (N.take (j + 1)).reverse) := by show _ = _; rw [show N.take (j + 1) = N.take j ++ [N[j]] from (List.take_append_getElem hj1).symm, List.reverse_append]; rfl
          rw [HT.out] at C1
          clear d0 HT
          generalize N[j] = y at *
          go_wp2_with fail
          refine (C1.out trivial).mono ?_
          rintro e w5 ⟨rfl, hc5, hg5⟩
          have HP5 : Hid (AP _ _ _ _ _ _ _ _ _ _ _ _ _) := hP.out.push hg5 hc5
          clear hc5 hg5 hP C1
          go_wp2_with fail
          go_roundw
          case rel => exact ⟨j + 1, hj1, by go_num, HP5⟩
          case measure => simp [intOf]; omega
    · have hj1 : j < L.length := by omega
      obtain ⟨g, o, rfl, hgB, d0, d1, d2⟩ := HRL.out j hj1
      have e0 := (hP.out.pl.bl.cell (p := ⟨g, o + j * 3, none⟩) hgB).trans d0
      have e1 := (hP.out.pl.bl.cell (p := ⟨g, o + j * 3 + 1, none⟩) hgB).trans d1
      have e2 := (hP.out.pl.bl.cell (p := ⟨g, o + j * 3 + 2, none⟩) hgB).trans d2
      clear d0 d1 d2
      obtain ⟨p9, c9, rfl, _⟩ := hP.out.pl.sl.rd
      obtain ⟨x0, x1, x2, x3⟩ := box_facts hP.out.pl.box
      have hPq : Hid (AP _ _ _ _ _ _ _ _ _ _ _ _ _) := hP.out.drew
      have C1 : Hid (True → Calls Try.prog 9 #[.pointer (some ⟨w.heap.size, 0, none⟩), celV (.slice p9 O.length c9) n, .agg #[.int .i64 L[j].k, .int .i64 L[j].off, .int .i64 L[j].x]] wr.drew fun e w' => (∃ v', e = .returned (.tuple #[celV v' (doN L[j].k L[j].off n), .bool true]) ∧ SlI w' (lo) v' (doO L[j].k L[j].off L[j].x O n) ∧ CelE w' (w.heap.size) (lo) (doO L[j].k L[j].off L[j].x O n) (doN L[j].k L[j].off n) ∧ ∀ g, g < wr.drew.heap.size → offB g (.slice p9 O.length c9) → offB g v') ∧ wr.drew.grownBy w' (some (w.heap.size))) := fun _ => does_any (w.heap.size) (lo) O n _ _ _ _ wr.drew hPq.out.pl.cel hPq.out.pl.sl hPq.out.pl.sz (by omega) (by omega)
      have hO2 : (doO L[j].k L[j].off L[j].x O n).length ≤ j + 1 := Nat.le_trans (doO_len _ _ _ _ _) (by omega)
      have hN2 : doN L[j].k L[j].off n ≤ j + 1 := Nat.le_trans (doN_le _ _ _) (by omega)
      generalize doO L[j].k L[j].off L[j].x O n = O2 at *
      generalize doN L[j].k L[j].off n = n2 at *
      generalize L[j].k = ak at *
      generalize L[j].off = ao at *
      generalize L[j].x = ax at *
      unfold celV at C1
      clear hP HRL HRN
      go_wp2_with fail
      refine wp_region_any (by kernel_rfl) ?_
      change wpAny _ _ _ _ _ _ _ (World.drew _)
      refine anyN_take (v := ?_) 0 rfl (by kernel_rfl) (by kernel_rfl) (by kernel_rfl) (fun _ _ _ h => h) (Or.inl ⟨by rfl, ?_⟩) ?_
      rotate_left
      focus
        intro w9
        go_simp
        try with_reducible rfl
      try simp only [Act.put, List.setIfInBounds_toArray, List.set_cons_zero, List.set_cons_succ]
      refine anyN_take (v := ?_) 2 rfl (by kernel_rfl) (by kernel_rfl) (by kernel_rfl) (fun _ _ _ h => h) (Or.inl ⟨by rfl, ?_⟩) ?_
      rotate_left
      focus
        intro w9
        go_simp
        try with_reducible rfl
      try simp only [Act.put, List.setIfInBounds_toArray, List.set_cons_zero, List.set_cons_succ]
      refine anyN_take (v := ?_) 3 rfl (by kernel_rfl) (by kernel_rfl) (by kernel_rfl) (fun _ _ _ h => h) (Or.inl ⟨by rfl, ?_⟩) ?_
      rotate_left
      focus
        intro w9
        go_simp
        try with_reducible rfl
      try simp only [Act.put, List.setIfInBounds_toArray, List.set_cons_zero, List.set_cons_succ]
      refine anyN_take (v := ?_) 4 rfl (by kernel_rfl) (by kernel_rfl) (by kernel_rfl) (fun _ _ _ h => h) (Or.inl ⟨by rfl, ?_⟩) ?_
      rotate_left
      focus
        intro w9
        go_simp
        try with_reducible rfl
      try simp only [Act.put, List.setIfInBounds_toArray, List.set_cons_zero, List.set_cons_succ]
      refine wpAny_ready (rs := [1, 5]) (by kernel_rfl) (by simp) ?_
      refine anyN_cons 1 rfl (by rfl) (fun K hK => ?_) (anyN_cons 5 rfl (by rfl) (fun K hK => ?_) AllReady.nil)
      · go_simp
        refine hK.out _ _ ?_
        clear hK K
        try simp only [Act.put, List.setIfInBounds_toArray, List.set_cons_zero, List.set_cons_succ]
        refine wpAny_ready (rs := [5]) (by kernel_rfl) (by simp) ?_
        refine anyN_cons 5 rfl (by rfl) (fun K hK => ?_) AllReady.nil
        go_simp
        refine hK.out _ _ ?_
        clear hK K
        try simp only [Act.put, List.setIfInBounds_toArray, List.set_cons_zero, List.set_cons_succ]
        refine wpAny_ready (rs := [6]) (by kernel_rfl) (by simp) ?_
        refine anyN_cons 6 rfl (by rfl) (fun K hK => ?_) AllReady.nil
        go_simp
        refine (C1.out trivial).mono ?_
        rintro e w2 ⟨⟨v2, rfl, hsl2, hce2, hof2⟩, hg2⟩
        dsimp only
        obtain ⟨p2, c2, rfl, _⟩ := hsl2.rd
        have hb2 := (hPq.out.pl.boxOn hg2)
        obtain ⟨z0, z1, z2, z3⟩ := box_facts hb2
        have HP2 : Hid (AP _ _ _ _ _ _ _ _ _ _ _ _ _) := hPq.out.set hg2 hsl2 hce2
        clear hsl2 hce2 hg2 hb2 hof2
        refine hK.out _ _ ?_
        clear hK K
        try simp only [Act.put, List.setIfInBounds_toArray, List.set_cons_zero, List.set_cons_succ]
        refine anyN_take (v := ?_) 7 rfl (by kernel_rfl) (by kernel_rfl) (by kernel_rfl) (fun _ _ _ h => h) (Or.inl ⟨by rfl, ?_⟩) ?_
        rotate_left
        focus
          intro w9
          go_simp
          try with_reducible rfl
        try simp only [Act.put, List.setIfInBounds_toArray, List.set_cons_zero, List.set_cons_succ]
        refine anyN_take (v := ?_) 8 rfl (by kernel_rfl) (by kernel_rfl) (by kernel_rfl) (fun _ _ _ h => h) (Or.inl ⟨by rfl, ?_⟩) ?_
        rotate_left
        focus
          intro w9
          go_simp
          try with_reducible rfl
        try simp only [Act.put, List.setIfInBounds_toArray, List.set_cons_zero, List.set_cons_succ]
        refine anyN_take (v := ?_) 9 rfl (by kernel_rfl) (by kernel_rfl) (by kernel_rfl) (fun _ _ _ h => h) (Or.inl ⟨by rfl, ?_⟩) ?_
        rotate_left
        focus
          intro w9
          go_simp
          try with_reducible rfl
        try simp only [Act.put, List.setIfInBounds_toArray, List.set_cons_zero, List.set_cons_succ]
        refine wpAny_ready (rs := [10]) (by kernel_rfl) (by simp) ?_
        refine anyN_cons 10 rfl (by rfl) (fun K hK => ?_) AllReady.nil
        go_simp
        refine hK.out _ _ ?_
        clear hK K
        try simp only [Act.put, List.setIfInBounds_toArray, List.set_cons_zero, List.set_cons_succ]
        refine wpAny_done (by kernel_rfl) ?_ _
        go_wp2_with fail
        go_roundw
        case rel => exact ⟨j + 1, _, _, _, hj1, by go_num, HP2.out, by omega, by omega⟩
        case measure => simp [intOf]; omega
      · go_simp
        refine hK.out _ _ ?_
        clear hK K
        try simp only [Act.put, List.setIfInBounds_toArray, List.set_cons_zero, List.set_cons_succ]
        refine wpAny_ready (rs := [1]) (by kernel_rfl) (by simp) ?_
        refine anyN_cons 1 rfl (by rfl) (fun K hK => ?_) AllReady.nil
        go_simp
        refine hK.out _ _ ?_
        clear hK K
        try simp only [Act.put, List.setIfInBounds_toArray, List.set_cons_zero, List.set_cons_succ]
        refine wpAny_ready (rs := [6]) (by kernel_rfl) (by simp) ?_
        refine anyN_cons 6 rfl (by rfl) (fun K hK => ?_) AllReady.nil
        go_simp
        refine (C1.out trivial).mono ?_
        rintro e w2 ⟨⟨v2, rfl, hsl2, hce2, hof2⟩, hg2⟩
        dsimp only
        obtain ⟨p2, c2, rfl, _⟩ := hsl2.rd
        have hb2 := (hPq.out.pl.boxOn hg2)
        obtain ⟨z0, z1, z2, z3⟩ := box_facts hb2
        have HP2 : Hid (AP _ _ _ _ _ _ _ _ _ _ _ _ _) := hPq.out.set hg2 hsl2 hce2
        clear hsl2 hce2 hg2 hb2 hof2
        refine hK.out _ _ ?_
        clear hK K
        try simp only [Act.put, List.setIfInBounds_toArray, List.set_cons_zero, List.set_cons_succ]
        refine anyN_take (v := ?_) 7 rfl (by kernel_rfl) (by kernel_rfl) (by kernel_rfl) (fun _ _ _ h => h) (Or.inl ⟨by rfl, ?_⟩) ?_
        rotate_left
        focus
          intro w9
          go_simp
          try with_reducible rfl
        try simp only [Act.put, List.setIfInBounds_toArray, List.set_cons_zero, List.set_cons_succ]
        refine anyN_take (v := ?_) 8 rfl (by kernel_rfl) (by kernel_rfl) (by kernel_rfl) (fun _ _ _ h => h) (Or.inl ⟨by rfl, ?_⟩) ?_
        rotate_left
        focus
          intro w9
          go_simp
          try with_reducible rfl
        try simp only [Act.put, List.setIfInBounds_toArray, List.set_cons_zero, List.set_cons_succ]
        refine anyN_take (v := ?_) 9 rfl (by kernel_rfl) (by kernel_rfl) (by kernel_rfl) (fun _ _ _ h => h) (Or.inl ⟨by rfl, ?_⟩) ?_
        rotate_left
        focus
          intro w9
          go_simp
          try with_reducible rfl
        try simp only [Act.put, List.setIfInBounds_toArray, List.set_cons_zero, List.set_cons_succ]
        refine wpAny_ready (rs := [10]) (by kernel_rfl) (by simp) ?_
        refine anyN_cons 10 rfl (by rfl) (fun K hK => ?_) AllReady.nil
        go_simp
        refine hK.out _ _ ?_
        clear hK K
        try simp only [Act.put, List.setIfInBounds_toArray, List.set_cons_zero, List.set_cons_succ]
        refine wpAny_done (by kernel_rfl) ?_ _
        go_wp2_with fail
        go_roundw
        case rel => exact ⟨j + 1, _, _, _, hj1, by go_num, HP2.out, by omega, by omega⟩
        case measure => simp [intOf]; omega
end Go.Proofs.Ytofndmiebnhkaaa
