/- CellStays: the law's walk. -/
import Derived.Test.YtofndmiebnhkaaaMSt
namespace Go.Proofs.Ytofndmiebnhkaaa
open Go.RowKit
set_option maxRecDepth 100000

set_option maxHeartbeats 16000000 in
theorem lawStays (L M : List ActC) (q r : Option Addr) (c d : Nat) (w : World) (hR : RdA w w.heap.size q L) (hS : RdA w w.heap.size r M) (hlen : L.length ≤ 8796093022208) (hlen2 : M.length ≤ 8796093022208) :
    Calls Try.prog 4 #[.slice q L.length c, .slice r M.length d] w fun e w' => e = .returned (.bool true) ∧ Below w.heap.size w w' := by
  have HRL : Hid (RdA _ _ _ _) := hR
  have HRM : Hid (RdA _ _ _ _) := hS
  clear hR hS
  have C0 : Hid (Calls _ _ _ _ _) := newE w
  go_enter Try.func4, Try.ntmps4
  go_wp2_with fail
  refine C0.out.mono ?_
  rintro e w1 ⟨rfl, hc1, hz1, hb1⟩
  have HP := PL.start hc1 (by omega) hb1 (Nat.le_refl _)
  rw [hz1] at HP
  have HPh : Hid (PL _ _ _ _ _ _ _ _) := HP
  clear hc1 hb1 HP C0
  go_wp2_with fail
  go_loopw [7] (fun i wr => ∃ (j : Nat) (O : List Int) (n : Nat) (v : Value), j ≤ L.length ∧ i = .int .i64 (j : Int) ∧ Hid (PL w w.heap.size (w.heap.size + 1) (w.heap.size + 1 + 1) O n v wr) ∧ O.length ≤ j ∧ n ≤ j) (fun i _ => L.length - (intOf i).toNat)
  case atStart => exact ⟨0, [], 0, _, Nat.zero_le _, by go_num, HPh, Nat.zero_le _, Nat.zero_le _⟩
  case round =>
    obtain ⟨j, O, n, v, hj, rfl, hP, hO, hN⟩ := hrel
    clear HPh
    by_cases hj0 : j = L.length
    · subst hj0
      clear hj
      have C2 : Hid (Calls _ _ _ _ _) := allE _ _ O n wr hP.out.cel (by omega)
      obtain ⟨p, c1, rfl, _⟩ := hP.out.sl.rd
      go_wp2_with fail
      refine C2.out.mono ?_
      rintro e w3 ⟨⟨u, rfl, ho3⟩, hb3⟩
      have HS3 : Hid (ST _ _ _ _ _ _ _ _ _ _ _) := ST.start hP.out hb3 ho3
      obtain ⟨pu, cu, rfl, _⟩ := (sl_of_owns ho3).rd
      obtain ⟨x0, x1, x2, x3⟩ := box_facts HS3.out.pl.box
      clear hb3 C2 hP ho3
      go_wp2_with fail
      clear x0 x1 x2 x3
      go_loopw [10] (fun i wr => ∃ (j : Nat) (P : List Int) (n : Nat) (v : Value), j ≤ M.length ∧ i = .int .i64 (j : Int) ∧ Hid (ST w w.heap.size (w.heap.size + 1) (w.heap.size + 1 + 1) P n v O (.slice p O.length c1) (.slice pu O.length cu) wr) ∧ P.length ≤ L.length + j ∧ n ≤ L.length + j) (fun i _ => M.length - (intOf i).toNat)
      case atStart => exact ⟨0, O, n, _, Nat.zero_le _, by go_num, HS3, hO, hN⟩
      case round =>
        clear HS3 hN
        obtain ⟨j, P, n, v, hj, rfl, hP, hO2, hN⟩ := hrel
        by_cases hj0 : j = M.length
        · subst hj0
          clear hj
          obtain ⟨pu', cu', eu, hru⟩ := (sl_of_owns hP.out.own).rd
          cases eu
          obtain ⟨pv', cv', ev, hrv⟩ := hP.out.was.rd
          cases ev
          have C2 : Hid (Calls _ _ _ _ _) := rsame_any O pu p cu c1 wr (hru.weaken (Nat.zero_le _)) (hrv.weaken (Nat.zero_le _)) (by omega)
          clear hru hrv
          go_wp2_with fail
          refine C2.out.mono ?_
          rintro e w3 ⟨rfl, hb3⟩
          have HS3 := hP.out.on hb3
          have HP3 : Hid (PL _ _ _ _ _ _ _ _) := HS3.pl
          have HO3 : Hid (World.ownsRow _ _ _ _ _ _ _) := HS3.own
          have HF3 : Hid (offU _ _) := HS3.off
          clear hb3 C2 hP HS3
          go_wp2_with fail
          go_loopw [11] (fun i wr => ∃ (j : Nat) (xs : List Value), j ≤ O.length ∧ i = .int .i64 (j : Int) ∧ Hid (PL w w.heap.size (w.heap.size + 1) (w.heap.size + 1 + 1) P n v wr) ∧ Hid (wr.ownsRow (w.heap.size + 1 + 1) 2 1 (.slice pu O.length cu) O.length xs)) (fun i _ => O.length - (intOf i).toNat)
          case atStart => exact ⟨0, _, Nat.zero_le _, by go_num, HP3, HO3⟩
          case round =>
            clear HP3 HO3
            obtain ⟨j, xs, hj, rfl, hP, hW⟩ := hrel
            by_cases hj0 : j = O.length
            · subst hj0
              clear hj
              have hsz := hP.out.sz
              have hPa : Hid (PL _ _ _ _ _ _ _ _) := hP.out.on (w2 := wr.alloc (.cells #[.int .i64 (-78), .int .i64 (-78)] 2)) (by go_grown)
              have hWa : Hid (World.ownsRow _ _ _ _ _ _ _) := hW.out.alloc (.cells #[.int .i64 (-78), .int .i64 (-78)] 2)
              obtain ⟨p9, c9, rfl, _⟩ := hP.out.sl.rd
              go_wp2_with (first | (at_builtin; go_loud (refine wpList_app2 _ rfl (.tmp 65) _ 2 25 _ 1 8 rfl Try.underlying25 info_int64 rfl (by decide) (w.heap.size + 1 + 1) _ _ _ (by rfl) hW.out [.int .i64 (-78), .int .i64 (-78)] rfl (by intro u hu; have e : u = .int .i64 (-78) := (by simpa using hu); subst e; rfl) _ rfl (by simp) (by omega) (by omega) hsz ?_); intro v6 w6 h6 h7 h8; have HP6 := hPa.out.offU hWa.out (Nat.le_refl _) h8 HF3.out; have HV6 : Hid (World.ownsRow _ _ _ _ _ _ _) := h6; obtain ⟨p6, c6, rfl⟩ := own_slice h6; obtain ⟨x0, x1, x2, x3⟩ := box_facts HP6.box; have HP6h : Hid (PL _ _ _ _ _ _ _ _) := HP6; clear h6 h7 h8 HP6))
              have C3 : Hid (Calls _ _ _ _ _) := is_any _ _ _ _ _ _ HP6h.out.cel (HP6h.out.sl.weaken (Nat.zero_le _)) (by omega)
              unfold celV at C3
              refine C3.out.mono ?_
              rintro e w7 ⟨rfl, hb7⟩
              have HB7 : Hid (Below w.heap.size w w7) := HP6h.out.bl.trans (hb7.mono HP6h.out.bl.size)
              clear hb7 C3 x0 x1 x2 x3
              have C4 : Hid (Calls _ _ _ _ _) := awake_any w7
              go_wp2_with fail
              refine C4.out.mono ?_
              rintro e w8 ⟨rfl, hb8⟩
              have HB8 : Hid (Below w.heap.size w w8) := HB7.out.trans (hb8.mono HB7.out.size)
              clear hb8 C4
              go_wp2_with fail
              go_ret
              exact ⟨rfl, HB8.out⟩
            · have hj1 : j < O.length := by omega
              obtain ⟨gu, rfl⟩ := own_some hW.out (by omega)
              obtain ⟨cur, hcur⟩ := own_heap hW.out
              have k0 : ∃ y, wr.cell? ⟨gu, j, none⟩ = some y := own_cell hW.out hj1
              obtain ⟨y, k0⟩ := k0
              have f0 : wr.frozen? ⟨gu, j, none⟩ = false := World.ownsRow.frozenAt hW.out j
              have HP4 : Hid (PL _ _ _ _ _ _ _ _) := hP.out.off (grownBy_set wr gu j (.int .i64 (-77))) hcur (HF3.out gu rfl) (own_lo hW.out)
              have HW4 : Hid (World.ownsRow _ _ _ _ _ _ _) := (World.ownsRow.stored hW.out j (.int .i64 (-77))).1
              clear hcur cur hP hW
              go_wp2_with fail
              go_roundw
              case rel => exact ⟨j + 1, _, hj1, by go_num, HP4, HW4⟩
              case measure => simp [intOf]; omega
        · have hj1 : j < M.length := by omega
          have hO3 : O.length ≤ 8796093022208 := by omega
          obtain ⟨g, o, rfl, hgB, d0, d1, d2⟩ := HRM.out j hj1
          have e0 := (hP.out.pl.bl.cell (p := ⟨g, o + j * 3, none⟩) hgB).trans d0
          have e1 := (hP.out.pl.bl.cell (p := ⟨g, o + j * 3 + 1, none⟩) hgB).trans d1
          have e2 := (hP.out.pl.bl.cell (p := ⟨g, o + j * 3 + 2, none⟩) hgB).trans d2
          clear d0 d1 d2
          obtain ⟨p9, c9, rfl, _⟩ := hP.out.pl.sl.rd
          obtain ⟨x0, x1, x2, x3⟩ := box_facts hP.out.pl.box
          have hPq : Hid (ST _ _ _ _ _ _ _ _ _ _ _) := hP.out.drew
          have C1 : Hid (True → Calls Try.prog 9 #[.pointer (some ⟨w.heap.size, 0, none⟩), celV (.slice p9 P.length c9) n, .agg #[.int .i64 M[j].k, .int .i64 M[j].off, .int .i64 M[j].x]] wr.drew fun e w' => (∃ v', e = .returned (.tuple #[celV v' (doN M[j].k M[j].off n), .bool true]) ∧ SlI w' (w.heap.size + 1 + 1) v' (doO M[j].k M[j].off M[j].x P n) ∧ CelE w' (w.heap.size) (w.heap.size + 1 + 1) (doO M[j].k M[j].off M[j].x P n) (doN M[j].k M[j].off n) ∧ ∀ g, g < wr.drew.heap.size → offB g (.slice p9 P.length c9) → offB g v') ∧ wr.drew.grownBy w' (some (w.heap.size))) := fun _ => does_any (w.heap.size) (w.heap.size + 1 + 1) P n _ _ _ _ wr.drew hPq.out.pl.cel hPq.out.pl.sl hPq.out.pl.sz (by omega) (by omega)
          have hO2 : (doO M[j].k M[j].off M[j].x P n).length ≤ L.length + j + 1 := Nat.le_trans (doO_len _ _ _ _ _) (by omega)
          have hN2 : doN M[j].k M[j].off n ≤ L.length + j + 1 := Nat.le_trans (doN_le _ _ _) (by omega)
          generalize doO M[j].k M[j].off M[j].x P n = O2 at *
          generalize doN M[j].k M[j].off n = n2 at *
          generalize M[j].k = ak at *
          generalize M[j].off = ao at *
          generalize M[j].x = ax at *
          unfold celV at C1
          clear hP HRM
          go_wp2_with fail
          refine wp_region_any (by kernel_rfl) ?_
          change wpAny _ _ _ _ _ _ _ (World.drew _)
          refine anyN_take (v := ?_) 0 rfl (by kernel_rfl) (by kernel_rfl) (by kernel_rfl) (fun _ _ _ h => h) (Or.inl ⟨by rfl, ?_⟩) ?_
          rotate_left
          focus
            intro w9
            go_simp
            try with_reducible rfl
          try simp only [Act.put, List.setIfInBounds_toArray, List.set_cons_zero, List.set_cons_succ]
          refine anyN_take (v := ?_) 2 rfl (by kernel_rfl) (by kernel_rfl) (by kernel_rfl) (fun _ _ _ h => h) (Or.inl ⟨by rfl, ?_⟩) ?_
          rotate_left
          focus
            intro w9
            go_simp
            try with_reducible rfl
          try simp only [Act.put, List.setIfInBounds_toArray, List.set_cons_zero, List.set_cons_succ]
          refine anyN_take (v := ?_) 3 rfl (by kernel_rfl) (by kernel_rfl) (by kernel_rfl) (fun _ _ _ h => h) (Or.inl ⟨by rfl, ?_⟩) ?_
          rotate_left
          focus
            intro w9
            go_simp
            try with_reducible rfl
          try simp only [Act.put, List.setIfInBounds_toArray, List.set_cons_zero, List.set_cons_succ]
          refine anyN_take (v := ?_) 4 rfl (by kernel_rfl) (by kernel_rfl) (by kernel_rfl) (fun _ _ _ h => h) (Or.inl ⟨by rfl, ?_⟩) ?_
          rotate_left
          focus
            intro w9
            go_simp
            try with_reducible rfl
          try simp only [Act.put, List.setIfInBounds_toArray, List.set_cons_zero, List.set_cons_succ]
          refine wpAny_ready (rs := [1, 5]) (by kernel_rfl) (by simp) ?_
          refine anyN_cons 1 rfl (by rfl) (fun K hK => ?_) (anyN_cons 5 rfl (by rfl) (fun K hK => ?_) AllReady.nil)
          · go_simp
            refine hK.out _ _ ?_
            clear hK K
            try simp only [Act.put, List.setIfInBounds_toArray, List.set_cons_zero, List.set_cons_succ]
            refine wpAny_ready (rs := [5]) (by kernel_rfl) (by simp) ?_
            refine anyN_cons 5 rfl (by rfl) (fun K hK => ?_) AllReady.nil
            go_simp
            refine hK.out _ _ ?_
            clear hK K
            try simp only [Act.put, List.setIfInBounds_toArray, List.set_cons_zero, List.set_cons_succ]
            refine wpAny_ready (rs := [6]) (by kernel_rfl) (by simp) ?_
            refine anyN_cons 6 rfl (by rfl) (fun K hK => ?_) AllReady.nil
            go_simp
            refine (C1.out trivial).mono ?_
            rintro e w2 ⟨⟨v2, rfl, hsl2, hce2, hof2⟩, hg2⟩
            dsimp only
            obtain ⟨p2, c2, rfl, _⟩ := hsl2.rd
            have hb2 := (hPq.out.pl.boxOn hg2)
            obtain ⟨z0, z1, z2, z3⟩ := box_facts hb2
            have HP2 : Hid (ST _ _ _ _ _ _ _ _ _ _ _) := hPq.out.set hg2 hsl2 hce2 hof2
            clear hsl2 hce2 hg2 hb2 hof2
            refine hK.out _ _ ?_
            clear hK K
            try simp only [Act.put, List.setIfInBounds_toArray, List.set_cons_zero, List.set_cons_succ]
            refine anyN_take (v := ?_) 7 rfl (by kernel_rfl) (by kernel_rfl) (by kernel_rfl) (fun _ _ _ h => h) (Or.inl ⟨by rfl, ?_⟩) ?_
            rotate_left
            focus
              intro w9
              go_simp
              try with_reducible rfl
            try simp only [Act.put, List.setIfInBounds_toArray, List.set_cons_zero, List.set_cons_succ]
            refine anyN_take (v := ?_) 8 rfl (by kernel_rfl) (by kernel_rfl) (by kernel_rfl) (fun _ _ _ h => h) (Or.inl ⟨by rfl, ?_⟩) ?_
            rotate_left
            focus
              intro w9
              go_simp
              try with_reducible rfl
            try simp only [Act.put, List.setIfInBounds_toArray, List.set_cons_zero, List.set_cons_succ]
            refine anyN_take (v := ?_) 9 rfl (by kernel_rfl) (by kernel_rfl) (by kernel_rfl) (fun _ _ _ h => h) (Or.inl ⟨by rfl, ?_⟩) ?_
            rotate_left
            focus
              intro w9
              go_simp
              try with_reducible rfl
            try simp only [Act.put, List.setIfInBounds_toArray, List.set_cons_zero, List.set_cons_succ]
            refine wpAny_ready (rs := [10]) (by kernel_rfl) (by simp) ?_
            refine anyN_cons 10 rfl (by rfl) (fun K hK => ?_) AllReady.nil
            go_simp
            refine hK.out _ _ ?_
            clear hK K
            try simp only [Act.put, List.setIfInBounds_toArray, List.set_cons_zero, List.set_cons_succ]
            refine wpAny_done (by kernel_rfl) ?_ _
            go_wp2_with fail
            go_roundw
            case rel => exact ⟨j + 1, _, _, _, hj1, by go_num, HP2.out, by omega, by omega⟩
            case measure => simp [intOf]; omega
          · go_simp
            refine hK.out _ _ ?_
            clear hK K
            try simp only [Act.put, List.setIfInBounds_toArray, List.set_cons_zero, List.set_cons_succ]
            refine wpAny_ready (rs := [1]) (by kernel_rfl) (by simp) ?_
            refine anyN_cons 1 rfl (by rfl) (fun K hK => ?_) AllReady.nil
            go_simp
            refine hK.out _ _ ?_
            clear hK K
            try simp only [Act.put, List.setIfInBounds_toArray, List.set_cons_zero, List.set_cons_succ]
            refine wpAny_ready (rs := [6]) (by kernel_rfl) (by simp) ?_
            refine anyN_cons 6 rfl (by rfl) (fun K hK => ?_) AllReady.nil
            go_simp
            refine (C1.out trivial).mono ?_
            rintro e w2 ⟨⟨v2, rfl, hsl2, hce2, hof2⟩, hg2⟩
            dsimp only
            obtain ⟨p2, c2, rfl, _⟩ := hsl2.rd
            have hb2 := (hPq.out.pl.boxOn hg2)
            obtain ⟨z0, z1, z2, z3⟩ := box_facts hb2
            have HP2 : Hid (ST _ _ _ _ _ _ _ _ _ _ _) := hPq.out.set hg2 hsl2 hce2 hof2
            clear hsl2 hce2 hg2 hb2 hof2
            refine hK.out _ _ ?_
            clear hK K
            try simp only [Act.put, List.setIfInBounds_toArray, List.set_cons_zero, List.set_cons_succ]
            refine anyN_take (v := ?_) 7 rfl (by kernel_rfl) (by kernel_rfl) (by kernel_rfl) (fun _ _ _ h => h) (Or.inl ⟨by rfl, ?_⟩) ?_
            rotate_left
            focus
              intro w9
              go_simp
              try with_reducible rfl
            try simp only [Act.put, List.setIfInBounds_toArray, List.set_cons_zero, List.set_cons_succ]
            refine anyN_take (v := ?_) 8 rfl (by kernel_rfl) (by kernel_rfl) (by kernel_rfl) (fun _ _ _ h => h) (Or.inl ⟨by rfl, ?_⟩) ?_
            rotate_left
            focus
              intro w9
              go_simp
              try with_reducible rfl
            try simp only [Act.put, List.setIfInBounds_toArray, List.set_cons_zero, List.set_cons_succ]
            refine anyN_take (v := ?_) 9 rfl (by kernel_rfl) (by kernel_rfl) (by kernel_rfl) (fun _ _ _ h => h) (Or.inl ⟨by rfl, ?_⟩) ?_
            rotate_left
            focus
              intro w9
              go_simp
              try with_reducible rfl
            try simp only [Act.put, List.setIfInBounds_toArray, List.set_cons_zero, List.set_cons_succ]
            refine wpAny_ready (rs := [10]) (by kernel_rfl) (by simp) ?_
            refine anyN_cons 10 rfl (by rfl) (fun K hK => ?_) AllReady.nil
            go_simp
            refine hK.out _ _ ?_
            clear hK K
            try simp only [Act.put, List.setIfInBounds_toArray, List.set_cons_zero, List.set_cons_succ]
            refine wpAny_done (by kernel_rfl) ?_ _
            go_wp2_with fail
            go_roundw
            case rel => exact ⟨j + 1, _, _, _, hj1, by go_num, HP2.out, by omega, by omega⟩
            case measure => simp [intOf]; omega
    · have hj1 : j < L.length := by omega
      obtain ⟨g, o, rfl, hgB, d0, d1, d2⟩ := HRL.out j hj1
      have e0 := (hP.out.bl.cell (p := ⟨g, o + j * 3, none⟩) hgB).trans d0
      have e1 := (hP.out.bl.cell (p := ⟨g, o + j * 3 + 1, none⟩) hgB).trans d1
      have e2 := (hP.out.bl.cell (p := ⟨g, o + j * 3 + 2, none⟩) hgB).trans d2
      clear d0 d1 d2
      obtain ⟨p9, c9, rfl, _⟩ := hP.out.sl.rd
      obtain ⟨x0, x1, x2, x3⟩ := box_facts hP.out.box
      have hPq : Hid (PL _ _ _ _ _ _ _ _) := hP.out.drew
      have C1 : Hid (True → Calls Try.prog 9 #[.pointer (some ⟨w.heap.size, 0, none⟩), celV (.slice p9 O.length c9) n, .agg #[.int .i64 L[j].k, .int .i64 L[j].off, .int .i64 L[j].x]] wr.drew fun e w' => (∃ v', e = .returned (.tuple #[celV v' (doN L[j].k L[j].off n), .bool true]) ∧ SlI w' (w.heap.size + 1 + 1) v' (doO L[j].k L[j].off L[j].x O n) ∧ CelE w' (w.heap.size) (w.heap.size + 1 + 1) (doO L[j].k L[j].off L[j].x O n) (doN L[j].k L[j].off n) ∧ ∀ g, g < wr.drew.heap.size → offB g (.slice p9 O.length c9) → offB g v') ∧ wr.drew.grownBy w' (some (w.heap.size))) := fun _ => does_any (w.heap.size) (w.heap.size + 1 + 1) O n _ _ _ _ wr.drew hPq.out.cel hPq.out.sl hPq.out.sz (by omega) (by omega)
      have hO2 : (doO L[j].k L[j].off L[j].x O n).length ≤ j + 1 := Nat.le_trans (doO_len _ _ _ _ _) (by omega)
      have hN2 : doN L[j].k L[j].off n ≤ j + 1 := Nat.le_trans (doN_le _ _ _) (by omega)
      generalize doO L[j].k L[j].off L[j].x O n = O2 at *
      generalize doN L[j].k L[j].off n = n2 at *
      generalize L[j].k = ak at *
      generalize L[j].off = ao at *
      generalize L[j].x = ax at *
      unfold celV at C1
      clear hP HRL HRM
      go_wp2_with fail
      refine wp_region_any (by kernel_rfl) ?_
      change wpAny _ _ _ _ _ _ _ (World.drew _)
      refine anyN_take (v := ?_) 0 rfl (by kernel_rfl) (by kernel_rfl) (by kernel_rfl) (fun _ _ _ h => h) (Or.inl ⟨by rfl, ?_⟩) ?_
      rotate_left
      focus
        intro w9
        go_simp
        try with_reducible rfl
      try simp only [Act.put, List.setIfInBounds_toArray, List.set_cons_zero, List.set_cons_succ]
      refine anyN_take (v := ?_) 2 rfl (by kernel_rfl) (by kernel_rfl) (by kernel_rfl) (fun _ _ _ h => h) (Or.inl ⟨by rfl, ?_⟩) ?_
      rotate_left
      focus
        intro w9
        go_simp
        try with_reducible rfl
      try simp only [Act.put, List.setIfInBounds_toArray, List.set_cons_zero, List.set_cons_succ]
      refine anyN_take (v := ?_) 3 rfl (by kernel_rfl) (by kernel_rfl) (by kernel_rfl) (fun _ _ _ h => h) (Or.inl ⟨by rfl, ?_⟩) ?_
      rotate_left
      focus
        intro w9
        go_simp
        try with_reducible rfl
      try simp only [Act.put, List.setIfInBounds_toArray, List.set_cons_zero, List.set_cons_succ]
      refine anyN_take (v := ?_) 4 rfl (by kernel_rfl) (by kernel_rfl) (by kernel_rfl) (fun _ _ _ h => h) (Or.inl ⟨by rfl, ?_⟩) ?_
      rotate_left
      focus
        intro w9
        go_simp
        try with_reducible rfl
      try simp only [Act.put, List.setIfInBounds_toArray, List.set_cons_zero, List.set_cons_succ]
      refine wpAny_ready (rs := [1, 5]) (by kernel_rfl) (by simp) ?_
      refine anyN_cons 1 rfl (by rfl) (fun K hK => ?_) (anyN_cons 5 rfl (by rfl) (fun K hK => ?_) AllReady.nil)
      · go_simp
        refine hK.out _ _ ?_
        clear hK K
        try simp only [Act.put, List.setIfInBounds_toArray, List.set_cons_zero, List.set_cons_succ]
        refine wpAny_ready (rs := [5]) (by kernel_rfl) (by simp) ?_
        refine anyN_cons 5 rfl (by rfl) (fun K hK => ?_) AllReady.nil
        go_simp
        refine hK.out _ _ ?_
        clear hK K
        try simp only [Act.put, List.setIfInBounds_toArray, List.set_cons_zero, List.set_cons_succ]
        refine wpAny_ready (rs := [6]) (by kernel_rfl) (by simp) ?_
        refine anyN_cons 6 rfl (by rfl) (fun K hK => ?_) AllReady.nil
        go_simp
        refine (C1.out trivial).mono ?_
        rintro e w2 ⟨⟨v2, rfl, hsl2, hce2, hof2⟩, hg2⟩
        dsimp only
        obtain ⟨p2, c2, rfl, _⟩ := hsl2.rd
        have hb2 := (hPq.out.boxOn hg2)
        obtain ⟨z0, z1, z2, z3⟩ := box_facts hb2
        have HP2 : Hid (PL _ _ _ _ _ _ _ _) := hPq.out.set hg2 hsl2 hce2
        clear hsl2 hce2 hg2 hb2 hof2
        refine hK.out _ _ ?_
        clear hK K
        try simp only [Act.put, List.setIfInBounds_toArray, List.set_cons_zero, List.set_cons_succ]
        refine anyN_take (v := ?_) 7 rfl (by kernel_rfl) (by kernel_rfl) (by kernel_rfl) (fun _ _ _ h => h) (Or.inl ⟨by rfl, ?_⟩) ?_
        rotate_left
        focus
          intro w9
          go_simp
          try with_reducible rfl
        try simp only [Act.put, List.setIfInBounds_toArray, List.set_cons_zero, List.set_cons_succ]
        refine anyN_take (v := ?_) 8 rfl (by kernel_rfl) (by kernel_rfl) (by kernel_rfl) (fun _ _ _ h => h) (Or.inl ⟨by rfl, ?_⟩) ?_
        rotate_left
        focus
          intro w9
          go_simp
          try with_reducible rfl
        try simp only [Act.put, List.setIfInBounds_toArray, List.set_cons_zero, List.set_cons_succ]
        refine anyN_take (v := ?_) 9 rfl (by kernel_rfl) (by kernel_rfl) (by kernel_rfl) (fun _ _ _ h => h) (Or.inl ⟨by rfl, ?_⟩) ?_
        rotate_left
        focus
          intro w9
          go_simp
          try with_reducible rfl
        try simp only [Act.put, List.setIfInBounds_toArray, List.set_cons_zero, List.set_cons_succ]
        refine wpAny_ready (rs := [10]) (by kernel_rfl) (by simp) ?_
        refine anyN_cons 10 rfl (by rfl) (fun K hK => ?_) AllReady.nil
        go_simp
        refine hK.out _ _ ?_
        clear hK K
        try simp only [Act.put, List.setIfInBounds_toArray, List.set_cons_zero, List.set_cons_succ]
        refine wpAny_done (by kernel_rfl) ?_ _
        go_wp2_with fail
        go_roundw
        case rel => exact ⟨j + 1, _, _, _, hj1, by go_num, HP2.out, by omega, by omega⟩
        case measure => simp [intOf]; omega
      · go_simp
        refine hK.out _ _ ?_
        clear hK K
        try simp only [Act.put, List.setIfInBounds_toArray, List.set_cons_zero, List.set_cons_succ]
        refine wpAny_ready (rs := [1]) (by kernel_rfl) (by simp) ?_
        refine anyN_cons 1 rfl (by rfl) (fun K hK => ?_) AllReady.nil
        go_simp
        refine hK.out _ _ ?_
        clear hK K
        try simp only [Act.put, List.setIfInBounds_toArray, List.set_cons_zero, List.set_cons_succ]
        refine wpAny_ready (rs := [6]) (by kernel_rfl) (by simp) ?_
        refine anyN_cons 6 rfl (by rfl) (fun K hK => ?_) AllReady.nil
        go_simp
        refine (C1.out trivial).mono ?_
        rintro e w2 ⟨⟨v2, rfl, hsl2, hce2, hof2⟩, hg2⟩
        dsimp only
        obtain ⟨p2, c2, rfl, _⟩ := hsl2.rd
        have hb2 := (hPq.out.boxOn hg2)
        obtain ⟨z0, z1, z2, z3⟩ := box_facts hb2
        have HP2 : Hid (PL _ _ _ _ _ _ _ _) := hPq.out.set hg2 hsl2 hce2
        clear hsl2 hce2 hg2 hb2 hof2
        refine hK.out _ _ ?_
        clear hK K
        try simp only [Act.put, List.setIfInBounds_toArray, List.set_cons_zero, List.set_cons_succ]
        refine anyN_take (v := ?_) 7 rfl (by kernel_rfl) (by kernel_rfl) (by kernel_rfl) (fun _ _ _ h => h) (Or.inl ⟨by rfl, ?_⟩) ?_
        rotate_left
        focus
          intro w9
          go_simp
          try with_reducible rfl
        try simp only [Act.put, List.setIfInBounds_toArray, List.set_cons_zero, List.set_cons_succ]
        refine anyN_take (v := ?_) 8 rfl (by kernel_rfl) (by kernel_rfl) (by kernel_rfl) (fun _ _ _ h => h) (Or.inl ⟨by rfl, ?_⟩) ?_
        rotate_left
        focus
          intro w9
          go_simp
          try with_reducible rfl
        try simp only [Act.put, List.setIfInBounds_toArray, List.set_cons_zero, List.set_cons_succ]
        refine anyN_take (v := ?_) 9 rfl (by kernel_rfl) (by kernel_rfl) (by kernel_rfl) (fun _ _ _ h => h) (Or.inl ⟨by rfl, ?_⟩) ?_
        rotate_left
        focus
          intro w9
          go_simp
          try with_reducible rfl
        try simp only [Act.put, List.setIfInBounds_toArray, List.set_cons_zero, List.set_cons_succ]
        refine wpAny_ready (rs := [10]) (by kernel_rfl) (by simp) ?_
        refine anyN_cons 10 rfl (by rfl) (fun K hK => ?_) AllReady.nil
        go_simp
        refine hK.out _ _ ?_
        clear hK K
        try simp only [Act.put, List.setIfInBounds_toArray, List.set_cons_zero, List.set_cons_succ]
        refine wpAny_done (by kernel_rfl) ?_ _
        go_wp2_with fail
        go_roundw
        case rel => exact ⟨j + 1, _, _, _, hj1, by go_num, HP2.out, by omega, by omega⟩
        case measure => simp [intOf]; omega
end Go.Proofs.Ytofndmiebnhkaaa
