/- CellPlays: the law's walk. -/
import Derived.Test.YtofndmiebnhkaaaMAct
namespace Go.Proofs.Ytofndmiebnhkaaa
open Go.RowKit
set_option maxRecDepth 100000

set_option maxHeartbeats 8000000 in
theorem lawPlays (L : List ActC) (q : Option Addr) (c : Nat) (w : World) (hR : RdA w w.heap.size q L) (hlen : L.length ≤ 8796093022208) :
    Calls Try.prog 3 #[.slice q L.length c] w fun e w' => e = .returned (.bool true) ∧ Below w.heap.size w w' := by
  have HR : Hid (RdA _ _ _ _) := hR
  clear hR
  have C0 : Hid (Calls _ _ _ _ _) := newE w
  go_enter Try.func3, Try.ntmps3
  go_wp2_with fail
  refine C0.out.mono ?_
  rintro e w1 ⟨rfl, hc1, hz1, hb1⟩
  have HP := PL.start hc1 (by omega) hb1 (Nat.le_refl _)
  rw [hz1] at HP
  have HPh : Hid (PL _ _ _ _ _ _ _ _) := HP
  have C1 : Hid (Calls _ _ _ _ _) := is_any _ _ _ _ _ _ HP.cel (HP.sl.weaken (Nat.zero_le _)) (Nat.zero_le _)
  unfold celV at C1
  clear hc1 hb1 HP C0
  go_wp2_with fail
  refine C1.out.mono ?_
  rintro e w2 ⟨rfl, hb2⟩
  have HP2 : Hid (PL _ _ _ _ _ _ _ _) := HPh.out.on hb2
  clear hb2 C1 HPh
  go_wp2_with fail
  go_loopw [5, 6] (fun _ i wr => ∃ (j : Nat) (O : List Int) (n : Nat) (v : Value), j ≤ L.length ∧ i = .int .i64 (j : Int) ∧ Hid (PL w w.heap.size (w.heap.size + 1) (w.heap.size + 1 + 1) O n v wr) ∧ O.length ≤ j ∧ n ≤ j) (fun _ i _ => L.length - (intOf i).toNat)
  case atStart => exact ⟨0, [], 0, _, Nat.zero_le _, by go_num, HP2, Nat.zero_le _, Nat.zero_le _⟩
  case round =>
    obtain ⟨j, O, n, v, hj, rfl, hP, hO, hN⟩ := hrel
    clear HP2
    by_cases hj0 : j = L.length
    · subst hj0
      have C2 : Hid (Calls _ _ _ _ _) := awake_any wr
      go_wp2_with fail
      refine C2.out.mono ?_
      rintro e w4 ⟨rfl, hb4⟩
      have HB4 : Hid (Below w.heap.size w w4) := hP.out.bl.trans (hb4.mono hP.out.bl.size)
      clear hb4 C2
      go_wp2_with fail
      go_ret
      exact ⟨rfl, HB4.out⟩
    · have hj1 : j < L.length := by omega
      obtain ⟨g, o, rfl, hgB, d0, d1, d2⟩ := HR.out j hj1
      have e0 := (hP.out.bl.cell (p := ⟨g, o + j * 3, none⟩) hgB).trans d0
      have e1 := (hP.out.bl.cell (p := ⟨g, o + j * 3 + 1, none⟩) hgB).trans d1
      have e2 := (hP.out.bl.cell (p := ⟨g, o + j * 3 + 2, none⟩) hgB).trans d2
      clear d0 d1 d2
      obtain ⟨p, c1, rfl, _⟩ := hP.out.sl.rd
      obtain ⟨x0, x1, x2, x3⟩ := box_facts hP.out.box
      have hPq : Hid (PL _ _ _ _ _ _ _ _) := hP.out.drew
      have C1 : Hid (True → Calls Try.prog 9 #[.pointer (some ⟨w.heap.size, 0, none⟩), celV (.slice p O.length c1) n, .agg #[.int .i64 L[j].k, .int .i64 L[j].off, .int .i64 L[j].x]] wr.drew fun e w' => (∃ v', e = .returned (.tuple #[celV v' (doN L[j].k L[j].off n), .bool true]) ∧ SlI w' (w.heap.size + 1 + 1) v' (doO L[j].k L[j].off L[j].x O n) ∧ CelE w' w.heap.size (w.heap.size + 1 + 1) (doO L[j].k L[j].off L[j].x O n) (doN L[j].k L[j].off n) ∧ ∀ g, g < wr.drew.heap.size → offB g (.slice p O.length c1) → offB g v') ∧ wr.drew.grownBy w' (some w.heap.size)) := fun _ => does_any w.heap.size (w.heap.size + 1 + 1) O n _ _ _ _ wr.drew hPq.out.cel hPq.out.sl hPq.out.sz (by omega) (by omega)
      have hO2 : (doO L[j].k L[j].off L[j].x O n).length ≤ j + 1 := Nat.le_trans (doO_len _ _ _ _ _) (by omega)
      have hN2 : doN L[j].k L[j].off n ≤ j + 1 := Nat.le_trans (doN_le _ _ _) (by omega)
      generalize doO L[j].k L[j].off L[j].x O n = O2 at *
      generalize doN L[j].k L[j].off n = n2 at *
      generalize L[j].k = ak at *
      generalize L[j].off = ao at *
      generalize L[j].x = ax at *
      unfold celV at C1
      clear hP HR
      go_wp2_with fail
      refine wp_region_any (by kernel_rfl) ?_
      change wpAny _ _ _ _ _ _ _ (World.drew _)
      refine anyN_take (v := ?_) 0 rfl (by kernel_rfl) (by kernel_rfl) (by kernel_rfl) (fun _ _ _ h => h) (Or.inl ⟨by rfl, ?_⟩) ?_
      rotate_left
      focus
        intro w9
        go_simp
        try with_reducible rfl
      try simp only [Act.put, List.setIfInBounds_toArray, List.set_cons_zero, List.set_cons_succ]
      refine anyN_take (v := ?_) 2 rfl (by kernel_rfl) (by kernel_rfl) (by kernel_rfl) (fun _ _ _ h => h) (Or.inl ⟨by rfl, ?_⟩) ?_
      rotate_left
      focus
        intro w9
        go_simp
        try with_reducible rfl
      try simp only [Act.put, List.setIfInBounds_toArray, List.set_cons_zero, List.set_cons_succ]
      refine anyN_take (v := ?_) 3 rfl (by kernel_rfl) (by kernel_rfl) (by kernel_rfl) (fun _ _ _ h => h) (Or.inl ⟨by rfl, ?_⟩) ?_
      rotate_left
      focus
        intro w9
        go_simp
        try with_reducible rfl
      try simp only [Act.put, List.setIfInBounds_toArray, List.set_cons_zero, List.set_cons_succ]
      refine anyN_take (v := ?_) 4 rfl (by kernel_rfl) (by kernel_rfl) (by kernel_rfl) (fun _ _ _ h => h) (Or.inl ⟨by rfl, ?_⟩) ?_
      rotate_left
      focus
        intro w9
        go_simp
        try with_reducible rfl
      try simp only [Act.put, List.setIfInBounds_toArray, List.set_cons_zero, List.set_cons_succ]
      refine wpAny_ready (rs := [1, 5]) (by kernel_rfl) (by simp) ?_
      refine anyN_cons 1 rfl (by rfl) (fun K hK => ?_) (anyN_cons 5 rfl (by rfl) (fun K hK => ?_) AllReady.nil)
      · go_simp
        refine hK.out _ _ ?_
        clear hK K
        try simp only [Act.put, List.setIfInBounds_toArray, List.set_cons_zero, List.set_cons_succ]
        refine wpAny_ready (rs := [5]) (by kernel_rfl) (by simp) ?_
        refine anyN_cons 5 rfl (by rfl) (fun K hK => ?_) AllReady.nil
        go_simp
        refine hK.out _ _ ?_
        clear hK K
        try simp only [Act.put, List.setIfInBounds_toArray, List.set_cons_zero, List.set_cons_succ]
        refine wpAny_ready (rs := [6]) (by kernel_rfl) (by simp) ?_
        refine anyN_cons 6 rfl (by rfl) (fun K hK => ?_) AllReady.nil
        go_simp
        refine (C1.out trivial).mono ?_
        rintro e w2 ⟨⟨v2, rfl, hsl2, hce2, hof2⟩, hg2⟩
        dsimp only
        obtain ⟨p2, c2, rfl, _⟩ := hsl2.rd
        have hb2 := (hPq.out.boxOn hg2)
        obtain ⟨z0, z1, z2, z3⟩ := box_facts hb2
        have HP2 : Hid (PL _ _ _ _ _ _ _ _) := hPq.out.set hg2 hsl2 hce2
        clear hsl2 hce2 hg2 hb2 hof2
        refine hK.out _ _ ?_
        clear hK K
        try simp only [Act.put, List.setIfInBounds_toArray, List.set_cons_zero, List.set_cons_succ]
        refine anyN_take (v := ?_) 7 rfl (by kernel_rfl) (by kernel_rfl) (by kernel_rfl) (fun _ _ _ h => h) (Or.inl ⟨by rfl, ?_⟩) ?_
        rotate_left
        focus
          intro w9
          go_simp
          try with_reducible rfl
        try simp only [Act.put, List.setIfInBounds_toArray, List.set_cons_zero, List.set_cons_succ]
        refine anyN_take (v := ?_) 8 rfl (by kernel_rfl) (by kernel_rfl) (by kernel_rfl) (fun _ _ _ h => h) (Or.inl ⟨by rfl, ?_⟩) ?_
        rotate_left
        focus
          intro w9
          go_simp
          try with_reducible rfl
        try simp only [Act.put, List.setIfInBounds_toArray, List.set_cons_zero, List.set_cons_succ]
        refine anyN_take (v := ?_) 9 rfl (by kernel_rfl) (by kernel_rfl) (by kernel_rfl) (fun _ _ _ h => h) (Or.inl ⟨by rfl, ?_⟩) ?_
        rotate_left
        focus
          intro w9
          go_simp
          try with_reducible rfl
        try simp only [Act.put, List.setIfInBounds_toArray, List.set_cons_zero, List.set_cons_succ]
        refine wpAny_ready (rs := [10]) (by kernel_rfl) (by simp) ?_
        refine anyN_cons 10 rfl (by rfl) (fun K hK => ?_) AllReady.nil
        go_simp
        refine hK.out _ _ ?_
        clear hK K
        try simp only [Act.put, List.setIfInBounds_toArray, List.set_cons_zero, List.set_cons_succ]
        refine wpAny_ready (rs := [11]) (by kernel_rfl) (by simp) ?_
        refine anyN_cons 11 rfl (by rfl) (fun K hK => ?_) AllReady.nil
        go_simp
        refine hK.out _ _ ?_
        clear hK K
        try simp only [Act.put, List.setIfInBounds_toArray, List.set_cons_zero, List.set_cons_succ]
        refine wpAny_done (by kernel_rfl) ?_ _
        go_wp2_with fail
        have HP3 := HP2.out
        have C2 : Hid (Calls _ _ _ _ _) := is_any _ _ _ _ _ _ HP3.cel (HP3.sl.weaken (Nat.zero_le _)) (by omega)
        unfold celV at C2
        obtain ⟨x0, x1, x2, x3⟩ := box_facts HP3.box
        refine C2.out.mono ?_
        rintro e w4 ⟨rfl, hb4⟩
        have HP4 : Hid (PL _ _ _ _ _ _ _ _) := HP3.on hb4
        clear HP3 HP2 C2 hb4 x0 x1 x2 x3
        go_wp2_with fail
        go_roundw
        case rel => exact ⟨j + 1, _, _, _, hj1, by go_num, HP4, by omega, by omega⟩
        case measure => simp [intOf]; omega
      · go_simp
        refine hK.out _ _ ?_
        clear hK K
        try simp only [Act.put, List.setIfInBounds_toArray, List.set_cons_zero, List.set_cons_succ]
        refine wpAny_ready (rs := [1]) (by kernel_rfl) (by simp) ?_
        refine anyN_cons 1 rfl (by rfl) (fun K hK => ?_) AllReady.nil
        go_simp
        refine hK.out _ _ ?_
        clear hK K
        try simp only [Act.put, List.setIfInBounds_toArray, List.set_cons_zero, List.set_cons_succ]
        refine wpAny_ready (rs := [6]) (by kernel_rfl) (by simp) ?_
        refine anyN_cons 6 rfl (by rfl) (fun K hK => ?_) AllReady.nil
        go_simp
        refine (C1.out trivial).mono ?_
        rintro e w2 ⟨⟨v2, rfl, hsl2, hce2, hof2⟩, hg2⟩
        dsimp only
        obtain ⟨p2, c2, rfl, _⟩ := hsl2.rd
        have hb2 := (hPq.out.boxOn hg2)
        obtain ⟨z0, z1, z2, z3⟩ := box_facts hb2
        have HP2 : Hid (PL _ _ _ _ _ _ _ _) := hPq.out.set hg2 hsl2 hce2
        clear hsl2 hce2 hg2 hb2 hof2
        refine hK.out _ _ ?_
        clear hK K
        try simp only [Act.put, List.setIfInBounds_toArray, List.set_cons_zero, List.set_cons_succ]
        refine anyN_take (v := ?_) 7 rfl (by kernel_rfl) (by kernel_rfl) (by kernel_rfl) (fun _ _ _ h => h) (Or.inl ⟨by rfl, ?_⟩) ?_
        rotate_left
        focus
          intro w9
          go_simp
          try with_reducible rfl
        try simp only [Act.put, List.setIfInBounds_toArray, List.set_cons_zero, List.set_cons_succ]
        refine anyN_take (v := ?_) 8 rfl (by kernel_rfl) (by kernel_rfl) (by kernel_rfl) (fun _ _ _ h => h) (Or.inl ⟨by rfl, ?_⟩) ?_
        rotate_left
        focus
          intro w9
          go_simp
          try with_reducible rfl
        try simp only [Act.put, List.setIfInBounds_toArray, List.set_cons_zero, List.set_cons_succ]
        refine anyN_take (v := ?_) 9 rfl (by kernel_rfl) (by kernel_rfl) (by kernel_rfl) (fun _ _ _ h => h) (Or.inl ⟨by rfl, ?_⟩) ?_
        rotate_left
        focus
          intro w9
          go_simp
          try with_reducible rfl
        try simp only [Act.put, List.setIfInBounds_toArray, List.set_cons_zero, List.set_cons_succ]
        refine wpAny_ready (rs := [10]) (by kernel_rfl) (by simp) ?_
        refine anyN_cons 10 rfl (by rfl) (fun K hK => ?_) AllReady.nil
        go_simp
        refine hK.out _ _ ?_
        clear hK K
        try simp only [Act.put, List.setIfInBounds_toArray, List.set_cons_zero, List.set_cons_succ]
        refine wpAny_ready (rs := [11]) (by kernel_rfl) (by simp) ?_
        refine anyN_cons 11 rfl (by rfl) (fun K hK => ?_) AllReady.nil
        go_simp
        refine hK.out _ _ ?_
        clear hK K
        try simp only [Act.put, List.setIfInBounds_toArray, List.set_cons_zero, List.set_cons_succ]
        refine wpAny_done (by kernel_rfl) ?_ _
        go_wp2_with fail
        have HP3 := HP2.out
        have C2 : Hid (Calls _ _ _ _ _) := is_any _ _ _ _ _ _ HP3.cel (HP3.sl.weaken (Nat.zero_le _)) (by omega)
        unfold celV at C2
        obtain ⟨x0, x1, x2, x3⟩ := box_facts HP3.box
        refine C2.out.mono ?_
        rintro e w4 ⟨rfl, hb4⟩
        have HP4 : Hid (PL _ _ _ _ _ _ _ _) := HP3.on hb4
        clear HP3 HP2 C2 hb4 x0 x1 x2 x3
        go_wp2_with fail
        go_roundw
        case rel => exact ⟨j + 1, _, _, _, hj1, by go_num, HP4, by omega, by omega⟩
        case measure => simp [intOf]; omega
end Go.Proofs.Ytofndmiebnhkaaa
