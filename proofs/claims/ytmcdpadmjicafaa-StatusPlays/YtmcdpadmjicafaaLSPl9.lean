/- StatusPlays: the law's walk. -/
import Derived.Test.YtmcdpadmjicafaaWDoeA9
namespace Go.Proofs.Ytmcdpadmjicafaa
open Go.RowKit Go.Maps
set_option maxRecDepth 100000

set_option maxHeartbeats 8000000 in
theorem lawPlays (L : List ActC) (q : Option Addr) (c : Nat) (w : World) (hR : RdA w w.heap.size q L) (hlen : L.length ≤ 5870000000000) :
    Calls Try.prog 3 #[.slice q L.length c] w fun e w' => e = .returned (.bool true) ∧ Below w.heap.size w w' := by
  have HR : Hid (RdA _ _ _ _) := hR
  have HLN : Hid (L.length ≤ 5870000000000) := hlen
  clear hR
  have C0 : Hid (Calls _ _ _ _ _) := new_any w
  go_enter Try.func3, Try.ntmps3
  go_wp2_with fail
  refine C0.out.mono ?_
  rintro e w1 ⟨tb, rfl, htb, hs1, hb1⟩
  have HP : Hid (PT _ _ _ _ _ _ _) := PT.start (_w := w) hs1 hb1.size
  have HB : Hid (Below w.heap.size w (w1.alloc (.cells #[.slice none 0 0, .int .i64 0] 27))) := hb1.trans (((Below.refl _ _).alloc (Nat.le_refl _) _).mono hb1.size)
  obtain ⟨bx, hbx⟩ : ∃ bx, bx = w1.heap.size := ⟨_, rfl⟩
  have C1 : Hid (Calls Try.prog 8 #[ptr1 tb, .agg #[.slice none 0 0, .int .i64 0]] (w1.alloc (.cells #[.slice none 0 0, .int .i64 0] 27)) _) := is_any _ tb [] _ _ HP.out.sta HP.out.doc HP.out.off (by simp)
  clear hs1 hb1 C0 htb
  go_wp2_with fail
  refine C1.out.mono ?_
  rintro e w2 ⟨rfl, s1, s2⟩
  have HP2 : Hid (PT _ _ _ _ _ _ _) := HP.out.asked s1 s2
  have HB2 : Hid (Below w.heap.size w w2) := HB.out.trans (s2.below HB.out.size (fun k hk => hk.1))
  rw [← hbx] at HP2
  generalize (fun k => w.heap.size ≤ k ∧ k < w1.heap.size : Nat → Prop) = F0 at HP2
  clear s1 s2 C1 HP HB
  rw [← hbx]
  clear hbx
  go_wp2_with fail
  go_loopw [5, 6] (fun _ i wr => ∃ (j : Nat) (F : Nat → Prop) (T : List Tx) (v : Value), j ≤ L.length ∧ i = .int .i64 (j : Int) ∧ Hid (PT w.heap.size F tb bx T v wr) ∧ Hid (Below w.heap.size w wr) ∧ Hid (2 * T.length ≤ j + uN T)) (fun _ i _ => L.length - (intOf i).toNat)
  case atStart => exact ⟨0, _, [], _, Nat.zero_le _, by go_num, HP2, HB2, Nat.le_refl _⟩
  case round =>
    obtain ⟨j, F, T, v, hj, rfl, hP, hB, hU⟩ := hrel
    clear HP2 HB2
    obtain ⟨p, l, c1, rfl⟩ : ∃ q l c, v = .slice q l c := by
      obtain ⟨q, cq, eu, _⟩ := hP.out.doc.rd
      exact ⟨_, _, _, eu⟩
    have y0 : wr.cell? ⟨bx, 0, none⟩ = some (.slice p l c1) := hP.out.box.cell
    have y1 : wr.cell? ⟨bx, 1, none⟩ = some (.int .i64 (T.length : Nat)) := hP.out.box.cell
    have HTL : Hid (T.length < 4000000000000) := show _ < _ by
      have h1 := hP.out.sta.und
      have h2 := hU.out
      have h3 := HLN.out
      omega
    by_cases hj0 : j = L.length
    · subst hj0
      have C2 : Hid (Calls Try.prog 8 #[ptr1 tb, .agg #[.slice p l c1, .int .i64 (T.length : Nat)]] wr fun e w' => e = .returned (.bool true) ∧ Sta w' F tb T ∧ Frm wr w' F) := is_any F tb T _ wr hP.out.sta hP.out.doc hP.out.off HTL.out
      go_wp2_with fail
      refine C2.out.mono ?_
      rintro e w4 ⟨rfl, s1, s2⟩
      have HB4 : Hid (Below w.heap.size w w4) := hB.out.trans (s2.below hB.out.size (fun k hk => hP.out.lof k hk))
      have C3 : Hid (Calls _ _ _ _ _) := awake_any w4
      clear s1 s2 C2
      go_wp2_with fail
      refine C3.out.mono ?_
      rintro e w5 ⟨rfl, hb5⟩
      have HB5 : Hid (Below w.heap.size w w5) := HB4.out.trans (hb5.mono HB4.out.size)
      clear hb5 C3
      go_wp2_with fail
      go_ret
      exact ⟨rfl, HB5.out⟩
    · have hj1 : j < L.length := by omega
      obtain ⟨g, o, rfl, hgB, d0, d1, d2, hn1, hn2⟩ := HR.out j hj1
      have e0 := (hB.out.cell (p := ⟨g, o + j * 3, none⟩) hgB).trans d0
      have e1 := (hB.out.cell (p := ⟨g, o + j * 3 + 1, none⟩) hgB).trans d1
      have e2 := (hB.out.cell (p := ⟨g, o + j * 3 + 2, none⟩) hgB).trans d2
      clear d0 d1 d2
      have hPq : Hid (PT _ _ _ _ _ _ _) := hP.out.drew
      have C1 : Hid (True → Calls Try.prog 9 #[ptr1 tb, .agg #[.slice p l c1, .int .i64 (T.length : Nat)], .agg #[.int .i64 L[j].k, .int .i64 L[j].n, .int .u64 (L[j].s : Nat)]] wr.drew fun e w' => (∃ u F', e = .returned (.tuple #[tvD u (stepT L[j].k L[j].n L[j].s T).length, .bool true]) ∧ Sta w' F' tb (stepT L[j].k L[j].n L[j].s T) ∧ DocT w' 0 u (docA 0 (stepT L[j].k L[j].n L[j].s T)) ∧ (∀ g, u.ownBlock = some g → ¬ F' g) ∧ (∀ k, F' k → F k ∨ wr.drew.heap.size ≤ k) ∧ ∀ g, u.ownBlock = some g → (Value.slice p l c1).ownBlock = some g ∨ wr.drew.heap.size ≤ g) ∧ Frm wr.drew w' F) := fun _ => does_any L[j].k F tb T _ L[j].n L[j].s wr.drew hPq.out.sta hPq.out.doc hPq.out.off HTL.out hn1 hn2
      have hU2 : Hid (2 * (stepT L[j].k L[j].n L[j].s T).length ≤ j + 1 + uN (stepT L[j].k L[j].n L[j].s T)) := step_len _ _ _ _ _ hU.out
      generalize stepT L[j].k L[j].n L[j].s T = T2 at *
      generalize L[j].k = ak at *
      generalize L[j].n = an at *
      generalize L[j].s = ax at *
      clear hP HR hU HTL hn1 hn2
      go_wp2_with fail
      refine wp_region_any (by kernel_rfl) ?_
      change wpAny _ _ _ _ _ _ _ (World.drew _)
      refine anyN_take (v := ?_) 0 rfl (by kernel_rfl) (by kernel_rfl) (by kernel_rfl) (fun _ _ _ h => h) (Or.inl ⟨by rfl, ?_⟩) ?_
      rotate_left
      focus
        intro w9
        go_simp
        try with_reducible rfl
      try simp only [Act.put, List.setIfInBounds_toArray, List.set_cons_zero, List.set_cons_succ]
      refine anyN_take (v := ?_) 2 rfl (by kernel_rfl) (by kernel_rfl) (by kernel_rfl) (fun _ _ _ h => h) (Or.inl ⟨by rfl, ?_⟩) ?_
      rotate_left
      focus
        intro w9
        go_simp
        try with_reducible rfl
      try simp only [Act.put, List.setIfInBounds_toArray, List.set_cons_zero, List.set_cons_succ]
      refine anyN_take (v := ?_) 3 rfl (by kernel_rfl) (by kernel_rfl) (by kernel_rfl) (fun _ _ _ h => h) (Or.inl ⟨by rfl, ?_⟩) ?_
      rotate_left
      focus
        intro w9
        go_simp
        try with_reducible rfl
      try simp only [Act.put, List.setIfInBounds_toArray, List.set_cons_zero, List.set_cons_succ]
      refine anyN_take (v := ?_) 4 rfl (by kernel_rfl) (by kernel_rfl) (by kernel_rfl) (fun _ _ _ h => h) (Or.inl ⟨by rfl, ?_⟩) ?_
      rotate_left
      focus
        intro w9
        go_simp
        try with_reducible rfl
      try simp only [Act.put, List.setIfInBounds_toArray, List.set_cons_zero, List.set_cons_succ]
      refine wpAny_ready (rs := [1, 5]) (by kernel_rfl) (by simp) ?_
      refine anyN_cons 1 rfl (by rfl) (fun K hK => ?_) (anyN_cons 5 rfl (by rfl) (fun K hK => ?_) AllReady.nil)
      · go_simp
        refine hK.out _ _ ?_
        clear hK K
        try simp only [Act.put, List.setIfInBounds_toArray, List.set_cons_zero, List.set_cons_succ]
        refine wpAny_ready (rs := [5]) (by kernel_rfl) (by simp) ?_
        refine anyN_cons 5 rfl (by rfl) (fun K hK => ?_) AllReady.nil
        go_simp
        refine hK.out _ _ ?_
        clear hK K
        try simp only [Act.put, List.setIfInBounds_toArray, List.set_cons_zero, List.set_cons_succ]
        refine wpAny_ready (rs := [6]) (by kernel_rfl) (by simp) ?_
        refine anyN_cons 6 rfl (by rfl) (fun K hK => ?_) AllReady.nil
        go_simp
        refine (C1.out trivial).mono ?_
        rintro e w2 ⟨⟨u, F2, rfl, s1, s2, s3, s4, s5⟩, s6⟩
        dsimp only
        obtain ⟨q2, l2, d2, rfl⟩ : ∃ q l c, u = .slice q l c := by
          obtain ⟨q, cq, eu, _⟩ := s2.rd
          exact ⟨_, _, _, eu⟩
        have hb2 := hPq.out.boxOn s6
        have z0 : w2.cell? ⟨bx, 0, none⟩ = some (.slice p l c1) := hb2.cell
        have z1 : w2.cell? ⟨bx, 1, none⟩ = some (.int .i64 (T.length : Nat)) := hb2.cell
        have z2 : w2.frozen? ⟨bx, 0, none⟩ = false := hb2.frozen
        have z3 : w2.frozen? ⟨bx, 1, none⟩ = false := hb2.frozen
        have HS2 : Hid (_ ∧ _ ∧ _) := hPq.out.set s1 s2 s3 s4 s5 s6
        clear s1 s2 s3 s4 s5 s6 hb2
        refine hK.out _ _ ?_
        clear hK K
        try simp only [Act.put, List.setIfInBounds_toArray, List.set_cons_zero, List.set_cons_succ]
        refine anyN_take (v := ?_) 7 rfl (by kernel_rfl) (by kernel_rfl) (by kernel_rfl) (fun _ _ _ h => h) (Or.inl ⟨by rfl, ?_⟩) ?_
        rotate_left
        focus
          intro w9
          go_simp
          try with_reducible rfl
        try simp only [Act.put, List.setIfInBounds_toArray, List.set_cons_zero, List.set_cons_succ]
        refine anyN_take (v := ?_) 8 rfl (by kernel_rfl) (by kernel_rfl) (by kernel_rfl) (fun _ _ _ h => h) (Or.inl ⟨by rfl, ?_⟩) ?_
        rotate_left
        focus
          intro w9
          go_simp
          try with_reducible rfl
        try simp only [Act.put, List.setIfInBounds_toArray, List.set_cons_zero, List.set_cons_succ]
        refine anyN_take (v := ?_) 9 rfl (by kernel_rfl) (by kernel_rfl) (by kernel_rfl) (fun _ _ _ h => h) (Or.inl ⟨by rfl, ?_⟩) ?_
        rotate_left
        focus
          intro w9
          go_simp
          try with_reducible rfl
        try simp only [Act.put, List.setIfInBounds_toArray, List.set_cons_zero, List.set_cons_succ]
        refine wpAny_ready (rs := [10]) (by kernel_rfl) (by simp) ?_
        refine anyN_cons 10 rfl (by rfl) (fun K hK => ?_) AllReady.nil
        go_simp
        refine hK.out _ _ ?_
        clear hK K
        try simp only [Act.put, List.setIfInBounds_toArray, List.set_cons_zero, List.set_cons_succ]
        refine wpAny_ready (rs := [11]) (by kernel_rfl) (by simp) ?_
        refine anyN_cons 11 rfl (by rfl) (fun K hK => ?_) AllReady.nil
        go_simp
        refine hK.out _ _ ?_
        clear hK K
        try simp only [Act.put, List.setIfInBounds_toArray, List.set_cons_zero, List.set_cons_succ]
        refine wpAny_done (by kernel_rfl) ?_ _
        have HB3 : Hid (Below w.heap.size w ((w2.setCell ⟨bx, 0, none⟩ (.slice q2 l2 d2)).setCell ⟨bx, 1, none⟩ (.int .i64 (T2.length : Nat)))) := Below.trans (b := wr.drew) ⟨hB.out.os, hB.out.tape, hB.out.output, hB.out.size, hB.out.block⟩ (HS2.out.2.2.below (Nat.le_of_lt hPq.out.box.lt |> Nat.le_trans hPq.out.lox) (fun k hk => hPq.out.low k hk))
        have HP3 : Hid (PT w.heap.size F2 tb bx T2 (.slice q2 l2 d2) ((w2.setCell ⟨bx, 0, none⟩ (.slice q2 l2 d2)).setCell ⟨bx, 1, none⟩ (.int .i64 (T2.length : Nat)))) := HS2.out.1
        clear HS2 hPq hB
        generalize ((w2.setCell ⟨bx, 0, none⟩ (.slice q2 l2 d2)).setCell ⟨bx, 1, none⟩ (.int .i64 (T2.length : Nat))) = w3 at *
        have x0 : w3.cell? ⟨bx, 0, none⟩ = some (.slice q2 l2 d2) := HP3.out.box.cell
        have x1 : w3.cell? ⟨bx, 1, none⟩ = some (.int .i64 (T2.length : Nat)) := HP3.out.box.cell
        clear z0 z1 z2 z3 e0 e1 e2 y0 y1 C1
        by_cases h60 : L.length < 60
        · have C2 : Hid (Calls Try.prog 8 #[ptr1 tb, .agg #[.slice q2 l2 d2, .int .i64 (T2.length : Nat)]] w3 fun e w' => e = .returned (.bool true) ∧ Sta w' F2 tb T2 ∧ Frm w3 w' F2) := is_any F2 tb T2 _ w3 HP3.out.sta HP3.out.doc HP3.out.off (by have h1 := HP3.out.sta.und; have h2 := hU2.out; have h3 := HLN.out; omega)
          go_wp2_with fail
          refine C2.out.mono ?_
          rintro e w4 ⟨rfl, s1, s2⟩
          have HP4 : Hid (PT _ _ _ _ _ _ _) := HP3.out.asked s1 s2
          have HB4 : Hid (Below w.heap.size w w4) := HB3.out.trans (s2.below HB3.out.size (fun k hk => HP3.out.lof k hk))
          clear s1 s2 C2 x0 x1 HP3 HB3
          go_wp2_with fail
          go_roundw
          case rel => exact ⟨j + 1, _, _, _, hj1, by go_num, HP4, HB4, hU2⟩
          case measure => simp [intOf]; omega
        · go_wp2_with fail
          go_roundw
          case rel => exact ⟨j + 1, _, _, _, hj1, by go_num, HP3, HB3, hU2⟩
          case measure => simp [intOf]; omega
      · go_simp
        refine hK.out _ _ ?_
        clear hK K
        try simp only [Act.put, List.setIfInBounds_toArray, List.set_cons_zero, List.set_cons_succ]
        refine wpAny_ready (rs := [1]) (by kernel_rfl) (by simp) ?_
        refine anyN_cons 1 rfl (by rfl) (fun K hK => ?_) AllReady.nil
        go_simp
        refine hK.out _ _ ?_
        clear hK K
        try simp only [Act.put, List.setIfInBounds_toArray, List.set_cons_zero, List.set_cons_succ]
        refine wpAny_ready (rs := [6]) (by kernel_rfl) (by simp) ?_
        refine anyN_cons 6 rfl (by rfl) (fun K hK => ?_) AllReady.nil
        go_simp
        refine (C1.out trivial).mono ?_
        rintro e w2 ⟨⟨u, F2, rfl, s1, s2, s3, s4, s5⟩, s6⟩
        dsimp only
        obtain ⟨q2, l2, d2, rfl⟩ : ∃ q l c, u = .slice q l c := by
          obtain ⟨q, cq, eu, _⟩ := s2.rd
          exact ⟨_, _, _, eu⟩
        have hb2 := hPq.out.boxOn s6
        have z0 : w2.cell? ⟨bx, 0, none⟩ = some (.slice p l c1) := hb2.cell
        have z1 : w2.cell? ⟨bx, 1, none⟩ = some (.int .i64 (T.length : Nat)) := hb2.cell
        have z2 : w2.frozen? ⟨bx, 0, none⟩ = false := hb2.frozen
        have z3 : w2.frozen? ⟨bx, 1, none⟩ = false := hb2.frozen
        have HS2 : Hid (_ ∧ _ ∧ _) := hPq.out.set s1 s2 s3 s4 s5 s6
        clear s1 s2 s3 s4 s5 s6 hb2
        refine hK.out _ _ ?_
        clear hK K
        try simp only [Act.put, List.setIfInBounds_toArray, List.set_cons_zero, List.set_cons_succ]
        refine anyN_take (v := ?_) 7 rfl (by kernel_rfl) (by kernel_rfl) (by kernel_rfl) (fun _ _ _ h => h) (Or.inl ⟨by rfl, ?_⟩) ?_
        rotate_left
        focus
          intro w9
          go_simp
          try with_reducible rfl
        try simp only [Act.put, List.setIfInBounds_toArray, List.set_cons_zero, List.set_cons_succ]
        refine anyN_take (v := ?_) 8 rfl (by kernel_rfl) (by kernel_rfl) (by kernel_rfl) (fun _ _ _ h => h) (Or.inl ⟨by rfl, ?_⟩) ?_
        rotate_left
        focus
          intro w9
          go_simp
          try with_reducible rfl
        try simp only [Act.put, List.setIfInBounds_toArray, List.set_cons_zero, List.set_cons_succ]
        refine anyN_take (v := ?_) 9 rfl (by kernel_rfl) (by kernel_rfl) (by kernel_rfl) (fun _ _ _ h => h) (Or.inl ⟨by rfl, ?_⟩) ?_
        rotate_left
        focus
          intro w9
          go_simp
          try with_reducible rfl
        try simp only [Act.put, List.setIfInBounds_toArray, List.set_cons_zero, List.set_cons_succ]
        refine wpAny_ready (rs := [10]) (by kernel_rfl) (by simp) ?_
        refine anyN_cons 10 rfl (by rfl) (fun K hK => ?_) AllReady.nil
        go_simp
        refine hK.out _ _ ?_
        clear hK K
        try simp only [Act.put, List.setIfInBounds_toArray, List.set_cons_zero, List.set_cons_succ]
        refine wpAny_ready (rs := [11]) (by kernel_rfl) (by simp) ?_
        refine anyN_cons 11 rfl (by rfl) (fun K hK => ?_) AllReady.nil
        go_simp
        refine hK.out _ _ ?_
        clear hK K
        try simp only [Act.put, List.setIfInBounds_toArray, List.set_cons_zero, List.set_cons_succ]
        refine wpAny_done (by kernel_rfl) ?_ _
        have HB3 : Hid (Below w.heap.size w ((w2.setCell ⟨bx, 0, none⟩ (.slice q2 l2 d2)).setCell ⟨bx, 1, none⟩ (.int .i64 (T2.length : Nat)))) := Below.trans (b := wr.drew) ⟨hB.out.os, hB.out.tape, hB.out.output, hB.out.size, hB.out.block⟩ (HS2.out.2.2.below (Nat.le_of_lt hPq.out.box.lt |> Nat.le_trans hPq.out.lox) (fun k hk => hPq.out.low k hk))
        have HP3 : Hid (PT w.heap.size F2 tb bx T2 (.slice q2 l2 d2) ((w2.setCell ⟨bx, 0, none⟩ (.slice q2 l2 d2)).setCell ⟨bx, 1, none⟩ (.int .i64 (T2.length : Nat)))) := HS2.out.1
        clear HS2 hPq hB
        generalize ((w2.setCell ⟨bx, 0, none⟩ (.slice q2 l2 d2)).setCell ⟨bx, 1, none⟩ (.int .i64 (T2.length : Nat))) = w3 at *
        have x0 : w3.cell? ⟨bx, 0, none⟩ = some (.slice q2 l2 d2) := HP3.out.box.cell
        have x1 : w3.cell? ⟨bx, 1, none⟩ = some (.int .i64 (T2.length : Nat)) := HP3.out.box.cell
        clear z0 z1 z2 z3 e0 e1 e2 y0 y1 C1
        by_cases h60 : L.length < 60
        · have C2 : Hid (Calls Try.prog 8 #[ptr1 tb, .agg #[.slice q2 l2 d2, .int .i64 (T2.length : Nat)]] w3 fun e w' => e = .returned (.bool true) ∧ Sta w' F2 tb T2 ∧ Frm w3 w' F2) := is_any F2 tb T2 _ w3 HP3.out.sta HP3.out.doc HP3.out.off (by have h1 := HP3.out.sta.und; have h2 := hU2.out; have h3 := HLN.out; omega)
          go_wp2_with fail
          refine C2.out.mono ?_
          rintro e w4 ⟨rfl, s1, s2⟩
          have HP4 : Hid (PT _ _ _ _ _ _ _) := HP3.out.asked s1 s2
          have HB4 : Hid (Below w.heap.size w w4) := HB3.out.trans (s2.below HB3.out.size (fun k hk => HP3.out.lof k hk))
          clear s1 s2 C2 x0 x1 HP3 HB3
          go_wp2_with fail
          go_roundw
          case rel => exact ⟨j + 1, _, _, _, hj1, by go_num, HP4, HB4, hU2⟩
          case measure => simp [intOf]; omega
        · go_wp2_with fail
          go_roundw
          case rel => exact ⟨j + 1, _, _, _, hj1, by go_num, HP3, HB3, hU2⟩
          case measure => simp [intOf]; omega
end Go.Proofs.Ytmcdpadmjicafaa
