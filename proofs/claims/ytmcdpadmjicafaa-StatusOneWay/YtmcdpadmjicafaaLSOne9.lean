/- StatusOneWay: the law's walk. -/
import Derived.Test.YtmcdpadmjicafaaWDoeA9
namespace Go.Proofs.Ytmcdpadmjicafaa
open Go.RowKit Go.Maps
set_option maxRecDepth 100000

set_option maxHeartbeats 8000000 in
theorem lawOneWay (L : List ActC) (q : Option Addr) (c : Nat) (w : World) (hR : RdA w w.heap.size q L) (hlen : L.length ≤ 5870000000000) :
    Calls Try.prog 4 #[.slice q L.length c] w fun e w' => e = .returned (.bool true) ∧ Below w.heap.size w w' := by
  have HR : Hid (RdA _ _ _ _) := hR
  have HLN : Hid (L.length ≤ 5870000000000) := hlen
  clear hR
  have C0 : Hid (Calls _ _ _ _ _) := new_any w
  go_enter Try.func4, Try.ntmps4
  go_wp2_with fail
  refine C0.out.mono ?_
  rintro e w1 ⟨tb, rfl, htb, hs1, hb1⟩
  have HP : Hid (PT _ _ _ _ _ _ _) := PT.start (_w := w) hs1 hb1.size
  have HB : Hid (Below w.heap.size w (w1.alloc (.cells #[.slice none 0 0, .int .i64 0] 27))) := hb1.trans (((Below.refl _ _).alloc (Nat.le_refl _) _).mono hb1.size)
  obtain ⟨bx, hbx⟩ : ∃ bx, bx = w1.heap.size := ⟨_, rfl⟩
  have C1 : Hid (Calls Try.prog 11 #[ptr1 tb] (w1.alloc (.cells #[.slice none 0 0, .int .i64 0] 27)) fun e w' => e = .returned (.tuple #[.int .i64 1, .int .i64 0]) ∧ (∃ F', (∀ k, F' k → (w.heap.size ≤ k ∧ k < w1.heap.size) ∨ (w1.alloc (.cells #[.slice none 0 0, .int .i64 0] 27)).heap.size ≤ k) ∧ Sta w' F' tb [⟨0, false⟩]) ∧ Frm (w1.alloc (.cells #[.slice none 0 0, .int .i64 0] 27)) w' (fun k => w.heap.size ≤ k ∧ k < w1.heap.size)) := begin_any _ tb [] _ HP.out.sta (by simp)
  have hs2 : (w1.alloc (.cells #[.slice none 0 0, .int .i64 0] 27)).heap.size = w1.heap.size + 1 := by simp
  have HSZ : Hid ((w1.alloc (.cells #[.slice none 0 0, .int .i64 0] 27)).heap.size = w1.heap.size + 1) := hs2
  clear hs1 hb1 C0 htb hs2
  go_wp2_with fail
  refine C1.out.mono ?_
  rintro e w2 ⟨rfl, ⟨F1, hF1, s1⟩, s2⟩
  have HB2 : Hid (Below w.heap.size w w2) := HB.out.trans (s2.below HB.out.size (fun k hk => hk.1))
  have HBX : Hid (BoxT w2 w1.heap.size #[.slice none 0 0, .int .i64 0] 27) := HP.out.boxOn s2
  have HS2 : Hid (Sta w2 F1 tb [⟨0, false⟩]) := s1
  have HF1 : Hid (∀ k, F1 k → w.heap.size ≤ k ∧ k ≠ w1.heap.size) := fun k hk => by
    have h0 := HSZ.out
    have h2 := HP.out.lox
    rcases hF1 k hk with h1 | h1
    · exact ⟨h1.1, by omega⟩
    · exact ⟨by omega, by omega⟩
  have HZ : Hid (w.heap.size ≤ w1.heap.size ∧ w1.heap.size < w2.heap.size) := ⟨HP.out.lox, HBX.out.lt⟩
  rw [← hbx] at HBX HF1 HZ
  clear HB HP s1 s2 C1 hF1 HSZ
  rw [← hbx]
  clear hbx
  have D0 : Hid (DocT w2 0 (.slice none 0 0) (docA 0 [])) := ⟨rfl, .inl ⟨rfl, rfl⟩⟩
  have C2 : Hid (Calls Try.prog 12 #[.agg #[.slice none 0 0, .int .i64 0]] w2 fun e w' => (∃ u, e = .returned (.tuple #[tvD u 1, .int .i64 1, .int .i64 0]) ∧ DocT w' 0 u (docA 0 [⟨0, false⟩]) ∧ ∀ g, u.ownBlock = some g → (Value.slice none 0 0).ownBlock = some g ∨ w2.heap.size ≤ g) ∧ Below w2.heap.size w2 w') := rbegin_any (docA 0 []) _ 0 0 w2 D0.out (by decide) (by decide)
  have m0 : w2.cell? ⟨bx, 0, none⟩ = some (.slice none 0 0) := HBX.out.cell
  have m1 : w2.cell? ⟨bx, 1, none⟩ = some (.int .i64 0) := HBX.out.cell
  go_wp2_with fail
  refine C2.out.mono ?_
  rintro e w3 ⟨⟨u, rfl, s1, s2⟩, hb3⟩
  obtain ⟨q2, l2, d2, rfl⟩ : ∃ q l c, u = .slice q l c := by
    obtain ⟨q, cq, eu, _⟩ := s1.rd
    exact ⟨_, _, _, eu⟩
  have s2' : ∀ g, (Value.slice q2 l2 d2).ownBlock = some g → w2.heap.size ≤ g := fun g hg => (s2 g hg).elim (fun h => by cases h) id
  have HBX3 : Hid (BoxT w3 bx #[.slice none 0 0, .int .i64 0] 27) := HBX.out.on hb3
  have n0 : w3.cell? ⟨bx, 0, none⟩ = some (.slice none 0 0) := HBX3.out.cell
  have n1 : w3.cell? ⟨bx, 1, none⟩ = some (.int .i64 0) := HBX3.out.cell
  have o0 : w3.frozen? ⟨bx, 0, none⟩ = false := HBX3.out.frozen
  have o1 : w3.frozen? ⟨bx, 1, none⟩ = false := HBX3.out.frozen
  have hfz : Frm w3 ((w3.setCell ⟨bx, 0, none⟩ (.slice q2 l2 d2)).setCell ⟨bx, 1, none⟩ (.int .i64 1)) (fun k => k = bx) := (frm_set w3 _ 0 _ (F := fun k => k = bx) rfl).trans (frm_set _ _ 1 _ (F := fun k => k = bx) rfl) (fun k hk => .inl hk)
  have HB4 : Hid (Below w.heap.size w ((w3.setCell ⟨bx, 0, none⟩ (.slice q2 l2 d2)).setCell ⟨bx, 1, none⟩ (.int .i64 1))) := (HB2.out.trans (hb3.mono HB2.out.size)).trans (hfz.below (Nat.le_trans HB2.out.size hb3.size) (fun k hk => by rw [hk]; exact HZ.out.1))
  have HP4 : Hid (PT w.heap.size F1 tb bx [⟨0, false⟩] (.slice q2 l2 d2) ((w3.setCell ⟨bx, 0, none⟩ (.slice q2 l2 d2)).setCell ⟨bx, 1, none⟩ (.int .i64 1))) := by
    have h0 := HZ.out
    exact ⟨(HS2.out.keep (Frm.of_below hb3 (F := fun _ => False)) (fun _ _ h => h)).keep hfz (fun k hk e => (HF1.out k hk).2 e), s1.block (fun g hg => hfz.block g (by obtain ⟨cur, h2⟩ := own_cells s1 hg; exact (Array.getElem?_eq_some_iff.1 h2).1) (by have := s2' g hg; omega)), fun g hg hf => by have := s2' g hg; have := HS2.out.flt g hf; omega, (HBX3.out.set (i := 0) _).set (i := 1) _, fun hf => (HF1.out bx hf).2 rfl, fun g hg => by have := s2' g hg; omega, fun k hk => (HF1.out k hk).1, fun g hg => by have := s2' g hg; omega, h0.1⟩
  clear s1 s2 s2' hb3 hfz HBX HS2 HF1 HZ D0 C2 m0 m1 HB2 HBX3
  go_wp2_with fail
  generalize ((w3.setCell ⟨bx, 0, none⟩ (.slice q2 l2 d2)).setCell ⟨bx, 1, none⟩ (.int .i64 1)) = w4 at *
  clear n0 n1 o0 o1
  go_loopw [5, 6, 9] (fun vw va i wr => ∃ (j : Nat) (F : Nat → Prop) (T : List Tx) (v : Value) (x : Tx) (wa : Int) (at' : Nat), j ≤ L.length ∧ vw = .int .i64 wa ∧ va = .int .u64 (at' : Nat) ∧ i = .int .i64 (j : Int) ∧ Hid (PT w.heap.size F tb bx T v wr) ∧ Hid (Below w.heap.size w wr) ∧ Hid (2 * T.length ≤ j + 1 + uN T) ∧ Hid (T[0]? = some x ∧ x.gone = false) ∧ Hid (wa ≤ stO x.wd ∧ (decd x.wd = true → wa = stO x.wd ∧ at' = spO x.wd) ∧ decS wa = decd x.wd)) (fun _ _ i _ => L.length - (intOf i).toNat)
  case atStart => exact ⟨0, _, [⟨0, false⟩], _, ⟨0, false⟩, 0, 0, Nat.zero_le _, by go_num, by go_num, by go_num, HP4, HB4, by show 2 ≤ 0 + 1 + 1; omega, ⟨rfl, rfl⟩, by show _ ∧ _; decide⟩
  case round =>
    obtain ⟨j, F, T, v, x, wa, at', hj, rfl, rfl, rfl, hP, hB, hU, hX, HWA⟩ := hrel
    clear HP4 HB4
    obtain ⟨p, l, c1, rfl⟩ : ∃ q l c, v = .slice q l c := by
      obtain ⟨q, cq, eu, _⟩ := hP.out.doc.rd
      exact ⟨_, _, _, eu⟩
    have y0 : wr.cell? ⟨bx, 0, none⟩ = some (.slice p l c1) := hP.out.box.cell
    have y1 : wr.cell? ⟨bx, 1, none⟩ = some (.int .i64 (T.length : Nat)) := hP.out.box.cell
    have HTL : Hid (T.length < 4000000000000) := show _ < _ by
      have h1 := hP.out.sta.und
      have h2 := hU.out
      have h3 := HLN.out
      omega
    by_cases hj0 : j = L.length
    · subst hj0
      have C3 : Hid (Calls _ _ _ _ _) := awake_any wr
      go_wp2_with fail
      refine C3.out.mono ?_
      rintro e w5 ⟨rfl, hb5⟩
      have HB5 : Hid (Below w.heap.size w w5) := hB.out.trans (hb5.mono hB.out.size)
      clear hb5 C3
      go_wp2_with fail
      go_ret
      exact ⟨rfl, HB5.out⟩
    · have hj1 : j < L.length := by omega
      obtain ⟨g, o, rfl, hgB, d0, d1, d2, hn1, hn2⟩ := HR.out j hj1
      have e0 := (hB.out.cell (p := ⟨g, o + j * 3, none⟩) hgB).trans d0
      have e1 := (hB.out.cell (p := ⟨g, o + j * 3 + 1, none⟩) hgB).trans d1
      have e2 := (hB.out.cell (p := ⟨g, o + j * 3 + 2, none⟩) hgB).trans d2
      clear d0 d1 d2
      have hPq : Hid (PT _ _ _ _ _ _ _) := hP.out.drew
      have C1 : Hid (True → Calls Try.prog 9 #[ptr1 tb, .agg #[.slice p l c1, .int .i64 (T.length : Nat)], .agg #[.int .i64 L[j].k, .int .i64 L[j].n, .int .u64 (L[j].s : Nat)]] wr.drew fun e w' => (∃ u F', e = .returned (.tuple #[tvD u (stepT L[j].k L[j].n L[j].s T).length, .bool true]) ∧ Sta w' F' tb (stepT L[j].k L[j].n L[j].s T) ∧ DocT w' 0 u (docA 0 (stepT L[j].k L[j].n L[j].s T)) ∧ (∀ g, u.ownBlock = some g → ¬ F' g) ∧ (∀ k, F' k → F k ∨ wr.drew.heap.size ≤ k) ∧ ∀ g, u.ownBlock = some g → (Value.slice p l c1).ownBlock = some g ∨ wr.drew.heap.size ≤ g) ∧ Frm wr.drew w' F) := fun _ => does_any L[j].k F tb T _ L[j].n L[j].s wr.drew hPq.out.sta hPq.out.doc hPq.out.off HTL.out hn1 hn2
      have hU2 : Hid (2 * (stepT L[j].k L[j].n L[j].s T).length ≤ j + 1 + 1 + uN (stepT L[j].k L[j].n L[j].s T)) := step_len _ _ _ _ _ hU.out
      have HW : Hid (∃ x', (stepT L[j].k L[j].n L[j].s T)[0]? = some x' ∧ Way x x') := step_way _ _ _ T hX.out.1 hX.out.2
      generalize stepT L[j].k L[j].n L[j].s T = T2 at *
      generalize L[j].k = ak at *
      generalize L[j].n = an at *
      generalize L[j].s = ax at *
      clear hP HR hU HTL hn1 hn2 hX
      go_wp2_with fail
      refine wp_region_any (by kernel_rfl) ?_
      change wpAny _ _ _ _ _ _ _ (World.drew _)
      refine anyN_take (v := ?_) 0 rfl (by kernel_rfl) (by kernel_rfl) (by kernel_rfl) (fun _ _ _ h => h) (Or.inl ⟨by rfl, ?_⟩) ?_
      rotate_left
      focus
        intro w9
        go_simp
        try with_reducible rfl
      try simp only [Act.put, List.setIfInBounds_toArray, List.set_cons_zero, List.set_cons_succ]
      refine anyN_take (v := ?_) 2 rfl (by kernel_rfl) (by kernel_rfl) (by kernel_rfl) (fun _ _ _ h => h) (Or.inl ⟨by rfl, ?_⟩) ?_
      rotate_left
      focus
        intro w9
        go_simp
        try with_reducible rfl
      try simp only [Act.put, List.setIfInBounds_toArray, List.set_cons_zero, List.set_cons_succ]
      refine anyN_take (v := ?_) 3 rfl (by kernel_rfl) (by kernel_rfl) (by kernel_rfl) (fun _ _ _ h => h) (Or.inl ⟨by rfl, ?_⟩) ?_
      rotate_left
      focus
        intro w9
        go_simp
        try with_reducible rfl
      try simp only [Act.put, List.setIfInBounds_toArray, List.set_cons_zero, List.set_cons_succ]
      refine anyN_take (v := ?_) 4 rfl (by kernel_rfl) (by kernel_rfl) (by kernel_rfl) (fun _ _ _ h => h) (Or.inl ⟨by rfl, ?_⟩) ?_
      rotate_left
      focus
        intro w9
        go_simp
        try with_reducible rfl
      try simp only [Act.put, List.setIfInBounds_toArray, List.set_cons_zero, List.set_cons_succ]
      refine wpAny_ready (rs := [1, 5]) (by kernel_rfl) (by simp) ?_
      refine anyN_cons 1 rfl (by rfl) (fun K hK => ?_) (anyN_cons 5 rfl (by rfl) (fun K hK => ?_) AllReady.nil)
      · go_simp
        refine hK.out _ _ ?_
        clear hK K
        try simp only [Act.put, List.setIfInBounds_toArray, List.set_cons_zero, List.set_cons_succ]
        refine wpAny_ready (rs := [5]) (by kernel_rfl) (by simp) ?_
        refine anyN_cons 5 rfl (by rfl) (fun K hK => ?_) AllReady.nil
        go_simp
        refine hK.out _ _ ?_
        clear hK K
        try simp only [Act.put, List.setIfInBounds_toArray, List.set_cons_zero, List.set_cons_succ]
        refine wpAny_ready (rs := [6]) (by kernel_rfl) (by simp) ?_
        refine anyN_cons 6 rfl (by rfl) (fun K hK => ?_) AllReady.nil
        go_simp
        refine (C1.out trivial).mono ?_
        rintro e w2 ⟨⟨u, F2, rfl, s1, s2, s3, s4, s5⟩, s6⟩
        dsimp only
        obtain ⟨q2, l2, d2, rfl⟩ : ∃ q l c, u = .slice q l c := by
          obtain ⟨q, cq, eu, _⟩ := s2.rd
          exact ⟨_, _, _, eu⟩
        have hb2 := hPq.out.boxOn s6
        have z0 : w2.cell? ⟨bx, 0, none⟩ = some (.slice p l c1) := hb2.cell
        have z1 : w2.cell? ⟨bx, 1, none⟩ = some (.int .i64 (T.length : Nat)) := hb2.cell
        have z2 : w2.frozen? ⟨bx, 0, none⟩ = false := hb2.frozen
        have z3 : w2.frozen? ⟨bx, 1, none⟩ = false := hb2.frozen
        have HS2 : Hid (_ ∧ _ ∧ _) := hPq.out.set s1 s2 s3 s4 s5 s6
        clear s1 s2 s3 s4 s5 s6 hb2
        refine hK.out _ _ ?_
        clear hK K
        try simp only [Act.put, List.setIfInBounds_toArray, List.set_cons_zero, List.set_cons_succ]
        refine anyN_take (v := ?_) 7 rfl (by kernel_rfl) (by kernel_rfl) (by kernel_rfl) (fun _ _ _ h => h) (Or.inl ⟨by rfl, ?_⟩) ?_
        rotate_left
        focus
          intro w9
          go_simp
          try with_reducible rfl
        try simp only [Act.put, List.setIfInBounds_toArray, List.set_cons_zero, List.set_cons_succ]
        refine anyN_take (v := ?_) 8 rfl (by kernel_rfl) (by kernel_rfl) (by kernel_rfl) (fun _ _ _ h => h) (Or.inl ⟨by rfl, ?_⟩) ?_
        rotate_left
        focus
          intro w9
          go_simp
          try with_reducible rfl
        try simp only [Act.put, List.setIfInBounds_toArray, List.set_cons_zero, List.set_cons_succ]
        refine anyN_take (v := ?_) 9 rfl (by kernel_rfl) (by kernel_rfl) (by kernel_rfl) (fun _ _ _ h => h) (Or.inl ⟨by rfl, ?_⟩) ?_
        rotate_left
        focus
          intro w9
          go_simp
          try with_reducible rfl
        try simp only [Act.put, List.setIfInBounds_toArray, List.set_cons_zero, List.set_cons_succ]
        refine wpAny_ready (rs := [10]) (by kernel_rfl) (by simp) ?_
        refine anyN_cons 10 rfl (by rfl) (fun K hK => ?_) AllReady.nil
        go_simp
        refine hK.out _ _ ?_
        clear hK K
        try simp only [Act.put, List.setIfInBounds_toArray, List.set_cons_zero, List.set_cons_succ]
        refine wpAny_done (by kernel_rfl) ?_ _
        have HB3 : Hid (Below w.heap.size w ((w2.setCell ⟨bx, 0, none⟩ (.slice q2 l2 d2)).setCell ⟨bx, 1, none⟩ (.int .i64 (T2.length : Nat)))) := Below.trans (b := wr.drew) ⟨hB.out.os, hB.out.tape, hB.out.output, hB.out.size, hB.out.block⟩ (HS2.out.2.2.below (Nat.le_of_lt hPq.out.box.lt |> Nat.le_trans hPq.out.lox) (fun k hk => hPq.out.low k hk))
        have HP3 : Hid (PT w.heap.size F2 tb bx T2 (.slice q2 l2 d2) ((w2.setCell ⟨bx, 0, none⟩ (.slice q2 l2 d2)).setCell ⟨bx, 1, none⟩ (.int .i64 (T2.length : Nat)))) := HS2.out.1
        clear HS2 hPq hB
        go_wp2_with fail
        generalize ((w2.setCell ⟨bx, 0, none⟩ (.slice q2 l2 d2)).setCell ⟨bx, 1, none⟩ (.int .i64 (T2.length : Nat))) = w3 at *
        clear z0 z1 z2 z3 e0 e1 e2 y0 y1 C1
        obtain ⟨x2, hx2, hw2⟩ := HW.out
        have C2 : Hid (Calls Try.prog 13 #[ptr1 tb, .int .i64 1] w3 fun e w' => e = .returned (.tuple #[.int .i64 (tellT T2 1).1, .int .u64 ((tellT T2 1).2.1 : Nat), .int .i64 (tellT T2 1).2.2]) ∧ Sta w' F2 tb T2 ∧ Frm w3 w' F2) := state_any F2 tb T2 1 w3 HP3.out.sta (by omega) (by omega)
        rw [tell_one hx2] at C2
        by_cases hg2 : x2.gone = true
        · rw [if_pos hg2] at C2
          have hdd : decd x.wd = true := by
            rcases hw2 with h1 | h1
            · exact h1.2
            · rw [hg2] at h1
              cases h1.1
          have C3 : Hid (∀ w1, Calls Try.prog 14 #[.int .i64 wa] w1 fun e w' => e = .returned (.bool true) ∧ w' = w1) := fun w1 => by
            have h := rdecided_any wa w1
            rw [HWA.out.2.2, hdd] at h
            exact h
          clear hw2 HW HWA hx2
          refine C2.out.mono ?_
          rintro e w4 ⟨rfl, s1, s2⟩
          have HB4 : Hid (Below w.heap.size w w4) := HB3.out.trans (s2.below HB3.out.size (fun k hk => HP3.out.lof k hk))
          clear s1 s2 C2
          go_wp2_with fail
          refine (C3.out w4).mono ?_
          rintro e w5 ⟨rfl, rfl⟩
          have C4 : Hid (Calls _ _ _ _ _) := awake_any w5
          go_wp2_with fail
          refine C4.out.mono ?_
          rintro e w6 ⟨rfl, hb6⟩
          have HB6 : Hid (Below w.heap.size w w6) := HB4.out.trans (hb6.mono HB4.out.size)
          clear hb6 C4
          go_wp2_with fail
          go_ret
          exact ⟨rfl, HB6.out⟩
        · rw [if_neg hg2] at C2
          obtain ⟨hge, hsm⟩ : stO x.wd ≤ stO x2.wd ∧ (decd x.wd = true → x2.wd = x.wd) := by
            rcases hw2 with h1 | h1
            · exact absurd h1.1 hg2
            · exact h1.2
          have HN : Hid (wa ≤ stO x2.wd) := Int.le_trans HWA.out.1 hge
          have HX : Hid (T2[0]? = some x2 ∧ x2.gone = false) := ⟨hx2, by simpa using hg2⟩
          obtain ⟨s2v, hsv⟩ : ∃ s2v, s2v = stO x2.wd := ⟨_, rfl⟩
          obtain ⟨p2v, hpv⟩ : ∃ p2v, p2v = spO x2.wd := ⟨_, rfl⟩
          have HR2 : Hid (s2v ≤ stO x2.wd ∧ (decd x2.wd = true → s2v = stO x2.wd ∧ p2v = spO x2.wd) ∧ decS s2v = decd x2.wd) := ⟨Int.le_of_eq hsv, fun _ => ⟨hsv, hpv⟩, by rw [hsv]; exact decS_stO _⟩
          have C3 : Hid (∀ w1, Calls Try.prog 14 #[.int .i64 wa] w1 fun e w' => e = .returned (.bool (decd x.wd)) ∧ w' = w1) := fun w1 => by
            have h := rdecided_any wa w1
            rw [HWA.out.2.2] at h
            exact h
          have HDC : Hid (decd x.wd = true → wa = stO x2.wd ∧ at' = spO x2.wd) := fun h => by
            rw [hsm h]
            exact HWA.out.2.1 h
          clear hw2 HW HWA hx2 hsm hge hg2
          generalize decd x.wd = dd at *
          rw [← hsv, ← hpv] at C2 HDC
          rw [← hsv] at HN
          clear hsv hpv
          refine C2.out.mono ?_
          rintro e w4 ⟨rfl, s1, s2⟩
          have HP4 : Hid (PT _ _ _ _ _ _ _) := HP3.out.asked s1 s2
          have HB4 : Hid (Below w.heap.size w w4) := HB3.out.trans (s2.below HB3.out.size (fun k hk => HP3.out.lof k hk))
          clear s1 s2 C2 HP3 HB3
          have hnl : ¬ s2v < wa := by have := HN.out; omega
          cases dd with
          | false =>
            go_wp2_with fail
            refine (C3.out w4).mono ?_
            rintro e w5 ⟨rfl, rfl⟩
            go_wp2_with fail
            go_roundw
            case rel => exact ⟨j + 1, _, _, _, _, _, _, hj1, rfl, rfl, by go_num, HP4, HB4, hU2, HX, HR2⟩
            case measure => simp [intOf]; omega
          | true =>
            obtain ⟨rfl, rfl⟩ := HDC.out rfl
            go_wp2_with fail
            refine (C3.out w4).mono ?_
            rintro e w5 ⟨rfl, rfl⟩
            go_wp2_with fail
            go_roundw
            case rel => exact ⟨j + 1, _, _, _, _, _, _, hj1, rfl, rfl, by go_num, HP4, HB4, hU2, HX, HR2⟩
            case measure => simp [intOf]; omega
      · go_simp
        refine hK.out _ _ ?_
        clear hK K
        try simp only [Act.put, List.setIfInBounds_toArray, List.set_cons_zero, List.set_cons_succ]
        refine wpAny_ready (rs := [1]) (by kernel_rfl) (by simp) ?_
        refine anyN_cons 1 rfl (by rfl) (fun K hK => ?_) AllReady.nil
        go_simp
        refine hK.out _ _ ?_
        clear hK K
        try simp only [Act.put, List.setIfInBounds_toArray, List.set_cons_zero, List.set_cons_succ]
        refine wpAny_ready (rs := [6]) (by kernel_rfl) (by simp) ?_
        refine anyN_cons 6 rfl (by rfl) (fun K hK => ?_) AllReady.nil
        go_simp
        refine (C1.out trivial).mono ?_
        rintro e w2 ⟨⟨u, F2, rfl, s1, s2, s3, s4, s5⟩, s6⟩
        dsimp only
        obtain ⟨q2, l2, d2, rfl⟩ : ∃ q l c, u = .slice q l c := by
          obtain ⟨q, cq, eu, _⟩ := s2.rd
          exact ⟨_, _, _, eu⟩
        have hb2 := hPq.out.boxOn s6
        have z0 : w2.cell? ⟨bx, 0, none⟩ = some (.slice p l c1) := hb2.cell
        have z1 : w2.cell? ⟨bx, 1, none⟩ = some (.int .i64 (T.length : Nat)) := hb2.cell
        have z2 : w2.frozen? ⟨bx, 0, none⟩ = false := hb2.frozen
        have z3 : w2.frozen? ⟨bx, 1, none⟩ = false := hb2.frozen
        have HS2 : Hid (_ ∧ _ ∧ _) := hPq.out.set s1 s2 s3 s4 s5 s6
        clear s1 s2 s3 s4 s5 s6 hb2
        refine hK.out _ _ ?_
        clear hK K
        try simp only [Act.put, List.setIfInBounds_toArray, List.set_cons_zero, List.set_cons_succ]
        refine anyN_take (v := ?_) 7 rfl (by kernel_rfl) (by kernel_rfl) (by kernel_rfl) (fun _ _ _ h => h) (Or.inl ⟨by rfl, ?_⟩) ?_
        rotate_left
        focus
          intro w9
          go_simp
          try with_reducible rfl
        try simp only [Act.put, List.setIfInBounds_toArray, List.set_cons_zero, List.set_cons_succ]
        refine anyN_take (v := ?_) 8 rfl (by kernel_rfl) (by kernel_rfl) (by kernel_rfl) (fun _ _ _ h => h) (Or.inl ⟨by rfl, ?_⟩) ?_
        rotate_left
        focus
          intro w9
          go_simp
          try with_reducible rfl
        try simp only [Act.put, List.setIfInBounds_toArray, List.set_cons_zero, List.set_cons_succ]
        refine anyN_take (v := ?_) 9 rfl (by kernel_rfl) (by kernel_rfl) (by kernel_rfl) (fun _ _ _ h => h) (Or.inl ⟨by rfl, ?_⟩) ?_
        rotate_left
        focus
          intro w9
          go_simp
          try with_reducible rfl
        try simp only [Act.put, List.setIfInBounds_toArray, List.set_cons_zero, List.set_cons_succ]
        refine wpAny_ready (rs := [10]) (by kernel_rfl) (by simp) ?_
        refine anyN_cons 10 rfl (by rfl) (fun K hK => ?_) AllReady.nil
        go_simp
        refine hK.out _ _ ?_
        clear hK K
        try simp only [Act.put, List.setIfInBounds_toArray, List.set_cons_zero, List.set_cons_succ]
        refine wpAny_done (by kernel_rfl) ?_ _
        have HB3 : Hid (Below w.heap.size w ((w2.setCell ⟨bx, 0, none⟩ (.slice q2 l2 d2)).setCell ⟨bx, 1, none⟩ (.int .i64 (T2.length : Nat)))) := Below.trans (b := wr.drew) ⟨hB.out.os, hB.out.tape, hB.out.output, hB.out.size, hB.out.block⟩ (HS2.out.2.2.below (Nat.le_of_lt hPq.out.box.lt |> Nat.le_trans hPq.out.lox) (fun k hk => hPq.out.low k hk))
        have HP3 : Hid (PT w.heap.size F2 tb bx T2 (.slice q2 l2 d2) ((w2.setCell ⟨bx, 0, none⟩ (.slice q2 l2 d2)).setCell ⟨bx, 1, none⟩ (.int .i64 (T2.length : Nat)))) := HS2.out.1
        clear HS2 hPq hB
        go_wp2_with fail
        generalize ((w2.setCell ⟨bx, 0, none⟩ (.slice q2 l2 d2)).setCell ⟨bx, 1, none⟩ (.int .i64 (T2.length : Nat))) = w3 at *
        clear z0 z1 z2 z3 e0 e1 e2 y0 y1 C1
        obtain ⟨x2, hx2, hw2⟩ := HW.out
        have C2 : Hid (Calls Try.prog 13 #[ptr1 tb, .int .i64 1] w3 fun e w' => e = .returned (.tuple #[.int .i64 (tellT T2 1).1, .int .u64 ((tellT T2 1).2.1 : Nat), .int .i64 (tellT T2 1).2.2]) ∧ Sta w' F2 tb T2 ∧ Frm w3 w' F2) := state_any F2 tb T2 1 w3 HP3.out.sta (by omega) (by omega)
        rw [tell_one hx2] at C2
        by_cases hg2 : x2.gone = true
        · rw [if_pos hg2] at C2
          have hdd : decd x.wd = true := by
            rcases hw2 with h1 | h1
            · exact h1.2
            · rw [hg2] at h1
              cases h1.1
          have C3 : Hid (∀ w1, Calls Try.prog 14 #[.int .i64 wa] w1 fun e w' => e = .returned (.bool true) ∧ w' = w1) := fun w1 => by
            have h := rdecided_any wa w1
            rw [HWA.out.2.2, hdd] at h
            exact h
          clear hw2 HW HWA hx2
          refine C2.out.mono ?_
          rintro e w4 ⟨rfl, s1, s2⟩
          have HB4 : Hid (Below w.heap.size w w4) := HB3.out.trans (s2.below HB3.out.size (fun k hk => HP3.out.lof k hk))
          clear s1 s2 C2
          go_wp2_with fail
          refine (C3.out w4).mono ?_
          rintro e w5 ⟨rfl, rfl⟩
          have C4 : Hid (Calls _ _ _ _ _) := awake_any w5
          go_wp2_with fail
          refine C4.out.mono ?_
          rintro e w6 ⟨rfl, hb6⟩
          have HB6 : Hid (Below w.heap.size w w6) := HB4.out.trans (hb6.mono HB4.out.size)
          clear hb6 C4
          go_wp2_with fail
          go_ret
          exact ⟨rfl, HB6.out⟩
        · rw [if_neg hg2] at C2
          obtain ⟨hge, hsm⟩ : stO x.wd ≤ stO x2.wd ∧ (decd x.wd = true → x2.wd = x.wd) := by
            rcases hw2 with h1 | h1
            · exact absurd h1.1 hg2
            · exact h1.2
          have HN : Hid (wa ≤ stO x2.wd) := Int.le_trans HWA.out.1 hge
          have HX : Hid (T2[0]? = some x2 ∧ x2.gone = false) := ⟨hx2, by simpa using hg2⟩
          obtain ⟨s2v, hsv⟩ : ∃ s2v, s2v = stO x2.wd := ⟨_, rfl⟩
          obtain ⟨p2v, hpv⟩ : ∃ p2v, p2v = spO x2.wd := ⟨_, rfl⟩
          have HR2 : Hid (s2v ≤ stO x2.wd ∧ (decd x2.wd = true → s2v = stO x2.wd ∧ p2v = spO x2.wd) ∧ decS s2v = decd x2.wd) := ⟨Int.le_of_eq hsv, fun _ => ⟨hsv, hpv⟩, by rw [hsv]; exact decS_stO _⟩
          have C3 : Hid (∀ w1, Calls Try.prog 14 #[.int .i64 wa] w1 fun e w' => e = .returned (.bool (decd x.wd)) ∧ w' = w1) := fun w1 => by
            have h := rdecided_any wa w1
            rw [HWA.out.2.2] at h
            exact h
          have HDC : Hid (decd x.wd = true → wa = stO x2.wd ∧ at' = spO x2.wd) := fun h => by
            rw [hsm h]
            exact HWA.out.2.1 h
          clear hw2 HW HWA hx2 hsm hge hg2
          generalize decd x.wd = dd at *
          rw [← hsv, ← hpv] at C2 HDC
          rw [← hsv] at HN
          clear hsv hpv
          refine C2.out.mono ?_
          rintro e w4 ⟨rfl, s1, s2⟩
          have HP4 : Hid (PT _ _ _ _ _ _ _) := HP3.out.asked s1 s2
          have HB4 : Hid (Below w.heap.size w w4) := HB3.out.trans (s2.below HB3.out.size (fun k hk => HP3.out.lof k hk))
          clear s1 s2 C2 HP3 HB3
          have hnl : ¬ s2v < wa := by have := HN.out; omega
          cases dd with
          | false =>
            go_wp2_with fail
            refine (C3.out w4).mono ?_
            rintro e w5 ⟨rfl, rfl⟩
            go_wp2_with fail
            go_roundw
            case rel => exact ⟨j + 1, _, _, _, _, _, _, hj1, rfl, rfl, by go_num, HP4, HB4, hU2, HX, HR2⟩
            case measure => simp [intOf]; omega
          | true =>
            obtain ⟨rfl, rfl⟩ := HDC.out rfl
            go_wp2_with fail
            refine (C3.out w4).mono ?_
            rintro e w5 ⟨rfl, rfl⟩
            go_wp2_with fail
            go_roundw
            case rel => exact ⟨j + 1, _, _, _, _, _, _, hj1, rfl, rfl, by go_num, HP4, HB4, hU2, HX, HR2⟩
            case measure => simp [intOf]; omega
end Go.Proofs.Ytmcdpadmjicafaa
