/- Walks: Prepare, Abort, Commit, Forget. -/
import Derived.Test.YtmcdpadmjicafaaWTurn
namespace Go.Proofs.Ytmcdpadmjicafaa
open Go.RowKit Go.Maps
set_option maxRecDepth 100000

theorem prepare_any (F : Nat → Prop) (tb : Nat) (T : List Tx) (n : Int) (w : World) (h : Sta w F tb T) (h1 : -9223372036854775808 ≤ n) (h2 : n < 9223372036854775808) :
    Calls Try.prog 24 #[ptr1 tb, .int .i64 n] w fun e w' => e = .returned (.int .i64 (turnT T n mayU 4611686018427387905).2) ∧ Sta w' F tb (turnT T n mayU 4611686018427387905).1 ∧ Frm w w' F := by
  have C : Hid (Calls _ _ _ _ _) := turnU_any F tb T n 4611686018427387905 w h h1 h2
  generalize turnT T n mayU 4611686018427387905 = R at *
  clear h h1 h2
  go_enter Try.func24, Try.ntmps24
  go_wp2_with fail
  refine C.out.mono ?_
  rintro e w2 ⟨rfl, h3, h4⟩
  have H3 : Hid _ := h3
  have H4 : Hid _ := h4
  clear h3 h4
  go_wp2_with fail
  go_ret
  exact ⟨rfl, H3.out, H4.out⟩

theorem abort_any (F : Nat → Prop) (tb : Nat) (T : List Tx) (n : Int) (w : World) (h : Sta w F tb T) (h1 : -9223372036854775808 ≤ n) (h2 : n < 9223372036854775808) :
    Calls Try.prog 28 #[ptr1 tb, .int .i64 n] w fun e w' => e = .returned (.int .i64 (turnT T n mayU 4611686018427387906).2) ∧ Sta w' F tb (turnT T n mayU 4611686018427387906).1 ∧ Frm w w' F := by
  have C : Hid (Calls _ _ _ _ _) := turnU_any F tb T n 4611686018427387906 w h h1 h2
  generalize turnT T n mayU 4611686018427387906 = R at *
  clear h h1 h2
  go_enter Try.func28, Try.ntmps28
  go_wp2_with fail
  refine C.out.mono ?_
  rintro e w2 ⟨rfl, h3, h4⟩
  have H3 : Hid _ := h3
  have H4 : Hid _ := h4
  clear h3 h4
  go_wp2_with fail
  go_ret
  exact ⟨rfl, H3.out, H4.out⟩

theorem commit_any (F : Nat → Prop) (tb : Nat) (T : List Tx) (n : Int) (s : Nat) (w : World) (h : Sta w F tb T) (h1 : -9223372036854775808 ≤ n) (h2 : n < 9223372036854775808) :
    Calls Try.prog 26 #[ptr1 tb, .int .i64 n, .int .u64 (s : Nat)] w fun e w' => e = .returned (.int .i64 (turnT T n (mayC s) s).2) ∧ Sta w' F tb (turnT T n (mayC s) s).1 ∧ Frm w w' F := by
  have hF0 : Frm w (w.alloc (.cells #[.int .u64 (s : Nat)] 31)) (fun _ => False) := Frm.of_below ((Below.refl _ _).alloc (Nat.le_refl _) _)
  have hno : ¬ F w.heap.size := fun hf => by
    obtain ⟨mb, ov, B, O, hh⟩ := h
    have := hh.flt _ hf
    omega
  have C : Hid (Calls _ _ _ _ _) := turnC_any F tb T n s w.heap.size s (w.alloc (.cells #[.int .u64 (s : Nat)] 31)) (h.keep hF0 (fun k hk hn => hn)) h1 h2 (by rw [World.cell?_alloc_new]; rfl) hno (by simp)
  have HF0 : Hid (Frm _ _ _) := hF0
  generalize turnT T n (mayC s) s = R at *
  clear h h1 h2 hF0 hno
  go_enter Try.func26, Try.ntmps26
  go_wp2_with fail
  refine C.out.mono ?_
  rintro e w2 ⟨rfl, h3, h4⟩
  have H3 : Hid _ := h3
  have H4 : Hid _ := h4
  clear h3 h4
  go_wp2_with fail
  go_ret
  exact ⟨rfl, H3.out, (HF0.out.mono (fun k hk => hk.elim)).trans H4.out (fun k hk => .inl hk)⟩

set_option maxHeartbeats 1000000 in
theorem forget_any (F : Nat → Prop) (tb : Nat) (T : List Tx) (n : Int) (w : World) (h : Sta w F tb T) (h1 : -9223372036854775808 ≤ n) (h2 : n < 9223372036854775808) :
    Calls Try.prog 30 #[ptr1 tb, .int .i64 n] w fun e w' => e = .returned (.int .i64 (forgT T n).2) ∧ Sta w' F tb (forgT T n).1 ∧ Frm w w' F := by
  obtain ⟨mb, ov, B, O, h⟩ := h
  have C1 : Hid (Calls _ _ _ _ _) := wlock_tab tb T.length mb ov w h.blk
  cases hk : lookT T n with
  | none =>
    have ht : forgT T n = (T, 90) := by unfold forgT; rw [hk]
    rw [ht]
    clear ht
    go_enter_defers Try.func30, Try.ntmps30
    go_wp2_with fail
    refine C1.out.mono ?_
    rintro e w1 ⟨rfl, hB1, hF1, hs1⟩
    have HX : Hid (StaX _ _ _ _ _ _ _ _ _ _) := h.own hF1 hB1
    have hl := HX.out.map.look _ h1 h2
    obtain ⟨c0, c2, c3, c4, c6, c7, c8⟩ := hB1.cell
    simp only [hk, Option.map_none, ptrO, Option.isSome_none] at hl
    have HB : Hid (TabB _ _ _ _ _ _ _) := hB1
    have HF : Hid (Frm _ _ _) := hF1
    have H0 : Hid (StaX _ _ _ _ _ _ _ _ _ _) := h
    clear C1 h hB1 hF1 h1 h2
    go_wp2_with fail
    refine leaves_cons (f := 32) (args := #[.pointer (some ⟨tb, 0, none⟩)]) (by simp) (by simp [go_sem]) ?_
    refine (wunlock_tab tb T.length mb ov .returning w1 HB.out).mono ?_
    rintro e u' w2 ⟨rfl, rfl, hB2, hF2, hs2⟩
    exact ⟨_, results_tmp rfl _ _ _, rfl, ⟨mb, ov, B, O, HX.out.own hF2 hB2⟩, (HF.out.mono (fun k hk => by rw [hk]; exact H0.out.ftb)).trans hF2 (fun k hk => .inl (by rw [hk]; exact H0.out.ftb))⟩
  | some i =>
    obtain ⟨x, hx, hg, rfl⟩ := lookT_some hk
    have ht : forgT T ((i : Int) + 1) = if decd x.wd then (T.set i ⟨x.wd, true⟩, 0) else (T, 92) := by unfold forgT; rw [hk]; simp only [hx]
    rw [ht]
    clear ht
    cases hd : decd x.wd
    · rw [if_neg (by simp)]
      go_enter_defers Try.func30, Try.ntmps30
      go_wp2_with fail
      refine C1.out.mono ?_
      rintro e w1 ⟨rfl, hB1, hF1, hs1⟩
      have HX : Hid (StaX _ _ _ _ _ _ _ _ _ _) := h.own hF1 hB1
      have hl := HX.out.map.look _ h1 h2
      obtain ⟨c0, c2, c3, c4, c6, c7, c8⟩ := hB1.cell
      simp only [hk, Option.map_some, ptrO, Option.isSome_some] at hl
      have HB : Hid (TabB _ _ _ _ _ _ _) := hB1
      have HF : Hid (Frm _ _ _) := hF1
      have H0 : Hid (StaX _ _ _ _ _ _ _ _ _ _) := h
      have C2 : Hid (Calls _ _ _ _ _) := load_any (B i) 1 _ w1 (HX.out.cell1 hx).2.1
      have C3 : Hid (Calls _ _ _ _ _) := decided_any x.wd w1
      rw [hd] at C3
      clear C1 h hB1 hF1 h1 h2 hd
      go_wp2_with fail
      refine C2.out.mono ?_
      rintro e w2 ⟨rfl, hw⟩
      rw [hw]
      clear hw
      go_wp2_with fail
      refine C3.out.mono ?_
      rintro e w2 ⟨rfl, hw⟩
      rw [hw]
      clear hw
      go_wp2_with fail
      refine leaves_cons (f := 32) (args := #[.pointer (some ⟨tb, 0, none⟩)]) (by simp) (by simp [go_sem]) ?_
      refine (wunlock_tab tb T.length mb ov .returning w1 HB.out).mono ?_
      rintro e u' w2 ⟨rfl, rfl, hB2, hF2, hs2⟩
      exact ⟨_, results_tmp rfl _ _ _, rfl, ⟨mb, ov, B, O, HX.out.own hF2 hB2⟩, (HF.out.mono (fun k hk => by rw [hk]; exact H0.out.ftb)).trans hF2 (fun k hk => .inl (by rw [hk]; exact H0.out.ftb))⟩
    · rw [if_pos rfl]
      go_enter_defers Try.func30, Try.ntmps30
      go_wp2_with fail
      refine C1.out.mono ?_
      rintro e w1 ⟨rfl, hB1, hF1, hs1⟩
      have HX : Hid (StaX _ _ _ _ _ _ _ _ _ _) := h.own hF1 hB1
      have hl := HX.out.map.look _ h1 h2
      obtain ⟨w3, hdel, hm3, ht3⟩ := HX.out.map.drop _ h1 h2 0
      obtain ⟨c0, c2, c3, c4, c6, c7, c8⟩ := hB1.cell
      simp only [hk, Option.map_some, ptrO, Option.isSome_some] at hl
      have HF : Hid (Frm _ _ _) := hF1
      have H0 : Hid (StaX _ _ _ _ _ _ _ _ _ _) := h
      have HF3 : Hid (Frm w1 w3 (fun k => k = mb)) := Frm.of_turned ht3 rfl
      have HX3 : Hid (StaX _ _ _ _ _ _ _ _ _ _) := HX.out.forget hx hd HF3.out hm3
      have C2 : Hid (Calls _ _ _ _ _) := load_any (B i) 1 _ w1 (HX.out.cell1 hx).2.1
      have C3 : Hid (Calls _ _ _ _ _) := decided_any x.wd w1
      rw [hd] at C3
      clear C1 h hB1 hF1 h1 h2 hd hm3 ht3
      go_wp2_with fail
      refine C2.out.mono ?_
      rintro e w2 ⟨rfl, hw⟩
      rw [hw]
      clear hw
      go_wp2_with fail
      refine C3.out.mono ?_
      rintro e w2 ⟨rfl, hw⟩
      rw [hw]
      clear hw
      go_wp2_with fail
      refine leaves_cons (f := 32) (args := #[.pointer (some ⟨tb, 0, none⟩)]) (by simp) (by simp [go_sem]) ?_
      refine (wunlock_tab tb T.length mb ov .returning w3 (by have := HX3.out.blk; rw [List.length_set] at this; exact this)).mono ?_
      rintro e u' w2 ⟨rfl, rfl, hB2, hF2, hs2⟩
      have hB2' : TabB w2 tb 0 0 (T.set i ⟨x.wd, true⟩).length mb ov := by rw [List.length_set]; exact hB2
      exact ⟨_, results_tmp rfl _ _ _, rfl, ⟨mb, ov, B, O, HX3.out.own hF2 hB2'⟩, ((HF.out.mono (fun k hk => by rw [hk]; exact H0.out.ftb)).trans HF3.out (fun k hk => .inl (by rw [hk]; exact H0.out.fmb))).trans hF2 (fun k hk => .inl (by rw [hk]; exact H0.out.ftb))⟩
end Go.Proofs.Ytmcdpadmjicafaa
