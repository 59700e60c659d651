/- Walks: turn. -/
import Derived.Test.YtmcdpadmjicafaaWStaW
namespace Go.Proofs.Ytmcdpadmjicafaa
open Go.RowKit Go.Maps
set_option maxRecDepth 100000

theorem mayU_dec {x : Nat} (h : mayU x = 0) : decd x = false := by
  unfold mayU at h
  cases hd : decd x
  · rfl
  · rw [hd] at h; simp at h
theorem mayC_dec {s x : Nat} (h : mayC s x = 0) : decd x = false := by
  unfold mayC at h
  cases hd : decd x
  · rfl
  · rw [hd] at h; simp at h

set_option maxHeartbeats 1000000 in
theorem turnU_any (F : Nat → Prop) (tb : Nat) (T : List Tx) (n : Int) (to : Nat) (w : World) (h : Sta w F tb T) (h1 : -9223372036854775808 ≤ n) (h2 : n < 9223372036854775808) :
    Calls Try.prog 49 #[ptr1 tb, .int .i64 n, .int .u64 (to : Nat), .func (.func 50) #[] #[]] w fun e w' => e = .returned (.int .i64 (turnT T n mayU to).2) ∧ Sta w' F tb (turnT T n mayU to).1 ∧ Frm w w' F := by
  obtain ⟨mb, ov, B, O, h⟩ := h
  have C1 : Hid (Calls _ _ _ _ _) := rlock_tab tb T.length mb ov w h.blk
  cases hk : lookT T n with
  | none =>
    have ht : turnT T n mayU to = (T, 90) := by unfold turnT; rw [hk]
    rw [ht]
    clear ht
    go_enter_defers Try.func49, Try.ntmps49
    go_wp2_with fail
    refine C1.out.mono ?_
    rintro e w1 ⟨rfl, hB1, hF1, hs1⟩
    have HX : Hid (StaX _ _ _ _ _ _ _ _ _ _) := h.own hF1 hB1
    have hl := HX.out.map.look _ h1 h2
    obtain ⟨c0, c2, c3, c4, c6, c7, c8⟩ := hB1.cell
    simp only [hk, Option.map_none, ptrO, Option.isSome_none] at hl
    have HB : Hid (TabB _ _ _ _ _ _ _) := hB1
    have HF : Hid (Frm _ _ _) := hF1
    have H0 : Hid (StaX _ _ _ _ _ _ _ _ _ _) := h
    clear C1 h hB1 hF1 h1 h2
    go_wp2_with fail
    refine leaves_cons (f := 36) (args := #[.pointer (some ⟨tb, 0, none⟩)]) (by simp) (by simp [go_sem]) ?_
    refine (runlock_tab tb T.length mb ov .returning w1 HB.out).mono ?_
    rintro e u' w2 ⟨rfl, rfl, hB2, hF2, hs2⟩
    exact ⟨_, results_tmp rfl _ _ _, rfl, ⟨mb, ov, B, O, HX.out.own hF2 hB2⟩, (HF.out.mono (fun k hk => by rw [hk]; exact H0.out.ftb)).trans hF2 (fun k hk => .inl (by rw [hk]; exact H0.out.ftb))⟩
  | some i =>
    obtain ⟨x, hx, hg, rfl⟩ := lookT_some hk
    have ht : turnT T ((i : Int) + 1) mayU to = if mayU x.wd = 0 then (T.set i ⟨to, false⟩, 0) else (T, mayU x.wd) := by unfold turnT; rw [hk]; simp only [hx]
    by_cases hm : mayU x.wd = 0
    · have hd : decd x.wd = false := mayU_dec hm
      rw [ht, if_pos hm]
      clear ht
      go_enter_defers Try.func49, Try.ntmps49
      go_wp2_with fail
      refine C1.out.mono ?_
      rintro e w1 ⟨rfl, hB1, hF1, hs1⟩
      have HX : Hid (StaX _ _ _ _ _ _ _ _ _ _) := h.own hF1 hB1
      have hl := HX.out.map.look _ h1 h2
      obtain ⟨c0, c2, c3, c4, c6, c7, c8⟩ := hB1.cell
      simp only [hk, Option.map_some, ptrO, Option.isSome_some] at hl
      have HB : Hid (TabB _ _ _ _ _ _ _) := hB1
      have HF : Hid (Frm _ _ _) := hF1
      have H0 : Hid (StaX _ _ _ _ _ _ _ _ _ _) := h
      have ca : w1.cell? ⟨B i, 1, none⟩ = some (.int .u64 (x.wd : Nat)) := (HX.out.cell1 hx).2.1
      have C2 : Hid (Calls _ _ _ _ _) := load_any (B i) 1 _ w1 ca
      have C3 : Hid (Calls _ _ _ _ _) := undecided_any x.wd w1
      have C4 : Hid (Calls _ _ _ _ _) := cas_any (B i) 1 _ (to : Nat) w1 ca (HX.out.cell1 hx).2.2
      rw [hm] at C3
      clear C1 h hB1 hF1 h1 h2 hm ca
      have HBi : Hid (∃ b, b = B i) := ⟨_, rfl⟩
      go_wp2_with fail
      go_loopw [] (fun wr => wr = w1) (fun _ => 0)
      case atStart => rfl
      case round =>
        rw [hrel]
        clear hrel
        go_wp2_with fail
        refine C2.out.mono ?_
        rintro e w2 ⟨rfl, hw⟩
        rw [hw]
        clear hw
        go_wp2_with fail
        refine C3.out.mono ?_
        rintro e w2 ⟨rfl, hw⟩
        rw [hw]
        clear hw
        go_wp2_with fail
        refine C4.out.mono ?_
        rintro e w3 ⟨rfl, hw⟩
        have HX3 : Hid (StaX _ _ _ _ _ _ _ _ _ _) := HX.out.turn hx hg hd to
        have HF3 : Hid (Frm w1 _ _) := frm_set w1 (B i) 1 (.int .u64 (to : Nat)) (F := fun k => k = B i) rfl
        rw [← hw] at HX3 HF3
        clear hw
        go_wp2_with fail
        refine leaves_cons (f := 36) (args := #[.pointer (some ⟨tb, 0, none⟩)]) (by simp) (by simp [go_sem]) ?_
        refine (runlock_tab tb T.length mb ov .returning w3 (by have := HX3.out.blk; rw [List.length_set] at this; exact this)).mono ?_
        rintro e u' w2 ⟨rfl, rfl, hB2, hF2, hs2⟩
        have hB2' : TabB w2 tb 0 0 (T.set i ⟨to, false⟩).length mb ov := by rw [List.length_set]; exact hB2
        exact ⟨_, results_tmp rfl _ _ _, rfl, ⟨mb, ov, B, O, HX3.out.own hF2 hB2'⟩, ((HF.out.mono (fun k hk => by rw [hk]; exact H0.out.ftb)).trans HF3.out (fun k hk => .inl (by rw [hk]; exact H0.out.ftx i (List.getElem?_eq_some_iff.1 hx).1))).trans hF2 (fun k hk => .inl (by rw [hk]; exact H0.out.ftb))⟩
    · rw [ht, if_neg hm]
      clear ht
      show Calls _ _ _ _ fun e w' => e = .returned (.int .i64 (mayU x.wd)) ∧ Sta w' F tb T ∧ Frm w w' F
      have hm0 : ∃ m, mayU x.wd = m ∧ ¬ m = 0 := ⟨_, rfl, hm⟩
      clear hm
      obtain ⟨m, hm, q0⟩ := hm0
      rw [hm]
      go_enter_defers Try.func49, Try.ntmps49
      go_wp2_with fail
      refine C1.out.mono ?_
      rintro e w1 ⟨rfl, hB1, hF1, hs1⟩
      have HX : Hid (StaX _ _ _ _ _ _ _ _ _ _) := h.own hF1 hB1
      have hl := HX.out.map.look _ h1 h2
      obtain ⟨c0, c2, c3, c4, c6, c7, c8⟩ := hB1.cell
      simp only [hk, Option.map_some, ptrO, Option.isSome_some] at hl
      have HB : Hid (TabB _ _ _ _ _ _ _) := hB1
      have HF : Hid (Frm _ _ _) := hF1
      have H0 : Hid (StaX _ _ _ _ _ _ _ _ _ _) := h
      have ca : w1.cell? ⟨B i, 1, none⟩ = some (.int .u64 (x.wd : Nat)) := (HX.out.cell1 hx).2.1
      have C2 : Hid (Calls _ _ _ _ _) := load_any (B i) 1 _ w1 ca
      have C3 : Hid (Calls _ _ _ _ _) := undecided_any x.wd w1
      have HM : Hid (_ = m) := hm
      rw [hm] at C3
      clear C1 h hB1 hF1 h1 h2 hm ca
      have HBi : Hid (∃ b, b = B i) := ⟨_, rfl⟩
      go_wp2_with fail
      go_loopw [] (fun wr => wr = w1) (fun _ => 0)
      case atStart => rfl
      case round =>
        rw [hrel]
        clear hrel
        go_wp2_with fail
        refine C2.out.mono ?_
        rintro e w2 ⟨rfl, hw⟩
        rw [hw]
        clear hw
        go_wp2_with fail
        refine C3.out.mono ?_
        rintro e w2 ⟨rfl, hw⟩
        rw [hw]
        clear hw
        go_wp2_with fail
        refine leaves_cons (f := 36) (args := #[.pointer (some ⟨tb, 0, none⟩)]) (by simp) (by simp [go_sem]) ?_
        refine (runlock_tab tb T.length mb ov .returning w1 HB.out).mono ?_
        rintro e u' w2 ⟨rfl, rfl, hB2, hF2, hs2⟩
        exact ⟨_, results_tmp rfl _ _ _, rfl, ⟨mb, ov, B, O, HX.out.own hF2 hB2⟩, (HF.out.mono (fun k hk => by rw [hk]; exact H0.out.ftb)).trans hF2 (fun k hk => .inl (by rw [hk]; exact H0.out.ftb))⟩

theorem may_any (sb s x : Nat) (w : World) (h : w.cell? ⟨sb, 0, none⟩ = some (.int .u64 (s : Nat))) :
    Calls Try.prog 51 #[.int .u64 (x : Nat), ptr1 sb] w fun e w' => e = .returned (.int .i64 (mayC s x)) ∧ w' = w := by
  have C : Hid (Calls _ _ _ _ _) := decided_any x w
  unfold mayC
  cases hd : decd x
  · rw [hd] at C
    rw [if_neg (by simp)]
    by_cases h0 : x = 0
    · subst h0
      rw [if_pos rfl]
      go_enter Try.func51, Try.ntmps51
      go_wp2_with fail
      refine C.out.mono ?_
      rintro e w2 ⟨rfl, hw⟩
      rw [hw]
      clear hw
      go_wp2_with fail
      go_ret
      exact ⟨rfl, rfl⟩
    · rw [if_neg h0]
      have q0 : ¬ (x : Int) = 0 := by omega
      clear h0 hd
      by_cases h1 : s = 0
      · subst h1
        rw [if_pos (.inl rfl)]
        generalize (x : Int) = y at *
        go_enter Try.func51, Try.ntmps51
        go_wp2_with fail
        refine C.out.mono ?_
        rintro e w2 ⟨rfl, hw⟩
        rw [hw]
        clear hw
        go_wp2_with fail
        go_ret
        exact ⟨rfl, rfl⟩
      · have q1 : ¬ (s : Int) = 0 := by omega
        by_cases h2 : 4611686018427387904 < s
        · rw [if_pos (.inr h2)]
          have q2 : (4611686018427387904 : Int) < (s : Int) := by omega
          clear h1 h2
          generalize (x : Int) = y at *
          generalize (s : Int) = z at *
          go_enter Try.func51, Try.ntmps51
          go_wp2_with fail
          refine C.out.mono ?_
          rintro e w2 ⟨rfl, hw⟩
          rw [hw]
          clear hw
          go_wp2_with fail
          go_ret
          exact ⟨rfl, rfl⟩
        · rw [if_neg (by omega)]
          have q2 : (s : Int) ≤ 4611686018427387904 := by omega
          clear h1 h2
          generalize (x : Int) = y at *
          generalize (s : Int) = z at *
          have q3 : (z == 0 || decide ((4611686018427387904 : Int) < z)) = false := by
            rw [Bool.or_eq_false_iff]
            exact ⟨by simpa using q1, by simpa using q2⟩
          clear q2
          go_enter Try.func51, Try.ntmps51
          go_wp2_with fail
          refine C.out.mono ?_
          rintro e w2 ⟨rfl, hw⟩
          rw [hw]
          clear hw
          go_wp2_with fail
          go_ret
          exact ⟨rfl, rfl⟩
  · rw [hd] at C
    rw [if_pos rfl]
    go_enter Try.func51, Try.ntmps51
    go_wp2_with fail
    refine C.out.mono ?_
    rintro e w2 ⟨rfl, hw⟩
    rw [hw]
    clear hw
    go_wp2_with fail
    go_ret
    exact ⟨rfl, rfl⟩


set_option maxHeartbeats 1000000 in
theorem turnC_any (F : Nat → Prop) (tb : Nat) (T : List Tx) (n : Int) (to : Nat) (sb s : Nat) (w : World) (h : Sta w F tb T) (h1 : -9223372036854775808 ≤ n) (h2 : n < 9223372036854775808) (hsb : w.cell? ⟨sb, 0, none⟩ = some (.int .u64 (s : Nat))) (hsf : ¬ F sb) (hsl : sb < w.heap.size) :
    Calls Try.prog 49 #[ptr1 tb, .int .i64 n, .int .u64 (to : Nat), .func (.func 51) #[] #[ptr1 sb]] w fun e w' => e = .returned (.int .i64 (turnT T n (mayC s) to).2) ∧ Sta w' F tb (turnT T n (mayC s) to).1 ∧ Frm w w' F := by
  obtain ⟨mb, ov, B, O, h⟩ := h
  have C1 : Hid (Calls _ _ _ _ _) := rlock_tab tb T.length mb ov w h.blk
  cases hk : lookT T n with
  | none =>
    have ht : turnT T n (mayC s) to = (T, 90) := by unfold turnT; rw [hk]
    rw [ht]
    clear ht
    go_enter_defers Try.func49, Try.ntmps49
    go_wp2_with fail
    refine C1.out.mono ?_
    rintro e w1 ⟨rfl, hB1, hF1, hs1⟩
    have HX : Hid (StaX _ _ _ _ _ _ _ _ _ _) := h.own hF1 hB1
    have hl := HX.out.map.look _ h1 h2
    obtain ⟨c0, c2, c3, c4, c6, c7, c8⟩ := hB1.cell
    simp only [hk, Option.map_none, ptrO, Option.isSome_none] at hl
    have HB : Hid (TabB _ _ _ _ _ _ _) := hB1
    have HF : Hid (Frm _ _ _) := hF1
    have H0 : Hid (StaX _ _ _ _ _ _ _ _ _ _) := h
    clear C1 h hB1 hF1 h1 h2
    go_wp2_with fail
    refine leaves_cons (f := 36) (args := #[.pointer (some ⟨tb, 0, none⟩)]) (by simp) (by simp [go_sem]) ?_
    refine (runlock_tab tb T.length mb ov .returning w1 HB.out).mono ?_
    rintro e u' w2 ⟨rfl, rfl, hB2, hF2, hs2⟩
    exact ⟨_, results_tmp rfl _ _ _, rfl, ⟨mb, ov, B, O, HX.out.own hF2 hB2⟩, (HF.out.mono (fun k hk => by rw [hk]; exact H0.out.ftb)).trans hF2 (fun k hk => .inl (by rw [hk]; exact H0.out.ftb))⟩
  | some i =>
    obtain ⟨x, hx, hg, rfl⟩ := lookT_some hk
    have ht : turnT T ((i : Int) + 1) (mayC s) to = if (mayC s) x.wd = 0 then (T.set i ⟨to, false⟩, 0) else (T, (mayC s) x.wd) := by unfold turnT; rw [hk]; simp only [hx]
    by_cases hm : (mayC s) x.wd = 0
    · have hd : decd x.wd = false := mayC_dec hm
      rw [ht, if_pos hm]
      clear ht
      go_enter_defers Try.func49, Try.ntmps49
      go_wp2_with fail
      refine C1.out.mono ?_
      rintro e w1 ⟨rfl, hB1, hF1, hs1⟩
      have HX : Hid (StaX _ _ _ _ _ _ _ _ _ _) := h.own hF1 hB1
      have hl := HX.out.map.look _ h1 h2
      obtain ⟨c0, c2, c3, c4, c6, c7, c8⟩ := hB1.cell
      simp only [hk, Option.map_some, ptrO, Option.isSome_some] at hl
      have HB : Hid (TabB _ _ _ _ _ _ _) := hB1
      have HF : Hid (Frm _ _ _) := hF1
      have H0 : Hid (StaX _ _ _ _ _ _ _ _ _ _) := h
      have ca : w1.cell? ⟨B i, 1, none⟩ = some (.int .u64 (x.wd : Nat)) := (HX.out.cell1 hx).2.1
      have C2 : Hid (Calls _ _ _ _ _) := load_any (B i) 1 _ w1 ca
      have C3 : Hid (Calls _ _ _ _ _) := may_any sb s x.wd w1 ((World.cell?_of_block (a := ⟨sb, 0, none⟩) (HF.out.block sb hsl (fun e => hsf (by rw [e]; exact H0.out.ftb)))).trans hsb)
      have C4 : Hid (Calls _ _ _ _ _) := cas_any (B i) 1 _ (to : Nat) w1 ca (HX.out.cell1 hx).2.2
      rw [hm] at C3
      clear C1 h hB1 hF1 h1 h2 hm ca hsb hsf hsl
      have HBi : Hid (∃ b, b = B i) := ⟨_, rfl⟩
      go_wp2_with fail
      go_loopw [] (fun wr => wr = w1) (fun _ => 0)
      case atStart => rfl
      case round =>
        rw [hrel]
        clear hrel
        go_wp2_with fail
        refine C2.out.mono ?_
        rintro e w2 ⟨rfl, hw⟩
        rw [hw]
        clear hw
        go_wp2_with fail
        refine C3.out.mono ?_
        rintro e w2 ⟨rfl, hw⟩
        rw [hw]
        clear hw
        go_wp2_with fail
        refine C4.out.mono ?_
        rintro e w3 ⟨rfl, hw⟩
        have HX3 : Hid (StaX _ _ _ _ _ _ _ _ _ _) := HX.out.turn hx hg hd to
        have HF3 : Hid (Frm w1 _ _) := frm_set w1 (B i) 1 (.int .u64 (to : Nat)) (F := fun k => k = B i) rfl
        rw [← hw] at HX3 HF3
        clear hw
        go_wp2_with fail
        refine leaves_cons (f := 36) (args := #[.pointer (some ⟨tb, 0, none⟩)]) (by simp) (by simp [go_sem]) ?_
        refine (runlock_tab tb T.length mb ov .returning w3 (by have := HX3.out.blk; rw [List.length_set] at this; exact this)).mono ?_
        rintro e u' w2 ⟨rfl, rfl, hB2, hF2, hs2⟩
        have hB2' : TabB w2 tb 0 0 (T.set i ⟨to, false⟩).length mb ov := by rw [List.length_set]; exact hB2
        exact ⟨_, results_tmp rfl _ _ _, rfl, ⟨mb, ov, B, O, HX3.out.own hF2 hB2'⟩, ((HF.out.mono (fun k hk => by rw [hk]; exact H0.out.ftb)).trans HF3.out (fun k hk => .inl (by rw [hk]; exact H0.out.ftx i (List.getElem?_eq_some_iff.1 hx).1))).trans hF2 (fun k hk => .inl (by rw [hk]; exact H0.out.ftb))⟩
    · rw [ht, if_neg hm]
      clear ht
      show Calls _ _ _ _ fun e w' => e = .returned (.int .i64 ((mayC s) x.wd)) ∧ Sta w' F tb T ∧ Frm w w' F
      have hm0 : ∃ m, (mayC s) x.wd = m ∧ ¬ m = 0 := ⟨_, rfl, hm⟩
      clear hm
      obtain ⟨m, hm, q0⟩ := hm0
      rw [hm]
      go_enter_defers Try.func49, Try.ntmps49
      go_wp2_with fail
      refine C1.out.mono ?_
      rintro e w1 ⟨rfl, hB1, hF1, hs1⟩
      have HX : Hid (StaX _ _ _ _ _ _ _ _ _ _) := h.own hF1 hB1
      have hl := HX.out.map.look _ h1 h2
      obtain ⟨c0, c2, c3, c4, c6, c7, c8⟩ := hB1.cell
      simp only [hk, Option.map_some, ptrO, Option.isSome_some] at hl
      have HB : Hid (TabB _ _ _ _ _ _ _) := hB1
      have HF : Hid (Frm _ _ _) := hF1
      have H0 : Hid (StaX _ _ _ _ _ _ _ _ _ _) := h
      have ca : w1.cell? ⟨B i, 1, none⟩ = some (.int .u64 (x.wd : Nat)) := (HX.out.cell1 hx).2.1
      have C2 : Hid (Calls _ _ _ _ _) := load_any (B i) 1 _ w1 ca
      have C3 : Hid (Calls _ _ _ _ _) := may_any sb s x.wd w1 ((World.cell?_of_block (a := ⟨sb, 0, none⟩) (HF.out.block sb hsl (fun e => hsf (by rw [e]; exact H0.out.ftb)))).trans hsb)
      have HM : Hid (_ = m) := hm
      rw [hm] at C3
      clear C1 h hB1 hF1 h1 h2 hm ca hsb hsf hsl
      have HBi : Hid (∃ b, b = B i) := ⟨_, rfl⟩
      go_wp2_with fail
      go_loopw [] (fun wr => wr = w1) (fun _ => 0)
      case atStart => rfl
      case round =>
        rw [hrel]
        clear hrel
        go_wp2_with fail
        refine C2.out.mono ?_
        rintro e w2 ⟨rfl, hw⟩
        rw [hw]
        clear hw
        go_wp2_with fail
        refine C3.out.mono ?_
        rintro e w2 ⟨rfl, hw⟩
        rw [hw]
        clear hw
        go_wp2_with fail
        refine leaves_cons (f := 36) (args := #[.pointer (some ⟨tb, 0, none⟩)]) (by simp) (by simp [go_sem]) ?_
        refine (runlock_tab tb T.length mb ov .returning w1 HB.out).mono ?_
        rintro e u' w2 ⟨rfl, rfl, hB2, hF2, hs2⟩
        exact ⟨_, results_tmp rfl _ _ _, rfl, ⟨mb, ov, B, O, HX.out.own hF2 hB2⟩, (HF.out.mono (fun k hk => by rw [hk]; exact H0.out.ftb)).trans hF2 (fun k hk => .inl (by rw [hk]; exact H0.out.ftb))⟩
end Go.Proofs.Ytmcdpadmjicafaa
