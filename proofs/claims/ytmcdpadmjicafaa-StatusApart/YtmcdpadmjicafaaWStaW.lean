/- Walks: isDecided, undecided, State, New. -/
import Derived.Test.YtmcdpadmjicafaaWSta2
namespace Go.Proofs.Ytmcdpadmjicafaa
open Go.RowKit Go.Maps
set_option maxRecDepth 100000

theorem load_any (g i : Nat) (x : Int) (w : World) (h0 : w.cell? ⟨g, i, none⟩ = some (.int .u64 x)) :
    Calls Try.prog 37 #[.pointer (some ⟨g, i, none⟩)] w fun e w' => e = .returned (.int .u64 x) ∧ w' = w := by
  have hl := run_call_load (P := Try.prog) Try.func67 (by kernel_rfl) (by kernel_rfl) (by kernel_rfl) .u64 (by kernel_rfl) h0
  go_enter Try.func37, Try.ntmps37
  go_wp2
  go_ret
  exact ⟨rfl, rfl⟩
theorem cas_any (g i : Nat) (x y : Int) (w : World) (h0 : w.cell? ⟨g, i, none⟩ = some (.int .u64 x)) (f0 : w.frozen? ⟨g, i, none⟩ = false) :
    Calls Try.prog 77 #[.pointer (some ⟨g, i, none⟩), .int .u64 x, .int .u64 y] w fun e w' => e = .returned (.bool true) ∧ w' = w.setCell ⟨g, i, none⟩ (.int .u64 y) := by
  have hl := run_call_cas_hit (P := Try.prog) Try.func86 (by kernel_rfl) (by kernel_rfl) (by kernel_rfl) .u64 (by kernel_rfl) (y := y) h0 f0
  go_enter Try.func77, Try.ntmps77
  go_wp2
  go_ret
  exact ⟨rfl, rfl⟩

theorem decided_any (x : Nat) (w : World) :
    Calls Try.prog 52 #[.int .u64 (x : Nat)] w fun e w' => e = .returned (.bool (decd x)) ∧ w' = w := by
  by_cases h0 : x = 0
  · subst h0
    go_enter Try.func52, Try.ntmps52
    go_wp2
    go_ret
    exact ⟨rfl, rfl⟩
  · have h0' : ¬ (x : Int) = 0 := by omega
    by_cases h1 : x = 4611686018427387905
    · subst h1
      go_enter Try.func52, Try.ntmps52
      go_wp2
      go_ret
      exact ⟨rfl, rfl⟩
    · have h1' : ¬ (x : Int) = 4611686018427387905 := by omega
      have e : decd x = true := by simp [decd, h0, h1]
      rw [e]
      go_enter Try.func52, Try.ntmps52
      go_wp2
      go_ret
      exact ⟨by simp [h1', h0], rfl⟩

theorem undecided_any (x : Nat) (w : World) :
    Calls Try.prog 50 #[.int .u64 (x : Nat)] w fun e w' => e = .returned (.int .i64 (mayU x)) ∧ w' = w := by
  have C : Hid (Calls _ _ _ _ _) := decided_any x w
  unfold mayU
  cases hd : decd x
  · rw [hd] at C
    go_enter Try.func50, Try.ntmps50
    go_wp2_with fail
    refine C.out.mono ?_
    rintro e w2 ⟨rfl, hw⟩
    rw [hw]
    clear hw
    go_wp2_with fail
    go_ret
    exact ⟨rfl, rfl⟩
  · rw [hd] at C
    go_enter Try.func50, Try.ntmps50
    go_wp2_with fail
    refine C.out.mono ?_
    rintro e w2 ⟨rfl, hw⟩
    rw [hw]
    clear hw
    go_wp2_with fail
    go_ret
    exact ⟨rfl, rfl⟩

/-- the state's walk, told by its word -/
theorem stO_spell (x : Nat) : (x = 0 ∧ stO x = 1 ∧ spO x = 0) ∨ (x = 4611686018427387905 ∧ stO x = 2 ∧ spO x = 0) ∨ (x = 4611686018427387906 ∧ stO x = 4 ∧ spO x = 0) ∨ (x ≠ 0 ∧ x ≠ 4611686018427387905 ∧ x ≠ 4611686018427387906 ∧ stO x = 3 ∧ spO x = x) := by
  unfold stO spO
  by_cases h0 : x = 0
  · subst h0; exact .inl ⟨rfl, rfl, rfl⟩
  · by_cases h1 : x = 4611686018427387905
    · subst h1; exact .inr (.inl ⟨rfl, rfl, rfl⟩)
    · by_cases h2 : x = 4611686018427387906
      · subst h2; exact .inr (.inr (.inl ⟨rfl, rfl, rfl⟩))
      · exact .inr (.inr (.inr ⟨h0, h1, h2, by simp [h0, h1, h2], by simp [h0, h1, h2]⟩))

set_option maxHeartbeats 1000000 in
theorem state_any (F : Nat → Prop) (tb : Nat) (T : List Tx) (n : Int) (w : World) (h : Sta w F tb T) (h1 : -9223372036854775808 ≤ n) (h2 : n < 9223372036854775808) :
    Calls Try.prog 13 #[ptr1 tb, .int .i64 n] w fun e w' => e = .returned (.tuple #[.int .i64 (tellT T n).1, .int .u64 ((tellT T n).2.1 : Nat), .int .i64 (tellT T n).2.2]) ∧ Sta w' F tb T ∧ Frm w w' F := by
  obtain ⟨mb, ov, B, O, h⟩ := h
  have C1 : Hid (Calls _ _ _ _ _) := rlock_tab tb T.length mb ov w h.blk
  cases hk : lookT T n with
  | none =>
    have ht : tellT T n = (0, 0, 90) := by unfold tellT; rw [hk]
    rw [ht]
    clear ht
    go_enter_defers Try.func13, Try.ntmps13
    go_wp2_with fail
    refine C1.out.mono ?_
    rintro e w1 ⟨rfl, hB1, hF1, hs1⟩
    have HX : Hid (StaX _ _ _ _ _ _ _ _ _ _) := h.own hF1 hB1
    have hl := HX.out.map.look n h1 h2
    obtain ⟨c0, c2, c3, c4, c6, c7, c8⟩ := hB1.cell
    simp only [hk, Option.map_none, ptrO, Option.isSome_none] at hl
    have HB : Hid (TabB _ _ _ _ _ _ _) := hB1
    have HF : Hid (Frm _ _ _) := hF1
    have H0 : Hid (StaX _ _ _ _ _ _ _ _ _ _) := h
    clear C1 h hB1 hF1
    go_wp2_with fail
    refine leaves_cons (f := 36) (args := #[.pointer (some ⟨tb, 0, none⟩)]) (by simp) (by simp [go_sem]) ?_
    refine (runlock_tab tb T.length mb ov .returning w1 HB.out).mono ?_
    rintro e u' w2 ⟨rfl, rfl, hB2, hF2, hs2⟩
    exact ⟨_, results_tmp3 rfl _ _ _, rfl, ⟨mb, ov, B, O, HX.out.own hF2 hB2⟩, (HF.out.mono (fun k hk => by rw [hk]; exact H0.out.ftb)).trans hF2 (fun k hk => .inl (by rw [hk]; exact H0.out.ftb))⟩
  | some i =>
    obtain ⟨x, hx, hg, rfl⟩ := lookT_some hk
    have ht : tellT T ((i : Int) + 1) = (stO x.wd, spO x.wd, 0) := by unfold tellT; rw [hk]; simp only [hx]
    rw [ht]
    clear ht
    rcases stO_spell x.wd with ⟨e0, e1, e2⟩ | ⟨e0, e1, e2⟩ | ⟨e0, e1, e2⟩ | ⟨n0, n1, n2, e1, e2⟩
    · rw [e1, e2]
      go_enter_defers Try.func13, Try.ntmps13
      go_wp2_with fail
      refine C1.out.mono ?_
      rintro e w1 ⟨rfl, hB1, hF1, hs1⟩
      have HX : Hid (StaX _ _ _ _ _ _ _ _ _ _) := h.own hF1 hB1
      have hl := HX.out.map.look _ h1 h2
      obtain ⟨c0, c2, c3, c4, c6, c7, c8⟩ := hB1.cell
      simp only [hk, Option.map_some, ptrO, Option.isSome_some] at hl
      have ca : w1.cell? ⟨B i, 1, none⟩ = some (.int .u64 0) := by
        have := (HX.out.cell1 hx).2.1
        rw [e0] at this
        exact this
      have HB : Hid (TabB _ _ _ _ _ _ _) := hB1
      have HF : Hid (Frm _ _ _) := hF1
      have H0 : Hid (StaX _ _ _ _ _ _ _ _ _ _) := h
      have C2 : Hid (Calls _ _ _ _ _) := load_any (B i) 1 _ w1 ca
      clear C1 h hB1 hF1 h1 h2 e0 e1 e2
      generalize B i = bi at *
      go_wp2_with fail
      refine C2.out.mono ?_
      rintro e w2 ⟨rfl, hw⟩
      rw [hw]
      clear hw
      go_wp2_with fail
      refine leaves_cons (f := 36) (args := #[.pointer (some ⟨tb, 0, none⟩)]) (by simp) (by simp [go_sem]) ?_
      refine (runlock_tab tb T.length mb ov .returning w1 HB.out).mono ?_
      rintro e u' w2 ⟨rfl, rfl, hB2, hF2, hs2⟩
      exact ⟨_, results_tmp3 rfl _ _ _, rfl, ⟨mb, ov, B, O, HX.out.own hF2 hB2⟩, (HF.out.mono (fun k hk => by rw [hk]; exact H0.out.ftb)).trans hF2 (fun k hk => .inl (by rw [hk]; exact H0.out.ftb))⟩
    · rw [e1, e2]
      go_enter_defers Try.func13, Try.ntmps13
      go_wp2_with fail
      refine C1.out.mono ?_
      rintro e w1 ⟨rfl, hB1, hF1, hs1⟩
      have HX : Hid (StaX _ _ _ _ _ _ _ _ _ _) := h.own hF1 hB1
      have hl := HX.out.map.look _ h1 h2
      obtain ⟨c0, c2, c3, c4, c6, c7, c8⟩ := hB1.cell
      simp only [hk, Option.map_some, ptrO, Option.isSome_some] at hl
      have ca : w1.cell? ⟨B i, 1, none⟩ = some (.int .u64 4611686018427387905) := by
        have := (HX.out.cell1 hx).2.1
        rw [e0] at this
        exact this
      have HB : Hid (TabB _ _ _ _ _ _ _) := hB1
      have HF : Hid (Frm _ _ _) := hF1
      have H0 : Hid (StaX _ _ _ _ _ _ _ _ _ _) := h
      have C2 : Hid (Calls _ _ _ _ _) := load_any (B i) 1 _ w1 ca
      clear C1 h hB1 hF1 h1 h2 e0 e1 e2
      generalize B i = bi at *
      go_wp2_with fail
      refine C2.out.mono ?_
      rintro e w2 ⟨rfl, hw⟩
      rw [hw]
      clear hw
      go_wp2_with fail
      refine leaves_cons (f := 36) (args := #[.pointer (some ⟨tb, 0, none⟩)]) (by simp) (by simp [go_sem]) ?_
      refine (runlock_tab tb T.length mb ov .returning w1 HB.out).mono ?_
      rintro e u' w2 ⟨rfl, rfl, hB2, hF2, hs2⟩
      exact ⟨_, results_tmp3 rfl _ _ _, rfl, ⟨mb, ov, B, O, HX.out.own hF2 hB2⟩, (HF.out.mono (fun k hk => by rw [hk]; exact H0.out.ftb)).trans hF2 (fun k hk => .inl (by rw [hk]; exact H0.out.ftb))⟩
    · rw [e1, e2]
      go_enter_defers Try.func13, Try.ntmps13
      go_wp2_with fail
      refine C1.out.mono ?_
      rintro e w1 ⟨rfl, hB1, hF1, hs1⟩
      have HX : Hid (StaX _ _ _ _ _ _ _ _ _ _) := h.own hF1 hB1
      have hl := HX.out.map.look _ h1 h2
      obtain ⟨c0, c2, c3, c4, c6, c7, c8⟩ := hB1.cell
      simp only [hk, Option.map_some, ptrO, Option.isSome_some] at hl
      have ca : w1.cell? ⟨B i, 1, none⟩ = some (.int .u64 4611686018427387906) := by
        have := (HX.out.cell1 hx).2.1
        rw [e0] at this
        exact this
      have HB : Hid (TabB _ _ _ _ _ _ _) := hB1
      have HF : Hid (Frm _ _ _) := hF1
      have H0 : Hid (StaX _ _ _ _ _ _ _ _ _ _) := h
      have C2 : Hid (Calls _ _ _ _ _) := load_any (B i) 1 _ w1 ca
      clear C1 h hB1 hF1 h1 h2 e0 e1 e2
      generalize B i = bi at *
      go_wp2_with fail
      refine C2.out.mono ?_
      rintro e w2 ⟨rfl, hw⟩
      rw [hw]
      clear hw
      go_wp2_with fail
      refine leaves_cons (f := 36) (args := #[.pointer (some ⟨tb, 0, none⟩)]) (by simp) (by simp [go_sem]) ?_
      refine (runlock_tab tb T.length mb ov .returning w1 HB.out).mono ?_
      rintro e u' w2 ⟨rfl, rfl, hB2, hF2, hs2⟩
      exact ⟨_, results_tmp3 rfl _ _ _, rfl, ⟨mb, ov, B, O, HX.out.own hF2 hB2⟩, (HF.out.mono (fun k hk => by rw [hk]; exact H0.out.ftb)).trans hF2 (fun k hk => .inl (by rw [hk]; exact H0.out.ftb))⟩
    · have hq : (¬ (x.wd : Int) = 0 ∧ ¬ (x.wd : Int) = 4611686018427387905 ∧ ¬ (x.wd : Int) = 4611686018427387906) := by refine ⟨?_, ?_, ?_⟩ <;> omega
      obtain ⟨q0, q1, q2⟩ := hq
      rw [e1, e2]
      show Calls _ _ _ _ fun e w' => e = .returned (.tuple #[.int .i64 3, .int .u64 (x.wd : Int), .int .i64 0]) ∧ Sta w' F tb T ∧ Frm w w' F
      clear n0 n1 n2
      generalize hy : (x.wd : Int) = y at *
      go_enter_defers Try.func13, Try.ntmps13
      go_wp2_with fail
      refine C1.out.mono ?_
      rintro e w1 ⟨rfl, hB1, hF1, hs1⟩
      have HX : Hid (StaX _ _ _ _ _ _ _ _ _ _) := h.own hF1 hB1
      have hl := HX.out.map.look _ h1 h2
      obtain ⟨c0, c2, c3, c4, c6, c7, c8⟩ := hB1.cell
      simp only [hk, Option.map_some, ptrO, Option.isSome_some] at hl
      have ca : w1.cell? ⟨B i, 1, none⟩ = some (.int .u64 y) := by
        have := (HX.out.cell1 hx).2.1
        rw [hy] at this
        exact this
      have HB : Hid (TabB _ _ _ _ _ _ _) := hB1
      have HF : Hid (Frm _ _ _) := hF1
      have H0 : Hid (StaX _ _ _ _ _ _ _ _ _ _) := h
      have C2 : Hid (Calls _ _ _ _ _) := load_any (B i) 1 _ w1 ca
      clear C1 h hB1 hF1 h1 h2 e1 e2 hy
      generalize B i = bi at *
      go_wp2_with fail
      refine C2.out.mono ?_
      rintro e w2 ⟨rfl, hw⟩
      rw [hw]
      clear hw
      go_wp2_with fail
      refine leaves_cons (f := 36) (args := #[.pointer (some ⟨tb, 0, none⟩)]) (by simp) (by simp [go_sem]) ?_
      refine (runlock_tab tb T.length mb ov .returning w1 HB.out).mono ?_
      rintro e u' w2 ⟨rfl, rfl, hB2, hF2, hs2⟩
      exact ⟨_, results_tmp3 rfl _ _ _, rfl, ⟨mb, ov, B, O, HX.out.own hF2 hB2⟩, (HF.out.mono (fun k hk => by rw [hk]; exact H0.out.ftb)).trans hF2 (fun k hk => .inl (by rw [hk]; exact H0.out.ftb))⟩

theorem heap_alloc_new (w : World) (o : Obj) : (w.alloc o).heap[w.heap.size]? = some o := by
  unfold World.alloc
  exact Array.getElem?_push_size
theorem info_tab : (Try.prog.info? 69).map (fun i => (i.zero, i.size, i.bytes)) = some (some (.agg #[.int .i32 0, .int .u32 0, .int .u32 0, .int .u32 0, .int .i32 0, .int .i32 0, .int .i64 0, .map none, .slice none 0 0]), 9, 64) := by kernel_rfl
theorem new_any (w : World) :
    Calls Try.prog 7 #[] w fun e w' => ∃ tb, e = .returned (ptr1 tb) ∧ w.heap.size ≤ tb ∧ Sta w' (fun k => w.heap.size ≤ k ∧ k < w'.heap.size) tb [] ∧ Below w.heap.size w w' := by
  have hmm := @run_makeMap Try.prog
  go_enter Try.func7, Try.ntmps7
  go_wp2_with fail
  go_ret
  refine ⟨_, rfl, by simp, ⟨w.heap.size, .slice none 0 0, fun _ => 0, [], ?_⟩, by go_grown⟩
  have e1 : (w.alloc (.map #[] 0)).heap.size = w.heap.size + 1 := by simp
  have hf : Frm (w.alloc (.map #[] 0)) ((w.alloc (.map #[] 0)).alloc (.cells #[.int .i32 0, .int .u32 0, .int .u32 0, .int .u32 0, .int .i32 0, .int .i32 0, .int .i64 0, .map (some w.heap.size), .slice none 0 0] 69)) (fun _ => False) := Frm.of_below ((Below.refl _ _).alloc (Nat.le_refl _) _)
  refine { blk := ?_, ftb := ?_, fmb := ?_, ftx := ?_, fov := ?_, map := ?_, opn := World.ownsRow_nil _ _ _ _, tx := ?_, rise := List.Pairwise.nil, inn := ?_, all := ?_, few := by simp, gon := ?_, flt := fun k hk => hk.2 }
  · unfold TabB
    rw [← e1, heap_alloc_new]
    rfl
  · exact ⟨by omega, by simp⟩
  · exact ⟨Nat.le_refl _, by simp; omega⟩
  · intro i hi
    simp at hi
  · intro g hg
    simp [Value.ownBlock] at hg
  · refine ((HasMap.made w).of_block (hf.block _ (by omega) (by simp))).ext fun n => ?_
    unfold lookT
    simp
  · intro i x hx
    simp at hx
  · intro i hi
    simp at hi
  · intro i x hx
    simp at hx
  · intro x hx
    simp at hx
end Go.Proofs.Ytmcdpadmjicafaa
