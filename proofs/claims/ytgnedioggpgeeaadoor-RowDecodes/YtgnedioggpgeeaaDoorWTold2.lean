/- The walks of what stands behind the bits, on both sides. -/
import Derived.Test.YtgnedioggpgeeaaDoorWTold
namespace Go.Proofs.YtgnedioggpgeeaaDoor
open Go.RowKit
set_option maxRecDepth 100000

/-- the text of a value in its box -/
abbrev SBt (w0 : World) (g : Nat) (s : ByteArray) (w' : World) : Prop := Below w0.heap.size w0 w' ∧ w'.cell? ⟨g, 3, none⟩ = some (.string s)
theorem SBt.on {w0 : World} {g : Nat} {s : ByteArray} {w1 w2 : World} (hb : Below w1.heap.size w1 w2) (h : SBt w0 g s w1) : SBt w0 g s w2 :=
  ⟨h.1.trans (hb.mono h.1.size), (hb.cell (p := ⟨g, 3, none⟩) (World.block_lt_of_cell? w1 _ h.2)).trans h.2⟩

theorem wrapU (n : Nat) (h : n < 18446744073709551616) : IntKind.u64.wrap (n : Int) = (n : Int) := by
  simp [IntKind.wrap, IntKind.bits, IntKind.signed]
  omega
theorem SBt.on2 {w0 : World} {g B : Nat} {s : ByteArray} {w1 w2 : World} (hb : Below B w1 w2) (hB : B = w0.heap.size) (hg : g < w0.heap.size) (h : SBt w0 g s w1) : SBt w0 g s w2 := by
  subst hB
  exact ⟨h.1.trans hb, (hb.cell (p := ⟨g, 3, none⟩) hg).trans h.2⟩

set_option maxHeartbeats 4000000 in
theorem told_any (v : Vl) (w : World) (hv : v.ok) (hs : v.s.size ≤ 65536) :
    Calls Tryd.prog 38 #[.agg #[.int .i64 v.k, .int .i64 v.n, .float .f64 v.f, .string v.s]] w fun e w' => ∃ v', e = .returned v' ∧ OwnB w' w.heap.size v' (toldB v) ∧ Below w.heap.size w w' := by
  have HT : Hid (toldB v = if v.k = 2 then varB (zig v.n) else if v.k = 3 then loB v.f 8 else if v.k = 4 ∨ v.k = 5 then varB v.s.size ++ v.s.data.toList else []) := rfl
  have CZ : Hid (∀ w1 : World, Calls Tryd.prog 59 #[.int .i64 v.n] w1 fun e w' => e = .returned (.int .u64 (zig v.n : Int)) ∧ Below w1.heap.size w1 w') := fun w1 => rzigzag_any v.n w1 hv.2.1.1 hv.2.1.2
  have CV : Hid (∀ w1 : World, Calls Tryd.prog 29 #[.int .u64 (zig v.n : Int)] w1 fun e w' => ∃ v', e = .returned v' ∧ OwnB w' w1.heap.size v' (varB (zig v.n)) ∧ Below w1.heap.size w1 w') := fun w1 => rvarint_any (zig v.n) w1 (zig_lt hv.2.1.1 hv.2.1.2)
  have CS : Hid (∀ w1 : World, Calls Tryd.prog 29 #[.int .u64 (IntKind.u64.wrap (v.s.size : Int))] w1 fun e w' => ∃ v', e = .returned v' ∧ OwnB w' w1.heap.size v' (varB v.s.size) ∧ Below w1.heap.size w1 w') := fun w1 => by
    rw [wrapU v.s.size (by omega)]
    exact rvarint_any v.s.size w1 (by omega)
  have hvl := varB_len v.s.size
  have hfl := hv.2.2.1
  clear hv
  generalize toldB v = R at *
  obtain ⟨k, n, f, s⟩ := v
  dsimp only at HT CZ CV CS hs hvl hfl ⊢
  generalize zig n = z at *
  have hb0 : Below w.heap.size w (w.alloc (.cells #[.int .i64 k, .int .i64 n, .float .f64 f, .string s] 49)) := by go_grown
  have hfb := run_fbits
  by_cases h2 : k = 2
  · rw [if_pos h2] at HT
    subst h2
    go_enter Tryd.func38, Tryd.ntmps38
    go_wp2_with fail
    refine (CZ.out _).mono ?_
    rintro e w1 ⟨rfl, hb1⟩
    have h01 : Below w.heap.size w w1 := hb0.trans (hb1.mono hb0.size)
    go_wp2_with fail
    refine (CV.out _).mono ?_
    rintro e w2 ⟨v2, rfl, hO2, hb2⟩
    go_wp2
    go_ret
    exact ⟨_, rfl, by rw [HT.out]; exact hO2.mono h01.size, h01.trans (hb2.mono h01.size)⟩
  · rw [if_neg h2] at HT
    have h2' : (k == 2) = false := by simpa using h2
    by_cases h3 : k = 3
    · rw [if_pos h3] at HT
      subst h3
      clear CZ CV CS h2
      go_enter Tryd.func38, Tryd.ntmps38
      go_wp2_with fail
      generalize w.alloc (.cells #[.int .i64 3, .int .i64 n, .float .f64 f, .string s] 49) = w1 at *
      go_loopw [3, 5] (fun u i wr => ∃ j : Nat, j ≤ 8 ∧ i = .int .i64 (j : Int) ∧ Hid (OwnB wr w.heap.size u (loB f j) ∧ Keep5 w.heap.size w wr)) (fun _ i _ => 8 - (intOf i).toNat)
      case atStart => exact ⟨0, by decide, by go_num, ⟨OwnB.nil _ _, Keep5.of_below hb0 (Nat.le_refl _)⟩⟩
      case round =>
        obtain ⟨j, hj, rfl, HO⟩ := hrel
        have hz := HO.out.2.below.size
        by_cases hj0 : j = 8
        · subst hj0
          go_wp2
          go_ret
          exact ⟨_, rfl, by rw [HT.out]; exact HO.out.1, HO.out.2.below⟩
        · have hj1 : j < 8 := by omega
          have hll := loB_len f j
          go_wp2_with (first | (at_builtin; refine wpList_app1 _ rfl _ _ rfl w.heap.size _ _ rfl HO.out.1 (UInt8.ofNat (f / 256 ^ j)) _ (byte_shr f j) rfl (by omega) (by omega) ?_; intro v6 w6 h6 h7))
          go_roundw
          case rel => exact ⟨j + 1, hj1, by go_num, ⟨by rw [loB_succ]; exact h6, HO.out.2.trans h7⟩⟩
          case measure => simp [intOf]; omega
    · rw [if_neg h3] at HT
      have h3' : (k == 3) = false := by simpa using h3
      by_cases h45 : k = 4 ∨ k = 5
      · rw [if_pos h45] at HT
        clear CZ CV h2 h3
        have hsz : (s.size : Int) < 18446744073709551616 := by omega
        have HB : Hid (SBt (w.alloc (.cells #[.int .i64 k, .int .i64 n, .float .f64 f, .string s] 49)) w.heap.size s (w.alloc (.cells #[.int .i64 k, .int .i64 n, .float .f64 f, .string s] 49)).drew) := ⟨(Below.refl _ _).drew, (show (w.alloc _).cell? _ = _ by simp [go_sem])⟩
        rcases h45 with h4 | h4
        focus
          have h4' : (k == 4) = true := by simpa using h4
          clear h4
          go_enter Tryd.func38, Tryd.ntmps38
          go_wp2_with fail
        rotate_left
        focus
          have h4' : (k == 4) = false := by simp; omega
          have h5' : (k == 5) = true := by simpa using h4
          clear h4
          go_enter Tryd.func38, Tryd.ntmps38
          go_wp2_with fail
        all_goals
          generalize w.alloc (.cells #[.int .i64 k, .int .i64 n, .float .f64 f, .string s] 49) = w1 at *
          have hz1 := hb0.size
          have hg0 : w.heap.size < w1.heap.size := World.block_lt_of_cell? w1 _ HB.out.2
          refine wp_region_L (fun w' => SBt w1 w.heap.size s w') 8 (by kernel_rfl) ?_
          refine wpL_take (v := ?_) 0 rfl (by kernel_rfl) (fun _ _ _ h => h) (by rfl) ?_ HB.out ?_
          rotate_left
          focus
            intro w9 hw9
            go_simp
            try with_reducible rfl
          try simp only [Act.put, List.setIfInBounds_toArray, List.set_cons_zero, List.set_cons_succ]
          refine wpL_take (v := ?_) 1 rfl (by kernel_rfl) (fun _ _ _ h => h) (by rfl) ?_ HB.out ?_
          rotate_left
          focus
            intro w9 hw9
            go_simp
            try with_reducible rfl
          try simp only [Act.put, List.setIfInBounds_toArray, List.set_cons_zero, List.set_cons_succ]
          refine wpL_take (v := ?_) 2 rfl (by kernel_rfl) (fun _ _ _ h => h) (by rfl) ?_ HB.out ?_
          rotate_left
          focus
            intro w9 hw9
            go_simp
            try with_reducible rfl
          try simp only [Act.put, List.setIfInBounds_toArray, List.set_cons_zero, List.set_cons_succ]
          refine wpL_take (v := ?_) 3 rfl (by kernel_rfl) (fun _ _ _ h => h) (by rfl) ?_ HB.out ?_
          rotate_left
          focus
            intro w9 hw9
            go_simp
            try with_reducible rfl
          try simp only [Act.put, List.setIfInBounds_toArray, List.set_cons_zero, List.set_cons_succ]
          refine wpL_take (v := ?_) 5 rfl (by kernel_rfl) (fun _ _ _ h => h) (by rfl) ?_ HB.out ?_
          rotate_left
          focus
            intro w9 hw9
            go_simp
            try with_reducible rfl
          try simp only [Act.put, List.setIfInBounds_toArray, List.set_cons_zero, List.set_cons_succ]
          refine wpL_take (v := ?_) 6 rfl (by kernel_rfl) (fun _ _ _ h => h) (by rfl) ?_ HB.out ?_
          rotate_left
          focus
            intro w9 hw9
            go_simp
            try with_reducible rfl
          try simp only [Act.put, List.setIfInBounds_toArray, List.set_cons_zero, List.set_cons_succ]
          refine wpL_one 4 rfl (by kernel_rfl) (by rfl) ?_
          intro K hK
          go_simp
          refine (CS.out _).mono ?_
          rintro e w5 ⟨v5, rfl, hO5, hb5⟩
          dsimp only
          have hz5 := hb5.size
          have hS5 : SBt w1 w.heap.size s w5 := SBt.on hb5 HB.out
          refine hK.out _ _ (fun _ => hS5) ?_
          try simp only [Act.put, List.setIfInBounds_toArray, List.set_cons_zero, List.set_cons_succ]
          refine wpL_one 7 rfl (by kernel_rfl) (by rfl) ?_
          intro K hK
          refine wp_appStr w5 (.tmp 40) (.tmp 42) rfl w1.drew.heap.size v5 (varB s.size) (by rfl) hO5 s (by rfl) (by omega) hz5 ?_
          intro v6 w6 h6 h7
          have hS6 : SBt w1 w.heap.size s w6 := SBt.on2 h7.below rfl hg0 hS5
          refine hK.out _ _ (fun _ => hS6) ?_
          try simp only [Act.put, List.setIfInBounds_toArray, List.set_cons_zero, List.set_cons_succ]
          refine wpL_one 8 rfl (by kernel_rfl) (by rfl) ?_
          intro K hK
          go_simp
          refine hK.out _ _ (fun h => absurd rfl h) ?_
          try simp only [Act.put, List.setIfInBounds_toArray, List.set_cons_zero, List.set_cons_succ]
          refine wpL_done (by kernel_rfl) ?_ _
          refine NoPanic.normal ?_
          go_wp2
          go_ret
          exact ⟨_, rfl, by rw [HT.out]; exact h6.mono hz1, hb0.trans (((Below.refl w1.heap.size w1).drew.trans (hb5.trans h7.below)).mono hz1)⟩
      · rw [if_neg h45] at HT
        have h4' : (k == 4) = false := by simp; omega
        have h5' : (k == 5) = false := by simp; omega
        clear CZ CV CS h2 h3 h45
        go_enter Tryd.func38, Tryd.ntmps38
        go_wp2
        go_ret
        exact ⟨_, rfl, by rw [HT.out]; exact OwnB.nil _ _, hb0⟩
end Go.Proofs.YtgnedioggpgeeaaDoor
