/- The walk of appendValue. -/
import Derived.Test.YteadniomgbhecaaGreatDoorGWTold
namespace Go.Proofs.YteadniomgbhecaaGreatDoor
open Go.RowKit
set_option maxRecDepth 100000

set_option maxHeartbeats 2000000 in
theorem rowFloat_any (B : Nat) (v : Value) (bs : List UInt8) (f : Nat) (w : World) (hB : B ≤ w.heap.size) (ho : OwnB w B v bs) (hl : bs.length ≤ 1099511627776) :
    Calls Tryz.prog 73 #[v, .float .f64 f] w fun e w' => ∃ v', e = .returned v' ∧ OwnB w' B v' (bs ++ loB f 8) ∧ Keep5 B w w' := by
  have HO : Hid (OwnB w B v bs) := ho
  have hfb := run_fbits
  clear ho
  go_enter Tryz.func73, Tryz.ntmps73
  go_wp2_with fail
  go_loopw [0, 9] (fun u i wr => ∃ j : Nat, j ≤ 8 ∧ i = .int .i64 (j : Int) ∧ Hid (OwnB wr B u (bs ++ loB f j) ∧ Keep5 B w wr)) (fun _ i _ => 8 - (intOf i).toNat)
  case atStart => exact ⟨0, by decide, by go_num, ⟨by simpa [loB] using HO.out, Keep5.refl _ _⟩⟩
  case round =>
    clear HO
    obtain ⟨j, hj, rfl, HO⟩ := hrel
    have hz := HO.out.2.below.size
    by_cases hj0 : j = 8
    · subst hj0
      go_wp2
      go_ret
      exact ⟨_, rfl, HO.out.1, HO.out.2⟩
    · have hj1 : j < 8 := by omega
      have hll := loB_len f j
      have hbl : (bs ++ loB f j).length ≤ 1099511627776 + 8 := by rw [List.length_append]; omega
      go_wp2_with (first | (at_builtin; refine wpList_app1 _ rfl _ _ rfl B _ _ rfl HO.out.1 (UInt8.ofNat (f / 256 ^ j)) _ (byte_shr f j) rfl (by omega) (by omega) ?_; intro v6 w6 h6 h7))
      go_roundw
      case rel => exact ⟨j + 1, hj1, by go_num, ⟨by rw [loB_succ, ← List.append_assoc]; exact h6, HO.out.2.trans h7⟩⟩
      case measure => simp [intOf]; omega

theorem type_keep5 {B g : Nat} {w1 w2 : World} {cs : Array Value} {fr : Nat × Nat} (hk : Keep5 B w1 w2) (ht : w1.heap[g]? = some (.cells cs 45 fr)) : w2.heap[g]? = some (.cells cs 45 fr) :=
  (hk.other g _ ht (by intro c fr h; injection h with _ h _; exact absurd h (by decide))).trans ht
theorem cell_keep5 {B g o : Nat} {v : Value} {w1 w2 : World} {cs : Array Value} {fr : Nat × Nat} (hk : Keep5 B w1 w2) (h : w1.cell? ⟨g, o, none⟩ = some v) (ht : w1.heap[g]? = some (.cells cs 45 fr)) : w2.cell? ⟨g, o, none⟩ = some v :=
  (World.cell?_of_block (a := ⟨g, o, none⟩) ((type_keep5 hk ht).trans ht.symm)).trans h

set_option maxHeartbeats 4000000 in
theorem appendValue_any (B : Nat) (vb : Value) (bs : List UInt8) (v : Vl) (w : World) (hB : B ≤ w.heap.size) (ho : OwnB w B vb bs) (hv : v.ok) (hs : v.s.size ≤ 65536) (hl : bs.length ≤ 1099511627776 - 65600) :
    Calls Tryz.prog 54 #[vb, .agg #[.int .i64 v.k, .int .i64 v.n, .float .f64 v.f, .string v.s]] w fun e w' => ∃ v', e = .returned v' ∧ OwnB w' B v' (bs ++ toldB v) ∧ Keep5 B w w' := by
  have HT : Hid (toldB v = if v.k = 2 then varB (zig v.n) else if v.k = 3 then loB v.f 8 else if v.k = 4 ∨ v.k = 5 then varB v.s.size ++ v.s.data.toList else []) := rfl
  have CZ : Hid (∀ w1 : World, Calls Tryz.prog 72 #[.int .i64 v.n] w1 fun e w' => e = .returned (.int .u64 (zig v.n : Int)) ∧ Below w1.heap.size w1 w') := fun w1 => zigzag_any v.n w1 hv.2.1.1 hv.2.1.2
  have CV : Hid (∀ w1 : World, B ≤ w1.heap.size → OwnB w1 B vb bs → Calls Tryz.prog 71 #[vb, .int .u64 (zig v.n : Int)] w1 fun e w' => ∃ v', e = .returned v' ∧ OwnB w' B v' (bs ++ varB (zig v.n)) ∧ Keep5 B w1 w') := fun w1 h1 h2 => appendVarint_any B vb bs (zig v.n) w1 h1 h2 (zig_lt hv.2.1.1 hv.2.1.2) (by omega)
  have CF : Hid (∀ w1 : World, B ≤ w1.heap.size → OwnB w1 B vb bs → Calls Tryz.prog 73 #[vb, .float .f64 v.f] w1 fun e w' => ∃ v', e = .returned v' ∧ OwnB w' B v' (bs ++ loB v.f 8) ∧ Keep5 B w1 w') := fun w1 h1 h2 => rowFloat_any B vb bs v.f w1 h1 h2 (by omega)
  have CS : Hid (∀ w1 : World, B ≤ w1.heap.size → OwnB w1 B vb bs → Calls Tryz.prog 71 #[vb, .int .u64 (IntKind.u64.wrap (v.s.size : Int))] w1 fun e w' => ∃ v', e = .returned v' ∧ OwnB w' B v' (bs ++ varB v.s.size) ∧ Keep5 B w1 w') := fun w1 h1 h2 => by
    rw [wrapU v.s.size (by omega)]
    exact appendVarint_any B vb bs v.s.size w1 h1 h2 (by omega) (by omega)
  have hvl := varB_len v.s.size
  clear hv
  generalize toldB v = R at *
  obtain ⟨k, n, f, s⟩ := v
  dsimp only at HT CZ CV CS CF hs hvl ⊢
  generalize zig n = z at *
  have HK1 : Hid (Keep5 B w (w.alloc (.cells #[.int .i64 k, .int .i64 n, .float .f64 f, .string s] 45))) := Keep5.alloc _ _ hB
  have HO1 : Hid (OwnB (w.alloc (.cells #[.int .i64 k, .int .i64 n, .float .f64 f, .string s] 45)) B vb bs) := ho.kept ((Below.refl _ _).alloc (Nat.le_refl _) _)
  have hz1 : B ≤ (w.alloc (.cells #[.int .i64 k, .int .i64 n, .float .f64 f, .string s] 45)).heap.size := by simp; omega
  clear ho
  by_cases h2 : k = 2
  · rw [if_pos h2] at HT
    subst h2
    go_enter Tryz.func54, Tryz.ntmps54
    go_wp2_with fail
    refine (CZ.out _).mono ?_
    rintro e w1 ⟨rfl, hb1⟩
    have hz2 := hb1.size
    go_wp2_with fail
    refine (CV.out _ (by omega) (HO1.out.kept hb1)).mono ?_
    rintro e w2 ⟨v2, rfl, hO2, hk2⟩
    go_wp2
    go_ret
    exact ⟨_, rfl, by rw [HT.out]; exact hO2, HK1.out.trans ((Keep5.of_below hb1 hz1).trans hk2)⟩
  · rw [if_neg h2] at HT
    have h2' : (k == 2) = false := by simpa using h2
    by_cases h3 : k = 3
    · rw [if_pos h3] at HT
      subst h3
      clear h2
      go_enter Tryz.func54, Tryz.ntmps54
      go_wp2_with fail
      refine (CF.out _ hz1 HO1.out).mono ?_
      rintro e w2 ⟨v2, rfl, hO2, hk2⟩
      go_wp2
      go_ret
      exact ⟨_, rfl, by rw [HT.out]; exact hO2, HK1.out.trans hk2⟩
    · rw [if_neg h3] at HT
      have h3' : (k == 3) = false := by simpa using h3
      by_cases h45 : k = 4 ∨ k = 5
      · rw [if_pos h45] at HT
        clear CZ CV CF h2 h3
        have HB : Hid ((w.alloc (.cells #[.int .i64 k, .int .i64 n, .float .f64 f, .string s] 45)).drew.cell? ⟨w.heap.size, 3, none⟩ = some (.string s)) := (show (w.alloc _).cell? _ = _ by simp [go_sem])
        have HTy : Hid ((w.alloc (.cells #[.int .i64 k, .int .i64 n, .float .f64 f, .string s] 45)).drew.heap[w.heap.size]? = some (.cells #[.int .i64 k, .int .i64 n, .float .f64 f, .string s] 45 (0, 0))) := heap_alloc_new w _
        rcases h45 with h4 | h4
        focus
          have h4' : (k == 4) = true := by simpa using h4
          clear h4
          go_enter Tryz.func54, Tryz.ntmps54
          go_wp2_with fail
        rotate_left
        focus
          have h4' : (k == 4) = false := by simp; omega
          have h5' : (k == 5) = true := by simpa using h4
          clear h4
          go_enter Tryz.func54, Tryz.ntmps54
          go_wp2_with fail
        all_goals
          generalize hw1 : w.alloc (.cells #[.int .i64 k, .int .i64 n, .float .f64 f, .string s] 45) = w1 at *
          clear hw1
          refine wp_region_L (fun w' => w'.cell? ⟨w.heap.size, 3, none⟩ = some (.string s)) 9 (by kernel_rfl) ?_
          refine wpL_take (v := ?_) 0 rfl (by kernel_rfl) (fun _ _ _ h => h) (by rfl) ?_ HB.out ?_
          rotate_left
          focus
            intro w9 hw9
            go_simp
            try with_reducible rfl
          try simp only [Act.put, List.setIfInBounds_toArray, List.set_cons_zero, List.set_cons_succ]
          refine wpL_take (v := ?_) 1 rfl (by kernel_rfl) (fun _ _ _ h => h) (by rfl) ?_ HB.out ?_
          rotate_left
          focus
            intro w9 hw9
            go_simp
            try with_reducible rfl
          try simp only [Act.put, List.setIfInBounds_toArray, List.set_cons_zero, List.set_cons_succ]
          refine wpL_take (v := ?_) 2 rfl (by kernel_rfl) (fun _ _ _ h => h) (by rfl) ?_ HB.out ?_
          rotate_left
          focus
            intro w9 hw9
            go_simp
            try with_reducible rfl
          try simp only [Act.put, List.setIfInBounds_toArray, List.set_cons_zero, List.set_cons_succ]
          refine wpL_take (v := ?_) 3 rfl (by kernel_rfl) (fun _ _ _ h => h) (by rfl) ?_ HB.out ?_
          rotate_left
          focus
            intro w9 hw9
            go_simp
            try with_reducible rfl
          try simp only [Act.put, List.setIfInBounds_toArray, List.set_cons_zero, List.set_cons_succ]
          refine wpL_take (v := ?_) 4 rfl (by kernel_rfl) (fun _ _ _ h => h) (by rfl) ?_ HB.out ?_
          rotate_left
          focus
            intro w9 hw9
            go_simp
            try with_reducible rfl
          try simp only [Act.put, List.setIfInBounds_toArray, List.set_cons_zero, List.set_cons_succ]
          refine wpL_take (v := ?_) 6 rfl (by kernel_rfl) (fun _ _ _ h => h) (by rfl) ?_ HB.out ?_
          rotate_left
          focus
            intro w9 hw9
            go_simp
            try with_reducible rfl
          try simp only [Act.put, List.setIfInBounds_toArray, List.set_cons_zero, List.set_cons_succ]
          refine wpL_take (v := ?_) 7 rfl (by kernel_rfl) (fun _ _ _ h => h) (by rfl) ?_ HB.out ?_
          rotate_left
          focus
            intro w9 hw9
            go_simp
            try with_reducible rfl
          try simp only [Act.put, List.setIfInBounds_toArray, List.set_cons_zero, List.set_cons_succ]
          refine wpL_one 5 rfl (by kernel_rfl) (by rfl) ?_
          intro K hK
          go_simp
          refine (CS.out w1.drew (by simpa using hz1) (HO1.out.kept (Below.refl w1.heap.size w1).drew)).mono ?_
          rintro e w5 ⟨v5, rfl, hO5, hk5⟩
          dsimp only
          have hz5 := hk5.below.size
          have hS5 : w5.cell? ⟨w.heap.size, 3, none⟩ = some (.string s) := cell_keep5 hk5 HB.out HTy.out
          refine hK.out _ _ (fun _ => hS5) ?_
          try simp only [Act.put, List.setIfInBounds_toArray, List.set_cons_zero, List.set_cons_succ]
          refine wpL_one 8 rfl (by kernel_rfl) (by rfl) ?_
          intro K hK
          refine wp_appStr w5 (.tmp 28) (.tmp 30) rfl B v5 (bs ++ varB s.size) (by rfl) hO5 s (by rfl) (by simp; omega) (by simp at hz5; omega) ?_
          intro v6 w6 h6 h7
          have hS6 : w6.cell? ⟨w.heap.size, 3, none⟩ = some (.string s) := cell_keep5 h7 hS5 (type_keep5 hk5 HTy.out)
          refine hK.out _ _ (fun _ => hS6) ?_
          try simp only [Act.put, List.setIfInBounds_toArray, List.set_cons_zero, List.set_cons_succ]
          refine wpL_one 9 rfl (by kernel_rfl) (by rfl) ?_
          intro K hK
          go_simp
          refine hK.out _ _ (fun h => absurd rfl h) ?_
          try simp only [Act.put, List.setIfInBounds_toArray, List.set_cons_zero, List.set_cons_succ]
          refine wpL_done (by kernel_rfl) ?_ _
          refine NoPanic.normal ?_
          go_wp2
          go_ret
          exact ⟨_, rfl, by rw [HT.out, ← List.append_assoc]; exact h6, HK1.out.trans ((Keep5.refl B w1).drew.trans (hk5.trans h7))⟩
      · rw [if_neg h45] at HT
        have h4' : (k == 4) = false := by simp; omega
        have h5' : (k == 5) = false := by simp; omega
        clear CZ CV CS CF h2 h3 h45
        go_enter Tryz.func54, Tryz.ntmps54
        go_wp2
        go_ret
        exact ⟨_, rfl, by rw [HT.out, List.append_nil]; exact HO1.out, HK1.out⟩

end Go.Proofs.YteadniomgbhecaaGreatDoor
