/- The walk of readStep. slices.Clone of values. The walk of what each statement of layer 4 asks besides: the layer answers; and of the statement on Encode. -/
import Derived.Test.YtfknmblobcjapaaDoorGMInv4
import Derived.Test.YtfknmblobcjapaaDoorGWRvs
import Derived.Test.YtfknmblobcjapaaDoorGWOwnV
import Derived.Test.YtfknmblobcjapaaDoorGWREnc
namespace Go.Proofs.YtfknmblobcjapaaDoor
open Go.RowKit
set_option maxRecDepth 100000

set_option maxHeartbeats 8000000 in
theorem readStep_any (cs : List Cl) (p : Option Addr) (c next : Nat) (s : ByteArray) (w : World) (hR : RowC w w.heap.size p cs) (hcc : cs.length ≤ c) (hnx : next ≤ cs.length) (hn : cs.length ≤ 64) (hkd : ∀ c ∈ cs, 1 ≤ c.kd ∧ c.kd ≤ 5) (hs : s.size ≤ 65536) (hE : Env w) :
    Calls Tryd.prog 14 #[.slice p cs.length c, .int .i64 (next : Int), .string s] w (StepP (stepA cs next s) w) := by
  have hsf := run_store_float
  have C1 : Hid (∀ w1, Calls _ _ _ _ _) := fun w1 => readVarint_any s w1 (by omega)
  have HF : Hid (stepA cs next s = if (rdV s).2 = 0 ∨ cs.length - next ≤ (rdV s).1 then none else match rowR [cs.getD (next + (rdV s).1) zC] (s.extract (rdV s).2 s.size) with
  | none => none
  | some p => some (next + (rdV s).1, p.1.headD zV, (rdV s).2 + p.2)) := rfl
  generalize stepA cs next s = r at *
  have HR : Hid (RowC w w.heap.size p cs ∧ (∀ c ∈ cs, 1 ≤ c.kd ∧ c.kd ≤ 5) ∧ Env w) := ⟨hR, hkd, hE⟩
  have HK : Hid ((rdV s).2 ≤ s.size) := rdV_le s
  clear hR hkd hE
  go_enter Tryd.func14, Tryd.ntmps14
  go_wp2_with fail
  refine (C1.out _).mono ?_
  rintro e w2 ⟨n, k, b, rfl, hn64, hb, hw⟩
  rw [hw]
  clear hw C1
  have HBw : Hid (Below w.heap.size w w) := Below.refl _ _
  rcases hb with ⟨rfl, hv, hk⟩ | ⟨rfl, hv⟩
  · rw [hv] at HF HK
    have HK' : k ≤ s.size := HK.out
    clear HK
    have hwl : IntKind.u64.wrap ((cs.length : Int) - (next : Int)) = (cs.length : Int) - (next : Int) := by rw [show ∀ z : Int, IntKind.u64.wrap z = z % 18446744073709551616 from fun z => by simp [IntKind.wrap, IntKind.bits, IntKind.signed]]; omega
    by_cases hge : cs.length - next ≤ n
    · have HN : Hid (r = none) := by have := HF.out; rw [if_pos (.inr hge)] at this; exact this
      have a1 : (cs.length : Int) - (next : Int) ≤ (n : Int) := by omega
      clear HF
      go_wp2_with fail
      refine bodyPost_ret (v := .tuple #[.int .i64 0, zV.val, .int .i64 0, .bool false]) (by simp [results, Tryd.results14, go_sem, zV, Vl.val, go_sem]) rfl ?_
      exact StepP.no rfl HN.out (by go_grown; all_goals exact HBw.out)
    · have a1 : ¬ ((cs.length : Int) - (next : Int) ≤ (n : Int)) := by omega
      obtain ⟨col, hcol⟩ : ∃ col : Nat, next + n = col := ⟨_, rfl⟩
      have hcl : col < cs.length := by omega
      have HF2 : Hid (r = match rowR [cs[col]] (s.extract k s.size) with
        | none => none
        | some p => some (col, p.1.headD zV, k + p.2)) := by
        have := HF.out
        rw [if_neg (by dsimp only; omega)] at this
        dsimp only at this
        rw [hcol, List.getD_eq_getElem?_getD, List.getElem?_eq_getElem hcl] at this
        exact this
      clear HF hv
      obtain ⟨b, o, rfl, hR1⟩ := HR.out.1.one col hcl
      have hbz : Below w.heap.size w (w.alloc (.cells #[.int .i64 0, .int .i64 0, .float .f64 0, .string ⟨#[]⟩] 44)).drew := by go_grown
      have hsz : (s.extract k s.size).size ≤ 65536 := by rw [ByteArray.size_extract]; omega
      have C2 : Hid (Calls _ _ _ _ _) := readRow_any [cs[col]] (some ⟨b, o + col * 7, none⟩) (c - col) (s.extract k s.size) (w.alloc (.cells #[.int .i64 0, .int .i64 0, .float .f64 0, .string ⟨#[]⟩] 44)).drew ((hR1.keep hbz).mono hbz.size) (by simp) (by simp) (fun d hd => by simp at hd; subst hd; exact HR.out.2.1 _ (List.getElem_mem _)) hsz (HR.out.2.2.on hbz)
      have HR1 : Hid (∀ L k3, rowR [cs[col]] (s.extract k s.size) = some (L, k3) → ∃ v, L = [v] ∧ k3 ≤ s.size - k) := fun L k3 h => by
        obtain ⟨v, h1, h2⟩ := rowR_one (HR.out.2.1 _ (List.getElem_mem _)) hsz h
        rw [ByteArray.size_extract] at h2
        exact ⟨v, h1, by omega⟩
      clear hR1 HR hsz
      generalize rowR [cs[col]] (s.extract k s.size) = rr at *
      have hwn : IntKind.i64.wrap (n : Int) = (n : Int) := by rw [IntKind.wrap_i64]; (try unfold wrap64); omega
      have hci : (next : Int) + (n : Int) = (col : Int) := by omega
      obtain ⟨c1, hc1⟩ : ∃ c1 : Nat, col + 1 = c1 := ⟨_, rfl⟩
      have hw1 : IntKind.i64.wrap ((col : Int) + 1) = (c1 : Int) := by rw [IntKind.wrap_i64]; (try unfold wrap64); omega
      have hcc2 : (c1 : Int) ≤ (c : Int) := by omega
      have hcc4 : col ≤ c1 := by omega
      have hcc5 : c1 - col = 1 := by omega
      have hcc3 : ¬ (c = col) := by omega
      have hks : (k : Int) ≤ (s.size : Int) := by omega
      dsimp only [List.length_cons, List.length_nil] at C2
      clear hcol hc1
      go_wp2_with fail
      refine wp_region_any (by kernel_rfl) ?_
      change wpAny _ _ _ _ _ _ _ (World.drew _)
      refine anyN_take (v := ?_) 0 rfl (by kernel_rfl) (by kernel_rfl) (by kernel_rfl) (fun _ _ _ h => h) (Or.inl ⟨by rfl, ?_⟩) ?_
      rotate_left
      focus
        intro w9
        go_simp
        try with_reducible rfl
      try simp only [Act.put, List.setIfInBounds_toArray, List.set_cons_zero, List.set_cons_succ]
      refine anyN_take (v := ?_) 1 rfl (by kernel_rfl) (by kernel_rfl) (by kernel_rfl) (fun _ _ _ h => h) (Or.inl ⟨by rfl, ?_⟩) ?_
      rotate_left
      focus
        intro w9
        go_simp
        try with_reducible rfl
      try simp only [Act.put, List.setIfInBounds_toArray, List.set_cons_zero, List.set_cons_succ]
      refine anyN_take (v := ?_) 2 rfl (by kernel_rfl) (by kernel_rfl) (by kernel_rfl) (fun _ _ _ h => h) (Or.inl ⟨by rfl, ?_⟩) ?_
      rotate_left
      focus
        intro w9
        go_simp
        try with_reducible rfl
      try simp only [Act.put, List.setIfInBounds_toArray, List.set_cons_zero, List.set_cons_succ]
      refine anyN_take (v := ?_) 3 rfl (by kernel_rfl) (by kernel_rfl) (by kernel_rfl) (fun _ _ _ h => h) (Or.inl ⟨by rfl, ?_⟩) ?_
      rotate_left
      focus
        intro w9
        go_simp
        try with_reducible rfl
      try simp only [Act.put, List.setIfInBounds_toArray, List.set_cons_zero, List.set_cons_succ]
      refine anyN_take (v := ?_) 4 rfl (by kernel_rfl) (by kernel_rfl) (by kernel_rfl) (fun _ _ _ h => h) (Or.inl ⟨by rfl, ?_⟩) ?_
      rotate_left
      focus
        intro w9
        go_simp
        try with_reducible rfl
      try simp only [Act.put, List.setIfInBounds_toArray, List.set_cons_zero, List.set_cons_succ]
      refine anyN_take (v := ?_) 5 rfl (by kernel_rfl) (by kernel_rfl) (by kernel_rfl) (fun _ _ _ h => h) (Or.inl ⟨by rfl, ?_⟩) ?_
      rotate_left
      focus
        intro w9
        go_simp
        try with_reducible rfl
      try simp only [Act.put, List.setIfInBounds_toArray, List.set_cons_zero, List.set_cons_succ]
      refine anyN_take (v := ?_) 6 rfl (by kernel_rfl) (by kernel_rfl) (by kernel_rfl) (fun _ _ _ h => h) (Or.inl ⟨by rfl, ?_⟩) ?_
      rotate_left
      focus
        intro w9
        go_simp
        try with_reducible rfl
      try simp only [Act.put, List.setIfInBounds_toArray, List.set_cons_zero, List.set_cons_succ]
      refine anyN_take (v := ?_) 7 rfl (by kernel_rfl) (by kernel_rfl) (by kernel_rfl) (fun _ _ _ h => h) (Or.inl ⟨by rfl, ?_⟩) ?_
      rotate_left
      focus
        intro w9
        go_simp
        try with_reducible rfl
      try simp only [Act.put, List.setIfInBounds_toArray, List.set_cons_zero, List.set_cons_succ]
      refine wpAny_ready (rs := [8]) (by kernel_rfl) (by simp) ?_
      refine anyN_cons 8 rfl (by rfl) (fun K hK => ?_) AllReady.nil
      go_simp
      refine C2.out.mono ?_
      rintro e w3 ⟨v3, k3, b3, rfl, hr3, hb3⟩
      dsimp only
      refine hK.out _ _ ?_
      clear hK K
      try simp only [Act.put, List.setIfInBounds_toArray, List.set_cons_zero, List.set_cons_succ]
      refine anyN_take (v := ?_) 9 rfl (by kernel_rfl) (by kernel_rfl) (by kernel_rfl) (fun _ _ _ h => h) (Or.inl ⟨by rfl, ?_⟩) ?_
      rotate_left
      focus
        intro w9
        go_simp
        try with_reducible rfl
      try simp only [Act.put, List.setIfInBounds_toArray, List.set_cons_zero, List.set_cons_succ]
      refine anyN_take (v := ?_) 10 rfl (by kernel_rfl) (by kernel_rfl) (by kernel_rfl) (fun _ _ _ h => h) (Or.inl ⟨by rfl, ?_⟩) ?_
      rotate_left
      focus
        intro w9
        go_simp
        try with_reducible rfl
      try simp only [Act.put, List.setIfInBounds_toArray, List.set_cons_zero, List.set_cons_succ]
      refine anyN_take (v := ?_) 11 rfl (by kernel_rfl) (by kernel_rfl) (by kernel_rfl) (fun _ _ _ h => h) (Or.inl ⟨by rfl, ?_⟩) ?_
      rotate_left
      focus
        intro w9
        go_simp
        try with_reducible rfl
      try simp only [Act.put, List.setIfInBounds_toArray, List.set_cons_zero, List.set_cons_succ]
      refine anyN_take (v := ?_) 12 rfl (by kernel_rfl) (by kernel_rfl) (by kernel_rfl) (fun _ _ _ h => h) (Or.inl ⟨by rfl, ?_⟩) ?_
      rotate_left
      focus
        intro w9
        go_simp
        try with_reducible rfl
      try simp only [Act.put, List.setIfInBounds_toArray, List.set_cons_zero, List.set_cons_succ]
      refine wpAny_ready (rs := [13]) (by kernel_rfl) (by simp) ?_
      refine anyN_cons 13 rfl (by rfl) (fun K hK => ?_) AllReady.nil
      go_simp
      refine hK.out _ _ ?_
      clear hK K
      try simp only [Act.put, List.setIfInBounds_toArray, List.set_cons_zero, List.set_cons_succ]
      refine wpAny_ready (rs := [14]) (by kernel_rfl) (by simp) ?_
      refine anyN_cons 14 rfl (by rfl) (fun K hK => ?_) AllReady.nil
      go_simp
      refine hK.out _ _ ?_
      clear hK K
      try simp only [Act.put, List.setIfInBounds_toArray, List.set_cons_zero, List.set_cons_succ]
      refine wpAny_ready (rs := [15]) (by kernel_rfl) (by simp) ?_
      refine anyN_cons 15 rfl (by rfl) (fun K hK => ?_) AllReady.nil
      go_simp
      refine hK.out _ _ ?_
      clear hK K
      try simp only [Act.put, List.setIfInBounds_toArray, List.set_cons_zero, List.set_cons_succ]
      refine wpAny_done (by kernel_rfl) ?_ _
      have hbz3 : Below (w.alloc (.cells #[.int .i64 0, .int .i64 0, .float .f64 0, .string ⟨#[]⟩] 44)).heap.size (w.alloc (.cells #[.int .i64 0, .int .i64 0, .float .f64 0, .string ⟨#[]⟩] 44)) w3 := ⟨hb3.os, hb3.tape, hb3.output, hb3.size, hb3.block⟩
      obtain ⟨⟨z0, z1, z2, z3⟩, y0, y1, y2, y3⟩ := vz w w3 _ rfl hbz3
      have HBw3 : Hid (Below w.heap.size w w3) := hbz.trans (hb3.mono (by simp))
      rcases hr3 with ⟨rfl, L, hrr, hown⟩ | ⟨rfl, hrr⟩
      · obtain ⟨y, rfl, hk3⟩ := HR1.out L k3 hrr
        have HY : Hid (r = some (col, y, k + k3)) := by have := HF2.out; rw [hrr] at this; exact this
        rcases hown.form with ⟨_, h⟩ | ⟨g3, cap3, rfl, hg3, hg3'⟩
        · cases h
        obtain ⟨⟨x0, x1, x2, x3⟩, _⟩ := hown.at rfl 0 (by simp)
        simp only [List.getElem_cons_zero, Nat.zero_mul, Nat.zero_add] at x0 x1 x2 x3
        clear hown hrr HF2 HR1 hb3 hbz3
        obtain ⟨yk, yn, yf, ys⟩ := y
        have hwk : IntKind.i64.wrap ((k : Int) + (k3 : Int)) = (k : Int) + (k3 : Int) := by rw [IntKind.wrap_i64]; (try unfold wrap64); omega
        dsimp only at x0 x1 x2 x3
        simp only [List.length_cons, List.length_nil] at *
        go_wp2_with fail
        refine wp_region_any (by kernel_rfl) ?_
        change wpAny _ _ _ _ _ _ _ (World.drew _)
        refine anyN_take (v := ?_) 0 rfl (by kernel_rfl) (by kernel_rfl) (by kernel_rfl) (fun _ _ _ h => h) (Or.inl ⟨by rfl, ?_⟩) ?_
        rotate_left
        focus
          intro w9
          go_simp
          try with_reducible rfl
        try simp only [Act.put, List.setIfInBounds_toArray, List.set_cons_zero, List.set_cons_succ]
        refine anyN_take (v := ?_) 1 rfl (by kernel_rfl) (by kernel_rfl) (by kernel_rfl) (fun _ _ _ h => h) (Or.inl ⟨by rfl, ?_⟩) ?_
        rotate_left
        focus
          intro w9
          go_simp
          try with_reducible rfl
        try simp only [Act.put, List.setIfInBounds_toArray, List.set_cons_zero, List.set_cons_succ]
        refine anyN_take (v := ?_) 2 rfl (by kernel_rfl) (by kernel_rfl) (by kernel_rfl) (fun _ _ _ h => h) (Or.inl ⟨by rfl, ?_⟩) ?_
        rotate_left
        focus
          intro w9
          go_simp
          try with_reducible rfl
        try simp only [Act.put, List.setIfInBounds_toArray, List.set_cons_zero, List.set_cons_succ]
        refine anyN_take (v := ?_) 4 rfl (by kernel_rfl) (by kernel_rfl) (by kernel_rfl) (fun _ _ _ h => h) (Or.inl ⟨by rfl, ?_⟩) ?_
        rotate_left
        focus
          intro w9
          go_simp
          try with_reducible rfl
        try simp only [Act.put, List.setIfInBounds_toArray, List.set_cons_zero, List.set_cons_succ]
        refine anyN_take (v := ?_) 5 rfl (by kernel_rfl) (by kernel_rfl) (by kernel_rfl) (fun _ _ _ h => h) (Or.inl ⟨by rfl, ?_⟩) ?_
        rotate_left
        focus
          intro w9
          go_simp
          try with_reducible rfl
        try simp only [Act.put, List.setIfInBounds_toArray, List.set_cons_zero, List.set_cons_succ]
        refine anyN_take (v := ?_) 6 rfl (by kernel_rfl) (by kernel_rfl) (by kernel_rfl) (fun _ _ _ h => h) (Or.inl ⟨by rfl, ?_⟩) ?_
        rotate_left
        focus
          intro w9
          go_simp
          try with_reducible rfl
        try simp only [Act.put, List.setIfInBounds_toArray, List.set_cons_zero, List.set_cons_succ]
        refine anyN_take (v := ?_) 7 rfl (by kernel_rfl) (by kernel_rfl) (by kernel_rfl) (fun _ _ _ h => h) (Or.inl ⟨by rfl, ?_⟩) ?_
        rotate_left
        focus
          intro w9
          go_simp
          try with_reducible rfl
        try simp only [Act.put, List.setIfInBounds_toArray, List.set_cons_zero, List.set_cons_succ]
        refine wpAny_ready (rs := [3]) (by kernel_rfl) (by simp) ?_
        refine anyN_cons 3 rfl (by rfl) (fun K hK => ?_) AllReady.nil
        go_simp
        refine hK.out _ _ ?_
        clear hK K
        try simp only [Act.put, List.setIfInBounds_toArray, List.set_cons_zero, List.set_cons_succ]
        refine wpAny_ready (rs := [8]) (by kernel_rfl) (by simp) ?_
        refine anyN_cons 8 rfl (by rfl) (fun K hK => ?_) AllReady.nil
        go_simp
        refine hK.out _ _ ?_
        clear hK K
        try simp only [Act.put, List.setIfInBounds_toArray, List.set_cons_zero, List.set_cons_succ]
        refine wpAny_ready (rs := [9]) (by kernel_rfl) (by simp) ?_
        refine anyN_cons 9 rfl (by rfl) (fun K hK => ?_) AllReady.nil
        go_simp
        refine hK.out _ _ ?_
        clear hK K
        try simp only [Act.put, List.setIfInBounds_toArray, List.set_cons_zero, List.set_cons_succ]
        refine wpAny_ready (rs := [10]) (by kernel_rfl) (by simp) ?_
        refine anyN_cons 10 rfl (by rfl) (fun K hK => ?_) AllReady.nil
        go_simp
        refine hK.out _ _ ?_
        clear hK K
        try simp only [Act.put, List.setIfInBounds_toArray, List.set_cons_zero, List.set_cons_succ]
        refine wpAny_done (by kernel_rfl) ?_ _
        go_wp2_with fail
        refine bodyPost_ret (v := .tuple #[.int .i64 (col : Int), .agg #[.int .i64 yk, .int .i64 yn, .float .f64 yf, .string ys], .int .i64 ((k + k3 : Nat) : Int), .bool true]) (by simp [results, Tryd.results14, go_sem, z0, z1, z2, z3]) rfl ?_
        exact ⟨col, ⟨yk, yn, yf, ys⟩, k + k3, true, rfl, .inl ⟨rfl, HY.out⟩, by go_grown; all_goals exact HBw3.out⟩
      · have HN : Hid (r = none) := by have := HF2.out; rw [hrr] at this; exact this
        clear HF2 HR1 hrr hb3 hbz3 HBw
        have HBw := HBw3
        go_wp2_with fail
        refine bodyPost_ret (v := .tuple #[.int .i64 0, zV.val, .int .i64 0, .bool false]) (by simp [results, Tryd.results14, go_sem, zV, Vl.val, z0, z1, z2, z3]) rfl ?_
        exact StepP.no rfl HN.out (by go_grown; all_goals exact HBw.out)
  · have HN : Hid (r = none) := by have := HF.out; rw [if_pos (.inl hv)] at this; exact this
    clear HF
    go_wp2_with fail
    refine bodyPost_ret (v := .tuple #[.int .i64 0, zV.val, .int .i64 0, .bool false]) (by simp [results, Tryd.results14, go_sem, zV, Vl.val, go_sem]) rfl ?_
    exact StepP.no rfl HN.out (by go_grown; all_goals exact HBw.out)

end Go.Proofs.YtfknmblobcjapaaDoor

namespace Go.Proofs.YtfknmblobcjapaaDoor
open Go.RowKit
set_option maxRecDepth 100000

theorem RowV.cells {w : World} {B b o : Nat} {L : List Vl} (h : RowV w B (some ⟨b, o, none⟩) L) : ∀ j y, (vcells L)[j]? = some y → w.cell? ((⟨b, o, none⟩ : Addr).add j) = some y := by
  intro j y hj
  have hl : j < L.length * 4 := by have := (List.getElem?_eq_some_iff.1 hj).1; rw [vcells_len] at this; exact this
  have e : (⟨b, o, none⟩ : Addr).add j = ⟨b, o + j, none⟩ := by unfold Addr.add; split <;> simp_all
  rw [e]
  have hi : j / 4 < L.length := by omega
  obtain ⟨b', o', e', _, c0, c1, c2, c3⟩ := h (j / 4) hi
  injection e' with e'
  injection e' with e1 e2
  subst e1 e2
  have h4 : j % 4 = 0 ∨ j % 4 = 1 ∨ j % 4 = 2 ∨ j % 4 = 3 := by omega
  rcases h4 with e | e | e | e
  · have ej : j = j / 4 * 4 + 0 := by omega
    rw [ej, vcell_at L _ hi 0 (by decide)] at hj
    rw [show o + j = o + j / 4 * 4 by omega, c0]
    exact hj
  · have ej : j = j / 4 * 4 + 1 := by omega
    rw [ej, vcell_at L _ hi 1 (by decide)] at hj
    rw [show o + j = o + j / 4 * 4 + 1 by omega, c1]
    exact hj
  · have ej : j = j / 4 * 4 + 2 := by omega
    rw [ej, vcell_at L _ hi 2 (by decide)] at hj
    rw [show o + j = o + j / 4 * 4 + 2 by omega, c2]
    exact hj
  · have ej : j = j / 4 * 4 + 3 := by omega
    rw [ej, vcell_at L _ hi 3 (by decide)] at hj
    rw [show o + j = o + j / 4 * 4 + 3 by omega, c3]
    exact hj
theorem vcells_one (L : List Vl) : ∀ y ∈ vcells L, y.oneCell' = true := by
  intro y hy
  simp only [vcells, List.mem_flatMap, vcell] at hy
  obtain ⟨r, _, h⟩ := hy
  simp at h
  rcases h with rfl | rfl | rfl | rfl <;> rfl

set_option maxHeartbeats 2000000 in
theorem clone4_any (L : List Vl) (b o : Nat) (c : Nat) (w : World) (hR : RowV w w.heap.size (some ⟨b, o, none⟩) L) (hlen : L.length ≤ 64) (h1 : 1 ≤ L.length) :
    Calls Tryd.prog 13 #[.slice (some ⟨b, o, none⟩) L.length c] w fun e w' => (∃ g cap, e = .returned (.slice (some ⟨g, 0, none⟩) L.length cap) ∧ OwnV w' w.heap.size (.slice (some ⟨g, 0, none⟩) L.length cap) L) ∧ Below w.heap.size w w' := by
  have HR : Hid (RowV _ _ _ _) := hR
  clear hR
  go_enter Tryd.func13, Tryd.ntmps13
  have hnil := fun w1 : World => Lib.run_eql_slice_nil (P := Tryd.prog) w1 28 44 (some ⟨b, o, none⟩) L.length c 0 0 Tryd.underlying28
  simp only [Option.isNone_some] at hnil
  obtain ⟨i, hi, hz0, hz1, hz2⟩ := info_parts info_val
  go_wp2_with (first | (at_builtin; refine wpList_append_own _ rfl (.tmp 5) (.tmp 6) 28 rfl w.heap.size 44 i (.agg #[.int .i64 0, .int .i64 0, .float .f64 0, .string ⟨#[]⟩]) 4 40 Tryd.underlying28 hi hz0 hz1 hz2 rfl (by decide) _ 0 [] rfl ?own ⟨b, o, none⟩ L.length c (vcells L) rfl (vcells_len L) ?cells (vcells_one L) ?mx ?byt ?base ?_))
  case own => exact World.ownsRow_lit w #[] 0 (Nat.le_refl _) (Nat.zero_le _) rfl
  case cells => exact (HR.out.keep ((Below.refl _ _).alloc (Nat.le_refl _) _)).cells
  case mx => unfold maxLen; omega
  case byt => omega
  case base => simp
  intro v1 w1 h1' h2 h9
  have hown : OwnV w1 w.heap.size v1 L := by
    unfold OwnV
    simpa using h1'
  have hb : Below w.heap.size w w1 := ((Below.refl _ _).alloc (Nat.le_refl _) _).grown h2 (by simp) (fun k hk => by simp [Value.ownBlock] at hk; omega)
  clear h1' h2 h9
  rcases hown.form with ⟨_, h⟩ | ⟨g, cap, rfl, _, _⟩
  · rw [h] at h1; simp at h1
  go_wp2
  go_ret
  exact ⟨⟨g, cap, rfl, hown⟩, hb⟩

end Go.Proofs.YtfknmblobcjapaaDoor

namespace Go.Proofs.YtfknmblobcjapaaDoor
open Go.RowKit
set_option maxRecDepth 100000

def c4a : Cl := ⟨⟨#[97]⟩, 2, false, ⟨0, 0, 0, ⟨#[]⟩⟩⟩
def c4b : Cl := ⟨⟨#[98]⟩, 4, true, ⟨0, 0, 0, ⟨#[]⟩⟩⟩
def T4 : Tb := ⟨⟨#[116]⟩, [c4a, c4b], [0], [], []⟩
def v4a : Vl := ⟨2, 5, 0, ⟨#[]⟩⟩
def v4b : Vl := ⟨4, 0, 0, ⟨#[97]⟩⟩
theorem T4_ok : T4.ok := by
  refine ⟨by decide, by decide, ?_, by decide, by decide, (fun _ h => by cases h), by decide, (fun _ h => by cases h)⟩
  intro c hc
  have e : c = c4a ∨ c = c4b := by simpa [T4] using hc
  rcases e with rfl | rfl
  · exact ⟨by decide, ⟨by decide, by decide⟩, ⟨by decide, by decide⟩, by decide, by decide⟩
  · exact ⟨by decide, ⟨by decide, by decide⟩, ⟨by decide, by decide⟩, by decide, by decide⟩
theorem v4_ok : ∀ v ∈ [v4a, v4b], v.ok := by
  intro v hv
  have e : v = v4a ∨ v = v4b := by simpa using hv
  rcases e with rfl | rfl
  · exact ⟨⟨by decide, by decide⟩, ⟨by decide, by decide⟩, by decide, by decide⟩
  · exact ⟨⟨by decide, by decide⟩, ⟨by decide, by decide⟩, by decide, by decide⟩
theorem enc4 : encR T4 [v4a, v4b] = ([5, 10, 1, 97], 0) := by decide +kernel

set_option maxHeartbeats 4000000 in
theorem small4_any (w : World) : Calls Tryd.prog 17 #[] w fun e w' => ∃ a : TabP, e = .returned (a.val T4) ∧ TabV w' w'.heap.size T4 a ∧ Below w.heap.size w w' := by
  have hsf := run_store_float
  go_enter Tryd.func17, Tryd.ntmps17
  go_wp2
  refine bodyPost_ret (v := (⟨some ⟨w.heap.size + 1, 0, none⟩, 2, some ⟨w.heap.size + 1 + 1, 0, none⟩, 1, none, 0, none, 0⟩ : TabP).val T4) (by simp [results, Tryd.results17, go_sem, TabP.val, T4]) rfl ?_
  refine ⟨_, rfl, ⟨?_, ?_, fun _ h => absurd h (by simp [T4]), fun _ h => absurd h (by simp [T4]), Nat.le_refl 2, Nat.le_refl 0⟩, by go_grown⟩
  · intro i hi
    have hi0 : i = 0 ∨ i = 1 := by
      have : i < 2 := by simpa [T4] using hi
      omega
    rcases hi0 with rfl | rfl
    · refine ⟨w.heap.size + 1, 0, rfl, by simp, ?_, ?_, ?_, ?_, ?_, ?_, ?_⟩ <;> simp [go_sem, T4, c4a]
    · refine ⟨w.heap.size + 1, 0, rfl, by simp, ?_, ?_, ?_, ?_, ?_, ?_, ?_⟩ <;> simp [go_sem, T4, c4b]
  · intro i hi
    have hi0 : i = 0 := by simpa [T4] using hi
    subst hi0
    refine ⟨w.heap.size + 1 + 1, 0, rfl, by simp, ?_⟩
    simp [go_sem, T4]

set_option maxHeartbeats 4000000 in
theorem awake4 (w : World) (hE : Env w) : Calls Tryd.prog 7 #[] w fun e w' => e = .returned (.bool true) ∧ Below w.heap.size w w' := by
  have C1 : Hid (∀ w1 : World, Calls Tryd.prog 17 #[] w1 fun e w' => ∃ a : TabP, e = .returned (a.val T4) ∧ TabV w' w'.heap.size T4 a ∧ Below w1.heap.size w1 w') := fun w1 => small4_any w1
  have C2 : Hid (∀ (a : TabP) (p : Option Addr) (c : Nat) (w1 : World), Below w.heap.size w w1 → TabV w1 w1.heap.size T4 a → RowV w1 w1.heap.size p [v4a, v4b] → Calls Tryd.prog 16 #[a.val T4, .slice p 2 c] w1 fun e w' => e = .returned (.tuple #[.string ⟨#[5, 10, 1, 97]⟩, .int .i64 0]) ∧ Below w1.heap.size w1 w') := fun a p c w1 hb h h2 => by
    have h3 := rowEncode_any T4 a [v4a, v4b] p c w1 h T4_ok h2 v4_ok (by decide) (hE.on hb)
    rw [enc4] at h3
    exact h3
  clear hE
  go_enter Tryd.func7, Tryd.ntmps7
  go_wp2_with fail
  refine (C1.out _).mono ?_
  rintro e w1 ⟨a1, rfl, hV1, hb1⟩
  go_wp2_with fail
  have hba : Below w1.heap.size w1 (w1.alloc (.cells #[.int .i64 2, .int .i64 5, .float .f64 0, .string ⟨#[]⟩, .int .i64 4, .int .i64 0, .float .f64 0, .string ⟨#[97]⟩] 44)) := by go_grown
  have h02 : Below w.heap.size w (w1.alloc (.cells #[.int .i64 2, .int .i64 5, .float .f64 0, .string ⟨#[]⟩, .int .i64 4, .int .i64 0, .float .f64 0, .string ⟨#[97]⟩] 44)) := hb1.trans (hba.mono hb1.size)
  refine (C2.out a1 (some ⟨w1.heap.size, 0, none⟩) 2 _ h02 (hV1.on hba) ?_).mono ?_
  · intro i hi
    have hi0 : i = 0 ∨ i = 1 := by
      have : i < 2 := by simpa using hi
      omega
    rcases hi0 with rfl | rfl
    · refine ⟨w1.heap.size, 0, rfl, by simp, ?_, ?_, ?_, ?_⟩ <;> simp [go_sem, v4a]
    · refine ⟨w1.heap.size, 0, rfl, by simp, ?_, ?_, ?_, ?_⟩ <;> simp [go_sem, v4b]
  rintro e w3 ⟨rfl, hb3⟩
  go_wp2
  go_ret
  exact ⟨rfl, h02.trans (hb3.mono h02.size)⟩



end Go.Proofs.YtfknmblobcjapaaDoor
