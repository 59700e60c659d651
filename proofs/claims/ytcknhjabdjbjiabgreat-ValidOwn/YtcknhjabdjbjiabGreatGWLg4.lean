/- cmp.Or of three; beginsBehind; covers; firstIn: the stamp of the first commit between two stamps that wrote a point of some spans. covers: whether a point is in one of a normal foot's spans. -/
import Derived.Test.YtcknhjabdjbjiabGreatGMLg
namespace Go.Proofs.YtcknhjabdjbjiabGreat
open Go.RowKit
set_option maxRecDepth 100000

def or3 (a b c : Int) : Int := if (a != 0) = true then a else if (b != 0) = true then b else c
theorem or3_first (V : List Int) (h3 : V.length = 3) (j : Nat) (hj : j < V.length) (h0 : ∀ k (hk : k < V.length), k < j → V[k] = 0) (hv : V[j] ≠ 0) : or3 V[0] V[1] V[2] = V[j] := by
  unfold or3
  have hj3 : j = 0 ∨ j = 1 ∨ j = 2 := by omega
  rcases hj3 with rfl | rfl | rfl
  · rw [if_pos (by simpa using hv)]
  · rw [if_neg (by simpa using h0 0 (by omega) (by omega)), if_pos (by simpa using hv)]
  · rw [if_neg (by simpa using h0 0 (by omega) (by omega)), if_neg (by simpa using h0 1 (by omega) (by omega))]
theorem or3_zero (V : List Int) (h3 : V.length = 3) (h0 : ∀ k (hk : k < V.length), V[k] = 0) : or3 V[0] V[1] V[2] = 0 := by
  unfold or3
  rw [h0 0 (by omega), h0 1 (by omega), h0 2 (by omega)]
  rfl
set_option maxHeartbeats 2000000 in
theorem cmpOr_any (V : List Int) (a b c : Int) (hV : V = [a, b, c]) (g : Nat) (w : World) (h : ∀ k (hk : k < V.length), w.cell? ⟨g, k, none⟩ = some (.int .i64 V[k])) :
    Calls Tryz.prog 71 #[.slice (some ⟨g, 0, none⟩) 3 3] w fun e w' => e = .returned (.int .i64 (or3 a b c)) ∧ w' = w := by
  have HF : Hid (∀ j (hj : j < V.length), (∀ k (hk : k < V.length), k < j → V[k] = 0) → V[j] ≠ 0 → or3 a b c = V[j]) := fun j hj h0 hv => by subst hV; exact or3_first [a, b, c] rfl j hj h0 hv
  have HZ : Hid ((∀ k (hk : k < V.length), V[k] = 0) → or3 a b c = 0) := fun h0 => by subst hV; exact or3_zero [a, b, c] rfl h0
  have HC : Hid (∀ k (hk : k < V.length), w.cell? ⟨g, k, none⟩ = some (.int .i64 V[k])) := h
  have H3 : Hid (V.length = 3) := by rw [hV]; rfl
  clear h hV
  generalize or3 a b c = r at *
  go_enter Tryz.func71, Tryz.ntmps71
  go_wp2_with fail
  go_loopw [8] (fun i wr => ∃ j : Nat, j ≤ 3 ∧ i = .int .i64 (j : Int) ∧ Hid (∀ k (hk : k < V.length), k < j → V[k] = 0) ∧ wr = w) (fun i _ => 3 - (intOf i).toNat)
  case atStart => exact ⟨0, by omega, by go_num, fun k hk h => absurd h (by omega), rfl⟩
  case round =>
    obtain ⟨j, hj, rfl, H0, rfl⟩ := hrel
    by_cases hj3 : j = 3
    · subst hj3
      have HR : Hid (r = 0) := HZ.out (fun k hk => H0.out k hk (by have := H3.out; omega))
      clear H0 HF HZ
      go_wp2_with fail
      go_ret
      exact ⟨by rw [HR.out]; rfl, rfl⟩
    · have hj1 : j < 3 := by omega
      have hjl : j < V.length := by have := H3.out; omega
      have c0 := HC.out j hjl
      have HFj : Hid (V[j] ≠ 0 → r = V[j]) := HF.out j hjl H0.out
      have HS : Hid (V[j] = 0 → ∀ k (hk : k < V.length), k < j + 1 → V[k] = 0) := fun hv k hk hkj => by
        rcases Nat.lt_or_ge k j with h | h
        · exact H0.out k hk h
        · have : k = j := by omega
          subst this
          exact hv
      clear H0 HF HZ
      generalize V[j] = x at *
      cases hx : (x != 0)
      · have HS2 : Hid (∀ k (hk : k < V.length), k < j + 1 → V[k] = 0) := HS.out (by simpa using hx)
        have hx0 : x = 0 := by simpa using hx
        subst hx0
        clear hx HS HFj
        go_wp2_with fail
        go_roundw
        case rel => exact ⟨j + 1, by omega, by go_num, HS2.out, by trivial⟩
        case measure => simp [intOf]; omega
      · have HR : Hid (r = x) := HFj.out (by simpa using hx)
        clear HS HFj
        go_wp2_with fail
        go_ret
        exact ⟨by rw [HR.out]; rfl, rfl⟩

theorem or3_cmpP (s : Sp) (x : Pt) : or3 (cmpI s.t x.t) (cmpI s.i x.i) (Lib.compareBytes s.lo.data.toList x.k.data.toList) = cmpP (bgn s) x := rfl
theorem cmpP_gt (a b : Pt) : decide (0 < cmpP a b) = ltP b a := by
  rw [Bool.eq_iff_iff, decide_eq_true_eq, ltP_iff]
  rcases cmpP_spec a b with ⟨e, h⟩ | ⟨e, h⟩ | ⟨e, h⟩
  · refine ⟨fun h => by omega, fun h' => ?_⟩
    exfalso
    have h1 := (ltP_iff a b).2 h
    have h2 := (ltP_iff b a).2 h'
    rw [ltP_asymm h1] at h2
    cases h2
  · subst h
    refine ⟨fun h => by omega, fun h' => ?_⟩
    exfalso
    have h2 := (ltP_iff a a).2 h'
    rw [ltP_irrefl] at h2
    cases h2
  · refine ⟨fun _ => ?_, fun _ => by omega⟩
    rcases h with h | ⟨h1, h | ⟨h2, h⟩⟩
    · exact .inl h
    · exact .inr ⟨h1.symm, .inl h⟩
    · exact .inr ⟨h1.symm, .inr ⟨h2.symm, h⟩⟩
set_option maxHeartbeats 4000000 in
theorem beginsBehind_any (s : Sp) (x : Pt) (w : World) :
    Calls Tryz.prog 57 #[.agg #[.int .i64 s.t, .int .i64 s.i, .string s.lo, .string s.hi, .bool s.op], PV x] w fun e w' => e = .returned (.bool (ltP x (bgn s))) ∧ Below w.heap.size w w' := by
  have CA : Hid (∀ w1 : World, Calls _ _ _ _ _) := fun w1 => compareI_any s.t x.t w1
  have CB : Hid (∀ w1 : World, Calls _ _ _ _ _) := fun w1 => compareI_any s.i x.i w1
  have CC : Hid (∀ w1 : World, Calls _ _ _ _ _) := fun w1 => strCmp_any s.lo x.k w1
  have HR : Hid (decide (0 < or3 (cmpI s.t x.t) (cmpI s.i x.i) (Lib.compareBytes s.lo.data.toList x.k.data.toList)) = ltP x (bgn s)) := by show _ = _; rw [or3_cmpP, cmpP_gt]
  obtain ⟨w2, hw2⟩ : ∃ w2, ((w.alloc (.cells #[.int .i64 s.t, .int .i64 s.i, .string s.lo, .string s.hi, .bool s.op] 86)).alloc (.cells #[.int .i64 x.t, .int .i64 x.i, .string x.k] 36)) = w2 := ⟨_, rfl⟩
  have HB2 : Hid (Below w.heap.size w w2) := by rw [← hw2]; exact ((Below.refl _ _).alloc (Nat.le_refl _) _).alloc (by simp) _
  have HKA : Hid (Blk w2 w.heap.size #[.int .i64 s.t, .int .i64 s.i, .string s.lo, .string s.hi, .bool s.op] 86) := by rw [← hw2]; exact (Blk.new w _ _).keep (B := w.heap.size + 1) ((Below.refl _ _).alloc (by simp) _) (by omega)
  have HKB : Hid (Blk w2 (w.heap.size + 1) #[.int .i64 x.t, .int .i64 x.i, .string x.k] 36) := by
    rw [← hw2]
    have h := Blk.new (w.alloc (.cells #[.int .i64 s.t, .int .i64 s.i, .string s.lo, .string s.hi, .bool s.op] 86)) #[.int .i64 x.t, .int .i64 x.i, .string x.k] 36
    rw [World.size_alloc] at h
    exact h
  generalize cmpI s.t x.t = r1 at *
  generalize cmpI s.i x.i = r2 at *
  generalize Lib.compareBytes s.lo.data.toList x.k.data.toList = r3 at *
  go_enter Tryz.func57, Tryz.ntmps57
  go_upto_region 1 with fail
  clear hw2
  refine wp_region_L (fun w' => Below w2.heap.size w2 w') 19 (by kernel_rfl) ?_
  have HBwd : Hid (Below w2.heap.size w2 w2.drew) := (Below.refl _ _).drew
  generalize w2.drew = wd at *
  refine wpL_take (v := ?_) 0 rfl (by kernel_rfl) (fun _ _ _ h => h) (by rfl) ?_ HBwd.out ?_
  rotate_left
  focus
    intro w9 hw9
    have a0 := (HKA.out.on hw9).cell (i := 0) rfl
    have a1 := (HKA.out.on hw9).cell (i := 1) rfl
    have a2 := (HKA.out.on hw9).cell (i := 2) rfl
    have b0 := (HKB.out.on hw9).cell (i := 0) rfl
    have b1 := (HKB.out.on hw9).cell (i := 1) rfl
    have b2 := (HKB.out.on hw9).cell (i := 2) rfl
    go_simp
    try with_reducible rfl
  try simp only [Act.put, List.setIfInBounds_toArray, List.set_cons_zero, List.set_cons_succ]
  refine wpL_take (v := ?_) 1 rfl (by kernel_rfl) (fun _ _ _ h => h) (by rfl) ?_ HBwd.out ?_
  rotate_left
  focus
    intro w9 hw9
    have a0 := (HKA.out.on hw9).cell (i := 0) rfl
    have a1 := (HKA.out.on hw9).cell (i := 1) rfl
    have a2 := (HKA.out.on hw9).cell (i := 2) rfl
    have b0 := (HKB.out.on hw9).cell (i := 0) rfl
    have b1 := (HKB.out.on hw9).cell (i := 1) rfl
    have b2 := (HKB.out.on hw9).cell (i := 2) rfl
    go_simp
    try with_reducible rfl
  try simp only [Act.put, List.setIfInBounds_toArray, List.set_cons_zero, List.set_cons_succ]
  refine wpL_take (v := ?_) 2 rfl (by kernel_rfl) (fun _ _ _ h => h) (by rfl) ?_ HBwd.out ?_
  rotate_left
  focus
    intro w9 hw9
    have a0 := (HKA.out.on hw9).cell (i := 0) rfl
    have a1 := (HKA.out.on hw9).cell (i := 1) rfl
    have a2 := (HKA.out.on hw9).cell (i := 2) rfl
    have b0 := (HKB.out.on hw9).cell (i := 0) rfl
    have b1 := (HKB.out.on hw9).cell (i := 1) rfl
    have b2 := (HKB.out.on hw9).cell (i := 2) rfl
    go_simp
    try with_reducible rfl
  try simp only [Act.put, List.setIfInBounds_toArray, List.set_cons_zero, List.set_cons_succ]
  refine wpL_take (v := ?_) 3 rfl (by kernel_rfl) (fun _ _ _ h => h) (by rfl) ?_ HBwd.out ?_
  rotate_left
  focus
    intro w9 hw9
    have a0 := (HKA.out.on hw9).cell (i := 0) rfl
    have a1 := (HKA.out.on hw9).cell (i := 1) rfl
    have a2 := (HKA.out.on hw9).cell (i := 2) rfl
    have b0 := (HKB.out.on hw9).cell (i := 0) rfl
    have b1 := (HKB.out.on hw9).cell (i := 1) rfl
    have b2 := (HKB.out.on hw9).cell (i := 2) rfl
    go_simp
    try with_reducible rfl
  try simp only [Act.put, List.setIfInBounds_toArray, List.set_cons_zero, List.set_cons_succ]
  refine wpL_take (v := ?_) 5 rfl (by kernel_rfl) (fun _ _ _ h => h) (by rfl) ?_ HBwd.out ?_
  rotate_left
  focus
    intro w9 hw9
    have a0 := (HKA.out.on hw9).cell (i := 0) rfl
    have a1 := (HKA.out.on hw9).cell (i := 1) rfl
    have a2 := (HKA.out.on hw9).cell (i := 2) rfl
    have b0 := (HKB.out.on hw9).cell (i := 0) rfl
    have b1 := (HKB.out.on hw9).cell (i := 1) rfl
    have b2 := (HKB.out.on hw9).cell (i := 2) rfl
    go_simp
    try with_reducible rfl
  try simp only [Act.put, List.setIfInBounds_toArray, List.set_cons_zero, List.set_cons_succ]
  refine wpL_take (v := ?_) 6 rfl (by kernel_rfl) (fun _ _ _ h => h) (by rfl) ?_ HBwd.out ?_
  rotate_left
  focus
    intro w9 hw9
    have a0 := (HKA.out.on hw9).cell (i := 0) rfl
    have a1 := (HKA.out.on hw9).cell (i := 1) rfl
    have a2 := (HKA.out.on hw9).cell (i := 2) rfl
    have b0 := (HKB.out.on hw9).cell (i := 0) rfl
    have b1 := (HKB.out.on hw9).cell (i := 1) rfl
    have b2 := (HKB.out.on hw9).cell (i := 2) rfl
    go_simp
    try with_reducible rfl
  try simp only [Act.put, List.setIfInBounds_toArray, List.set_cons_zero, List.set_cons_succ]
  refine wpL_take (v := ?_) 7 rfl (by kernel_rfl) (fun _ _ _ h => h) (by rfl) ?_ HBwd.out ?_
  rotate_left
  focus
    intro w9 hw9
    have a0 := (HKA.out.on hw9).cell (i := 0) rfl
    have a1 := (HKA.out.on hw9).cell (i := 1) rfl
    have a2 := (HKA.out.on hw9).cell (i := 2) rfl
    have b0 := (HKB.out.on hw9).cell (i := 0) rfl
    have b1 := (HKB.out.on hw9).cell (i := 1) rfl
    have b2 := (HKB.out.on hw9).cell (i := 2) rfl
    go_simp
    try with_reducible rfl
  try simp only [Act.put, List.setIfInBounds_toArray, List.set_cons_zero, List.set_cons_succ]
  refine wpL_take (v := ?_) 8 rfl (by kernel_rfl) (fun _ _ _ h => h) (by rfl) ?_ HBwd.out ?_
  rotate_left
  focus
    intro w9 hw9
    have a0 := (HKA.out.on hw9).cell (i := 0) rfl
    have a1 := (HKA.out.on hw9).cell (i := 1) rfl
    have a2 := (HKA.out.on hw9).cell (i := 2) rfl
    have b0 := (HKB.out.on hw9).cell (i := 0) rfl
    have b1 := (HKB.out.on hw9).cell (i := 1) rfl
    have b2 := (HKB.out.on hw9).cell (i := 2) rfl
    go_simp
    try with_reducible rfl
  try simp only [Act.put, List.setIfInBounds_toArray, List.set_cons_zero, List.set_cons_succ]
  refine wpL_take (v := ?_) 10 rfl (by kernel_rfl) (fun _ _ _ h => h) (by rfl) ?_ HBwd.out ?_
  rotate_left
  focus
    intro w9 hw9
    have a0 := (HKA.out.on hw9).cell (i := 0) rfl
    have a1 := (HKA.out.on hw9).cell (i := 1) rfl
    have a2 := (HKA.out.on hw9).cell (i := 2) rfl
    have b0 := (HKB.out.on hw9).cell (i := 0) rfl
    have b1 := (HKB.out.on hw9).cell (i := 1) rfl
    have b2 := (HKB.out.on hw9).cell (i := 2) rfl
    go_simp
    try with_reducible rfl
  try simp only [Act.put, List.setIfInBounds_toArray, List.set_cons_zero, List.set_cons_succ]
  refine wpL_take (v := ?_) 11 rfl (by kernel_rfl) (fun _ _ _ h => h) (by rfl) ?_ HBwd.out ?_
  rotate_left
  focus
    intro w9 hw9
    have a0 := (HKA.out.on hw9).cell (i := 0) rfl
    have a1 := (HKA.out.on hw9).cell (i := 1) rfl
    have a2 := (HKA.out.on hw9).cell (i := 2) rfl
    have b0 := (HKB.out.on hw9).cell (i := 0) rfl
    have b1 := (HKB.out.on hw9).cell (i := 1) rfl
    have b2 := (HKB.out.on hw9).cell (i := 2) rfl
    go_simp
    try with_reducible rfl
  try simp only [Act.put, List.setIfInBounds_toArray, List.set_cons_zero, List.set_cons_succ]
  refine wpL_take (v := ?_) 12 rfl (by kernel_rfl) (fun _ _ _ h => h) (by rfl) ?_ HBwd.out ?_
  rotate_left
  focus
    intro w9 hw9
    have a0 := (HKA.out.on hw9).cell (i := 0) rfl
    have a1 := (HKA.out.on hw9).cell (i := 1) rfl
    have a2 := (HKA.out.on hw9).cell (i := 2) rfl
    have b0 := (HKB.out.on hw9).cell (i := 0) rfl
    have b1 := (HKB.out.on hw9).cell (i := 1) rfl
    have b2 := (HKB.out.on hw9).cell (i := 2) rfl
    go_simp
    try with_reducible rfl
  try simp only [Act.put, List.setIfInBounds_toArray, List.set_cons_zero, List.set_cons_succ]
  refine wpL_take (v := ?_) 13 rfl (by kernel_rfl) (fun _ _ _ h => h) (by rfl) ?_ HBwd.out ?_
  rotate_left
  focus
    intro w9 hw9
    have a0 := (HKA.out.on hw9).cell (i := 0) rfl
    have a1 := (HKA.out.on hw9).cell (i := 1) rfl
    have a2 := (HKA.out.on hw9).cell (i := 2) rfl
    have b0 := (HKB.out.on hw9).cell (i := 0) rfl
    have b1 := (HKB.out.on hw9).cell (i := 1) rfl
    have b2 := (HKB.out.on hw9).cell (i := 2) rfl
    go_simp
    try with_reducible rfl
  try simp only [Act.put, List.setIfInBounds_toArray, List.set_cons_zero, List.set_cons_succ]
  refine wpL_take (v := ?_) 14 rfl (by kernel_rfl) (fun _ _ _ h => h) (by rfl) ?_ HBwd.out ?_
  rotate_left
  focus
    intro w9 hw9
    have a0 := (HKA.out.on hw9).cell (i := 0) rfl
    have a1 := (HKA.out.on hw9).cell (i := 1) rfl
    have a2 := (HKA.out.on hw9).cell (i := 2) rfl
    have b0 := (HKB.out.on hw9).cell (i := 0) rfl
    have b1 := (HKB.out.on hw9).cell (i := 1) rfl
    have b2 := (HKB.out.on hw9).cell (i := 2) rfl
    go_simp
    try with_reducible rfl
  try simp only [Act.put, List.setIfInBounds_toArray, List.set_cons_zero, List.set_cons_succ]
  refine wpL_one 4 rfl (by kernel_rfl) (by rfl) ?_
  intro K hK
  go_simp
  refine (CA.out wd).mono ?_
  rintro e w5 ⟨rfl, h5⟩
  obtain rfl := h5.symm
  dsimp only
  refine hK.out _ _ (fun _ => HBwd.out) ?_
  clear hK K
  try simp only [Act.put, List.setIfInBounds_toArray, List.set_cons_zero, List.set_cons_succ]
  refine wpL_one 9 rfl (by kernel_rfl) (by rfl) ?_
  intro K hK
  go_simp
  refine (CB.out wd).mono ?_
  rintro e w5 ⟨rfl, h5⟩
  obtain rfl := h5.symm
  dsimp only
  refine hK.out _ _ (fun _ => HBwd.out) ?_
  clear hK K
  try simp only [Act.put, List.setIfInBounds_toArray, List.set_cons_zero, List.set_cons_succ]
  refine wpL_one 15 rfl (by kernel_rfl) (by rfl) ?_
  intro K hK
  go_simp
  refine (CC.out wd).mono ?_
  rintro e w5 ⟨rfl, h5⟩
  obtain rfl := h5.symm
  dsimp only
  refine hK.out _ _ (fun _ => HBwd.out) ?_
  clear hK K
  try simp only [Act.put, List.setIfInBounds_toArray, List.set_cons_zero, List.set_cons_succ]
  refine wpL_one 16 rfl (by kernel_rfl) (by rfl) ?_
  intro K hK
  go_simp
  have HBwu : Hid (Below w2.heap.size w2 (wd.alloc (.cells #[.int .i64 r1, .int .i64 r2, .int .i64 r3] 3))) := HBwd.out.alloc HBwd.out.size _
  have HZ : Hid (Blk (wd.alloc (.cells #[.int .i64 r1, .int .i64 r2, .int .i64 r3] 3)) wd.heap.size #[.int .i64 r1, .int .i64 r2, .int .i64 r3] 3) := Blk.new wd _ _
  refine hK.out _ _ (fun _ => HBwu.out) ?_
  clear hK K
  generalize wd.alloc (.cells #[.int .i64 r1, .int .i64 r2, .int .i64 r3] 3) = wu at *
  try simp only [Act.put, List.setIfInBounds_toArray, List.set_cons_zero, List.set_cons_succ]
  refine wpL_one 17 rfl (by kernel_rfl) (by rfl) ?_
  intro K hK
  have CO : Hid (Calls _ _ _ _ _) := cmpOr_any [r1, r2, r3] r1 r2 r3 rfl wd.heap.size wu (fun k hk => by
    have hk3 : k = 0 ∨ k = 1 ∨ k = 2 := by simp at hk; omega
    rcases hk3 with rfl | rfl | rfl
    · exact HZ.out.cell (i := 0) rfl
    · exact HZ.out.cell (i := 1) rfl
    · exact HZ.out.cell (i := 2) rfl)
  go_simp
  refine CO.out.mono ?_
  rintro e w5 ⟨rfl, h5⟩
  obtain rfl := h5.symm
  dsimp only
  refine hK.out _ _ (fun _ => HBwu.out) ?_
  clear hK K CO
  try simp only [Act.put, List.setIfInBounds_toArray, List.set_cons_zero, List.set_cons_succ]
  refine wpL_take (v := ?_) 18 rfl (by kernel_rfl) (fun _ _ _ h => h) (by rfl) ?_ HBwu.out ?_
  rotate_left
  focus
    intro w9 hw9

    go_simp
    try with_reducible rfl
  try simp only [Act.put, List.setIfInBounds_toArray, List.set_cons_zero, List.set_cons_succ]
  refine wpL_one 19 rfl (by kernel_rfl) (by rfl) ?_
  intro K hK
  go_simp
  refine hK.out _ _ (fun h => absurd rfl h) ?_
  clear hK K
  try simp only [Act.put, List.setIfInBounds_toArray, List.set_cons_zero, List.set_cons_succ]
  refine wpL_done (by kernel_rfl) ?_ _
  try simp only [NoPanic]
  have HE : Hid (Below w.heap.size w wu) := HB2.out.trans (HBwu.out.mono HB2.out.size)
  go_wp2_with fail
  go_ret
  exact ⟨by rw [← HR.out]; rfl, HE.out⟩

end Go.Proofs.YtcknhjabdjbjiabGreat

namespace Go.Proofs.YtcknhjabdjbjiabGreat
open Go.RowKit
set_option maxRecDepth 100000

def atB (U : List Sp) (x : Pt) : Nat → Bool
  | 0 => false
  | j + 1 => if h : j < U.length then inS x U[j] else false
theorem SepS.look2 {U : List Sp} (hs : SepS U) (x : Pt) (i : Nat) (hi : i ≤ U.length) (h1 : ∀ k (hk : k < U.length), k < i → ltP x (bgn U[k]) = false) (h2 : ∀ k (hk : k < U.length), i ≤ k → ltP x (bgn U[k]) = true) :
    anyS U x = atB U x i := by
  unfold atB
  rw [Bool.eq_iff_iff, anyS_iff]
  constructor
  · rintro ⟨s, hm, hx⟩
    obtain ⟨k, hk, rfl⟩ := List.getElem_of_mem hm
    have h4 := inS_ge hx
    by_cases hki : i ≤ k
    · rw [h2 k hk hki] at h4
      cases h4
    · cases i with
      | zero => omega
      | succ j =>
        have hj : j < U.length := by omega
        have e : k = j := by
          rcases Nat.lt_or_eq_of_le (show k ≤ j by omega) with h | h
          · exfalso
            have h5 := apS_not (List.pairwise_iff_getElem.1 hs.2 k j hk hj h) (h1 j hj (by omega))
            rw [hx] at h5
            cases h5
          · exact h
        subst e
        simp only [hj, dif_pos]
        exact hx
  · intro h
    cases i with
    | zero => cases h
    | succ j =>
      have hj : j < U.length := by omega
      simp only [hj, dif_pos] at h
      exact ⟨U[j], List.getElem_mem _, h⟩
theorem look_mono {U : List Sp} (hs : SepS U) (x : Pt) (i j : Nat) (hij : i ≤ j) (hj : j < U.length) (h : ltP x (bgn (U[i]'(by omega))) = true) : ltP x (bgn U[j]) = true := by
  rcases Nat.lt_or_eq_of_le hij with h5 | h5
  · exact ltP_trans h (apS_lt (List.pairwise_iff_getElem.1 hs.2 i j (by omega) hj h5) (hs.1 _ (List.getElem_mem _)))
  · subst h5; exact h
set_option maxHeartbeats 2000000 in
theorem coversf_any (sb pb i : Nat) (v : Value) (U : List Sp) (x : Pt) (w : World) (hU : SlS w v U) (hx : Blk w sb #[v] 25) (hp : Blk w pb #[.int .i64 x.t, .int .i64 x.i, .string x.k] 36) (hi : i < U.length) :
    Calls Tryz.prog 56 #[.int .i64 (i : Nat), ptr1 sb, ptr1 pb] w fun e w' => e = .returned (.bool (ltP x (bgn U[i]))) ∧ Below w.heap.size w w' := by
  obtain ⟨p, c, rfl, h1, h2, h3⟩ := hU.f
  obtain ⟨b, o, rfl, hb, d0, d1, d2, d3, d4⟩ := h3 i hi
  have CB : Hid (∀ q : InB w, Calls Tryz.prog 57 #[.agg #[.int .i64 U[i].t, .int .i64 U[i].i, .string U[i].lo, .string U[i].hi, .bool U[i].op], .agg #[.int .i64 x.t, .int .i64 x.i, .string x.k]] q.w' fun e w' => e = .returned (.bool (ltP x (bgn U[i]))) ∧ Below q.w'.heap.size q.w' w') := fun q => beginsBehind_any U[i] x q.w'
  have g0 := InB.cell (w := w) (hx.cell (i := 0) rfl) hx.lt
  have g1 := InB.cell (w := w) (hp.cell (i := 0) rfl) hp.lt
  have g2 := InB.cell (w := w) (hp.cell (i := 1) rfl) hp.lt
  have g3 := InB.cell (w := w) (hp.cell (i := 2) rfl) hp.lt
  have e0 := InB.cell (w := w) d0 hb
  have e1 := InB.cell (w := w) d1 hb
  have e2 := InB.cell (w := w) d2 hb
  have e3 := InB.cell (w := w) d3 hb
  have e4 := InB.cell (w := w) d4 hb
  have ne1 := inB_ne w
  clear hU h3 h2 d0 d1 d2 d3 d4 hx hp
  generalize U[i] = s at *
  generalize U.length = n at *
  clear h1
  go_enter Tryz.func56, Tryz.ntmps56
  go_wp2_with fail
  refine wp_region_inB (by kernel_rfl) (by kernel_rfl) ?_
  repeat (go_big_quiet_step (first | (go_at_call 57; exact Calls.inB (CB.out _))))
  refine wpQuiet_nil ?_
  rintro w7 ⟨⟨w8, hb7⟩, h9⟩
  obtain rfl : w7 = w8 := h9
  go_wp2_with fail
  go_ret
  exact ⟨rfl, hb7⟩
theorem SlS.one {w : World} {b o c n i : Nat} {U : List Sp} (h : SlS w (.slice (some ⟨b, o, none⟩) n c) U) (hi : i < U.length) : SlS w (.slice (some ⟨b, o + i * 5, none⟩) 1 (c - i)) [U[i]] := by
  obtain ⟨p, c', e, h1, h2, h3⟩ := h.f
  cases e
  refine ⟨_, _, rfl, (by simp; omega), (fun h => by cases h), ?_⟩
  intro j hj
  have hj0 : j = 0 := by simp at hj; omega
  subst hj0
  obtain ⟨b', o', e2, hb, d⟩ := h3 i hi
  cases e2
  refine ⟨b, o + i * 5, rfl, hb, ?_⟩
  simpa using d
set_option maxHeartbeats 4000000 in
theorem vcovers_any (U : List Sp) (x : Pt) (v : Value) (w : World) (hU : SlS w v U) (hs : SepS U) (hl : U.length ≤ 65536) :
    Calls Tryz.prog 42 #[v, PV x] w fun e w' => e = .returned (.bool (anyS U x)) ∧ Below w.heap.size w w' := by
  obtain ⟨p, c, rfl, h1, h2, h3⟩ := hU.f
  obtain ⟨n, hn⟩ : ∃ n, U.length = n := ⟨_, rfl⟩
  obtain ⟨w2, hw2⟩ : ∃ w2, ((w.alloc (.cells #[.slice p n c] 25)).alloc (.cells #[.int .i64 x.t, .int .i64 x.i, .string x.k] 36)) = w2 := ⟨_, rfl⟩
  have HB2 : Hid (Below w.heap.size w w2) := by rw [← hw2]; exact ((Below.refl _ _).alloc (Nat.le_refl _) _).alloc (by simp) _
  have HKA : Hid (Blk w2 w.heap.size #[.slice p n c] 25) := by rw [← hw2]; exact (Blk.new w _ _).keep (B := w.heap.size + 1) ((Below.refl _ _).alloc (by simp) _) (by omega)
  have HKB : Hid (Blk w2 (w.heap.size + 1) #[.int .i64 x.t, .int .i64 x.i, .string x.k] 36) := by
    rw [← hw2]
    have h := Blk.new (w.alloc (.cells #[.slice p n c] 25)) #[.int .i64 x.t, .int .i64 x.i, .string x.k] 36
    rw [World.size_alloc] at h
    exact h
  have HU : Hid (SlS w (.slice p n c) U) := by rw [← hn]; exact hU
  have HS : Hid (SepS U) := hs
  have HN : Hid (U.length = n) := hn
  have CS : Hid (Calls _ _ _ _ _) := search2_any 56 (ptr1 w.heap.size) (ptr1 (w.heap.size + 1)) (fun i => if hi : i < U.length then ltP x (bgn U[i]) else true) n w2 (fun _ _ => rfl) (by omega)
    (fun i j hij hj hp => by
      have hi : i < U.length := by omega
      have hj' : j < U.length := by omega
      rw [dif_pos hi] at hp
      rw [dif_pos hj']
      exact look_mono hs x i j hij hj' hp)
    (fun i w1 hi hb => by
      have hi' : i < U.length := by omega
      rw [dif_pos hi']
      exact coversf_any _ _ i _ U x w1 ((HU.out.on HB2.out).on hb) (HKA.out.on hb) (HKB.out.on hb) hi')
  rw [hn] at h1 ⊢
  have g0 := HKA.out.cell (i := 0) rfl
  clear hU hs h3 hn
  go_enter Tryz.func42, Tryz.ntmps42
  go_wp2_with fail
  clear g0 hw2
  refine CS.out.mono ?_
  rintro e w3 ⟨r, rfl, hr, hr1, hr2, hb3⟩
  clear CS
  have HL : Hid (anyS U x = atB U x r) := HS.out.look2 x r (by have := HN.out; omega) (fun k hk hkr => by
    have := hr1 k hkr
    rw [dif_pos hk] at this
    exact this) (fun k hk hkr => by
    have := hr2 k hkr (by have := HN.out; omega)
    rw [dif_pos hk] at this
    exact this)
  have HB3 : Hid (Below w.heap.size w w3) := HB2.out.trans (hb3.mono HB2.out.size)
  have HKA3 : Hid (Blk w3 w.heap.size #[.slice p n c] 25) := HKA.out.on hb3
  have HKB3 : Hid (Blk w3 (w.heap.size + 1) #[.int .i64 x.t, .int .i64 x.i, .string x.k] 36) := HKB.out.on hb3
  clear hr1 hr2 hb3 HKA HKB HB2
  have g0 := InB.cell (w := w3) (HKA3.out.cell (i := 0) rfl) HKA3.out.lt
  have g1 := InB.cell (w := w3) (HKB3.out.cell (i := 0) rfl) HKB3.out.lt
  have g2 := InB.cell (w := w3) (HKB3.out.cell (i := 1) rfl) HKB3.out.lt
  have g3 := InB.cell (w := w3) (HKB3.out.cell (i := 2) rfl) HKB3.out.lt
  have ne1 := inB_ne w3
  cases r with
  | zero =>
    have HA : Hid (anyS U x = false) := HL.out
    clear HL
    go_wp2_with fail
    refine wp_region_inB (by kernel_rfl) (by kernel_rfl) ?_
    repeat (go_big_quiet_step (first | (go_at_call 58; fail)))
    refine wpQuiet_nil ?_
    rintro w7 ⟨⟨w8, hb7⟩, h9⟩
    obtain rfl : w7 = w8 := h9
    go_wp2_with fail
    go_ret
    exact ⟨by rw [HA.out]; rfl, HB3.out.trans (hb7.mono HB3.out.size)⟩
  | succ m =>
    have hm : m < U.length := by have := HN.out; omega
    have HA : Hid (anyS U x = inS x U[m]) := by
      have := HL.out
      simp only [atB, hm, dif_pos] at this
      exact this
    obtain ⟨p', c', e, _, _, h3⟩ := (HU.out.on HB3.out).f
    cases e
    obtain ⟨b, o, rfl, hb, -⟩ := h3 m hm
    have HO : Hid (SlS w3 (.slice (some ⟨b, o + m * 5, none⟩) 1 (c - m)) [U[m]]) := SlS.one (HU.out.on HB3.out) hm
    have CR : Hid (∀ q : InB w3, Calls Tryz.prog 58 #[.agg #[.slice none 0 0, .slice (some ⟨b, o + m * 5, none⟩) 1 (c - m), .slice none 0 0], .agg #[.int .i64 x.t, .int .i64 x.i, .string x.k]] q.w' fun e w' => e = .returned (.bool (inS x U[m])) ∧ Below q.w'.heap.size q.w' w') := fun q => by
      have := reads_any ⟨[], [U[m]], []⟩ x (.slice none 0 0) (.slice (some ⟨b, o + m * 5, none⟩) 1 (c - m)) (.slice none 0 0) q.w' ⟨(OwnP.nil q.w' 0).sl, HO.out.on q.h, (OwnP.nil q.w' 0).sl, by simp, by simp, by simp⟩
      simp [rdsB] at this
      exact this
    clear HL h3
    generalize inS x U[m] = ans at *
    obtain ⟨M, hM⟩ : ∃ M : Int, ((m + 1 : Nat) : Int) = M := ⟨_, rfl⟩
    have hM0 : 0 < M := by omega
    have hM1 : IntKind.i64.wrap (M - 1) = (m : Int) := by rw [IntKind.wrap_i64]; omega
    have hM2 : (m : Int) ≤ M := by omega
    have hM3 : M ≤ (c : Int) := by omega
    have hM4 : M.toNat = m + 1 := by omega
    have hcm : ¬ c = m := by omega
    go_wp2_with fail
    refine wp_region_inB (by kernel_rfl) (by kernel_rfl) ?_
    repeat (go_big_quiet_step (first | (go_at_call 58; exact Calls.inB (CR.out _))))
    refine wpQuiet_nil ?_
    rintro w7 ⟨⟨w8, hb7⟩, h9⟩
    obtain rfl : w7 = w8 := h9
    go_wp2_with fail
    go_ret
    exact ⟨by rw [HA.out]; rfl, HB3.out.trans (hb7.mono HB3.out.size)⟩

end Go.Proofs.YtcknhjabdjbjiabGreat
