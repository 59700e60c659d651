/- Layer 19: edges compared, sorted. Layer 19: edges. -/
import Derived.Test.YtncfejndmlcidaaGreatGWEdP
namespace Go.Proofs.YtncfejndmlcidaaGreat
open Go.Shelf Go.Lib Go.Sort
open Go.RowKit hiding Below
open Go.RowKit (Below)
set_option maxRecDepth 100000

theorem grow_belowE {B : Nat} {w0 w : World} (h : Below B w0 w) (os : Array Obj) (hB : B ≤ w.heap.size) : Below B w0 (grow w os) :=
  ⟨h.os, h.tape, h.output, by have := h.size; simp [grow]; omega, fun k hk => by
    rw [← h.block k hk]
    simp only [grow]
    rw [Array.getElem?_append_left (by omega)]⟩
/-- draws and blocks behind a world -/
def GrO (w w' : World) : Prop := ∃ q os, w' = grow (w.drewN q) os
theorem GrO.below {w w' : World} (h : GrO w w') : Below w.heap.size w w' := by
  obtain ⟨q, os, rfl⟩ := h
  exact grow_belowE (w0 := w) (w := w.drewN q) ⟨rfl, rfl, rfl, Nat.le_refl _, fun _ _ => rfl⟩ os (Nat.le_refl _)
theorem GrO.refl (w : World) : GrO w w := ⟨0, #[], by simp [grow, World.drewN]⟩
theorem GrO.drew {w w' : World} (h : GrO w w') : GrO w w'.drew := by
  obtain ⟨q, os, rfl⟩ := h
  exact ⟨q + 1, os, rfl⟩
theorem GrO.alloc {w w' : World} (h : GrO w w') (o : Obj) : GrO w (w'.alloc o) := by
  obtain ⟨q, os, rfl⟩ := h
  exact ⟨q, _, by rw [alloc_eq_grow, grow_grow]⟩
theorem GrO.trans {w w1 w2 : World} (h1 : GrO w w1) (h2 : GrO w1 w2) : GrO w w2 := by
  obtain ⟨q, os, rfl⟩ := h1
  obtain ⟨q', os', rfl⟩ := h2
  refine ⟨q + q', os ++ os', ?_⟩
  have e : (grow (w.drewN q) os).drewN q' = grow (w.drewN (q + q')) os := by
    simp [grow, World.drewN, Nat.add_assoc]
  rw [e, grow_grow]
theorem or3_first (V : List Int) (h3 : V.length = 3) (j : Nat) (hj : j < V.length) (h0 : ∀ k (hk : k < V.length), k < j → V[k] = 0) (hv : V[j] ≠ 0) : or3 V[0] V[1] V[2] = V[j] := by
  unfold or3
  have hj3 : j = 0 ∨ j = 1 ∨ j = 2 := by omega
  rcases hj3 with rfl | rfl | rfl
  · rw [if_pos (by simpa using hv)]
  · rw [if_neg (by simpa using h0 0 (by omega) (by omega)), if_pos (by simpa using hv)]
  · rw [if_neg (by simpa using h0 0 (by omega) (by omega)), if_neg (by simpa using h0 1 (by omega) (by omega))]
theorem or3_zero (V : List Int) (h3 : V.length = 3) (h0 : ∀ k (hk : k < V.length), V[k] = 0) : or3 V[0] V[1] V[2] = 0 := by
  unfold or3
  rw [h0 0 (by omega), h0 1 (by omega), h0 2 (by omega)]
  rfl
set_option maxHeartbeats 2000000 in
theorem cmpOr_any (V : List Int) (a b c : Int) (hV : V = [a, b, c]) (g : Nat) (w : World) (h : ∀ k (hk : k < V.length), w.cell? ⟨g, k, none⟩ = some (.int .i64 V[k])) :
    Calls Tryz.prog 78 #[.slice (some ⟨g, 0, none⟩) 3 3] w fun e w' => e = .returned (.int .i64 (or3 a b c)) ∧ w' = w := by
  have HF : Hid (∀ j (hj : j < V.length), (∀ k (hk : k < V.length), k < j → V[k] = 0) → V[j] ≠ 0 → or3 a b c = V[j]) := fun j hj h0 hv => by subst hV; exact or3_first [a, b, c] rfl j hj h0 hv
  have HZ : Hid ((∀ k (hk : k < V.length), V[k] = 0) → or3 a b c = 0) := fun h0 => by subst hV; exact or3_zero [a, b, c] rfl h0
  have HC : Hid (∀ k (hk : k < V.length), w.cell? ⟨g, k, none⟩ = some (.int .i64 V[k])) := h
  have H3 : Hid (V.length = 3) := by rw [hV]; rfl
  clear h hV
  generalize or3 a b c = r at *
  go_enter Tryz.func78, Tryz.ntmps78
  go_wp2_with fail
  go_loopw [8] (fun i wr => ∃ j : Nat, j ≤ 3 ∧ i = .int .i64 (j : Int) ∧ Hid (∀ k (hk : k < V.length), k < j → V[k] = 0) ∧ wr = w) (fun i _ => 3 - (intOf i).toNat)
  case atStart => exact ⟨0, by omega, by go_num, fun k hk h => absurd h (by omega), rfl⟩
  case round =>
    obtain ⟨j, hj, rfl, H0, rfl⟩ := hrel
    by_cases hj3 : j = 3
    · subst hj3
      have HR : Hid (r = 0) := HZ.out (fun k hk => H0.out k hk (by have := H3.out; omega))
      clear H0 HF HZ
      go_wp2_with fail
      go_ret
      exact ⟨by rw [HR.out]; rfl, rfl⟩
    · have hj1 : j < 3 := by omega
      have hjl : j < V.length := by have := H3.out; omega
      have c0 := HC.out j hjl
      have HFj : Hid (V[j] ≠ 0 → r = V[j]) := HF.out j hjl H0.out
      have HS : Hid (V[j] = 0 → ∀ k (hk : k < V.length), k < j + 1 → V[k] = 0) := fun hv k hk hkj => by
        rcases Nat.lt_or_ge k j with h | h
        · exact H0.out k hk h
        · have : k = j := by omega
          subst this
          exact hv
      clear H0 HF HZ
      generalize V[j] = x at *
      cases hx : (x != 0)
      · have HS2 : Hid (∀ k (hk : k < V.length), k < j + 1 → V[k] = 0) := HS.out (by simpa using hx)
        have hx0 : x = 0 := by simpa using hx
        subst hx0
        clear hx HS HFj
        go_wp2_with fail
        go_roundw
        case rel => exact ⟨j + 1, by omega, by go_num, HS2.out, by trivial⟩
        case measure => simp [intOf]; omega
      · have HR : Hid (r = x) := HFj.out (by simpa using hx)
        clear HS HFj
        go_wp2_with fail
        go_ret
        exact ⟨by rw [HR.out]; rfl, rfl⟩
set_option maxHeartbeats 4000000 in
theorem edCmp_any (x y : Ed) (w : World) : Calls Tryz.prog 77 #[.agg #[natV x.to, natV x.kd, natV x.im], .agg #[natV y.to, natV y.kd, natV y.im]] w fun e w' => e = .returned (.int .i64 (cmpE x y)) ∧ GrO w w' := by
  have CA : Hid (∀ w1 : World, Calls Tryz.prog 70 #[.int .i64 (x.to : Nat), .int .i64 (y.to : Nat)] w1 fun e w' => e = .returned (.int .i64 (cmpI (x.to : Nat) (y.to : Nat))) ∧ w' = w1) := fun w1 => compareI_any _ _ w1
  have CB : Hid (∀ w1 : World, Calls Tryz.prog 70 #[.int .i64 (x.kd : Nat), .int .i64 (y.kd : Nat)] w1 fun e w' => e = .returned (.int .i64 (cmpI (x.kd : Nat) (y.kd : Nat))) ∧ w' = w1) := fun w1 => compareI_any _ _ w1
  have CC : Hid (∀ w1 : World, Calls Tryz.prog 70 #[.int .i64 (x.im : Nat), .int .i64 (y.im : Nat)] w1 fun e w' => e = .returned (.int .i64 (cmpI (x.im : Nat) (y.im : Nat))) ∧ w' = w1) := fun w1 => compareI_any _ _ w1
  unfold cmpE
  obtain ⟨w2, hw2⟩ : ∃ w2, ((w.alloc (.cells #[.int .i64 (x.to : Nat), .int .i64 (x.kd : Nat), .int .i64 (x.im : Nat)] 85)).alloc (.cells #[.int .i64 (y.to : Nat), .int .i64 (y.kd : Nat), .int .i64 (y.im : Nat)] 85)) = w2 := ⟨_, rfl⟩
  have HG2 : Hid (GrO w w2) := by rw [← hw2]; exact ((GrO.refl w).alloc _).alloc _
  have HKA : Hid (Blk w2 w.heap.size #[natV x.to, natV x.kd, natV x.im] 85) := by rw [← hw2]; exact (Blk.new w _ _).keep (B := w.heap.size + 1) ((Below.refl _ _).alloc (by simp) _) (by omega)
  have HKB : Hid (Blk w2 (w.heap.size + 1) #[natV y.to, natV y.kd, natV y.im] 85) := by
    rw [← hw2]
    have h := Blk.new (w.alloc (.cells #[.int .i64 (x.to : Nat), .int .i64 (x.kd : Nat), .int .i64 (x.im : Nat)] 85)) #[natV y.to, natV y.kd, natV y.im] 85
    rw [World.size_alloc] at h
    exact h
  generalize cmpI (x.to : Nat) (y.to : Nat) = r1 at *
  generalize cmpI (x.kd : Nat) (y.kd : Nat) = r2 at *
  generalize cmpI (x.im : Nat) (y.im : Nat) = r3 at *
  dsimp only [natV]
  go_enter Tryz.func77, Tryz.ntmps77
  go_upto_region 1 with fail
  clear hw2
  refine wp_region_L (fun w' => GrO w2 w') 99 (by kernel_rfl) ?_
  have HBwd : Hid (GrO w2 w2.drew) := (GrO.refl _).drew
  generalize w2.drew = wd at *
  refine wpL_take (v := ?_) 0 rfl (by kernel_rfl) (fun _ _ _ h => h) (by rfl) ?_ HBwd.out ?_
  rotate_left
  focus
    intro w9 hw9
    have a0 : w9.cell? ⟨w.heap.size, 0, none⟩ = some (.int .i64 (x.to : Nat)) := (HKA.out.on hw9.below).cell rfl
    have a1 : w9.cell? ⟨w.heap.size, 1, none⟩ = some (.int .i64 (x.kd : Nat)) := (HKA.out.on hw9.below).cell rfl
    have a2 : w9.cell? ⟨w.heap.size, 2, none⟩ = some (.int .i64 (x.im : Nat)) := (HKA.out.on hw9.below).cell rfl
    have b0 : w9.cell? ⟨w.heap.size + 1, 0, none⟩ = some (.int .i64 (y.to : Nat)) := (HKB.out.on hw9.below).cell rfl
    have b1 : w9.cell? ⟨w.heap.size + 1, 1, none⟩ = some (.int .i64 (y.kd : Nat)) := (HKB.out.on hw9.below).cell rfl
    have b2 : w9.cell? ⟨w.heap.size + 1, 2, none⟩ = some (.int .i64 (y.im : Nat)) := (HKB.out.on hw9.below).cell rfl
    go_simp
    try with_reducible rfl
  try simp only [Act.put, List.setIfInBounds_toArray, List.set_cons_zero, List.set_cons_succ]
  refine wpL_take (v := ?_) 1 rfl (by kernel_rfl) (fun _ _ _ h => h) (by rfl) ?_ HBwd.out ?_
  rotate_left
  focus
    intro w9 hw9
    have a0 : w9.cell? ⟨w.heap.size, 0, none⟩ = some (.int .i64 (x.to : Nat)) := (HKA.out.on hw9.below).cell rfl
    have a1 : w9.cell? ⟨w.heap.size, 1, none⟩ = some (.int .i64 (x.kd : Nat)) := (HKA.out.on hw9.below).cell rfl
    have a2 : w9.cell? ⟨w.heap.size, 2, none⟩ = some (.int .i64 (x.im : Nat)) := (HKA.out.on hw9.below).cell rfl
    have b0 : w9.cell? ⟨w.heap.size + 1, 0, none⟩ = some (.int .i64 (y.to : Nat)) := (HKB.out.on hw9.below).cell rfl
    have b1 : w9.cell? ⟨w.heap.size + 1, 1, none⟩ = some (.int .i64 (y.kd : Nat)) := (HKB.out.on hw9.below).cell rfl
    have b2 : w9.cell? ⟨w.heap.size + 1, 2, none⟩ = some (.int .i64 (y.im : Nat)) := (HKB.out.on hw9.below).cell rfl
    go_simp
    try with_reducible rfl
  try simp only [Act.put, List.setIfInBounds_toArray, List.set_cons_zero, List.set_cons_succ]
  refine wpL_take (v := ?_) 2 rfl (by kernel_rfl) (fun _ _ _ h => h) (by rfl) ?_ HBwd.out ?_
  rotate_left
  focus
    intro w9 hw9
    have a0 : w9.cell? ⟨w.heap.size, 0, none⟩ = some (.int .i64 (x.to : Nat)) := (HKA.out.on hw9.below).cell rfl
    have a1 : w9.cell? ⟨w.heap.size, 1, none⟩ = some (.int .i64 (x.kd : Nat)) := (HKA.out.on hw9.below).cell rfl
    have a2 : w9.cell? ⟨w.heap.size, 2, none⟩ = some (.int .i64 (x.im : Nat)) := (HKA.out.on hw9.below).cell rfl
    have b0 : w9.cell? ⟨w.heap.size + 1, 0, none⟩ = some (.int .i64 (y.to : Nat)) := (HKB.out.on hw9.below).cell rfl
    have b1 : w9.cell? ⟨w.heap.size + 1, 1, none⟩ = some (.int .i64 (y.kd : Nat)) := (HKB.out.on hw9.below).cell rfl
    have b2 : w9.cell? ⟨w.heap.size + 1, 2, none⟩ = some (.int .i64 (y.im : Nat)) := (HKB.out.on hw9.below).cell rfl
    go_simp
    try with_reducible rfl
  try simp only [Act.put, List.setIfInBounds_toArray, List.set_cons_zero, List.set_cons_succ]
  refine wpL_take (v := ?_) 3 rfl (by kernel_rfl) (fun _ _ _ h => h) (by rfl) ?_ HBwd.out ?_
  rotate_left
  focus
    intro w9 hw9
    have a0 : w9.cell? ⟨w.heap.size, 0, none⟩ = some (.int .i64 (x.to : Nat)) := (HKA.out.on hw9.below).cell rfl
    have a1 : w9.cell? ⟨w.heap.size, 1, none⟩ = some (.int .i64 (x.kd : Nat)) := (HKA.out.on hw9.below).cell rfl
    have a2 : w9.cell? ⟨w.heap.size, 2, none⟩ = some (.int .i64 (x.im : Nat)) := (HKA.out.on hw9.below).cell rfl
    have b0 : w9.cell? ⟨w.heap.size + 1, 0, none⟩ = some (.int .i64 (y.to : Nat)) := (HKB.out.on hw9.below).cell rfl
    have b1 : w9.cell? ⟨w.heap.size + 1, 1, none⟩ = some (.int .i64 (y.kd : Nat)) := (HKB.out.on hw9.below).cell rfl
    have b2 : w9.cell? ⟨w.heap.size + 1, 2, none⟩ = some (.int .i64 (y.im : Nat)) := (HKB.out.on hw9.below).cell rfl
    go_simp
    try with_reducible rfl
  try simp only [Act.put, List.setIfInBounds_toArray, List.set_cons_zero, List.set_cons_succ]
  refine wpL_take (v := ?_) 5 rfl (by kernel_rfl) (fun _ _ _ h => h) (by rfl) ?_ HBwd.out ?_
  rotate_left
  focus
    intro w9 hw9
    have a0 : w9.cell? ⟨w.heap.size, 0, none⟩ = some (.int .i64 (x.to : Nat)) := (HKA.out.on hw9.below).cell rfl
    have a1 : w9.cell? ⟨w.heap.size, 1, none⟩ = some (.int .i64 (x.kd : Nat)) := (HKA.out.on hw9.below).cell rfl
    have a2 : w9.cell? ⟨w.heap.size, 2, none⟩ = some (.int .i64 (x.im : Nat)) := (HKA.out.on hw9.below).cell rfl
    have b0 : w9.cell? ⟨w.heap.size + 1, 0, none⟩ = some (.int .i64 (y.to : Nat)) := (HKB.out.on hw9.below).cell rfl
    have b1 : w9.cell? ⟨w.heap.size + 1, 1, none⟩ = some (.int .i64 (y.kd : Nat)) := (HKB.out.on hw9.below).cell rfl
    have b2 : w9.cell? ⟨w.heap.size + 1, 2, none⟩ = some (.int .i64 (y.im : Nat)) := (HKB.out.on hw9.below).cell rfl
    go_simp
    try with_reducible rfl
  try simp only [Act.put, List.setIfInBounds_toArray, List.set_cons_zero, List.set_cons_succ]
  refine wpL_take (v := ?_) 6 rfl (by kernel_rfl) (fun _ _ _ h => h) (by rfl) ?_ HBwd.out ?_
  rotate_left
  focus
    intro w9 hw9
    have a0 : w9.cell? ⟨w.heap.size, 0, none⟩ = some (.int .i64 (x.to : Nat)) := (HKA.out.on hw9.below).cell rfl
    have a1 : w9.cell? ⟨w.heap.size, 1, none⟩ = some (.int .i64 (x.kd : Nat)) := (HKA.out.on hw9.below).cell rfl
    have a2 : w9.cell? ⟨w.heap.size, 2, none⟩ = some (.int .i64 (x.im : Nat)) := (HKA.out.on hw9.below).cell rfl
    have b0 : w9.cell? ⟨w.heap.size + 1, 0, none⟩ = some (.int .i64 (y.to : Nat)) := (HKB.out.on hw9.below).cell rfl
    have b1 : w9.cell? ⟨w.heap.size + 1, 1, none⟩ = some (.int .i64 (y.kd : Nat)) := (HKB.out.on hw9.below).cell rfl
    have b2 : w9.cell? ⟨w.heap.size + 1, 2, none⟩ = some (.int .i64 (y.im : Nat)) := (HKB.out.on hw9.below).cell rfl
    go_simp
    try with_reducible rfl
  try simp only [Act.put, List.setIfInBounds_toArray, List.set_cons_zero, List.set_cons_succ]
  refine wpL_take (v := ?_) 7 rfl (by kernel_rfl) (fun _ _ _ h => h) (by rfl) ?_ HBwd.out ?_
  rotate_left
  focus
    intro w9 hw9
    have a0 : w9.cell? ⟨w.heap.size, 0, none⟩ = some (.int .i64 (x.to : Nat)) := (HKA.out.on hw9.below).cell rfl
    have a1 : w9.cell? ⟨w.heap.size, 1, none⟩ = some (.int .i64 (x.kd : Nat)) := (HKA.out.on hw9.below).cell rfl
    have a2 : w9.cell? ⟨w.heap.size, 2, none⟩ = some (.int .i64 (x.im : Nat)) := (HKA.out.on hw9.below).cell rfl
    have b0 : w9.cell? ⟨w.heap.size + 1, 0, none⟩ = some (.int .i64 (y.to : Nat)) := (HKB.out.on hw9.below).cell rfl
    have b1 : w9.cell? ⟨w.heap.size + 1, 1, none⟩ = some (.int .i64 (y.kd : Nat)) := (HKB.out.on hw9.below).cell rfl
    have b2 : w9.cell? ⟨w.heap.size + 1, 2, none⟩ = some (.int .i64 (y.im : Nat)) := (HKB.out.on hw9.below).cell rfl
    go_simp
    try with_reducible rfl
  try simp only [Act.put, List.setIfInBounds_toArray, List.set_cons_zero, List.set_cons_succ]
  refine wpL_take (v := ?_) 8 rfl (by kernel_rfl) (fun _ _ _ h => h) (by rfl) ?_ HBwd.out ?_
  rotate_left
  focus
    intro w9 hw9
    have a0 : w9.cell? ⟨w.heap.size, 0, none⟩ = some (.int .i64 (x.to : Nat)) := (HKA.out.on hw9.below).cell rfl
    have a1 : w9.cell? ⟨w.heap.size, 1, none⟩ = some (.int .i64 (x.kd : Nat)) := (HKA.out.on hw9.below).cell rfl
    have a2 : w9.cell? ⟨w.heap.size, 2, none⟩ = some (.int .i64 (x.im : Nat)) := (HKA.out.on hw9.below).cell rfl
    have b0 : w9.cell? ⟨w.heap.size + 1, 0, none⟩ = some (.int .i64 (y.to : Nat)) := (HKB.out.on hw9.below).cell rfl
    have b1 : w9.cell? ⟨w.heap.size + 1, 1, none⟩ = some (.int .i64 (y.kd : Nat)) := (HKB.out.on hw9.below).cell rfl
    have b2 : w9.cell? ⟨w.heap.size + 1, 2, none⟩ = some (.int .i64 (y.im : Nat)) := (HKB.out.on hw9.below).cell rfl
    go_simp
    try with_reducible rfl
  try simp only [Act.put, List.setIfInBounds_toArray, List.set_cons_zero, List.set_cons_succ]
  refine wpL_take (v := ?_) 10 rfl (by kernel_rfl) (fun _ _ _ h => h) (by rfl) ?_ HBwd.out ?_
  rotate_left
  focus
    intro w9 hw9
    have a0 : w9.cell? ⟨w.heap.size, 0, none⟩ = some (.int .i64 (x.to : Nat)) := (HKA.out.on hw9.below).cell rfl
    have a1 : w9.cell? ⟨w.heap.size, 1, none⟩ = some (.int .i64 (x.kd : Nat)) := (HKA.out.on hw9.below).cell rfl
    have a2 : w9.cell? ⟨w.heap.size, 2, none⟩ = some (.int .i64 (x.im : Nat)) := (HKA.out.on hw9.below).cell rfl
    have b0 : w9.cell? ⟨w.heap.size + 1, 0, none⟩ = some (.int .i64 (y.to : Nat)) := (HKB.out.on hw9.below).cell rfl
    have b1 : w9.cell? ⟨w.heap.size + 1, 1, none⟩ = some (.int .i64 (y.kd : Nat)) := (HKB.out.on hw9.below).cell rfl
    have b2 : w9.cell? ⟨w.heap.size + 1, 2, none⟩ = some (.int .i64 (y.im : Nat)) := (HKB.out.on hw9.below).cell rfl
    go_simp
    try with_reducible rfl
  try simp only [Act.put, List.setIfInBounds_toArray, List.set_cons_zero, List.set_cons_succ]
  refine wpL_take (v := ?_) 11 rfl (by kernel_rfl) (fun _ _ _ h => h) (by rfl) ?_ HBwd.out ?_
  rotate_left
  focus
    intro w9 hw9
    have a0 : w9.cell? ⟨w.heap.size, 0, none⟩ = some (.int .i64 (x.to : Nat)) := (HKA.out.on hw9.below).cell rfl
    have a1 : w9.cell? ⟨w.heap.size, 1, none⟩ = some (.int .i64 (x.kd : Nat)) := (HKA.out.on hw9.below).cell rfl
    have a2 : w9.cell? ⟨w.heap.size, 2, none⟩ = some (.int .i64 (x.im : Nat)) := (HKA.out.on hw9.below).cell rfl
    have b0 : w9.cell? ⟨w.heap.size + 1, 0, none⟩ = some (.int .i64 (y.to : Nat)) := (HKB.out.on hw9.below).cell rfl
    have b1 : w9.cell? ⟨w.heap.size + 1, 1, none⟩ = some (.int .i64 (y.kd : Nat)) := (HKB.out.on hw9.below).cell rfl
    have b2 : w9.cell? ⟨w.heap.size + 1, 2, none⟩ = some (.int .i64 (y.im : Nat)) := (HKB.out.on hw9.below).cell rfl
    go_simp
    try with_reducible rfl
  try simp only [Act.put, List.setIfInBounds_toArray, List.set_cons_zero, List.set_cons_succ]
  refine wpL_take (v := ?_) 12 rfl (by kernel_rfl) (fun _ _ _ h => h) (by rfl) ?_ HBwd.out ?_
  rotate_left
  focus
    intro w9 hw9
    have a0 : w9.cell? ⟨w.heap.size, 0, none⟩ = some (.int .i64 (x.to : Nat)) := (HKA.out.on hw9.below).cell rfl
    have a1 : w9.cell? ⟨w.heap.size, 1, none⟩ = some (.int .i64 (x.kd : Nat)) := (HKA.out.on hw9.below).cell rfl
    have a2 : w9.cell? ⟨w.heap.size, 2, none⟩ = some (.int .i64 (x.im : Nat)) := (HKA.out.on hw9.below).cell rfl
    have b0 : w9.cell? ⟨w.heap.size + 1, 0, none⟩ = some (.int .i64 (y.to : Nat)) := (HKB.out.on hw9.below).cell rfl
    have b1 : w9.cell? ⟨w.heap.size + 1, 1, none⟩ = some (.int .i64 (y.kd : Nat)) := (HKB.out.on hw9.below).cell rfl
    have b2 : w9.cell? ⟨w.heap.size + 1, 2, none⟩ = some (.int .i64 (y.im : Nat)) := (HKB.out.on hw9.below).cell rfl
    go_simp
    try with_reducible rfl
  try simp only [Act.put, List.setIfInBounds_toArray, List.set_cons_zero, List.set_cons_succ]
  refine wpL_take (v := ?_) 13 rfl (by kernel_rfl) (fun _ _ _ h => h) (by rfl) ?_ HBwd.out ?_
  rotate_left
  focus
    intro w9 hw9
    have a0 : w9.cell? ⟨w.heap.size, 0, none⟩ = some (.int .i64 (x.to : Nat)) := (HKA.out.on hw9.below).cell rfl
    have a1 : w9.cell? ⟨w.heap.size, 1, none⟩ = some (.int .i64 (x.kd : Nat)) := (HKA.out.on hw9.below).cell rfl
    have a2 : w9.cell? ⟨w.heap.size, 2, none⟩ = some (.int .i64 (x.im : Nat)) := (HKA.out.on hw9.below).cell rfl
    have b0 : w9.cell? ⟨w.heap.size + 1, 0, none⟩ = some (.int .i64 (y.to : Nat)) := (HKB.out.on hw9.below).cell rfl
    have b1 : w9.cell? ⟨w.heap.size + 1, 1, none⟩ = some (.int .i64 (y.kd : Nat)) := (HKB.out.on hw9.below).cell rfl
    have b2 : w9.cell? ⟨w.heap.size + 1, 2, none⟩ = some (.int .i64 (y.im : Nat)) := (HKB.out.on hw9.below).cell rfl
    go_simp
    try with_reducible rfl
  try simp only [Act.put, List.setIfInBounds_toArray, List.set_cons_zero, List.set_cons_succ]
  refine wpL_one 4 rfl (by kernel_rfl) (by rfl) ?_
  intro K hK
  go_simp
  refine (CA.out wd).mono ?_
  rintro e w5 ⟨rfl, h5⟩
  obtain rfl := h5.symm
  dsimp only
  refine hK.out _ _ (fun _ => HBwd.out) ?_
  clear hK K
  try simp only [Act.put, List.setIfInBounds_toArray, List.set_cons_zero, List.set_cons_succ]
  refine wpL_one 9 rfl (by kernel_rfl) (by rfl) ?_
  intro K hK
  go_simp
  refine (CB.out wd).mono ?_
  rintro e w5 ⟨rfl, h5⟩
  obtain rfl := h5.symm
  dsimp only
  refine hK.out _ _ (fun _ => HBwd.out) ?_
  clear hK K
  try simp only [Act.put, List.setIfInBounds_toArray, List.set_cons_zero, List.set_cons_succ]
  refine wpL_one 14 rfl (by kernel_rfl) (by rfl) ?_
  intro K hK
  go_simp
  refine (CC.out wd).mono ?_
  rintro e w5 ⟨rfl, h5⟩
  obtain rfl := h5.symm
  dsimp only
  refine hK.out _ _ (fun _ => HBwd.out) ?_
  clear hK K
  try simp only [Act.put, List.setIfInBounds_toArray, List.set_cons_zero, List.set_cons_succ]
  refine wpL_one 15 rfl (by kernel_rfl) (by rfl) ?_
  intro K hK
  go_simp
  have HBwu : Hid (GrO w2 (wd.alloc (.cells #[.int .i64 r1, .int .i64 r2, .int .i64 r3] 3))) := HBwd.out.alloc _
  have HZ : Hid (Blk (wd.alloc (.cells #[.int .i64 r1, .int .i64 r2, .int .i64 r3] 3)) wd.heap.size #[.int .i64 r1, .int .i64 r2, .int .i64 r3] 3) := Blk.new wd _ _
  refine hK.out _ _ (fun _ => HBwu.out) ?_
  clear hK K
  try simp only [Act.put, List.setIfInBounds_toArray, List.set_cons_zero, List.set_cons_succ]
  generalize wd.alloc (.cells #[.int .i64 r1, .int .i64 r2, .int .i64 r3] 3) = wu at *
  refine wpL_one 16 rfl (by kernel_rfl) (by rfl) ?_
  intro K hK
  have CO : Hid (Calls Tryz.prog 78 #[.slice (some ⟨wd.heap.size, 0, none⟩) 3 3] wu fun e w' => e = .returned (.int .i64 (or3 r1 r2 r3)) ∧ w' = wu) := cmpOr_any [r1, r2, r3] r1 r2 r3 rfl wd.heap.size wu (fun k hk => by
    have hk3 : k = 0 ∨ k = 1 ∨ k = 2 := by simp at hk; omega
    rcases hk3 with rfl | rfl | rfl
    · exact HZ.out.cell (i := 0) rfl
    · exact HZ.out.cell (i := 1) rfl
    · exact HZ.out.cell (i := 2) rfl)
  go_simp
  refine CO.out.mono ?_
  rintro e w5 ⟨rfl, h5⟩
  obtain rfl := h5.symm
  dsimp only
  clear CO
  refine hK.out _ _ (fun _ => HBwu.out) ?_
  clear hK K
  try simp only [Act.put, List.setIfInBounds_toArray, List.set_cons_zero, List.set_cons_succ]
  refine wpL_one 17 rfl (by kernel_rfl) (by rfl) ?_
  intro K hK
  go_simp
  refine hK.out _ _ (fun _ => HBwu.out) ?_
  clear hK K
  try simp only [Act.put, List.setIfInBounds_toArray, List.set_cons_zero, List.set_cons_succ]
  refine wpL_done (by kernel_rfl) ?_ _
  try simp only [NoPanic]
  go_wp2_with fail
  go_ret
  exact ⟨rfl, HG2.out.trans HBwu.out⟩
theorem sortE_any (B : Nat) (L : List Ed) (v : Value) (w : World) (hO : OwnE w B v L) (hl : L.length ≤ 4398046511104) :
    Calls Tryz.prog 76 #[v, .func (.func 77) #[] #[]] w fun e w' => e = .returned (.tuple #[]) ∧ ∃ L', L'.Perm L ∧ UpE L' ∧ OwnE w' B v L' ∧ Frm w w' (fun k => v.ownBlock = some k) := by
  rcases hO.form with ⟨rfl, rfl⟩ | ⟨g, cap, cur0, rfl, _⟩
  · have h := AnyF.slices_SortFunc_none (P := Tryz.prog) (ρ := Tryz.sortEd_ren) { Tryz.sortEd with } none 0 (.func (.func 77) #[] #[]) w
    change Calls Tryz.prog 76 _ _ _ at h
    refine h.mono ?_
    rintro e w' ⟨rfl, rfl⟩
    exact ⟨rfl, [], List.Perm.refl _, List.Pairwise.nil, hO, Frm.refl _ _⟩
  · by_cases hL : L = []
    · subst hL
      have h := AnyF.slices_SortFunc_none (P := Tryz.prog) (ρ := Tryz.sortEd_ren) { Tryz.sortEd with } (some ⟨g, 0, none⟩) cap (.func (.func 77) #[] #[]) w
      change Calls Tryz.prog 76 _ _ _ at h
      refine h.mono ?_
      rintro e w' ⟨rfl, rfl⟩
      exact ⟨rfl, [], List.Perm.refl _, List.Pairwise.nil, hO, Frm.refl _ _⟩
    haveI : Inhabited Ed := ⟨⟨0, 0, 0⟩⟩
    have hgl := (OwnE.cap hO).2.2.2
    have h := AnyQ.slices_SortFunc Tryz.sortEd 3 Tryz.isAgg85 Tryz.sizeOf85 encE (fun _ => rfl) (fun x v hv => by simp [encE] at hv; rcases hv with rfl | rfl | rfl <;> rfl) cmpE swoE 77 #[] g 0 cap L.toArray w
      (enters_of Tryz.func77 (by kernel_rfl) rfl) (fun m os dk hdk x y => edCmp_any x y _) (OwnE.holds hO) hgl (by simp; omega)
    change Calls Tryz.prog 76 _ _ _ at h
    rw [show L.toArray.size = L.length by simp] at h
    refine h.mono ?_
    rintro e w' ⟨rfl, d', n, os, hp, hs, rfl⟩
    have hsz : d'.size = L.length := by have := hp.1; simpa using this
    have hp2 : d'.toList.Perm L := by
      have h1 := hp.2.2
      have e1 : (L.toArray.extract 0 L.length).toList = L := by simp
      have e2 : (d'.extract 0 L.length).toList = d'.toList := by rw [← hsz]; simp
      rw [e1, e2] at h1
      exact h1
    have h5 := own_sortedE (n := n) os hO hsz
    have e3 : d'.toList.length = L.length := by simp [hsz]
    rw [e3] at h5
    exact ⟨rfl, d'.toList, hp2, sorted_upE (by rw [hsz]; exact hs), h5, (swE_frm _ _ _ _ _).mono (fun k hk => .inl (by rw [hk]; rfl))⟩

end Go.Proofs.YtncfejndmlcidaaGreat

namespace Go.Proofs.YtncfejndmlcidaaGreat
open Go.RowKit
set_option maxRecDepth 100000

/-- an edge is put where it belongs, once -/
def insE (x : Ed) : List Ed → List Ed
  | [] => [x]
  | y :: L => if ltE x y then x :: y :: L else if ltE y x then y :: insE x L else y :: L
def srE (L : List Ed) : List Ed := L.foldr insE []
theorem insE_mem (x : Ed) : ∀ (L : List Ed) (y : Ed), y ∈ insE x L ↔ y = x ∨ y ∈ L
  | [], y => by simp [insE]
  | z :: L, y => by
    unfold insE
    by_cases h1 : ltE x z = true
    · rw [if_pos h1]; simp
    · rw [if_neg h1]
      by_cases h2 : ltE z x = true
      · rw [if_pos h2]
        simp only [List.mem_cons, insE_mem x L y]
        constructor
        · rintro (h | h | h) <;> simp [h]
        · rintro (h | h | h) <;> simp [h]
      · rw [if_neg h2]
        have e : x = z := by
          rcases ltE_tri x z with h | h | h
          · exact absurd h h1
          · exact h
          · exact absurd h h2
        subst e
        simp
theorem insE_ris (x : Ed) : ∀ (L : List Ed), RisE L → RisE (insE x L)
  | [], _ => List.pairwise_singleton _ _
  | z :: L, h => by
    obtain ⟨h3, h4⟩ := List.pairwise_cons.1 h
    unfold insE
    by_cases h1 : ltE x z = true
    · rw [if_pos h1]
      refine List.pairwise_cons.2 ⟨fun y hy => ?_, h⟩
      rcases List.mem_cons.1 hy with rfl | hy
      · exact h1
      · exact ltE_trans h1 (h3 y hy)
    · rw [if_neg h1]
      by_cases h2 : ltE z x = true
      · rw [if_pos h2]
        refine List.pairwise_cons.2 ⟨fun y hy => ?_, insE_ris x L h4⟩
        rcases (insE_mem x L y).1 hy with rfl | hy
        · exact h2
        · exact h3 y hy
      · rw [if_neg h2]
        exact h
theorem srE_mem (L : List Ed) (y : Ed) : y ∈ srE L ↔ y ∈ L := by
  unfold srE
  induction L with
  | nil => simp
  | cons x L ih => rw [List.foldr_cons, insE_mem, ih, List.mem_cons]
theorem srE_ris (L : List Ed) : RisE (srE L) := by
  unfold srE
  induction L with
  | nil => exact List.Pairwise.nil
  | cons x L ih => rw [List.foldr_cons]; exact insE_ris x _ ih
/-- sorted, each once -/
theorem srE_of {L M : List Ed} (h : M.Perm L) (hU : UpE M) : ddE M M.length = srE L :=
  RisE.uniq (ddE_ris M hU _ (Nat.le_refl _)) (srE_ris L) (fun x => by
    rw [ddE_mem M _ (Nat.le_refl _), List.take_length, srE_mem]
    exact h.mem_iff)
/-- Compact, of any row of one's own -/
theorem compact_any (B : Nat) (L : List Ed) (v : Value) (w : World) (hO : OwnE w B v L) (hlen : L.length ≤ 4398046511104) :
    Calls Tryz.prog 79 #[v] w fun e w' => ∃ q l c, e = .returned (.slice q l c) ∧ OwnE w' B (.slice q l c) (ddE L L.length) ∧ (Value.slice q l c).ownBlock = v.ownBlock ∧ Frm w w' (fun k => v.ownBlock = some k) := by
  rcases hO.form with ⟨rfl, rfl⟩ | ⟨g, cap, cur0, rfl, _⟩
  · have HO : Hid (OwnE w B nilS []) := hO
    clear hO hlen
    go_enter Tryz.func79, Tryz.ntmps79
    go_wp2_with fail
    go_ret
    exact ⟨none, 0, 0, rfl, HO.out, rfl, Frm.refl _ _⟩
  · refine (compactE_any L g cap B w hO hlen).mono ?_
    rintro e w' ⟨rfl, h1, h2⟩
    exact ⟨_, _, _, rfl, h1, rfl, h2.mono (fun k hk => .inl (by rw [show k = g from hk]; rfl))⟩
theorem rdM_len (pl : Int → Nat) (H : List Ac) (I : List ByteArray) (t : Int) (LL : List (List Ed)) : (rdM pl H I t LL).length = LL.length := by
  unfold rdM
  rw [scM_len, vrMs_len]
theorem rdM_le {H : List Ac} (hH : H.length ≤ 4096) (hsn : snN H ≤ 4096) (pl : Int → Nat) (I : List ByteArray) (t : Int) {LL : List (List Ed)} {N : Nat} (h : RowsLe LL N) : RowsLe (rdM pl H I t LL) (N + 33562624) := by
  have h1 := vrMs_le pl H I t 3 (rds H t) LL N h
  have h2 := scM_le pl H I t 4096 (scs H t) _ _ (fun a ha => by
    obtain ⟨h1, h2⟩ := List.mem_filter.1 ha
    simp only [Bool.and_eq_true, beq_iff_eq] at h2
    exact Nat.le_trans (snN_mem H a h1 h2.2) hsn) h1
  have h3 := rds_len H t
  have h4 := scs_len H t
  unfold rdM
  refine h2.mono ?_
  omega
/-- the edges of the first k that committed -/
def cmM (d : Dv) (H : List Ac) (uns : Int → List (List Ed) → List (List Ed)) (LL : List (List Ed)) (C : List Int) : List (List Ed) := C.foldl (fun LL t => uns t (rdM d.pl H d.I t LL)) LL
/-- edges, not sorted yet -/
def raM (d : Dv) (H : List Ac) (uns : Int → List (List Ed) → List (List Ed)) : List (List Ed) := cmM d H uns (ovM d.pl H d.I (List.replicate d.C.length []) d.I.length) d.C
/-- all edges -/
def edM (d : Dv) (H : List Ac) (uns : Int → List (List Ed) → List (List Ed)) : List (List Ed) := (raM d H uns).map srE
theorem cmM_len {H : List Ac} {d : Dv} {uns : Int → List (List Ed) → List (List Ed)} (hU : UnsF H d uns) : ∀ (C : List Int) (LL : List (List Ed)), (cmM d H uns LL C).length = LL.length
  | [], LL => rfl
  | t :: C, LL => by
    have h := cmM_len hU C (uns t (rdM d.pl H d.I t LL))
    unfold cmM at h ⊢
    rw [List.foldl_cons, h, hU.len, rdM_len]
theorem cmM_le {H : List Ac} {d : Dv} {uns : Int → List (List Ed) → List (List Ed)} (hU : UnsF H d uns) (hH : H.length ≤ 4096) (hsn : snN H ≤ 4096) : ∀ (C : List Int) (LL : List (List Ed)) (N : Nat), RowsLe LL N → RowsLe (cmM d H uns LL C) (N + C.length * 33566720)
  | [], LL, N, h => by
    rw [List.length_nil, Nat.zero_mul, Nat.add_zero]
    exact h
  | t :: C, LL, N, h => by
    have h1 := hU.le t _ _ (rdM_le hH hsn d.pl d.I t h)
    have h2 := cmM_le hU hH hsn C _ _ h1
    unfold cmM at h2 ⊢
    rw [List.foldl_cons]
    refine h2.mono ?_
    rw [List.length_cons, Nat.add_mul]
    omega
theorem mid_set {α : Type} (f : α → α) (L : List α) (k : Nat) (hk : k < L.length) : ((L.take k).map f ++ L.drop k).set k (f L[k]) = (L.take (k + 1)).map f ++ L.drop (k + 1) := by
  have hl : ((L.take k).map f).length = k := by rw [List.length_map, List.length_take]; omega
  rw [List.set_append, if_neg (by omega), hl, Nat.sub_self, List.drop_eq_getElem_cons hk, List.set_cons_zero, List.take_succ_eq_append_getElem hk, List.map_append, List.append_assoc]
  rfl
theorem mid_get {α : Type} (f : α → α) (L : List α) (k : Nat) (hk : k < L.length) (z : α) : ((L.take k).map f ++ L.drop k).getD k z = L[k] := by
  have hl : ((L.take k).map f).length = k := by rw [List.length_map, List.length_take]; omega
  rw [List.getD_eq_getElem?_getD, List.getElem?_append_right (by omega), hl, Nat.sub_self, List.getElem?_drop, Nat.add_zero, List.getElem?_eq_getElem hk]
  rfl
theorem mid_len {α : Type} (f : α → α) (L : List α) (k : Nat) (hk : k ≤ L.length) : ((L.take k).map f ++ L.drop k).length = L.length := by
  rw [List.length_append, List.length_map, List.length_take, List.length_drop]; omega
set_option maxHeartbeats 8000000 in
theorem edges_any (N B : Nat) (H : List Ac) (d : Dv) (uns : Int → List (List Ed) → List (List Ed)) (w : World) (hR : RdD w N B H d) (hF : Fin H d.s d) (hH : OkF H) (hU : UnsF H d uns) (hI : d.I.length ≤ 4096) (hsn : snN H ≤ 4096) :
    Calls Tryz.prog 47 #[.pointer (some ⟨d.s.hb, 0, none⟩)] w fun e w' => ∃ ob vs, e = .returned (.slice (some ⟨ob, 0, none⟩) d.C.length d.C.length) ∧ OutE w' w.heap.size ob vs (edM d H uns) ∧ Below w.heap.size w w' := by
  obtain ⟨n, hn⟩ : ∃ n, d.C.length = n := ⟨_, rfl⟩
  have hn4 : n ≤ 4096 := by rw [← hn, hF.perm.length_eq]; exact Nat.le_trans (cms_len H) hH.len
  rw [hn]
  have HA : Hid (Fin H d.s d ∧ OkF H ∧ UnsF H d uns ∧ d.I.length ≤ 4096 ∧ snN H ≤ 4096 ∧ d.C.length = n) := ⟨hF, hH, hU, hI, hsn, hn⟩
  have HR : Hid (RdD w N B H d) := hR
  obtain ⟨qc, dc, evc⟩ := hR.dn.own.slcL
  rw [hn] at evc
  have HEC : Hid (d.s.vC = .slice qc n dc) := evc
  have HC2 : Hid (∀ w', Below w.heap.size w w' → w'.cell? ⟨d.s.hb, 2, none⟩ = some (.slice qc n dc)) := fun w' h => by rw [← evc]; exact (hR.on (h.mono hR.size)).dn.blk.cell rfl
  have c2 : w.cell? ⟨d.s.hb, 2, none⟩ = some (.slice qc n dc) := HC2.out w (Below.refl _ _)
  have hmk := run_mk1 81 83 nilS 24 info_esl rfl Tryz.underlying81 (by omega) n hn4
  clear hR hF hH hU hI hsn hn evc
  go_enter Tryz.func47, Tryz.ntmps47
  go_upto_region 2 with fail
  obtain ⟨w1, hw1⟩ : ∃ w1, w.alloc (.cells (Array.replicate n nilS) 83) = w1 := ⟨_, rfl⟩
  have HB1 : Hid (Below w.heap.size w w1) := by rw [← hw1]; exact (Below.refl _ _).alloc (Nat.le_refl _) _
  have HO1 : Hid (OutE w1 w.heap.size w.heap.size (fun _ => nilS) (List.replicate n [])) := by rw [← hw1]; exact OutG.new w n (Nat.le_refl _)
  rw [hw1]
  clear hw1 c2 hmk
  obtain ⟨C, hC⟩ : ∃ C, w.heap.size = C := ⟨_, rfl⟩
  obtain ⟨ob, hob⟩ : ∃ ob, w.heap.size = ob := ⟨_, rfl⟩
  have HO1 : Hid (OutE w1 C ob (fun _ => nilS) (List.replicate n [])) := by rw [← hC, ← hob]; exact HO1.out
  have HN : Hid (N ≤ C ∧ w.heap.size = C ∧ C ≤ w1.heap.size ∧ Below C w w1) := ⟨by rw [← hC]; exact HR.out.size, hC, by rw [← hC]; exact HB1.out.size, by rw [← hC]; exact HB1.out⟩
  rw [hob]
  have HR1 : Hid (RdD w1 N B H d) := HR.out.on (HB1.out.mono HR.out.size)
  have CO : Hid (Calls Tryz.prog 73 #[.pointer (some ⟨d.s.hb, 0, none⟩), .slice (some ⟨ob, 0, none⟩) n n] w1 fun e w' => e = .returned (.tuple #[]) ∧ Below C w w' ∧ ∃ vs', OutE w' C ob vs' (ovM d.pl H d.I (List.replicate n []) d.I.length)) := by
    refine (addOver_any N B C ob _ _ n 0 H d w1 HR1.out HN.out.1 HN.out.2.2.1 HA.out.1 HA.out.2.1.len HO1.out (by simp) HA.out.2.2.2.2.2 HA.out.2.2.2.1 (RowsLe.rep n 0) (by omega)).mono ?_
    rintro e w' ⟨he, h1, h2⟩
    exact ⟨he, HN.out.2.2.2.trans (h1.below' HN.out.2.2.1), h2⟩
  obtain ⟨L1, hL1⟩ : ∃ L1, ovM d.pl H d.I (List.replicate n []) d.I.length = L1 := ⟨_, rfl⟩
  have HL1 : Hid (L1.length = n ∧ RowsLe L1 16777216 ∧ edM d H uns = (cmM d H uns L1 d.C).map srE) := by
    refine ⟨by rw [← hL1, ovM_len]; simp, ?_, by rw [← hL1, ← HA.out.2.2.2.2.2]; rfl⟩
    rw [← hL1]
    refine (ovM_le d.pl H d.I (RowsLe.rep n 0) HA.out.2.1.len d.I.length).mono ?_
    have := HA.out.2.2.2.1
    omega
  rw [hL1] at CO
  clear hL1 hob hC HO1 HR1 HB1
  go_upto_region 3 with (first | (go_at_call 73; refine CO.out.mono ?_; rintro e w2 ⟨rfl, hw2⟩; have HW2 : Hid (Below C w w2 ∧ ∃ vs', OutE w2 C ob vs' L1) := hw2; clear hw2))
  have c2 : w2.cell? ⟨d.s.hb, 2, none⟩ = some (.slice qc n dc) := HC2.out w2 (by rw [HN.out.2.1]; exact HW2.out.1)
  go_wp2_with fail
  clear c2
  go_loopw [22] (fun ix wr => ∃ k : Nat, ix = .int .i64 (k : Int) ∧ k ≤ n ∧ Hid (Below C w wr ∧ ∃ vs', OutE wr C ob vs' (cmM d H uns L1 (d.C.take k)))) (fun ix _ => n - (intOf ix).toNat)
  case atStart => exact ⟨0, by go_num, Nat.zero_le _, HW2.out⟩
  case round =>
    obtain ⟨k, rfl, hk, HI⟩ := hrel
    by_cases hk0 : k = n
    · subst hk0
      rename World => w3
      clear HW2 CO
      obtain ⟨L2, hL2⟩ : ∃ L2, cmM d H uns L1 d.C = L2 := ⟨_, rfl⟩
      have HL2 : Hid (L2.length = k ∧ RowsLe L2 1099511627776 ∧ edM d H uns = L2.map srE) := by
        refine ⟨by rw [← hL2, cmM_len HA.out.2.2.1]; exact HL1.out.1, ?_, by rw [← hL2]; exact HL1.out.2.2⟩
        rw [← hL2]
        refine (cmM_le HA.out.2.2.1 HA.out.2.1.len HA.out.2.2.2.2.1 d.C L1 _ HL1.out.2.1).mono ?_
        rw [HA.out.2.2.2.2.2]
        omega
      have HI2 : Hid (Below C w w3 ∧ ∃ vs', OutE w3 C ob vs' L2) := by
        have h1 := HI.out
        rw [← HA.out.2.2.2.2.2, List.take_length, hL2] at h1
        exact h1
      clear HI hL2
      go_wp2_with fail
      go_loopw [37] (fun ix wr => ∃ i : Nat, ix = .int .i64 (i : Int) ∧ i ≤ k ∧ Hid (Below C w wr ∧ ∃ vs', OutE wr C ob vs' ((L2.take i).map srE ++ L2.drop i))) (fun ix _ => k - (intOf ix).toNat)
      case atStart => exact ⟨0, by go_num, Nat.zero_le _, HI2.out.1, by simpa using HI2.out.2⟩
      case round =>
        obtain ⟨i, rfl, hi, HJ⟩ := hrel
        clear HI2
        by_cases hi0 : i = k
        · subst hi0
          go_wp2_with fail
          go_ret
          obtain ⟨h1, vs', h2⟩ := HJ.out
          refine ⟨ob, vs', rfl, ?_, by rw [HN.out.2.1]; exact h1⟩
          rw [← HL2.out.1, List.take_length, List.drop_length, List.append_nil] at h2
          rw [HL2.out.2.2, HN.out.2.1]
          exact h2
        · have hi1 : i < k := by omega
          clear hi0
          have HI1 : Hid (i < k) := hi1
          have hil : i < L2.length := by rw [HL2.out.1]; exact hi1
          obtain ⟨h1, vs', h2⟩ := HJ.out
          have HOi : Hid (Below C w wr ∧ OutE wr C ob vs' ((L2.take i).map srE ++ L2.drop i)) := ⟨h1, h2⟩
          have hrow := h2.row i
          rw [mid_get srE L2 i hil] at hrow
          obtain ⟨q, dd, ev⟩ := hrow.slcL
          have HRow : Hid (OwnE wr C (vs' i) L2[i] ∧ vs' i = .slice q L2[i].length dd) := ⟨hrow, ev⟩
          have x0 : wr.cell? ⟨ob, i, none⟩ = some (.slice q L2[i].length dd) := by
            rw [← ev]
            exact h2.cell i (by rw [mid_len srE L2 i (by omega)]; exact hil)
          have hle : L2[i].length ≤ 4398046511104 := by
            have h3 := HL2.out.2.1 i
            rw [List.getD_eq_getElem?_getD, List.getElem?_eq_getElem hil] at h3
            exact Nat.le_trans h3 (by omega)
          have CSt : Hid (Calls Tryz.prog 76 #[.slice q L2[i].length dd, .func (.func 77) #[] #[]] wr fun e w' => e = .returned (.tuple #[]) ∧ ∃ L', L'.Perm L2[i] ∧ UpE L' ∧ OwnE w' C (.slice q L2[i].length dd) L' ∧ Frm wr w' (fun k => (vs' i).ownBlock = some k)) := by
            rw [← ev]
            exact sortE_any C L2[i] (vs' i) wr hrow hle
          have HSr : Hid (∀ L', L'.Perm L2[i] → UpE L' → ddE L' L'.length = srE L2[i] ∧ L'.length ≤ 4398046511104) := fun L' h3 h4 => ⟨srE_of h3 h4, by rw [h3.length_eq]; exact hle⟩
          have HSet : Hid (((L2.take i).map srE ++ L2.drop i).set i (srE L2[i]) = (L2.take (i + 1)).map srE ++ L2.drop (i + 1)) := mid_set srE L2 i hil
          have HLen : Hid (i < ((L2.take i).map srE ++ L2.drop i).length) := by
            show _ < _
            rw [mid_len srE L2 i (by omega)]
            exact hil
          generalize hrw : L2[i] = row at *
          generalize row.length = rl at *
          clear HJ h1 h2 hrow ev hle hrw hil
          rename World => wo
          go_upto_region 13 with (first | (go_at_call 76; refine CSt.out.mono ?_; rintro e w5 ⟨rfl, L', hw5⟩; have HW5 : Hid (L'.Perm row ∧ UpE L' ∧ OwnE w5 C (.slice q rl dd) L' ∧ Frm wo w5 (fun k => (vs' i).ownBlock = some k)) := hw5; clear hw5))
          have CCp : Hid (Calls Tryz.prog 79 #[.slice q rl dd] w5 fun e w' => ∃ q' l' c', e = .returned (.slice q' l' c') ∧ OwnE w' C (.slice q' l' c') (srE row) ∧ (Value.slice q' l' c').ownBlock = (vs' i).ownBlock ∧ Frm wo w' (fun k => (vs' i).ownBlock = some k)) := by
            obtain ⟨g1, g2⟩ := HSr.out L' HW5.out.1 HW5.out.2.1
            refine (compact_any C L' _ w5 HW5.out.2.2.1 g2).mono ?_
            rintro e w' ⟨q', l', c', rfl, h1, h2, h3⟩
            rw [g1] at h1
            rw [HRow.out.2]
            refine ⟨q', l', c', rfl, h1, h2, ?_⟩
            have h4 := HW5.out.2.2.2
            rw [HRow.out.2] at h4
            exact h4.trans h3 (fun k hk => .inl hk)
          clear CSt x0
          have HBo : Hid (∀ w', Frm wo w' (fun k => (vs' i).ownBlock = some k) → Blk w' ob ((List.range ((L2.take i).map srE ++ L2.drop i).length).map vs').toArray 83) := fun w' hf => HOi.out.2.blk.frm hf (fun e => own_ne_blk (HOi.out.2.row i) HOi.out.2.blk (by decide) e.symm)
          go_wp2_with (first | (go_at_call 79; refine CCp.out.mono ?_; rintro e w6 ⟨q', l', c', rfl, hw6⟩; have HW6 : Hid (OwnE w6 C (.slice q' l' c') (srE row) ∧ (Value.slice q' l' c').ownBlock = (vs' i).ownBlock ∧ Frm wo w6 (fun k => (vs' i).ownBlock = some k)) := hw6; have z0 : w6.cell? ⟨ob, i, none⟩ = some (vs' i) := (have h9 := HLen.out; (HBo.out w6 hw6.2.2).cell (by simp only [List.getElem?_toArray, List.getElem?_map, List.getElem?_range h9, Option.map_some])); have f0 := (HBo.out w6 hw6.2.2).frozen i; clear hw6))
          go_roundw
          case rel =>
            have hp := HOi.out.2.put (by have h9 := HOi.out.1.size; have h8 := HN.out.2.1; omega) (by decide) i HLen.out HW6.out.1 HW6.out.2.2 (.inl HW6.out.2.1)
            rw [HSet.out] at hp
            exact ⟨i + 1, by go_num, HI1.out, HOi.out.1.trans hp.2.1, _, hp.1⟩
          case measure => have h9 := HI1.out; simp [intOf]; omega
    · have hk1 : k < n := by omega
      clear hk0
      have HK1 : Hid (k < n) := hk1
      have hki : k < d.C.length := by rw [HA.out.2.2.2.2.2]; exact hk1
      have HRr : Hid (RdD wr N B H d) := HR.out.on (HI.out.1.mono HN.out.1)
      obtain ⟨-, b, o, rfl, x0⟩ := HRr.out.dn.cellC HEC.out k hki
      have htm : d.C[k] ∈ cms H := HA.out.1.perm.mem_iff.1 (List.getElem_mem hki)
      have HTK : Hid (cmM d H uns L1 (d.C.take (k + 1)) = uns d.C[k] (rdM d.pl H d.I d.C[k] (cmM d H uns L1 (d.C.take k)))) := foldl_take _ _ _ k hki
      have hle := cmM_le HA.out.2.2.1 HA.out.2.1.len HA.out.2.2.2.2.1 (d.C.take k) L1 _ HL1.out.2.1
      have hlk : (d.C.take k).length = k := by rw [List.length_take]; omega
      rw [hlk] at hle
      have hll : (cmM d H uns L1 (d.C.take k)).length = n := by rw [cmM_len HA.out.2.2.1]; exact HL1.out.1
      generalize cmM d H uns L1 (d.C.take k) = Lk at *
      generalize d.C[k] = t at *
      obtain ⟨h1, vs1, h2⟩ := HI.out
      have hCw : C ≤ wr.heap.size := by have h9 := h1.size; have := HN.out.2.1; omega
      have CR : Hid (Calls Tryz.prog 74 #[.pointer (some ⟨d.s.hb, 0, none⟩), .slice (some ⟨ob, 0, none⟩) n n, .pointer (some ⟨d.s.pt t, 0, none⟩)] wr fun e w' => e = .returned (.tuple #[]) ∧ Below C w w' ∧ ∃ vs', OutE w' C ob vs' (rdM d.pl H d.I t Lk)) := by
        refine (addReads_any N B C ob vs1 Lk n H d t wr HRr.out HN.out.1 hCw HA.out.1 HA.out.2.1 h2 hll HA.out.2.2.2.2.2 HA.out.2.2.2.1 (hle.mono (by omega)) htm HA.out.2.2.2.2.1).mono ?_
        rintro e w' ⟨he, h3, h4⟩
        exact ⟨he, h1.trans (h3.below' hCw), h4⟩
      have CUn : Hid (∀ W, Below C w W → (∃ vs', OutE W C ob vs' (rdM d.pl H d.I t Lk)) → Calls Tryz.prog 75 #[.pointer (some ⟨d.s.hb, 0, none⟩), .slice (some ⟨ob, 0, none⟩) n n, .pointer (some ⟨d.s.pt t, 0, none⟩)] W fun e w' => e = .returned (.tuple #[]) ∧ Below C w w' ∧ ∃ vs', OutE w' C ob vs' (uns t (rdM d.pl H d.I t Lk))) := fun W hW hO => by
        obtain ⟨vs2, hO⟩ := hO
        have hCW : C ≤ W.heap.size := by have h9 := hW.size; have := HN.out.2.1; omega
        refine (HA.out.2.2.1.call N B C ob vs2 _ n t W (HR.out.on (hW.mono HN.out.1)) HN.out.1 hCW HA.out.1 HA.out.2.1 hO (by rw [rdM_len]; exact hll) HA.out.2.2.2.2.2 HA.out.2.2.2.1 ((rdM_le HA.out.2.1.len HA.out.2.2.2.2.1 d.pl d.I t hle).mono (by omega)) htm).mono ?_
        rintro e w' ⟨he, h3, h4⟩
        exact ⟨he, hW.trans (h3.below' hCW), h4⟩
      clear h1 h2 hCw hle hll hlk htm hki HI
      go_wp2_with (first | (go_at_call 74; refine CR.out.mono ?_; rintro e w4 ⟨rfl, hw4⟩; have HW4 : Hid (Below C w w4 ∧ ∃ vs', OutE w4 C ob vs' (rdM d.pl H d.I t Lk)) := hw4; clear hw4) | (go_at_call 75; refine (CUn.out _ HW4.out.1 HW4.out.2).mono ?_; rintro e w5 ⟨rfl, hw5⟩; have HW5 : Hid (Below C w w5 ∧ ∃ vs', OutE w5 C ob vs' (uns t (rdM d.pl H d.I t Lk))) := hw5; clear hw5))
      go_roundw
      case rel => exact ⟨k + 1, by go_num, HK1.out, HW5.out.1, by rw [HTK.out]; exact HW5.out.2⟩
      case measure => have h9 := HK1.out; simp [intOf]; omega

end Go.Proofs.YtncfejndmlcidaaGreat
