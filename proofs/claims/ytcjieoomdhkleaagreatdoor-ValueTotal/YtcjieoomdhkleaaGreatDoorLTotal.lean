/- The walk of the statement that there is no round: it answers true. -/
import Derived.Test.YtcjieoomdhkleaaGreatDoorLOrders
namespace Go.Proofs.YtcjieoomdhkleaaGreatDoor
open Go.RowKit
set_option maxRecDepth 100000

/-- what is held while a law over three values is walked -/
abbrev S3 (w : World) (k n k' n' k'' n'' : Int) (f f' f'' : Nat) (s s' s'' : ByteArray) (w' : World) : Prop :=
  w'.cell? ⟨w.heap.size, 0, none⟩ = some (.int .i64 k) ∧ w'.cell? ⟨w.heap.size, 1, none⟩ = some (.int .i64 n) ∧ w'.cell? ⟨w.heap.size, 2, none⟩ = some (.float .f64 f) ∧ w'.cell? ⟨w.heap.size, 3, none⟩ = some (.string s) ∧
  w'.cell? ⟨w.heap.size + 1, 0, none⟩ = some (.int .i64 k') ∧ w'.cell? ⟨w.heap.size + 1, 1, none⟩ = some (.int .i64 n') ∧ w'.cell? ⟨w.heap.size + 1, 2, none⟩ = some (.float .f64 f') ∧ w'.cell? ⟨w.heap.size + 1, 3, none⟩ = some (.string s') ∧
  w'.cell? ⟨w.heap.size + 1 + 1, 0, none⟩ = some (.int .i64 k'') ∧ w'.cell? ⟨w.heap.size + 1 + 1, 1, none⟩ = some (.int .i64 n'') ∧ w'.cell? ⟨w.heap.size + 1 + 1, 2, none⟩ = some (.float .f64 f'') ∧ w'.cell? ⟨w.heap.size + 1 + 1, 3, none⟩ = some (.string s'') ∧
  w'.cell? ⟨4, 0, none⟩ = some (.int .u64 1) ∧ 4 < w.heap.size ∧ w.heap.size + 3 ≤ w'.heap.size ∧ Below w.heap.size w w'

theorem keepS3 {w : World} {k n k' n' k'' n'' : Int} {f f' f'' : Nat} {s s' s'' : ByteArray} {B : Nat} {wp w' : World} (hb : Below B wp w') (h : S3 w k n k' n' k'' n'' f f' f'' s s' s'' wp) (hB : B = wp.heap.size ∨ w.heap.size + 3 ≤ B) : S3 w k n k' n' k'' n'' f f' f'' s s' s'' w' := by
  obtain ⟨h1, h2, h3, h4, h5, h6, h7, h8, i1, i2, i3, i4, h9, hg, hz, hw⟩ := h
  have := hb.size
  have hk : w.heap.size + 3 ≤ B := by omega
  have o : ∀ {b o : Nat} {v : Option Value}, b < w.heap.size + 3 → wp.cell? ⟨b, o, none⟩ = v → w'.cell? ⟨b, o, none⟩ = v := fun {b o v} hb' hc => (hb.cell (p := ⟨b, o, none⟩) (by show b < B; omega)).trans hc
  exact ⟨o (by omega) h1, o (by omega) h2, o (by omega) h3, o (by omega) h4, o (by omega) h5, o (by omega) h6, o (by omega) h7, o (by omega) h8, o (by omega) i1, o (by omega) i2, o (by omega) i3, o (by omega) i4, o (by omega) h9, hg, by omega, hw.trans (hb.mono (by omega))⟩

theorem drewS3 {w : World} {k n k' n' k'' n'' : Int} {f f' f'' : Nat} {s s' s'' : ByteArray} {wp : World} (h : S3 w k n k' n' k'' n'' f f' f'' s s' s'' wp) : S3 w k n k' n' k'' n'' f f' f'' s s' s'' wp.drew :=
  keepS3 (Below.drew (Below.refl wp.heap.size wp)) h (.inl rfl)

theorem startS3 (w : World) (k n k' n' k'' n'' : Int) (f f' f'' : Nat) (s s' s'' : ByteArray) (hg : 4 < w.heap.size) (hc : w.cell? ⟨4, 0, none⟩ = some (.int .u64 1)) :
    S3 w k n k' n' k'' n'' f f' f'' s s' s'' (((w.alloc (.cells #[.int .i64 k, .int .i64 n, .float .f64 f, .string s] 24)).alloc (.cells #[.int .i64 k', .int .i64 n', .float .f64 f', .string s'] 24)).alloc (.cells #[.int .i64 k'', .int .i64 n'', .float .f64 f'', .string s''] 24)) := by
  refine ⟨?_, ?_, ?_, ?_, ?_, ?_, ?_, ?_, ?_, ?_, ?_, ?_, old_cell (by go_grown) hg hc, hg, by simp, by go_grown⟩
  all_goals simp [go_sem]

theorem awakeS3 (w : World) (k n k' n' k'' n'' : Int) (f f' f'' : Nat) (s s' s'' : ByteArray) (wp : World) (h : S3 w k n k' n' k'' n'' f f' f'' s s' s'' wp) :
    Calls Tryz.prog 11 #[] wp fun e w' => e = .returned (.bool true) ∧ Below wp.heap.size wp w' := by
  obtain ⟨h1, h2, h3, h4, h5, h6, h7, h8, i1, i2, i3, i4, h9, hg, hz, hw⟩ := h
  exact awake_any wp (by omega) h9
theorem endS3 {w : World} {k n k' n' k'' n'' : Int} {f f' f'' : Nat} {s s' s'' : ByteArray} {wp : World} (h : S3 w k n k' n' k'' n'' f f' f'' s s' s'' wp) : Below w.heap.size w wp := h.2.2.2.2.2.2.2.2.2.2.2.2.2.2.2

theorem sameB_eq {k n k' n' : Int} {f f' : Nat} {s s' : ByteArray} (h : sameB k n k' n' f f' s s' = true) : k = k' ∧ n = n' ∧ f = f' ∧ s.data.toList = s'.data.toList := by
  simp only [sameB, ByteArray.toList_eq, Bool.and_eq_true, beq_iff_eq] at h
  exact ⟨h.1, h.2.1, by omega, h.2.2.2⟩

/-- values that are the same stand alike to a third one -/
theorem cmpV_same {k n k' n' : Int} {f f' : Nat} {s s' : ByteArray} (h : sameB k n k' n' f f' s s' = true) (k'' n'' : Int) (f'' : Nat) (s'' : ByteArray) : cmpV k n k'' n'' f f'' s s'' = cmpV k' n' k'' n'' f' f'' s' s'' := by
  obtain ⟨rfl, rfl, rfl, e⟩ := sameB_eq h
  unfold cmpV
  rw [e]

theorem same_is {k n k' n' : Int} {f f' : Nat} {s s' : ByteArray} {b : Bool} (h : sameB k n k' n' f f' s s' = b) (w : World) :
    Calls Tryz.prog 14 #[.agg #[.int .i64 k, .int .i64 n, .float .f64 f, .string s], .agg #[.int .i64 k', .int .i64 n', .float .f64 f', .string s']] w fun e w' => e = .returned (.bool b) ∧ Below w.heap.size w w' := by
  subst h
  exact same_any _ _ _ _ _ _ _ _ _

/-- the cells alone -/
theorem cells3 {w : World} {k n k' n' k'' n'' : Int} {f f' f'' : Nat} {s s' s'' : ByteArray} {w' : World} (h : S3 w k n k' n' k'' n'' f f' f'' s s' s'' w') :
  w'.cell? ⟨w.heap.size, 0, none⟩ = some (.int .i64 k) ∧ w'.cell? ⟨w.heap.size, 1, none⟩ = some (.int .i64 n) ∧ w'.cell? ⟨w.heap.size, 2, none⟩ = some (.float .f64 f) ∧ w'.cell? ⟨w.heap.size, 3, none⟩ = some (.string s) ∧
  w'.cell? ⟨w.heap.size + 1, 0, none⟩ = some (.int .i64 k') ∧ w'.cell? ⟨w.heap.size + 1, 1, none⟩ = some (.int .i64 n') ∧ w'.cell? ⟨w.heap.size + 1, 2, none⟩ = some (.float .f64 f') ∧ w'.cell? ⟨w.heap.size + 1, 3, none⟩ = some (.string s') ∧
  w'.cell? ⟨w.heap.size + 1 + 1, 0, none⟩ = some (.int .i64 k'') ∧ w'.cell? ⟨w.heap.size + 1 + 1, 1, none⟩ = some (.int .i64 n'') ∧ w'.cell? ⟨w.heap.size + 1 + 1, 2, none⟩ = some (.float .f64 f'') ∧ w'.cell? ⟨w.heap.size + 1 + 1, 3, none⟩ = some (.string s'') := by
  obtain ⟨h1, h2, h3, h4, h5, h6, h7, h8, i1, i2, i3, i4, _⟩ := h
  exact ⟨h1, h2, h3, h4, h5, h6, h7, h8, i1, i2, i3, i4⟩

set_option maxHeartbeats 4000000 in
theorem lawTotalA_false (k n k' n' k'' n'' : Int) (f f' f'' : Nat) (s s' s'' : ByteArray) (w : World) (hg : 4 < w.heap.size) (hc : w.cell? ⟨4, 0, none⟩ = some (.int .u64 1)) (h1 : ¬ cmpV k n k' n' f f' s s' ≤ 0) (hsm : sameB k n k' n' f f' s s' = false) :
    Calls Tryz.prog 5 #[.agg #[.int .i64 k, .int .i64 n, .float .f64 f, .string s], .agg #[.int .i64 k', .int .i64 n', .float .f64 f', .string s'], .agg #[.int .i64 k'', .int .i64 n'', .float .f64 f'', .string s'']] w fun e w' => e = .returned (.bool true) ∧ Below w.heap.size w w' := by
  have hs0 := startS3 w k n k' n' k'' n'' f f' f'' s s' s'' hg hc
  clear hg hc
  go_enter Tryz.func5, Tryz.ntmps5
  go_wp2_with fail
  refine (cmpV_any _ _ _ _ _ _ _ _ _).mono ?_
  rintro e w1 ⟨rfl, hb1⟩
  have hs1 := keepS3 hb1 hs0 (.inl rfl)
  clear hb1 hs0
  obtain ⟨a1, a2, a3, a4, b1, b2, b3, b4, c1, c2, c3, c4⟩ := cells3 hs1
  go_wp2_with fail
  refine wp_region_held_drew (S := fun w' => S3 w k n k' n' k'' n'' f f' f'' s s' s'' w') (by kernel_rfl) (drewS3 hs1) (fun hHeld => ?_)
  refine wpAnyH_take (i := 0) (oi := { dst := some 23, op := Op.load 24 (Operand.tmp 3), type := 24, pos := _, after := #[], guard := none }) (v := (.agg #[.int .i64 k, .int .i64 n, .float .f64 f, .string s])) rfl (by kernel_rfl) (by kernel_rfl) (by kernel_rfl) (fun _ _ _ h => h) (Or.inl ⟨by rfl, ?_⟩) hHeld ?_
  · intro wx hx
    obtain ⟨a1, a2, a3, a4, b1, b2, b3, b4, c1, c2, c3, c4⟩ := cells3 hx
    go_simp
  simp only [Act.put, List.setIfInBounds_toArray, List.set_cons_zero, List.set_cons_succ]
  refine wpAnyH_take (i := 1) (oi := { dst := some 24, op := Op.load 24 (Operand.tmp 4), type := 24, pos := _, after := #[], guard := none }) (v := (.agg #[.int .i64 k', .int .i64 n', .float .f64 f', .string s'])) rfl (by kernel_rfl) (by kernel_rfl) (by kernel_rfl) (fun _ _ _ h => h) (Or.inl ⟨by rfl, ?_⟩) hHeld ?_
  · intro wx hx
    obtain ⟨a1, a2, a3, a4, b1, b2, b3, b4, c1, c2, c3, c4⟩ := cells3 hx
    go_simp
  simp only [Act.put, List.setIfInBounds_toArray, List.set_cons_zero, List.set_cons_succ]
  refine wpAnyH_ready (rs := [2]) (by kernel_rfl) (by simp) ?_
  refine AllReadyH.cons (o := { dst := some 25, op := Op.call { callee := Callee.value (Operand.func 14), args := #[Operand.tmp 23, Operand.tmp 24], argTypes := #[24, 24] }, type := 4, pos := _, after := #[{ on := 0, ground := Ground.data }, { on := 1, ground := Ground.data }], guard := none }) rfl (fun K hK => ?_) AllReadyH.nil
  go_simp
  refine (same_is hsm _).mono ?_
  rintro e w7 ⟨rfl, hb7⟩
  have hs7 := keepS3 hb7 hHeld (.inl rfl)
  refine hK.out _ _ hs7 (fun hHeld => ?_)
  refine wpAnyH_take (i := 3) (oi := { dst := some 26, op := Op.move (Operand.tmp 25), type := 4, pos := _, after := #[{ on := 2, ground := Ground.data }, { on := 2, ground := Ground.chain }], guard := none }) (v := .bool false) rfl (by kernel_rfl) (by kernel_rfl) (by kernel_rfl) (fun _ _ _ h => h) (Or.inl ⟨by kernel_rfl, ?_⟩) hs7 ?_
  · intro wx hx
    go_simp
  simp only [Act.put, List.setIfInBounds_toArray, List.set_cons_zero, List.set_cons_succ]
  refine wpAnyH_take (i := 4) (oi := { dst := some 27, op := Op.load 24 (Operand.tmp 3), type := 24, pos := _, after := #[{ on := 3, ground := Ground.guard }], guard := some (3, true) }) (v := undef) rfl (by kernel_rfl) (by kernel_rfl) (by kernel_rfl) (fun _ _ _ h => h) (Or.inr ⟨by kernel_rfl, rfl⟩) hs7 ?_
  simp only [Act.put, List.setIfInBounds_toArray, List.set_cons_zero, List.set_cons_succ]
  refine wpAnyH_take (i := 5) (oi := { dst := some 28, op := Op.load 24 (Operand.tmp 5), type := 24, pos := _, after := #[{ on := 3, ground := Ground.guard }], guard := some (3, true) }) (v := undef) rfl (by kernel_rfl) (by kernel_rfl) (by kernel_rfl) (fun _ _ _ h => h) (Or.inr ⟨by kernel_rfl, rfl⟩) hs7 ?_
  simp only [Act.put, List.setIfInBounds_toArray, List.set_cons_zero, List.set_cons_succ]
  refine wpAnyH_take (i := 6) (oi := { dst := some 29, op := Op.call { callee := Callee.value (Operand.func 12), args := #[Operand.tmp 27, Operand.tmp 28], argTypes := #[24, 24] }, type := 3, pos := _, after := #[{ on := 4, ground := Ground.data }, { on := 5, ground := Ground.data }, { on := 3, ground := Ground.chain }, { on := 3, ground := Ground.guard }], guard := some (3, true) }) (v := undef) rfl (by kernel_rfl) (by kernel_rfl) (by kernel_rfl) (fun _ _ _ h => h) (Or.inr ⟨by kernel_rfl, rfl⟩) hs7 ?_
  simp only [Act.put, List.setIfInBounds_toArray, List.set_cons_zero, List.set_cons_succ]
  refine wpAnyH_take (i := 7) (oi := { dst := some 30, op := Op.load 24 (Operand.tmp 4), type := 24, pos := _, after := #[{ on := 3, ground := Ground.guard }], guard := some (3, true) }) (v := undef) rfl (by kernel_rfl) (by kernel_rfl) (by kernel_rfl) (fun _ _ _ h => h) (Or.inr ⟨by kernel_rfl, rfl⟩) hs7 ?_
  simp only [Act.put, List.setIfInBounds_toArray, List.set_cons_zero, List.set_cons_succ]
  refine wpAnyH_take (i := 8) (oi := { dst := some 31, op := Op.load 24 (Operand.tmp 5), type := 24, pos := _, after := #[{ on := 3, ground := Ground.guard }], guard := some (3, true) }) (v := undef) rfl (by kernel_rfl) (by kernel_rfl) (by kernel_rfl) (fun _ _ _ h => h) (Or.inr ⟨by kernel_rfl, rfl⟩) hs7 ?_
  simp only [Act.put, List.setIfInBounds_toArray, List.set_cons_zero, List.set_cons_succ]
  refine wpAnyH_take (i := 9) (oi := { dst := some 32, op := Op.call { callee := Callee.value (Operand.func 12), args := #[Operand.tmp 30, Operand.tmp 31], argTypes := #[24, 24] }, type := 3, pos := _, after := #[{ on := 7, ground := Ground.data }, { on := 8, ground := Ground.data }, { on := 6, ground := Ground.chain }, { on := 3, ground := Ground.guard }], guard := some (3, true) }) (v := undef) rfl (by kernel_rfl) (by kernel_rfl) (by kernel_rfl) (fun _ _ _ h => h) (Or.inr ⟨by kernel_rfl, rfl⟩) hs7 ?_
  simp only [Act.put, List.setIfInBounds_toArray, List.set_cons_zero, List.set_cons_succ]
  refine wpAnyH_take (i := 10) (oi := { dst := some 33, op := Op.binOp BinOp.neq 3 (Operand.tmp 29) (Operand.tmp 32) 3, type := 4, pos := _, after := #[{ on := 6, ground := Ground.data }, { on := 9, ground := Ground.data }, { on := 3, ground := Ground.guard }], guard := some (3, true) }) (v := undef) rfl (by kernel_rfl) (by kernel_rfl) (by kernel_rfl) (fun _ _ _ h => h) (Or.inr ⟨by kernel_rfl, rfl⟩) hs7 ?_
  simp only [Act.put, List.setIfInBounds_toArray, List.set_cons_zero, List.set_cons_succ]
  refine wpAnyH_take (i := 11) (oi := { dst := some 34, op := Op.pick (Operand.tmp 26) (Operand.tmp 33) (Operand.const (Value.bool false)), type := 4, pos := _, after := #[{ on := 3, ground := Ground.data }, { on := 10, ground := Ground.data }], guard := none }) (v := .bool false) rfl (by kernel_rfl) (by kernel_rfl) (by kernel_rfl) (fun _ _ _ h => h) (Or.inl ⟨by kernel_rfl, ?_⟩) hs7 ?_
  · intro wx hx
    go_simp
  simp only [Act.put, List.setIfInBounds_toArray, List.set_cons_zero, List.set_cons_succ]
  refine wpAnyH_done (by kernel_rfl) ?_ _
  go_wp2_with fail
  refine (awakeS3 w k n k' n' k'' n'' f f' f'' s s' s'' _ hs7).mono ?_
  rintro e w8 ⟨rfl, hb8⟩
  have hs8 := keepS3 hb8 hs7 (.inl rfl)
  go_wp2
  go_ret
  exact ⟨rfl, endS3 hs8⟩

set_option maxHeartbeats 4000000 in
theorem lawTotalB_false (k n k' n' k'' n'' : Int) (f f' f'' : Nat) (s s' s'' : ByteArray) (w : World) (hg : 4 < w.heap.size) (hc : w.cell? ⟨4, 0, none⟩ = some (.int .u64 1)) (h1 : cmpV k n k' n' f f' s s' ≤ 0) (h2 : ¬ cmpV k' n' k'' n'' f' f'' s' s'' ≤ 0) (hsm : sameB k n k' n' f f' s s' = false) :
    Calls Tryz.prog 5 #[.agg #[.int .i64 k, .int .i64 n, .float .f64 f, .string s], .agg #[.int .i64 k', .int .i64 n', .float .f64 f', .string s'], .agg #[.int .i64 k'', .int .i64 n'', .float .f64 f'', .string s'']] w fun e w' => e = .returned (.bool true) ∧ Below w.heap.size w w' := by
  have hs0 := startS3 w k n k' n' k'' n'' f f' f'' s s' s'' hg hc
  clear hg hc
  go_enter Tryz.func5, Tryz.ntmps5
  go_wp2_with fail
  refine (cmpV_any _ _ _ _ _ _ _ _ _).mono ?_
  rintro e w1 ⟨rfl, hb1⟩
  have hs1 := keepS3 hb1 hs0 (.inl rfl)
  clear hb1 hs0
  obtain ⟨a1, a2, a3, a4, b1, b2, b3, b4, c1, c2, c3, c4⟩ := cells3 hs1
  go_wp2_with fail
  refine (cmpV_any _ _ _ _ _ _ _ _ _).mono ?_
  rintro e w2 ⟨rfl, hb2⟩
  have hs2 := keepS3 hb2 hs1 (.inl rfl)
  clear hb2 hs1
  clear a1 a2 a3 a4 b1 b2 b3 b4 c1 c2 c3 c4
  obtain ⟨a1, a2, a3, a4, b1, b2, b3, b4, c1, c2, c3, c4⟩ := cells3 hs2
  go_wp2_with fail
  refine wp_region_held_drew (S := fun w' => S3 w k n k' n' k'' n'' f f' f'' s s' s'' w') (by kernel_rfl) (drewS3 hs2) (fun hHeld => ?_)
  refine wpAnyH_take (i := 0) (oi := { dst := some 23, op := Op.load 24 (Operand.tmp 3), type := 24, pos := _, after := #[], guard := none }) (v := (.agg #[.int .i64 k, .int .i64 n, .float .f64 f, .string s])) rfl (by kernel_rfl) (by kernel_rfl) (by kernel_rfl) (fun _ _ _ h => h) (Or.inl ⟨by rfl, ?_⟩) hHeld ?_
  · intro wx hx
    obtain ⟨a1, a2, a3, a4, b1, b2, b3, b4, c1, c2, c3, c4⟩ := cells3 hx
    go_simp
  simp only [Act.put, List.setIfInBounds_toArray, List.set_cons_zero, List.set_cons_succ]
  refine wpAnyH_take (i := 1) (oi := { dst := some 24, op := Op.load 24 (Operand.tmp 4), type := 24, pos := _, after := #[], guard := none }) (v := (.agg #[.int .i64 k', .int .i64 n', .float .f64 f', .string s'])) rfl (by kernel_rfl) (by kernel_rfl) (by kernel_rfl) (fun _ _ _ h => h) (Or.inl ⟨by rfl, ?_⟩) hHeld ?_
  · intro wx hx
    obtain ⟨a1, a2, a3, a4, b1, b2, b3, b4, c1, c2, c3, c4⟩ := cells3 hx
    go_simp
  simp only [Act.put, List.setIfInBounds_toArray, List.set_cons_zero, List.set_cons_succ]
  refine wpAnyH_ready (rs := [2]) (by kernel_rfl) (by simp) ?_
  refine AllReadyH.cons (o := { dst := some 25, op := Op.call { callee := Callee.value (Operand.func 14), args := #[Operand.tmp 23, Operand.tmp 24], argTypes := #[24, 24] }, type := 4, pos := _, after := #[{ on := 0, ground := Ground.data }, { on := 1, ground := Ground.data }], guard := none }) rfl (fun K hK => ?_) AllReadyH.nil
  go_simp
  refine (same_is hsm _).mono ?_
  rintro e w7 ⟨rfl, hb7⟩
  have hs7 := keepS3 hb7 hHeld (.inl rfl)
  refine hK.out _ _ hs7 (fun hHeld => ?_)
  refine wpAnyH_take (i := 3) (oi := { dst := some 26, op := Op.move (Operand.tmp 25), type := 4, pos := _, after := #[{ on := 2, ground := Ground.data }, { on := 2, ground := Ground.chain }], guard := none }) (v := .bool false) rfl (by kernel_rfl) (by kernel_rfl) (by kernel_rfl) (fun _ _ _ h => h) (Or.inl ⟨by kernel_rfl, ?_⟩) hs7 ?_
  · intro wx hx
    go_simp
  simp only [Act.put, List.setIfInBounds_toArray, List.set_cons_zero, List.set_cons_succ]
  refine wpAnyH_take (i := 4) (oi := { dst := some 27, op := Op.load 24 (Operand.tmp 3), type := 24, pos := _, after := #[{ on := 3, ground := Ground.guard }], guard := some (3, true) }) (v := undef) rfl (by kernel_rfl) (by kernel_rfl) (by kernel_rfl) (fun _ _ _ h => h) (Or.inr ⟨by kernel_rfl, rfl⟩) hs7 ?_
  simp only [Act.put, List.setIfInBounds_toArray, List.set_cons_zero, List.set_cons_succ]
  refine wpAnyH_take (i := 5) (oi := { dst := some 28, op := Op.load 24 (Operand.tmp 5), type := 24, pos := _, after := #[{ on := 3, ground := Ground.guard }], guard := some (3, true) }) (v := undef) rfl (by kernel_rfl) (by kernel_rfl) (by kernel_rfl) (fun _ _ _ h => h) (Or.inr ⟨by kernel_rfl, rfl⟩) hs7 ?_
  simp only [Act.put, List.setIfInBounds_toArray, List.set_cons_zero, List.set_cons_succ]
  refine wpAnyH_take (i := 6) (oi := { dst := some 29, op := Op.call { callee := Callee.value (Operand.func 12), args := #[Operand.tmp 27, Operand.tmp 28], argTypes := #[24, 24] }, type := 3, pos := _, after := #[{ on := 4, ground := Ground.data }, { on := 5, ground := Ground.data }, { on := 3, ground := Ground.chain }, { on := 3, ground := Ground.guard }], guard := some (3, true) }) (v := undef) rfl (by kernel_rfl) (by kernel_rfl) (by kernel_rfl) (fun _ _ _ h => h) (Or.inr ⟨by kernel_rfl, rfl⟩) hs7 ?_
  simp only [Act.put, List.setIfInBounds_toArray, List.set_cons_zero, List.set_cons_succ]
  refine wpAnyH_take (i := 7) (oi := { dst := some 30, op := Op.load 24 (Operand.tmp 4), type := 24, pos := _, after := #[{ on := 3, ground := Ground.guard }], guard := some (3, true) }) (v := undef) rfl (by kernel_rfl) (by kernel_rfl) (by kernel_rfl) (fun _ _ _ h => h) (Or.inr ⟨by kernel_rfl, rfl⟩) hs7 ?_
  simp only [Act.put, List.setIfInBounds_toArray, List.set_cons_zero, List.set_cons_succ]
  refine wpAnyH_take (i := 8) (oi := { dst := some 31, op := Op.load 24 (Operand.tmp 5), type := 24, pos := _, after := #[{ on := 3, ground := Ground.guard }], guard := some (3, true) }) (v := undef) rfl (by kernel_rfl) (by kernel_rfl) (by kernel_rfl) (fun _ _ _ h => h) (Or.inr ⟨by kernel_rfl, rfl⟩) hs7 ?_
  simp only [Act.put, List.setIfInBounds_toArray, List.set_cons_zero, List.set_cons_succ]
  refine wpAnyH_take (i := 9) (oi := { dst := some 32, op := Op.call { callee := Callee.value (Operand.func 12), args := #[Operand.tmp 30, Operand.tmp 31], argTypes := #[24, 24] }, type := 3, pos := _, after := #[{ on := 7, ground := Ground.data }, { on := 8, ground := Ground.data }, { on := 6, ground := Ground.chain }, { on := 3, ground := Ground.guard }], guard := some (3, true) }) (v := undef) rfl (by kernel_rfl) (by kernel_rfl) (by kernel_rfl) (fun _ _ _ h => h) (Or.inr ⟨by kernel_rfl, rfl⟩) hs7 ?_
  simp only [Act.put, List.setIfInBounds_toArray, List.set_cons_zero, List.set_cons_succ]
  refine wpAnyH_take (i := 10) (oi := { dst := some 33, op := Op.binOp BinOp.neq 3 (Operand.tmp 29) (Operand.tmp 32) 3, type := 4, pos := _, after := #[{ on := 6, ground := Ground.data }, { on := 9, ground := Ground.data }, { on := 3, ground := Ground.guard }], guard := some (3, true) }) (v := undef) rfl (by kernel_rfl) (by kernel_rfl) (by kernel_rfl) (fun _ _ _ h => h) (Or.inr ⟨by kernel_rfl, rfl⟩) hs7 ?_
  simp only [Act.put, List.setIfInBounds_toArray, List.set_cons_zero, List.set_cons_succ]
  refine wpAnyH_take (i := 11) (oi := { dst := some 34, op := Op.pick (Operand.tmp 26) (Operand.tmp 33) (Operand.const (Value.bool false)), type := 4, pos := _, after := #[{ on := 3, ground := Ground.data }, { on := 10, ground := Ground.data }], guard := none }) (v := .bool false) rfl (by kernel_rfl) (by kernel_rfl) (by kernel_rfl) (fun _ _ _ h => h) (Or.inl ⟨by kernel_rfl, ?_⟩) hs7 ?_
  · intro wx hx
    go_simp
  simp only [Act.put, List.setIfInBounds_toArray, List.set_cons_zero, List.set_cons_succ]
  refine wpAnyH_done (by kernel_rfl) ?_ _
  go_wp2_with fail
  refine (awakeS3 w k n k' n' k'' n'' f f' f'' s s' s'' _ hs7).mono ?_
  rintro e w8 ⟨rfl, hb8⟩
  have hs8 := keepS3 hb8 hs7 (.inl rfl)
  go_wp2
  go_ret
  exact ⟨rfl, endS3 hs8⟩

set_option maxHeartbeats 4000000 in
theorem lawTotalC_false (k n k' n' k'' n'' : Int) (f f' f'' : Nat) (s s' s'' : ByteArray) (w : World) (hg : 4 < w.heap.size) (hc : w.cell? ⟨4, 0, none⟩ = some (.int .u64 1)) (h1 : cmpV k n k' n' f f' s s' ≤ 0) (h2 : cmpV k' n' k'' n'' f' f'' s' s'' ≤ 0) (h3 : ¬ cmpV k n k'' n'' f f'' s s'' > 0) (hsm : sameB k n k' n' f f' s s' = false) :
    Calls Tryz.prog 5 #[.agg #[.int .i64 k, .int .i64 n, .float .f64 f, .string s], .agg #[.int .i64 k', .int .i64 n', .float .f64 f', .string s'], .agg #[.int .i64 k'', .int .i64 n'', .float .f64 f'', .string s'']] w fun e w' => e = .returned (.bool true) ∧ Below w.heap.size w w' := by
  have hs0 := startS3 w k n k' n' k'' n'' f f' f'' s s' s'' hg hc
  clear hg hc
  go_enter Tryz.func5, Tryz.ntmps5
  go_wp2_with fail
  refine (cmpV_any _ _ _ _ _ _ _ _ _).mono ?_
  rintro e w1 ⟨rfl, hb1⟩
  have hs1 := keepS3 hb1 hs0 (.inl rfl)
  clear hb1 hs0
  obtain ⟨a1, a2, a3, a4, b1, b2, b3, b4, c1, c2, c3, c4⟩ := cells3 hs1
  go_wp2_with fail
  refine (cmpV_any _ _ _ _ _ _ _ _ _).mono ?_
  rintro e w2 ⟨rfl, hb2⟩
  have hs2 := keepS3 hb2 hs1 (.inl rfl)
  clear hb2 hs1
  clear a1 a2 a3 a4 b1 b2 b3 b4 c1 c2 c3 c4
  obtain ⟨a1, a2, a3, a4, b1, b2, b3, b4, c1, c2, c3, c4⟩ := cells3 hs2
  go_wp2_with fail
  refine (cmpV_any _ _ _ _ _ _ _ _ _).mono ?_
  rintro e w3 ⟨rfl, hb3⟩
  have hs3 := keepS3 hb3 hs2 (.inl rfl)
  clear hb3 hs2
  clear a1 a2 a3 a4 b1 b2 b3 b4 c1 c2 c3 c4
  obtain ⟨a1, a2, a3, a4, b1, b2, b3, b4, c1, c2, c3, c4⟩ := cells3 hs3
  go_wp2_with fail
  refine wp_region_held_drew (S := fun w' => S3 w k n k' n' k'' n'' f f' f'' s s' s'' w') (by kernel_rfl) (drewS3 hs3) (fun hHeld => ?_)
  refine wpAnyH_take (i := 0) (oi := { dst := some 23, op := Op.load 24 (Operand.tmp 3), type := 24, pos := _, after := #[], guard := none }) (v := (.agg #[.int .i64 k, .int .i64 n, .float .f64 f, .string s])) rfl (by kernel_rfl) (by kernel_rfl) (by kernel_rfl) (fun _ _ _ h => h) (Or.inl ⟨by rfl, ?_⟩) hHeld ?_
  · intro wx hx
    obtain ⟨a1, a2, a3, a4, b1, b2, b3, b4, c1, c2, c3, c4⟩ := cells3 hx
    go_simp
  simp only [Act.put, List.setIfInBounds_toArray, List.set_cons_zero, List.set_cons_succ]
  refine wpAnyH_take (i := 1) (oi := { dst := some 24, op := Op.load 24 (Operand.tmp 4), type := 24, pos := _, after := #[], guard := none }) (v := (.agg #[.int .i64 k', .int .i64 n', .float .f64 f', .string s'])) rfl (by kernel_rfl) (by kernel_rfl) (by kernel_rfl) (fun _ _ _ h => h) (Or.inl ⟨by rfl, ?_⟩) hHeld ?_
  · intro wx hx
    obtain ⟨a1, a2, a3, a4, b1, b2, b3, b4, c1, c2, c3, c4⟩ := cells3 hx
    go_simp
  simp only [Act.put, List.setIfInBounds_toArray, List.set_cons_zero, List.set_cons_succ]
  refine wpAnyH_ready (rs := [2]) (by kernel_rfl) (by simp) ?_
  refine AllReadyH.cons (o := { dst := some 25, op := Op.call { callee := Callee.value (Operand.func 14), args := #[Operand.tmp 23, Operand.tmp 24], argTypes := #[24, 24] }, type := 4, pos := _, after := #[{ on := 0, ground := Ground.data }, { on := 1, ground := Ground.data }], guard := none }) rfl (fun K hK => ?_) AllReadyH.nil
  go_simp
  refine (same_is hsm _).mono ?_
  rintro e w7 ⟨rfl, hb7⟩
  have hs7 := keepS3 hb7 hHeld (.inl rfl)
  refine hK.out _ _ hs7 (fun hHeld => ?_)
  refine wpAnyH_take (i := 3) (oi := { dst := some 26, op := Op.move (Operand.tmp 25), type := 4, pos := _, after := #[{ on := 2, ground := Ground.data }, { on := 2, ground := Ground.chain }], guard := none }) (v := .bool false) rfl (by kernel_rfl) (by kernel_rfl) (by kernel_rfl) (fun _ _ _ h => h) (Or.inl ⟨by kernel_rfl, ?_⟩) hs7 ?_
  · intro wx hx
    go_simp
  simp only [Act.put, List.setIfInBounds_toArray, List.set_cons_zero, List.set_cons_succ]
  refine wpAnyH_take (i := 4) (oi := { dst := some 27, op := Op.load 24 (Operand.tmp 3), type := 24, pos := _, after := #[{ on := 3, ground := Ground.guard }], guard := some (3, true) }) (v := undef) rfl (by kernel_rfl) (by kernel_rfl) (by kernel_rfl) (fun _ _ _ h => h) (Or.inr ⟨by kernel_rfl, rfl⟩) hs7 ?_
  simp only [Act.put, List.setIfInBounds_toArray, List.set_cons_zero, List.set_cons_succ]
  refine wpAnyH_take (i := 5) (oi := { dst := some 28, op := Op.load 24 (Operand.tmp 5), type := 24, pos := _, after := #[{ on := 3, ground := Ground.guard }], guard := some (3, true) }) (v := undef) rfl (by kernel_rfl) (by kernel_rfl) (by kernel_rfl) (fun _ _ _ h => h) (Or.inr ⟨by kernel_rfl, rfl⟩) hs7 ?_
  simp only [Act.put, List.setIfInBounds_toArray, List.set_cons_zero, List.set_cons_succ]
  refine wpAnyH_take (i := 6) (oi := { dst := some 29, op := Op.call { callee := Callee.value (Operand.func 12), args := #[Operand.tmp 27, Operand.tmp 28], argTypes := #[24, 24] }, type := 3, pos := _, after := #[{ on := 4, ground := Ground.data }, { on := 5, ground := Ground.data }, { on := 3, ground := Ground.chain }, { on := 3, ground := Ground.guard }], guard := some (3, true) }) (v := undef) rfl (by kernel_rfl) (by kernel_rfl) (by kernel_rfl) (fun _ _ _ h => h) (Or.inr ⟨by kernel_rfl, rfl⟩) hs7 ?_
  simp only [Act.put, List.setIfInBounds_toArray, List.set_cons_zero, List.set_cons_succ]
  refine wpAnyH_take (i := 7) (oi := { dst := some 30, op := Op.load 24 (Operand.tmp 4), type := 24, pos := _, after := #[{ on := 3, ground := Ground.guard }], guard := some (3, true) }) (v := undef) rfl (by kernel_rfl) (by kernel_rfl) (by kernel_rfl) (fun _ _ _ h => h) (Or.inr ⟨by kernel_rfl, rfl⟩) hs7 ?_
  simp only [Act.put, List.setIfInBounds_toArray, List.set_cons_zero, List.set_cons_succ]
  refine wpAnyH_take (i := 8) (oi := { dst := some 31, op := Op.load 24 (Operand.tmp 5), type := 24, pos := _, after := #[{ on := 3, ground := Ground.guard }], guard := some (3, true) }) (v := undef) rfl (by kernel_rfl) (by kernel_rfl) (by kernel_rfl) (fun _ _ _ h => h) (Or.inr ⟨by kernel_rfl, rfl⟩) hs7 ?_
  simp only [Act.put, List.setIfInBounds_toArray, List.set_cons_zero, List.set_cons_succ]
  refine wpAnyH_take (i := 9) (oi := { dst := some 32, op := Op.call { callee := Callee.value (Operand.func 12), args := #[Operand.tmp 30, Operand.tmp 31], argTypes := #[24, 24] }, type := 3, pos := _, after := #[{ on := 7, ground := Ground.data }, { on := 8, ground := Ground.data }, { on := 6, ground := Ground.chain }, { on := 3, ground := Ground.guard }], guard := some (3, true) }) (v := undef) rfl (by kernel_rfl) (by kernel_rfl) (by kernel_rfl) (fun _ _ _ h => h) (Or.inr ⟨by kernel_rfl, rfl⟩) hs7 ?_
  simp only [Act.put, List.setIfInBounds_toArray, List.set_cons_zero, List.set_cons_succ]
  refine wpAnyH_take (i := 10) (oi := { dst := some 33, op := Op.binOp BinOp.neq 3 (Operand.tmp 29) (Operand.tmp 32) 3, type := 4, pos := _, after := #[{ on := 6, ground := Ground.data }, { on := 9, ground := Ground.data }, { on := 3, ground := Ground.guard }], guard := some (3, true) }) (v := undef) rfl (by kernel_rfl) (by kernel_rfl) (by kernel_rfl) (fun _ _ _ h => h) (Or.inr ⟨by kernel_rfl, rfl⟩) hs7 ?_
  simp only [Act.put, List.setIfInBounds_toArray, List.set_cons_zero, List.set_cons_succ]
  refine wpAnyH_take (i := 11) (oi := { dst := some 34, op := Op.pick (Operand.tmp 26) (Operand.tmp 33) (Operand.const (Value.bool false)), type := 4, pos := _, after := #[{ on := 3, ground := Ground.data }, { on := 10, ground := Ground.data }], guard := none }) (v := .bool false) rfl (by kernel_rfl) (by kernel_rfl) (by kernel_rfl) (fun _ _ _ h => h) (Or.inl ⟨by kernel_rfl, ?_⟩) hs7 ?_
  · intro wx hx
    go_simp
  simp only [Act.put, List.setIfInBounds_toArray, List.set_cons_zero, List.set_cons_succ]
  refine wpAnyH_done (by kernel_rfl) ?_ _
  go_wp2_with fail
  refine (awakeS3 w k n k' n' k'' n'' f f' f'' s s' s'' _ hs7).mono ?_
  rintro e w8 ⟨rfl, hb8⟩
  have hs8 := keepS3 hb8 hs7 (.inl rfl)
  go_wp2
  go_ret
  exact ⟨rfl, endS3 hs8⟩

set_option maxHeartbeats 4000000 in
theorem lawTotalA_true (k n k' n' k'' n'' : Int) (f f' f'' : Nat) (s s' s'' : ByteArray) (w : World) (hg : 4 < w.heap.size) (hc : w.cell? ⟨4, 0, none⟩ = some (.int .u64 1)) (h1 : ¬ cmpV k n k' n' f f' s s' ≤ 0) (hsm : sameB k n k' n' f f' s s' = true) (heq : cmpV k n k'' n'' f f'' s s'' = cmpV k' n' k'' n'' f' f'' s' s'') :
    Calls Tryz.prog 5 #[.agg #[.int .i64 k, .int .i64 n, .float .f64 f, .string s], .agg #[.int .i64 k', .int .i64 n', .float .f64 f', .string s'], .agg #[.int .i64 k'', .int .i64 n'', .float .f64 f'', .string s'']] w fun e w' => e = .returned (.bool true) ∧ Below w.heap.size w w' := by
  have hs0 := startS3 w k n k' n' k'' n'' f f' f'' s s' s'' hg hc
  clear hg hc
  go_enter Tryz.func5, Tryz.ntmps5
  go_wp2_with fail
  refine (cmpV_any _ _ _ _ _ _ _ _ _).mono ?_
  rintro e w1 ⟨rfl, hb1⟩
  have hs1 := keepS3 hb1 hs0 (.inl rfl)
  clear hb1 hs0
  obtain ⟨a1, a2, a3, a4, b1, b2, b3, b4, c1, c2, c3, c4⟩ := cells3 hs1
  go_wp2_with fail
  go_region_held3 (fun w' => S3 w k n k' n' k'' n'' f f' f'' s s' s'' w') (first | exact drewS3 hs1 | (apply keepS3; assumption; assumption; first | exact Or.inl rfl | exact Or.inr (Nat.le_refl _) | exact Or.inr (by simp))) (first | (go_at_call 12; refine (cmpV_any _ _ _ _ _ _ _ _ _).mono ?_; rintro e w' ⟨rfl, hb⟩) | (go_at_call 14; refine (same_is hsm _).mono ?_; rintro e w' ⟨rfl, hb⟩))
  go_wp2_with fail
  refine (awakeS3 w k n k' n' k'' n'' f f' f'' s s' s'' _ (by assumption)).mono ?_
  rintro e w8 ⟨rfl, hb8⟩
  have hs8 := keepS3 hb8 (by assumption) (.inl rfl)
  go_wp2
  go_ret
  exact ⟨rfl, endS3 hs8⟩

set_option maxHeartbeats 4000000 in
theorem lawTotalB_true (k n k' n' k'' n'' : Int) (f f' f'' : Nat) (s s' s'' : ByteArray) (w : World) (hg : 4 < w.heap.size) (hc : w.cell? ⟨4, 0, none⟩ = some (.int .u64 1)) (h1 : cmpV k n k' n' f f' s s' ≤ 0) (h2 : ¬ cmpV k' n' k'' n'' f' f'' s' s'' ≤ 0) (hsm : sameB k n k' n' f f' s s' = true) (heq : cmpV k n k'' n'' f f'' s s'' = cmpV k' n' k'' n'' f' f'' s' s'') :
    Calls Tryz.prog 5 #[.agg #[.int .i64 k, .int .i64 n, .float .f64 f, .string s], .agg #[.int .i64 k', .int .i64 n', .float .f64 f', .string s'], .agg #[.int .i64 k'', .int .i64 n'', .float .f64 f'', .string s'']] w fun e w' => e = .returned (.bool true) ∧ Below w.heap.size w w' := by
  have hs0 := startS3 w k n k' n' k'' n'' f f' f'' s s' s'' hg hc
  clear hg hc
  go_enter Tryz.func5, Tryz.ntmps5
  go_wp2_with fail
  refine (cmpV_any _ _ _ _ _ _ _ _ _).mono ?_
  rintro e w1 ⟨rfl, hb1⟩
  have hs1 := keepS3 hb1 hs0 (.inl rfl)
  clear hb1 hs0
  obtain ⟨a1, a2, a3, a4, b1, b2, b3, b4, c1, c2, c3, c4⟩ := cells3 hs1
  go_wp2_with fail
  refine (cmpV_any _ _ _ _ _ _ _ _ _).mono ?_
  rintro e w2 ⟨rfl, hb2⟩
  have hs2 := keepS3 hb2 hs1 (.inl rfl)
  clear hb2 hs1
  clear a1 a2 a3 a4 b1 b2 b3 b4 c1 c2 c3 c4
  obtain ⟨a1, a2, a3, a4, b1, b2, b3, b4, c1, c2, c3, c4⟩ := cells3 hs2
  go_wp2_with fail
  go_region_held3 (fun w' => S3 w k n k' n' k'' n'' f f' f'' s s' s'' w') (first | exact drewS3 hs2 | (apply keepS3; assumption; assumption; first | exact Or.inl rfl | exact Or.inr (Nat.le_refl _) | exact Or.inr (by simp))) (first | (go_at_call 12; refine (cmpV_any _ _ _ _ _ _ _ _ _).mono ?_; rintro e w' ⟨rfl, hb⟩) | (go_at_call 14; refine (same_is hsm _).mono ?_; rintro e w' ⟨rfl, hb⟩))
  go_wp2_with fail
  refine (awakeS3 w k n k' n' k'' n'' f f' f'' s s' s'' _ (by assumption)).mono ?_
  rintro e w8 ⟨rfl, hb8⟩
  have hs8 := keepS3 hb8 (by assumption) (.inl rfl)
  go_wp2
  go_ret
  exact ⟨rfl, endS3 hs8⟩

set_option maxHeartbeats 4000000 in
theorem lawTotalC_true (k n k' n' k'' n'' : Int) (f f' f'' : Nat) (s s' s'' : ByteArray) (w : World) (hg : 4 < w.heap.size) (hc : w.cell? ⟨4, 0, none⟩ = some (.int .u64 1)) (h1 : cmpV k n k' n' f f' s s' ≤ 0) (h2 : cmpV k' n' k'' n'' f' f'' s' s'' ≤ 0) (_h3 : ¬ cmpV k n k'' n'' f f'' s s'' > 0) (hsm : sameB k n k' n' f f' s s' = true) (heq : cmpV k n k'' n'' f f'' s s'' = cmpV k' n' k'' n'' f' f'' s' s'') :
    Calls Tryz.prog 5 #[.agg #[.int .i64 k, .int .i64 n, .float .f64 f, .string s], .agg #[.int .i64 k', .int .i64 n', .float .f64 f', .string s'], .agg #[.int .i64 k'', .int .i64 n'', .float .f64 f'', .string s'']] w fun e w' => e = .returned (.bool true) ∧ Below w.heap.size w w' := by
  have hs0 := startS3 w k n k' n' k'' n'' f f' f'' s s' s'' hg hc
  clear hg hc
  go_enter Tryz.func5, Tryz.ntmps5
  go_wp2_with fail
  refine (cmpV_any _ _ _ _ _ _ _ _ _).mono ?_
  rintro e w1 ⟨rfl, hb1⟩
  have hs1 := keepS3 hb1 hs0 (.inl rfl)
  clear hb1 hs0
  obtain ⟨a1, a2, a3, a4, b1, b2, b3, b4, c1, c2, c3, c4⟩ := cells3 hs1
  go_wp2_with fail
  refine (cmpV_any _ _ _ _ _ _ _ _ _).mono ?_
  rintro e w2 ⟨rfl, hb2⟩
  have hs2 := keepS3 hb2 hs1 (.inl rfl)
  clear hb2 hs1
  clear a1 a2 a3 a4 b1 b2 b3 b4 c1 c2 c3 c4
  obtain ⟨a1, a2, a3, a4, b1, b2, b3, b4, c1, c2, c3, c4⟩ := cells3 hs2
  go_wp2_with fail
  refine (cmpV_any _ _ _ _ _ _ _ _ _).mono ?_
  rintro e w3 ⟨rfl, hb3⟩
  have hs3 := keepS3 hb3 hs2 (.inl rfl)
  clear hb3 hs2
  clear a1 a2 a3 a4 b1 b2 b3 b4 c1 c2 c3 c4
  obtain ⟨a1, a2, a3, a4, b1, b2, b3, b4, c1, c2, c3, c4⟩ := cells3 hs3
  go_wp2_with fail
  go_region_held3 (fun w' => S3 w k n k' n' k'' n'' f f' f'' s s' s'' w') (first | exact drewS3 hs3 | (apply keepS3; assumption; assumption; first | exact Or.inl rfl | exact Or.inr (Nat.le_refl _) | exact Or.inr (by simp))) (first | (go_at_call 12; refine (cmpV_any _ _ _ _ _ _ _ _ _).mono ?_; rintro e w' ⟨rfl, hb⟩) | (go_at_call 14; refine (same_is hsm _).mono ?_; rintro e w' ⟨rfl, hb⟩))
  go_wp2_with fail
  refine (awakeS3 w k n k' n' k'' n'' f f' f'' s s' s'' _ (by assumption)).mono ?_
  rintro e w8 ⟨rfl, hb8⟩
  have hs8 := keepS3 hb8 (by assumption) (.inl rfl)
  go_wp2
  go_ret
  exact ⟨rfl, endS3 hs8⟩

set_option maxHeartbeats 4000000 in
theorem lawTotal (k n k' n' k'' n'' : Int) (f f' f'' : Nat) (s s' s'' : ByteArray) (w : World) (hg : 4 < w.heap.size) (hc : w.cell? ⟨4, 0, none⟩ = some (.int .u64 1)) (hf : f < 18446744073709551616) (hf' : f' < 18446744073709551616) (hf'' : f'' < 18446744073709551616) :
    Calls Tryz.prog 5 #[.agg #[.int .i64 k, .int .i64 n, .float .f64 f, .string s], .agg #[.int .i64 k', .int .i64 n', .float .f64 f', .string s'], .agg #[.int .i64 k'', .int .i64 n'', .float .f64 f'', .string s'']] w fun e w' => e = .returned (.bool true) ∧ Below w.heap.size w w' := by
  have ht := cmpV_trans hf hf' hf'' k n k' n' k'' n'' s s' s''
  cases hsm : sameB k n k' n' f f' s s' with
  | false =>
    by_cases h1 : cmpV k n k' n' f f' s s' ≤ 0
    · by_cases h2 : cmpV k' n' k'' n'' f' f'' s' s'' ≤ 0
      · exact lawTotalC_false k n k' n' k'' n'' f f' f'' s s' s'' w hg hc h1 h2 (by have := ht h1 h2; omega) hsm
      · exact lawTotalB_false k n k' n' k'' n'' f f' f'' s s' s'' w hg hc h1 h2 hsm
    · exact lawTotalA_false k n k' n' k'' n'' f f' f'' s s' s'' w hg hc h1 hsm
  | true =>
    have heq := cmpV_same hsm k'' n'' f'' s''
    by_cases h1 : cmpV k n k' n' f f' s s' ≤ 0
    · by_cases h2 : cmpV k' n' k'' n'' f' f'' s' s'' ≤ 0
      · exact lawTotalC_true k n k' n' k'' n'' f f' f'' s s' s'' w hg hc h1 h2 (by have := ht h1 h2; omega) hsm heq
      · exact lawTotalB_true k n k' n' k'' n'' f f' f'' s s' s'' w hg hc h1 h2 hsm heq
    · exact lawTotalA_true k n k' n' k'' n'' f f' f'' s s' s'' w hg hc h1 hsm heq
end Go.Proofs.YtcjieoomdhkleaaGreatDoor
