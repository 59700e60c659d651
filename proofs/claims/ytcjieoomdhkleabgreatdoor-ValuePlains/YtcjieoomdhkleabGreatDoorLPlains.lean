/- The walk of the statement on Plain: it answers true. -/
import Derived.Test.YtcjieoomdhkleabGreatDoorWPlain
import Derived.Deep.Light
namespace Go.Proofs.YtcjieoomdhkleabGreatDoor
open Go.RowKit Ieee
set_option maxRecDepth 100000

theorem run_frombits (n : Nat) (w : World) : (callFunc 34 #[.int .u64 (n : Int)]).run Tryz.prog w = .ok (.value (.float .f64 n)) w := by
  rw [run_callFunc_extern (fn := Tryz.f34) (e := Extern.MathFloatBits.float64frombits) Tryz.func34 (by kernel_rfl) (by kernel_rfl) (by kernel_rfl) (by kernel_rfl)]
  rfl
theorem run_nanbits (w : World) : (callFunc 34 #[.int .u64 9221120237041090560]).run Tryz.prog w = .ok (.value (.float .f64 9221120237041090560)) w := run_frombits 9221120237041090560 w

set_option maxHeartbeats 400000 in
theorem isZero_any (f : Nat) (w : World) :
    Calls Tryz.prog 58 #[.float .f64 f] w fun e w' => e = .returned (.bool (zeroB f)) ∧ w' = w := by
  have hb := run_fbits
  go_enter Tryz.func58, Tryz.ntmps58
  go_wp2
  go_ret
  exact ⟨rfl, rfl⟩

set_option maxHeartbeats 400000 in
theorem plainFloat_any (f : Nat) (w : World) :
    Calls Tryz.prog 32 #[.float .f64 f] w fun e w' => e = .returned (.float .f64 (plainF f)) ∧ w' = w := by
  have hb := run_nanbits
  cases h1 : nanB f <;> cases h2 : zeroB f
  all_goals
    go_enter Tryz.func32, Tryz.ntmps32
    go_wp2_with (first | (go_at_call 56; refine (isNaN_any _ _).mono ?_; rintro e w' ⟨rfl, rfl⟩) | (go_at_call 58; refine (isZero_any _ _).mono ?_; rintro e w' ⟨rfl, rfl⟩) | (go_at_call 57; go_in))
    go_ret
    exact ⟨by simp [plainF, h1, h2], rfl⟩

set_option maxHeartbeats 1000000 in
theorem plain_any (k n : Int) (f : Nat) (s : ByteArray) (w : World) :
    Calls Tryz.prog 12 #[.agg #[.int .i64 k, .int .i64 n, .float .f64 f, .string s]] w fun e w' => e = .returned (.agg #[.int .i64 k, .int .i64 n, .float .f64 (pf k f), .string s]) ∧ Below w.heap.size w w' := by
  have hsf := run_store_float
  cases h3 : (k == 3)
  · have e : pf k f = f := by simp [pf, h3]
    rw [e]
    clear e
    go_enter Tryz.func12, Tryz.ntmps12
    go_wp2
    go_returns
    exact ⟨rfl, by go_grown⟩
  · have e : pf k f = plainF f := by simp [pf, h3]
    rw [e]
    clear e
    go_enter Tryz.func12, Tryz.ntmps12
    go_wp2_with (first | (go_at_call 32; refine (plainFloat_any _ _).mono ?_; rintro e w' ⟨rfl, rfl⟩))
    go_returns
    exact ⟨rfl, by go_grown⟩

set_option maxHeartbeats 1000000 in
theorem rplain_any (k n : Int) (f : Nat) (s : ByteArray) (w : World) (hf : f < 18446744073709551616) :
    Calls Tryz.prog 13 #[.agg #[.int .i64 k, .int .i64 n, .float .f64 f, .string s]] w fun e w' => e = .returned (.agg #[.int .i64 k, .int .i64 n, .float .f64 (pf k f), .string s]) ∧ Below w.heap.size w w' := by
  have hsf := run_store_float
  have hnb := run_nanbits
  cases h3 : (k == 3)
  · have e : pf k f = f := by simp [pf, h3]
    rw [e]
    clear e hf
    go_enter Tryz.func13, Tryz.ntmps13
    go_wp2
    go_returns
    exact ⟨rfl, by go_grown⟩
  have hB := nanB_eq hf
  have hO := nanO_eq f
  cases hn : isN f
  · rw [hn] at hB hO
    have hz := order_zero hn hf
    cases hq : zeroB f
    · have e : pf k f = f := by simp [pf, h3, plainF, hB, hq]
      rw [e]
      rw [hq] at hz
      clear e hf hB hn hq
      go_enter Tryz.func13, Tryz.ntmps13
      go_wp2_with (first | (go_at_call 33; refine (risNaN_any _ _).mono ?_; rintro e w' ⟨rfl, rfl⟩))
      go_returns
      exact ⟨rfl, by go_grown⟩
    · have e : pf k f = 0 := by simp [pf, h3, plainF, hB, hq]
      rw [e]
      rw [hq] at hz
      clear e hf hB hn hq
      go_enter Tryz.func13, Tryz.ntmps13
      go_wp2_with (first | (go_at_call 33; refine (risNaN_any _ _).mono ?_; rintro e w' ⟨rfl, rfl⟩))
      go_returns
      exact ⟨rfl, by go_grown⟩
  · rw [hn] at hB hO
    have hz : FloatKind.f64.format.order 9221120237041090560 0 = none := order_nan (.inl isN_plainNaN)
    have e : pf k f = 9221120237041090560 := by simp [pf, h3, plainF, hB]
    rw [e]
    clear e hf hB hn
    go_enter Tryz.func13, Tryz.ntmps13
    go_wp2_with (first | (go_at_call 33; refine (risNaN_any _ _).mono ?_; rintro e w' ⟨rfl, rfl⟩))
    go_returns
    exact ⟨rfl, by go_grown⟩

theorem sameB_self (k n : Int) (f : Nat) (s : ByteArray) : sameB k n k n f f s s = true := by simp [sameB]
theorem same_self (k n : Int) (f : Nat) (s : ByteArray) (w : World) :
    Calls Tryz.prog 15 #[.agg #[.int .i64 k, .int .i64 n, .float .f64 f, .string s], .agg #[.int .i64 k, .int .i64 n, .float .f64 f, .string s]] w fun e w' => e = .returned (.bool true) ∧ Below w.heap.size w w' := by
  have h := same_any k n k n f f s s w
  rw [sameB_self] at h
  exact h
theorem rsame_self (k n : Int) (f : Nat) (s : ByteArray) (w : World) :
    Calls Tryz.prog 10 #[.agg #[.int .i64 k, .int .i64 n, .float .f64 f, .string s], .agg #[.int .i64 k, .int .i64 n, .float .f64 f, .string s]] w fun e w' => e = .returned (.bool true) ∧ Below w.heap.size w w' := by
  have h := rsame_any k n k n f f s s w
  rw [sameB_self] at h
  exact h

/-- what is held while the law is walked: the value's box, its plain twin's, the table's first number -/
abbrev SP (w : World) (b : Nat) (k n : Int) (f g : Nat) (s : ByteArray) (w' : World) : Prop :=
  w'.cell? ⟨w.heap.size, 0, none⟩ = some (.int .i64 k) ∧ w'.cell? ⟨w.heap.size, 1, none⟩ = some (.int .i64 n) ∧ w'.cell? ⟨w.heap.size, 2, none⟩ = some (.float .f64 f) ∧ w'.cell? ⟨w.heap.size, 3, none⟩ = some (.string s) ∧
  w'.cell? ⟨b, 0, none⟩ = some (.int .i64 k) ∧ w'.cell? ⟨b, 1, none⟩ = some (.int .i64 n) ∧ w'.cell? ⟨b, 2, none⟩ = some (.float .f64 g) ∧ w'.cell? ⟨b, 3, none⟩ = some (.string s) ∧
  w'.cell? ⟨4, 0, none⟩ = some (.int .u64 1) ∧ 4 < w.heap.size ∧ w.heap.size < b ∧ b < w'.heap.size ∧ Below w.heap.size w w'
theorem keepSP {w : World} {b : Nat} {k n : Int} {f g : Nat} {s : ByteArray} {B : Nat} {wp w' : World} (hb : Below B wp w') (h : SP w b k n f g s wp) (hB : B = wp.heap.size ∨ b < B) : SP w b k n f g s w' := by
  obtain ⟨h1, h2, h3, h4, h5, h6, h7, h8, h9, hg, hx, hz, hw⟩ := h
  have := hb.size
  have hk : b < B := by omega
  have o : ∀ {c o : Nat} {v : Option Value}, c ≤ b → wp.cell? ⟨c, o, none⟩ = v → w'.cell? ⟨c, o, none⟩ = v := fun {c o v} hb' hc => (hb.cell (p := ⟨c, o, none⟩) (by show c < B; omega)).trans hc
  exact ⟨o (by omega) h1, o (by omega) h2, o (by omega) h3, o (by omega) h4, o (by omega) h5, o (by omega) h6, o (by omega) h7, o (by omega) h8, o (by omega) h9, hg, hx, by omega, hw.trans (hb.mono (by omega))⟩
theorem endSP {w : World} {b : Nat} {k n : Int} {f g : Nat} {s : ByteArray} {wp : World} (h : SP w b k n f g s wp) : Below w.heap.size w wp := h.2.2.2.2.2.2.2.2.2.2.2.2
theorem awakeSP (w : World) (b : Nat) (k n : Int) (f g : Nat) (s : ByteArray) (wp : World) (h : SP w b k n f g s wp) :
    Calls Tryz.prog 11 #[] wp fun e w' => e = .returned (.bool true) ∧ Below wp.heap.size wp w' := by
  obtain ⟨h1, h2, h3, h4, h5, h6, h7, h8, h9, hg, hx, hz, hw⟩ := h
  exact awake_any wp (by omega) h9

set_option maxHeartbeats 4000000 in
theorem lawPlains (k n : Int) (f : Nat) (s : ByteArray) (w : World) (hg : 4 < w.heap.size) (hc : w.cell? ⟨4, 0, none⟩ = some (.int .u64 1)) (hf : f < 18446744073709551616) :
    Calls Tryz.prog 4 #[.agg #[.int .i64 k, .int .i64 n, .float .f64 f, .string s]] w fun e w' => e = .returned (.bool true) ∧ Below w.heap.size w w' := by
  have hcmp := cmpV_plain hf k n s
  have hid := pf_idem k f
  have C13 : Hid (∀ w : World, _) := fun w => rplain_any k n f s w hf
  have C12 : Hid (∀ w : World, _) := fun w => plain_any k n (pf k f) s w
  rw [hid] at C12
  clear hf hid
  have hsf := run_store_float
  go_enter Tryz.func4, Tryz.ntmps4
  go_wp2_with fail
  refine (plain_any _ _ _ _ _).mono ?_
  rintro e w1 ⟨rfl, hb1⟩
  have hz1 := hb1.size
  simp only [World.size_alloc] at hz1
  have hs0 : SP w w1.heap.size k n f (pf k f) s (w1.alloc (.cells #[.int .i64 k, .int .i64 n, .float .f64 (pf k f), .string s] 24)).drew := by
    obtain ⟨x1, x2, x3, x4⟩ := c1_keep hb1 (by simp) (c1_new w k n f s)
    have bb : Below w1.heap.size w1 (w1.alloc (.cells #[.int .i64 k, .int .i64 n, .float .f64 (pf k f), .string s] 24)).drew := ((Below.refl _ _).alloc (Nat.le_refl _) _).drew
    obtain ⟨x1, x2, x3, x4⟩ := c1_keep bb (by omega) ⟨x1, x2, x3, x4⟩
    have B1 : Below w.heap.size w w1 := Below.trans (by go_grown) (hb1.mono (by simp))
    have B2 : Below w.heap.size w (w1.alloc (.cells #[.int .i64 k, .int .i64 n, .float .f64 (pf k f), .string s] 24)).drew := B1.trans (bb.mono (by omega))
    refine ⟨x1, x2, x3, x4, ?_, ?_, ?_, ?_, old_cell B2 hg hc, hg, by omega, by simp, B2⟩
    all_goals simp [go_sem]
  have HS := hs0
  have HS : Hid (SP w w1.heap.size k n f (pf k f) s _) := hs0
  clear hs0 hb1
  go_wp2_with fail
  generalize hb : w1.heap.size = b at *
  go_region_held3 (fun w' => SP w b k n f (pf k f) s w') (first | exact HS.out | (apply keepSP; assumption; assumption; first | exact Or.inl rfl | exact Or.inr (by omega))) (first | (go_at_call 13; refine (C13.out _).mono ?_; rintro e w' ⟨rfl, hb⟩) | (go_at_call 12; refine (C12.out _).mono ?_; rintro e w' ⟨rfl, hb⟩) | (go_at_call 10; refine (rsame_self _ _ _ _ _).mono ?_; rintro e w' ⟨rfl, hb⟩) | (go_at_call 14; refine (cmpV_any _ _ _ _ _ _ _ _ _).mono ?_; rintro e w' ⟨rfl, hb⟩) | (go_at_call 15; refine (same_self _ _ _ _ _).mono ?_; rintro e w' ⟨rfl, hb⟩) | (go_at_call 11; refine (awakeSP w b k n f (pf k f) s _ ?_).mono ?_; assumption; rintro e w' ⟨rfl, hb⟩))
  go_wp2
  go_ret
  exact ⟨rfl, endSP (by assumption)⟩
end Go.Proofs.YtcjieoomdhkleabGreatDoor
