/- What a foot reads. -/
import Derived.Test.YtjeidpgkgjljcaaWCl8
namespace Go.Proofs.Ytjeidpgkgjljcaa
open Go.RowKit
set_option maxRecDepth 100000

set_option maxHeartbeats 4000000 in
theorem indexP_any (x : Pt) (L : List Pt) (p : Option Addr) (c : Nat) (w : World) (hR : RowP w w.heap.size p L) (hlen : L.length ≤ 4398046511104) :
    Calls Try.prog 49 #[.slice p L.length c, PV x] w fun e w' => e = .returned (.int .i64 (if firstG (fun y => decide (x = y)) L = L.length then -1 else (firstG (fun y => decide (x = y)) L : Int))) ∧ Below w.heap.size w w' := by
  have heq := run_eqInP
  have hgd := run_eqGP
  have hal : Below w.heap.size w (w.alloc (.cells #[.int .i64 x.t, .int .i64 x.i, .string x.k] 27)) := (Below.refl _ _).alloc (Nat.le_refl _) _
  have hz : (w.alloc (.cells #[.int .i64 x.t, .int .i64 x.i, .string x.k] 27)).heap.size = w.heap.size + 1 := by simp
  have HW : Hid (Blk (w.alloc (.cells #[.int .i64 x.t, .int .i64 x.i, .string x.k] 27)) w.heap.size #[.int .i64 x.t, .int .i64 x.i, .string x.k] 27 ∧ RowP (w.alloc (.cells #[.int .i64 x.t, .int .i64 x.i, .string x.k] 27)) (w.alloc (.cells #[.int .i64 x.t, .int .i64 x.i, .string x.k] 27)).heap.size p L ∧ Below w.heap.size w (w.alloc (.cells #[.int .i64 x.t, .int .i64 x.i, .string x.k] 27))) := ⟨Blk.new w _ _, hR.on hal, hal⟩
  have HF := firstG_le (fun y => decide (x = y)) L
  have HS : Hid (∀ (j : Nat) (hj : j < L.length), j ≤ firstG (fun y => decide (x = y)) L → (decide (x = L[j]) = true → firstG (fun y => decide (x = y)) L = j) ∧ (decide (x = L[j]) = false → j + 1 ≤ firstG (fun y => decide (x = y)) L)) := firstG_step (fun y => decide (x = y)) L
  clear hR hal hz
  generalize firstG (fun y => decide (x = y)) L = f at *
  go_enter Try.func49, Try.ntmps49
  go_wp2_with fail
  generalize (w.alloc (.cells #[.int .i64 x.t, .int .i64 x.i, .string x.k] 27)) = wA at *
  go_loopw [8] (fun i wr => ∃ j : Nat, j ≤ f ∧ i = .int .i64 (j : Int) ∧ Hid (Below wA.heap.size wA wr)) (fun i _ => L.length - (intOf i).toNat)
  case atStart => exact ⟨0, Nat.zero_le _, by go_num, Below.refl _ _⟩
  case round =>
    obtain ⟨j, hj, rfl, HN⟩ := hrel
    have HE : Hid (Below w.heap.size w wr) := HW.out.2.2.trans (HN.out.mono HW.out.2.2.size)
    by_cases hj0 : j = L.length
    · have hf : f = L.length := by omega
      subst hj0
      go_wp2_with fail
      go_ret
      exact ⟨by first | rfl | (rw [if_pos hf]; rfl), HE.out⟩
    · have hj1 : j < L.length := by omega
      obtain ⟨b, o, hp, hbB, c0, c1, c2⟩ := (HW.out.2.1.on HN.out) j hj1
      have a0 := (HW.out.1.on HN.out).cell (i := 0) rfl
      have a1 := (HW.out.1.on HN.out).cell (i := 1) rfl
      have a2 := (HW.out.1.on HN.out).cell (i := 2) rfl
      have hst := HS.out j hj1 hj
      subst hp
      clear hj0
      generalize L[j] = y at *
      cases hxy : decide (x = y)
      · have hlt := hst.2 hxy
        clear hst
        go_wp2_with fail
        go_quiet (fail)
        go_wp2_with fail
        go_roundw
        case rel => exact ⟨j + 1, hlt, by go_num, ⟨HN.out.os, HN.out.tape, HN.out.output, HN.out.size, HN.out.block⟩⟩
        case measure => simp [intOf]; omega
      · have hf := hst.1 hxy
        clear hst
        go_wp2_with fail
        go_quiet (fail)
        go_wp2_with fail
        go_ret
        exact ⟨by first | rfl | (rw [if_neg (by omega), hf]; rfl), ⟨HE.out.os, HE.out.tape, HE.out.output, HE.out.size, HE.out.block⟩⟩

theorem containsP_any (x : Pt) (L : List Pt) (p : Option Addr) (c : Nat) (w : World) (hR : RowP w w.heap.size p L) (hlen : L.length ≤ 4398046511104) :
    Calls Try.prog 26 #[.slice p L.length c, PV x] w fun e w' => e = .returned (.bool (L.any (fun y => decide (x = y)))) ∧ Below w.heap.size w w' := by
  have hal : Below w.heap.size w (w.alloc (.cells #[.int .i64 x.t, .int .i64 x.i, .string x.k] 27)) := (Below.refl _ _).alloc (Nat.le_refl _) _
  have C1 : Hid (Calls _ _ _ _ _) := indexP_any x L p c (w.alloc (.cells #[.int .i64 x.t, .int .i64 x.i, .string x.k] 27)) (hR.on hal) hlen
  have hr := firstG_any (fun y => decide (x = y)) L
  have HR : Hid (decide (0 ≤ (if firstG (fun y => decide (x = y)) L = L.length then (-1 : Int) else (firstG (fun y => decide (x = y)) L : Int))) = L.any (fun y => decide (x = y))) := hr
  have HA : Hid (Below w.heap.size w (w.alloc (.cells #[.int .i64 x.t, .int .i64 x.i, .string x.k] 27))) := hal
  have hP := Blk.new w #[.int .i64 x.t, .int .i64 x.i, .string x.k] 27
  have a0 := hP.cell (i := 0) rfl
  have a1 := hP.cell (i := 1) rfl
  have a2 := hP.cell (i := 2) rfl
  clear hR hr hal hP
  generalize (if firstG (fun y => decide (x = y)) L = L.length then (-1 : Int) else (firstG (fun y => decide (x = y)) L : Int)) = f at *
  go_enter Try.func26, Try.ntmps26
  go_wp2_with fail
  refine C1.out.mono ?_
  rintro e w1 ⟨rfl, hb1⟩
  have HB : Hid (Below w.heap.size w w1) := HA.out.trans (hb1.mono HA.out.size)
  clear hb1 C1
  go_wp2_with fail
  go_ret
  exact ⟨by rw [← HR.out]; rfl, HB.out⟩

theorem reads1_any (x : Pt) (s : Sp) (pb : Nat) (w : World) (h : Blk w pb #[.int .i64 x.t, .int .i64 x.i, .string x.k] 27) : Calls Try.prog 28 #[.agg #[.int .i64 s.t, .int .i64 s.i, .string s.lo, .string s.hi, .bool s.op], ptr1 pb] w fun e w' => e = .returned (.bool (inS x s)) ∧ Below w.heap.size w w' := by
  have hal : Below w.heap.size w (w.alloc (.cells #[.int .i64 s.t, .int .i64 s.i, .string s.lo, .string s.hi, .bool s.op] 55)) := (Below.refl _ _).alloc (Nat.le_refl _) _
  have hP := Blk.new w #[.int .i64 s.t, .int .i64 s.i, .string s.lo, .string s.hi, .bool s.op] 55
  have C1 : Hid (∀ w1, Calls Try.prog 29 #[PV x, .agg #[.int .i64 s.t, .int .i64 s.i, .string s.lo, .string s.hi, .bool s.op]] w1 fun e w' => e = .returned (.bool (inS x s)) ∧ Below w1.heap.size w1 w') := fun w1 => isIn_any x s w1
  have HA : Hid (Below w.heap.size w (w.alloc (.cells #[.int .i64 s.t, .int .i64 s.i, .string s.lo, .string s.hi, .bool s.op] 55))) := hal
  have hx := h.on hal
  have a0 := hx.cell (i := 0) rfl
  have a1 := hx.cell (i := 1) rfl
  have a2 := hx.cell (i := 2) rfl
  have b0 := hP.cell (i := 0) rfl
  have b1 := hP.cell (i := 1) rfl
  have b2 := hP.cell (i := 2) rfl
  have b3 := hP.cell (i := 3) rfl
  have b4 := hP.cell (i := 4) rfl
  have hlt := h.lt
  have hne : ¬ pb = w.heap.size := by omega
  clear hal hP hx h
  generalize inS x s = r at *
  go_enter Try.func28, Try.ntmps28
  go_wp2_with fail
  refine (C1.out _).mono ?_
  rintro e w1 ⟨rfl, hb1⟩
  have HB : Hid (Below w.heap.size w w1) := HA.out.trans (hb1.mono HA.out.size)
  clear hb1 C1
  go_wp2_with fail
  go_ret
  exact ⟨rfl, HB.out⟩
/-- does a foot read a point? -/
def rdsB (f : Ft) (x : Pt) : Bool := f.P.any (fun y => decide (x = y)) || f.S.any (fun s => inS x s)
theorem rdsB_iff (f : Ft) (x : Pt) : rdsB f x = true ↔ f.rds x := by
  unfold rdsB Ft.rds
  rw [Bool.or_eq_true, List.any_eq_true, List.any_eq_true]
  constructor
  · rintro (⟨y, h, e⟩ | h)
    · have e' : x = y := by simpa using e
      rw [e']
      exact .inl h
    · exact .inr h
  · rintro (h | h)
    · exact .inl ⟨x, h, by simp⟩
    · exact .inr h

set_option maxHeartbeats 4000000 in
theorem reads_any (a : Ft) (x : Pt) (va0 va1 va2 : Value) (w : World) (ha : RdF w va0 va1 va2 a) :
    Calls Try.prog 10 #[.agg #[va0, va1, va2], PV x] w fun e w' => e = .returned (.bool (rdsB a x)) ∧ Below w.heap.size w w' := by
  obtain ⟨pa, ca, ea0, la1, la2, hpa⟩ := ha.p.f
  obtain ⟨ps, cs, ea1, ls1, ls2, hps⟩ := ha.s.f
  have hal : Below w.heap.size w ((w.alloc (.cells #[va0, va1, va2] 25)).alloc (.cells #[.int .i64 x.t, .int .i64 x.i, .string x.k] 27)) := ((Below.refl _ _).alloc (Nat.le_refl _) _).alloc (by simp) _
  have hz : ((w.alloc (.cells #[va0, va1, va2] 25)).alloc (.cells #[.int .i64 x.t, .int .i64 x.i, .string x.k] 27)).heap.size = w.heap.size + 1 + 1 := by simp
  have hA0 : Blk ((w.alloc (.cells #[va0, va1, va2] 25)).alloc (.cells #[.int .i64 x.t, .int .i64 x.i, .string x.k] 27)) w.heap.size #[va0, va1, va2] 25 := (Blk.new w #[va0, va1, va2] 25).keep (B := w.heap.size + 1) ((Below.refl _ _).alloc (by simp) _) (by omega)
  have hB0 : Blk ((w.alloc (.cells #[va0, va1, va2] 25)).alloc (.cells #[.int .i64 x.t, .int .i64 x.i, .string x.k] 27)) (w.heap.size + 1) #[.int .i64 x.t, .int .i64 x.i, .string x.k] 27 := by
    have h := Blk.new (w.alloc (.cells #[va0, va1, va2] 25)) #[.int .i64 x.t, .int .i64 x.i, .string x.k] 27
    have e : (w.alloc (.cells #[va0, va1, va2] 25)).heap.size = w.heap.size + 1 := by simp
    rw [e] at h
    exact h
  have C1 : Hid (Calls Try.prog 26 #[va0, PV x] ((w.alloc (.cells #[va0, va1, va2] 25)).alloc (.cells #[.int .i64 x.t, .int .i64 x.i, .string x.k] 27)) fun e w' => e = .returned (.bool (a.P.any (fun y => decide (x = y)))) ∧ Below ((w.alloc (.cells #[va0, va1, va2] 25)).alloc (.cells #[.int .i64 x.t, .int .i64 x.i, .string x.k] 27)).heap.size ((w.alloc (.cells #[va0, va1, va2] 25)).alloc (.cells #[.int .i64 x.t, .int .i64 x.i, .string x.k] 27)) w') := by
    subst ea0
    exact containsP_any x a.P pa ca _ (hpa.on hal) ha.lp
  have C2 : Hid (∀ w1, Below ((w.alloc (.cells #[va0, va1, va2] 25)).alloc (.cells #[.int .i64 x.t, .int .i64 x.i, .string x.k] 27)).heap.size ((w.alloc (.cells #[va0, va1, va2] 25)).alloc (.cells #[.int .i64 x.t, .int .i64 x.i, .string x.k] 27)) w1 → Calls Try.prog 27 #[va1, .func (.func 28) #[] #[ptr1 (w.heap.size + 1)]] w1 fun e w' => e = .returned (.bool (a.S.any (fun s => inS x s))) ∧ Below w1.heap.size w1 w') := fun w1 h1 => by
    subst ea1
    exact containsFS1_any 28 (ptr1 (w.heap.size + 1)) (fun s => inS x s) a.S ps cs w1 (enters_of Try.func28 (by kernel_rfl) rfl) ((hps.on hal).on h1) ha.ls (fun s w2 h2 => reads1_any x s (w.heap.size + 1) w2 ((hB0.on h1).on h2))
  have HW : Hid (Below w.heap.size w ((w.alloc (.cells #[va0, va1, va2] 25)).alloc (.cells #[.int .i64 x.t, .int .i64 x.i, .string x.k] 27)) ∧ ((w.alloc (.cells #[va0, va1, va2] 25)).alloc (.cells #[.int .i64 x.t, .int .i64 x.i, .string x.k] 27)).heap.size = w.heap.size + 1 + 1 ∧ Blk ((w.alloc (.cells #[va0, va1, va2] 25)).alloc (.cells #[.int .i64 x.t, .int .i64 x.i, .string x.k] 27)) w.heap.size #[va0, va1, va2] 25) := ⟨hal, hz, hA0⟩
  have a0 := hA0.cell (i := 0) rfl
  have a1 := hA0.cell (i := 1) rfl
  have b0 := hB0.cell (i := 0) rfl
  have b1 := hB0.cell (i := 1) rfl
  have b2 := hB0.cell (i := 2) rfl
  unfold rdsB
  clear ha la1 la2 ls1 ls2 hpa hps hal hz hA0 hB0 ea0 ea1
  cases hc : a.P.any (fun y => decide (x = y))
  · rw [hc] at C1
    generalize a.S.any (fun s => inS x s) = r at *
    rw [Bool.false_or]
    go_enter Try.func10, Try.ntmps10
    go_wp2_with fail
    generalize ((w.alloc (.cells #[va0, va1, va2] 25)).alloc (.cells #[.int .i64 x.t, .int .i64 x.i, .string x.k] 27)) = w2 at *
    refine C1.out.mono ?_
    rintro e w3 ⟨rfl, hb3⟩
    have a1' := (HW.out.2.2.on hb3).cell (i := 1) rfl
    have HB3 : Hid (Below w2.heap.size w2 w3 ∧ Below w.heap.size w w3) := ⟨hb3, HW.out.1.trans (hb3.mono HW.out.1.size)⟩
    clear a0 a1 b0 b1 b2 hb3 C1
    go_wp2_with fail
    refine (C2.out _ HB3.out.1).mono ?_
    rintro e w4 ⟨rfl, hb4⟩
    have HB4 : Hid (Below w.heap.size w w4) := HB3.out.2.trans (hb4.mono HB3.out.2.size)
    clear a1' hb4 C2
    go_wp2_with fail
    go_ret
    exact ⟨rfl, HB4.out⟩
  · rw [hc] at C1
    rw [Bool.true_or]
    clear C2
    go_enter Try.func10, Try.ntmps10
    go_wp2_with fail
    generalize ((w.alloc (.cells #[va0, va1, va2] 25)).alloc (.cells #[.int .i64 x.t, .int .i64 x.i, .string x.k] 27)) = w2 at *
    refine C1.out.mono ?_
    rintro e w3 ⟨rfl, hb3⟩
    have HB3 : Hid (Below w.heap.size w w3) := HW.out.1.trans (hb3.mono HW.out.1.size)
    clear a0 a1 b0 b1 b2 hb3 C1
    go_wp2_with fail
    go_ret
    exact ⟨rfl, HB3.out⟩
end Go.Proofs.Ytjeidpgkgjljcaa
