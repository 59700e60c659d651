/- covers: whether a point is in one of the normal spans. The document's side: how points stand, what a foot reads. -/
import Derived.Test.YtcknhjabdjbjiabGreatGWCl10
namespace Go.Proofs.YtcknhjabdjbjiabGreat
open Go.RowKit
set_option maxRecDepth 100000

/-- a span's value -/
abbrev SV (s : Sp) : Value := .agg #[.int .i64 s.t, .int .i64 s.i, .string s.lo, .string s.hi, .bool s.op]
theorem SepS.lt {L : List Sp} (h : SepS L) {i j : Nat} (hij : i < j) (hj : j < L.length) : ltP (bgn (L[i]'(by omega))) (bgn L[j]) = true := apS_lt (List.pairwise_iff_getElem.1 h.2 i j (by omega) hj hij) (h.1 _ (List.getElem_mem _))

set_option maxHeartbeats 4000000 in
theorem covers1_any (s : Sp) (t : Pt) (w : World) : Calls Tryz.prog 86 #[SV s, PV t] w fun e w' => e = .returned (.int .i64 (cmpP (bgn s) t)) ∧ Below w.heap.size w w' := by
  have CB : Hid (∀ w1 : World, Calls Tryz.prog 37 #[SV s] w1 fun e w' => e = .returned (PV (bgn s)) ∧ Below w1.heap.size w1 w') := fun w1 => begin_any s w1
  have CC : Hid (∀ w1 : World, Calls Tryz.prog 62 #[PV (bgn s), PV t] w1 fun e w' => e = .returned (.int .i64 (cmpP (bgn s) t)) ∧ Below w1.heap.size w1 w') := fun w1 => compareB_any (bgn s) t w1
  generalize cmpP (bgn s) t = cm at *
  generalize bgn s = b0 at *
  obtain ⟨wA, hwA⟩ : ∃ wA, w.alloc (.cells #[.int .i64 s.t, .int .i64 s.i, .string s.lo, .string s.hi, .bool s.op] 86) = wA := ⟨_, rfl⟩
  have hzA : wA.heap.size = w.heap.size + 1 := by rw [← hwA]; simp
  have HBA : Below w.heap.size w wA := by rw [← hwA]; exact (Below.refl _ _).alloc (Nat.le_refl _) _
  have HKA : Blk wA w.heap.size #[.int .i64 s.t, .int .i64 s.i, .string s.lo, .string s.hi, .bool s.op] 86 := by rw [← hwA]; exact Blk.new w _ _
  obtain ⟨wB, hwB⟩ : ∃ wB, wA.alloc (.cells #[.int .i64 t.t, .int .i64 t.i, .string t.k] 36) = wB := ⟨_, rfl⟩
  have hzB : wB.heap.size = w.heap.size + 2 := by rw [← hwB]; simp [hzA]
  have HBB : Below wA.heap.size wA wB := by rw [← hwB]; exact (Below.refl _ _).alloc (Nat.le_refl _) _
  have HKB : Blk wB (w.heap.size + 1) #[.int .i64 t.t, .int .i64 t.i, .string t.k] 36 := by rw [← hwB, ← hzA]; exact Blk.new wA _ _
  have HKS := HKA.on HBB
  have b0 := InB.cell (w := wB) (HKS.cell (i := 0) rfl) HKS.lt
  have b1 := InB.cell (w := wB) (HKS.cell (i := 1) rfl) HKS.lt
  have b2 := InB.cell (w := wB) (HKS.cell (i := 2) rfl) HKS.lt
  have b3 := InB.cell (w := wB) (HKS.cell (i := 3) rfl) HKS.lt
  have b4 := InB.cell (w := wB) (HKS.cell (i := 4) rfl) HKS.lt
  have t0 := InB.cell (w := wB) (HKB.cell (i := 0) rfl) HKB.lt
  have t1 := InB.cell (w := wB) (HKB.cell (i := 1) rfl) HKB.lt
  have t2 := InB.cell (w := wB) (HKB.cell (i := 2) rfl) HKB.lt
  have HBW : Hid (Below w.heap.size w wB) := HBA.trans (HBB.mono HBA.size)
  clear HKS HKB HKA HBA HBB hzB
  have ne1 := inB_ne wB
  go_enter Tryz.func86, Tryz.ntmps86
  go_wp2_with fail
  try rw [hwA]
  try rw [hwB]
  refine wp_region_inB (by kernel_rfl) (by kernel_rfl) ?_
  repeat (go_big_quiet_step (first
    | (go_at_call 37; exact Calls.inB (CB.out _)) | (go_at_call 62; exact Calls.inB (CC.out _))))
  refine wpQuiet_nil ?_
  rintro w2 ⟨⟨w3, hb2⟩, h9⟩
  obtain rfl : w2 = w3 := h9
  go_wp2_with fail
  go_ret
  exact ⟨rfl, HBW.out.trans (hb2.mono HBW.out.size)⟩

set_option maxHeartbeats 8000000 in
theorem bsS_any (L : List Sp) (p : Option Addr) (c : Nat) (t : Pt) (w : World) (hR0 : RowS w w.heap.size p L) (hI0 : SepS L) (hlen : L.length ≤ 2513169434916) :
    Calls Tryz.prog 85 #[.slice p L.length c, PV t, .func (.func 86) #[] #[]] w fun e w' => ∃ (i : Nat) (b : Bool), e = .returned (.tuple #[.int .i64 (i : Nat), .bool b]) ∧ i ≤ L.length ∧ (b = true ↔ ∃ h : i < L.length, bgn L[i] = t) ∧ (∀ k (hk : k < L.length), k < i → ltP (bgn L[k]) t = true) ∧ (∀ k (hk : k < L.length), i ≤ k → ltP (bgn L[k]) t = false) ∧ Below w.heap.size w w' := by
  have hal : Below w.heap.size w (w.alloc (.cells #[.int .i64 t.t, .int .i64 t.i, .string t.k] 36)) := (Below.refl _ _).alloc (Nat.le_refl _) _
  have hz : (w.alloc (.cells #[.int .i64 t.t, .int .i64 t.i, .string t.k] 36)).heap.size = w.heap.size + 1 := by simp
  have HT : Hid (Blk (w.alloc (.cells #[.int .i64 t.t, .int .i64 t.i, .string t.k] 36)) w.heap.size #[.int .i64 t.t, .int .i64 t.i, .string t.k] 36 ∧ (w.alloc (.cells #[.int .i64 t.t, .int .i64 t.i, .string t.k] 36)).heap.size = w.heap.size + 1) := ⟨Blk.new w _ _, hz⟩
  have HR : Hid (RowS (w.alloc (.cells #[.int .i64 t.t, .int .i64 t.i, .string t.k] 36)) (w.alloc (.cells #[.int .i64 t.t, .int .i64 t.i, .string t.k] 36)).heap.size p L) := hR0.on hal
  have HI : Hid (SepS L) := hI0
  have HW : Hid (Below w.heap.size w (w.alloc (.cells #[.int .i64 t.t, .int .i64 t.i, .string t.k] 36))) := hal
  have HCM : Hid (∀ (x : Sp) (w1 : World), Calls Tryz.prog 86 #[SV x, PV t] w1 fun e w' => e = .returned (.int .i64 (cmpP (bgn x) t)) ∧ Below w1.heap.size w1 w') := fun x w1 => covers1_any x t w1
  clear hR0 hI0 hal hz
  go_enter Tryz.func85, Tryz.ntmps85
  go_wp2_with fail
  generalize (w.alloc (.cells #[.int .i64 t.t, .int .i64 t.i, .string t.k] 36)) = wA at *
  go_loopw [9, 10] (fun a b wr => ∃ i j : Nat, a = .int .i64 (i : Int) ∧ b = .int .i64 (j : Int) ∧ i ≤ j ∧ j ≤ L.length ∧ Hid (∀ k (hk : k < L.length), k < i → ltP (bgn L[k]) t = true) ∧ Hid (∀ k (hk : k < L.length), j ≤ k → ltP (bgn L[k]) t = false) ∧ Hid (Below wA.heap.size wA wr)) (fun a b _ => (intOf b).toNat - (intOf a).toNat)
  case atStart => exact ⟨0, L.length, by go_num, rfl, Nat.zero_le _, Nat.le_refl _, fun k _ h => absurd h (by omega), fun k hk h => absurd h (by omega), Below.refl _ _⟩
  case round =>
    obtain ⟨i, j, rfl, rfl, hij, hj, hA, hB, HBl⟩ := hrel
    by_cases h0 : i = j
    · subst h0
      clear hij
      by_cases hm1 : i < L.length
      · obtain ⟨b, o, hp, hb, d0, d1, d2, d3, d4⟩ := (HR.out.on HBl.out) i hm1
        subst hp
        have b0 := InB.cell (w := wr) d0 hb
        have b1 := InB.cell (w := wr) d1 hb
        have b2 := InB.cell (w := wr) d2 hb
        have b3 := InB.cell (w := wr) d3 hb
        have b4 := InB.cell (w := wr) d4 hb
        have t0 := InB.cell (w := wr) ((HBl.out.cell (p := ⟨w.heap.size, 0, none⟩) (by have := HT.out.2; show w.heap.size < _; omega)).trans (HT.out.1.cell (i := 0) rfl)) (by have := HT.out.2; have := HBl.out.size; omega)
        have t1 := InB.cell (w := wr) ((HBl.out.cell (p := ⟨w.heap.size, 1, none⟩) (by have := HT.out.2; show w.heap.size < _; omega)).trans (HT.out.1.cell (i := 1) rfl)) (by have := HT.out.2; have := HBl.out.size; omega)
        have t2 := InB.cell (w := wr) ((HBl.out.cell (p := ⟨w.heap.size, 2, none⟩) (by have := HT.out.2; show w.heap.size < _; omega)).trans (HT.out.1.cell (i := 2) rfl)) (by have := HT.out.2; have := HBl.out.size; omega)
        have ne1 := inB_ne wr
        have CC : Hid (∀ w1 : World, Calls Tryz.prog 86 #[SV L[i], PV t] w1 fun e w' => e = .returned (.int .i64 (cmpP (bgn L[i]) t)) ∧ Below w1.heap.size w1 w') := fun w1 => HCM.out L[i] w1
        clear d0 d1 d2 d3 d4 hb
        obtain ⟨cm, hcm⟩ : ∃ cm, cmpP (bgn L[i]) t = cm := ⟨_, rfl⟩
        rw [hcm] at CC
        have HCc : Hid (cmpP (bgn L[i]) t = cm) := hcm
        clear hcm
        generalize L[i] = x at b0 b1 b2 b3 b4 CC
        have gl : decide ((i : Int) < (L.length : Int)) = true := by simp; omega
        go_wp2_with fail
        refine wp_region_inB (by kernel_rfl) (by kernel_rfl) ?_
        repeat (go_big_quiet_step (first
          | (go_at_call 86; exact Calls.inB (CC.out _))))
        refine wpQuiet_nil ?_
        rintro w2 ⟨⟨w3, hb2⟩, h9⟩
        obtain rfl : w2 = w3 := h9
        clear b0 b1 b2 b3 b4 t0 t1 t2 ne1 CC
        go_wp2_with fail
        refine bodyPost_ret (results_tmp2 rfl _ _ _) rfl ?_
        refine ⟨i, _, rfl, hj, ?_, hA.out, hB.out, HW.out.trans ((HBl.out.trans (hb2.mono HBl.out.size)).mono HW.out.size)⟩
        rw [← HCc.out, beq_iff_eq, cmpP_eq]
        constructor
        · intro h; exact ⟨hm1, h⟩
        · rintro ⟨_, h⟩; exact h
      · have hi2 : i = L.length := by omega
        have gl : decide ((i : Int) < (L.length : Int)) = false := by simp; omega
        have ne1 := inB_ne wr
        go_wp2_with fail
        refine wp_region_inB (by kernel_rfl) (by kernel_rfl) ?_
        repeat (go_big_quiet_step (first
          | (go_at_call 86; fail)))
        refine wpQuiet_nil ?_
        rintro w2 ⟨⟨w3, hb2⟩, h9⟩
        obtain rfl : w2 = w3 := h9
        clear ne1
        go_wp2_with fail
        refine bodyPost_ret (results_tmp2 rfl _ _ _) rfl ?_
        refine ⟨i, _, rfl, hj, ?_, hA.out, hB.out, HW.out.trans ((HBl.out.trans (hb2.mono HBl.out.size)).mono HW.out.size)⟩
        constructor
        · intro h; cases h
        · rintro ⟨h, _⟩; exact absurd h hm1
    · have hl : i < j := by omega
      obtain ⟨m, hm⟩ : ∃ m : Nat, m = (i + j) / 2 := ⟨_, rfl⟩
      have hmi : ((i : Int) + (j : Int)) / 2 = ((m : Nat) : Int) := by omega
      have hm1 : m < L.length := by omega
      have HM : Hid (i ≤ m ∧ m < j) := ⟨by omega, by omega⟩
      clear hm
      obtain ⟨b, o, hp, hb, d0, d1, d2, d3, d4⟩ := (HR.out.on HBl.out) m hm1
      subst hp
      have b0 := InB.cell (w := wr) d0 hb
      have b1 := InB.cell (w := wr) d1 hb
      have b2 := InB.cell (w := wr) d2 hb
      have b3 := InB.cell (w := wr) d3 hb
      have b4 := InB.cell (w := wr) d4 hb
      have t0 := InB.cell (w := wr) ((HBl.out.cell (p := ⟨w.heap.size, 0, none⟩) (by have := HT.out.2; show w.heap.size < _; omega)).trans (HT.out.1.cell (i := 0) rfl)) (by have := HT.out.2; have := HBl.out.size; omega)
      have t1 := InB.cell (w := wr) ((HBl.out.cell (p := ⟨w.heap.size, 1, none⟩) (by have := HT.out.2; show w.heap.size < _; omega)).trans (HT.out.1.cell (i := 1) rfl)) (by have := HT.out.2; have := HBl.out.size; omega)
      have t2 := InB.cell (w := wr) ((HBl.out.cell (p := ⟨w.heap.size, 2, none⟩) (by have := HT.out.2; show w.heap.size < _; omega)).trans (HT.out.1.cell (i := 2) rfl)) (by have := HT.out.2; have := HBl.out.size; omega)
      have ne1 := inB_ne wr
      have CC : Hid (∀ w1 : World, Calls Tryz.prog 86 #[SV L[m], PV t] w1 fun e w' => e = .returned (.int .i64 (cmpP (bgn L[m]) t)) ∧ Below w1.heap.size w1 w') := fun w1 => HCM.out L[m] w1
      clear d0 d1 d2 d3 d4 hb
      by_cases hx : ltP (bgn L[m]) t = true
      · have HA2 : Hid (∀ k (hk : k < L.length), k < m + 1 → ltP (bgn L[k]) t = true) := fun k hk hkm => by
          rcases Nat.lt_or_eq_of_le (Nat.lt_succ_iff.1 hkm) with h | h
          · exact ltP_trans (HI.out.lt h hm1) hx
          · subst h; exact hx
        have hc : decide (cmpP (bgn L[m]) t < 0) = true := hx
        clear hx hA
        generalize cmpP (bgn L[m]) t = cm at *
        generalize L[m] = x at b0 b1 b2 b3 b4 CC
        go_wp2_with fail
        refine wp_region_inB (by kernel_rfl) (by kernel_rfl) ?_
        repeat (go_big_quiet_step (first
          | (go_at_call 86; exact Calls.inB (CC.out _))))
        refine wpQuiet_nil ?_
        rintro w2 ⟨⟨w3, hb2⟩, h9⟩
        obtain rfl : w2 = w3 := h9
        clear b0 b1 b2 b3 b4 t0 t1 t2 ne1 CC hmi
        go_wp2_with fail
        go_roundw
        case rel => exact ⟨m + 1, j, by go_num, rfl, by have := HM.out; omega, hj, HA2, hB, HBl.out.trans (hb2.mono HBl.out.size)⟩
        case measure => simp [intOf]; have := HM.out; omega
      · have hx' : ltP (bgn L[m]) t = false := by cases h : ltP (bgn L[m]) t; rfl; exact absurd h hx
        have HB3 : Hid (∀ k (hk : k < L.length), m ≤ k → ltP (bgn L[k]) t = false) := fun k hk hkm => by
          rcases Nat.lt_or_eq_of_le hkm with h | h
          · exact leP_trans hx' (ltP_asymm (HI.out.lt h hk))
          · subst h; exact hx'
        have hc : decide (cmpP (bgn L[m]) t < 0) = false := hx'
        clear hx hx' hB
        generalize cmpP (bgn L[m]) t = cm at *
        generalize L[m] = x at b0 b1 b2 b3 b4 CC
        go_wp2_with fail
        refine wp_region_inB (by kernel_rfl) (by kernel_rfl) ?_
        repeat (go_big_quiet_step (first
          | (go_at_call 86; exact Calls.inB (CC.out _))))
        refine wpQuiet_nil ?_
        rintro w2 ⟨⟨w3, hb2⟩, h9⟩
        obtain rfl : w2 = w3 := h9
        clear b0 b1 b2 b3 b4 t0 t1 t2 ne1 CC hmi
        go_wp2_with fail
        go_roundw
        case rel => exact ⟨i, m, rfl, rfl, HM.out.1, by have := HM.out; omega, hA, HB3, HBl.out.trans (hb2.mono HBl.out.size)⟩
        case measure => simp [intOf]; have := HM.out; omega

set_option maxHeartbeats 4000000 in
theorem covers_any (U : List Sp) (v : Value) (x : Pt) (w : World) (h : SlS w v U) (hS : SepS U) (hlen : U.length ≤ 2513169434916) :
    Calls Tryz.prog 70 #[v, PV x] w fun e w' => e = .returned (.bool (anyS U x)) ∧ Below w.heap.size w w' := by
  obtain ⟨p, c, rfl, hc1, hc2, hR⟩ := h.f
  clear h
  obtain ⟨wA, hwA⟩ : ∃ wA, w.alloc (.cells #[.int .i64 x.t, .int .i64 x.i, .string x.k] 36) = wA := ⟨_, rfl⟩
  have HBA : Hid (Below w.heap.size w wA) := by rw [← hwA]; exact (Below.refl _ _).alloc (Nat.le_refl _) _
  have HKA : Hid (Blk wA w.heap.size #[.int .i64 x.t, .int .i64 x.i, .string x.k] 36) := by rw [← hwA]; exact Blk.new w _ _
  have CB : Hid (Calls _ _ _ _ _) := bsS_any U p c x wA (hR.on HBA.out) hS hlen
  have q0 := HKA.out.cell (i := 0) rfl
  have q1 := HKA.out.cell (i := 1) rfl
  have q2 := HKA.out.cell (i := 2) rfl
  go_enter Tryz.func70, Tryz.ntmps70
  go_wp2_with fail
  try rw [hwA]
  try (go_wp2_with fail)
  refine CB.out.mono ?_
  rintro e w2 ⟨i, b, rfl, hi, hb, h1, h2, hb2⟩
  have hL := hS.look x i hi h1 h2
  clear h1 h2 CB hwA q0 q1 q2
  have HBW : Hid (Below w.heap.size w w2) := HBA.out.trans (hb2.mono HBA.out.size)
  have hbd : decide (∃ h : i < U.length, bgn U[i] = x) = b := by cases b <;> simp_all
  rw [hbd] at hL
  have HK2 := HKA.out.on hb2
  have t0 := InB.cell (w := w2) (HK2.cell (i := 0) rfl) HK2.lt
  have t1 := InB.cell (w := w2) (HK2.cell (i := 1) rfl) HK2.lt
  have t2 := InB.cell (w := w2) (HK2.cell (i := 2) rfl) HK2.lt
  have ne1 := inB_ne w2
  have HRx : Hid (RowS w2 w2.heap.size p U) := (hR.on HBA.out).on hb2
  clear hbd hb hR HK2 HKA hb2 HBA
  cases b with
  | true =>
    rw [Bool.true_or] at hL
    have HL : Hid (anyS U x = true) := hL
    clear hL HRx
    go_wp2_with fail
    refine wp_region_inB (by kernel_rfl) (by kernel_rfl) ?_
    repeat (go_big_quiet_step (first | (go_at_call 63; fail)))
    refine wpQuiet_nil ?_
    rintro w3 ⟨⟨w4, hb4⟩, h9⟩
    obtain rfl : w3 = w4 := h9
    go_wp2_with fail
    go_ret
    exact ⟨by rw [HL.out]; rfl, HBW.out.trans (hb4.mono HBW.out.size)⟩
  | false =>
    rw [Bool.false_or] at hL
    cases i with
    | zero =>
      dsimp only at hL
      have HL : Hid (anyS U x = false) := hL
      clear hL HRx
      go_wp2_with fail
      refine wp_region_inB (by kernel_rfl) (by kernel_rfl) ?_
      repeat (go_big_quiet_step (first | (go_at_call 63; fail)))
      refine wpQuiet_nil ?_
      rintro w3 ⟨⟨w4, hb4⟩, h9⟩
      obtain rfl : w3 = w4 := h9
      go_wp2_with fail
      go_ret
      exact ⟨by rw [HL.out]; rfl, HBW.out.trans (hb4.mono HBW.out.size)⟩
    | succ j =>
      have hj : j < U.length := by omega
      simp only [hj, dif_pos] at hL
      obtain ⟨b, o, hp, hb, d0, d1, d2, d3, d4⟩ := HRx.out j hj
      subst hp
      have b0 := InB.cell (w := w2) d0 hb
      have b1 := InB.cell (w := w2) d1 hb
      have b2 := InB.cell (w := w2) d2 hb
      have b3 := InB.cell (w := w2) d3 hb
      have b4 := InB.cell (w := w2) d4 hb
      have CI : Hid (∀ w5 : World, Calls Tryz.prog 63 #[PV x, SV U[j]] w5 fun e w' => e = .returned (.bool (inS x U[j])) ∧ Below w5.heap.size w5 w') := fun w5 => isIn_any x U[j] w5
      have hji : ((j + 1 : Nat) : Int) - 1 = (j : Int) := by omega
      have HL : Hid (anyS U x = inS x U[j]) := hL
      clear d0 d1 d2 d3 d4 hb HRx hL
      generalize inS x U[j] = bi at *
      generalize U[j] = s at *
      have gl : decide (((j + 1 : Nat) : Int) > 0) = true := decide_eq_true (by omega)
      go_wp2_with fail
      refine wp_region_inB (by kernel_rfl) (by kernel_rfl) ?_
      repeat (go_big_quiet_step (first | (go_at_call 63; exact Calls.inB (CI.out _))))
      refine wpQuiet_nil ?_
      rintro w3 ⟨⟨w4, hb4⟩, h9⟩
      obtain rfl : w3 = w4 := h9
      go_wp2_with fail
      go_ret
      exact ⟨by rw [HL.out]; rfl, HBW.out.trans (hb4.mono HBW.out.size)⟩

end Go.Proofs.YtcknhjabdjbjiabGreat

namespace Go.Proofs.YtcknhjabdjbjiabGreat
open Go.RowKit
set_option maxRecDepth 100000

theorem cmpS_cb (a b : ByteArray) : cmpS a b = Lib.compareBytes a.data.toList b.data.toList := by
  unfold cmpS
  rw [ByteArray.toList_eq, ByteArray.toList_eq, less_cb, eq_cb]
  rcases cb_range a.data.toList b.data.toList with h | h | h <;> simp [h]

set_option maxHeartbeats 1000000 in
theorem rstr_any (a b : ByteArray) (w : World) : Calls Tryz.prog 81 #[.string a, .string b] w fun e w' => e = .returned (.int .i64 (Lib.compareBytes a.data.toList b.data.toList)) ∧ w' = w := by
  rw [← cmpS_cb]
  unfold cmpS
  cases h1 : Op.bytesLess a.toList b.toList <;> cases h2 : (a.toList == b.toList)
  all_goals
    go_enter Tryz.func81, Tryz.ntmps81
    go_wp2
    go_ret
    exact ⟨rfl, rfl⟩

set_option maxHeartbeats 1000000 in
theorem rhas_any (lo hi : ByteArray) (op : Bool) (k : ByteArray) (w : World) :
    Calls Tryz.prog 80 #[rngV lo hi op, .string k] w fun e w' => e = .returned (.bool (hasB lo hi op k)) ∧ Below w.heap.size w w' := by
  unfold hasB ltB
  cases h1 : Op.bytesLess k.toList lo.toList <;> cases op <;> cases h2 : Op.bytesLess k.toList hi.toList
  all_goals
    go_enter Tryz.func80, Tryz.ntmps80
    go_wp2
    go_ret
    exact ⟨rfl, by go_grown⟩

set_option maxHeartbeats 2000000 in
theorem rcmp_any (x y : Pt) (w : World) : Calls Tryz.prog 67 #[PV x, PV y] w fun e w' => e = .returned (.int .i64 (cmpP x y)) ∧ Below w.heap.size w w' := by
  have C3 : Hid (∀ w1 : World, Calls _ _ _ _ _) := fun w1 => rstr_any x.k y.k w1
  unfold cmpP
  generalize Lib.compareBytes x.k.data.toList y.k.data.toList = r3 at *
  rcases cmpI_cases x.t y.t with ⟨h, e⟩ | ⟨h, e⟩ | ⟨h, e⟩
  · have h1 : (x.t != y.t) = true := by simp; omega
    rw [e]
    go_enter Tryz.func67, Tryz.ntmps67
    go_wp2_with fail
    go_ret
    exact ⟨rfl, by go_grown⟩
  · have h1 : (x.t != y.t) = false := by simp [h]
    rw [e]
    rcases cmpI_cases x.i y.i with ⟨h2, e2⟩ | ⟨h2, e2⟩ | ⟨h2, e2⟩
    · have h3 : (x.i != y.i) = true := by simp; omega
      rw [e2]
      clear h
      go_enter Tryz.func67, Tryz.ntmps67
      go_wp2_with fail
      go_ret
      exact ⟨rfl, by go_grown⟩
    · have h3 : (x.i != y.i) = false := by simp [h2]
      rw [e2]
      clear h h2
      go_enter Tryz.func67, Tryz.ntmps67
      go_wp2_with fail
      refine (C3.out _).mono ?_
      rintro e w1 ⟨rfl, hw1⟩
      rw [hw1]
      clear hw1
      go_wp2_with fail
      go_ret
      exact ⟨rfl, by go_grown⟩
    · have h3 : (x.i != y.i) = true := by simp; omega
      have h4 : decide (x.i < y.i) = false := by simp; omega
      rw [e2]
      clear h h2
      go_enter Tryz.func67, Tryz.ntmps67
      go_wp2_with fail
      go_ret
      exact ⟨rfl, by go_grown⟩
  · have h1 : (x.t != y.t) = true := by simp; omega
    have h4 : decide (x.t < y.t) = false := by simp; omega
    rw [e]
    clear h
    go_enter Tryz.func67, Tryz.ntmps67
    go_wp2_with fail
    go_ret
    exact ⟨rfl, by go_grown⟩

set_option maxHeartbeats 4000000 in
theorem rspanned_any (x : Pt) (L : List Sp) (p : Option Addr) (c : Nat) (w : World) (hR : RowS w w.heap.size p L) (hlen : L.length ≤ 2513169434916) :
    Calls Tryz.prog 66 #[.slice p L.length c, PV x] w fun e w' => e = .returned (.bool (L.any (fun s => inS x s))) ∧ Below w.heap.size w w' := by
  have hal : Below w.heap.size w (w.alloc (.cells #[.int .i64 x.t, .int .i64 x.i, .string x.k] 36)) := (Below.refl _ _).alloc (Nat.le_refl _) _
  have HW : Hid (Blk (w.alloc (.cells #[.int .i64 x.t, .int .i64 x.i, .string x.k] 36)) w.heap.size #[.int .i64 x.t, .int .i64 x.i, .string x.k] 36 ∧ RowS (w.alloc (.cells #[.int .i64 x.t, .int .i64 x.i, .string x.k] 36)) (w.alloc (.cells #[.int .i64 x.t, .int .i64 x.i, .string x.k] 36)).heap.size p L ∧ Below w.heap.size w (w.alloc (.cells #[.int .i64 x.t, .int .i64 x.i, .string x.k] 36))) := ⟨Blk.new w _ _, hR.on hal, hal⟩
  have HST : Hid (∀ (j : Nat) (hj : j < L.length), j ≤ firstG (fun s => inS x s) L → (inS x L[j] = true → firstG (fun s => inS x s) L = j) ∧ (inS x L[j] = false → j + 1 ≤ firstG (fun s => inS x s) L)) := firstG_step (fun s => inS x s) L
  have HIF : Hid (firstG (fun s => inS x s) L = L.length ↔ L.any (fun s => inS x s) = false) := firstG_iff (fun s => inS x s) L
  have HFL := firstG_le (fun s => inS x s) L
  clear hR hal
  generalize firstG (fun s => inS x s) L = f at *
  generalize L.any (fun s => inS x s) = an at *
  go_enter Tryz.func66, Tryz.ntmps66
  go_wp2_with fail
  generalize (w.alloc (.cells #[.int .i64 x.t, .int .i64 x.i, .string x.k] 36)) = wA at *
  go_loopw [5] (fun i wr => ∃ j : Nat, j ≤ f ∧ i = .int .i64 (j : Int) ∧ Hid (Below wA.heap.size wA wr)) (fun i _ => L.length - (intOf i).toNat)
  case atStart => exact ⟨0, Nat.zero_le _, by go_num, Below.refl _ _⟩
  case round =>
    obtain ⟨j, hj, rfl, HN⟩ := hrel
    have HE : Hid (Below w.heap.size w wr) := HW.out.2.2.trans (HN.out.mono HW.out.2.2.size)
    by_cases hj0 : j = L.length
    · have han : an = false := HIF.out.1 (by omega)
      subst hj0 han
      go_wp2_with fail
      go_ret
      exact ⟨rfl, HE.out⟩
    · have hj1 : j < L.length := by omega
      obtain ⟨b, o, hp, hbB, c0, c1, c2, c3, c4⟩ := (HW.out.2.1.on HN.out) j hj1
      have s0 := InB.cell (w := wr) c0 hbB
      have s1 := InB.cell (w := wr) c1 hbB
      have s2 := InB.cell (w := wr) c2 hbB
      have s3 := InB.cell (w := wr) c3 hbB
      have s4 := InB.cell (w := wr) c4 hbB
      have hX := HW.out.1.on HN.out
      have a0 := InB.cell (w := wr) (hX.cell (i := 0) rfl) hX.lt
      have a1 := InB.cell (w := wr) (hX.cell (i := 1) rfl) hX.lt
      have a2 := InB.cell (w := wr) (hX.cell (i := 2) rfl) hX.lt
      have ne1 := inB_ne wr
      have hst := HST.out j hj1 hj
      subst hp
      clear hj0 c0 c1 c2 c3 c4 hX hbB
      generalize L[j] = s at *
      have CH : Hid (∀ w1 : World, Calls Tryz.prog 80 #[rngV s.lo s.hi s.op, .string x.k] w1 fun e w' => e = .returned (.bool (hasB s.lo s.hi s.op x.k)) ∧ Below w1.heap.size w1 w') := fun w1 => rhas_any s.lo s.hi s.op x.k w1
      have hin : inS x s = ((s.t == x.t) && ((s.i == x.i) && hasB s.lo s.hi s.op x.k)) := by
        unfold inS
        rw [show (x.t == s.t) = (s.t == x.t) from by rw [Bool.eq_iff_iff, beq_iff_eq, beq_iff_eq]; exact ⟨Eq.symm, Eq.symm⟩, show (x.i == s.i) = (s.i == x.i) from by rw [Bool.eq_iff_iff, beq_iff_eq, beq_iff_eq]; exact ⟨Eq.symm, Eq.symm⟩]
      rw [hin] at hst
      clear hin
      generalize hasB s.lo s.hi s.op x.k = hb at *
      cases h1 : (s.t == x.t) <;> cases h2 : (s.i == x.i) <;> cases hb
      all_goals
        rw [h1, h2] at hst
        simp only [Bool.and_true, Bool.and_false, Bool.and_self, Bool.false_eq_true, false_implies, true_and, forall_const] at hst
        go_wp2_with fail
        refine wp_region_inB (by kernel_rfl) (by kernel_rfl) ?_
        repeat (go_big_quiet_step (first
          | (go_at_call 80; exact Calls.inB (CH.out _))))
        refine wpQuiet_nil ?_
        rintro w7 ⟨⟨w8, hb7⟩, h9⟩
        obtain rfl : w7 = w8 := h9
        clear s0 s1 s2 s3 s4 a0 a1 a2 ne1 CH
        go_wp2_with fail
      all_goals first
        | (go_roundw
           case rel => exact ⟨j + 1, by omega, by go_num, HN.out.trans (hb7.mono HN.out.size)⟩
           case measure => simp [intOf]; omega)
        | (go_ret
           have han : an = true := by
             cases h : an
             · have := HIF.out.2 h; omega
             · rfl
           exact ⟨by rw [han]; rfl, HE.out.trans (hb7.mono HE.out.size)⟩)

end Go.Proofs.YtcknhjabdjbjiabGreat
