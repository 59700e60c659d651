/- A point looked for in a list in order. -/
import Derived.Test.YtjeidpgkgjljcaaWCl3
namespace Go.Proofs.Ytjeidpgkgjljcaa
open Go.RowKit
set_option maxRecDepth 100000

theorem RisP.lt {L : List Pt} (h : RisP L) {i j : Nat} (hij : i < j) (hj : j < L.length) : ltP (L[i]'(by omega)) L[j] = true := List.pairwise_iff_getElem.1 h i j (by omega) hj hij

set_option maxHeartbeats 8000000 in
theorem bsP_any (L : List Pt) (p : Option Addr) (c : Nat) (t : Pt) (w : World) (hR0 : RowP w w.heap.size p L) (hI0 : RisP L) (hlen : L.length ≤ 4398046511104) :
    Calls Try.prog 44 #[.slice p L.length c, PV t, .func (.func 46) #[] #[]] w fun e w' => ∃ (i : Nat) (b : Bool), e = .returned (.tuple #[.int .i64 (i : Nat), .bool b]) ∧ i ≤ L.length ∧ (∀ k (hk : k < L.length), k < i → ltP L[k] t = true) ∧ (∀ k (hk : k < L.length), i ≤ k → ltP L[k] t = false) ∧ Below w.heap.size w w' := by
  have hal : Below w.heap.size w (w.alloc (.cells #[.int .i64 t.t, .int .i64 t.i, .string t.k] 27)) := (Below.refl _ _).alloc (Nat.le_refl _) _
  have hz : (w.alloc (.cells #[.int .i64 t.t, .int .i64 t.i, .string t.k] 27)).heap.size = w.heap.size + 1 := by simp
  have HT : Hid (Blk (w.alloc (.cells #[.int .i64 t.t, .int .i64 t.i, .string t.k] 27)) w.heap.size #[.int .i64 t.t, .int .i64 t.i, .string t.k] 27 ∧ (w.alloc (.cells #[.int .i64 t.t, .int .i64 t.i, .string t.k] 27)).heap.size = w.heap.size + 1) := ⟨Blk.new w _ _, hz⟩
  have HR : Hid (RowP (w.alloc (.cells #[.int .i64 t.t, .int .i64 t.i, .string t.k] 27)) (w.alloc (.cells #[.int .i64 t.t, .int .i64 t.i, .string t.k] 27)).heap.size p L) := hR0.on hal
  have HI : Hid (RisP L) := hI0
  have HW : Hid (Below w.heap.size w (w.alloc (.cells #[.int .i64 t.t, .int .i64 t.i, .string t.k] 27))) := hal
  have HCM : Hid (∀ (x : Pt) (w1 : World), Calls Try.prog 46 #[PV x, PV t] w1 fun e w' => e = .returned (.int .i64 (cmpP x t)) ∧ Below w1.heap.size w1 w') := fun x w1 => compareB_any x t w1
  clear hR0 hI0 hal hz
  go_enter Try.func44, Try.ntmps44
  go_wp2_with fail
  generalize (w.alloc (.cells #[.int .i64 t.t, .int .i64 t.i, .string t.k] 27)) = wA at *
  go_loopw [9, 10] (fun a b wr => ∃ i j : Nat, a = .int .i64 (i : Int) ∧ b = .int .i64 (j : Int) ∧ i ≤ j ∧ j ≤ L.length ∧ Hid (∀ k (hk : k < L.length), k < i → ltP L[k] t = true) ∧ Hid (∀ k (hk : k < L.length), j ≤ k → ltP L[k] t = false) ∧ Hid (Below wA.heap.size wA wr)) (fun a b _ => (intOf b).toNat - (intOf a).toNat)
  case atStart => exact ⟨0, L.length, by go_num, rfl, Nat.zero_le _, Nat.le_refl _, fun k _ h => absurd h (by omega), fun k hk h => absurd h (by omega), Below.refl _ _⟩
  case round =>
    obtain ⟨i, j, rfl, rfl, hij, hj, hA, hB, HBl⟩ := hrel
    by_cases h0 : i = j
    · subst h0
      clear hij
      by_cases hm1 : i < L.length
      · obtain ⟨b, o, hp, hb, d0, d1, d2⟩ := (HR.out.on HBl.out) i hm1
        subst hp
        have b0 := InB.cell (w := wr) d0 hb
        have b1 := InB.cell (w := wr) d1 hb
        have b2 := InB.cell (w := wr) d2 hb
        have t0 := InB.cell (w := wr) ((HBl.out.cell (p := ⟨w.heap.size, 0, none⟩) (by have := HT.out.2; show w.heap.size < _; omega)).trans (HT.out.1.cell (i := 0) rfl)) (by have := HT.out.2; have := HBl.out.size; omega)
        have t1 := InB.cell (w := wr) ((HBl.out.cell (p := ⟨w.heap.size, 1, none⟩) (by have := HT.out.2; show w.heap.size < _; omega)).trans (HT.out.1.cell (i := 1) rfl)) (by have := HT.out.2; have := HBl.out.size; omega)
        have t2 := InB.cell (w := wr) ((HBl.out.cell (p := ⟨w.heap.size, 2, none⟩) (by have := HT.out.2; show w.heap.size < _; omega)).trans (HT.out.1.cell (i := 2) rfl)) (by have := HT.out.2; have := HBl.out.size; omega)
        have ne1 := inB_ne wr
        have CC : Hid (∀ w1 : World, Calls Try.prog 46 #[PV L[i], PV t] w1 fun e w' => e = .returned (.int .i64 (cmpP L[i] t)) ∧ Below w1.heap.size w1 w') := fun w1 => HCM.out L[i] w1
        clear d0 d1 d2 hb
        generalize cmpP L[i] t = cm at *
        generalize L[i] = x at b0 b1 b2 CC
        have gl : decide ((i : Int) < (L.length : Int)) = true := by simp; omega
        go_wp2_with fail
        refine wp_region_inB (by kernel_rfl) (by kernel_rfl) ?_
        repeat (go_big_quiet_step (first
          | (go_at_call 46; exact Calls.inB (CC.out _))))
        refine wpQuiet_nil ?_
        rintro w2 ⟨⟨w3, hb2⟩, h9⟩
        obtain rfl : w2 = w3 := h9
        clear b0 b1 b2 t0 t1 t2 ne1 CC
        go_wp2_with fail
        refine bodyPost_ret (results_tmp2 rfl _ _ _) rfl ?_
        exact ⟨i, _, rfl, hj, hA.out, hB.out, HW.out.trans ((HBl.out.trans (hb2.mono HBl.out.size)).mono HW.out.size)⟩
      · have hi2 : i = L.length := by omega
        have gl : decide ((i : Int) < (L.length : Int)) = false := by simp; omega
        have ne1 := inB_ne wr
        go_wp2_with fail
        refine wp_region_inB (by kernel_rfl) (by kernel_rfl) ?_
        repeat (go_big_quiet_step (first
          | (go_at_call 46; fail)))
        refine wpQuiet_nil ?_
        rintro w2 ⟨⟨w3, hb2⟩, h9⟩
        obtain rfl : w2 = w3 := h9
        clear ne1
        go_wp2_with fail
        refine bodyPost_ret (results_tmp2 rfl _ _ _) rfl ?_
        exact ⟨i, _, rfl, hj, hA.out, hB.out, HW.out.trans ((HBl.out.trans (hb2.mono HBl.out.size)).mono HW.out.size)⟩
    · have hl : i < j := by omega
      obtain ⟨m, hm⟩ : ∃ m : Nat, m = (i + j) / 2 := ⟨_, rfl⟩
      have hmi : ((i : Int) + (j : Int)) / 2 = ((m : Nat) : Int) := by omega
      have hm1 : m < L.length := by omega
      have HM : Hid (i ≤ m ∧ m < j) := ⟨by omega, by omega⟩
      clear hm
      obtain ⟨b, o, hp, hb, d0, d1, d2⟩ := (HR.out.on HBl.out) m hm1
      subst hp
      have b0 := InB.cell (w := wr) d0 hb
      have b1 := InB.cell (w := wr) d1 hb
      have b2 := InB.cell (w := wr) d2 hb
      have t0 := InB.cell (w := wr) ((HBl.out.cell (p := ⟨w.heap.size, 0, none⟩) (by have := HT.out.2; show w.heap.size < _; omega)).trans (HT.out.1.cell (i := 0) rfl)) (by have := HT.out.2; have := HBl.out.size; omega)
      have t1 := InB.cell (w := wr) ((HBl.out.cell (p := ⟨w.heap.size, 1, none⟩) (by have := HT.out.2; show w.heap.size < _; omega)).trans (HT.out.1.cell (i := 1) rfl)) (by have := HT.out.2; have := HBl.out.size; omega)
      have t2 := InB.cell (w := wr) ((HBl.out.cell (p := ⟨w.heap.size, 2, none⟩) (by have := HT.out.2; show w.heap.size < _; omega)).trans (HT.out.1.cell (i := 2) rfl)) (by have := HT.out.2; have := HBl.out.size; omega)
      have ne1 := inB_ne wr
      have CC : Hid (∀ w1 : World, Calls Try.prog 46 #[PV L[m], PV t] w1 fun e w' => e = .returned (.int .i64 (cmpP L[m] t)) ∧ Below w1.heap.size w1 w') := fun w1 => HCM.out L[m] w1
      clear d0 d1 d2 hb
      by_cases hx : ltP L[m] t = true
      · have HA2 : Hid (∀ k (hk : k < L.length), k < m + 1 → ltP L[k] t = true) := fun k hk hkm => by
          rcases Nat.lt_or_eq_of_le (Nat.lt_succ_iff.1 hkm) with h | h
          · exact ltP_trans (HI.out.lt h hm1) hx
          · subst h; exact hx
        have hc : decide (cmpP L[m] t < 0) = true := hx
        clear hx hA
        generalize cmpP L[m] t = cm at *
        generalize L[m] = x at b0 b1 b2 CC
        go_wp2_with fail
        refine wp_region_inB (by kernel_rfl) (by kernel_rfl) ?_
        repeat (go_big_quiet_step (first
          | (go_at_call 46; exact Calls.inB (CC.out _))))
        refine wpQuiet_nil ?_
        rintro w2 ⟨⟨w3, hb2⟩, h9⟩
        obtain rfl : w2 = w3 := h9
        clear b0 b1 b2 t0 t1 t2 ne1 CC hmi
        go_wp2_with fail
        go_roundw
        case rel => exact ⟨m + 1, j, by go_num, rfl, by have := HM.out; omega, hj, HA2, hB, HBl.out.trans (hb2.mono HBl.out.size)⟩
        case measure => simp [intOf]; have := HM.out; omega
      · have hx' : ltP L[m] t = false := by cases h : ltP L[m] t; rfl; exact absurd h hx
        have HB3 : Hid (∀ k (hk : k < L.length), m ≤ k → ltP L[k] t = false) := fun k hk hkm => by
          rcases Nat.lt_or_eq_of_le hkm with h | h
          · exact leP_trans hx' (ltP_asymm (HI.out.lt h hk))
          · subst h; exact hx'
        have hc : decide (cmpP L[m] t < 0) = false := hx'
        clear hx hx' hB
        generalize cmpP L[m] t = cm at *
        generalize L[m] = x at b0 b1 b2 CC
        go_wp2_with fail
        refine wp_region_inB (by kernel_rfl) (by kernel_rfl) ?_
        repeat (go_big_quiet_step (first
          | (go_at_call 46; exact Calls.inB (CC.out _))))
        refine wpQuiet_nil ?_
        rintro w2 ⟨⟨w3, hb2⟩, h9⟩
        obtain rfl : w2 = w3 := h9
        clear b0 b1 b2 t0 t1 t2 ne1 CC hmi
        go_wp2_with fail
        go_roundw
        case rel => exact ⟨i, m, rfl, rfl, HM.out.1, by have := HM.out; omega, hA, HB3, HBl.out.trans (hb2.mono HBl.out.size)⟩
        case measure => simp [intOf]; have := HM.out; omega
end Go.Proofs.Ytjeidpgkgjljcaa
