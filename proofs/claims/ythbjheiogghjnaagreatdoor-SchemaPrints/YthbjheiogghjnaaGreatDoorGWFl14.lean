/- strconv.FormatFloat of a finite float, at 'e', -1, 64: a text that hangs on the float alone. The text of a float, on both sides. -/
import Derived.Lib.BufferRead
import Derived.Test.YthbjheiogghjnaaGreatDoorGWFl12
import Derived.Test.YthbjheiogghjnaaGreatDoorGMCode
namespace Go.Proofs.YthbjheiogghjnaaGreatDoor
open Go.RowKit
set_option maxRecDepth 100000

theorem wrap_u64_of {z : Nat} (h : z < 18446744073709551616) : IntKind.u64.wrap (z : Int) = (z : Int) := by
  unfold IntKind.wrap
  simp [IntKind.bits, IntKind.signed]
  omega
theorem exp_bd (s : Int) : 0 ≤ bits .and .i64 s 2047 ∧ bits .and .i64 s 2047 ≤ 2047 := by
  unfold bits
  have h : (BitVec.ofInt 64 s &&& BitVec.ofInt 64 2047).toNat ≤ 2047 := by
    rw [BitVec.toNat_and]
    exact Nat.and_le_right
  show 0 ≤ IntKind.i64.wrap ((BitVec.ofInt 64 s &&& BitVec.ofInt 64 2047).toNat : Int) ∧ IntKind.i64.wrap ((BitVec.ofInt 64 s &&& BitVec.ofInt 64 2047).toNat : Int) ≤ 2047
  generalize (BitVec.ofInt 64 s &&& BitVec.ofInt 64 2047).toNat = z at *
  rw [IntKind.wrap_i64]
  omega
theorem mant_bd (s : Int) : 0 ≤ bits .and .u64 s 4503599627370495 ∧ bits .and .u64 s 4503599627370495 < 4503599627370496 := by
  unfold bits
  have h : (BitVec.ofInt 64 s &&& BitVec.ofInt 64 4503599627370495).toNat ≤ 4503599627370495 := by
    rw [BitVec.toNat_and]
    exact Nat.and_le_right
  show 0 ≤ IntKind.u64.wrap ((BitVec.ofInt 64 s &&& BitVec.ofInt 64 4503599627370495).toNat : Int) ∧ IntKind.u64.wrap ((BitVec.ofInt 64 s &&& BitVec.ofInt 64 4503599627370495).toNat : Int) < 4503599627370496
  generalize (BitVec.ofInt 64 s &&& BitVec.ofInt 64 4503599627370495).toNat = z at *
  rw [wrap_u64_of (by omega)]
  omega
theorem or_bd (m : Int) (h0 : 0 ≤ m) (h1 : m < 4503599627370496) : 4503599627370496 ≤ bits .or .u64 m 4503599627370496 ∧ bits .or .u64 m 4503599627370496 < 9007199254740992 := by
  unfold bits
  have hm : (BitVec.ofInt 64 m).toNat = m.toNat := by
    rw [BitVec.toNat_ofInt]
    omega
  have h : 4503599627370496 ≤ (BitVec.ofInt 64 m ||| BitVec.ofInt 64 4503599627370496).toNat ∧ (BitVec.ofInt 64 m ||| BitVec.ofInt 64 4503599627370496).toNat < 9007199254740992 := by
    rw [BitVec.toNat_or, hm]
    exact ⟨Nat.right_le_or, Nat.or_lt_two_pow (n := 53) (by omega) (by decide)⟩
  show 4503599627370496 ≤ IntKind.u64.wrap ((BitVec.ofInt 64 m ||| BitVec.ofInt 64 4503599627370496).toNat : Int) ∧ IntKind.u64.wrap ((BitVec.ofInt 64 m ||| BitVec.ofInt 64 4503599627370496).toNat : Int) < 9007199254740992
  generalize (BitVec.ofInt 64 m ||| BitVec.ofInt 64 4503599627370496).toNat = z at *
  rw [wrap_u64_of (by omega)]
  omega
theorem ftoa_fin (T : Nat → Int × Int) (fb : Nat) (hf : ¬ bits .and .i64 (wrap64 ((fb : Int) / 4503599627370496)) 2047 = 2047) :
    ∃ t : List UInt8, t.length ≤ 40 ∧ ∀ (w : World) (B : Nat) (vb : Value) (bs : List UInt8), FlE T w → OwnB w B vb bs → B ≤ w.heap.size → bs.length ≤ 900 →
      Calls Tryz.prog 97 #[vb, .float .f64 fb, .int .u8 101, .int .i64 (-1)] w fun e w' => ∃ v', e = .returned v' ∧ OwnB w' B v' (bs ++ t) ∧ Keep5 B w w' := by
  obtain ⟨a1, a2⟩ := exp_bd (wrap64 ((fb : Int) / 4503599627370496))
  obtain ⟨b1, b2⟩ := mant_bd (fb : Int)
  by_cases he : bits .and .i64 (wrap64 ((fb : Int) / 4503599627370496)) 2047 = 0
  · by_cases hm : bits .and .u64 (fb : Int) 4503599627370495 = 0
    · exact ftoa_nought T fb _ 0 rfl he hm rfl
    · exact ftoa_sub T fb _ _ rfl he rfl (by omega) b2
  · obtain ⟨c1, c2⟩ := or_bd _ b1 b2
    exact ftoa_norm T fb _ _ _ _ rfl rfl rfl hf he a1 a2 b1 b2 rfl c1 c2

theorem conv_own {w : World} {B : Nat} {v : Value} {bs : List UInt8} (h : OwnB w B v bs) : (convert 52 9 v).run Tryz.prog w = .ok (.string ⟨bs.toArray⟩) w := by
  rcases h.shape with ⟨rfl, rfl⟩ | ⟨g, cap, rfl, _, _, hc⟩
  · rw [Lib.run_convert_nil_bytes w 52 9 5 0 Tryz.underlying52 Tryz.underlying5 Tryz.underlying9]
  · refine run_convert_bytes_back w 52 9 5 ⟨g, 0, none⟩ cap bs Tryz.underlying52 Tryz.underlying5 Tryz.underlying9 ?_
    intro j hj
    have e : (⟨g, 0, none⟩ : Addr).add j = ⟨g, j, none⟩ := by unfold Addr.add; split <;> simp_all
    rw [e]
    exact hc j hj

set_option maxHeartbeats 4000000 in
theorem iff_any (T : Nat → Int × Int) (fb : Nat) (hf : ¬ bits .and .i64 (wrap64 ((fb : Int) / 4503599627370496)) 2047 = 2047) :
    ∃ t : List UInt8, t.length ≤ 40 ∧ ∀ (w : World), FlE T w → Calls Tryz.prog 78 #[.float .f64 fb, .int .u8 101, .int .i64 (-1), .int .i64 64] w fun e w' => e = .returned (.string ⟨t.toArray⟩) ∧ Below w.heap.size w w' := by
  obtain ⟨t, htl, ht⟩ := ftoa_fin T fb hf
  refine ⟨t, htl, ?_⟩
  intro w hE
  have hmk : ∀ w3 : World, (Instr.makeSlice 52 (.int .i64 0) (.int .i64 24)).run Tryz.prog w3 = .ok (.slice (some ⟨w3.heap.size, 0, none⟩) 0 24) (w3.alloc (.cells (madeCells #[.int .u8 0] 24) 5)) := by
    intro w3
    obtain ⟨i, hi, q0, q1, q2⟩ := info_parts info_u8
    have := run_make (P := Tryz.prog) w3 52 5 i _ Tryz.underlying52 hi q0 .i64 .i64 0 24 (by omega) (by omega) (by rw [q2]; omega) (by omega)
    rw [this, q1]
    simp [Value.cells]
  have hmk2 : ∀ w3 : World, (Instr.makeSlice 52 (.int .i64 0) (.int .i64 (max 3 24))).run Tryz.prog w3 = .ok (.slice (some ⟨w3.heap.size, 0, none⟩) 0 24) (w3.alloc (.cells (madeCells #[.int .u8 0] 24) 5)) := hmk
  have hmx : max (3 : Int) 24 = 24 := by decide
  have hal : Below w.heap.size w (w.alloc (.cells (madeCells #[.int .u8 0] 24) 5)) := (Below.refl _ _).alloc (Nat.le_refl _) _
  have hO : OwnB (w.alloc (.cells (madeCells #[.int .u8 0] 24) 5)) w.heap.size (.slice (some ⟨w.heap.size, 0, none⟩) 0 24) [] :=
    ⟨rfl, .inr ⟨w.heap.size, 24, _, rfl, Nat.le_refl _, heap_alloc_new w _, Nat.zero_le _, by unfold maxLen; omega, size_madeCells _ _, rfl⟩⟩
  have CF : Hid (Calls Tryz.prog 97 #[.slice (some ⟨w.heap.size, 0, none⟩) 0 24, .float .f64 fb, .int .u8 101, .int .i64 (-1)] (w.alloc (.cells (madeCells #[.int .u8 0] 24) 5)) fun e w' => ∃ v', e = .returned v' ∧ OwnB w' w.heap.size v' ([] ++ t) ∧ Keep5 w.heap.size (w.alloc (.cells (madeCells #[.int .u8 0] 24) 5)) w') := ht _ _ _ _ (hE.on hal) hO hal.size (by decide)
  have HA : Hid (Below w.heap.size w (w.alloc (.cells (madeCells #[.int .u8 0] 24) 5))) := hal
  clear ht hE hal hO hf
  go_enter Tryz.func78, Tryz.ntmps78
  go_wp2_with fail
  refine CF.out.mono ?_
  rintro e w2 ⟨v2, rfl, ho2, hk2⟩
  dsimp only
  have hcv := conv_own ho2
  rw [List.nil_append] at hcv
  have HB : Hid (Below w.heap.size w w2) := HA.out.trans hk2.below
  clear ho2 hk2 CF hmk hmk2 hmx HA
  go_wp2_with fail
  go_ret
  exact ⟨rfl, HB.out⟩
set_option maxHeartbeats 4000000 in
theorem ff_any (T : Nat → Int × Int) (fb : Nat) (hf : ¬ bits .and .i64 (wrap64 ((fb : Int) / 4503599627370496)) 2047 = 2047) :
    ∃ t : List UInt8, t.length ≤ 40 ∧ ∀ (w : World), FlE T w → Calls Tryz.prog 55 #[.float .f64 fb, .int .u8 101, .int .i64 (-1), .int .i64 64] w fun e w' => e = .returned (.string ⟨t.toArray⟩) ∧ Below w.heap.size w w' := by
  obtain ⟨t, htl, ht⟩ := iff_any T fb hf
  refine ⟨t, htl, ?_⟩
  intro w hE
  have CF : Hid (Calls _ _ _ _ _) := ht w hE
  clear ht hE hf
  go_enter Tryz.func55, Tryz.ntmps55
  go_wp2_with fail
  refine CF.out.mono ?_
  rintro e w2 ⟨rfl, hb2⟩
  dsimp only
  have HB : Hid (Below w.heap.size w w2) := hb2
  clear hb2 CF
  go_wp2_with fail
  go_ret
  exact ⟨rfl, HB.out⟩

end Go.Proofs.YthbjheiogghjnaaGreatDoor

namespace Go.Proofs.YthbjheiogghjnaaGreatDoor
open Go.RowKit
set_option maxRecDepth 100000

theorem fK_iff {f g : Nat} (hf : f < 18446744073709551616) (hg : g < 18446744073709551616) : fK f < fK g ↔ eK f < eK g := by
  constructor
  · intro h
    rcases Int.lt_trichotomy (eK f) (eK g) with h1 | h1 | h1
    · exact h1
    · have := fK_same hf hg h1
      omega
    · have := fK_lt hg hf h1
      omega
  · exact fK_lt hf hg
theorem eK_val {f : Nat} (hn : isN f = false) : f % 2 ^ 63 ≤ 9218868437227405312 ∧ eK f = if f < 9223372036854775808 then ((f % 2 ^ 63 : Nat) : Int) else -((f % 2 ^ 63 : Nat) : Int) := by
  refine ⟨?_, ?_⟩
  · rw [isN_iff, decide_eq_false_iff_not] at hn
    omega
  · unfold eK
    rw [hn]
    rfl
theorem cmp_gt (a b : Int) : ((some (compare a b) == some Ordering.gt) = true) ↔ b < a := by
  rw [← Int.compare_eq_gt]
  cases compare a b <;> decide
theorem cmp_lt (a b : Int) : ((some (compare a b) == some Ordering.lt) = true) ↔ a < b := by
  rw [← Int.compare_eq_lt]
  cases compare a b <;> decide
theorem gt_max {f : Nat} (hf : f < 18446744073709551616) (hn : isN f = false) : (FloatKind.f64.format.order f 9218868437227405311 == some .gt) = decide (f = 9218868437227405312) := by
  rw [order_fK hn (by decide +kernel), Bool.eq_iff_iff, decide_eq_true_eq, cmp_gt, fK_iff (by decide) hf]
  obtain ⟨h1, h2⟩ := eK_val hn
  have h3 : eK 9218868437227405311 = 9218868437227405311 := by
    have := (eK_val (f := 9218868437227405311) (by decide +kernel)).2
    rw [this]
    decide
  rw [h2, h3]
  split <;> omega
theorem lt_min {f : Nat} (hf : f < 18446744073709551616) (hn : isN f = false) : (FloatKind.f64.format.order f 18442240474082181119 == some .lt) = decide (f = 18442240474082181120) := by
  rw [order_fK hn (by decide +kernel), Bool.eq_iff_iff, decide_eq_true_eq, cmp_lt, fK_iff hf (by decide)]
  obtain ⟨h1, h2⟩ := eK_val hn
  have h3 : eK 18442240474082181119 = -9218868437227405311 := by
    have := (eK_val (f := 18442240474082181119) (by decide +kernel)).2
    rw [this]
    decide
  rw [h2, h3]
  split <;> omega
theorem inf_bits {f : Nat} (hf : f < 18446744073709551616) : (bits .andNot .u64 (f : Int) 9223372036854775808 == 9218868437227405312) = decide (f = 9218868437227405312 ∨ f = 18442240474082181120) := by
  have h := u64_andNot_nat f 9223372036854775808 hf (by decide)
  have e : (18446744073709551615 - 9223372036854775808 : Nat) = 2 ^ 63 - 1 := by decide
  rw [e, Nat.and_two_pow_sub_one_eq_mod] at h
  have h' : bits .andNot .u64 (f : Int) 9223372036854775808 = ((f % 2 ^ 63 : Nat) : Int) := h
  rw [h', Bool.eq_iff_iff]
  simp only [beq_iff_eq, decide_eq_true_eq]
  omega
theorem exp_val {f : Nat} (hf : f < 18446744073709551616) : bits .and .i64 (wrap64 ((f : Int) / 4503599627370496)) 2047 = ((f / 4503599627370496 % 2048 : Nat) : Int) := by
  have hw : wrap64 ((f : Int) / 4503599627370496) = ((f / 4503599627370496 : Nat) : Int) := by unfold wrap64; omega
  rw [hw]
  generalize hn : f / 4503599627370496 = n
  have hn2 : n < 4096 := by omega
  unfold bits
  show IntKind.i64.wrap ((BitVec.ofInt 64 (n : Int) &&& BitVec.ofInt 64 2047).toNat : Int) = _
  have h1 : (BitVec.ofInt 64 (n : Int)).toNat = n := by
    rw [BitVec.toNat_ofInt]
    omega
  have h2 : (BitVec.ofInt 64 2047).toNat = 2 ^ 11 - 1 := by decide
  rw [BitVec.toNat_and, h1, h2, Nat.and_two_pow_sub_one_eq_mod, IntKind.wrap_i64]
  omega
theorem inf_any (f : Nat) (w : World) (hf : f < 18446744073709551616) :
    Calls Tryz.prog 88 #[.float .f64 f] w fun e w' => e = .returned (.bool (decide (f = 9218868437227405312 ∨ f = 18442240474082181120))) ∧ w' = w := by
  rw [← inf_bits hf]
  have hb := run_fbits
  go_enter Tryz.func88, Tryz.ntmps88
  go_wp2
  go_ret
  exact ⟨rfl, rfl⟩
theorem sgn_any (f : Nat) (w : World) (b : Bool) (h : (bits .and .u64 (f : Int) 9223372036854775808 != 0) = b) :
    Calls Tryz.prog 89 #[.float .f64 f] w fun e w' => e = .returned (.bool b) ∧ w' = w := by
  have hb := run_fbits
  go_enter Tryz.func89, Tryz.ntmps89
  go_wp2
  go_ret
  exact ⟨by rw [← h]; rfl, rfl⟩
/-- both texts of a float are one -/
def FlB (f : Nat) (t : List UInt8) (w : World) : Prop := (Calls Tryz.prog 68 #[.float .f64 f] w fun e w' => e = .returned (.string ⟨t.toArray⟩) ∧ Below w.heap.size w w') ∧ (Calls Tryz.prog 37 #[.float .f64 f] w fun e w' => e = .returned (.string ⟨t.toArray⟩) ∧ Below w.heap.size w w')

set_option maxHeartbeats 4000000 in
theorem floatText_any (T : Nat → Int × Int) (f : Nat) (hf : f < 18446744073709551616) : ∃ t : List UInt8, t.length ≤ 40 ∧ ∀ w, FlE T w → FlB f t w := by
  cases hn : isN f
  · have h1 : nanB f = false := by rw [nanB_eq hf]; exact hn
    have h2 : nanO f = false := by rw [nanO_eq]; exact hn
    have hg := gt_max hf hn
    have hl := lt_min hf hn
    by_cases hi : f = 9218868437227405312
    · subst hi
      have hinf : decide (9218868437227405312 = 9218868437227405312 ∨ 9218868437227405312 = 18442240474082181120) = true := by decide
      rw [show decide (9218868437227405312 = 9218868437227405312) = true from by decide] at hg
      rw [show decide (9218868437227405312 = 18442240474082181120) = false from by decide] at hl
      refine ⟨[73, 110, 102, 105, 110, 105, 116, 121], by decide, fun w _ => ⟨?_, ?_⟩⟩
      · have C1 : Hid (∀ w, Calls Tryz.prog 87 #[.float .f64 9218868437227405312] w fun e w' => e = .returned (.bool false) ∧ w' = w) := fun w => by
          have h9 := isNaN_any 9218868437227405312 w
          rw [h1] at h9
          exact h9
        have C2 : Hid (∀ w, Calls Tryz.prog 88 #[.float .f64 9218868437227405312] w fun e w' => e = .returned (.bool true) ∧ w' = w) := fun w => by
          have h9 := inf_any 9218868437227405312 w hf
          rw [hinf] at h9
          exact h9
        have C3 : Hid (∀ w, Calls Tryz.prog 89 #[.float .f64 9218868437227405312] w fun e w' => e = .returned (.bool false) ∧ w' = w) := fun w => sgn_any _ w _ (by decide +kernel)
        clear hg hl h1 h2 hn hf hinf
        go_enter Tryz.func68, Tryz.ntmps68
        go_wp2_with fail
        refine (C1.out _).mono ?_
        rintro e w1 ⟨rfl, hw⟩
        rw [hw]
        clear hw
        go_wp2_with fail
        refine (C2.out _).mono ?_
        rintro e w1 ⟨rfl, hw⟩
        rw [hw]
        clear hw
        go_wp2_with fail
        refine (C3.out _).mono ?_
        rintro e w1 ⟨rfl, hw⟩
        rw [hw]
        clear hw
        go_wp2_with fail
        refine (C2.out _).mono ?_
        rintro e w1 ⟨rfl, hw⟩
        rw [hw]
        clear hw
        go_wp2_with fail
        go_ret
        exact ⟨rfl, Below.refl _ _⟩
      · have C1 : Hid (∀ w, Calls Tryz.prog 54 #[.float .f64 9218868437227405312] w fun e w' => e = .returned (.bool false) ∧ w' = w) := fun w => by
          have h9 := risNaN_any 9218868437227405312 w
          rw [h2] at h9
          exact h9
        clear h1 h2 hn hf hinf
        go_enter Tryz.func37, Tryz.ntmps37
        go_wp2_with fail
        refine (C1.out _).mono ?_
        rintro e w1 ⟨rfl, hw⟩
        rw [hw]
        clear hw
        go_wp2_with fail
        go_ret
        exact ⟨rfl, Below.refl _ _⟩
    · by_cases hj : f = 18442240474082181120
      · subst hj
        have hinf : decide (18442240474082181120 = 9218868437227405312 ∨ 18442240474082181120 = 18442240474082181120) = true := by decide
        rw [show decide (18442240474082181120 = 9218868437227405312) = false from by decide] at hg
        rw [show decide (18442240474082181120 = 18442240474082181120) = true from by decide] at hl
        refine ⟨[45, 73, 110, 102, 105, 110, 105, 116, 121], by decide, fun w _ => ⟨?_, ?_⟩⟩
        · have C1 : Hid (∀ w, Calls Tryz.prog 87 #[.float .f64 18442240474082181120] w fun e w' => e = .returned (.bool false) ∧ w' = w) := fun w => by
            have h9 := isNaN_any 18442240474082181120 w
            rw [h1] at h9
            exact h9
          have C2 : Hid (∀ w, Calls Tryz.prog 88 #[.float .f64 18442240474082181120] w fun e w' => e = .returned (.bool true) ∧ w' = w) := fun w => by
            have h9 := inf_any 18442240474082181120 w hf
            rw [hinf] at h9
            exact h9
          have C3 : Hid (∀ w, Calls Tryz.prog 89 #[.float .f64 18442240474082181120] w fun e w' => e = .returned (.bool true) ∧ w' = w) := fun w => sgn_any _ w _ (by decide +kernel)
          clear hg hl h1 h2 hn hf hinf
          go_enter Tryz.func68, Tryz.ntmps68
          go_wp2_with fail
          refine (C1.out _).mono ?_
          rintro e w1 ⟨rfl, hw⟩
          rw [hw]
          clear hw
          go_wp2_with fail
          refine (C2.out _).mono ?_
          rintro e w1 ⟨rfl, hw⟩
          rw [hw]
          clear hw
          go_wp2_with fail
          refine (C3.out _).mono ?_
          rintro e w1 ⟨rfl, hw⟩
          rw [hw]
          clear hw
          go_wp2_with fail
          go_ret
          exact ⟨rfl, Below.refl _ _⟩
        · have C1 : Hid (∀ w, Calls Tryz.prog 54 #[.float .f64 18442240474082181120] w fun e w' => e = .returned (.bool false) ∧ w' = w) := fun w => by
            have h9 := risNaN_any 18442240474082181120 w
            rw [h2] at h9
            exact h9
          clear h1 h2 hn hf hinf
          go_enter Tryz.func37, Tryz.ntmps37
          go_wp2_with fail
          refine (C1.out _).mono ?_
          rintro e w1 ⟨rfl, hw⟩
          rw [hw]
          clear hw
          go_wp2_with fail
          go_ret
          exact ⟨rfl, Below.refl _ _⟩
      · have hinf : decide (f = 9218868437227405312 ∨ f = 18442240474082181120) = false := by simp [hi, hj]
        rw [show decide (f = 9218868437227405312) = false from by simp [hi]] at hg
        rw [show decide (f = 18442240474082181120) = false from by simp [hj]] at hl
        obtain ⟨t, htl, ht⟩ := ff_any T f (by
          rw [exp_val hf]
          have := (eK_val hn).1
          omega)
        clear hi hj
        refine ⟨t, htl, fun w hE => ⟨?_, ?_⟩⟩
        · have C1 : Hid (∀ w, Calls Tryz.prog 87 #[.float .f64 f] w fun e w' => e = .returned (.bool false) ∧ w' = w) := fun w => by
            have h9 := isNaN_any f w
            rw [h1] at h9
            exact h9
          have C2 : Hid (∀ w, Calls Tryz.prog 88 #[.float .f64 f] w fun e w' => e = .returned (.bool false) ∧ w' = w) := fun w => by
            have h9 := inf_any f w hf
            rw [hinf] at h9
            exact h9
          have CF : Hid (Calls _ _ _ _ _) := ht w hE
          clear ht
          clear hg hl h1 h2 hn hf hinf
          go_enter Tryz.func68, Tryz.ntmps68
          go_wp2_with fail
          refine (C1.out _).mono ?_
          rintro e w1 ⟨rfl, hw⟩
          rw [hw]
          clear hw
          go_wp2_with fail
          refine (C2.out _).mono ?_
          rintro e w1 ⟨rfl, hw⟩
          rw [hw]
          clear hw
          go_wp2_with fail
          refine (C2.out _).mono ?_
          rintro e w1 ⟨rfl, hw⟩
          rw [hw]
          clear hw
          go_wp2_with fail
          refine CF.out.mono ?_
          rintro e w2 ⟨rfl, hb2⟩
          dsimp only
          have HB : Hid (Below w.heap.size w w2) := hb2
          clear hb2 CF
          go_wp2_with fail
          go_ret
          exact ⟨rfl, HB.out⟩
        · have C1 : Hid (∀ w, Calls Tryz.prog 54 #[.float .f64 f] w fun e w' => e = .returned (.bool false) ∧ w' = w) := fun w => by
            have h9 := risNaN_any f w
            rw [h2] at h9
            exact h9
          have CF : Hid (Calls _ _ _ _ _) := ht w hE
          clear ht
          clear h1 h2 hn hf hinf
          go_enter Tryz.func37, Tryz.ntmps37
          go_wp2_with fail
          refine (C1.out _).mono ?_
          rintro e w1 ⟨rfl, hw⟩
          rw [hw]
          clear hw
          go_wp2_with fail
          refine CF.out.mono ?_
          rintro e w2 ⟨rfl, hb2⟩
          dsimp only
          have HB : Hid (Below w.heap.size w w2) := hb2
          clear hb2 CF
          go_wp2_with fail
          go_ret
          exact ⟨rfl, HB.out⟩
  · have h1 : nanB f = true := by rw [nanB_eq hf]; exact hn
    have h2 : nanO f = true := by rw [nanO_eq]; exact hn
    have hg : True := trivial
    have hl : True := trivial
    have hinf : True := trivial
    refine ⟨[78, 97, 78], by decide, fun w _ => ⟨?_, ?_⟩⟩
    · have C1 : Hid (∀ w, Calls Tryz.prog 87 #[.float .f64 f] w fun e w' => e = .returned (.bool true) ∧ w' = w) := fun w => by
        have h9 := isNaN_any f w
        rw [h1] at h9
        exact h9
      clear hg hl h1 h2 hn hf hinf
      go_enter Tryz.func68, Tryz.ntmps68
      go_wp2_with fail
      refine (C1.out _).mono ?_
      rintro e w1 ⟨rfl, hw⟩
      rw [hw]
      clear hw
      go_wp2_with fail
      go_ret
      exact ⟨rfl, Below.refl _ _⟩
    · have C1 : Hid (∀ w, Calls Tryz.prog 54 #[.float .f64 f] w fun e w' => e = .returned (.bool true) ∧ w' = w) := fun w => by
        have h9 := risNaN_any f w
        rw [h2] at h9
        exact h9
      clear h1 h2 hn hf hinf
      go_enter Tryz.func37, Tryz.ntmps37
      go_wp2_with fail
      refine (C1.out _).mono ?_
      rintro e w1 ⟨rfl, hw⟩
      rw [hw]
      clear hw
      go_wp2_with fail
      go_ret
      exact ⟨rfl, Below.refl _ _⟩

end Go.Proofs.YthbjheiogghjnaaGreatDoor
