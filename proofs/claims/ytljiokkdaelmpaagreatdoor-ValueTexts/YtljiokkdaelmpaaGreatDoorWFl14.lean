/- strconv.FormatFloat of a finite float, at 'e', -1, 64: a text that hangs on the float alone. -/
import Derived.Test.YtljiokkdaelmpaaGreatDoorWFl13
import Derived.Lib.BufferRead
namespace Go.Proofs.YtljiokkdaelmpaaGreatDoor
open Go.RowKit
set_option maxRecDepth 100000

theorem wrap_u64_of {z : Nat} (h : z < 18446744073709551616) : IntKind.u64.wrap (z : Int) = (z : Int) := by
  unfold IntKind.wrap
  simp [IntKind.bits, IntKind.signed]
  omega
theorem exp_bd (s : Int) : 0 ≤ bits .and .i64 s 2047 ∧ bits .and .i64 s 2047 ≤ 2047 := by
  unfold bits
  have h : (BitVec.ofInt 64 s &&& BitVec.ofInt 64 2047).toNat ≤ 2047 := by
    rw [BitVec.toNat_and]
    exact Nat.and_le_right
  show 0 ≤ IntKind.i64.wrap ((BitVec.ofInt 64 s &&& BitVec.ofInt 64 2047).toNat : Int) ∧ IntKind.i64.wrap ((BitVec.ofInt 64 s &&& BitVec.ofInt 64 2047).toNat : Int) ≤ 2047
  generalize (BitVec.ofInt 64 s &&& BitVec.ofInt 64 2047).toNat = z at *
  rw [IntKind.wrap_i64]
  omega
theorem mant_bd (s : Int) : 0 ≤ bits .and .u64 s 4503599627370495 ∧ bits .and .u64 s 4503599627370495 < 4503599627370496 := by
  unfold bits
  have h : (BitVec.ofInt 64 s &&& BitVec.ofInt 64 4503599627370495).toNat ≤ 4503599627370495 := by
    rw [BitVec.toNat_and]
    exact Nat.and_le_right
  show 0 ≤ IntKind.u64.wrap ((BitVec.ofInt 64 s &&& BitVec.ofInt 64 4503599627370495).toNat : Int) ∧ IntKind.u64.wrap ((BitVec.ofInt 64 s &&& BitVec.ofInt 64 4503599627370495).toNat : Int) < 4503599627370496
  generalize (BitVec.ofInt 64 s &&& BitVec.ofInt 64 4503599627370495).toNat = z at *
  rw [wrap_u64_of (by omega)]
  omega
theorem or_bd (m : Int) (h0 : 0 ≤ m) (h1 : m < 4503599627370496) : 4503599627370496 ≤ bits .or .u64 m 4503599627370496 ∧ bits .or .u64 m 4503599627370496 < 9007199254740992 := by
  unfold bits
  have hm : (BitVec.ofInt 64 m).toNat = m.toNat := by
    rw [BitVec.toNat_ofInt]
    omega
  have h : 4503599627370496 ≤ (BitVec.ofInt 64 m ||| BitVec.ofInt 64 4503599627370496).toNat ∧ (BitVec.ofInt 64 m ||| BitVec.ofInt 64 4503599627370496).toNat < 9007199254740992 := by
    rw [BitVec.toNat_or, hm]
    exact ⟨Nat.right_le_or, Nat.or_lt_two_pow (n := 53) (by omega) (by decide)⟩
  show 4503599627370496 ≤ IntKind.u64.wrap ((BitVec.ofInt 64 m ||| BitVec.ofInt 64 4503599627370496).toNat : Int) ∧ IntKind.u64.wrap ((BitVec.ofInt 64 m ||| BitVec.ofInt 64 4503599627370496).toNat : Int) < 9007199254740992
  generalize (BitVec.ofInt 64 m ||| BitVec.ofInt 64 4503599627370496).toNat = z at *
  rw [wrap_u64_of (by omega)]
  omega
theorem ftoa_fin (T : Nat → Int × Int) (fb : Nat) (hf : ¬ bits .and .i64 (wrap64 ((fb : Int) / 4503599627370496)) 2047 = 2047) :
    ∃ t : List UInt8, ∀ (w : World) (B : Nat) (vb : Value) (bs : List UInt8), FlE T w → OwnB w B vb bs → B ≤ w.heap.size → bs.length ≤ 900 →
      Calls Tryz.prog 79 #[vb, .float .f64 fb, .int .u8 101, .int .i64 (-1)] w fun e w' => ∃ v', e = .returned v' ∧ OwnB w' B v' (bs ++ t) ∧ Keep5 B w w' := by
  obtain ⟨a1, a2⟩ := exp_bd (wrap64 ((fb : Int) / 4503599627370496))
  obtain ⟨b1, b2⟩ := mant_bd (fb : Int)
  by_cases he : bits .and .i64 (wrap64 ((fb : Int) / 4503599627370496)) 2047 = 0
  · by_cases hm : bits .and .u64 (fb : Int) 4503599627370495 = 0
    · exact ftoa_nought T fb _ 0 rfl he hm rfl
    · exact ftoa_sub T fb _ _ rfl he rfl (by omega) b2
  · obtain ⟨c1, c2⟩ := or_bd _ b1 b2
    exact ftoa_norm T fb _ _ _ _ rfl rfl rfl hf he a1 a2 b1 b2 rfl c1 c2

theorem conv_own {w : World} {B : Nat} {v : Value} {bs : List UInt8} (h : OwnB w B v bs) : (convert 46 9 v).run Tryz.prog w = .ok (.string ⟨bs.toArray⟩) w := by
  rcases h.shape with ⟨rfl, rfl⟩ | ⟨g, cap, rfl, _, _, hc⟩
  · rw [Lib.run_convert_nil_bytes w 46 9 5 0 Tryz.underlying46 Tryz.underlying5 Tryz.underlying9]
  · refine run_convert_bytes_back w 46 9 5 ⟨g, 0, none⟩ cap bs Tryz.underlying46 Tryz.underlying5 Tryz.underlying9 ?_
    intro j hj
    have e : (⟨g, 0, none⟩ : Addr).add j = ⟨g, j, none⟩ := by unfold Addr.add; split <;> simp_all
    rw [e]
    exact hc j hj

set_option maxHeartbeats 4000000 in
theorem iff_any (T : Nat → Int × Int) (fb : Nat) (hf : ¬ bits .and .i64 (wrap64 ((fb : Int) / 4503599627370496)) 2047 = 2047) :
    ∃ t : List UInt8, ∀ (w : World), FlE T w → Calls Tryz.prog 64 #[.float .f64 fb, .int .u8 101, .int .i64 (-1), .int .i64 64] w fun e w' => e = .returned (.string ⟨t.toArray⟩) ∧ Below w.heap.size w w' := by
  obtain ⟨t, ht⟩ := ftoa_fin T fb hf
  refine ⟨t, ?_⟩
  intro w hE
  have hmk : ∀ w3 : World, (Instr.makeSlice 46 (.int .i64 0) (.int .i64 24)).run Tryz.prog w3 = .ok (.slice (some ⟨w3.heap.size, 0, none⟩) 0 24) (w3.alloc (.cells (madeCells #[.int .u8 0] 24) 5)) := by
    intro w3
    obtain ⟨i, hi, q0, q1, q2⟩ := info_parts info_u8
    have := run_make (P := Tryz.prog) w3 46 5 i _ Tryz.underlying46 hi q0 .i64 .i64 0 24 (by omega) (by omega) (by rw [q2]; omega) (by omega)
    rw [this, q1]
    simp [Value.cells]
  have hmk2 : ∀ w3 : World, (Instr.makeSlice 46 (.int .i64 0) (.int .i64 (max 3 24))).run Tryz.prog w3 = .ok (.slice (some ⟨w3.heap.size, 0, none⟩) 0 24) (w3.alloc (.cells (madeCells #[.int .u8 0] 24) 5)) := hmk
  have hmx : max (3 : Int) 24 = 24 := by decide
  have hal : Below w.heap.size w (w.alloc (.cells (madeCells #[.int .u8 0] 24) 5)) := (Below.refl _ _).alloc (Nat.le_refl _) _
  have hO : OwnB (w.alloc (.cells (madeCells #[.int .u8 0] 24) 5)) w.heap.size (.slice (some ⟨w.heap.size, 0, none⟩) 0 24) [] :=
    ⟨rfl, .inr ⟨w.heap.size, 24, _, rfl, Nat.le_refl _, heap_alloc_new w _, Nat.zero_le _, by unfold maxLen; omega, size_madeCells _ _, rfl⟩⟩
  have CF : Hid (Calls Tryz.prog 79 #[.slice (some ⟨w.heap.size, 0, none⟩) 0 24, .float .f64 fb, .int .u8 101, .int .i64 (-1)] (w.alloc (.cells (madeCells #[.int .u8 0] 24) 5)) fun e w' => ∃ v', e = .returned v' ∧ OwnB w' w.heap.size v' ([] ++ t) ∧ Keep5 w.heap.size (w.alloc (.cells (madeCells #[.int .u8 0] 24) 5)) w') := ht _ _ _ _ (hE.on hal) hO hal.size (by decide)
  have HA : Hid (Below w.heap.size w (w.alloc (.cells (madeCells #[.int .u8 0] 24) 5))) := hal
  clear ht hE hal hO hf
  go_enter Tryz.func64, Tryz.ntmps64
  go_wp2_with fail
  refine CF.out.mono ?_
  rintro e w2 ⟨v2, rfl, ho2, hk2⟩
  dsimp only
  have hcv := conv_own ho2
  rw [List.nil_append] at hcv
  have HB : Hid (Below w.heap.size w w2) := HA.out.trans hk2.below
  clear ho2 hk2 CF hmk hmk2 hmx HA
  go_wp2_with fail
  go_ret
  exact ⟨rfl, HB.out⟩
set_option maxHeartbeats 4000000 in
theorem ff_any (T : Nat → Int × Int) (fb : Nat) (hf : ¬ bits .and .i64 (wrap64 ((fb : Int) / 4503599627370496)) 2047 = 2047) :
    ∃ t : List UInt8, ∀ (w : World), FlE T w → Calls Tryz.prog 44 #[.float .f64 fb, .int .u8 101, .int .i64 (-1), .int .i64 64] w fun e w' => e = .returned (.string ⟨t.toArray⟩) ∧ Below w.heap.size w w' := by
  obtain ⟨t, ht⟩ := iff_any T fb hf
  refine ⟨t, ?_⟩
  intro w hE
  have CF : Hid (Calls _ _ _ _ _) := ht w hE
  clear ht hE hf
  go_enter Tryz.func44, Tryz.ntmps44
  go_wp2_with fail
  refine CF.out.mono ?_
  rintro e w2 ⟨rfl, hb2⟩
  dsimp only
  have HB : Hid (Below w.heap.size w w2) := hb2
  clear hb2 CF
  go_wp2_with fail
  go_ret
  exact ⟨rfl, HB.out⟩
end Go.Proofs.YtljiokkdaelmpaaGreatDoor
