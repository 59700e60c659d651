/- The digits of a number, laid into a row of bytes; noughts at their end are left out. -/
import Derived.Test.YtljiokkdaelmpaaGreatDoorWFl6
import Derived.Test.YtljiokkdaelmpaaGreatDoorWSh1
namespace Go.Proofs.YtljiokkdaelmpaaGreatDoor
open Go.RowKit Go.Sort Go.Lib
set_option maxRecDepth 100000

/-- so many are left without noughts at the end -/
def trimN (f : Nat → UInt8) : Nat → Nat
  | 0 => 0
  | n + 1 => if f n = 48 then trimN f n else n + 1
theorem trimN_le (f : Nat → UInt8) : ∀ n, trimN f n ≤ n
  | 0 => Nat.le_refl _
  | n + 1 => by
    unfold trimN
    split
    · exact Nat.le_succ_of_le (trimN_le f n)
    · exact Nat.le_refl _
theorem below_put {α : Type} [Inhabited α] (enc : α → Value) (w : World) (B g off : Nat) (d : Array α) (hg : B ≤ g) : Below B w (putRow enc w g off d) := by
  refine ⟨rfl, rfl, rfl, ?_, fun k hk => ?_⟩
  · simp [putRow, mapBlock]
  · have hne : g ≠ k := by omega
    simp [putRow, mapBlock, Array.getElem?_modify, hne]
theorem put_blk {α : Type} [Inhabited α] (enc : α → Value) (w : World) (g off : Nat) (d : Array α) {cs : Array Value} {T : TypeId} {z : Nat × Nat} (h : w.heap[g]? = some (.cells cs T z)) : ∃ cs', (putRow enc w g off d).heap[g]? = some (.cells cs' T z) := by
  refine ⟨putCells enc off d cs, ?_⟩
  simp [putRow, mapBlock, Array.getElem?_modify, h, onCells]
/-- a row of 32 bytes, of its own -/
def Row32 (w : World) (g : Nat) : Prop := ∀ j, j < 32 → w.cell? ⟨g, j, none⟩ = some (.int .u8 0) ∧ w.frozen? ⟨g, j, none⟩ = false

set_option maxHeartbeats 4000000 in
theorem setDigits_any (u nd g : Nat) (p : Int) (w : World) (hu : u < 10 ^ nd) (hu64 : u < 18446744073709551616) (hnd : nd ≤ 20) (hp1 : -400 ≤ p) (hp2 : p ≤ 400) (hH : Row32 w g) (cs : Array Value) (T : TypeId) (hg : w.heap[g]? = some (.cells cs T (0, 0))) :
    Calls Tryz.prog 95 #[.slice (some ⟨g, 0, none⟩) 32 32, .int .u64 u, .int .i64 p, .int .i64 (nd : Nat)] w fun e w' => e = .returned (.tuple #[.int .i64 ((nd : Int) + p), .int .i64 ((trimN (fun t => dg u (nd - 1 - t)) nd : Nat) : Int)]) ∧ (∀ t, t < nd → w'.cell? ⟨g, t, none⟩ = some (.int .u8 ((dg u (nd - 1 - t)).toNat : Int))) ∧ (∃ cs', w'.heap[g]? = some (.cells cs' T (0, 0))) ∧ Below g w w' := by
  have hH0 : Holds (fun (b : UInt8) => Value.int .u8 (b.toNat : Int)) w g 0 (Array.replicate nd 0) := by
    intro j hj
    rw [Array.size_replicate] at hj
    have h1 := hH j (by omega)
    rw [Nat.zero_add]
    refine ⟨?_, h1.2⟩
    rw [h1.1, getElem!_pos _ j (by rw [Array.size_replicate]; exact hj), Array.getElem_replicate]
    rfl
  have hfmt := Tryz.internal_strconv_formatBase10 g 0 32 u (Array.replicate nd 0) w hH0 (by rw [Array.size_replicate]; exact hu) hu64 (by rw [Array.size_replicate]; omega)
  rw [Array.size_replicate] at hfmt
  have CF : Hid (Calls Tryz.prog 62 #[.slice (some ⟨g, 0, none⟩) nd 32, .int .u64 u] w fun e w' => e = .returned (.tuple #[]) ∧ (∀ t, t < nd → w'.cell? ⟨g, t, none⟩ = some (.int .u8 ((dg u (nd - 1 - t)).toNat : Int))) ∧ (∃ cs', w'.heap[g]? = some (.cells cs' T (0, 0))) ∧ Below g w w') := by
    refine hfmt.mono ?_
    rintro e w' ⟨rfl, k, v', dk, rfl, hF⟩
    refine ⟨rfl, fun t ht => ?_, put_blk _ w g 0 dk hg, below_drewN (below_put _ w g g 0 dk (Nat.le_refl _)) k⟩
    rw [World.cell?_drewN]
    have h1 := cell?_putRow (fun (b : UInt8) => Value.int .u8 (b.toNat : Int)) w g 0 _ dk hH0 (by rw [hF.size, Array.size_replicate]) t (by rw [hF.size]; exact ht)
    rw [Nat.zero_add] at h1
    rw [h1, hF.done t (Nat.zero_le _) ht]
  clear hfmt hH0 hH hu hu64
  have HT : Hid (∀ n, trimN (fun t => dg u (nd - 1 - t)) (n + 1) = if dg u (nd - 1 - n) = 48 then trimN (fun t => dg u (nd - 1 - t)) n else n + 1) := fun n => rfl
  have HT0 : Hid (trimN (fun t => dg u (nd - 1 - t)) 0 = 0) := rfl
  generalize (trimN fun t => dg u (nd - 1 - t)) = tr at *
  have hsl : ∀ W, (Instr.slice 46 (.slice (some ⟨g, 0, none⟩) 32 32) none (some (.int .i64 (nd : Int))) none).run Tryz.prog W = .ok (.slice (some ⟨g, 0, none⟩) nd 32) W := by
    intro W
    simp [go_sem]
    omega
  have gle : (nd : Int) ≤ 32 := by omega
  go_enter Tryz.func95, Tryz.ntmps95
  go_wp2_with fail
  refine CF.out.mono ?_
  rintro e w1 ⟨rfl, hc, hk, hb⟩
  dsimp only
  have HC : Hid (∀ t, t < nd → w1.cell? ⟨g, t, none⟩ = some (.int .u8 ((dg u (nd - 1 - t)).toNat : Int))) := hc
  have HB : Hid ((∃ cs', w1.heap[g]? = some (.cells cs' T (0, 0))) ∧ Below g w w1) := ⟨hk, hb⟩
  clear hc hb hk CF hsl hg
  go_upto_region 4 with fail
  go_loopw [3] (fun sn wq => ∃ n : Nat, n ≤ nd ∧ sn = .int .i64 (n : Int) ∧ wq = w1 ∧ Hid (tr nd = tr n)) (fun sn _ => (RowKit.intOf sn).toNat)
  case atStart => exact ⟨nd, Nat.le_refl _, rfl, rfl, rfl⟩
  case round =>
    obtain ⟨n, hn, rfl, hwr, HE⟩ := hrel
    rw [hwr]
    clear hwr
    rcases Nat.eq_zero_or_pos n with h0 | h0
    · have HZ : Hid (tr nd = 0) := by
        have h9 := HE.out
        rw [h0, HT0.out] at h9
        exact h9
      subst h0
      go_wp2_with fail
      go_ret2
      exact ⟨by rw [HZ.out]; rfl, HC.out, HB.out.1, HB.out.2⟩
    · obtain ⟨m, rfl⟩ : ∃ m, n = m + 1 := ⟨n - 1, by omega⟩
      have c0 := HC.out m (by omega)
      have gw : IntKind.i64.wrap (((m + 1 : Nat) : Int) - 1) = (m : Int) := by rw [IntKind.wrap_i64]; omega
      have gp : (0 : Int) < ((m + 1 : Nat) : Int) := by omega
      have gm : (m : Int) < 32 := by omega
      by_cases hd : dg u (nd - 1 - m) = 48
      · have HE2 : Hid (tr nd = tr m) := by
          have h9 := HE.out
          rw [HT.out m, if_pos hd] at h9
          exact h9
        rw [hd] at c0
        have c1 : w1.cell? ⟨g, m, none⟩ = some (.int .u8 48) := c0
        clear c0 hd
        go_wp2_with fail
        go_roundw
        case rel => exact ⟨m, by omega, by go_num, by first | rfl | trivial, HE2⟩
        case measure => simp only [RowKit.intOf]; omega
      · have HE2 : Hid (tr nd = m + 1) := by
          have h9 := HE.out
          rw [HT.out m, if_neg hd] at h9
          exact h9
        have hd2 : ¬ ((dg u (nd - 1 - m)).toNat : Int) = 48 := by
          intro h9
          apply hd
          apply UInt8.toNat_inj.1
          have : (dg u (nd - 1 - m)).toNat = 48 := by omega
          rw [this]
          rfl
        generalize ((dg u (nd - 1 - m)).toNat : Int) = cz at *
        clear hd
        go_wp2_with fail
        go_ret2
        exact ⟨by rw [HE2.out]; rfl, HC.out, HB.out.1, HB.out.2⟩

set_option maxHeartbeats 4000000 in
theorem numDigits_zero (w : World) (htab : Lib.TabIs Tryz.prog w "internal/strconv.uint64pow10" .u64 Lib.pow10Tab) :
    Calls Tryz.prog 61 #[.int .u64 0] w fun e w' => e = .returned (.int .i64 0) ∧ w' = w := by
  have hc : w.cell? ⟨4, 0, none⟩ = some (.int .u64 1) := TabIs.cell (g := 4) htab (by kernel_rfl) 0 (by decide)
  have C1 : Hid (∀ w : World, Calls Tryz.prog 74 #[.int .u64 0] w fun e w' => e = .returned (.int .i64 0) ∧ w' = w) := fun w => by
    have h9 := Tryz.bits_Len64 0 w (by decide) (by decide)
    exact h9
  have C2 : Hid (∀ w : World, Calls Tryz.prog 73 #[.int .i64 0] w fun e w' => e = .returned (.int .i64 0) ∧ w' = w) := fun w => by
    have h9 := Tryz.internal_strconv_log10Pow2 0 (by decide) w
    exact h9
  have C3 : Hid (∀ w : World, Calls Tryz.prog 75 #[.bool false] w fun e w' => e = .returned (.int .i64 0) ∧ w' = w) := fun w => by
    have h9 := Tryz.internal_strconv_bool2_int false w
    exact h9
  clear htab
  go_enter Tryz.func61, Tryz.ntmps61
  go_wp2_with fail
  refine (C1.out _).mono ?_
  rintro e w1 ⟨rfl, rfl⟩
  go_wp2_with fail
  refine (C2.out _).mono ?_
  rintro e w1 ⟨rfl, rfl⟩
  go_wp2_with fail
  refine (C3.out _).mono ?_
  rintro e w1 ⟨rfl, rfl⟩
  go_wp2_with fail
  go_ret
  exact ⟨rfl, rfl⟩
end Go.Proofs.YtljiokkdaelmpaaGreatDoor
