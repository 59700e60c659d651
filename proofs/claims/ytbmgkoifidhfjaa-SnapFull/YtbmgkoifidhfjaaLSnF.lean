/- SnapFull: the law's walk. -/
import Derived.Test.YtbmgkoifidhfjaaMHol10
namespace Go.Proofs.Ytbmgkoifidhfjaa
open Go.RowKit
set_option maxRecDepth 100000

set_option maxHeartbeats 8000000 in
theorem lawFull (s0 o : Nat) (w : World) (ho : o < 256) :
    Calls Try.prog 5 #[.int .u64 (s0 : Nat), .int .u8 (o : Nat)] w fun e w' => e = .returned (.bool true) ∧ Below w.heap.size w w' := by
  have HO : Hid (o < 256) := ho
  have hwo : IntKind.i64.wrap (o : Int) = (o : Int) := by rw [IntKind.wrap_i64]; omega
  have C1 : Hid (Calls Try.prog 8 #[.int .u64 0] w fun e w' => (∃ sb, e = .returned (.tuple #[ptr1 sb, .int .i64 0]) ∧ w.heap.size ≤ sb ∧ Snp w' sb 0 []) ∧ Below w.heap.size w w') := (new_any 0 w).mono fun e w' h => ⟨by
    rcases h.1 with h1 | h1
    · exact absurd h1.1 (by decide)
    · exact h1.2, h.2⟩
  by_cases hs0 : 4611686018427387904 < s0
  · have q : (4611686018427387904 : Int) < (s0 : Int) := by omega
    obtain ⟨s, hsm⟩ : ∃ s : Nat, ((s : Nat) : Int) = 4611686018427387904 := ⟨4611686018427387904, rfl⟩
    have HS : Hid (s ≤ 4611686018427387904) := show _ ≤ _ by omega
    clear hs0 ho
    generalize (s0 : Int) = z at *
    go_enter Try.func5, Try.ntmps5
    go_wp2_with fail
    try rw [← hsm]
    clear hsm q
    refine C1.out.mono ?_
    rintro e w1 ⟨⟨sb, rfl, hsb, hs1⟩, hb1⟩
    have HS1 : Hid (Snp w1 sb 0 (fulR s 0)) := hs1
    have HB1 : Hid (Below w.heap.size w w1) := hb1
    have HSB : Hid (w.heap.size ≤ sb) := hsb
    clear hs1 hb1 hsb C1
    go_wp2_with fail
    go_loopw [7] (fun i wr => ∃ j : Nat, j ≤ 256 ∧ i = .int .i64 (j : Int) ∧ Hid (Snp wr sb 0 (fulR s j)) ∧ Hid (Below w.heap.size w wr)) (fun i _ => 256 - (intOf i).toNat)
    case atStart => exact ⟨0, Nat.zero_le _, by go_num, HS1, HB1⟩
    case round =>
      clear HS1 HB1
      obtain ⟨j, hj, rfl, hS, hB⟩ := hrel
      have HI : Hid (InvR (fulR s j)) := by obtain ⟨_, _, _, _, hx⟩ := hS.out; exact hx.inv
      by_cases hj0 : j = 256
      · subst hj0
        have C2 : Hid (Calls Try.prog 13 #[ptr1 sb, .int .u64 (s : Nat)] wr fun e w' => e = .returned (.tuple #[.int .i64 0, .int .i64 2]) ∧ Snp w' sb 0 (fulR s 256) ∧ Frm wr w' (fun k => k = sb)) := by
          have h := Enter_any sb 0 s (fulR s 256) wr hS.out
          rw [(ful_over s HS.out).1, (ful_over s HS.out).2.1, (ful_over s HS.out).2.2] at h
          exact h
        go_wp2_with fail
        refine C2.out.mono ?_
        rintro e w2 ⟨rfl, hs2, hf2⟩
        have HB2 : Hid (Below w.heap.size w w2) := hB.out.trans (hf2.below hB.out.size (fun k hk => by rw [hk]; exact HSB.out))
        have C3 : Hid (Calls Try.prog 14 #[ptr1 sb, .int .i64 (o : Nat)] w2 fun e w' => e = .returned (.int .i64 0) ∧ Snp w' sb 0 ((fulR s 256).take o ++ (fulR s 256).drop (o + 1)) ∧ Frm w2 w' (fun k => k = sb)) := by
          have h := Leave_any sb 0 (o : Nat) (fulR s 256) w2 hs2
          rw [(ful_gone s o HO.out HI.out).1, (ful_gone s o HO.out HI.out).2] at h
          exact h
        clear hs2 hf2 C2 hS hB
        go_wp2_with fail
        refine C3.out.mono ?_
        rintro e w3 ⟨rfl, hs3, hf3⟩
        have HB3 : Hid (Below w.heap.size w w3) := HB2.out.trans (hf3.below HB2.out.size (fun k hk => by rw [hk]; exact HSB.out))
        have HI3 : Hid (InvR ((fulR s 256).take o ++ (fulR s 256).drop (o + 1))) := by obtain ⟨_, _, _, _, hx⟩ := hs3; exact hx.inv
        have C4 : Hid (Calls Try.prog 14 #[ptr1 sb, .int .i64 (o : Nat)] w3 fun e w' => e = .returned (.int .i64 100) ∧ Snp w' sb 0 ((fulR s 256).take o ++ (fulR s 256).drop (o + 1)) ∧ Frm w3 w' (fun k => k = sb)) := by
          have h := Leave_any sb 0 (o : Nat) ((fulR s 256).take o ++ (fulR s 256).drop (o + 1)) w3 hs3
          have h0 : leaE ((fulR s 256).take o ++ (fulR s 256).drop (o + 1)) (o : Nat) = 100 := by unfold leaE; rw [gone_no s o HO.out]; rfl
          rw [h0, go_no (gone_no s o HO.out)] at h
          exact h
        clear hs3 hf3 C3 HB2
        go_wp2_with fail
        refine C4.out.mono ?_
        rintro e w4 ⟨rfl, hs4, hf4⟩
        have HB4 : Hid (Below w.heap.size w w4) := HB3.out.trans (hf4.below HB3.out.size (fun k hk => by rw [hk]; exact HSB.out))
        obtain ⟨RX, hrx⟩ : ∃ RX, RX = entL 0 ((fulR s 256).take o ++ (fulR s 256).drop (o + 1)) s := ⟨_, rfl⟩
        have HRX : Hid (RX.length = 256) := by rw [hrx]; exact (gone_ent s o HO.out HS.out HI3.out).2.2
        have C5 : Hid (Calls Try.prog 13 #[ptr1 sb, .int .u64 (s : Nat)] w4 fun e w' => e = .returned (.tuple #[.int .i64 (o : Nat), .int .i64 0]) ∧ Snp w' sb 0 RX ∧ Frm w4 w' (fun k => k = sb)) := by
          have h := Enter_any sb 0 s ((fulR s 256).take o ++ (fulR s 256).drop (o + 1)) w4 hs4
          rw [(gone_ent s o HO.out HS.out HI3.out).1, (gone_ent s o HO.out HS.out HI3.out).2.1, ← hrx] at h
          exact h
        clear hs4 hf4 C4 HB3 hrx
        go_wp2_with fail
        refine C5.out.mono ?_
        rintro e w5 ⟨rfl, hs5, hf5⟩
        have HB5 : Hid (Below w.heap.size w w5) := HB4.out.trans (hf5.below HB4.out.size (fun k hk => by rw [hk]; exact HSB.out))
        have C6 : Hid (Calls _ _ _ _ _) := readers_any w5 sb 0 RX hs5
        clear hs5 hf5 C5 HB4
        go_wp2_with fail
        refine C6.out.mono ?_
        rintro e w6 ⟨⟨vr, rfl, hvr⟩, hb6⟩
        obtain ⟨pr, cr, er, -⟩ := hvr.rd
        rw [HRX.out] at er
        subst er
        have HB6 : Hid (Below w.heap.size w w6) := HB5.out.trans (hb6.mono HB5.out.size)
        clear hvr hb6 C6 HB5
        go_wp2_with fail
        go_ret
        exact ⟨rfl, HB6.out⟩
      · have hj1 : j < 256 := by omega
        have C2 : Hid (Calls Try.prog 13 #[ptr1 sb, .int .u64 (s : Nat)] wr fun e w' => e = .returned (.tuple #[.int .i64 (j : Nat), .int .i64 0]) ∧ Snp w' sb 0 (fulR s (j + 1)) ∧ Frm wr w' (fun k => k = sb)) := by
          have h := Enter_any sb 0 s (fulR s j) wr hS.out
          rw [(ful_ent s j HI.out HS.out hj1).1, (ful_ent s j HI.out HS.out hj1).2.1, (ful_ent s j HI.out HS.out hj1).2.2] at h
          exact h
        clear hj0
        go_wp2_with fail
        refine C2.out.mono ?_
        rintro e w2 ⟨rfl, hs2, hf2⟩
        have HS2 : Hid (Snp w2 sb 0 (fulR s (j + 1))) := hs2
        have HB2 : Hid (Below w.heap.size w w2) := hB.out.trans (hf2.below hB.out.size (fun k hk => by rw [hk]; exact HSB.out))
        clear hs2 hf2 C2 hS hB
        go_wp2_with fail
        go_roundw
        case rel => exact ⟨j + 1, by omega, by go_num, HS2, HB2⟩
        case measure => simp [intOf]; omega
  · have q : ¬ (4611686018427387904 : Int) < (s0 : Int) := by omega
    have HS : Hid (s0 ≤ 4611686018427387904) := show _ ≤ _ by omega
    clear hs0 ho
    go_enter Try.func5, Try.ntmps5
    go_wp2_with fail
    clear q
    refine C1.out.mono ?_
    rintro e w1 ⟨⟨sb, rfl, hsb, hs1⟩, hb1⟩
    have HS1 : Hid (Snp w1 sb 0 (fulR s0 0)) := hs1
    have HB1 : Hid (Below w.heap.size w w1) := hb1
    have HSB : Hid (w.heap.size ≤ sb) := hsb
    clear hs1 hb1 hsb C1
    go_wp2_with fail
    go_loopw [7] (fun i wr => ∃ j : Nat, j ≤ 256 ∧ i = .int .i64 (j : Int) ∧ Hid (Snp wr sb 0 (fulR s0 j)) ∧ Hid (Below w.heap.size w wr)) (fun i _ => 256 - (intOf i).toNat)
    case atStart => exact ⟨0, Nat.zero_le _, by go_num, HS1, HB1⟩
    case round =>
      clear HS1 HB1
      obtain ⟨j, hj, rfl, hS, hB⟩ := hrel
      have HI : Hid (InvR (fulR s0 j)) := by obtain ⟨_, _, _, _, hx⟩ := hS.out; exact hx.inv
      by_cases hj0 : j = 256
      · subst hj0
        have C2 : Hid (Calls Try.prog 13 #[ptr1 sb, .int .u64 (s0 : Nat)] wr fun e w' => e = .returned (.tuple #[.int .i64 0, .int .i64 2]) ∧ Snp w' sb 0 (fulR s0 256) ∧ Frm wr w' (fun k => k = sb)) := by
          have h := Enter_any sb 0 s0 (fulR s0 256) wr hS.out
          rw [(ful_over s0 HS.out).1, (ful_over s0 HS.out).2.1, (ful_over s0 HS.out).2.2] at h
          exact h
        go_wp2_with fail
        refine C2.out.mono ?_
        rintro e w2 ⟨rfl, hs2, hf2⟩
        have HB2 : Hid (Below w.heap.size w w2) := hB.out.trans (hf2.below hB.out.size (fun k hk => by rw [hk]; exact HSB.out))
        have C3 : Hid (Calls Try.prog 14 #[ptr1 sb, .int .i64 (o : Nat)] w2 fun e w' => e = .returned (.int .i64 0) ∧ Snp w' sb 0 ((fulR s0 256).take o ++ (fulR s0 256).drop (o + 1)) ∧ Frm w2 w' (fun k => k = sb)) := by
          have h := Leave_any sb 0 (o : Nat) (fulR s0 256) w2 hs2
          rw [(ful_gone s0 o HO.out HI.out).1, (ful_gone s0 o HO.out HI.out).2] at h
          exact h
        clear hs2 hf2 C2 hS hB
        go_wp2_with fail
        refine C3.out.mono ?_
        rintro e w3 ⟨rfl, hs3, hf3⟩
        have HB3 : Hid (Below w.heap.size w w3) := HB2.out.trans (hf3.below HB2.out.size (fun k hk => by rw [hk]; exact HSB.out))
        have HI3 : Hid (InvR ((fulR s0 256).take o ++ (fulR s0 256).drop (o + 1))) := by obtain ⟨_, _, _, _, hx⟩ := hs3; exact hx.inv
        have C4 : Hid (Calls Try.prog 14 #[ptr1 sb, .int .i64 (o : Nat)] w3 fun e w' => e = .returned (.int .i64 100) ∧ Snp w' sb 0 ((fulR s0 256).take o ++ (fulR s0 256).drop (o + 1)) ∧ Frm w3 w' (fun k => k = sb)) := by
          have h := Leave_any sb 0 (o : Nat) ((fulR s0 256).take o ++ (fulR s0 256).drop (o + 1)) w3 hs3
          have h0 : leaE ((fulR s0 256).take o ++ (fulR s0 256).drop (o + 1)) (o : Nat) = 100 := by unfold leaE; rw [gone_no s0 o HO.out]; rfl
          rw [h0, go_no (gone_no s0 o HO.out)] at h
          exact h
        clear hs3 hf3 C3 HB2
        go_wp2_with fail
        refine C4.out.mono ?_
        rintro e w4 ⟨rfl, hs4, hf4⟩
        have HB4 : Hid (Below w.heap.size w w4) := HB3.out.trans (hf4.below HB3.out.size (fun k hk => by rw [hk]; exact HSB.out))
        obtain ⟨RX, hrx⟩ : ∃ RX, RX = entL 0 ((fulR s0 256).take o ++ (fulR s0 256).drop (o + 1)) s0 := ⟨_, rfl⟩
        have HRX : Hid (RX.length = 256) := by rw [hrx]; exact (gone_ent s0 o HO.out HS.out HI3.out).2.2
        have C5 : Hid (Calls Try.prog 13 #[ptr1 sb, .int .u64 (s0 : Nat)] w4 fun e w' => e = .returned (.tuple #[.int .i64 (o : Nat), .int .i64 0]) ∧ Snp w' sb 0 RX ∧ Frm w4 w' (fun k => k = sb)) := by
          have h := Enter_any sb 0 s0 ((fulR s0 256).take o ++ (fulR s0 256).drop (o + 1)) w4 hs4
          rw [(gone_ent s0 o HO.out HS.out HI3.out).1, (gone_ent s0 o HO.out HS.out HI3.out).2.1, ← hrx] at h
          exact h
        clear hs4 hf4 C4 HB3 hrx
        go_wp2_with fail
        refine C5.out.mono ?_
        rintro e w5 ⟨rfl, hs5, hf5⟩
        have HB5 : Hid (Below w.heap.size w w5) := HB4.out.trans (hf5.below HB4.out.size (fun k hk => by rw [hk]; exact HSB.out))
        have C6 : Hid (Calls _ _ _ _ _) := readers_any w5 sb 0 RX hs5
        clear hs5 hf5 C5 HB4
        go_wp2_with fail
        refine C6.out.mono ?_
        rintro e w6 ⟨⟨vr, rfl, hvr⟩, hb6⟩
        obtain ⟨pr, cr, er, -⟩ := hvr.rd
        rw [HRX.out] at er
        subst er
        have HB6 : Hid (Below w.heap.size w w6) := HB5.out.trans (hb6.mono HB5.out.size)
        clear hvr hb6 C6 HB5
        go_wp2_with fail
        go_ret
        exact ⟨rfl, HB6.out⟩
      · have hj1 : j < 256 := by omega
        have C2 : Hid (Calls Try.prog 13 #[ptr1 sb, .int .u64 (s0 : Nat)] wr fun e w' => e = .returned (.tuple #[.int .i64 (j : Nat), .int .i64 0]) ∧ Snp w' sb 0 (fulR s0 (j + 1)) ∧ Frm wr w' (fun k => k = sb)) := by
          have h := Enter_any sb 0 s0 (fulR s0 j) wr hS.out
          rw [(ful_ent s0 j HI.out HS.out hj1).1, (ful_ent s0 j HI.out HS.out hj1).2.1, (ful_ent s0 j HI.out HS.out hj1).2.2] at h
          exact h
        clear hj0
        go_wp2_with fail
        refine C2.out.mono ?_
        rintro e w2 ⟨rfl, hs2, hf2⟩
        have HS2 : Hid (Snp w2 sb 0 (fulR s0 (j + 1))) := hs2
        have HB2 : Hid (Below w.heap.size w w2) := hB.out.trans (hf2.below hB.out.size (fun k hk => by rw [hk]; exact HSB.out))
        clear hs2 hf2 C2 hS hB
        go_wp2_with fail
        go_roundw
        case rel => exact ⟨j + 1, by omega, by go_num, HS2, HB2⟩
        case measure => simp [intOf]; omega
end Go.Proofs.Ytbmgkoifidhfjaa
