/- The law of ValidSchedules. -/
import Derived.Test.YtcknhjabdjbjiaaGreatGF18c
import Derived.Test.YtcknhjabdjbjiaaGreatGWQuiet
namespace Go.Proofs.YtcknhjabdjbjiaaGreat
open Go.RowKit
set_option maxRecDepth 100000

theorem schedule_big (l0 : Nat) (v : Value) (w : World) (hl0 : 4611686018427387904 < l0) :
    Calls Tryz.prog 21 #[.int .u64 (l0 : Nat), v] w fun e w' => e = .returned (.tuple #[.slice none 0 0, .int .i64 1]) ∧ Below w.heap.size w w' := by
  have d0 : decide ((4611686018427387904 : Int) < (l0 : Int)) = true := decide_eq_true (by omega)
  clear hl0
  go_enter Tryz.func21, Tryz.ntmps21
  go_wp2_with fail
  refine bodyPost_ret (v := .tuple #[.slice none 0 0, .int .i64 1]) (by simp [results, Tryz.results21, go_sem]) rfl ?_
  exact ⟨rfl, Below.refl _ _⟩
theorem schedule_long (l0 : Nat) (p : Option Addr) (n c : Nat) (w : World) (hl0 : l0 ≤ 4611686018427387904) (hn : 4096 < n) :
    Calls Tryz.prog 21 #[.int .u64 (l0 : Nat), .slice p n c] w fun e w' => e = .returned (.tuple #[.slice none 0 0, .int .i64 2]) ∧ Below w.heap.size w w' := by
  have d0 : decide ((4611686018427387904 : Int) < (l0 : Int)) = false := decide_eq_false (by omega)
  have d1 : decide ((4096 : Int) < (n : Int)) = true := decide_eq_true (by omega)
  clear hl0 hn
  go_enter Tryz.func21, Tryz.ntmps21
  go_wp2_with fail
  refine bodyPost_ret (v := .tuple #[.slice none 0 0, .int .i64 2]) (by simp [results, Tryz.results21, go_sem]) rfl ?_
  exact ⟨rfl, Below.refl _ _⟩
theorem rschedule_big (l0 : Nat) (v : Value) (w : World) (hl0 : 4611686018427387904 < l0) :
    Calls Tryz.prog 22 #[.int .u64 (l0 : Nat), v] w fun e w' => e = .returned (.tuple #[.slice none 0 0, .int .i64 1]) ∧ Below w.heap.size w w' := by
  have d0 : decide ((4611686018427387904 : Int) < (l0 : Int)) = true := decide_eq_true (by omega)
  clear hl0
  go_enter Tryz.func22, Tryz.ntmps22
  go_wp2_with fail
  refine bodyPost_ret (v := .tuple #[.slice none 0 0, .int .i64 1]) (by simp [results, Tryz.results22, go_sem]) rfl ?_
  exact ⟨rfl, Below.refl _ _⟩
theorem rschedule_long (l0 : Nat) (p : Option Addr) (n c : Nat) (w : World) (hl0 : l0 ≤ 4611686018427387904) (hn : 4096 < n) :
    Calls Tryz.prog 22 #[.int .u64 (l0 : Nat), .slice p n c] w fun e w' => e = .returned (.tuple #[.slice none 0 0, .int .i64 2]) ∧ Below w.heap.size w w' := by
  have d0 : decide ((4611686018427387904 : Int) < (l0 : Int)) = false := decide_eq_false (by omega)
  have d1 : decide ((4096 : Int) < (n : Int)) = true := decide_eq_true (by omega)
  clear hl0 hn
  go_enter Tryz.func22, Tryz.ntmps22
  go_wp2_with fail
  refine bodyPost_ret (v := .tuple #[.slice none 0 0, .int .i64 2]) (by simp [results, Tryz.results22, go_sem]) rfl ?_
  exact ⟨rfl, Below.refl _ _⟩
set_option maxHeartbeats 8000000 in
theorem lawVSched (l0 : Nat) (v : Value) (A : List At) (w : World) (hA : RdAt w v A) (hl : l0 < 18446744073709551616) :
    Calls Tryz.prog 6 #[.int .u64 (l0 : Nat), v] w fun e w' => e = .returned (.bool true) ∧ Below w.heap.size w w' := by
  by_cases h0 : 4611686018427387904 < l0
  · skip
    have C1 : Hid (Calls _ _ _ _ _) := schedule_big l0 v w h0
    have C2 : Hid (∀ w1, Calls Tryz.prog 22 _ w1 _) := fun w1 => rschedule_big l0 v w1 h0
    clear hA
    go_enter Tryz.func6, Tryz.ntmps6
    go_wp2_with fail
    refine C1.out.mono ?_
    rintro e w1 ⟨rfl, hb1⟩
    go_wp2_with fail
    refine (C2.out w1).mono ?_
    rintro e w2 ⟨rfl, hb2⟩
    have HB2 : Hid (Below w.heap.size w w2) := hb1.trans (hb2.mono hb1.size)
    have CW : Hid (Calls _ _ _ _ _) := awake18_any w2
    clear C1 C2 hb1 hb2
    go_wp2_with fail
    go_loopw [9] (fun i wr => i = .int .i64 0 ∧ wr = w2) (fun _ _ => 0)
    case atStart => exact ⟨by go_num, rfl⟩
    case round =>
      obtain ⟨rfl, hwr⟩ := hrel
      rw [hwr]
      clear hwr
      go_wp2_with fail
      refine CW.out.mono ?_
      rintro e w3 ⟨rfl, hb⟩
      have HE : Hid (Below w.heap.size w w3) := HB2.out.trans (hb.mono HB2.out.size)
      clear CW hb
      go_wp2_with fail
      go_ret
      exact ⟨rfl, HE.out⟩
  · by_cases h1 : 4096 < A.length
    · obtain ⟨p, c, rfl, -⟩ := hA.f
      obtain ⟨n, hn⟩ : ∃ n, A.length = n := ⟨_, rfl⟩
      rw [hn] at h1 ⊢
      clear hn
      have C1 : Hid (Calls _ _ _ _ _) := schedule_long l0 p n c w (by omega) h1
      have C2 : Hid (∀ w1, Calls Tryz.prog 22 _ w1 _) := fun w1 => rschedule_long l0 p n c w1 (by omega) h1
      clear hA h0 h1 hl
      go_enter Tryz.func6, Tryz.ntmps6
      go_wp2_with fail
      refine C1.out.mono ?_
      rintro e w1 ⟨rfl, hb1⟩
      go_wp2_with fail
      refine (C2.out w1).mono ?_
      rintro e w2 ⟨rfl, hb2⟩
      have HB2 : Hid (Below w.heap.size w w2) := hb1.trans (hb2.mono hb1.size)
      have CW : Hid (Calls _ _ _ _ _) := awake18_any w2
      clear C1 C2 hb1 hb2
      go_wp2_with fail
      go_loopw [9] (fun i wr => i = .int .i64 0 ∧ wr = w2) (fun _ _ => 0)
      case atStart => exact ⟨by go_num, rfl⟩
      case round =>
        obtain ⟨rfl, hwr⟩ := hrel
        rw [hwr]
        clear hwr
        go_wp2_with fail
        refine CW.out.mono ?_
        rintro e w3 ⟨rfl, hb⟩
        have HE : Hid (Below w.heap.size w w3) := HB2.out.trans (hb.mono HB2.out.size)
        clear CW hb
        go_wp2_with fail
        go_ret
        exact ⟨rfl, HE.out⟩
    · have C1 : Hid (Calls _ _ _ _ _) := schedule_ok l0 v A w hA (by omega) (by omega)
      have C2 : Hid (∀ w1, Below w.heap.size w w1 → Calls Tryz.prog 22 #[.int .u64 (l0 : Nat), v] w1 _) := fun w1 hb => rschedule_ok l0 v A w1 (hA.on hb) (by omega) (by omega)
      obtain ⟨n, hn⟩ : ∃ n, A.length = n := ⟨_, rfl⟩
      have hn4 : n ≤ 4096 := by omega
      have HLn : Hid (A.length = n) := hn
      rw [hn] at C1
      clear hA h0 h1 hn
      go_enter Tryz.func6, Tryz.ntmps6
      go_wp2_with fail
      refine C1.out.mono ?_
      rintro e w1 ⟨g, F, la, L, rfl, hF, hR, hg, hb1⟩
      clear C1
      have HB1 : Hid (Below w.heap.size w w1) := hb1
      have HR1 : Hid (RunR l0 A.reverse F.reverse la L) := hR
      have HF1 : Hid (BkF w1 g n F) := hF
      clear hF hR hb1 hg
      go_wp2_with fail
      refine (C2.out w1 HB1.out).mono ?_
      rintro e w2 ⟨vo, F', la', M, rfl, hF, hR, hb2⟩
      obtain ⟨hFF, -, -, -⟩ := HR1.out.same hR
      have hFF2 : F = F' := by simpa using congrArg List.reverse hFF
      subst hFF2
      have hlF : F.length = n := by
        have h := HR1.out.len
        simp at h
        rw [h]
        exact HLn.out
      obtain ⟨po, co, rfl, hco, hro⟩ := hF.rd.f
      have HRo : Hid (∀ i (hi : i < F.length), ∃ b o, po = some ⟨b, o, none⟩ ∧ b < w2.heap.size ∧ ∀ k, k < 6 → ∀ y, F[i].cells[k]? = some y → w2.cell? ⟨b, o + i * 6 + k, none⟩ = some y) := hro
      have HFl : Hid (F.length = n) := hlF
      rw [hlF] at hco ⊢
      have HF2 : Hid (BkF w2 g n F) := HF1.out.on hb2
      have HB2 : Hid (Below w.heap.size w w2) := HB1.out.trans (hb2.mono HB1.out.size)
      clear C2 hFF hR hb2 hF hro hlF HF1 HR1 HB1
      go_wp2_with fail
      go_loopw [9] (fun i wr => ∃ j : Nat, j ≤ n ∧ i = .int .i64 (j : Int) ∧ Hid (Below w2.heap.size w2 wr)) (fun i _ => n - (intOf i).toNat)
      case atStart => exact ⟨0, Nat.zero_le _, by go_num, Below.refl _ _⟩
      case round =>
        obtain ⟨j, hj, rfl, HW⟩ := hrel
        by_cases hj0 : j = n
        · subst hj0
          have HB3 : Hid (Below w.heap.size w wr) := HB2.out.trans (HW.out.mono HB2.out.size)
          have CW : Hid (Calls _ _ _ _ _) := awake18_any wr
          go_wp2_with fail
          refine CW.out.mono ?_
          rintro e w3 ⟨rfl, hb⟩
          have HE : Hid (Below w.heap.size w w3) := HB3.out.trans (hb.mono HB3.out.size)
          clear CW hb
          go_wp2_with fail
          go_ret
          exact ⟨rfl, HE.out⟩
        · have hj1 : j < n := by omega
          have hjF : j < F.length := by have := HFl.out; omega
          obtain ⟨b, o, rfl, hbl, hd⟩ := HRo.out j hjF
          obtain ⟨c0, c1, c2, c3, c4, c5⟩ := (HF2.out.on HW.out).cell j hjF
          have hgl : g < wr.heap.size := by obtain ⟨cs, h1, _⟩ := HF2.out.on HW.out; exact h1.lt
          have hbl' : b < wr.heap.size := Nat.lt_of_lt_of_le hbl HW.out.size
          have e0 : wr.cell? ⟨b, o + j * 6, none⟩ = some (.int .u64 (F[j].st : Nat)) := (HW.out.cell (p := ⟨b, _, none⟩) hbl).trans (hd 0 (by omega) _ rfl)
          have e1 : wr.cell? ⟨b, o + j * 6 + 1, none⟩ = some (.int .i64 F[j].er) := (HW.out.cell (p := ⟨b, _, none⟩) hbl).trans (hd 1 (by omega) _ rfl)
          have e2 : wr.cell? ⟨b, o + j * 6 + 2, none⟩ = some (.int .u64 ((clC F[j].q).1 : Nat)) := (HW.out.cell (p := ⟨b, _, none⟩) hbl).trans (hd 2 (by omega) _ rfl)
          have e3 : wr.cell? ⟨b, o + j * 6 + 3, none⟩ = some (.int .i64 (clC F[j].q).2.t) := (HW.out.cell (p := ⟨b, _, none⟩) hbl).trans (hd 3 (by omega) _ rfl)
          have e4 : wr.cell? ⟨b, o + j * 6 + 4, none⟩ = some (.int .i64 (clC F[j].q).2.i) := (HW.out.cell (p := ⟨b, _, none⟩) hbl).trans (hd 4 (by omega) _ rfl)
          have e5 : wr.cell? ⟨b, o + j * 6 + 5, none⟩ = some (.string (clC F[j].q).2.k) := (HW.out.cell (p := ⟨b, _, none⟩) hbl).trans (hd 5 (by omega) _ rfl)
          generalize clC F[j].q = cl at *
          generalize F[j].st = st at *
          generalize F[j].er = er at *
          obtain ⟨m, x⟩ := cl
          dsimp only at c0 c1 c2 c3 c4 c5 e0 e1 e2 e3 e4 e5
          have g0 := InB.cell c0 hgl
          have g1 := InB.cell c1 hgl
          have g2 := InB.cell c2 hgl
          have g3 := InB.cell c3 hgl
          have g4 := InB.cell c4 hgl
          have g5 := InB.cell c5 hgl
          have k0 := InB.cell e0 hbl'
          have k1 := InB.cell e1 hbl'
          have k2 := InB.cell e2 hbl'
          have k3 := InB.cell e3 hbl'
          have k4 := InB.cell e4 hbl'
          have k5 := InB.cell e5 hbl'
          have CS : Hid (∀ w7, Calls Tryz.prog 18 #[.agg #[.int .u64 (m : Nat), .int .i64 x.t, .int .i64 x.i, .string x.k], .agg #[.int .u64 (m : Nat), .int .i64 x.t, .int .i64 x.i, .string x.k]] w7 fun e w' => e = .returned (.bool true) ∧ Below w7.heap.size w7 w') := fun w7 => sameClash_any m x.t x.i x.k w7
          have ne1 := inB_ne wr
          clear c0 c1 c2 c3 c4 c5 e0 e1 e2 e3 e4 e5 hgl hbl' hbl hd hjF
          go_wp2_with fail
          refine wp_region_inB (by kernel_rfl) (by kernel_rfl) ?_
          repeat (go_big_quiet_step (first | (go_at_call 18; exact Calls.inB (CS.out _))))
          refine wpQuiet_nil ?_
          rintro w7 ⟨⟨w8, hb7⟩, h9⟩
          obtain rfl : w7 = w8 := h9
          clear CS g0 g1 g2 g3 g4 g5 k0 k1 k2 k3 k4 k5 ne1
          have HB7 : Hid (Below w2.heap.size w2 w7) := HW.out.trans (hb7.mono HW.out.size)
          go_wp2_with fail
          go_roundw
          case rel => exact ⟨j + 1, hj1, by go_num, HB7⟩
          case measure => simp [intOf]; omega

end Go.Proofs.YtcknhjabdjbjiaaGreat
