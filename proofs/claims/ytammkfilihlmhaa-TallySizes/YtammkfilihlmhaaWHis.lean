/- Histograms: Count, Counts, the document's Size and Counts. -/
import Derived.Test.YtammkfilihlmhaaWTalR
import Derived.Test.YtammkfilihlmhaaWLen64
import Derived.Deep.RegionWith
namespace Go.Proofs.Ytammkfilihlmhaa
open Go.RowKit
set_option maxRecDepth 100000

theorem uadd_any (b i : Nat) (x : Int) (w : World) (h0 : w.cell? ⟨b, i, none⟩ = some (.int .u64 x)) (f0 : w.frozen? ⟨b, i, none⟩ = false) :
    Calls Try.prog 39 #[.pointer (some ⟨b, i, none⟩), .int .u64 1] w fun e w' => e = .returned (.int .u64 ((x + 1) % 18446744073709551616)) ∧ w' = w.setCell ⟨b, i, none⟩ (.int .u64 ((x + 1) % 18446744073709551616)) := by
  have hl := run_call_add (P := Try.prog) (s := (x + 1) % 18446744073709551616) Try.func61 (by kernel_rfl) (by kernel_rfl) (by kernel_rfl) .u64 (by kernel_rfl) (y := 1) h0 f0 (by simp [go_sem, IntKind.wrap_u64])
  go_enter Try.func39, Try.ntmps39
  go_wp2
  go_ret
  exact ⟨rfl, rfl⟩
theorem uload_any (g i : Nat) (x : Int) (w : World) (h0 : w.cell? ⟨g, i, none⟩ = some (.int .u64 x)) :
    Calls Try.prog 41 #[.pointer (some ⟨g, i, none⟩)] w fun e w' => e = .returned (.int .u64 x) ∧ w' = w := by
  have hl := run_call_load (P := Try.prog) Try.func62 (by kernel_rfl) (by kernel_rfl) (by kernel_rfl) .u64 (by kernel_rfl) h0
  go_enter Try.func41, Try.ntmps41
  go_wp2
  go_ret
  exact ⟨rfl, rfl⟩

/-- counts behind a number of k digits -/
def incS (C : List Int) (k : Nat) : List Int := C.set k ((C.getD k 0 + 1) % 18446744073709551616)
theorem incS_len (C : List Int) (k : Nat) : (incS C k).length = C.length := by simp [incS]
/-- how many numbers there are of each size -/
def cntS (L : List Int) : List Int := L.foldl (fun C x => incS C (Lib.bitLen x.toNat)) (List.replicate 65 0)
theorem foldInc_len (L : List Int) : ∀ C : List Int, (L.foldl (fun C x => incS C (Lib.bitLen x.toNat)) C).length = C.length := by
  induction L with
  | nil => intro C; rfl
  | cons x L ih => intro C; rw [List.foldl_cons, ih, incS_len]
theorem cntS_len (L : List Int) : (cntS L).length = 65 := by rw [cntS, foldInc_len]; simp
theorem cntS_take (L : List Int) (j : Nat) (hj : j < L.length) : cntS (L.take (j + 1)) = incS (cntS (L.take j)) (Lib.bitLen (L[j]).toNat) := by
  unfold cntS
  rw [← List.take_append_getElem hj, List.foldl_append]
  rfl

set_option maxHeartbeats 2000000 in
theorem newhist_any (w : World) : Calls Try.prog 20 #[] w fun e w' => ∃ b, e = .returned (.pointer (some ⟨b, 0, none⟩)) ∧ RowN w' b .u64 (cntS []) ∧ w.heap.size ≤ b ∧ Below w.heap.size w w' := by
  have hz : Try.zeroCells83 = Array.replicate 65 (.int .u64 0) := by kernel_rfl
  have HZ : Hid _ := hz
  clear hz
  go_enter Try.func20, Try.ntmps20
  go_wp2_with fail
  go_ret
  rw [HZ.out]
  refine ⟨w.heap.size, rfl, ⟨by simp, fun i hi => ⟨?_, by simp⟩⟩, Nat.le_refl _, (Below.refl _ _).alloc (Nat.le_refl _) _⟩
  rw [World.cell?_alloc_new]
  have h65 : i < 65 := by simpa [cntS] using hi
  show _ = some (Value.int .u64 ((List.replicate 65 (0 : Int))[i]'(by simpa using h65)))
  rw [List.getElem_replicate]
  simp [h65]

set_option maxHeartbeats 2000000 in
theorem count_any (b : Nat) (C : List Int) (x : Int) (w : World) (hR : RowN w b .u64 C) (hl : C.length = 65) (h0 : 0 ≤ x) (h1 : x ≤ 18446744073709551615) :
    Calls Try.prog 21 #[.pointer (some ⟨b, 0, none⟩), .int .u64 x] w fun e w' => e = .returned (.tuple #[]) ∧ RowN w' b .u64 (incS C (Lib.bitLen x.toNat)) ∧ w.grownBy w' (some b) := by
  have hk := len_le x h1
  have C1 : Hid (∀ w1, Calls _ _ _ _ _) := fun w1 => len64_any x w1 h0 h1
  obtain ⟨c1, f1⟩ := hR.2 (Lib.bitLen x.toNat) (by omega)
  have C2 : Hid (Calls _ _ _ _ _) := uadd_any b (Lib.bitLen x.toNat) _ w.drew c1 f1
  have HP : Hid (RowN _ _ _ _) := hR.set (Lib.bitLen x.toNat) ((C[Lib.bitLen x.toNat]'(by omega) + 1) % 18446744073709551616)
  have HE : Hid (incS C (Lib.bitLen x.toNat) = C.set (Lib.bitLen x.toNat) ((C[Lib.bitLen x.toNat]'(by omega) + 1) % 18446744073709551616)) := by
    show _ = _
    have hlt : Lib.bitLen x.toNat < C.length := by omega
    unfold incS
    simp [hlt]
  rw [HE.out]
  clear HE hR c1 f1 h0 h1
  generalize C[Lib.bitLen x.toNat]'(by omega) = y at *
  generalize Lib.bitLen x.toNat = k at *
  go_enter Try.func21, Try.ntmps21
  go_wp2_with fail
  go_region_with (first | (go_at_call 38; refine (C1.out _).mono ?_; rintro e w4 ⟨rfl, hw4⟩; rw [hw4]; clear hw4 w4) | (go_at_call 39; refine C2.out.mono ?_; rintro e w5 ⟨rfl, hw5⟩; rw [hw5]; clear hw5 w5))
  all_goals go_wp2_with fail
  all_goals refine bodyPost_end (results_none rfl _ _ _) rfl ?_
  all_goals exact ⟨rfl, HP.out, ⟨rfl, rfl, rfl, by simp [World.setCell, World.drew], fun k _ hk => Below.heap_setCell _ _ _ _ (by simpa using hk)⟩⟩

theorem info_u64 : (Try.prog.info? 51).map (fun i => (i.zero, i.size, i.bytes)) = some (some (.int .u64 0), 1, 8) := by kernel_rfl

set_option maxHeartbeats 2000000 in
theorem counts_any (b : Nat) (L : List Int) (w : World) (hC : RowN w b .u64 L) (hl : L.length = 65) :
    Calls Try.prog 25 #[.pointer (some ⟨b, 0, none⟩)] w fun e w' => ∃ h, e = .returned (.slice (some ⟨h, 0, none⟩) 65 65) ∧ RowN w' h .u64 L ∧ w.heap.size ≤ h ∧ Below w.heap.size w w' := by
  obtain ⟨i, hi, hz0, hz1, hz2⟩ := info_parts info_u64
  have HI : Hid _ := hi
  have HZ : Hid (i.zero = _ ∧ i.size = _ ∧ i.bytes = _) := ⟨hz0, hz1, hz2⟩
  have HC : Hid (RowN _ _ _ _) := hC
  clear hi hz0 hz1 hz2 hC
  go_enter Try.func25, Try.ntmps25
  go_wp2_with (at_make; refine wpList_make_full _ rfl _ _ 47 rfl w.heap.size 51 i _ 1 Try.underlying47 HI.out HZ.out.1 HZ.out.2.1 .i64 .i64 65 65 65 rfl rfl rfl rfl (by rw [HZ.out.2.2]; omega) (by unfold maxLen; omega) (Nat.le_refl _) ?_)
  intro w1 hown hgrow
  have hN : RowN w1 w.heap.size .u64 (fillS L 0) := by
    have e : (madeCells #[Value.int .u64 0] 65).toList = (List.replicate L.length (0 : Int)).map (.int .u64) := by
      rw [toList_madeCells_one, hl]
      simp
    rw [e] at hown
    rw [fillS_zero]
    exact RowN.of_owns hown
  have HN : Hid (RowN _ _ _ _) := hN
  have HB : Hid (Below w.heap.size w w1) := (Below.refl _ _).grown hgrow (Nat.le_refl _) (by simp)
  clear hown hgrow hN
  go_wp2_with fail
  go_loopw [4, 6] (fun _ i wr => ∃ j : Nat, j ≤ 65 ∧ i = .int .i64 (j : Int) ∧ Hid (RowN wr w.heap.size .u64 (fillS L j)) ∧ Hid (Below w.heap.size w wr)) (fun _ i _ => 65 - (intOf i).toNat)
  case atStart => exact ⟨0, Nat.zero_le _, by go_num, HN, HB⟩
  case round =>
    obtain ⟨j, hj, rfl, hR, hn⟩ := hrel
    by_cases hj0 : j = 65
    · subst hj0
      have e : fillS L 65 = L := by rw [← hl]; exact fillS_all L
      rw [e] at hR
      go_wp2
      go_ret
      exact ⟨_, rfl, hR.out, Nat.le_refl _, hn.out⟩
    · have hj1 : j < 65 := by omega
      have hj2 : j < L.length := by omega
      have hrow := (HC.out.keep hn.out HC.out.1).2 j hj2
      have C2' : Hid (Calls _ _ _ _ _) := uload_any b j L[j] wr hrow.1
      obtain ⟨c1, f1⟩ := hR.out.2 j (by rw [fillS_len _ _ (by omega)]; exact hj2)
      have HS : Hid (RowN _ _ _ _) := hR.out.set j L[j]
      rw [fillS_set L j hj2] at HS
      have HB' : Hid (Below _ _ _) := hn.out.setCell (p := ⟨w.heap.size, j, none⟩) (Nat.le_refl _) (.int .u64 L[j])
      generalize L[j] = x at *
      clear hrow
      go_wp2_with fail
      refine C2'.out.mono ?_
      rintro e w2 ⟨rfl, hw⟩
      rw [hw]
      clear hw
      go_wp2_with fail
      go_roundw
      case rel => exact ⟨j + 1, hj1, by go_num, HS, HB'⟩
      case measure => simp [intOf]; omega

set_option maxHeartbeats 2000000 in
theorem rsize_any (x : Int) (w : World) (h0 : 0 ≤ x) (h1 : x ≤ 18446744073709551615) :
    Calls Try.prog 42 #[.int .u64 x] w fun e w' => e = .returned (.int .i64 (Lib.bitLen x.toNat : Nat)) ∧ w' = w := by
  have hk := len_le x h1
  generalize hK : Lib.bitLen x.toNat = K at *
  have HK : Hid _ := hK
  clear hK
  go_enter Try.func42, Try.ntmps42
  go_wp2_with fail
  go_loopw [0, 3] (fun n k wr => ∃ (y : Int) (j : Nat), 0 ≤ y ∧ y ≤ 18446744073709551615 ∧ n = .int .u64 y ∧ k = .int .i64 (j : Int) ∧ Hid (j + Lib.bitLen y.toNat = K) ∧ wr = w) (fun n _ _ => (intOf n).toNat)
  case atStart => exact ⟨x, 0, h0, h1, rfl, by go_num, (by rw [Nat.zero_add]; exact HK.out), rfl⟩
  case round =>
    obtain ⟨y, j, y0, y1, rfl, rfl, hE, hw⟩ := hrel
    rw [hw]
    clear hw
    by_cases hy : y = 0
    · subst hy
      have hj : j = K := by have := hE.out; simpa [Lib.bitLen, Lib.bitLenAux] using this
      subst hj
      go_wp2
      go_ret
      exact ⟨rfl, rfl⟩
    · have hy1 : 0 < y := by omega
      have HS : Hid (j + 1 + Lib.bitLen (y / 2).toNat = K) := by
        have h2 := Lib.bitLen_half y.toNat (by omega) (by omega)
        have e : (y / 2).toNat = y.toNat / 2 := by omega
        have h3 := hE.out
        show _ = _
        rw [e]
        omega
      have hj : j < 64 := by have := hE.out; have h2 := Lib.bitLen_half y.toNat (by omega) (by omega); omega
      go_wp2_with fail
      go_roundw
      case rel => exact ⟨y / 2, j + 1, by omega, by omega, rfl, by go_num, HS, trivial⟩
      case measure => simp [intOf]; omega
end Go.Proofs.Ytammkfilihlmhaa
