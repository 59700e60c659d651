/- The document's Counts; counts held against each other; Below on both sides. -/
import Derived.Test.YtammkfilihlmhaaWHis
namespace Go.Proofs.Ytammkfilihlmhaa
open Go.RowKit
set_option maxRecDepth 100000

set_option maxHeartbeats 2000000 in
theorem rcounts_any (L : List Int) (p : Option Addr) (c : Nat) (w : World) (hR : RdN w w.heap.size p .u64 L) (hok : ∀ x ∈ L, 0 ≤ x ∧ x < 18446744073709551616) (hlen : L.length ≤ 17592186044416) :
    Calls Try.prog 26 #[.slice p L.length c] w fun e w' => ∃ h, e = .returned (.slice (some ⟨h, 0, none⟩) 65 65) ∧ RowN w' h .u64 (cntS L) ∧ w.heap.size ≤ h ∧ Below w.heap.size w w' := by
  obtain ⟨i, hi, hz0, hz1, hz2⟩ := info_parts info_u64
  have HI : Hid _ := hi
  have HZ : Hid (i.zero = _ ∧ i.size = _ ∧ i.bytes = _) := ⟨hz0, hz1, hz2⟩
  have HA : Hid (RdN _ _ _ _ _) := hR
  have HK : Hid _ := hok
  clear hi hz0 hz1 hz2 hR hok
  go_enter Try.func26, Try.ntmps26
  go_wp2_with (at_make; refine wpList_make_full _ rfl _ _ 47 rfl w.heap.size 51 i _ 1 Try.underlying47 HI.out HZ.out.1 HZ.out.2.1 .i64 .i64 65 65 65 rfl rfl rfl rfl (by rw [HZ.out.2.2]; omega) (by unfold maxLen; omega) (Nat.le_refl _) ?_)
  intro w1 hown hgrow
  have hN : RowN w1 w.heap.size .u64 (cntS []) := by
    have e : (madeCells #[Value.int .u64 0] 65).toList = (List.replicate 65 (0 : Int)).map (.int .u64) := by
      rw [toList_madeCells_one]
      simp
    rw [e] at hown
    exact RowN.of_owns hown
  have HN : Hid (RowN _ _ _ _) := hN
  have HB : Hid (Below w.heap.size w w1) := (Below.refl _ _).grown hgrow (Nat.le_refl _) (by simp)
  clear hown hgrow hN
  go_wp2_with fail
  go_loopw [4] (fun i wr => ∃ j : Nat, j ≤ L.length ∧ i = .int .i64 (j : Int) ∧ Hid (RowN wr w.heap.size .u64 (cntS (L.take j))) ∧ Hid (Below w.heap.size w wr)) (fun i _ => L.length - (intOf i).toNat)
  case atStart => exact ⟨0, Nat.zero_le _, by go_num, HN, HB⟩
  case round =>
    obtain ⟨j, hj, rfl, hR, hn⟩ := hrel
    by_cases hj0 : j = L.length
    · subst hj0
      rw [List.take_length] at hR
      go_wp2
      go_ret
      exact ⟨_, rfl, hR.out, Nat.le_refl _, hn.out⟩
    · have hj1 : j < L.length := by omega
      obtain ⟨b, o, rfl, hbB, d0⟩ := HA.out j hj1
      have a0 := (hn.out.cell (p := ⟨b, o + j, none⟩) hbB).trans d0
      obtain ⟨x0, x1⟩ := HK.out L[j] (List.getElem_mem hj1)
      have HS : Hid (cntS (L.take (j + 1)) = _) := cntS_take L j hj1
      have C2 : Hid (Calls _ _ _ _ _) := rsize_any L[j] wr x0 (by omega)
      have hk := len_le L[j] (by omega)
      have hl := cntS_len (L.take j)
      obtain ⟨c1, f1⟩ := hR.out.2 (Lib.bitLen (L[j]).toNat) (by omega)
      have HP : Hid (RowN _ _ _ _) := hR.out.set (Lib.bitLen (L[j]).toNat) (((cntS (L.take j))[Lib.bitLen (L[j]).toNat]'(by omega) + 1) % 18446744073709551616)
      have HB' : Hid (Below _ _ _) := hn.out.setCell (p := ⟨w.heap.size, Lib.bitLen (L[j]).toNat, none⟩) (Nat.le_refl _) (.int .u64 (((cntS (L.take j))[Lib.bitLen (L[j]).toNat]'(by omega) + 1) % 18446744073709551616))
      have HE : Hid (incS (cntS (L.take j)) (Lib.bitLen (L[j]).toNat) = (cntS (L.take j)).set (Lib.bitLen (L[j]).toNat) (((cntS (L.take j))[Lib.bitLen (L[j]).toNat]'(by omega) + 1) % 18446744073709551616)) := by
        show _ = _
        have hlt : Lib.bitLen (L[j]).toNat < (cntS (L.take j)).length := by omega
        unfold incS
        simp [hlt]
      have HS' : Hid (cntS (L.take (j + 1)) = _) := HS.out.trans HE.out
      clear d0 HE HS hR
      generalize (cntS (L.take j))[Lib.bitLen (L[j]).toNat]'(by omega) = y at *
      generalize Lib.bitLen (L[j]).toNat = k at *
      generalize L[j] = x at *
      go_wp2_with fail
      refine C2.out.mono ?_
      rintro e w2 ⟨rfl, hw⟩
      rw [hw]
      clear hw
      go_wp2_with fail
      go_roundw
      case rel => exact ⟨j + 1, hj1, by go_num, (show RowN _ _ _ _ by rw [HS'.out]; exact HP.out), HB'⟩
      case measure => simp [intOf]; omega

set_option maxHeartbeats 4000000 in
theorem counts_same (L : List Int) (p q : Option Addr) (w : World) (hR : RdN w w.heap.size p .u64 L) (hQ : RdN w w.heap.size q .u64 L) (hlen : L.length = 65) :
    Calls Try.prog 24 #[.slice p 65 65, .slice q 65 65] w fun e w' => e = .returned (.bool true) ∧ Below w.heap.size w w' := by
  have HA : Hid (RdN _ _ p _ _) := hR
  have HB : Hid (RdN _ _ q _ _) := hQ
  clear hR hQ
  go_enter Try.func24, Try.ntmps24
  go_wp2_with fail
  go_loopw [5] (fun i wr => ∃ j : Nat, j ≤ 65 ∧ i = .int .i64 (j : Int) ∧ Below w.heap.size w wr) (fun i _ => 65 - (intOf i).toNat)
  case atStart => exact ⟨0, Nat.zero_le _, by go_num, Below.refl _ _⟩
  case round =>
    obtain ⟨j, hj, rfl, hn⟩ := hrel
    by_cases hj0 : j = 65
    · subst hj0
      go_wp2
      go_ret
      exact ⟨rfl, hn⟩
    · have hj1 : j < 65 := by omega
      have hj2 : j < L.length := by omega
      obtain ⟨b, o, rfl, hbB, d0⟩ := HA.out j hj2
      obtain ⟨b', o', rfl, hbB', d0'⟩ := HB.out j hj2
      have a0 := (hn.cell (p := ⟨b, o + j, none⟩) hbB).trans d0
      have e0 := (hn.cell (p := ⟨b', o' + j, none⟩) hbB').trans d0'
      clear d0 d0'
      generalize L[j] = x at *
      go_wp2_with fail
      go_quiet (fail)
      go_wp2_with fail
      go_roundw
      case rel => exact ⟨j + 1, hj1, by go_num, below_drewN hn _⟩
      case measure => simp [intOf]; omega

/-- a sum of numbers without sign -/
def sumU (C : List Int) : Int := C.foldl (fun s x => (s + x) % 18446744073709551616) 0
theorem sumU_take (L : List Int) (j : Nat) (hj : j < L.length) : sumU (L.take (j + 1)) = (sumU (L.take j) + L[j]) % 18446744073709551616 := by
  unfold sumU
  rw [← List.take_append_getElem hj, List.foldl_append]
  rfl
theorem foldU (C : List Int) : ∀ s : Int, 0 ≤ s → s < 18446744073709551616 → C.foldl (fun s x => (s + x) % 18446744073709551616) s = (s + C.sum) % 18446744073709551616 := by
  induction C with
  | nil => intro s h0 h1; simp; omega
  | cons x C ih =>
    intro s h0 h1
    rw [List.foldl_cons, ih _ (by omega) (by omega), List.sum_cons]
    omega
theorem sumU_eq (C : List Int) : sumU C = C.sum % 18446744073709551616 := by
  unfold sumU
  rw [foldU C 0 (by omega) (by omega), Int.zero_add]
theorem sum_set : ∀ (C : List Int) (k : Nat) (v : Int) (hk : k < C.length), (C.set k v).sum + C[k] = C.sum + v
  | [], k, v, hk => by simp at hk
  | x :: C, 0, v, _ => by simp; omega
  | x :: C, k + 1, v, hk => by
    have ih := sum_set C k v (by simpa using hk)
    simp only [List.set_cons_succ, List.sum_cons, List.getElem_cons_succ]
    omega
theorem sum_inc (C : List Int) (k : Nat) (hk : k < C.length) : (incS C k).sum % 18446744073709551616 = (C.sum + 1) % 18446744073709551616 := by
  have h := sum_set C k ((C.getD k 0 + 1) % 18446744073709551616) hk
  have e : C.getD k 0 = C[k] := by simp [hk]
  unfold incS
  rw [e] at h ⊢
  omega
theorem sum_fold (L : List Int) (hok : ∀ x ∈ L, 0 ≤ x ∧ x < 18446744073709551616) : ∀ C : List Int, C.length = 65 → (L.foldl (fun C x => incS C (Lib.bitLen x.toNat)) C).sum % 18446744073709551616 = (C.sum + L.length) % 18446744073709551616 := by
  induction L with
  | nil => intro C _; simp
  | cons x L ih =>
    intro C hC
    have hx := len_le x (by have := hok x List.mem_cons_self; omega)
    have h1 := sum_inc C (Lib.bitLen x.toNat) (by omega)
    rw [List.foldl_cons, ih (fun y hy => hok y (List.mem_cons_of_mem _ hy)) _ (by rw [incS_len]; exact hC)]
    simp only [List.length_cons]
    omega
theorem sum_cnt (L : List Int) (hok : ∀ x ∈ L, 0 ≤ x ∧ x < 18446744073709551616) (hlen : L.length ≤ 17592186044416) : sumU (cntS L) = L.length := by
  rw [sumU_eq]
  unfold cntS
  rw [sum_fold L hok _ (by simp)]
  simp
  omega

/-- how far it is, from size s on -/
def bel (C : List Int) (q : Int) : Nat → Nat → Nat
  | 0, s => s
  | f + 1, s => if sumU (C.take (s + 1)) * 1000 % 18446744073709551616 < q then bel C q f (s + 1) else s
end Go.Proofs.Ytammkfilihlmhaa
