/- The walks of New, Sum, Shards; awake. -/
import Derived.Test.YtammkfilihlmhaaWTal
namespace Go.Proofs.Ytammkfilihlmhaa
open Go.RowKit
set_option maxRecDepth 100000

theorem alloc_cell (w : World) (o : Obj) (p : Addr) (h : p.block < w.heap.size) : (w.alloc o).cell? p = w.cell? p := World.cell?_of_block (Below.heap_alloc w o p.block h)

set_option maxHeartbeats 2000000 in
theorem new_any (n : Nat) (w : World) (h1 : 1 ≤ n) (h2 : n ≤ 64) :
    Calls Try.prog 7 #[.int .i64 (n : Int)] w fun e w' => ∃ b g, e = .returned (.tuple #[.pointer (some ⟨b, 0, none⟩), .int .i64 0]) ∧ Cnt w' b g (List.replicate n 0) ∧ w.heap.size ≤ g ∧ w.heap.size ≤ b ∧ b < w'.heap.size ∧ Below w.heap.size w w' := by
  obtain ⟨i, hi, hz0, hz1, hz2⟩ := info_parts info_a64
  have HI : Hid _ := hi
  have HZ : Hid (i.zero = _ ∧ i.size = _ ∧ i.bytes = _) := ⟨hz0, hz1, hz2⟩
  clear hi hz0 hz1 hz2
  have a1 : ¬ ((n : Int) < 1) := by omega
  have a2 : ¬ (64 < (n : Int)) := by omega
  go_enter Try.func7, Try.ntmps7
  go_wp2_with (at_make; refine wpList_make_full _ rfl _ _ 60 rfl w.heap.size 71 i _ 1 Try.underlying60 HI.out HZ.out.1 HZ.out.2.1 .i64 .i64 (n : Int) (n : Int) n rfl rfl rfl rfl (by rw [HZ.out.2.2]; omega) (by unfold maxLen; omega) (Nat.le_refl _) ?_)
  intro w1 hown hgrow
  go_wp2_with fail
  go_ret2
  have hN : RowN w1 w.heap.size .i64 (List.replicate n 0) := by
    have e : (madeCells #[Value.int .i64 0] n).toList = (List.replicate n (0 : Int)).map (.int .i64) := by
      rw [toList_madeCells_one]
      simp
    rw [e] at hown
    exact RowN.of_owns hown
  refine ⟨w1.heap.size, w.heap.size, rfl, ⟨?_, hN.keep ((Below.refl w1.heap.size w1).alloc (Nat.le_refl _) _) hN.1, ?_, by simp, by simp; omega, by simpa using h2⟩, Nat.le_refl _, hgrow.size, by simp, ((Below.refl _ _).grown hgrow (Nat.le_refl _) (by simp)).alloc hgrow.size _⟩
  · rw [World.cell?_alloc_new]
    simp
  · have := hN.1
    omega

theorem new_bad (n : Int) (w : World) (h : n < 1 ∨ 64 < n) :
    Calls Try.prog 7 #[.int .i64 n] w fun e w' => e = .returned (.tuple #[.pointer none, .int .i64 1]) ∧ w' = w := by
  by_cases h1 : n < 1
  · go_enter Try.func7, Try.ntmps7
    go_wp2
    go_ret2
    exact ⟨rfl, rfl⟩
  · have h2 : 64 < n := by omega
    go_enter Try.func7, Try.ntmps7
    go_wp2
    go_ret2
    exact ⟨rfl, rfl⟩

/-- the sum, as int64 have it -/
def sumS (L : List Int) : Int := L.foldl (fun s x => wrap64 (s + x)) 0
theorem sumS_take (L : List Int) (j : Nat) (hj : j < L.length) : sumS (L.take (j + 1)) = wrap64 (sumS (L.take j) + L[j]) := by
  unfold sumS
  rw [← List.take_append_getElem hj, List.foldl_append]
  rfl

set_option maxHeartbeats 2000000 in
theorem sum_any (b g : Nat) (L : List Int) (w : World) (hC : Cnt w b g L) :
    Calls Try.prog 12 #[.pointer (some ⟨b, 0, none⟩)] w fun e w' => e = .returned (.int .i64 (sumS L)) ∧ w' = w := by
  obtain ⟨h1, hr, _, _, hp, hsm⟩ := hC
  have HR : Hid (RowN _ _ _ _) := hr
  have C2 : Hid (∀ j (hj : j < L.length), Calls _ _ _ _ _) := fun j hj => load_any g j L[j] w (hr.2 j hj).1
  clear hr
  go_enter Try.func12, Try.ntmps12
  go_wp2_with fail
  go_loopw [3, 4, 10] (fun s _ i wr => ∃ j : Nat, j ≤ L.length ∧ i = .int .i64 (j : Int) ∧ s = .int .i64 (sumS (L.take j)) ∧ wr = w) (fun _ _ i _ => L.length - (intOf i).toNat)
  case atStart => exact ⟨0, Nat.zero_le _, by go_num, by simp [sumS], rfl⟩
  case round =>
    obtain ⟨j, hj, rfl, rfl, hw⟩ := hrel
    rw [hw]
    clear hw
    by_cases hj0 : j = L.length
    · subst hj0
      rw [List.take_length]
      go_wp2
      go_ret
      exact ⟨rfl, rfl⟩
    · have hj1 : j < L.length := by omega
      have C2' : Hid (Calls _ _ _ _ _) := C2.out j hj1
      have HS : Hid (sumS (L.take (j + 1)) = _) := sumS_take L j hj1
      generalize L[j] = x at *
      go_wp2_with fail
      refine C2'.out.mono ?_
      rintro e w2 ⟨rfl, hw⟩
      rw [hw]
      clear hw
      go_wp2_with fail
      go_roundw
      case rel => exact ⟨j + 1, hj1, by go_num, by rw [HS.out], trivial⟩
      case measure => simp [intOf]; omega

/-- the first numbers of a list, and noughts -/
def fillS (L : List Int) (j : Nat) : List Int := L.take j ++ List.replicate (L.length - j) 0
theorem fillS_len (L : List Int) (j : Nat) : j ≤ L.length → (fillS L j).length = L.length := by intro h; simp [fillS]; omega
theorem fillS_zero (L : List Int) : fillS L 0 = List.replicate L.length 0 := by simp [fillS]
theorem fillS_all (L : List Int) : fillS L L.length = L := by simp [fillS]
theorem fillS_set (L : List Int) (j : Nat) (hj : j < L.length) : (fillS L j).set j L[j] = fillS L (j + 1) := by
  apply List.ext_getElem
  · simp [fillS]; omega
  · intro i h1 h2
    rw [List.getElem_set]
    by_cases e : j = i
    · subst e
      simp only [if_true]
      simp only [fillS, List.getElem_append, List.length_take, List.getElem_take, List.getElem_replicate]
      rw [dif_pos (by omega)]
    · rw [if_neg e]
      simp only [fillS, List.getElem_append, List.length_take, List.getElem_take, List.getElem_replicate]
      split <;> split <;> first | rfl | omega

theorem info_i64 : (Try.prog.info? 2).map (fun i => (i.zero, i.size, i.bytes)) = some (some (.int .i64 0), 1, 8) := by kernel_rfl

set_option maxHeartbeats 2000000 in
theorem shards_any (b g : Nat) (L : List Int) (w : World) (hC : Cnt w b g L) :
    Calls Try.prog 15 #[.pointer (some ⟨b, 0, none⟩)] w fun e w' => ∃ h, e = .returned (.slice (some ⟨h, 0, none⟩) L.length L.length) ∧ RowN w' h .i64 L ∧ w.heap.size ≤ h ∧ Below w.heap.size w w' := by
  obtain ⟨i, hi, hz0, hz1, hz2⟩ := info_parts info_i64
  have HI : Hid _ := hi
  have HZ : Hid (i.zero = _ ∧ i.size = _ ∧ i.bytes = _) := ⟨hz0, hz1, hz2⟩
  have HC : Hid (Cnt _ _ _ _) := hC
  have hcell := hC.head
  have hsm := hC.small
  clear hi hz0 hz1 hz2 hC
  go_enter Try.func15, Try.ntmps15
  go_wp2_with (at_make; refine wpList_make_full _ rfl _ _ 29 rfl w.heap.size 2 i _ 1 Try.underlying29 HI.out HZ.out.1 HZ.out.2.1 .i64 .i64 (L.length : Int) (L.length : Int) L.length rfl rfl rfl rfl (by rw [HZ.out.2.2]; omega) (by unfold maxLen; omega) (Nat.le_refl _) ?_)
  intro w1 hown hgrow
  have hN : RowN w1 w.heap.size .i64 (fillS L 0) := by
    have e : (madeCells #[Value.int .i64 0] L.length).toList = (List.replicate L.length (0 : Int)).map (.int .i64) := by
      rw [toList_madeCells_one]
      simp
    rw [e] at hown
    rw [fillS_zero]
    exact RowN.of_owns hown
  have HN : Hid (RowN _ _ _ _) := hN
  have HB : Hid (Below w.heap.size w w1) := (Below.refl _ _).grown hgrow (Nat.le_refl _) (by simp)
  have hcell1 := (HB.out.cell (p := ⟨b, 0, none⟩) HC.out.lt).trans hcell
  clear hown hgrow hN
  go_wp2_with fail
  go_loopw [4, 16] (fun _ i wr => ∃ j : Nat, j ≤ L.length ∧ i = .int .i64 (j : Int) ∧ Hid (RowN wr w.heap.size .i64 (fillS L j)) ∧ Hid (Below w.heap.size w wr)) (fun _ i _ => L.length - (intOf i).toNat)
  case atStart => exact ⟨0, Nat.zero_le _, by go_num, HN, HB⟩
  case round =>
    obtain ⟨j, hj, rfl, hR, hn⟩ := hrel
    clear hcell1
    by_cases hj0 : j = L.length
    · subst hj0
      rw [fillS_all] at hR
      go_wp2
      go_ret
      exact ⟨_, rfl, hR.out, Nat.le_refl _, hn.out⟩
    · have hj1 : j < L.length := by omega
      have hcell1 := (hn.out.cell (p := ⟨b, 0, none⟩) HC.out.lt).trans hcell
      have hrow := (HC.out.row.keep hn.out HC.out.row.1).2 j hj1
      have C2' : Hid (Calls _ _ _ _ _) := load_any g j L[j] wr hrow.1
      obtain ⟨c1, f1⟩ := hR.out.2 j (by rw [fillS_len _ _ hj]; exact hj1)
      have HS : Hid (RowN _ _ _ _) := hR.out.set j L[j]
      rw [fillS_set L j hj1] at HS
      have HB' : Hid (Below _ _ _) := hn.out.setCell (p := ⟨w.heap.size, j, none⟩) (Nat.le_refl _) (.int .i64 L[j])
      generalize L[j] = x at *
      clear hrow
      go_wp2_with fail
      refine C2'.out.mono ?_
      rintro e w2 ⟨rfl, hw⟩
      rw [hw]
      clear hw
      go_wp2_with fail
      go_roundw
      case rel => exact ⟨j + 1, hj1, by go_num, HS, HB'⟩
      case measure => simp [intOf]; omega

set_option maxHeartbeats 2000000 in
theorem awake_any (w : World) : Calls Try.prog 9 #[] w fun e w' => e = .returned (.bool true) ∧ Below w.heap.size w w' := by
  have C1 : Hid (Calls _ _ _ _ _) := new_any 2 w (by decide) (by decide)
  go_enter Try.func9, Try.ntmps9
  go_wp2_with fail
  refine C1.out.mono ?_
  rintro e w1 ⟨b, g, rfl, hC, hg, hb, hbz, hB⟩
  have C2 : Hid (Calls _ _ _ _ _) := add_any b g _ 1 4 w1 hC
  clear C1 hC
  go_wp2_with fail
  refine C2.out.mono ?_
  rintro e w2 ⟨rfl, hC2, hG2⟩
  have hs : sumS (addS (List.replicate 2 0) 1 4) = 4 := by decide +kernel
  have C3 : Hid (Calls _ _ _ _ _) := sum_any b g _ w2 hC2
  rw [hs] at C3
  clear C2 hC2 hs
  go_wp2_with fail
  refine C3.out.mono ?_
  rintro e w3 ⟨rfl, hw⟩
  rw [hw]
  clear hw
  go_wp2_with fail
  go_ret
  exact ⟨rfl, hB.grown hG2 hB.size (fun k hk => by cases hk; exact hg)⟩
end Go.Proofs.Ytammkfilihlmhaa
