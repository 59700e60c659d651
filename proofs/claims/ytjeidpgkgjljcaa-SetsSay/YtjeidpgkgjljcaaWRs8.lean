/- The document's Same of feet that are the same. -/
import Derived.Test.YtjeidpgkgjljcaaWRs7
namespace Go.Proofs.Ytjeidpgkgjljcaa
open Go.RowKit
set_option maxRecDepth 100000

set_option maxHeartbeats 8000000 in
theorem rsame_yes (a : Ft) (pa0 pa1 pa2 pb0 pb1 pb2 : Option Addr) (ca0 ca1 ca2 cb0 cb1 cb2 : Nat) (w : World)
    (hra0 : RowP w w.heap.size pa0 a.P) (hra1 : RowS w w.heap.size pa1 a.S) (hra2 : RowP w w.heap.size pa2 a.W) (hrb0 : RowP w w.heap.size pb0 a.P) (hrb1 : RowS w w.heap.size pb1 a.S) (hrb2 : RowP w w.heap.size pb2 a.W)
    (hl0 : a.P.length ≤ 4398046511104) (hl1 : a.S.length ≤ 2513169434916) (hl2 : a.W.length ≤ 4398046511104) :
    Calls Try.prog 12 #[.agg #[(.slice pa0 a.P.length ca0), (.slice pa1 a.S.length ca1), (.slice pa2 a.W.length ca2)], .agg #[(.slice pb0 a.P.length cb0), (.slice pb1 a.S.length cb1), (.slice pb2 a.W.length cb2)]] w fun e w' => e = .returned (.bool true) ∧ Below w.heap.size w w' := by
  have hal : Below w.heap.size w ((w.alloc (.cells #[(.slice pa0 a.P.length ca0), (.slice pa1 a.S.length ca1), (.slice pa2 a.W.length ca2)] 25)).alloc (.cells #[(.slice pb0 a.P.length cb0), (.slice pb1 a.S.length cb1), (.slice pb2 a.W.length cb2)] 25)) := ((Below.refl _ _).alloc (Nat.le_refl _) _).alloc (by simp) _
  have hA0 : Blk ((w.alloc (.cells #[(.slice pa0 a.P.length ca0), (.slice pa1 a.S.length ca1), (.slice pa2 a.W.length ca2)] 25)).alloc (.cells #[(.slice pb0 a.P.length cb0), (.slice pb1 a.S.length cb1), (.slice pb2 a.W.length cb2)] 25)) w.heap.size #[(.slice pa0 a.P.length ca0), (.slice pa1 a.S.length ca1), (.slice pa2 a.W.length ca2)] 25 := (Blk.new w #[(.slice pa0 a.P.length ca0), (.slice pa1 a.S.length ca1), (.slice pa2 a.W.length ca2)] 25).keep (B := w.heap.size + 1) ((Below.refl _ _).alloc (by simp) _) (by omega)
  have hB0 : Blk ((w.alloc (.cells #[(.slice pa0 a.P.length ca0), (.slice pa1 a.S.length ca1), (.slice pa2 a.W.length ca2)] 25)).alloc (.cells #[(.slice pb0 a.P.length cb0), (.slice pb1 a.S.length cb1), (.slice pb2 a.W.length cb2)] 25)) (w.heap.size + 1) #[(.slice pb0 a.P.length cb0), (.slice pb1 a.S.length cb1), (.slice pb2 a.W.length cb2)] 25 := by
    have h := Blk.new (w.alloc (.cells #[(.slice pa0 a.P.length ca0), (.slice pa1 a.S.length ca1), (.slice pa2 a.W.length ca2)] 25)) #[(.slice pb0 a.P.length cb0), (.slice pb1 a.S.length cb1), (.slice pb2 a.W.length cb2)] 25
    have e : (w.alloc (.cells #[(.slice pa0 a.P.length ca0), (.slice pa1 a.S.length ca1), (.slice pa2 a.W.length ca2)] 25)).heap.size = w.heap.size + 1 := by simp
    rw [e] at h
    exact h
  have HW : Hid (Blk ((w.alloc (.cells #[(.slice pa0 a.P.length ca0), (.slice pa1 a.S.length ca1), (.slice pa2 a.W.length ca2)] 25)).alloc (.cells #[(.slice pb0 a.P.length cb0), (.slice pb1 a.S.length cb1), (.slice pb2 a.W.length cb2)] 25)) w.heap.size #[(.slice pa0 a.P.length ca0), (.slice pa1 a.S.length ca1), (.slice pa2 a.W.length ca2)] 25 ∧ Blk ((w.alloc (.cells #[(.slice pa0 a.P.length ca0), (.slice pa1 a.S.length ca1), (.slice pa2 a.W.length ca2)] 25)).alloc (.cells #[(.slice pb0 a.P.length cb0), (.slice pb1 a.S.length cb1), (.slice pb2 a.W.length cb2)] 25)) (w.heap.size + 1) #[(.slice pb0 a.P.length cb0), (.slice pb1 a.S.length cb1), (.slice pb2 a.W.length cb2)] 25 ∧ Below w.heap.size w ((w.alloc (.cells #[(.slice pa0 a.P.length ca0), (.slice pa1 a.S.length ca1), (.slice pa2 a.W.length ca2)] 25)).alloc (.cells #[(.slice pb0 a.P.length cb0), (.slice pb1 a.S.length cb1), (.slice pb2 a.W.length cb2)] 25))) := ⟨hA0, hB0, hal⟩
  have HRa0 : Hid (RowP ((w.alloc (.cells #[(.slice pa0 a.P.length ca0), (.slice pa1 a.S.length ca1), (.slice pa2 a.W.length ca2)] 25)).alloc (.cells #[(.slice pb0 a.P.length cb0), (.slice pb1 a.S.length cb1), (.slice pb2 a.W.length cb2)] 25)) ((w.alloc (.cells #[(.slice pa0 a.P.length ca0), (.slice pa1 a.S.length ca1), (.slice pa2 a.W.length ca2)] 25)).alloc (.cells #[(.slice pb0 a.P.length cb0), (.slice pb1 a.S.length cb1), (.slice pb2 a.W.length cb2)] 25)).heap.size pa0 a.P) := hra0.on hal
  have HRa1 : Hid (RowS ((w.alloc (.cells #[(.slice pa0 a.P.length ca0), (.slice pa1 a.S.length ca1), (.slice pa2 a.W.length ca2)] 25)).alloc (.cells #[(.slice pb0 a.P.length cb0), (.slice pb1 a.S.length cb1), (.slice pb2 a.W.length cb2)] 25)) ((w.alloc (.cells #[(.slice pa0 a.P.length ca0), (.slice pa1 a.S.length ca1), (.slice pa2 a.W.length ca2)] 25)).alloc (.cells #[(.slice pb0 a.P.length cb0), (.slice pb1 a.S.length cb1), (.slice pb2 a.W.length cb2)] 25)).heap.size pa1 a.S) := hra1.on hal
  have HRa2 : Hid (RowP ((w.alloc (.cells #[(.slice pa0 a.P.length ca0), (.slice pa1 a.S.length ca1), (.slice pa2 a.W.length ca2)] 25)).alloc (.cells #[(.slice pb0 a.P.length cb0), (.slice pb1 a.S.length cb1), (.slice pb2 a.W.length cb2)] 25)) ((w.alloc (.cells #[(.slice pa0 a.P.length ca0), (.slice pa1 a.S.length ca1), (.slice pa2 a.W.length ca2)] 25)).alloc (.cells #[(.slice pb0 a.P.length cb0), (.slice pb1 a.S.length cb1), (.slice pb2 a.W.length cb2)] 25)).heap.size pa2 a.W) := hra2.on hal
  have HRb0 : Hid (RowP ((w.alloc (.cells #[(.slice pa0 a.P.length ca0), (.slice pa1 a.S.length ca1), (.slice pa2 a.W.length ca2)] 25)).alloc (.cells #[(.slice pb0 a.P.length cb0), (.slice pb1 a.S.length cb1), (.slice pb2 a.W.length cb2)] 25)) ((w.alloc (.cells #[(.slice pa0 a.P.length ca0), (.slice pa1 a.S.length ca1), (.slice pa2 a.W.length ca2)] 25)).alloc (.cells #[(.slice pb0 a.P.length cb0), (.slice pb1 a.S.length cb1), (.slice pb2 a.W.length cb2)] 25)).heap.size pb0 a.P) := hrb0.on hal
  have HRb1 : Hid (RowS ((w.alloc (.cells #[(.slice pa0 a.P.length ca0), (.slice pa1 a.S.length ca1), (.slice pa2 a.W.length ca2)] 25)).alloc (.cells #[(.slice pb0 a.P.length cb0), (.slice pb1 a.S.length cb1), (.slice pb2 a.W.length cb2)] 25)) ((w.alloc (.cells #[(.slice pa0 a.P.length ca0), (.slice pa1 a.S.length ca1), (.slice pa2 a.W.length ca2)] 25)).alloc (.cells #[(.slice pb0 a.P.length cb0), (.slice pb1 a.S.length cb1), (.slice pb2 a.W.length cb2)] 25)).heap.size pb1 a.S) := hrb1.on hal
  have HRb2 : Hid (RowP ((w.alloc (.cells #[(.slice pa0 a.P.length ca0), (.slice pa1 a.S.length ca1), (.slice pa2 a.W.length ca2)] 25)).alloc (.cells #[(.slice pb0 a.P.length cb0), (.slice pb1 a.S.length cb1), (.slice pb2 a.W.length cb2)] 25)) ((w.alloc (.cells #[(.slice pa0 a.P.length ca0), (.slice pa1 a.S.length ca1), (.slice pa2 a.W.length ca2)] 25)).alloc (.cells #[(.slice pb0 a.P.length cb0), (.slice pb1 a.S.length cb1), (.slice pb2 a.W.length cb2)] 25)).heap.size pb2 a.W) := hrb2.on hal
  have ia0 := hA0.cell (i := 0) rfl
  have ia1 := hA0.cell (i := 1) rfl
  have ia2 := hA0.cell (i := 2) rfl
  have ib0 := hB0.cell (i := 0) rfl
  have ib1 := hB0.cell (i := 1) rfl
  have ib2 := hB0.cell (i := 2) rfl
  clear hal hA0 hB0 hra0 hra1 hra2 hrb0 hrb1 hrb2
  go_enter Try.func12, Try.ntmps12
  go_wp2_with fail
  clear ia0 ia1 ia2 ib0 ib1 ib2
  generalize ((w.alloc (.cells #[(.slice pa0 a.P.length ca0), (.slice pa1 a.S.length ca1), (.slice pa2 a.W.length ca2)] 25)).alloc (.cells #[(.slice pb0 a.P.length cb0), (.slice pb1 a.S.length cb1), (.slice pb2 a.W.length cb2)] 25)) = wA at *
  go_loopw [5] (fun i wr => ∃ j : Nat, j ≤ a.P.length ∧ i = .int .i64 (j : Int) ∧ Hid (Below wA.heap.size wA wr)) (fun i _ => a.P.length - (intOf i).toNat)
  case atStart => exact ⟨0, Nat.zero_le _, by go_num, Below.refl _ _⟩
  case round =>
    obtain ⟨j, hj, rfl, HN⟩ := hrel
    have hA := HW.out.1.on HN.out
    have hB := HW.out.2.1.on HN.out
    have g0 := hA.cell (i := 0) rfl
    have g1 := hB.cell (i := 0) rfl
    clear hA hB
    by_cases hj0 : j = a.P.length
    · subst hj0
      rename World => wE1
      have HP1 : Hid (Below wA.heap.size wA wE1) := HN.out
      clear HN
      go_wp2_with fail
      go_loopw [6] (fun i wr => ∃ j : Nat, j ≤ a.S.length ∧ i = .int .i64 (j : Int) ∧ Hid (Below wA.heap.size wA wr)) (fun i _ => a.S.length - (intOf i).toNat)
      case atStart => exact ⟨0, Nat.zero_le _, by go_num, HP1.out⟩
      case round =>
        obtain ⟨j, hj, rfl, HN⟩ := hrel
        have hA := HW.out.1.on HN.out
        have hB := HW.out.2.1.on HN.out
        have g0 := hA.cell (i := 1) rfl
        have g1 := hB.cell (i := 1) rfl
        clear hA hB
        by_cases hj0 : j = a.S.length
        · subst hj0
          rename World => wE2
          have HP2 : Hid (Below wA.heap.size wA wE2) := HN.out
          clear HN HP1
          go_wp2_with fail
          go_loopw [7] (fun i wr => ∃ j : Nat, j ≤ a.W.length ∧ i = .int .i64 (j : Int) ∧ Hid (Below wA.heap.size wA wr)) (fun i _ => a.W.length - (intOf i).toNat)
          case atStart => exact ⟨0, Nat.zero_le _, by go_num, HP2.out⟩
          case round =>
            obtain ⟨j, hj, rfl, HN⟩ := hrel
            have hA := HW.out.1.on HN.out
            have hB := HW.out.2.1.on HN.out
            have g0 := hA.cell (i := 2) rfl
            have g1 := hB.cell (i := 2) rfl
            clear hA hB
            by_cases hj0 : j = a.W.length
            · subst hj0
              rename World => wE3
              have HP3 : Hid (Below wA.heap.size wA wE3) := HN.out
              clear HN HP2
              have HE : Hid (Below w.heap.size w wE3) := HW.out.2.2.trans (HP3.out.mono HW.out.2.2.size)
              go_wp2_with fail
              go_ret
              exact ⟨by first | rfl | simp, ⟨HE.out.os, HE.out.tape, HE.out.output, HE.out.size, HE.out.block⟩⟩
            · have hj1 : j < a.W.length := by omega
              obtain ⟨b, o, hp, hbB, c0, c1, c2⟩ := (HRa2.out.on HN.out) j hj1
              obtain ⟨b', o', hp', hbB', d0, d1, d2⟩ := (HRb2.out.on HN.out) j hj1
              have heq := run_eqInP
              have hgd := run_eqGP
              subst hp hp'
              clear hj0
              generalize a.W[j] = y at *
              go_wp2_with fail
              go_quiet (fail)
              go_wp2_with fail
              go_roundw
              case rel => exact ⟨j + 1, by omega, by go_num, ⟨HN.out.os, HN.out.tape, HN.out.output, HN.out.size, HN.out.block⟩⟩
              case measure => simp [intOf]; omega
        · have hj1 : j < a.S.length := by omega
          obtain ⟨b, o, hp, hbB, c0, c1, c2, c3, c4⟩ := (HRa1.out.on HN.out) j hj1
          obtain ⟨b', o', hp', hbB', d0, d1, d2, d3, d4⟩ := (HRb1.out.on HN.out) j hj1
          have heq := run_eqInS
          have hgd := run_eqGS
          subst hp hp'
          clear hj0
          generalize a.S[j] = y at *
          go_wp2_with fail
          go_quiet (fail)
          go_wp2_with fail
          go_roundw
          case rel => exact ⟨j + 1, by omega, by go_num, ⟨HN.out.os, HN.out.tape, HN.out.output, HN.out.size, HN.out.block⟩⟩
          case measure => simp [intOf]; omega
    · have hj1 : j < a.P.length := by omega
      obtain ⟨b, o, hp, hbB, c0, c1, c2⟩ := (HRa0.out.on HN.out) j hj1
      obtain ⟨b', o', hp', hbB', d0, d1, d2⟩ := (HRb0.out.on HN.out) j hj1
      have heq := run_eqInP
      have hgd := run_eqGP
      subst hp hp'
      clear hj0
      generalize a.P[j] = y at *
      go_wp2_with fail
      go_quiet (fail)
      go_wp2_with fail
      go_roundw
      case rel => exact ⟨j + 1, by omega, by go_num, ⟨HN.out.os, HN.out.tape, HN.out.output, HN.out.size, HN.out.block⟩⟩
      case measure => simp [intOf]; omega
end Go.Proofs.Ytjeidpgkgjljcaa
