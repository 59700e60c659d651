/- The walk of the statement on histograms: it answers true. -/
import Derived.Test.YtammkfilihlmhaaWBel2
namespace Go.Proofs.Ytammkfilihlmhaa
open Go.RowKit
set_option maxRecDepth 100000

set_option maxHeartbeats 4000000 in
theorem lawSizes (L : List Int) (p : Option Addr) (c : Nat) (t : Int) (w : World) (hR : RdN w w.heap.size p .u64 L) (hok : ∀ x ∈ L, 0 ≤ x ∧ x < 18446744073709551616) (hlen : L.length ≤ 17592186044416) :
    Calls Try.prog 5 #[.slice p L.length c, .int .i64 t] w fun e w' => e = .returned (.bool true) ∧ Below w.heap.size w w' := by
  have HA : Hid (RdN _ _ _ _ _) := hR
  have HK : Hid _ := hok
  have C1 : Hid (Calls _ _ _ _ _) := newhist_any w
  clear hR hok
  go_enter Try.func5, Try.ntmps5
  go_wp2_with fail
  refine C1.out.mono ?_
  rintro e w1 ⟨b, rfl, hN, hbz, hB⟩
  have HN : Hid (RowN _ _ _ _) := hN
  have HB : Hid (Below _ _ _) := hB
  clear hN hB C1
  go_wp2_with fail
  go_loopw [6] (fun i wr => ∃ j : Nat, j ≤ L.length ∧ i = .int .i64 (j : Int) ∧ Hid (RowN wr b .u64 (cntS (L.take j))) ∧ Hid (Below w.heap.size w wr)) (fun i _ => L.length - (intOf i).toNat)
  case atStart => exact ⟨0, Nat.zero_le _, by go_num, HN, HB⟩
  case round =>
    obtain ⟨j, hj, rfl, hR, hn⟩ := hrel
    by_cases hj0 : j = L.length
    · subst hj0
      rw [List.take_length] at hR
      have C2 : Hid (Calls _ _ _ _ _) := hbelow_any b L t wr hR.out HK.out hlen
      go_wp2_with fail
      refine C2.out.mono ?_
      rintro e w2 ⟨rfl, hb2⟩
      have HB2 : Hid (Below _ _ _) := hn.out.trans (hb2.mono hn.out.size)
      have hN2 := hR.out.keep hb2 hR.out.1
      have C3 : Hid (Calls _ _ _ _ _) := rbelow_any L p c t w2 (HA.out.keep HB2.out HB2.out.size) HK.out hlen
      have HN2 : Hid (RowN _ _ _ _) := hN2
      clear C2 hb2 hN2 hR hn
      go_wp2_with fail
      refine C3.out.mono ?_
      rintro e w3 ⟨rfl, hb3⟩
      have HB3 : Hid (Below _ _ _) := HB2.out.trans (hb3.mono HB2.out.size)
      have hN3 := HN2.out.keep hb3 HN2.out.1
      have C4 : Hid (Calls _ _ _ _ _) := counts_any b (cntS L) w3 hN3 (cntS_len L)
      clear C3 hb3 hN3 HN2 HB2
      generalize (belS L t).1 = m at *
      generalize (belS L t).2 = f at *
      go_wp2_with fail
      refine C4.out.mono ?_
      rintro e w4 ⟨h4, rfl, hN4, hz4, hb4⟩
      have HB4 : Hid (Below _ _ _) := HB3.out.trans (hb4.mono HB3.out.size)
      have HN4 : Hid (RowN _ _ _ _) := hN4
      have C5 : Hid (Calls _ _ _ _ _) := rcounts_any L p c w4 (HA.out.keep HB4.out HB4.out.size) HK.out hlen
      clear C4 hb4 hN4 HB3
      go_wp2_with fail
      refine C5.out.mono ?_
      rintro e w5 ⟨h5, rfl, hN5, hz5, hb5⟩
      have HB5 : Hid (Below _ _ _) := HB4.out.trans (hb5.mono HB4.out.size)
      have C6 : Hid (Calls _ _ _ _ _) := counts_same (cntS L) (some ⟨h4, 0, none⟩) (some ⟨h5, 0, none⟩) w5 (HN4.out.keep hb5 HN4.out.1).rd hN5.rd (cntS_len L)
      clear C5 hb5 hN5 HB4
      go_wp2_with fail
      refine C6.out.mono ?_
      rintro e w6 ⟨rfl, hb6⟩
      have HB6 : Hid (Below _ _ _) := HB5.out.trans (hb6.mono HB5.out.size)
      have C7 : Hid (Calls _ _ _ _ _) := awake_any w6
      clear C6 hb6 HB5
      go_wp2_with fail
      refine C7.out.mono ?_
      rintro e w7 ⟨rfl, hb7⟩
      go_wp2_with fail
      go_ret
      exact ⟨rfl, HB6.out.trans (hb7.mono HB6.out.size)⟩
    · have hj1 : j < L.length := by omega
      obtain ⟨ba, oa, rfl, hbB, d0⟩ := HA.out j hj1
      have a0 := (hn.out.cell (p := ⟨ba, oa + j, none⟩) hbB).trans d0
      obtain ⟨x0, x1⟩ := HK.out L[j] (List.getElem_mem hj1)
      have HS : Hid (cntS (L.take (j + 1)) = _) := cntS_take L j hj1
      have C2 : Hid (Calls _ _ _ _ _) := count_any b (cntS (L.take j)) L[j] wr hR.out (cntS_len _) x0 (by omega)
      rw [← HS.out] at C2
      clear d0 HS x0 x1
      generalize L[j] = x at *
      go_wp2_with fail
      refine C2.out.mono ?_
      rintro e w2 ⟨rfl, hN2, hG2⟩
      have HN2 : Hid (RowN _ _ _ _) := hN2
      have HB2 : Hid (Below _ _ _) := hn.out.grown hG2 hn.out.size (fun k hk => by cases hk; exact hbz)
      clear hN2 hG2 C2
      go_wp2_with fail
      go_roundw
      case rel => exact ⟨j + 1, hj1, by go_num, HN2, HB2⟩
      case measure => simp [intOf]; omega
end Go.Proofs.Ytammkfilihlmhaa
