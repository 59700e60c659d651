/- The walk of the statement on Union: it answers true. -/
import Derived.Test.YtjigmijennbolaaDoorWRUni
import Derived.Test.YtjigmijennbolaaDoorWBoth3
import Derived.Test.YtjigmijennbolaaDoorFrameRs
namespace Go.Proofs.YtjigmijennbolaaDoor
open Go.RowKit
set_option maxRecDepth 100000

set_option maxHeartbeats 4000000 in
theorem rsameR_any (L : List Rg) (p q : Option Addr) (c d : Nat) (w : World) (hR : RowR w w.heap.size p L) (hQ : RowR w w.heap.size q L) (hlen : L.length ≤ 3518437208784) :
    Calls Tryd.prog 6 #[.slice p L.length c, .slice q L.length d] w fun e w' => e = .returned (.bool true) ∧ Below w.heap.size w w' := by
  have HA : Hid (RowR w w.heap.size p L) := hR
  have HB : Hid (RowR w w.heap.size q L) := hQ
  have hq := run_eqR
  have hqg := run_eqG
  have hqs := eqR_self
  clear hR hQ
  go_enter Tryd.func6, Tryd.ntmps6
  go_wp2_with fail
  go_loopw [5] (fun i wr => ∃ j : Nat, j ≤ L.length ∧ i = .int .i64 (j : Int) ∧ Below w.heap.size w wr) (fun i _ => L.length - (intOf i).toNat)
  case atStart => exact ⟨0, Nat.zero_le _, by go_num, Below.refl _ _⟩
  case round =>
    obtain ⟨j, hj, rfl, hn⟩ := hrel
    by_cases hj0 : j = L.length
    · subst hj0
      go_wp2
      go_ret
      exact ⟨rfl, hn⟩
    · have hj1 : j < L.length := by omega
      obtain ⟨b, o, rfl, hbB, d0, d1, d2⟩ := HA.out j hj1
      obtain ⟨b', o', rfl, hbB', d0', d1', d2'⟩ := HB.out j hj1
      have a0 := (hn.cell (p := ⟨b, o + j * 3, none⟩) hbB).trans d0
      have a1 := (hn.cell (p := ⟨b, o + j * 3 + 1, none⟩) hbB).trans d1
      have a2 := (hn.cell (p := ⟨b, o + j * 3 + 2, none⟩) hbB).trans d2
      have e0 := (hn.cell (p := ⟨b', o' + j * 3, none⟩) hbB').trans d0'
      have e1 := (hn.cell (p := ⟨b', o' + j * 3 + 1, none⟩) hbB').trans d1'
      have e2 := (hn.cell (p := ⟨b', o' + j * 3 + 2, none⟩) hbB').trans d2'
      clear d0 d1 d2 d0' d1' d2'
      generalize (L[j]).lo = lo at *
      generalize (L[j]).hi = hi at *
      generalize (L[j]).op = op at *
      go_wp2_with fail
      go_quiet (fail)
      go_wp2_with fail
      go_roundw
      case rel => exact ⟨j + 1, hj1, by go_num, hn.trans ((below_drewN _ _).mono hn.size)⟩
      case measure => simp [intOf]; omega

theorem keep_some (L : List Rg) (r : Rg) (h : r ∈ keepL L) : r.some := by
  unfold keepL at h
  have h1 := (List.mem_filter.1 h).2
  rw [some_iff]
  simpa [Rg.emp] using h1

set_option maxHeartbeats 4000000 in
theorem lawUnites (L : List Rg) (p : Option Addr) (c : Nat) (w : World) (hR : RowR w w.heap.size p L) (hok : (∀ u ∈ L, u.ok) ∧ (p = none → c = 0)) (hlen : L.length ≤ 3518437208784) (hc : L.length ≤ c) (hg : 2 < w.heap.size) (hT : Lib.Utf8Tabs 1 2 w) :
    Calls Tryd.prog 3 #[.slice p L.length c] w fun e w' => e = .returned (.bool true) ∧ Below w.heap.size w w' := by
  have C1 : Hid (Calls _ _ _ _ _) := union_any L p c w hR hlen hc hok.2
  have C2 : Hid (∀ w1 : World, Below w.heap.size w w1 → Calls _ _ _ _ _) := fun w1 hb => runion_any L p c w1 ((hR.keep hb).mono hb.size) hlen
  have C11 : Hid (∀ w1 : World, Below w.heap.size w w1 → Calls _ _ _ _ _) := fun w1 hb => awake_any w1 (by have := hb.size; omega) (tabs_keep hb hg hT)
  clear hR hok hT
  go_enter Tryd.func3, Tryd.ntmps3
  go_wp2_with fail
  refine C1.out.mono ?_
  rintro e w1 ⟨v, R, rfl, hO1, hr1, hm1, hl1, hb1⟩
  have C2' := C2.out w1 hb1
  have HO : Hid (OwnR w1 _ v _) := hO1
  have HE : Hid (Rising R ∧ (∀ r, r ∈ R ↔ r ∈ keepL L)) := ⟨hr1, hm1⟩
  have C2'' : Hid (Calls _ _ _ _ _) := C2'
  have HB : Hid (Below _ _ _) := hb1
  have hz := hb1.size
  clear C1 C2 C2' hO1 hr1 hm1 hb1
  go_wp2_with fail
  refine C2''.out.mono ?_
  rintro e w2 ⟨v2, T, rfl, hO2, hr2, hm2, hl2, hb2⟩
  have hU : T.foldl stepU [] = R.foldl stepU [] := union_same hr2 HE.out.1 (fun r hr => keep_some L r ((hm2 r).1 hr)) (fun r => (hm2 r).trans (HE.out.2 r).symm)
  rw [hU] at hO2
  have hul := foldU_len R []
  obtain ⟨p1, c1, rfl, hA⟩ := (HO.out.kept hb2).row
  obtain ⟨p2, c2, rfl, hB⟩ := hO2.row
  have C3 : Hid (Calls _ _ _ _ _) := rsameR_any (R.foldl stepU []) p1 p2 c1 c2 w2 hA hB (by simp at hul; omega)
  have HB2 : Hid (Below _ _ _) := HB.out.trans (hb2.mono hz)
  clear hA hB hr2 hm2 hb2 hO2 hU C2'' HO HE
  generalize R.foldl stepU [] = U at *
  go_wp2_with fail
  refine C3.out.mono ?_
  rintro e w3 ⟨rfl, hb3⟩
  have HB3 : Hid (Below _ _ _) := HB2.out.trans (hb3.mono HB2.out.size)
  clear C3 hb3
  go_wp2_with fail
  refine (C11.out _ HB3.out).mono ?_
  rintro e w4 ⟨rfl, hb4⟩
  go_wp2
  go_ret
  exact ⟨rfl, HB3.out.trans (hb4.mono HB3.out.size)⟩
end Go.Proofs.YtjigmijennbolaaDoor
