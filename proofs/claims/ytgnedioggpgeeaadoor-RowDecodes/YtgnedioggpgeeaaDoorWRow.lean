/- Rows of values that are copied, and rows of values held against each other. -/
import Derived.Test.YtgnedioggpgeeaaDoorWOwnV
namespace Go.Proofs.YtgnedioggpgeeaaDoor
open Go.RowKit
set_option maxRecDepth 100000

set_option maxHeartbeats 2000000 in
theorem sameRow2 (L : List Vl) (p q : Option Addr) (c d : Nat) (w : World) (hA : RowV w w.heap.size p L) (hB : RowV w w.heap.size q L) (hlen : L.length ≤ 3518437208784) :
    Calls Tryd.prog 12 #[.slice p L.length c, .slice q L.length d] w fun e w' => e = .returned (.bool true) ∧ Below w.heap.size w w' := by
  have HA : Hid (RowV _ _ _ _ ∧ RowV _ _ _ _) := ⟨hA, hB⟩
  clear hA hB
  go_enter Tryd.func12, Tryd.ntmps12
  go_wp2_with fail
  go_loopw [5] (fun i wr => ∃ j : Nat, j ≤ L.length ∧ i = .int .i64 (j : Int) ∧ Below w.heap.size w wr) (fun i _ => L.length - (intOf i).toNat)
  case atStart => exact ⟨0, Nat.zero_le _, by go_num, Below.refl _ _⟩
  case round =>
    obtain ⟨j, hj, rfl, hn⟩ := hrel
    by_cases hj0 : j = L.length
    · subst hj0
      go_wp2
      go_ret
      exact ⟨rfl, hn⟩
    · have hj1 : j < L.length := by omega
      obtain ⟨b, o, rfl, hbB, c0, c1, c2, c3⟩ := HA.out.1 j hj1
      obtain ⟨bm, om, rfl, hbm, d0, d1, d2, d3⟩ := HA.out.2 j hj1
      have a0 := (hn.cell (p := ⟨b, o + j * 4, none⟩) hbB).trans c0
      have a1 := (hn.cell (p := ⟨b, o + j * 4 + 1, none⟩) hbB).trans c1
      have a2 := (hn.cell (p := ⟨b, o + j * 4 + 2, none⟩) hbB).trans c2
      have a3 := (hn.cell (p := ⟨b, o + j * 4 + 3, none⟩) hbB).trans c3
      have q0 := (hn.cell (p := ⟨bm, om + j * 4, none⟩) hbm).trans d0
      have q1 := (hn.cell (p := ⟨bm, om + j * 4 + 1, none⟩) hbm).trans d1
      have q2 := (hn.cell (p := ⟨bm, om + j * 4 + 2, none⟩) hbm).trans d2
      have q3 := (hn.cell (p := ⟨bm, om + j * 4 + 3, none⟩) hbm).trans d3
      have CS : Hid (∀ w1 : World, Calls Tryd.prog 26 #[.agg #[.int .i64 (L[j]).k, .int .i64 (L[j]).n, .float .f64 (L[j]).f, .string (L[j]).s], .agg #[.int .i64 (L[j]).k, .int .i64 (L[j]).n, .float .f64 (L[j]).f, .string (L[j]).s]] w1 fun e w' => e = .returned (.bool true) ∧ Below w1.heap.size w1 w') := fun w1 => by
        have h := rsame_any (L[j]).k (L[j]).n (L[j]).k (L[j]).n (L[j]).f (L[j]).f (L[j]).s (L[j]).s w1
        have e : sameB (L[j]).k (L[j]).n (L[j]).k (L[j]).n (L[j]).f (L[j]).f (L[j]).s (L[j]).s = true := by simp [sameB]
        rw [e] at h
        exact h
      clear c0 c1 c2 c3 d0 d1 d2 d3 hj0
      generalize (L[j]).k = k at *
      generalize (L[j]).n = n at *
      generalize (L[j]).f = f at *
      generalize (L[j]).s = t at *
      go_wp2_with fail
      go_region_with (first | (go_at_call 26; refine (CS.out _).mono ?_; rintro e w5 ⟨rfl, hb5⟩))
      all_goals (try go_wp2)
      all_goals go_roundw
      all_goals first
        | (exact ⟨j + 1, by omega, by go_num, hn.drew.trans (hb5.mono (by simpa using hn.size))⟩)
        | (simp [intOf]; omega)



end Go.Proofs.YtgnedioggpgeeaaDoor
