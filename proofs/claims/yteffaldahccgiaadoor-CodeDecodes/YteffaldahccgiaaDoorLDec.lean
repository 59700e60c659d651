/- The walk of the statement on Decode: it answers true. -/
import Derived.Test.YteffaldahccgiaaDoorWRDec
import Derived.Test.YteffaldahccgiaaDoorWAwake
namespace Go.Proofs.YteffaldahccgiaaDoor
open Go.RowKit
set_option maxRecDepth 100000

set_option maxHeartbeats 2000000 in
theorem sameRow_self (L : List Vl) (p q : Option Addr) (c d : Nat) (w : World) (hA : RowV w w.heap.size p L) (hB : RowV w w.heap.size q L) (hlen : L.length ≤ 1024) :
    Calls Tryd.prog 14 #[.slice p L.length c, .slice q L.length d] w fun e w' => e = .returned (.bool true) ∧ Below w.heap.size w w' := by
  have HA : Hid (RowV _ _ _ _ ∧ RowV _ _ _ _) := ⟨hA, hB⟩
  clear hA hB
  go_enter Tryd.func14, Tryd.ntmps14
  go_wp2_with fail
  go_loopw [5] (fun i wr => ∃ j : Nat, j ≤ L.length ∧ i = .int .i64 (j : Int) ∧ Below w.heap.size w wr) (fun i _ => L.length - (intOf i).toNat)
  case atStart => exact ⟨0, Nat.zero_le _, by go_num, Below.refl _ _⟩
  case round =>
    obtain ⟨j, hj, rfl, hn⟩ := hrel
    by_cases hj0 : j = L.length
    · subst hj0
      go_wp2
      go_ret
      exact ⟨rfl, hn⟩
    · have hj1 : j < L.length := by omega
      obtain ⟨b, o, rfl, hbB, c0, c1, c2, c3⟩ := HA.out.1 j hj1
      obtain ⟨bm, om, rfl, hbm, d0, d1, d2, d3⟩ := HA.out.2 j hj1
      have a0 := (hn.cell (p := ⟨b, o + j * 4, none⟩) hbB).trans c0
      have a1 := (hn.cell (p := ⟨b, o + j * 4 + 1, none⟩) hbB).trans c1
      have a2 := (hn.cell (p := ⟨b, o + j * 4 + 2, none⟩) hbB).trans c2
      have a3 := (hn.cell (p := ⟨b, o + j * 4 + 3, none⟩) hbB).trans c3
      have q0 := (hn.cell (p := ⟨bm, om + j * 4, none⟩) hbm).trans d0
      have q1 := (hn.cell (p := ⟨bm, om + j * 4 + 1, none⟩) hbm).trans d1
      have q2 := (hn.cell (p := ⟨bm, om + j * 4 + 2, none⟩) hbm).trans d2
      have q3 := (hn.cell (p := ⟨bm, om + j * 4 + 3, none⟩) hbm).trans d3
      have CS : Hid (∀ w1 : World, Calls Tryd.prog 42 #[.agg #[.int .i64 (L[j]).k, .int .i64 (L[j]).n, .float .f64 (L[j]).f, .string (L[j]).s], .agg #[.int .i64 (L[j]).k, .int .i64 (L[j]).n, .float .f64 (L[j]).f, .string (L[j]).s]] w1 fun e w' => e = .returned (.bool true) ∧ Below w1.heap.size w1 w') := fun w1 => by
        have h := rsame_any (L[j]).k (L[j]).n (L[j]).k (L[j]).n (L[j]).f (L[j]).f (L[j]).s (L[j]).s w1
        have e : sameB (L[j]).k (L[j]).n (L[j]).k (L[j]).n (L[j]).f (L[j]).f (L[j]).s (L[j]).s = true := by simp [sameB]
        rw [e] at h
        exact h
      clear c0 c1 c2 c3 d0 d1 d2 d3 hj0
      generalize (L[j]).k = k at *
      generalize (L[j]).n = n at *
      generalize (L[j]).f = f at *
      generalize (L[j]).s = t at *
      go_wp2_with fail
      go_region_with (first | (go_at_call 42; refine (CS.out _).mono ?_; rintro e w5 ⟨rfl, hb5⟩))
      all_goals (try go_wp2)
      all_goals go_roundw
      all_goals first
        | (exact ⟨j + 1, by omega, by go_num, hn.drew.trans (hb5.mono (by simpa using hn.size))⟩)
        | (simp [intOf]; omega)

theorem decF_len : ∀ (k : Nat) (l : List UInt8) (M : List Vl), decF k l = some M → M.length ≤ l.length := by
  intro k l M h
  obtain ⟨-, f2, -⟩ := decF_back k l M h
  rw [← f2]
  clear h f2
  induction M with
  | nil => simp [encL]
  | cons v M ih => simp only [encL, List.length_cons, List.length_append, Vl.code]; omega
theorem decS_len (l : List UInt8) : (decS l).1.length ≤ 1024 := by
  unfold decS
  split
  · simp
  · rename_i h
    split
    · simp
    · rename_i M hM
      have := decF_len _ _ _ hM
      dsimp only
      omega

set_option maxHeartbeats 2000000 in
theorem lawDecodes (s : ByteArray) (w : World) (hs : s.size ≤ 140737488351232) (hg : 2 < w.heap.size) (hT : Lib.Utf8Tabs 1 2 w) :
    Calls Tryd.prog 4 #[.string s] w fun e w' => e = .returned (.bool true) ∧ Below w.heap.size w w' := by
  have C1 : Hid (∀ w1 : World, Below w.heap.size w w1 → Calls _ _ _ _ _) := fun w1 hb => decode_any s w1 (by omega) (by have := hb.size; omega) (tabs_keep hb hg hT)
  have C2 : Hid (∀ w1 : World, Below w.heap.size w w1 → Calls _ _ _ _ _) := fun w1 hb => rdecode_any s w1 (by omega) (by have := hb.size; omega) (tabs_keep hb hg hT)
  have C3 : Hid (∀ w1 : World, Below w.heap.size w w1 → Calls _ _ _ _ _) := fun w1 hb => awake_any w1 (by have := hb.size; omega) (tabs_keep hb hg hT)
  have hl := decS_len s.data.toList
  clear hT
  generalize (decS s.data.toList).1 = L at *
  generalize (decS s.data.toList).2 = er at *
  go_enter Tryd.func4, Tryd.ntmps4
  go_wp2_with fail
  refine (C1.out _ (Below.refl _ _)).mono ?_
  rintro e w1 ⟨v1, rfl, hO1, hb1⟩
  go_wp2_with fail
  refine (C2.out _ hb1).mono ?_
  rintro e w2 ⟨v2, rfl, hO2, hb2⟩
  have hc2 : Below w.heap.size w w2 := hb1.trans (hb2.mono hb1.size)
  obtain ⟨p1, c1, rfl, hR1⟩ := (hO1.kept hb2).row
  obtain ⟨p2, c2, rfl, hR2⟩ := hO2.row
  have C4 : Hid (∀ x, x = w2 → Calls _ _ _ _ _) := fun x hx => by subst hx; exact sameRow_self L p1 p2 c1 c2 x hR1 hR2 hl
  have HC : Hid (Below w.heap.size w w2) := hc2
  clear hO1 hO2 hR1 hR2 hb1 hb2 hc2
  generalize L.length = m at *
  go_wp2_with (first | (go_at_call 14; refine (C4.out _ rfl).mono ?_; rintro e w3 ⟨rfl, hb3⟩; have hc3 : Below w.heap.size w w3 := HC.out.trans (hb3.mono HC.out.size)) | (go_at_call 11; refine (C3.out _ hc3).mono ?_; rintro e w4 ⟨rfl, hb4⟩))
  go_ret
  exact ⟨rfl, hc3.trans (hb4.mono hc3.size)⟩
end Go.Proofs.YteffaldahccgiaaDoor
