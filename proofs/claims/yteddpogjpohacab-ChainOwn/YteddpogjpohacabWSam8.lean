/- Rows, versions, intents held against their like. -/
import Derived.Test.YteddpogjpohacabWChn
import Derived.Test.YteddpogjpohacabWQuiet
namespace Go.Proofs.Yteddpogjpohacab
open Go.RowKit
set_option maxRecDepth 100000

theorem sameL_refl (L : List Vl) : sameL L L = true := by
  induction L with
  | nil => rfl
  | cons a x ih =>
    show (sameV a a && sameL x x) = true
    rw [ih]
    simp [sameV, sameB]

set_option maxHeartbeats 400000 in
theorem sameRow8 (L M : List Vl) (p q : Option Addr) (c d : Nat) (w : World) (hA : RowV w w.heap.size p L) (hB : RowV w w.heap.size q M) (hlen : L.length ≤ 17592186043904) (hlen2 : M.length ≤ 17592186043904) :
    Calls Try.prog 15 #[.slice p L.length c, .slice q M.length d] w fun e w' => e = .returned (.bool (sameL L M)) ∧ Below w.heap.size w w' := by
  have C1 : Hid (Calls _ _ _ _ _) := rsameRow_any L M p q c d w hA hB hlen hlen2
  clear hA hB
  generalize sameL L M = s at *
  go_enter Try.func15, Try.ntmps15
  go_wp2_with fail
  refine C1.out.mono ?_
  rintro e w1 ⟨rfl, hb1⟩
  go_wp2
  go_ret
  exact ⟨rfl, hb1⟩
theorem sameRow_eq (L : List Vl) (p q : Option Addr) (c d : Nat) (w : World) (hA : RowV w w.heap.size p L) (hB : RowV w w.heap.size q L) (hlen : L.length ≤ 17592186043904) :
    Calls Try.prog 15 #[.slice p L.length c, .slice q L.length d] w fun e w' => e = .returned (.bool true) ∧ Below w.heap.size w w' := by
  have h := sameRow8 L L p q c d w hA hB hlen hlen
  rw [sameL_refl] at h
  exact h

/-- no row of the list is too long -/
def shortR (L : List Rw) : Prop := ∀ i (hi : i < L.length), L[i].row.length ≤ 3518437208780

set_option maxHeartbeats 2000000 in
theorem sameChain_eq (L : List Rw) (p q : Option Addr) (c d : Nat) (w : World) (hA : RdR .u64 w w.heap.size p L) (hB : RdR .u64 w w.heap.size q L) (hlen : L.length ≤ 17592186043904) (hsh : shortR L) :
    Calls Try.prog 22 #[.slice p L.length c, .slice q L.length d] w fun e w' => e = .returned (.bool true) ∧ Below w.heap.size w w' := by
  have HA : Hid (RdR .u64 w w.heap.size p L) := hA
  have HB : Hid (RdR .u64 w w.heap.size q L) := hB
  have HS : Hid (shortR L) := hsh
  clear hA hB hsh
  go_enter Try.func22, Try.ntmps22
  go_wp2_with fail
  go_loopw [5] (fun i wr => ∃ j : Nat, j ≤ L.length ∧ i = .int .i64 (j : Int) ∧ Below w.heap.size w wr) (fun i _ => L.length - (intOf i).toNat)
  case atStart => exact ⟨0, Nat.zero_le _, by go_num, Below.refl _ _⟩
  case round =>
    obtain ⟨j, hj, rfl, hn⟩ := hrel
    by_cases hj0 : j = L.length
    · subst hj0
      go_wp2
      go_ret
      exact ⟨rfl, hn⟩
    · have hj1 : j < L.length := by omega
      obtain ⟨b, o, q1, d1, rfl, hbB, c0, c1, c2, hr1, _⟩ := HA.out j hj1
      obtain ⟨b2, o2, q2, d2, rfl, hbB2, e0, e1, e2, hr2, _⟩ := HB.out j hj1
      have hbw : b < wr.heap.size := Nat.lt_of_lt_of_le hbB hn.size
      have hbw2 : b2 < wr.heap.size := Nat.lt_of_lt_of_le hbB2 hn.size
      have a0' := InB.cell (w := wr) ((hn.cell (p := ⟨b, o + j * 3, none⟩) hbB).trans c0) hbw
      have a1' := InB.cell (w := wr) ((hn.cell (p := ⟨b, o + j * 3 + 1, none⟩) hbB).trans c1) hbw
      have a2' := InB.cell (w := wr) ((hn.cell (p := ⟨b, o + j * 3 + 2, none⟩) hbB).trans c2) hbw
      have f0' := InB.cell (w := wr) ((hn.cell (p := ⟨b2, o2 + j * 3, none⟩) hbB2).trans e0) hbw2
      have f1' := InB.cell (w := wr) ((hn.cell (p := ⟨b2, o2 + j * 3 + 1, none⟩) hbB2).trans e1) hbw2
      have f2' := InB.cell (w := wr) ((hn.cell (p := ⟨b2, o2 + j * 3 + 2, none⟩) hbB2).trans e2) hbw2
      have CS : Hid (∀ x : InB wr, Calls Try.prog 15 #[.slice q1 L[j].row.length d1, .slice q2 L[j].row.length d2] x.w' fun e w' => e = .returned (.bool true) ∧ Below x.w'.heap.size x.w' w') := fun x =>
        sameRow_eq L[j].row q1 q2 d1 d2 x.w' (((hr1.keep hn).mono hn.size).on x.h) (((hr2.keep hn).mono hn.size).on x.h) (by have := HS.out j hj1; omega)
      clear c0 c1 c2 e0 e1 e2 hj0 hr1 hr2
      generalize L[j].n = xn at *
      generalize L[j].gn = xg at *
      generalize L[j].row.length = xl at *
      have ne5 := inB_ne wr
      go_wp2_with fail
      refine wp_region_inB (by kernel_rfl) (by kernel_rfl) ?_
      repeat (go_big_quiet_step ((go_at_call 15; exact Calls.inB (CS.out _))))
      refine wpQuiet_nil ?_
      rintro _ ⟨⟨w6, hb6⟩, rfl⟩
      go_wp2_with fail
      go_roundw
      case rel => exact ⟨j + 1, by omega, by go_num, hn.trans (hb6.mono hn.size)⟩
      case measure => simp [intOf]; omega
end Go.Proofs.Yteddpogjpohacab
