/- The document's side of clocks: New, Frontier, Take, Done, Same. -/
import Derived.Test.YtckjgnjakkeodaaWClk3
namespace Go.Proofs.Ytckjgnjakkeodaa
open Go.RowKit
set_option maxRecDepth 100000

/-- A SLICE OF STAMPS: nil, or in a block from lo on. -/
def SlU (w : World) (lo : Nat) (v : Value) (O : List Nat) : Prop := (v = .slice none 0 0 ∧ O = []) ∨ ∃ g c, v = .slice (some ⟨g, 0, none⟩) O.length c ∧ lo ≤ g ∧ g < w.heap.size ∧ ∀ i (hi : i < O.length), w.cell? ⟨g, i, none⟩ = some (.int .u64 (O[i] : Nat))
theorem SlU.rd {w : World} {lo : Nat} {v : Value} {O : List Nat} (h : SlU w lo v O) : ∃ p c, v = .slice p O.length c ∧ RdU w lo p O := by
  rcases h with ⟨rfl, rfl⟩ | ⟨g, c, rfl, h1, h2, h3⟩
  · exact ⟨none, 0, rfl, fun i hi => absurd hi (Nat.not_lt_zero _)⟩
  · exact ⟨_, c, rfl, fun i hi => ⟨g, 0, rfl, h1, h2, by rw [Nat.zero_add]; exact h3 i hi⟩⟩
theorem SlU.keep {w w' : World} {lo B : Nat} {v : Value} {O : List Nat} (h : SlU w lo v O) (hb : Below B w w') (hB : w.heap.size ≤ B) : SlU w' lo v O := by
  rcases h with h | ⟨g, c, rfl, h1, h2, h3⟩
  · exact .inl h
  · exact .inr ⟨g, c, rfl, h1, Nat.lt_of_lt_of_le h2 hb.size, fun i hi => (hb.cell (p := ⟨g, i, none⟩) (Nat.lt_of_lt_of_le h2 hB)).trans (h3 i hi)⟩
theorem SlU.grown {w w' : World} {lo b : Nat} {v : Value} {O : List Nat} (h : SlU w lo v O) (hg : w.grownBy w' (some b)) (hb : b < lo) : SlU w' lo v O := by
  rcases h with h | ⟨g, c, rfl, h1, h2, h3⟩
  · exact .inl h
  · exact .inr ⟨g, c, rfl, h1, Nat.lt_of_lt_of_le h2 hg.size, fun i hi => hg.cell (h3 i hi) (by simp; omega)⟩
theorem SlU.weaken {w : World} {lo lo' : Nat} {v : Value} {O : List Nat} (h : SlU w lo v O) (hl : lo' ≤ lo) : SlU w lo' v O := by
  rcases h with h | ⟨g, c, rfl, h1, h2, h3⟩
  · exact .inl h
  · exact .inr ⟨g, c, rfl, Nat.le_trans hl h1, h2, h3⟩
theorem sl_of_owns {w : World} {B T : Nat} {v : Value} {O : List Nat} (h : w.ownsRow B T 1 v O.length (cellsU O)) : SlU w B v O := by
  rcases h.2 with ⟨h1, h2⟩ | ⟨g, cap, cur, hv, hg, hgg, _⟩
  · exact .inl ⟨h1, List.eq_nil_of_length_eq_zero h2⟩
  · subst hv
    refine .inr ⟨g, cap, rfl, hg, (Array.getElem?_eq_some_iff.1 hgg).1, fun i hi => ?_⟩
    have := World.ownsRow.cellAt h i (by simp; exact hi)
    rw [this]
    unfold cellsU
    rw [List.getElem?_map, List.getElem?_eq_getElem hi]
    rfl

/-- THE DOCUMENT's CLOCK, as a value. -/
def clkV (be la : Nat) (v : Value) : Value := .agg #[.int .u64 be, .int .u64 la, v]

theorem rnew_ok (n : Nat) (w : World) (h : n ≤ 4611686018427387904) :
    Calls Try.prog 9 #[.int .u64 n] w fun e w' => e = .returned (.tuple #[clkV n n (.slice none 0 0), .int .i64 0]) ∧ Below w.heap.size w w' := by
  have a1 : ¬ (4611686018427387904 < (n : Int)) := by omega
  go_enter Try.func9, Try.ntmps9
  go_wp2_with fail
  refine bodyPost_ret (v := .tuple #[clkV n n (.slice none 0 0), .int .i64 0]) (by simp [results, Try.results9, go_sem, clkV]) rfl ?_
  exact ⟨rfl, by go_grown⟩

theorem rnew_bad (n : Nat) (w : World) (h : 4611686018427387904 < n) :
    Calls Try.prog 9 #[.int .u64 n] w fun e w' => e = .returned (.tuple #[clkV 0 0 (.slice none 0 0), .int .i64 1]) ∧ Below w.heap.size w w' := by
  have a1 : 4611686018427387904 < (n : Int) := by omega
  go_enter Try.func9, Try.ntmps9
  go_wp2_with fail
  refine bodyPost_ret (v := .tuple #[clkV 0 0 (.slice none 0 0), .int .i64 1]) (by simp [results, Try.results9, go_sem, clkV]) rfl ?_
  exact ⟨rfl, by go_grown⟩

set_option maxHeartbeats 1000000 in
theorem rfront_any (be la : Nat) (O : List Nat) (v : Value) (w : World) (hR : SlU w 0 v O) (hp : ∀ s ∈ O, 0 < s) (hb : ∀ s ∈ O, s ≤ la) (hla : la ≤ 4611686018427387904) (hlen : O.length ≤ 4096) :
    Calls Try.prog 21 #[clkV be la v] w fun e w' => e = .returned (.int .u64 (frO la O)) ∧ Below w.heap.size w w' := by
  unfold clkV
  rcases hR with ⟨rfl, rfl⟩ | ⟨g, c, rfl, h1, h2, h3⟩
  · go_enter Try.func21, Try.ntmps21
    go_wp2
    go_ret
    exact ⟨rfl, by go_grown⟩
  · cases O with
    | nil =>
      go_enter Try.func21, Try.ntmps21
      go_wp2
      go_ret
      exact ⟨rfl, by go_grown⟩
    | cons x t =>
      have d0 := h3 0 (by simp)
      have hx := hp x (by simp)
      have hx2 := hb x (by simp)
      have hl : ¬ (((x :: t).length : Int) = 0) := by simp; omega
      have hl2 : 0 < (x :: t).length := by simp
      have e : ((x - 1 : Nat) : Int) = (x : Int) - 1 := by omega
      have E : Hid _ := e
      simp only [List.getElem_cons_zero] at d0
      have d1 : (w.alloc (.cells #[.int .u64 be, .int .u64 la, .slice (some ⟨g, 0, none⟩) (x :: t).length c] 29)).cell? ⟨g, 0, none⟩ = some (.int .u64 (x : Nat)) := (World.cell?_of_block (a := ⟨g, 0, none⟩) (Below.heap_alloc w _ g h2)).trans d0
      simp only [frO]
      rw [e]
      clear h3 hp hb e
      generalize (x :: t).length = n at *
      go_enter Try.func21, Try.ntmps21
      go_wp2
      go_ret
      exact ⟨rfl, by go_grown⟩

set_option maxHeartbeats 4000000 in
theorem rsame_any (O : List Nat) (p q : Option Addr) (c d : Nat) (w : World) (hR : RdU w 0 p O) (hQ : RdU w 0 q O) (hlen : O.length ≤ 4096) :
    Calls Try.prog 23 #[.slice p O.length c, .slice q O.length d] w fun e w' => e = .returned (.bool true) ∧ Below w.heap.size w w' := by
  have HA : Hid (RdU _ _ p _) := hR
  have HB : Hid (RdU _ _ q _) := hQ
  clear hR hQ
  go_enter Try.func23, Try.ntmps23
  go_wp2_with fail
  go_loopw [5] (fun i wr => ∃ j : Nat, j ≤ O.length ∧ i = .int .i64 (j : Int) ∧ Below w.heap.size w wr) (fun i _ => O.length - (intOf i).toNat)
  case atStart => exact ⟨0, Nat.zero_le _, by go_num, Below.refl _ _⟩
  case round =>
    obtain ⟨j, hj, rfl, hn⟩ := hrel
    by_cases hj0 : j = O.length
    · subst hj0
      go_wp2
      go_ret
      exact ⟨rfl, hn⟩
    · have hj1 : j < O.length := by omega
      obtain ⟨b, o, rfl, _, hbB, d0⟩ := HA.out j hj1
      obtain ⟨b', o', rfl, _, hbB', d0'⟩ := HB.out j hj1
      have a0 := (hn.cell (p := ⟨b, o + j, none⟩) hbB).trans d0
      have e0 := (hn.cell (p := ⟨b', o' + j, none⟩) hbB').trans d0'
      clear d0 d0'
      generalize O[j] = x at *
      go_wp2_with fail
      go_quiet (fail)
      go_wp2_with fail
      go_roundw
      case rel => exact ⟨j + 1, hj1, by go_num, below_drewN hn _⟩
      case measure => simp [intOf]; omega
end Go.Proofs.Ytckjgnjakkeodaa
