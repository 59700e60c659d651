/- The document's side of places: Load, Push, copied, Keep, Same. -/
import Derived.Test.YtofndmiebnhkaaaWCel2
namespace Go.Proofs.Ytofndmiebnhkaaa
open Go.RowKit
set_option maxRecDepth 100000

/-- A SLICE OF NUMBERS: nil, or in a block from lo on. -/
def SlI (w : World) (lo : Nat) (v : Value) (O : List Int) : Prop := (v = .slice none 0 0 ∧ O = []) ∨ ∃ g c, v = .slice (some ⟨g, 0, none⟩) O.length c ∧ lo ≤ g ∧ g < w.heap.size ∧ ∀ i (hi : i < O.length), w.cell? ⟨g, i, none⟩ = some (.int .i64 O[i])
/-- numbers that are read -/
def RdI (w : World) (lo : Nat) (p : Option Addr) (O : List Int) : Prop := ∀ i (hi : i < O.length), ∃ g, p = some ⟨g, 0, none⟩ ∧ lo ≤ g ∧ g < w.heap.size ∧ w.cell? ⟨g, i, none⟩ = some (.int .i64 O[i])
theorem SlI.rd {w : World} {lo : Nat} {v : Value} {O : List Int} (h : SlI w lo v O) : ∃ p c, v = .slice p O.length c ∧ RdI w lo p O := by
  rcases h with ⟨rfl, rfl⟩ | ⟨g, c, rfl, h1, h2, h3⟩
  · exact ⟨none, 0, rfl, fun i hi => absurd hi (Nat.not_lt_zero _)⟩
  · exact ⟨_, c, rfl, fun i hi => ⟨g, rfl, h1, h2, h3 i hi⟩⟩
theorem SlI.far {w w' : World} {lo : Nat} {v : Value} {O : List Int} (h : SlI w lo v O) (hs : w.heap.size ≤ w'.heap.size) (hb : ∀ g, lo ≤ g → g < w.heap.size → w'.heap[g]? = w.heap[g]?) : SlI w' lo v O := by
  rcases h with h | ⟨g, c, rfl, h1, h2, h3⟩
  · exact .inl h
  · exact .inr ⟨g, c, rfl, h1, Nat.lt_of_lt_of_le h2 hs, fun i hi => (World.cell?_of_block (a := ⟨g, i, none⟩) (hb g h1 h2)).trans (h3 i hi)⟩
theorem SlI.keep {w w' : World} {lo B : Nat} {v : Value} {O : List Int} (h : SlI w lo v O) (hb : Below B w w') (hB : w.heap.size ≤ B) : SlI w' lo v O := h.far hb.size fun g _ hg => hb.block g (Nat.lt_of_lt_of_le hg hB)
theorem SlI.grown {w w' : World} {lo b : Nat} {v : Value} {O : List Int} (h : SlI w lo v O) (hg : w.grownBy w' (some b)) (hb : b < lo) : SlI w' lo v O := h.far hg.size fun g hl hs => hg.block g hs (by simp; omega)
theorem SlI.weaken {w : World} {lo lo' : Nat} {v : Value} {O : List Int} (h : SlI w lo v O) (hl : lo' ≤ lo) : SlI w lo' v O := by
  rcases h with h | ⟨g, c, rfl, h1, h2, h3⟩
  · exact .inl h
  · exact .inr ⟨g, c, rfl, Nat.le_trans hl h1, h2, h3⟩
theorem sl_of_owns {w : World} {B T : Nat} {v : Value} {O : List Int} (h : w.ownsRow B T 1 v O.length (cellsX O)) : SlI w B v O := by
  rcases h.2 with ⟨h1, h2⟩ | ⟨g, cap, cur, hv, hg, hgg, _⟩
  · exact .inl ⟨h1, List.eq_nil_of_length_eq_zero h2⟩
  · subst hv
    refine .inr ⟨g, cap, rfl, hg, (Array.getElem?_eq_some_iff.1 hgg).1, fun i hi => ?_⟩
    have := World.ownsRow.cellAt h i (by simp; exact hi)
    rw [this]
    unfold cellsX
    rw [List.getElem?_map, List.getElem?_eq_getElem hi]
    rfl

/-- THE DOCUMENT's PLACE, as a value. -/
def celV (v : Value) (n : Nat) : Value := .agg #[v, .int .u64 (n : Nat)]
/-- the two boxes: the place that was handed in, and the result's -/
structure Two (w : World) (g : Nat) (v : Value) (n : Nat) : Prop where
  sz : g + 1 < w.heap.size
  b1 : w.heap[g]? = some (.cells #[v, .int .u64 (n : Nat)] 28 (0, 0))
  b2 : w.heap[g + 1]? = some (.cells #[.slice none 0 0, .int .u64 0] 28 (0, 0))
theorem Two.below {w w' : World} {g B : Nat} {v : Value} {n : Nat} (h : Two w g v n) (hb : Below B w w') (hB : g + 1 < B) : Two w' g v n := ⟨Nat.lt_of_lt_of_le h.sz hb.size, (hb.block _ (by omega)).trans h.b1, (hb.block _ hB).trans h.b2⟩
theorem Two.facts {w : World} {g : Nat} {v : Value} {n : Nat} (h : Two w g v n) :
    w.cell? ⟨g, 0, none⟩ = some v ∧ w.cell? ⟨g, 1, none⟩ = some (.int .u64 (n : Nat)) ∧ w.cell? ⟨g + 1, 0, none⟩ = some (.slice none 0 0) ∧ w.cell? ⟨g + 1, 1, none⟩ = some (.int .u64 0) ∧ w.frozen? ⟨g + 1, 0, none⟩ = false ∧ w.frozen? ⟨g + 1, 1, none⟩ = false := by
  refine ⟨?_, ?_, ?_, ?_, ?_, ?_⟩ <;> simp [World.cell?, World.frozen?, h.b1, h.b2]
theorem Two.start (w : World) (v : Value) (n : Nat) : Two ((w.alloc (.cells #[v, .int .u64 (n : Nat)] 28)).alloc (.cells #[.slice none 0 0, .int .u64 0] 28)) w.heap.size v n := by
  have hs : (w.alloc (.cells #[v, .int .u64 (n : Nat)] 28)).heap.size = w.heap.size + 1 := by simp
  refine ⟨by simp, ?_, ?_⟩
  · rw [Below.heap_alloc _ _ _ (by omega)]
    exact heap_alloc_new _ _
  · have := heap_alloc_new (w.alloc (.cells #[v, .int .u64 (n : Nat)] 28)) (.cells #[.slice none 0 0, .int .u64 0] 28)
    rw [hs] at this
    exact this

set_option maxHeartbeats 1000000 in
theorem rload_any (O : List Int) (v : Value) (n : Nat) (w : World) (hR : SlI w 0 v O) (hn : O = [] → n = 0) (hlen : O.length ≤ 17592186044416) :
    Calls Try.prog 21 #[celV v n] w fun e w' => e = .returned (.tuple #[.int .i64 (O.headD 0), .int .u64 (n : Nat)]) ∧ Below w.heap.size w w' := by
  unfold celV
  rcases hR with ⟨rfl, rfl⟩ | ⟨g, c, rfl, h1, h2, h3⟩
  · obtain rfl := hn rfl
    go_enter Try.func21, Try.ntmps21
    go_wp2
    go_ret2
    exact ⟨rfl, by go_grown⟩
  · cases O with
    | nil =>
      obtain rfl := hn rfl
      go_enter Try.func21, Try.ntmps21
      go_wp2
      go_ret2
      exact ⟨rfl, by go_grown⟩
    | cons x t =>
      have d0 := h3 0 (by simp)
      have hl : ¬ (((x :: t).length : Int) = 0) := by simp; omega
      have hl2 : 0 < (x :: t).length := by simp
      simp only [List.getElem_cons_zero] at d0
      have d1 : (w.alloc (.cells #[.slice (some ⟨g, 0, none⟩) (x :: t).length c, .int .u64 (n : Nat)] 28)).cell? ⟨g, 0, none⟩ = some (.int .i64 x) := (World.cell?_of_block (a := ⟨g, 0, none⟩) (Below.heap_alloc w _ g h2)).trans d0
      clear h3 hn
      generalize (x :: t).length = k at *
      go_enter Try.func21, Try.ntmps21
      go_wp2_with fail
      go_quiet (fail)
      go_wp2_with fail
      go_ret2
      exact ⟨rfl, below_drewN (by go_grown) _⟩

set_option maxHeartbeats 4000000 in
theorem rsame_any (O : List Int) (p q : Option Addr) (c d : Nat) (w : World) (hR : RdI w 0 p O) (hQ : RdI w 0 q O) (hlen : O.length ≤ 17592186044416) :
    Calls Try.prog 12 #[.slice p O.length c, .slice q O.length d] w fun e w' => e = .returned (.bool true) ∧ Below w.heap.size w w' := by
  have HA : Hid (RdI _ _ p _) := hR
  have HB : Hid (RdI _ _ q _) := hQ
  clear hR hQ
  go_enter Try.func12, Try.ntmps12
  go_wp2_with fail
  go_loopw [5] (fun i wr => ∃ j : Nat, j ≤ O.length ∧ i = .int .i64 (j : Int) ∧ Below w.heap.size w wr) (fun i _ => O.length - (intOf i).toNat)
  case atStart => exact ⟨0, Nat.zero_le _, by go_num, Below.refl _ _⟩
  case round =>
    obtain ⟨j, hj, rfl, hn⟩ := hrel
    by_cases hj0 : j = O.length
    · subst hj0
      go_wp2
      go_ret
      exact ⟨rfl, hn⟩
    · have hj1 : j < O.length := by omega
      obtain ⟨b, rfl, _, hbB, d0⟩ := HA.out j hj1
      obtain ⟨b', rfl, _, hbB', d0'⟩ := HB.out j hj1
      have a0 := (hn.cell (p := ⟨b, j, none⟩) hbB).trans d0
      have e0 := (hn.cell (p := ⟨b', j, none⟩) hbB').trans d0'
      clear d0 d0'
      generalize O[j] = x at *
      go_wp2_with fail
      go_quiet (fail)
      go_wp2_with fail
      go_roundw
      case rel => exact ⟨j + 1, hj1, by go_num, below_drewN hn _⟩
      case measure => simp [intOf]; omega

theorem rpush_miss (v : Value) (n m : Nat) (x : Int) (p : Option Addr) (l c : Nat) (w : World) (hv : v = .slice p l c) (hn : m ≠ n) :
    Calls Try.prog 24 #[celV v n, .int .u64 (m : Nat), .int .i64 x] w fun e w' => e = .returned (.tuple #[celV v n, .bool false]) ∧ Below w.heap.size w w' := by
  have a1 : ¬ ((m : Int) = (n : Int)) := by omega
  subst hv
  unfold celV
  go_enter Try.func24, Try.ntmps24
  go_wp2_with fail
  refine bodyPost_ret (v := .tuple #[celV (.slice p l c) n, .bool false]) (by simp [results, Try.results24, go_sem, celV]) rfl ?_
  exact ⟨rfl, by go_grown⟩
theorem rkeep_miss (v : Value) (n m : Nat) (x : Int) (p : Option Addr) (l c : Nat) (w : World) (hv : v = .slice p l c) (hn : m ≠ n) :
    Calls Try.prog 22 #[celV v n, .int .u64 (m : Nat), .int .i64 x] w fun e w' => e = .returned (.tuple #[celV v n, .bool false]) ∧ Below w.heap.size w w' := by
  have a1 : ¬ ((m : Int) = (n : Int)) := by omega
  subst hv
  unfold celV
  go_enter Try.func22, Try.ntmps22
  go_wp2_with fail
  refine bodyPost_ret (v := .tuple #[celV (.slice p l c) n, .bool false]) (by simp [results, Try.results22, go_sem, celV]) rfl ?_
  exact ⟨rfl, by go_grown⟩

set_option maxHeartbeats 4000000 in
theorem rcopied_any (O : List Int) (p : Option Addr) (c : Nat) (w : World) (hR : RdI w 0 p O) (hlen : O.length ≤ 17592186044416) :
    Calls Try.prog 42 #[.slice p O.length c] w fun e w' => (∃ v, e = .returned v ∧ w'.ownsRow w.heap.size 2 1 v O.length (cellsX O)) ∧ Below w.heap.size w w' := by
  have HR : Hid (RdI _ _ _ _) := hR
  clear hR
  go_enter Try.func42, Try.ntmps42
  go_wp2_with fail
  go_loopw [3, 4] (fun u i wr => ∃ j : Nat, j ≤ O.length ∧ i = .int .i64 (j : Int) ∧ Hid (wr.ownsRow w.heap.size 2 1 u j (cellsX (O.take j))) ∧ Hid (Below w.heap.size w wr)) (fun _ i _ => O.length - (intOf i).toNat)
  case atStart => exact ⟨0, Nat.zero_le _, by go_num, World.ownsRow_lit w #[] 0 (Nat.le_refl _) (by decide) rfl, (show Below w.heap.size w _ by go_grown)⟩
  case round =>
    obtain ⟨j, hj, rfl, hO, hB⟩ := hrel
    by_cases hj0 : j = O.length
    · subst hj0
      rw [List.take_length] at hO
      go_wp2
      go_ret
      exact ⟨⟨_, rfl, hO.out⟩, hB.out⟩
    · have hj1 : j < O.length := by omega
      obtain ⟨g, rfl, _, hgl, d0⟩ := HR.out j hj1
      have e0 := (hB.out.cell (p := ⟨g, j, none⟩) hgl).trans d0
      clear d0
      have hwb := hB.out.size
      have HF : Hid (O.take (j + 1) = O.take j ++ [O[j]]) := by show _ = _; rw [List.take_append_getElem hj1]
      generalize O[j] = x at *
      go_wp2_with (first | (at_builtin; go_loud (refine wpList_app1 _ rfl (.tmp 12) _ 2 25 _ 1 8 rfl Try.underlying25 info_int64 rfl (by decide) w.heap.size u3 _ _ (by rfl) hO.out [.int .i64 x] rfl (by intro u hu; have e : u = .int .i64 x := (by simpa using hu); subst e; rfl) _ rfl (by simp) (by omega) (by omega) hwb ?_); intro v6 w6 h6 h7 h8))
      have H6 : Hid _ := h6
      go_roundw
      case rel => exact ⟨j + 1, hj1, by go_num, (show World.ownsRow _ _ _ _ _ _ _ by rw [HF.out]; unfold cellsX; rw [List.map_append]; exact H6.out), hB.out.trans h7⟩
      case measure => simp [intOf]; omega
end Go.Proofs.Ytofndmiebnhkaaa
