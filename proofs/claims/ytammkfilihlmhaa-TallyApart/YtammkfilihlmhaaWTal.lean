/- Counters in memory; the atomics; the walks of New, shard, Add. -/
import Derived.Test.YtammkfilihlmhaaProg
import Derived.WalkKit
import Derived.WalkLawsBesides
import Derived.Deep.QuietTactic
import Derived.BigQuiet
import Derived.Handy
import Derived.Laws.LoneSync
import Derived.OwnWalk
import Derived.Laws.OwnMore
import Derived.Laws.AppendOwnNone
namespace Go.Proofs.Ytammkfilihlmhaa
open Go.RowKit
set_option maxRecDepth 100000

/-- A ROW OF NUMBERS OF ONE's OWN: block g holds them from its beginning, and they may be written. -/
def RowN (w : World) (g : Nat) (k : IntKind) (L : List Int) : Prop := g < w.heap.size ∧ ∀ i (hi : i < L.length), w.cell? ⟨g, i, none⟩ = some (.int k L[i]) ∧ w.frozen? ⟨g, i, none⟩ = false
theorem RowN.grown {w w' : World} {g : Nat} {k : IntKind} {L : List Int} {r : Option Nat} (h : RowN w g k L) (hg : w.grownBy w' r) (hne : some g ≠ r) : RowN w' g k L := by
  refine ⟨Nat.lt_of_lt_of_le h.1 hg.size, fun i hi => ?_⟩
  obtain ⟨h1, h2⟩ := h.2 i hi
  have hb : w'.heap[g]? = w.heap[g]? := hg.block g h.1 hne
  exact ⟨(World.cell?_of_block (a := ⟨g, i, none⟩) hb).trans h1, (World.frozen?_of_block (a := ⟨g, i, none⟩) hb).trans h2⟩
theorem RowN.keep {w w' : World} {g B : Nat} {k : IntKind} {L : List Int} (h : RowN w g k L) (hb : Below B w w') (hB : g < B) : RowN w' g k L := by
  refine ⟨Nat.lt_of_lt_of_le h.1 hb.size, fun i hi => ?_⟩
  obtain ⟨h1, h2⟩ := h.2 i hi
  have hb : w'.heap[g]? = w.heap[g]? := hb.block g hB
  exact ⟨(World.cell?_of_block (a := ⟨g, i, none⟩) hb).trans h1, (World.frozen?_of_block (a := ⟨g, i, none⟩) hb).trans h2⟩
theorem RowN.of_owns {w : World} {B e g n cap : Nat} {k : IntKind} {L : List Int} (h : w.ownsRow B e 1 (.slice (some ⟨g, 0, none⟩) n cap) n (L.map (.int k))) : RowN w g k L := by
  have hl := h.1
  have hlt := World.ownsRow.lt h g rfl
  refine ⟨hlt.2, fun i hi => ⟨?_, World.ownsRow.frozenAt h i⟩⟩
  have := World.ownsRow.cellAt h i (by simp at hl ⊢; omega)
  rw [this, List.getElem?_map, List.getElem?_eq_getElem hi]
  rfl
theorem frozen_set (w : World) (a b : Addr) (u : Value) : (w.setCell a u).frozen? b = w.frozen? b := by
  simp
theorem RowN.set {w : World} {g : Nat} {k : IntKind} {L : List Int} (h : RowN w g k L) (i : Nat) (x : Int) : RowN (w.setCell ⟨g, i, none⟩ (.int k x)) g k (L.set i x) := by
  refine ⟨by simpa [World.setCell] using h.1, fun j hj => ?_⟩
  have hj' : j < L.length := by simpa using hj
  obtain ⟨h1, h2⟩ := h.2 j hj'
  refine ⟨?_, (frozen_set w _ _ _).trans h2⟩
  rw [List.getElem_set]
  by_cases e : i = j
  · subst e
    simp only [if_true]
    exact World.cell?_setCell_same w _ _ h1
  · rw [if_neg e, World.cell?_setCell_other w _ _ _ (by simp)]
    exact h1
theorem grownBy_set (w : World) (g i : Nat) (u : Value) : w.grownBy (w.setCell ⟨g, i, none⟩ u) (some g) :=
  ⟨rfl, rfl, rfl, by simp [World.setCell], fun k _ hk => Below.heap_setCell _ _ _ _ (by simpa using hk)⟩

/-- A COUNTER: the block b of its struct, the block g of its shards. -/
structure Cnt (w : World) (b g : Nat) (L : List Int) : Prop where
  head : w.cell? ⟨b, 0, none⟩ = some (.slice (some ⟨g, 0, none⟩) L.length L.length)
  row : RowN w g .i64 L
  ne : b ≠ g
  lt : b < w.heap.size
  pos : 0 < L.length
  small : L.length ≤ 64
theorem Cnt.grown {w w' : World} {b g : Nat} {L : List Int} {r : Option Nat} (h : Cnt w b g L) (hg : w.grownBy w' r) (h1 : some g ≠ r) (h2 : some b ≠ r) : Cnt w' b g L :=
  ⟨hg.cell h.head h2, h.row.grown hg h1, h.ne, Nat.lt_of_lt_of_le h.lt hg.size, h.pos, h.small⟩
theorem Cnt.keep {w w' : World} {b g B : Nat} {L : List Int} (h : Cnt w b g L) (hb : Below B w w') (h1 : g < B) (h2 : b < B) : Cnt w' b g L :=
  ⟨(hb.cell (p := ⟨b, 0, none⟩) h2).trans h.head, h.row.keep hb h1, h.ne, Nat.lt_of_lt_of_le h.lt hb.size, h.pos, h.small⟩
theorem Cnt.set {w : World} {b g : Nat} {L : List Int} (h : Cnt w b g L) (i : Nat) (x : Int) : Cnt (w.setCell ⟨g, i, none⟩ (.int .i64 x)) b g (L.set i x) :=
  ⟨by rw [World.cell?_setCell_other w _ _ _ (by simp; intro e; exact absurd e.symm h.ne), List.length_set]; exact h.head, h.row.set i x, h.ne, by simpa [World.setCell] using h.lt, by simpa using h.pos, by simpa using h.small⟩

theorem load_any (g i : Nat) (x : Int) (w : World) (h0 : w.cell? ⟨g, i, none⟩ = some (.int .i64 x)) :
    Calls Try.prog 28 #[.pointer (some ⟨g, i, none⟩)] w fun e w' => e = .returned (.int .i64 x) ∧ w' = w := by
  have hl := run_call_load (P := Try.prog) Try.func43 (by kernel_rfl) (by kernel_rfl) (by kernel_rfl) .i64 (by kernel_rfl) h0
  go_enter Try.func28, Try.ntmps28
  go_wp2
  go_ret
  exact ⟨rfl, rfl⟩
theorem cas_any (g i : Nat) (x y : Int) (w : World) (h0 : w.cell? ⟨g, i, none⟩ = some (.int .i64 x)) (f0 : w.frozen? ⟨g, i, none⟩ = false) :
    Calls Try.prog 29 #[.pointer (some ⟨g, i, none⟩), .int .i64 x, .int .i64 y] w fun e w' => e = .returned (.bool true) ∧ w' = w.setCell ⟨g, i, none⟩ (.int .i64 y) := by
  have hl := run_call_cas_hit (P := Try.prog) Try.func44 (by kernel_rfl) (by kernel_rfl) (by kernel_rfl) .i64 (by kernel_rfl) (y := y) h0 f0
  go_enter Try.func29, Try.ntmps29
  go_wp2
  go_ret
  exact ⟨rfl, rfl⟩

theorem info_a64 : (Try.prog.info? 71).map (fun i => (i.zero, i.size, i.bytes)) = some (some (.agg #[.int .i64 0]), 1, 8) := by kernel_rfl

theorem tmod_facts (s : Int) (n : Nat) (hn : 0 < n) : -(n : Int) < s.tmod n ∧ s.tmod n < n ∧ (0 ≤ s.tmod n → s % (n : Int) = s.tmod n) ∧ (s.tmod n < 0 → s % (n : Int) = s.tmod n + n) := by
  have h0 : (0 : Int) < n := by omega
  have h1 := Int.tmod_lt_of_pos s h0
  have h2 := Int.lt_tmod_of_pos s h0
  have h3 : s % (n : Int) = s.tmod n % (n : Int) := by
    have e := Int.mul_tdiv_add_tmod s n
    conv => lhs; rw [← e]
    rw [Int.mul_add_emod_self_left]
  refine ⟨h2, h1, fun h => ?_, fun h => ?_⟩
  · rw [h3, Int.emod_eq_of_lt h h1]
  · rw [h3, ← Int.add_emod_right, Int.emod_eq_of_lt (by omega) (by omega)]

set_option maxHeartbeats 2000000 in
theorem shard_any (b g : Nat) (L : List Int) (s : Int) (w : World) (hC : Cnt w b g L) :
    Calls Try.prog 27 #[.pointer (some ⟨b, 0, none⟩), .int .i64 s] w fun e w' => e = .returned (.pointer (some ⟨g, (s % (L.length : Int)).toNat, none⟩)) ∧ w' = w := by
  obtain ⟨h1, _, _, _, hp, hsm⟩ := hC
  generalize L.length = n at *
  obtain ⟨t1, t2, t3, t4⟩ := tmod_facts s n hp
  have T3 : Hid _ := t3
  have T4 : Hid _ := t4
  have hz : ¬ ((n : Int) = 0) := by omega
  clear t3 t4
  by_cases h0 : s.tmod n < 0
  · have hw : wrap64 (s.tmod ↑n + ↑n) = s.tmod n + n := by unfold wrap64; omega
    have a1 : 0 ≤ s.tmod ↑n + ↑n := by omega
    have a2 : s.tmod ↑n + ↑n < ↑n := by omega
    go_enter Try.func27, Try.ntmps27
    go_wp2
    go_ret
    rw [T4.out h0]
    exact ⟨rfl, rfl⟩
  · have a1 : 0 ≤ s.tmod ↑n := by omega
    go_enter Try.func27, Try.ntmps27
    go_wp2
    go_ret
    rw [T3.out a1]
    exact ⟨rfl, rfl⟩

theorem shard_lt (s : Int) (L : List Int) (hp : 0 < L.length) : (s % (L.length : Int)).toNat < L.length := by
  have h1 := Int.emod_nonneg s (b := (L.length : Int)) (by omega)
  have h2 := Int.emod_lt_of_pos s (b := (L.length : Int)) (by omega)
  omega

/-- what an addition leaves in the shards -/
def addS (L : List Int) (s n : Int) : List Int := L.set (s % (L.length : Int)).toNat (wrap64 (L.getD (s % (L.length : Int)).toNat 0 + n))
theorem addS_len (L : List Int) (s n : Int) : (addS L s n).length = L.length := by simp [addS]

set_option maxHeartbeats 2000000 in
theorem add_any (b g : Nat) (L : List Int) (s n : Int) (w : World) (hC : Cnt w b g L) :
    Calls Try.prog 10 #[.pointer (some ⟨b, 0, none⟩), .int .i64 s, .int .i64 n] w fun e w' => e = .returned (.tuple #[]) ∧ Cnt w' b g (addS L s n) ∧ w.grownBy w' (some g) := by
  have C1 := shard_any b g L s w hC
  have hlt := shard_lt s L hC.pos
  obtain ⟨hc, hf⟩ := hC.row.2 _ hlt
  have HP : Hid (Cnt _ _ _ _ ∧ _) := ⟨hC.set (s % (L.length : Int)).toNat (wrap64 (L.getD (s % (L.length : Int)).toNat 0 + n)), grownBy_set w g (s % (L.length : Int)).toNat (.int .i64 (wrap64 (L.getD (s % (L.length : Int)).toNat 0 + n)))⟩
  have HG : Hid (L.getD (s % (L.length : Int)).toNat 0 = L[(s % (L.length : Int)).toNat]) := by simp [hlt, Hid]
  rw [HG.out] at HP
  have e : addS L s n = L.set (s % (L.length : Int)).toNat (wrap64 (L[(s % (L.length : Int)).toNat] + n)) := by unfold addS; rw [HG.out]
  rw [e]
  clear hC e HG
  generalize L[(s % (L.length : Int)).toNat] = x at *
  generalize (s % (L.length : Int)).toNat = i at *
  have C2 : Hid (Calls _ _ _ _ _) := load_any g i x w hc
  have C3 : Hid (Calls _ _ _ _ _) := cas_any g i x (wrap64 (x + n)) w hc hf
  have C1' : Hid (Calls _ _ _ _ _) := C1
  clear C1 hc hf hlt
  go_enter Try.func10, Try.ntmps10
  go_wp2_with fail
  refine C1'.out.mono ?_
  rintro e w1 ⟨rfl, hw⟩
  rw [hw]
  clear hw
  go_wp2_with fail
  go_loopw [] (fun wr => wr = w) (fun _ => 0)
  case atStart => rfl
  case round =>
    rw [hrel]
    clear hrel
    go_wp2_with fail
    refine C2.out.mono ?_
    rintro e w2 ⟨rfl, hw⟩
    rw [hw]
    clear hw
    go_wp2_with fail
    refine C3.out.mono ?_
    rintro e w3 ⟨rfl, hw⟩
    rw [hw]
    clear hw
    go_wp2_with fail
    (try simp only [Exit.inBlock, Exit.then])
    refine bodyPost_ret (results_none rfl _ _ _) rfl ?_
    exact ⟨rfl, HP.out⟩
end Go.Proofs.Ytammkfilihlmhaa
