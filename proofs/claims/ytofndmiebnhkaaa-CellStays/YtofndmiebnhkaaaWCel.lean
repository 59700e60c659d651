/- A place in memory (of int64): its chain of values; New, Load, place, kept, with, Push, All. -/
import Derived.Test.YtofndmiebnhkaaaMCel
namespace Go.Proofs.Ytofndmiebnhkaaa
open Go.RowKit
set_option maxRecDepth 100000

/-- THE VALUES THAT ARE KEPT, newest first, with their numbers: items in blocks from lo on. -/
def Chn (w : World) (lo : Nat) : Option Addr → List (Int × Nat) → Prop
  | p, [] => p = none
  | p, x :: L => ∃ g q, p = some ⟨g, 0, none⟩ ∧ lo ≤ g ∧ w.heap[g]? = some (.cells #[(.int .i64 x.1), .int .u64 (x.2 : Nat), .int .i64 ((L.length + 1 : Nat) : Int), .pointer q] 71 (0, 0)) ∧ Chn w lo q L
theorem Chn.of_blocks {w w' : World} {lo : Nat} : ∀ {L : List (Int × Nat)} {p : Option Addr}, Chn w lo p L → (∀ g, lo ≤ g → g < w.heap.size → w'.heap[g]? = w.heap[g]?) → Chn w' lo p L
  | [], _, h, _ => h
  | _ :: _, _, ⟨g, q, h1, h2, h3, h4⟩, hb => ⟨g, q, h1, h2, (hb g h2 (Array.getElem?_eq_some_iff.1 h3).1).trans h3, h4.of_blocks hb⟩
theorem Chn.keep {w w' : World} {lo B : Nat} {L : List (Int × Nat)} {p : Option Addr} (h : Chn w lo p L) (hb : Below B w w') (hB : w.heap.size ≤ B) : Chn w' lo p L := h.of_blocks fun g _ hg => hb.block g (Nat.lt_of_lt_of_le hg hB)
theorem Chn.grown {w w' : World} {lo b : Nat} {L : List (Int × Nat)} {p : Option Addr} (h : Chn w lo p L) (hg : w.grownBy w' (some b)) (hb : b < lo) : Chn w' lo p L := h.of_blocks fun g hl hs => hg.block g hs (by simp; omega)
theorem Chn.weaken {w : World} {lo lo' : Nat} (hl : lo' ≤ lo) : ∀ {L : List (Int × Nat)} {p : Option Addr}, Chn w lo p L → Chn w lo' p L
  | [], _, h => h
  | _ :: _, _, ⟨g, q, h1, h2, h3, h4⟩ => ⟨g, q, h1, Nat.le_trans hl h2, h3, h4.weaken hl⟩
/-- the newest one's number -/
def numL : List (Int × Nat) → Nat
  | [] => 0
  | x :: _ => x.2

/-- the newest value, or the type's zero -/
def headL : List (Int × Nat) → Int
  | [] => 0
  | x :: _ => x.1

/-- A PLACE: block b. -/
structure Cel (w : World) (b lo : Nat) (p : Option Addr) (L : List (Int × Nat)) : Prop where
  blk : w.heap[b]? = some (.cells #[.pointer p] 61 (0, 0))
  lt : b < lo
  chn : Chn w lo p L
theorem Cel.size {w : World} {b lo : Nat} {p : Option Addr} {L : List (Int × Nat)} (h : Cel w b lo p L) : b < w.heap.size := (Array.getElem?_eq_some_iff.1 h.blk).1
theorem Cel.keep {w w' : World} {b lo B : Nat} {p : Option Addr} {L : List (Int × Nat)} (h : Cel w b lo p L) (hb : Below B w w') (hB : w.heap.size ≤ B) : Cel w' b lo p L :=
  ⟨(hb.block b (Nat.lt_of_lt_of_le h.size hB)).trans h.blk, h.lt, h.chn.keep hb hB⟩
theorem Cel.other {w w' : World} {b b' lo : Nat} {p : Option Addr} {L : List (Int × Nat)} (h : Cel w b lo p L) (hg : w.grownBy w' (some b')) (hne : b ≠ b') (hl : b' < lo) : Cel w' b lo p L :=
  ⟨(hg.block b h.size (by simpa using hne)).trans h.blk, h.lt, h.chn.grown hg hl⟩
theorem Cel.cell {w : World} {b lo : Nat} {p : Option Addr} {L : List (Int × Nat)} (h : Cel w b lo p L) : w.cell? ⟨b, 0, none⟩ = some (.pointer p) := by
  simp [World.cell?, h.blk]
theorem Cel.frozen {w : World} {b lo : Nat} {p : Option Addr} {L : List (Int × Nat)} (h : Cel w b lo p L) : w.frozen? ⟨b, 0, none⟩ = false := by
  simp [World.frozen?, h.blk]
theorem Cel.set {w : World} {b lo : Nat} {p q : Option Addr} {L M : List (Int × Nat)} (h : Cel w b lo p L) (hq : Chn w lo q M) : Cel (w.setCell ⟨b, 0, none⟩ (.pointer q)) b lo q M :=
  ⟨by rw [heap_set_same w b 0 _ _ _ _ h.blk]; rfl, h.lt, hq.grown (grownBy_set w b 0 (.pointer q)) h.lt⟩

theorem info_item : ∃ j, Try.prog.info? 71 = some j ∧ j.size ≠ 0 := by
  have h : ((Try.prog.info? 71).map (fun i => decide (i.size ≠ 0))) = some true := by kernel_rfl
  obtain ⟨j, hj, h2⟩ := Option.map_eq_some_iff.1 h
  exact ⟨j, hj, by simpa using h2⟩
theorem lies_item : liesAt Try.prog Try.prog.depth 71 (4 / Try.prog.cellsOf 71) 0 71 1 = true := by kernel_rfl
theorem Chn.from {w : World} {lo : Nat} {L : List (Int × Nat)} {p : Option Addr} (h : Chn w lo p L) : (convert 57 53 (.pointer p)).run Try.prog w = .ok (.pointer p) w := by
  cases L with
  | nil => cases h; exact from_raw_none Try.underlying57 Try.underlying53
  | cons x L =>
    obtain ⟨g, q, rfl, _, h3, _⟩ := h
    obtain ⟨j, hj, _⟩ := info_item
    exact from_raw ⟨g, 0, none⟩ Try.underlying57 Try.underlying53 hj (e := 71) (cells := 4) (by simp [World.shape?, h3]) lies_item
theorem Chn.to {w : World} {lo : Nat} {L : List (Int × Nat)} {p : Option Addr} (h : Chn w lo p L) : (convert 53 57 (.pointer p)).run Try.prog w = .ok (.pointer p) w := by
  cases L with
  | nil => cases h; exact to_raw_none Try.underlying53 Try.underlying57
  | cons x L =>
    obtain ⟨g, q, rfl, _, h3, _⟩ := h
    obtain ⟨j, hj, hs⟩ := info_item
    exact to_raw ⟨g, 0, none⟩ Try.underlying53 Try.underlying57 hj hs (e := 71) (cells := 4) (by simp [World.shape?, h3]) (show 0 < 4 by decide)

theorem pload_any (b lo : Nat) (p : Option Addr) (L : List (Int × Nat)) (w : World) (h : Cel w b lo p L) :
    Calls Try.prog 26 #[.pointer (some ⟨b, 0, none⟩)] w fun e w' => e = .returned (.pointer p) ∧ w' = w := by
  have hl := run_call_loadp (P := Try.prog) Try.func47 (by kernel_rfl) (by kernel_rfl) (by kernel_rfl) (by kernel_rfl) h.cell
  have hc := h.chn.from
  clear h
  go_enter Try.func26, Try.ntmps26
  go_wp2
  go_ret
  exact ⟨rfl, rfl⟩
theorem pcas_any (b lo : Nat) (p q : Option Addr) (L M : List (Int × Nat)) (w : World) (h : Cel w b lo p L) (hq : Chn w lo q M) :
    Calls Try.prog 44 #[.pointer (some ⟨b, 0, none⟩), .pointer p, .pointer q] w fun e w' => e = .returned (.bool true) ∧ w' = w.setCell ⟨b, 0, none⟩ (.pointer q) := by
  have hl := run_call_casp_hit (P := Try.prog) Try.func48 (by kernel_rfl) (by kernel_rfl) (by kernel_rfl) (by kernel_rfl) (q := q) h.cell h.frozen
  have hc := h.chn.to
  have hd := hq.to
  clear h hq
  go_enter Try.func44, Try.ntmps44
  go_wp2
  go_ret
  exact ⟨rfl, rfl⟩
theorem place_any (lo : Nat) (p : Option Addr) (L : List (Int × Nat)) (w : World) (h : Chn w lo p L) :
    Calls Try.prog 43 #[.pointer p] w fun e w' => e = .returned (.int .u64 (numL L : Nat)) ∧ w' = w := by
  cases L with
  | nil =>
    cases h
    go_enter Try.func43, Try.ntmps43
    go_wp2
    go_ret
    exact ⟨rfl, rfl⟩
  | cons x L =>
    obtain ⟨y, n⟩ := x
    obtain ⟨g, q, rfl, _, h3, _⟩ := h
    have h1 : w.cell? ⟨g, 1, none⟩ = some (.int .u64 (n : Nat)) := by simp [World.cell?, h3]
    clear h3
    go_enter Try.func43, Try.ntmps43
    go_wp2
    go_ret
    exact ⟨rfl, rfl⟩
theorem kept_any (lo : Nat) (p : Option Addr) (L : List (Int × Nat)) (w : World) (h : Chn w lo p L) :
    Calls Try.prog 27 #[.pointer p] w fun e w' => e = .returned (.int .i64 (L.length : Nat)) ∧ w' = w := by
  cases L with
  | nil =>
    cases h
    go_enter Try.func27, Try.ntmps27
    go_wp2
    go_ret
    exact ⟨rfl, rfl⟩
  | cons x L =>
    obtain ⟨g, q, rfl, _, h3, _⟩ := h
    have h1 : w.cell? ⟨g, 2, none⟩ = some (.int .i64 ((L.length + 1 : Nat) : Int)) := by simp [World.cell?, h3]
    clear h3
    rw [List.length_cons]
    generalize L.length + 1 = n at *
    go_enter Try.func27, Try.ntmps27
    go_wp2
    go_ret
    exact ⟨rfl, rfl⟩
/-- the item that lies on top of a chain -/
def itm (p : Option Addr) (x : Int) (n c : Nat) : Obj := .cells #[(.int .i64 x), .int .u64 (n : Nat), .int .i64 (c : Nat), .pointer p] 71
theorem with_any (lo : Nat) (p : Option Addr) (L : List (Int × Nat)) (x : Int) (w : World) (h : Chn w lo p L) (hn : numL L + 1 < 18446744073709551616) (hl : L.length + 1 < 9223372036854775808) :
    Calls Try.prog 46 #[.pointer p, (.int .i64 x)] w fun e w' => e = .returned (.pointer (some ⟨w.heap.size, 0, none⟩)) ∧ w' = w.alloc (itm p x (numL L + 1) (L.length + 1)) := by
  have C1 : Hid (Calls _ _ _ _ _) := place_any lo p L w h
  have C2 : Hid (Calls _ _ _ _ _) := kept_any lo p L w h
  clear h
  unfold itm
  generalize numL L = n at *
  generalize L.length = k at *
  have e1 : ((n + 1 : Nat) : Int) = (n : Int) + 1 := by omega
  have e2 : ((k + 1 : Nat) : Int) = (k : Int) + 1 := by omega
  rw [e1, e2]
  clear e1 e2
  go_enter Try.func46, Try.ntmps46
  go_wp2_with fail
  refine C1.out.mono ?_
  rintro e w2 ⟨rfl, hw⟩
  rw [hw]
  clear hw
  go_wp2_with fail
  refine C2.out.mono ?_
  rintro e w2 ⟨rfl, hw⟩
  rw [hw]
  clear hw
  go_wp2_with fail
  go_ret
  exact ⟨rfl, rfl⟩
theorem Chn.on {w : World} {lo : Nat} {p : Option Addr} {L : List (Int × Nat)} (h : Chn w lo p L) (x : Int) (n : Nat) (hlo : lo ≤ w.heap.size) : Chn (w.alloc (itm p x n (L.length + 1))) lo (some ⟨w.heap.size, 0, none⟩) ((x, n) :: L) :=
  ⟨w.heap.size, p, rfl, hlo, by rw [heap_alloc_new]; rfl, h.keep (B := w.heap.size) (by go_grown) (Nat.le_refl _)⟩

theorem new_any (w : World) :
    Calls Try.prog 7 #[] w fun e w' => e = .returned (.pointer (some ⟨w.heap.size, 0, none⟩)) ∧ Cel w' w.heap.size (w.heap.size + 1) none [] ∧ w'.heap.size = w.heap.size + 1 ∧ Below w.heap.size w w' := by
  go_enter Try.func7, Try.ntmps7
  go_wp2_with fail
  go_ret
  exact ⟨rfl, ⟨by rw [heap_alloc_new], by omega, rfl⟩, by simp, by go_grown⟩

set_option maxHeartbeats 1000000 in
theorem load_any (b lo : Nat) (p : Option Addr) (L : List (Int × Nat)) (w : World) (h : Cel w b lo p L) :
    Calls Try.prog 20 #[.pointer (some ⟨b, 0, none⟩)] w fun e w' => e = .returned (.tuple #[(.int .i64 (headL L)), .int .u64 (numL L : Nat)]) ∧ Below w.heap.size w w' := by
  have C1 : Hid (Calls _ _ _ _ _) := pload_any b lo p L w h
  have hc := h.chn
  clear h
  cases L with
  | nil =>
    cases hc
    go_enter Try.func20, Try.ntmps20
    go_wp2_with fail
    refine C1.out.mono ?_
    rintro e w2 ⟨rfl, hw⟩
    rw [hw]
    clear hw
    go_wp2_with fail
    go_ret2
    exact ⟨rfl, by go_grown⟩
  | cons x L =>
    obtain ⟨y, n⟩ := x
    obtain ⟨g, q, rfl, _, h3, _⟩ := hc
    have h0 : w.cell? ⟨g, 0, none⟩ = some (.int .i64 y) := by simp [World.cell?, h3]
    have h1 : w.cell? ⟨g, 1, none⟩ = some (.int .u64 (n : Nat)) := by simp [World.cell?, h3]
    clear h3
    go_enter Try.func20, Try.ntmps20
    go_wp2_with fail
    refine C1.out.mono ?_
    rintro e w2 ⟨rfl, hw⟩
    rw [hw]
    clear hw
    go_wp2_with fail
    go_quiet (fail)
    go_wp2_with fail
    go_ret2
    exact ⟨rfl, below_drewN (Below.refl _ _) _⟩

end Go.Proofs.Ytofndmiebnhkaaa
