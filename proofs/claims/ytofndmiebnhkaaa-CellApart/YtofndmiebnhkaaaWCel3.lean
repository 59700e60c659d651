/- The walks of cut and Keep. -/
import Derived.Test.YtofndmiebnhkaaaWCel2
namespace Go.Proofs.Ytofndmiebnhkaaa
open Go.RowKit
set_option maxRecDepth 100000

/-- a pointer's block -/
def blkP : Value → Nat
  | .pointer (some a) => a.block
  | _ => 0
/-- the i-th item of k + 1 that cut has made, of n that are wanted -/
def cutI (s n : Nat) (L : List (Int × Nat)) (k i : Nat) : Obj := .cells #[.int .i64 (L.getD i (0, 0)).1, .int .u64 ((L.getD i (0, 0)).2 : Nat), .int .i64 ((n - i : Nat) : Int), .pointer (if i < k then some ⟨s + i + 1, 0, none⟩ else none)] 71
/-- WHAT CUT HAS MADE: k + 1 items, one behind the other. -/
structure Cut (w wr : World) (n : Nat) (L : List (Int × Nat)) (k : Nat) : Prop where
  size : wr.heap.size = w.heap.size + k + 1
  below : Below w.heap.size w wr
  its : ∀ i, i ≤ k → wr.heap[w.heap.size + i]? = some (cutI w.heap.size n L k i)
theorem Cut.drew {w wr : World} {n : Nat} {L : List (Int × Nat)} {k : Nat} (h : Cut w wr n L k) : Cut w wr.drew n L k := ⟨h.size, ⟨h.below.os, h.below.tape, h.below.output, h.below.size, h.below.block⟩, h.its⟩
theorem Cut.start (w : World) (n : Nat) (x : Int) (m : Nat) (L : List (Int × Nat)) : Cut w (w.alloc (itm none x m n)) n ((x, m) :: L) 0 := by
  refine ⟨by simp, by go_grown, fun i hi => ?_⟩
  obtain rfl : i = 0 := by omega
  rw [Nat.add_zero, heap_alloc_new]
  rfl
theorem heap_alloc_old (w : World) (o : Obj) (k : Nat) (h : k < w.heap.size) : (w.alloc o).heap[k]? = w.heap[k]? := Below.heap_alloc w o k h
theorem heap_set_other (w : World) (b i k : Nat) (v : Value) (h : k ≠ b) : (w.setCell ⟨b, i, none⟩ v).heap[k]? = w.heap[k]? := Below.heap_setCell _ _ _ _ (by simpa using h)
theorem Cut.step {w wr : World} {n : Nat} {L : List (Int × Nat)} {k : Nat} (h : Cut w wr n L k) (x : Int) (m c : Nat) (hx : L.getD (k + 1) (0, 0) = (x, m)) (hc : c = n - (k + 1)) :
    Cut w ((wr.alloc (itm none x m c)).setCell ⟨w.heap.size + k, 3, none⟩ (.pointer (some ⟨wr.heap.size, 0, none⟩))) n L (k + 1) := by
  have hs := h.size
  refine ⟨?_, ?_, fun i hi => ?_⟩
  · simp
    omega
  · refine h.below.trans ⟨rfl, rfl, rfl, by simp, fun j hj => ?_⟩
    rw [heap_set_other _ _ _ _ _ (by omega), heap_alloc_old _ _ _ (by omega)]
  · by_cases h1 : i = k + 1
    · subst h1
      rw [heap_set_other _ _ _ _ _ (by omega), show w.heap.size + (k + 1) = wr.heap.size by omega, heap_alloc_new]
      unfold cutI itm
      rw [hx, hc, if_neg (by omega)]
    · by_cases h2 : i = k
      · subst h2
        have hh := h.its i (Nat.le_refl _)
        rw [heap_set_same _ _ 3 _ _ _ _ ((heap_alloc_old _ _ _ (by omega)).trans hh)]
        unfold cutI
        rw [if_neg (show ¬ i < i by omega), if_pos (show i < i + 1 by omega), hs]
        rfl
      · rw [heap_set_other _ _ _ _ _ (by omega), heap_alloc_old _ _ _ (by omega), h.its i (by omega)]
        unfold cutI
        rw [if_pos (by omega), if_pos (by omega)]
theorem Cut.chn {w wr : World} {n : Nat} {L : List (Int × Nat)} (h : Cut w wr n L (n - 1)) (hn : 1 ≤ n) (hl : n ≤ L.length) : Chn wr w.heap.size (some ⟨w.heap.size, 0, none⟩) (L.take n) := by
  have H : ∀ d i, i + d + 1 = n → Chn wr w.heap.size (some ⟨w.heap.size + i, 0, none⟩) ((L.take n).drop i) := by
    intro d
    induction d with
    | zero =>
      intro i hi
      have hlt : i < (L.take n).length := by simp; omega
      rw [List.drop_eq_getElem_cons hlt, List.drop_eq_nil_of_le (by simp; omega)]
      refine ⟨_, none, rfl, Nat.le_add_right _ _, ?_, rfl⟩
      rw [h.its i (by omega)]
      unfold cutI
      rw [if_neg (by omega), show n - i = 1 by omega, List.getD_eq_getElem?_getD, List.getElem?_eq_getElem (by omega)]
      simp
    | succ d ih =>
      intro i hi
      have hlt : i < (L.take n).length := by simp; omega
      rw [List.drop_eq_getElem_cons hlt]
      refine ⟨_, some ⟨w.heap.size + (i + 1), 0, none⟩, rfl, Nat.le_add_right _ _, ?_, ih (i + 1) (by omega)⟩
      rw [h.its i (by omega)]
      unfold cutI
      rw [if_pos (by omega), List.getD_eq_getElem?_getD, List.getElem?_eq_getElem (by omega)]
      have e : ((L.take n).drop (i + 1)).length + 1 = n - i := by simp; omega
      rw [e]
      simp [Nat.add_assoc]
  have := H (n - 1) 0 (by omega)
  simpa using this

set_option maxHeartbeats 4000000 in
theorem cut_any (lo : Nat) (p : Option Addr) (L : List (Int × Nat)) (n : Nat) (w : World) (h : Chn w lo p L) (hn : 1 ≤ n) (hl : n < L.length) (hlen : L.length ≤ 17592186044416) :
    Calls Try.prog 45 #[.pointer p, .int .i64 (n : Nat)] w fun e w' => e = .returned (.pointer (some ⟨w.heap.size, 0, none⟩)) ∧ Chn w' w.heap.size (some ⟨w.heap.size, 0, none⟩) (L.take n) ∧ Below w.heap.size w w' := by
  cases L with
  | nil => simp at hl
  | cons y L =>
    obtain ⟨x, m⟩ := y
    have HC : Hid (Chn _ _ _ _) := h
    obtain ⟨g, q, rfl, _, h3, _⟩ := h
    have c0 : w.cell? ⟨g, 0, none⟩ = some (.int .i64 x) := by simp [World.cell?, h3]
    have c1 : w.cell? ⟨g, 1, none⟩ = some (.int .u64 (m : Nat)) := by simp [World.cell?, h3]
    clear h3
    have HS : Hid (Cut _ _ _ _ _) := Cut.start w n x m L
    go_enter Try.func45, Try.ntmps45
    go_wp2_with fail
    go_region
    all_goals
      go_wp2_with fail
    have HS' : Hid (Cut _ _ _ _ _) := HS.out.drew
    clear HS c0 c1
    generalize hLL : (x, m) :: L = M at *
    have HLL : Hid _ := hLL
    clear hLL
    go_loopw [0, 6] (fun i l wr => ∃ k pk, k < n ∧ i = .pointer pk ∧ Hid (Chn w lo pk (M.drop k)) ∧ l = .pointer (some ⟨w.heap.size + k, 0, none⟩) ∧ Hid (Cut w wr n M k)) (fun _ l _ => w.heap.size + n - blkP l)
    case atStart => exact ⟨0, _, by omega, rfl, HC, rfl, HS'⟩
    case round =>
      obtain ⟨k, pk, hk, rfl, hch, rfl, hcut⟩ := hrel
      have hI := hcut.out.its k (Nat.le_refl _)
      unfold cutI at hI
      rw [if_neg (show ¬ k < k by omega)] at hI
      have hbs : w.heap.size + k < wr.heap.size := (Array.getElem?_eq_some_iff.1 hI).1
      obtain ⟨c, hc⟩ : ∃ c, n - k = c + 1 := ⟨n - k - 1, by omega⟩
      rw [hc] at hI
      have c2 : wr.cell? ⟨w.heap.size + k, 2, none⟩ = some (.int .i64 ((c : Int) + 1)) := by simp [World.cell?, hI]
      have c3 : wr.cell? ⟨w.heap.size + k, 3, none⟩ = some (.pointer none) := by simp [World.cell?, hI]
      have f3 : wr.frozen? ⟨w.heap.size + k, 3, none⟩ = false := by simp [World.frozen?, hI]
      by_cases hk1 : k + 1 = n
      · obtain rfl : c = 0 := by omega
        have hc2 : Hid (Chn _ _ _ _) := (show Cut w wr n M (n - 1) by rw [show n - 1 = k by omega]; exact hcut.out).chn hn (by omega)
        clear hI hc hk1 c3 f3
        go_wp2
        go_ret
        rw [HLL.out]
        exact ⟨rfl, hc2.out, hcut.out.below⟩
      · have hlt1 : k < M.length := by omega
        have hlt2 : k + 1 < M.length := by omega
        have hd1 := List.drop_eq_getElem_cons hlt1
        have hd2 := List.drop_eq_getElem_cons hlt2
        have hch' := hch.out
        rw [hd1] at hch'
        obtain ⟨g1, q1, rfl, _, h3, h4⟩ := hch'
        have H4 : Hid (Chn _ _ _ _) := h4
        rw [hd2] at h4
        obtain ⟨g2, q2, rfl, _, h5, _⟩ := h4
        obtain ⟨z, hz⟩ : ∃ z, M[k + 1] = z := ⟨_, rfl⟩
        have hzz : M.getD (k + 1) (0, 0) = z := by rw [← hz, List.getD_eq_getElem?_getD, List.getElem?_eq_getElem hlt2]; rfl
        rw [hz] at h5
        obtain ⟨z, y⟩ := z
        have l1 := (Array.getElem?_eq_some_iff.1 h3).1
        have l2 := (Array.getElem?_eq_some_iff.1 h5).1
        have k1 : wr.cell? ⟨g1, 3, none⟩ = some (.pointer (some ⟨g2, 0, none⟩)) := by rw [hcut.out.below.cell (p := ⟨g1, 3, none⟩) l1]; simp [World.cell?, h3]
        have k2 : wr.cell? ⟨g2, 0, none⟩ = some (.int .i64 z) := by rw [hcut.out.below.cell (p := ⟨g2, 0, none⟩) l2]; simp [World.cell?, h5]
        have k3 : wr.cell? ⟨g2, 1, none⟩ = some (.int .u64 (y : Nat)) := by rw [hcut.out.below.cell (p := ⟨g2, 1, none⟩) l2]; simp [World.cell?, h5]
        have HT : Hid (Cut _ _ _ _ _) := hcut.out.step z y c hzz (by omega)
        rw [World.setCell_alloc_past _ _ _ _ hbs] at HT
        have m3 : (wr.alloc (.cells #[.int .i64 z, .int .u64 (y : Nat), .int .i64 (c : Nat), .pointer none] 71)).cell? ⟨w.heap.size + k, 3, none⟩ = some (.pointer none) := (World.cell?_of_block (a := ⟨w.heap.size + k, 3, none⟩) (Below.heap_alloc wr _ _ hbs)).trans c3
        have n3 : (wr.alloc (.cells #[.int .i64 z, .int .u64 (y : Nat), .int .i64 (c : Nat), .pointer none] 71)).frozen? ⟨w.heap.size + k, 3, none⟩ = false := (World.frozen?_of_block (a := ⟨w.heap.size + k, 3, none⟩) (Below.heap_alloc wr _ _ hbs)).trans f3
        have o3 := World.cell?_setCell_same (wr.alloc (.cells #[.int .i64 z, .int .u64 (y : Nat), .int .i64 (c : Nat), .pointer none] 71)) ⟨w.heap.size + k, 3, none⟩ (.pointer (some ⟨wr.heap.size, 0, none⟩)) m3
        have a1 : (1 : Int) < (c : Int) + 1 := by omega
        have a2 : c ≤ 17592186044416 := by omega
        have hcs : Hid (wr.heap.size = w.heap.size + (k + 1)) := hcut.out.size
        clear hI hd1 hd2 h3 h5 hz hzz hc hch
        go_wp2_with fail
        go_region
        all_goals
          go_wp2_with fail
          go_roundw
          case rel => exact ⟨k + 1, _, by omega, rfl, H4, by rw [hcs.out], HT.out.drew⟩
          case measure => simp only [blkP]; rw [hcs.out]; omega
end Go.Proofs.Ytofndmiebnhkaaa
