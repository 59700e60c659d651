/- slices.DeleteFunc at ranges: those that are not empty stay. -/
import Derived.Test.YtjigmijennbolaaDoorWClone
namespace Go.Proofs.YtjigmijennbolaaDoor
open Go.RowKit
set_option maxRecDepth 100000

theorem setCells_row (g : Nat) (t : TypeId) : ∀ (vs : List Value) (o : Nat) (w : World) (cur : Array Value), w.heap[g]? = some (.cells cur t (0, 0)) →
    ∃ cur', (w.setCells g o vs).heap[g]? = some (.cells cur' t (0, 0)) ∧ cur'.size = cur.size ∧ ∀ j, j < o → cur'[j]? = cur[j]?
  | [], _, w, cur, h => ⟨cur, h, rfl, fun _ _ => rfl⟩
  | v :: vs, o, w, cur, h => by
    have h1 := heap_setCell_same w g o cur t v h
    obtain ⟨cur', h2, h3, h4⟩ := setCells_row g t vs (o + 1) (w.setCell ⟨g, o, none⟩ v) (cur.setIfInBounds o v) h1
    refine ⟨cur', h2, by rw [h3]; simp, fun j hj => ?_⟩
    rw [h4 j (by omega), Array.getElem?_setIfInBounds_ne (by omega)]
theorem setCells_below {B g : Nat} (hg : B ≤ g) : ∀ (vs : List Value) (o : Nat) (w w1 : World), Below B w w1 → Below B w (w1.setCells g o vs)
  | [], _, _, _, h => h
  | v :: vs, o, w, w1, h => setCells_below hg vs (o + 1) w (w1.setCell ⟨g, o, none⟩ v) (h.setCell hg _)
theorem rcells_take (L : List Rg) (k : Nat) : rcells (L.take k) = (rcells L).take (k * 3) := by
  induction L generalizing k with
  | nil => simp [rcells]
  | cons r L ih =>
    cases k with
    | zero => simp [rcells]
    | succ k =>
      have e : (k + 1) * 3 = k * 3 + 1 + 1 + 1 := by omega
      rw [List.take_succ_cons, rcells_cons, rcells_cons, e, List.take_succ_cons, List.take_succ_cons, List.take_succ_cons, ih]
/-- the row cut to its first ranges, whatever is laid behind them -/
theorem OwnR.cut {w : World} {B g cap n : Nat} {M : List Rg} (h : OwnR w B (.slice (some ⟨g, 0, none⟩) n cap) M) (hn : n = M.length) (k : Nat) (hk : k ≤ n) (vs : List Value) :
    OwnR (w.setCells g (k * 3) vs) B (.slice (some ⟨g, 0, none⟩) k cap) (M.take k) := by
  have hl : (M.take k).length = k := by rw [List.length_take]; omega
  rcases h.2 with ⟨h1, _⟩ | ⟨g', cap', cur, e, hb, hg, hn1, hm, hs, ht⟩
  · cases h1
  · injection e with e1 e2 e3
    injection e1 with e1
    injection e1 with e1
    subst e1 e3
    obtain ⟨cur', c1, c2, c3⟩ := setCells_row g 29 vs (k * 3) w cur hg
    refine ⟨by rw [rcells_len], .inr ⟨g, cap, cur', by rw [hl], hb, c1, by omega, hm, by rw [c2]; exact hs, ?_⟩⟩
    rw [hl, rcells_take, ← ht, List.take_take]
    have hmin : min (k * 3) (M.length * 3) = k * 3 := by omega
    rw [hmin]
    apply List.ext_getElem?
    intro j
    rw [List.getElem?_take, List.getElem?_take]
    split
    · rename_i hj
      rw [Array.getElem?_toList, Array.getElem?_toList, c3 j hj]
    · rfl

def zeroR (n : Nat) : List Value := (Builtin.zeroCells #[.string ⟨#[]⟩, .string ⟨#[]⟩, .bool false] n).toList
theorem zeroR_len (n : Nat) : (zeroR n).length = n * 3 := by simp [zeroR, Builtin.zeroCells]
theorem zeroR_one (n : Nat) : ∀ v ∈ zeroR n, v.oneCell' = true := by
  intro v hv
  simp [zeroR, Builtin.zeroCells] at hv
  obtain ⟨j, _, rfl⟩ := hv
  have h3 : j % 3 = 0 ∨ j % 3 = 1 ∨ j % 3 = 2 := by omega
  rcases h3 with e | e | e <;> simp [e] <;> rfl
theorem zeroV_rng (w : World) : (zeroValue 29).run Tryd.prog w = .ok (.agg #[.string ⟨#[]⟩, .string ⟨#[]⟩, .bool false]) w := by
  obtain ⟨i, hi, hz0, hz1, hz2⟩ := info_parts info_rng
  simp [zeroValue, typeInfo, hi, hz0]
theorem run_clearR (w : World) (ty : TypeId) (b o n c : Nat) (hn : 0 < n) (hc : ∀ j, j < n * 3 → (w.cell? ⟨b, o + j, none⟩).isSome = true) (hf : ∀ j, j < n * 3 → w.frozen? ⟨b, o + j, none⟩ = false) :
    (Builtin.clear_ #[22] ty #[.slice (some ⟨b, o, none⟩) n c]).run Tryd.prog w = .ok (.tuple #[]) (w.setCells b o (zeroR n)) := by
  have hst := run_storeCells_cells (P := Tryd.prog) b o (zeroR n) 0 w (by rw [zeroR_len]; simpa using hc) (by rw [zeroR_len]; simpa using hf) (zeroR_one n)
  simp only [Nat.add_zero] at hst
  obtain ⟨m, rfl⟩ : ∃ m, n = m + 1 := ⟨n - 1, by omega⟩
  have hz : (Value.agg #[.string ⟨#[]⟩, .string ⟨#[]⟩, .bool false]).cells = #[.string ⟨#[]⟩, .string ⟨#[]⟩, .bool false] := rfl
  unfold zeroR at hst ⊢
  simp [Builtin.clear_, run_underlying Tryd.underlying22, hz, hst]
end Go.Proofs.YtjigmijennbolaaDoor
