/- Layer 12: nodes in memory, level by level; where one stands. Layer 12: path. -/
import Derived.Test.YtojfohpnfciajaaGWSkp2
import Derived.Test.YtojfohpnfciajaaGMStr
namespace Go.Proofs.Ytojfohpnfciajaa
open Go.RowKit
set_option maxRecDepth 100000

/-- a node: its entry, its block, its value's, its links' -/
structure Nd where
  e : En
  nb : Nat
  vb : Nat
  lb : Nat
/-- the first one on a level -/
def tgt (l : Nat) (X : List Nd) : Option Nat := (X.find? (fun x => decide (l < x.e.h))).map Nd.nb
/-- a place's block: 0 the head, i + 1 the node i -/
def posB (hb : Nat) (N : List Nd) (p : Nat) : Nat := match p with
  | 0 => hb
  | i + 1 => (N[i]?.map Nd.nb).getD hb
theorem posB_at (hb : Nat) {N : List Nd} {i : Nat} (hi : i < N.length) : posB hb N (i + 1) = N[i].nb := by
  simp [posB, List.getElem?_eq_getElem hi]
/-- NODES IN MEMORY. -/
structure SkN (w : World) (hb hl : Nat) (N : List Nd) : Prop where
  hd : w.cell? ⟨hb, 2, none⟩ = some (.slice (some ⟨hl, 0, none⟩) 16 16)
  hk : ∀ l, l < 16 → Lnk w hl l (tgt l N)
  nd : ∀ i (hi : i < N.length), w.cell? ⟨N[i].nb, 0, none⟩ = some (.string N[i].e.k) ∧ w.cell? ⟨N[i].nb, 2, none⟩ = some (.slice (some ⟨N[i].lb, 0, none⟩) N[i].e.h N[i].e.h)
  ht : ∀ i (hi : i < N.length), 1 ≤ N[i].e.h ∧ N[i].e.h ≤ 16
  lk : ∀ i (hi : i < N.length) l, l < N[i].e.h → Lnk w N[i].lb l (tgt l (N.drop (i + 1)))
  one : ∀ i j (hi : i < N.length) (hj : j < N.length), N[i].nb = N[j].nb → i = j
  nhd : ∀ i (hi : i < N.length), N[i].nb ≠ hb
theorem cell_on {w w' : World} {a : Addr} {v : Value} (h : w.cell? a = some v) (hb : Below w.heap.size w w') : w'.cell? a = some v := (hb.cell (World.block_lt_of_cell? w _ h)).trans h
theorem SkN.on {w w' : World} {hb hl : Nat} {N : List Nd} (h : SkN w hb hl N) (hB : Below w.heap.size w w') : SkN w' hb hl N :=
  ⟨cell_on h.hd hB, fun l hl' => (h.hk l hl').on hB, fun i hi => ⟨cell_on (h.nd i hi).1 hB, cell_on (h.nd i hi).2 hB⟩, h.ht, fun i hi l hl' => (h.lk i hi l hl').on hB, h.one, h.nhd⟩
/-- does a place stand on a level? -/
def OnL (l : Nat) (N : List Nd) (p : Nat) : Prop := p = 0 ∨ ∃ (hi : p - 1 < N.length), l < N[p - 1].e.h
theorem SkN.at {w : World} {hb hl : Nat} {N : List Nd} (h : SkN w hb hl N) {l p : Nat} (hl' : l < 16) (ho : OnL l N p) : ∃ kb n, w.cell? ⟨posB hb N p, 2, none⟩ = some (.slice (some ⟨kb, 0, none⟩) n n) ∧ l < n ∧ n ≤ 16 ∧ Lnk w kb l (tgt l (N.drop p)) := by
  cases p with
  | zero => exact ⟨hl, 16, h.hd, hl', Nat.le_refl _, h.hk l hl'⟩
  | succ i =>
    rcases ho with h0 | ⟨hi, h1⟩
    · omega
    · have hi' : i < N.length := hi
      have h1' : l < N[i].e.h := h1
      refine ⟨N[i].lb, N[i].e.h, ?_, h1', (h.ht i hi').2, h.lk i hi' l h1'⟩
      rw [posB_at hb hi']
      exact (h.nd i hi').2
/-- the first one on a level, by its number -/
theorem tgt_cases (l : Nat) (N : List Nd) (p : Nat) : (tgt l (N.drop p) = none ∧ ∀ i (hi : i < N.length), p ≤ i → ¬ l < N[i].e.h) ∨ ∃ q, ∃ (hq : q < N.length), p ≤ q ∧ l < N[q].e.h ∧ (∀ i (hi : i < N.length), p ≤ i → i < q → ¬ l < N[i].e.h) ∧ tgt l (N.drop p) = some N[q].nb := by
  unfold tgt
  cases hf : (N.drop p).find? (fun x => decide (l < x.e.h)) with
  | none =>
    refine .inl ⟨rfl, fun i hi hp hl => ?_⟩
    rw [List.find?_eq_none] at hf
    have hm : N[i] ∈ N.drop p := by
      rw [List.mem_iff_getElem]
      exact ⟨i - p, by rw [List.length_drop]; omega, by rw [List.getElem_drop]; congr 1; omega⟩
    exact hf _ hm (by simpa using hl)
  | some x =>
    obtain ⟨hx, i, hi, e, hno⟩ := List.find?_eq_some_iff_getElem.1 hf
    rw [List.length_drop] at hi
    rw [List.getElem_drop] at e
    subst e
    refine .inr ⟨p + i, by omega, by omega, by simpa using hx, fun j hj h1 h2 => ?_, rfl⟩
    have := hno (j - p) (by omega)
    rw [List.getElem_drop] at this
    have e9 : p + (j - p) = j := by omega
    simp only [e9] at this
    simpa using this
/-- where a pointer stands -/
def posOf (hb : Nat) (N : List Nd) : Value → Nat
  | .pointer (some a) => if a.block = hb then 0 else N.findIdx (fun x => decide (x.nb = a.block)) + 1
  | _ => 0
theorem posOf_at {w : World} {hb hl : Nat} {N : List Nd} (h : SkN w hb hl N) {p : Nat} (hp : p ≤ N.length) : posOf hb N (ptr1 (posB hb N p)) = p := by
  cases p with
  | zero => simp [posOf, posB]
  | succ i =>
    have hi : i < N.length := hp
    rw [posB_at hb hi]
    show (if N[i].nb = hb then 0 else N.findIdx (fun x => decide (x.nb = N[i].nb)) + 1) = i + 1
    rw [if_neg (h.nhd i hi)]
    congr 1
    have h1 : N.findIdx (fun x => decide (x.nb = N[i].nb)) ≤ i := by
      rcases Nat.lt_or_ge i (N.findIdx (fun x => decide (x.nb = N[i].nb))) with h9 | h9
      · have := List.not_of_lt_findIdx h9
        simp at this
      · exact h9
    have h2 := List.findIdx_getElem (p := fun x : Nd => decide (x.nb = N[i].nb)) (xs := N) (w := by omega)
    exact h.one _ i (by omega) hi (by simpa using h2)

end Go.Proofs.Ytojfohpnfciajaa

namespace Go.Proofs.Ytojfohpnfciajaa
open Go.RowKit
set_option maxRecDepth 100000

abbrev ensN (N : List Nd) : List En := N.map Nd.e
/-- a path's cells: from a level on they lead to the last ones ahead of a key -/
structure PthA (hb : Nat) (N : List Nd) (m c : Nat) (A : Array Value) : Prop where
  sz : A.size = 16
  at' : ∀ l, c ≤ l → l < 16 → ∃ p, A[l]? = some (ptr1 (posB hb N p)) ∧ LastL l m (ensN N) p
theorem PthA.set {hb : Nat} {N : List Nd} {m c p : Nat} {A : Array Value} (h : PthA hb N m (c + 1) A) (hc : c < 16) (hp : LastL c m (ensN N) p) : PthA hb N m c (A.setIfInBounds c (ptr1 (posB hb N p))) := by
  refine ⟨by simp [h.sz], fun l h1 h2 => ?_⟩
  by_cases e : l = c
  · subst e
    exact ⟨p, by rw [Array.getElem?_setIfInBounds_self_of_lt (by rw [h.sz]; exact h2)], hp⟩
  · obtain ⟨q, h3, h4⟩ := h.at' l (by omega) h2
    exact ⟨q, by rw [Array.getElem?_setIfInBounds_ne (by omega)]; exact h3, h4⟩
/-- the inner loop's state: a place that stands on the level, ahead of the key -/
structure Inn (w wq : World) (lb hb sb hl : Nat) (N : List Nd) (m c : Nat) (g : Nat) (A : Array Value) (p : Nat) : Prop where
  v : Vw wq lb hb sb
  n : SkN wq hb hl N
  x : Blk wq w.heap.size #[ptr1 lb, ptr1 sb] 102
  a : Blk wq g A 177
  bel : Below w.heap.size w wq
  pm : p ≤ m
  on : ∀ l, l < c → OnL l N p
theorem Inn.keep {w wq w' : World} {lb hb sb hl : Nat} {N : List Nd} {m c g : Nat} {A : Array Value} {p : Nat} (h : Inn w wq lb hb sb hl N m c g A p) (hb' : Below wq.heap.size wq w') : Inn w w' lb hb sb hl N m c g A p :=
  ⟨h.v.on hb', h.n.on hb', h.x.on hb', h.a.on hb', h.bel.trans (hb'.mono h.bel.size), h.pm, h.on⟩

end Go.Proofs.Ytojfohpnfciajaa
