/- A table in memory: what it holds; what its parts are when one of them is turned. -/
import Derived.Test.YtmcdpadmjicafaaWSta
namespace Go.Proofs.Ytmcdpadmjicafaa
open Go.RowKit Go.Maps
set_option maxRecDepth 100000

abbrev ptr1 (b : Nat) : Value := .pointer (some ⟨b, 0, none⟩)
/-- A TABLE IN MEMORY: T all that were begun, in the blocks B; O the places of those that may be open. -/
structure StaX (w : World) (s r : Int) (F : Nat → Prop) (tb mb : Nat) (ov : Value) (B : Nat → Nat) (O : List Nat) (T : List Tx) : Prop where
  blk : TabB w tb s r T.length mb ov
  ftb : F tb
  fmb : F mb
  ftx : ∀ i, i < T.length → F (B i)
  fov : ∀ g, ov.ownBlock = some g → F g
  map : HasMap w mb T.length (fun n => (lookT T n).map B)
  opn : w.ownsRow 0 78 1 ov O.length (O.map fun i => ptr1 (B i))
  tx : ∀ i x, T[i]? = some x → w.heap[B i]? = some (.cells #[.int .i64 ((i : Int) + 1), .int .u64 (x.wd : Nat)] 83 (0, 0))
  rise : O.Pairwise (· < ·)
  inn : ∀ i ∈ O, i < T.length
  all : ∀ i x, T[i]? = some x → decd x.wd = false → i ∈ O
  few : O.length ≤ 256
  gon : ∀ x ∈ T, x.gone = true → decd x.wd = true
  flt : ∀ k, F k → k < w.heap.size
def Sta (w : World) (F : Nat → Prop) (tb : Nat) (T : List Tx) : Prop := ∃ mb ov B O, StaX w 0 0 F tb mb ov B O T

theorem owns_block {w w' : World} {b0 T s n : Nat} {v : Value} {xs : List Value} (h : w.ownsRow b0 T s v n xs) (hb : ∀ g, v.ownBlock = some g → w'.heap[g]? = w.heap[g]?) : w'.ownsRow b0 T s v n xs := by
  refine ⟨h.1, ?_⟩
  rcases h.2 with h | ⟨g, cap, cur, rfl, h1, h2, h3⟩
  · exact .inl h
  · exact .inr ⟨g, cap, cur, rfl, h1, (hb g rfl).trans h2, h3⟩
section
variable {w w' : World} {s r : Int} {F : Nat → Prop} {tb mb : Nat} {ov : Value} {B : Nat → Nat} {O : List Nat} {T : List Tx}
theorem StaX.keep {G : Nat → Prop} (h : StaX w s r F tb mb ov B O T) (hf : Frm w w' G) (hn : ∀ k, F k → ¬ G k) : StaX w' s r F tb mb ov B O T := by
  have kp : ∀ k, F k → w'.heap[k]? = w.heap[k]? := fun k hk => hf.block k (h.flt k hk) (hn k hk)
  exact ⟨(kp _ h.ftb).trans h.blk, h.ftb, h.fmb, h.ftx, h.fov, h.map.of_block (kp _ h.fmb), owns_block h.opn (fun g hg => kp g (h.fov g hg)), fun i x hx => (kp _ (h.ftx i (List.getElem?_eq_some_iff.1 hx).1)).trans (h.tx i x hx), h.rise, h.inn, h.all, h.few, h.gon, fun k hk => Nat.lt_of_lt_of_le (h.flt k hk) hf.size⟩
theorem Sta.keep {G : Nat → Prop} (h : Sta w F tb T) (hf : Frm w w' G) (hn : ∀ k, F k → ¬ G k) : Sta w' F tb T := by
  obtain ⟨mb, ov, B, O, h⟩ := h
  exact ⟨mb, ov, B, O, h.keep hf hn⟩
theorem StaX.ne_mb (h : StaX w s r F tb mb ov B O T) : mb ≠ tb := by
  intro e
  subst e
  obtain ⟨es, c, h1⟩ := h.map.is
  have h2 := h.blk
  unfold TabB at h2
  rw [h1] at h2
  cases h2
theorem StaX.ne_tx (h : StaX w s r F tb mb ov B O T) {i : Nat} (hi : i < T.length) : B i ≠ tb := by
  intro e
  have h1 := h.tx i _ (List.getElem?_eq_getElem hi)
  have h2 := h.blk
  unfold TabB at h2
  rw [e, h2] at h1
  injection h1 with h1
  injection h1 with _ h1
  exact absurd h1 (by decide)
theorem StaX.tx_mb (h : StaX w s r F tb mb ov B O T) {i : Nat} (hi : i < T.length) : B i ≠ mb := by
  intro e
  have h1 := h.tx i _ (List.getElem?_eq_getElem hi)
  obtain ⟨es, c, h2⟩ := h.map.is
  rw [e, h2] at h1
  cases h1
theorem StaX.tx_ne (h : StaX w s r F tb mb ov B O T) {i j : Nat} (hi : i < T.length) (hj : j < T.length) (hne : i ≠ j) : B i ≠ B j := by
  intro e
  have h1 := h.tx i _ (List.getElem?_eq_getElem hi)
  have h2 := h.tx j _ (List.getElem?_eq_getElem hj)
  rw [e, h2] at h1
  injection h1 with h1
  injection h1 with h1
  have h3 := congrArg (fun a => a[0]?) h1
  simp at h3
  omega
theorem own_cells {w : World} {b0 T s n : Nat} {v : Value} {xs : List Value} (h : w.ownsRow b0 T s v n xs) {g : Nat} (hg : v.ownBlock = some g) : ∃ cur, w.heap[g]? = some (.cells cur T (0, 0)) := by
  rcases h.2 with ⟨rfl, _⟩ | ⟨g', cap, cur, rfl, h1, h2, h3⟩
  · cases hg
  · cases hg
    exact ⟨cur, h2⟩
theorem StaX.ne_ov (h : StaX w s r F tb mb ov B O T) {g : Nat} (hg : ov.ownBlock = some g) : g ≠ tb := by
  intro e
  obtain ⟨cur, h1⟩ := own_cells h.opn hg
  have h2 := h.blk
  unfold TabB at h2
  rw [e, h2] at h1
  injection h1 with h1
  injection h1 with _ h1
  exact absurd h1 (by decide)
theorem StaX.ov_mb (h : StaX w s r F tb mb ov B O T) {g : Nat} (hg : ov.ownBlock = some g) : g ≠ mb := by
  intro e
  obtain ⟨cur, h1⟩ := own_cells h.opn hg
  obtain ⟨es, c, h2⟩ := h.map.is
  rw [e, h2] at h1
  cases h1
theorem StaX.ov_tx (h : StaX w s r F tb mb ov B O T) {g : Nat} (hg : ov.ownBlock = some g) {i : Nat} (hi : i < T.length) : g ≠ B i := by
  intro e
  obtain ⟨cur, h1⟩ := own_cells h.opn hg
  have h2 := h.tx i _ (List.getElem?_eq_getElem hi)
  rw [e, h2] at h1
  injection h1 with h1
  injection h1 with _ h1
  exact absurd h1 (by decide)
/-- the table's own block turns -/
theorem StaX.own {s' r' : Int} (h : StaX w s r F tb mb ov B O T) (hf : Frm w w' (fun k => k = tb)) (ht : TabB w' tb s' r' T.length mb ov) : StaX w' s' r' F tb mb ov B O T := by
  have kp : ∀ k, F k → k ≠ tb → w'.heap[k]? = w.heap[k]? := fun k hk hn => hf.block k (h.flt k hk) hn
  exact ⟨ht, h.ftb, h.fmb, h.ftx, h.fov, h.map.of_block (kp _ h.fmb h.ne_mb), owns_block h.opn (fun g hg => kp g (h.fov g hg) (h.ne_ov hg)), fun i x hx => (kp _ (h.ftx i (List.getElem?_eq_some_iff.1 hx).1) (h.ne_tx (List.getElem?_eq_some_iff.1 hx).1)).trans (h.tx i x hx), h.rise, h.inn, h.all, h.few, h.gon, fun k hk => Nat.lt_of_lt_of_le (h.flt k hk) hf.size⟩
theorem StaX.cell1 (h : StaX w s r F tb mb ov B O T) {i : Nat} {x : Tx} (hx : T[i]? = some x) : w.cell? ⟨B i, 0, none⟩ = some (.int .i64 ((i : Int) + 1)) ∧ w.cell? ⟨B i, 1, none⟩ = some (.int .u64 (x.wd : Nat)) ∧ w.frozen? ⟨B i, 1, none⟩ = false := by
  have h1 := h.tx i x hx
  refine ⟨?_, ?_, ?_⟩
  · simp [World.cell?, h1]
  · simp [World.cell?, h1]
  · simp [World.frozen?, h1]
theorem lookT_set {T : List Tx} {i : Nat} {x : Tx} (hx : T[i]? = some x) (hg : x.gone = false) (y : Nat) (n : Int) : lookT (T.set i ⟨y, false⟩) n = lookT T n := by
  unfold lookT
  by_cases h0 : 0 < n
  · rw [if_pos h0, if_pos h0]
    by_cases e : i = (n - 1).toNat
    · subst e
      rw [hx, List.getElem?_set_self (List.getElem?_eq_some_iff.1 hx).1]
      simp [hg]
    · rw [List.getElem?_set_ne e]
  · rw [if_neg h0, if_neg h0]
theorem lookT_gone {T : List Tx} {i : Nat} {x : Tx} (hx : T[i]? = some x) (y : Nat) (n : Int) : lookT (T.set i ⟨y, true⟩) n = if n = (i : Int) + 1 then none else lookT T n := by
  unfold lookT
  by_cases h0 : 0 < n
  · rw [if_pos h0, if_pos h0]
    by_cases e : i = (n - 1).toNat
    · subst e
      rw [List.getElem?_set_self (List.getElem?_eq_some_iff.1 hx).1, if_pos (by omega)]
      simp
    · rw [List.getElem?_set_ne e, if_neg (by omega)]
  · rw [if_neg h0, if_neg h0]
    split <;> rfl
theorem lookT_app (T : List Tx) (n : Int) : lookT (T ++ [⟨0, false⟩]) n = if n = (T.length : Int) + 1 then some T.length else lookT T n := by
  unfold lookT
  by_cases h0 : 0 < n
  · rw [if_pos h0, if_pos h0]
    by_cases e : n = (T.length : Int) + 1
    · rw [if_pos e]
      have e2 : (n - 1).toNat = T.length := by omega
      rw [e2, List.getElem?_append_right (Nat.le_refl _)]
      simp
    · rw [if_neg e]
      by_cases hl : (n - 1).toNat < T.length
      · rw [List.getElem?_append_left hl]
      · rw [List.getElem?_eq_none (by simp; omega), List.getElem?_eq_none (by omega)]
  · rw [if_neg h0, if_neg h0, if_neg (by omega)]
/-- one's word turns -/
theorem StaX.turn (h : StaX w s r F tb mb ov B O T) {i : Nat} {x : Tx} (hx : T[i]? = some x) (hg : x.gone = false) (hd : decd x.wd = false) (y : Nat) : StaX (w.setCell ⟨B i, 1, none⟩ (.int .u64 (y : Nat))) s r F tb mb ov B O (T.set i ⟨y, false⟩) := by
  have hi := (List.getElem?_eq_some_iff.1 hx).1
  have hf : Frm w (w.setCell ⟨B i, 1, none⟩ (.int .u64 (y : Nat))) (fun k => k = B i) := frm_set w (B i) 1 _ rfl
  have kp : ∀ k, F k → k ≠ B i → (w.setCell ⟨B i, 1, none⟩ (.int .u64 (y : Nat))).heap[k]? = w.heap[k]? := fun k hk hn => hf.block k (h.flt k hk) hn
  refine ⟨?_, h.ftb, h.fmb, fun j hj => h.ftx j (by simpa using hj), h.fov, ?_, owns_block h.opn (fun g hg => kp g (h.fov g hg) (h.ov_tx hg hi)), ?_, h.rise, fun j hj => by simpa using h.inn j hj, ?_, h.few, ?_, fun k hk => Nat.lt_of_lt_of_le (h.flt k hk) hf.size⟩
  · rw [List.length_set]
    exact (kp tb h.ftb (Ne.symm (h.ne_tx hi))).trans h.blk
  · rw [List.length_set]
    refine (h.map.of_block (kp mb h.fmb (Ne.symm (h.tx_mb hi)))).ext fun n => ?_
    rw [lookT_set hx hg]
  · intro j z hz
    by_cases e : i = j
    · subst e
      rw [List.getElem?_set_self hi] at hz
      cases hz
      rw [heap_set_same w (B i) 1 _ _ _ _ (h.tx i x hx)]
      rfl
    · rw [List.getElem?_set_ne e] at hz
      have hj := (List.getElem?_eq_some_iff.1 hz).1
      exact (kp _ (h.ftx j hj) (Ne.symm (h.tx_ne hi hj e))).trans (h.tx j z hz)
  · intro j z hz hdz
    by_cases e : i = j
    · subst e
      exact h.all i x hx hd
    · rw [List.getElem?_set_ne e] at hz
      exact h.all j z hz hdz
  · intro z hz hgz
    rcases List.mem_or_eq_of_mem_set hz with hz | hz
    · exact h.gon z hz hgz
    · rw [hz] at hgz
      cases hgz
/-- one is forgotten -/
theorem StaX.forget (h : StaX w s r F tb mb ov B O T) {i : Nat} {x : Tx} (hx : T[i]? = some x) (hd : decd x.wd = true) (hf : Frm w w' (fun k => k = mb)) (hm : HasMap w' mb T.length (updF (fun n => (lookT T n).map B) ((i : Int) + 1) none)) : StaX w' s r F tb mb ov B O (T.set i ⟨x.wd, true⟩) := by
  have hi := (List.getElem?_eq_some_iff.1 hx).1
  have kp : ∀ k, F k → k ≠ mb → w'.heap[k]? = w.heap[k]? := fun k hk hn => hf.block k (h.flt k hk) hn
  refine ⟨?_, h.ftb, h.fmb, fun j hj => h.ftx j (by simpa using hj), h.fov, ?_, owns_block h.opn (fun g hg => kp g (h.fov g hg) (h.ov_mb hg)), ?_, h.rise, fun j hj => by simpa using h.inn j hj, ?_, h.few, ?_, fun k hk => Nat.lt_of_lt_of_le (h.flt k hk) hf.size⟩
  · rw [List.length_set]
    exact (kp tb h.ftb (Ne.symm h.ne_mb)).trans h.blk
  · rw [List.length_set]
    refine hm.ext fun n => ?_
    rw [lookT_gone hx]
    unfold updF
    split <;> rfl
  · intro j z hz
    by_cases e : i = j
    · subst e
      rw [List.getElem?_set_self hi] at hz
      cases hz
      exact (kp _ (h.ftx i hi) (h.tx_mb hi)).trans (h.tx i x hx)
    · rw [List.getElem?_set_ne e] at hz
      have hj := (List.getElem?_eq_some_iff.1 hz).1
      exact (kp _ (h.ftx j hj) (h.tx_mb hj)).trans (h.tx j z hz)
  · intro j z hz hdz
    by_cases e : i = j
    · subst e
      rw [List.getElem?_set_self hi] at hz
      cases hz
      rw [hd] at hdz
      cases hdz
    · rw [List.getElem?_set_ne e] at hz
      exact h.all j z hz hdz
  · intro z hz hgz
    rcases List.mem_or_eq_of_mem_set hz with hz | hz
    · exact h.gon z hz hgz
    · rw [hz]
      exact hd
end
end Go.Proofs.Ytmcdpadmjicafaa
