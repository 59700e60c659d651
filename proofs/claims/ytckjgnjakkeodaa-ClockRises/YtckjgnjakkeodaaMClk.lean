/- Clocks as mathematics: the last stamp, the frontier that is held, the ring, and which are open. -/
import Derived.WalkKit
namespace Go.Proofs.Ytckjgnjakkeodaa

/-- the frontier: below all that are open -/
def frO (la : Nat) : List Nat → Nat
  | [] => la
  | x :: _ => x - 1

/-- WHAT A CLOCK HOLDS: its last stamp, a frontier that may lag, a ring of stamps that are done; O: those that are open, rising. -/
structure ClkO (la fr : Nat) (D : Nat → Nat) (O : List Nat) : Prop where
  top : la ≤ 4611686018427387904
  lag : fr ≤ frO la O
  ring : la ≤ frO la O + 4096
  sort : O.Pairwise (· < ·)
  pos : ∀ s ∈ O, 0 < s
  has : ∀ s, fr < s → s ≤ la → (s ∈ O ↔ D (s % 4096) < s)
  below : ∀ s ∈ O, s ≤ la
  old : ∀ i, i < 4096 → D i ≤ la ∧ (D i = 0 ∨ D i % 4096 = i)

theorem frO_le {la : Nat} {O : List Nat} (h : ∀ s ∈ O, s ≤ la) : frO la O ≤ la := by
  cases O with
  | nil => exact Nat.le_refl _
  | cons x t => have := h x (by simp); simp only [frO]; omega
theorem frO_lt {la : Nat} {O : List Nat} (hs : O.Pairwise (· < ·)) (hp : ∀ s ∈ O, 0 < s) (s : Nat) (h : s ∈ O) : frO la O < s := by
  cases O with
  | nil => cases h
  | cons x t =>
    have hx := hp x (by simp)
    simp only [frO]
    rcases List.mem_cons.1 h with rfl | h
    · omega
    · have := (List.pairwise_cons.1 hs).1 s h
      omega
theorem ClkO.le {la fr : Nat} {D : Nat → Nat} {O : List Nat} (h : ClkO la fr D O) : frO la O ≤ la := frO_le h.below
theorem ClkO.lt {la fr : Nat} {D : Nat → Nat} {O : List Nat} (h : ClkO la fr D O) (s : Nat) (hs : s ∈ O) : frO la O < s := frO_lt h.sort h.pos s hs

/-- the ring below the frontier: done -/
theorem ClkO.under {la fr : Nat} {D : Nat → Nat} {O : List Nat} (h : ClkO la fr D O) (f : Nat) (h1 : fr ≤ f) (h2 : f < frO la O) : f < D ((f + 1) % 4096) := by
  have h3 := h.le
  have h4 := h.has (f + 1) (by omega) (by omega)
  have h5 : ¬ (f + 1 ∈ O) := fun hm => by have := h.lt _ hm; omega
  have h6 : ¬ (D ((f + 1) % 4096) < f + 1) := fun hd => h5 (h4.2 hd)
  omega
/-- at the frontier: the next one is not done -/
theorem ClkO.at {la fr : Nat} {D : Nat → Nat} {O : List Nat} (h : ClkO la fr D O) : D ((frO la O + 1) % 4096) ≤ frO la O := by
  have hlag := h.lag
  cases O with
  | nil => exact (h.old _ (Nat.mod_lt _ (by decide))).1
  | cons x t =>
    have hx := h.pos x (by simp)
    have hl := h.below x (by simp)
    have e : frO la (x :: t) + 1 = x := by simp only [frO]; omega
    have hfr : fr < x := by rw [← e]; omega
    have h1 := (h.has x hfr hl).1 (by simp)
    rw [e]
    simp only [frO]
    omega
theorem ClkO.move {la fr : Nat} {D : Nat → Nat} {O : List Nat} (h : ClkO la fr D O) (f : Nat) (h1 : fr ≤ f) (h2 : f ≤ frO la O) : ClkO la f D O :=
  ⟨h.top, h2, h.ring, h.sort, h.pos, fun s h3 h4 => h.has s (by omega) h4, h.below, h.old⟩

theorem frO_append (la : Nat) (O : List Nat) : frO (la + 1) (O ++ [la + 1]) = frO la O := by
  cases O with
  | nil => simp [frO]
  | cons x t => simp [frO]

/-- a stamp is taken -/
theorem ClkO.take {la fr : Nat} {D : Nat → Nat} {O : List Nat} (h : ClkO la fr D O) (h1 : la < 4611686018427387904) (h2 : la < frO la O + 4096) : ClkO (la + 1) fr D (O ++ [la + 1]) := by
  refine ⟨by omega, by rw [frO_append]; exact h.lag, by rw [frO_append]; omega, ?_, ?_, ?_, ?_, fun i hi => ⟨Nat.le_succ_of_le (h.old i hi).1, (h.old i hi).2⟩⟩
  · rw [List.pairwise_append]
    refine ⟨h.sort, by simp, fun a ha b hb => ?_⟩
    have := h.below a ha
    simp at hb
    omega
  · intro s hs
    rcases List.mem_append.1 hs with hs | hs
    · exact h.pos s hs
    · simp at hs; omega
  · intro s h3 h4
    by_cases e : s = la + 1
    · subst e
      have := (h.old ((la + 1) % 4096) (Nat.mod_lt _ (by decide))).1
      simp
      omega
    · rw [← h.has s h3 (by omega)]
      simp [e]
  · intro s hs
    rcases List.mem_append.1 hs with hs | hs
    · have := h.below s hs; omega
    · simp at hs; omega

/-- the ring with a stamp set -/
def upd (D : Nat → Nat) (i s : Nat) : Nat → Nat := fun j => if j = i then s else D j
theorem upd_same (D : Nat → Nat) (i s : Nat) : upd D i s i = s := by simp [upd]
theorem upd_other (D : Nat → Nat) (i j s : Nat) (h : j ≠ i) : upd D i s j = D j := by simp [upd, h]

/-- those that are left -/
def left (O : List Nat) (s : Nat) : List Nat := O.filter (fun x => x != s)
theorem mem_left (O : List Nat) (s x : Nat) : x ∈ left O s ↔ x ∈ O ∧ x ≠ s := by simp [left]
theorem left_none (O : List Nat) (s : Nat) (h : ¬ s ∈ O) : left O s = O := by
  unfold left
  rw [List.filter_eq_self]
  intro a ha
  simp
  rintro rfl
  exact h ha
theorem frO_left {la : Nat} {O : List Nat} (hs : O.Pairwise (· < ·)) (hb : ∀ s ∈ O, s ≤ la) (s : Nat) : frO la O ≤ frO la (left O s) := by
  cases O with
  | nil => exact Nat.le_refl _
  | cons x t =>
    have hx := hb x (by simp)
    cases hl : left (x :: t) s with
    | nil => show x - 1 ≤ la; omega
    | cons y u =>
      show x - 1 ≤ y - 1
      have hy : y ∈ left (x :: t) s := by rw [hl]; simp
      rw [mem_left] at hy
      rcases List.mem_cons.1 hy.1 with rfl | h
      · exact Nat.le_refl _
      · have := (List.pairwise_cons.1 hs).1 y h
        omega

/-- a stamp is done -/
theorem ClkO.done {la fr : Nat} {D : Nat → Nat} {O : List Nat} (h : ClkO la fr D O) (s : Nat) (hs : s ∈ O) : ClkO la fr (upd D (s % 4096) s) (left O s) := by
  have hF := frO_left h.sort h.below s
  have h0 := h.lag
  have h1 := h.ring
  have h2 := h.lt s hs
  have h3 := h.below s hs
  refine ⟨h.top, by omega, by omega, List.Pairwise.filter _ h.sort, fun x hx => h.pos x ((mem_left _ _ _).1 hx).1, ?_, fun x hx => h.below x ((mem_left _ _ _).1 hx).1, ?_⟩
  · intro x h4 h5
    rw [mem_left]
    by_cases e : x % 4096 = s % 4096
    · rw [e, upd_same]
      by_cases e2 : x = s
      · subst e2
        simp
      · have h6 : x ≤ frO la O := by omega
        have h7 : ¬ x ∈ O := fun hm => by have := h.lt x hm; omega
        constructor
        · intro hh; exact absurd hh.1 h7
        · intro hh; omega
    · rw [upd_other _ _ _ _ e, h.has x h4 h5]
      have : x ≠ s := by rintro rfl; exact e rfl
      simp [this]
  · intro i hi
    by_cases e : i = s % 4096
    · subst e
      rw [upd_same]
      exact ⟨h3, .inr rfl⟩
    · rw [upd_other _ _ _ _ e]
      exact h.old i hi

/-- a stamp that is not open -/
theorem ClkO.not_open {la fr : Nat} {D : Nat → Nat} {O : List Nat} (h : ClkO la fr D O) (s : Nat) (hs : ¬ s ∈ O) (h1 : s ≤ la) (h2 : fr < s) : s ≤ D (s % 4096) := by
  have := h.has s h2 h1
  have h3 : ¬ (D (s % 4096) < s) := fun hd => hs (this.2 hd)
  omega
theorem ClkO.is_open {la fr : Nat} {D : Nat → Nat} {O : List Nat} (h : ClkO la fr D O) (s : Nat) (hs : s ∈ O) : s ≤ la ∧ fr < s ∧ D (s % 4096) < s := by
  have h1 := h.below s hs
  have h2 := h.lt s hs
  have h3 := h.lag
  exact ⟨h1, by omega, (h.has s (by omega) h1).1 hs⟩

/-- a new clock -/
theorem ClkO.new (la : Nat) (h : la ≤ 4611686018427387904) : ClkO la la (fun _ => 0) [] :=
  ⟨h, Nat.le_refl _, by simp [frO], by simp, by simp, fun s h1 h2 => by omega, by simp, fun i _ => ⟨Nat.zero_le _, .inl rfl⟩⟩

/-- the stamps behind f, up to f + n, that are open -/
def opn (D : Nat → Nat) (f n : Nat) : List Nat := ((List.range n).map (f + 1 + ·)).filter (fun s => decide (D (s % 4096) < s))
theorem opn_zero (D : Nat → Nat) (f : Nat) : opn D f 0 = [] := rfl
theorem opn_succ (D : Nat → Nat) (f n : Nat) : opn D f (n + 1) = if D ((f + 1 + n) % 4096) < f + 1 + n then opn D f n ++ [f + 1 + n] else opn D f n := by
  unfold opn
  rw [List.range_succ, List.map_append, List.filter_append]
  simp only [List.map_cons, List.map_nil]
  split
  · rename_i hh; simp [hh]
  · rename_i hh; simp [hh]
theorem opn_len (D : Nat → Nat) (f n : Nat) : (opn D f n).length ≤ n := by
  unfold opn
  refine Nat.le_trans (List.length_filter_le _ _) ?_
  simp

theorem pw_ext : ∀ (A B : List Nat), A.Pairwise (· < ·) → B.Pairwise (· < ·) → (∀ x, x ∈ A ↔ x ∈ B) → A = B
  | [], [], _, _, _ => rfl
  | [], b :: B, _, _, h => absurd ((h b).2 (by simp)) (by simp)
  | a :: A, [], _, _, h => absurd ((h a).1 (by simp)) (by simp)
  | a :: A, b :: B, hA, hB, h => by
    rw [List.pairwise_cons] at hA hB
    have e : a = b := by
      rcases List.mem_cons.1 ((h a).1 (by simp)) with e | h1
      · exact e
      · rcases List.mem_cons.1 ((h b).2 (by simp)) with e | h2
        · exact e.symm
        · have := hB.1 a h1; have := hA.1 b h2; omega
    subst e
    rw [pw_ext A B hA.2 hB.2 (fun x => ?_)]
    constructor
    · intro hx
      rcases List.mem_cons.1 ((h x).1 (List.mem_cons_of_mem _ hx)) with e | h1
      · have := hA.1 x hx; omega
      · exact h1
    · intro hx
      rcases List.mem_cons.1 ((h x).2 (List.mem_cons_of_mem _ hx)) with e | h1
      · have := hB.1 x hx; omega
      · exact h1

theorem ClkO.opn_eq {la fr : Nat} {D : Nat → Nat} {O : List Nat} (h : ClkO la fr D O) : opn D (frO la O) (la - frO la O) = O := by
  have h0 := h.le
  have h1 := h.lag
  refine pw_ext _ _ ?_ h.sort (fun x => ?_)
  · unfold opn
    refine List.Pairwise.filter _ ?_
    rw [List.pairwise_map]
    exact List.pairwise_lt_range.imp (fun {a b} hab => by omega)
  · unfold opn
    rw [List.mem_filter, List.mem_map]
    constructor
    · rintro ⟨⟨i, hi, rfl⟩, hd⟩
      have hi' := List.mem_range.1 hi
      exact (h.has _ (by omega) (by omega)).2 (by simpa using hd)
    · intro hx
      have h2 := h.lt x hx
      obtain ⟨h3, h4, h5⟩ := h.is_open x hx
      exact ⟨⟨x - frO la O - 1, List.mem_range.2 (by omega), by omega⟩, by simpa using h5⟩
theorem ClkO.len {la fr : Nat} {D : Nat → Nat} {O : List Nat} (h : ClkO la fr D O) : O.length ≤ 4096 := by
  have h1 := opn_len D (frO la O) (la - frO la O)
  rw [h.opn_eq] at h1
  have := h.ring
  omega
end Go.Proofs.Ytckjgnjakkeodaa
