/- Layer 13: what Meet tells is that some key is in both. -/
import Derived.Test.YtcdamalpecedcaaGreatMGap
namespace Go.Proofs.YtcdamalpecedcaaGreat
set_option maxRecDepth 100000

/-- what the document's Meet tells -/
def metB (x y : Rg) : Bool := !emptyB (bothR x.lo x.hi x.op y.lo y.hi y.op).1 (bothR x.lo x.hi x.op y.lo y.hi y.op).2.1 (bothR x.lo x.hi x.op y.lo y.hi y.op).2.2
theorem mnB_lt (k a b : ByteArray) : ltB k (mnB a b) = true ↔ (ltB k a = true ∧ ltB k b = true) := by
  unfold mnB
  cases h : ltB b a with
  | true =>
    rw [if_pos rfl]
    exact ⟨fun h1 => ⟨lt_trans' h1 h, h1⟩, fun h1 => h1.2⟩
  | false =>
    rw [if_neg (by decide)]
    exact ⟨fun h1 => ⟨h1, lt_of_lt_of_le' h1 h⟩, fun h1 => h1.1⟩
theorem bh_lt (k : ByteArray) (x y : Rg) (h : (x.op && y.op) = false) : ltB k (bothH x.hi x.op y.hi y.op) = true ↔ ((x.op = true ∨ ltB k x.hi = true) ∧ (y.op = true ∨ ltB k y.hi = true)) := by
  unfold bothH
  cases hx : x.op with
  | true =>
    rw [hx, Bool.true_and] at h
    rw [if_pos rfl, h]
    simp
  | false =>
    rw [if_neg (by decide)]
    cases hy : y.op with
    | true =>
      rw [if_pos rfl]
      simp
    | false =>
      rw [if_neg (by decide), mnB_lt]
      simp
theorem mx_ge (k a b : ByteArray) : ltB k (mxB a b) = false ↔ (ltB k a = false ∧ ltB k b = false) := by
  obtain ⟨h1, h2⟩ := mxB_le a b
  constructor
  · intro h
    exact ⟨le_trans' h1 h, le_trans' h2 h⟩
  · rintro ⟨h3, h4⟩
    rcases mxB_or a b with e | e
    · rw [e]; exact h3
    · rw [e]; exact h4
theorem met_iff (x y : Rg) : metB x y = true ↔ metR x y := by
  have hb : ∀ k, (x.has k ∧ y.has k) ↔ (ltB k (mxB x.lo y.lo) = false ∧ (x.op = true ∨ ltB k x.hi = true) ∧ (y.op = true ∨ ltB k y.hi = true)) := by
    intro k
    rw [mx_ge]
    unfold Rg.has
    constructor
    · rintro ⟨⟨a1, a2⟩, ⟨b1, b2⟩⟩
      exact ⟨⟨a1, b1⟩, a2, b2⟩
    · rintro ⟨⟨a1, b1⟩, a2, b2⟩
      exact ⟨⟨a1, a2⟩, ⟨b1, b2⟩⟩
  unfold metB metR bothR
  cases ho : (x.op && y.op) with
  | true =>
    rw [if_pos rfl]
    rw [Bool.and_eq_true] at ho
    refine ⟨fun _ => ⟨mxB x.lo y.lo, (hb _).2 ⟨ltB_irrefl _, .inl ho.1, .inl ho.2⟩⟩, fun _ => ?_⟩
    unfold emptyB
    rfl
  | false =>
    rw [if_neg (by decide)]
    cases hl : ltB (mxB x.lo y.lo) (bothH x.hi x.op y.hi y.op) with
    | true =>
      have he : emptyB (mxB x.lo y.lo) (bothH x.hi x.op y.hi y.op) false = false := by
        unfold emptyB
        rw [hl]
        rfl
      rw [he, if_neg (by decide)]
      refine ⟨fun _ => ⟨mxB x.lo y.lo, (hb _).2 ⟨ltB_irrefl _, ((bh_lt _ x y ho).1 hl)⟩⟩, fun _ => ?_⟩
      show (!emptyB (mxB x.lo y.lo) (bothH x.hi x.op y.hi y.op) false) = true
      rw [he]
      rfl
    | false =>
      have he : emptyB (mxB x.lo y.lo) (bothH x.hi x.op y.hi y.op) false = true := by
        unfold emptyB
        rw [hl]
        rfl
      rw [he, if_pos rfl]
      constructor
      · intro h
        exfalso
        have e0 : emptyB (⟨#[]⟩ : ByteArray) ⟨#[]⟩ false = true := by
          unfold emptyB
          rw [ltB_irrefl]
          rfl
        dsimp only at h
        rw [e0] at h
        cases h
      · rintro ⟨k, hk⟩
        exfalso
        obtain ⟨k1, k2⟩ := (hb k).1 hk
        have h3 := lt_of_le_of_lt' k1 ((bh_lt k x y ho).2 k2)
        rw [hl] at h3
        cases h3
/-- are two holds in each other's way? -/
def tstB (x y : Hd) : Bool := (x.al || y.al) && metB x.r y.r
theorem way_any_iff (A B : List Hd) : wayB A B = A.any (fun x => B.any (fun y => tstB x y)) := by
  rw [Bool.eq_iff_iff, wayB_iff, List.any_eq_true]
  unfold wayP tstB
  constructor
  · rintro ⟨x, hx, y, hy, h1, h2⟩
    refine ⟨x, hx, List.any_eq_true.2 ⟨y, hy, ?_⟩⟩
    rw [Bool.and_eq_true, Bool.or_eq_true]
    exact ⟨h1, (met_iff _ _).2 h2⟩
  · rintro ⟨x, hx, h⟩
    obtain ⟨y, hy, h1⟩ := List.any_eq_true.1 h
    rw [Bool.and_eq_true, Bool.or_eq_true] at h1
    exact ⟨x, hx, y, hy, h1.1, (met_iff _ _).1 h1.2⟩
end Go.Proofs.YtcdamalpecedcaaGreat
