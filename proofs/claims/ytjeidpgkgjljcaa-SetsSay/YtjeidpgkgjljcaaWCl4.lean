/- Points in spans; inOrder of any list. -/
import Derived.Test.YtjeidpgkgjljcaaWBs
import Derived.Test.YtjeidpgkgjljcaaWSpF
import Derived.Test.YtjeidpgkgjljcaaWCl2
namespace Go.Proofs.Ytjeidpgkgjljcaa
open Go.Shelf Go.RowKit Go.Lib Go.Sort
set_option maxRecDepth 100000

set_option maxHeartbeats 2000000 in
theorem insPN_any (fv : Value) (w : World) : Calls Try.prog 84 #[.slice none 0 0, .int .i64 0, .int .i64 0, fv] w fun e w' => e = .returned (.tuple #[]) ∧ w' = w := by
  go_enter Try.func84, Try.ntmps84
  go_wp2
  refine wp_loop_rounds 1 ?_
  rw [rounds_succ]
  go_wp2
  go_end0
  exact ⟨rfl, rfl⟩

set_option maxHeartbeats 2000000 in
theorem pdqPN_any (lim : Int) (fv : Value) (w : World) : Calls Try.prog 74 #[.slice none 0 0, .int .i64 0, .int .i64 0, .int .i64 lim, fv] w fun e w' => e = .returned (.tuple #[]) ∧ w' = w := by
  have hi := fun W => insPN_any fv W
  go_enter Try.func74, Try.ntmps74
  go_wp2
  refine wp_loop_rounds 1 ?_
  rw [rounds_succ]
  go_wp2_with (go_at_call 84; refine (hi _).mono ?_; rintro e w' ⟨rfl, rfl⟩)
  (try simp only [Exit.inBlock, Exit.then]); refine bodyPost_ret (results_none rfl _ _ _) rfl ?_
  exact ⟨rfl, rfl⟩

set_option maxHeartbeats 2000000 in
theorem sortPN_any (fv : Value) (w : World) : Calls Try.prog 64 #[.slice none 0 0, fv] w fun e w' => e = .returned (.tuple #[]) ∧ w' = w := by
  have hp := fun lim W => pdqPN_any lim fv W
  have hl := lenN_any
  go_enter Try.func64, Try.ntmps64
  go_wp2_with (first | (go_at_call 75; refine (hl _).mono ?_; rintro e w' ⟨rfl, rfl⟩) | (go_at_call 74; refine (hp _ _).mono ?_; rintro e w' ⟨rfl, rfl⟩))
  go_end0
  exact ⟨rfl, rfl⟩


theorem inOrder_none (w : World) : Calls Try.prog 43 #[.slice none 0 0] w fun e w' => e = .returned (.slice none 0 0) ∧ RowKit.Below w.heap.size w w' := by
  have C1 : Hid (Calls _ _ _ _ _) := clonePN_any w
  have C2 : Hid (∀ w1 : World, Calls Try.prog 64 #[.slice none 0 0, .func (.func 46) #[] #[]] w1 fun e w' => e = .returned (.tuple #[]) ∧ w' = w1) := fun w1 => sortPN_any _ w1
  have C3 : Hid (∀ w1 : World, Calls Try.prog 65 #[.slice none 0 0] w1 fun e w' => e = .returned (.slice none 0 0) ∧ w' = w1) := fun w1 => by
    go_enter Try.func65, Try.ntmps65
    go_wp2_with fail
    go_ret
    exact ⟨rfl, rfl⟩
  go_enter Try.func43, Try.ntmps43
  go_wp2_with fail
  refine C1.out.mono ?_
  rintro e w1 ⟨rfl, hb1⟩
  go_wp2_with fail
  refine (C2.out _).mono ?_
  rintro e w2 ⟨rfl, h2⟩
  rw [h2]
  clear h2
  go_wp2_with fail
  refine (C3.out _).mono ?_
  rintro e w3 ⟨rfl, h3⟩
  rw [h3]
  clear h3
  go_wp2_with fail
  go_ret
  exact ⟨rfl, hb1⟩
/-- a list of points that is read -/
structure SlP (w : World) (v : Value) (L : List Pt) : Prop where
  f : ∃ p c, v = .slice p L.length c ∧ L.length ≤ c ∧ (p = none → c = 0) ∧ RowP w w.heap.size p L
theorem SlP.on {w w' : World} {v : Value} {L : List Pt} (h : SlP w v L) (hb : RowKit.Below w.heap.size w w') : SlP w' v L := by
  obtain ⟨p, c, e, h1, h2, h3⟩ := h.f
  exact ⟨p, c, e, h1, h2, h3.on hb⟩
structure SlS (w : World) (v : Value) (L : List Sp) : Prop where
  f : ∃ p c, v = .slice p L.length c ∧ L.length ≤ c ∧ (p = none → c = 0) ∧ RowS w w.heap.size p L
theorem SlS.on {w w' : World} {v : Value} {L : List Sp} (h : SlS w v L) (hb : RowKit.Below w.heap.size w w') : SlS w' v L := by
  obtain ⟨p, c, e, h1, h2, h3⟩ := h.f
  exact ⟨p, c, e, h1, h2, h3.on hb⟩
theorem OwnP.sl {w : World} {B : Nat} {v : Value} {L : List Pt} (h : OwnP w B v L) : SlP w v L := by
  rcases h.form with ⟨rfl, rfl⟩ | ⟨g, cap, rfl, _, hg⟩
  · exact ⟨none, 0, rfl, Nat.le_refl _, fun _ => rfl, fun i hi => absurd hi (by simp)⟩
  · obtain ⟨p, c, e, hr⟩ := h.row
    obtain ⟨rfl, -, rfl⟩ := Value.slice.inj e
    exact ⟨_, _, rfl, h.cap.1, fun h => (by cases h), hr⟩
theorem OwnS.sl {w : World} {B : Nat} {v : Value} {L : List Sp} (h : OwnS w B v L) : SlS w v L := by
  rcases h.form with ⟨rfl, rfl⟩ | ⟨g, cap, rfl, _, hg⟩
  · exact ⟨none, 0, rfl, Nat.le_refl _, fun _ => rfl, fun i hi => absurd hi (by simp)⟩
  · obtain ⟨p, c, e, hr⟩ := h.row
    obtain ⟨rfl, -, rfl⟩ := Value.slice.inj e
    exact ⟨_, _, rfl, h.cap.1, fun h => (by cases h), hr⟩
theorem inOrder_any (L : List Pt) (v : Value) (w : World) (h : SlP w v L) (hlen : L.length ≤ 4398046511104) :
    Calls Try.prog 43 #[v] w fun e w' => ∃ (v' : Value) (R : List Pt), e = .returned v' ∧ OwnP w' w.heap.size v' R ∧ RisP R ∧ (∀ x, x ∈ R ↔ x ∈ L) ∧ R.length ≤ L.length ∧ RowKit.Below w.heap.size w w' := by
  obtain ⟨p, c, rfl, h1, h2, h3⟩ := h.f
  cases p with
  | none =>
    have e := rowP_len h3 rfl
    subst e
    rw [h2 rfl]
    refine (inOrder_none w).mono ?_
    rintro e w1 ⟨rfl, hb⟩
    exact ⟨_, [], rfl, OwnP.nil _ _, List.Pairwise.nil, fun _ => Iff.rfl, Nat.le_refl _, hb⟩
  | some a => exact inOrder_some L a c w h3 hlen h1

/-- is a point in a span? -/
def inS (x : Pt) (s : Sp) : Bool := (x.t == s.t) && ((x.i == s.i) && hasB s.lo s.hi s.op x.k)
def bgn (s : Sp) : Pt := ⟨s.t, s.i, s.lo⟩
theorem ltP_false {a b : Pt} (h : ltP a b = false) : b.t < a.t ∨ b.t = a.t ∧ (b.i < a.i ∨ b.i = a.i ∧ ltB a.k b.k = false) := by
  rcases Int.lt_trichotomy a.t b.t with h1 | h1 | h1
  · rw [(ltP_iff a b).2 (.inl h1)] at h; cases h
  · rcases Int.lt_trichotomy a.i b.i with h2 | h2 | h2
    · rw [(ltP_iff a b).2 (.inr ⟨h1, .inl h2⟩)] at h; cases h
    · refine .inr ⟨h1.symm, .inr ⟨h2.symm, ?_⟩⟩
      cases h3 : ltB a.k b.k
      · rfl
      · rw [(ltP_iff a b).2 (.inr ⟨h1, .inr ⟨h2, h3⟩⟩)] at h; cases h
    · exact .inr ⟨h1.symm, .inl h2⟩
  · exact .inl h1
theorem inS_ge {x : Pt} {s : Sp} (h : inS x s = true) : ltP x (bgn s) = false := by
  cases hc : ltP x (bgn s)
  · rfl
  · rw [ltP_iff] at hc
    simp only [inS, Bool.and_eq_true, beq_iff_eq, hasB, Bool.not_eq_true'] at h
    obtain ⟨h1, h2, h3, _⟩ := h
    simp only [bgn] at hc
    rcases hc with hc | ⟨_, hc | ⟨_, hc⟩⟩
    · omega
    · omega
    · rw [h3] at hc; cases hc
theorem inS_mid {x y : Pt} {s : Sp} (hb : ltP y (bgn s) = false) (hxy : ltP x y = false) (hx : inS x s = true) : inS y s = true := by
  have h1 := ltP_false hb
  have h2 := ltP_false hxy
  simp only [inS, Bool.and_eq_true, beq_iff_eq, hasB, Bool.not_eq_true', Bool.or_eq_true] at hx ⊢
  obtain ⟨e1, e2, e3, e4⟩ := hx
  simp only [bgn] at h1
  have et : y.t = s.t := by rcases h1 with h | ⟨h, _⟩ <;> rcases h2 with h' | ⟨h', _⟩ <;> omega
  have ei : y.i = s.i := by
    rcases h1 with h | ⟨_, h | ⟨h, _⟩⟩ <;> rcases h2 with h' | ⟨_, h' | ⟨h', _⟩⟩ <;> omega
  have hk1 : ltB y.k s.lo = false := by
    rcases h1 with h | ⟨_, h | ⟨_, h⟩⟩
    · omega
    · omega
    · exact h
  have hk2 : ltB x.k y.k = false := by
    rcases h2 with h | ⟨_, h | ⟨_, h⟩⟩
    · omega
    · omega
    · exact h
  refine ⟨et, ei, hk1, ?_⟩
  rcases e4 with h | h
  · exact .inl h
  · refine .inr ?_
    cases hc : ltB y.k s.hi
    · rw [le_trans' hc hk2] at h; cases h
    · rfl

set_option maxHeartbeats 1000000 in
theorem isIn_any (x : Pt) (s : Sp) (w : World) : Calls Try.prog 29 #[PV x, .agg #[.int .i64 s.t, .int .i64 s.i, .string s.lo, .string s.hi, .bool s.op]] w fun e w' => e = .returned (.bool (inS x s)) ∧ RowKit.Below w.heap.size w w' := by
  have C1 : Hid (∀ w1 : World, Calls Try.prog 51 #[rngV s.lo s.hi s.op, .string x.k] w1 fun e w' => e = .returned (.bool (hasB s.lo s.hi s.op x.k)) ∧ RowKit.Below w1.heap.size w1 w') := fun w1 => has_any s.lo s.hi s.op x.k w1
  unfold inS
  generalize hasB s.lo s.hi s.op x.k = hb at *
  cases h1 : (x.t == s.t) <;> cases h2 : (x.i == s.i)
  all_goals
    go_enter Try.func29, Try.ntmps29
    go_wp2_with (first | (go_at_call 51; refine (C1.out _).mono ?_; rintro e w5 ⟨rfl, hb5⟩))
    go_ret
    refine ⟨rfl, ?_⟩
    first | exact ((((Below.refl _ _).alloc (Nat.le_refl _) _).alloc (by simp) _).trans (hb5.mono (by simp; omega))) | exact ((Below.refl _ _).alloc (Nat.le_refl _) _).alloc (by simp) _

set_option maxHeartbeats 1000000 in
theorem begin_any (s : Sp) (w : World) : Calls Try.prog 45 #[.agg #[.int .i64 s.t, .int .i64 s.i, .string s.lo, .string s.hi, .bool s.op]] w fun e w' => e = .returned (PV (bgn s)) ∧ RowKit.Below w.heap.size w w' := by
  go_enter Try.func45, Try.ntmps45
  go_wp2
  go_returns
  exact ⟨rfl, by go_grown⟩
end Go.Proofs.Ytjeidpgkgjljcaa
