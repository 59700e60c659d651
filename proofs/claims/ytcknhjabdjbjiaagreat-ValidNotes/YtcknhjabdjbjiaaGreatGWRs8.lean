/- The document's Same of feet that are the same. The document's sorted. -/
import Derived.Test.YtcknhjabdjbjiaaGreatGWRs6
namespace Go.Proofs.YtcknhjabdjbjiaaGreat
open Go.RowKit
set_option maxRecDepth 100000



end Go.Proofs.YtcknhjabdjbjiaaGreat

namespace Go.Proofs.YtcknhjabdjbjiaaGreat
open Go.RowKit
set_option maxRecDepth 100000

/-- a merge under way -/
structure MrgI (S : Pt → Prop) (N : Nat) (A B O : List Pt) : Prop where
  ra : RisP A
  rb : RisP B
  ro : RisP O
  oa : ∀ x ∈ O, ∀ y ∈ A, ltP x y = true
  ob : ∀ x ∈ O, ∀ y ∈ B, ltP x y = true
  mem : ∀ x, (x ∈ O ∨ x ∈ A ∨ x ∈ B) ↔ S x
  len : O.length + A.length + B.length ≤ N
theorem RisP.snoc {O : List Pt} {x : Pt} (h : RisP O) (hx : ∀ z ∈ O, ltP z x = true) : RisP (O ++ [x]) :=
  List.pairwise_append.2 ⟨h, List.pairwise_singleton _ _, fun a ha b hb => by rw [List.mem_singleton.1 hb]; exact hx a ha⟩
theorem MrgI.left {S : Pt → Prop} {N : Nat} {x : Pt} {A B O : List Pt} (h : MrgI S N (x :: A) B O) (hx : ∀ z ∈ B, ltP x z = true) : MrgI S N A B (O ++ [x]) := by
  have h1 := List.pairwise_cons.1 h.ra
  refine ⟨h1.2, h.rb, h.ro.snoc (fun z hz => h.oa z hz x (List.mem_cons_self ..)), ?_, ?_, ?_, ?_⟩
  · intro z hz y hy
    rcases List.mem_append.1 hz with hz | hz
    · exact h.oa z hz y (List.mem_cons_of_mem _ hy)
    · rw [List.mem_singleton.1 hz]; exact h1.1 y hy
  · intro z hz y hy
    rcases List.mem_append.1 hz with hz | hz
    · exact h.ob z hz y hy
    · rw [List.mem_singleton.1 hz]; exact hx y hy
  · intro z
    rw [← h.mem z]
    simp only [List.mem_append, List.mem_cons, List.not_mem_nil, or_false]
    constructor
    · rintro ((h | h) | h | h)
      · exact .inl h
      · exact .inr (.inl (.inl h))
      · exact .inr (.inl (.inr h))
      · exact .inr (.inr h)
    · rintro (h | (h | h) | h)
      · exact .inl (.inl h)
      · exact .inl (.inr h)
      · exact .inr (.inl h)
      · exact .inr (.inr h)
  · have := h.len
    simp only [List.length_append, List.length_cons, List.length_nil] at this ⊢
    omega
theorem MrgI.start {A B : List Pt} (ha : RisP A) (hb : RisP B) : MrgI (fun x => x ∈ A ∨ x ∈ B) (A.length + B.length) A B [] :=
  ⟨ha, hb, List.Pairwise.nil, (fun x hx => by cases hx), (fun x hx => by cases hx), (fun x => by simp), (by simp)⟩
theorem MrgI.swap {S : Pt → Prop} {N : Nat} {A B O : List Pt} (h : MrgI S N A B O) : MrgI S N B A O :=
  ⟨h.rb, h.ra, h.ro, h.ob, h.oa, fun x => by rw [← h.mem x]; exact ⟨fun h => h.imp id Or.symm, fun h => h.imp id Or.symm⟩, by have := h.len; omega⟩
theorem MrgI.l0 {S : Pt → Prop} {N : Nat} {x : Pt} {A O : List Pt} (h : MrgI S N (x :: A) [] O) : MrgI S N A [] (O ++ [x]) := h.left (fun z hz => by cases hz)
theorem MrgI.r0 {S : Pt → Prop} {N : Nat} {y : Pt} {B O : List Pt} (h : MrgI S N [] (y :: B) O) : MrgI S N [] B (O ++ [y]) := h.swap.l0.swap
theorem MrgI.left' {S : Pt → Prop} {N : Nat} {x y : Pt} {A B O : List Pt} (h : MrgI S N (x :: A) (y :: B) O) (hl : ltP x y = true) : MrgI S N A (y :: B) (O ++ [x]) :=
  h.left (fun z hz => by
    rcases List.mem_cons.1 hz with rfl | hz
    · exact hl
    · exact ltP_trans hl ((List.pairwise_cons.1 h.rb).1 z hz))
theorem MrgI.lt {S : Pt → Prop} {N : Nat} {x y : Pt} {A B O : List Pt} (h : MrgI S N (x :: A) (y :: B) O) (hc : cmpP x y = -1) : MrgI S N A (y :: B) (O ++ [x]) :=
  h.left' ((cmpP_lt x y).1 (by omega))
theorem MrgI.gt {S : Pt → Prop} {N : Nat} {x y : Pt} {A B O : List Pt} (h : MrgI S N (x :: A) (y :: B) O) (hc : cmpP x y = 1) : MrgI S N (x :: A) B (O ++ [y]) := by
  refine (h.swap.left' ?_).swap
  rcases ltP_tri x y with h1 | h1 | h1
  · have := (cmpP_lt x y).2 h1; omega
  · have := (cmpP_eq x y).2 h1; omega
  · exact h1
theorem MrgI.eq {S : Pt → Prop} {N : Nat} {x y : Pt} {A B O : List Pt} (h : MrgI S N (x :: A) (y :: B) O) (hc : cmpP x y = 0) : MrgI S N A B (O ++ [y]) := by
  have e := (cmpP_eq x y).1 hc
  subst e
  have h1 := List.pairwise_cons.1 h.ra
  have h2 := List.pairwise_cons.1 h.rb
  refine MrgI.left ⟨h.ra, h2.2, h.ro, h.oa, fun z hz y hy => h.ob z hz y (List.mem_cons_of_mem _ hy), fun z => ?_, ?_⟩ h2.1
  · rw [← h.mem z]
    simp only [List.mem_cons]
    constructor
    · rintro (h | (h | h) | h)
      · exact .inl h
      · exact .inr (.inl (.inl h))
      · exact .inr (.inl (.inr h))
      · exact .inr (.inr (.inr h))
    · rintro (h | (h | h) | (h | h))
      · exact .inl h
      · exact .inr (.inl (.inl h))
      · exact .inr (.inl (.inr h))
      · exact .inr (.inl (.inl h))
      · exact .inr (.inr h)
  · have := h.len
    simp only [List.length_cons] at this ⊢
    omega
theorem RowP.dropK {w : World} {B b o : Nat} {L : List Pt} (h : RowP w B (some ⟨b, o, none⟩) L) (k : Nat) (q : Option Addr) (hq : k < L.length → q = some ⟨b, o + k * 3, none⟩) : RowP w B q (L.drop k) := by
  intro i hi
  have hi' : k + i < L.length := by
    rw [List.length_drop] at hi
    omega
  obtain ⟨b', o', e, hb, c0, c1, c2⟩ := h (k + i) hi'
  cases e
  have e : o + k * 3 + i * 3 = o + (k + i) * 3 := by omega
  refine ⟨b, o + k * 3, hq (by omega), hb, ?_, ?_, ?_⟩
  · rw [e, List.getElem_drop]; exact c0
  · rw [e, List.getElem_drop]; exact c1
  · rw [e, List.getElem_drop]; exact c2
theorem RowP.takeK {w : World} {B : Nat} {p : Option Addr} {L : List Pt} (h : RowP w B p L) (k : Nat) : RowP w B p (L.take k) := by
  intro i hi
  have hi' : i < L.length := by
    rw [List.length_take] at hi
    omega
  obtain ⟨b, o, e, hb, c0, c1, c2⟩ := h i hi'
  refine ⟨b, o, e, hb, ?_, ?_, ?_⟩ <;> rw [List.getElem_take] <;> assumption
theorem slice_fromP (b o n c k : Nat) (h : k ≤ n) : ∃ q, (k < n → n ≤ c → q = some ⟨b, o + k * 3, none⟩) ∧ ∀ w : World, (Instr.sliceAt 34 (.slice (some ⟨b, o, none⟩) n c) (some (.int .i64 (k : Int))) none none).run Tryz.prog w = .ok (.slice q (n - k) (c - k)) w := by
  refine ⟨if c = k then some ⟨b, o, none⟩ else some ⟨b, o + k * 3, none⟩, fun h1 h2 => by rw [if_neg (by omega)], fun w => ?_⟩
  have hs : (sizeOf (Tryz.prog.elem 34)).run Tryz.prog w = .ok 3 w := by kernel_rfl
  have hu : Tryz.prog.underlying 34 = some (.slice (Tryz.prog.elem 34)) := by kernel_rfl
  rw [run_sliceAt_slice (P := Tryz.prog) (w := w) _ _ _ _ _ hu, run_slice_l (P := Tryz.prog) (w := w) _ _ _ _ hu _ _ (by omega) (by omega), hs]
  simp only [Result.andThen, sliced, Int.toNat_natCast]
  by_cases hk : c = k
  · simp [hk]
  · simp [hk, Addr.add]
    try exact fun h => absurd h.symm hk
theorem slice_toP (p : Option Addr) (n c k : Nat) (h : k ≤ c) (w : World) : (Instr.sliceAt 34 (.slice p n c) none (some (.int .i64 (k : Int))) none).run Tryz.prog w = .ok (.slice p k c) w := by
  have hs : (sizeOf (Tryz.prog.elem 34)).run Tryz.prog w = .ok 3 w := by kernel_rfl
  have hu : Tryz.prog.underlying 34 = some (.slice (Tryz.prog.elem 34)) := by kernel_rfl
  rw [run_sliceAt_slice (P := Tryz.prog) (w := w) _ _ _ _ _ hu, run_slice_h (P := Tryz.prog) (w := w) _ _ _ _ hu _ _ (by omega) (by omega), hs]
  simp only [Result.andThen, sliced, Int.toNat_natCast]
  cases p with
  | none => simp
  | some a =>
    obtain ⟨b, o, x⟩ := a
    simp [Addr.add]
def lenV : Value → Nat
  | .slice _ n _ => n
  | _ => 0

set_option maxHeartbeats 8000000 in
theorem rsorted_step (L : List Pt) (ih : ∀ M : List Pt, M.length < L.length → ∀ (v : Value) (w : World), SlP w v M → M.length ≤ 4398046511104 → Calls Tryz.prog 64 #[v] w fun e w' => ∃ (v' : Value) (R : List Pt), e = .returned v' ∧ SlP w' v' R ∧ RisP R ∧ (∀ x, x ∈ R ↔ x ∈ M) ∧ R.length ≤ M.length ∧ Below w.heap.size w w')
    (v : Value) (w : World) (h : SlP w v L) (hlen : L.length ≤ 4398046511104) : Calls Tryz.prog 64 #[v] w fun e w' => ∃ (v' : Value) (R : List Pt), e = .returned v' ∧ SlP w' v' R ∧ RisP R ∧ (∀ x, x ∈ R ↔ x ∈ L) ∧ R.length ≤ L.length ∧ Below w.heap.size w w' := by
  by_cases h2 : L.length < 2
  · have HR : Hid (SlP w v L) := h
    obtain ⟨p, c, rfl, h3, h4, h5⟩ := h.f
    have HS : Hid (RisP L) := by
      match L, h2 with
      | [], _ => exact List.Pairwise.nil
      | [x], _ => exact List.pairwise_singleton _ _
    clear h h3 h4 h5 ih
    go_enter Tryz.func64, Tryz.ntmps64
    go_wp2_with fail
    go_ret
    exact ⟨_, L, rfl, HR.out, HS.out, fun _ => Iff.rfl, Nat.le_refl _, Below.refl _ _⟩
  · obtain ⟨p, c, rfl, h3, h4, h5⟩ := h.f
    obtain ⟨b, o, hp, hb0, -⟩ := h5 0 (by omega)
    subst hp
    obtain ⟨n, hn⟩ : ∃ n, n = L.length := ⟨_, rfl⟩
    obtain ⟨h9, hh9⟩ : ∃ h9, h9 = n / 2 := ⟨_, rfl⟩
    obtain ⟨q, hq⟩ : ∃ q : Option Addr, q = some ⟨b, o + h9 * 3, none⟩ := ⟨_, rfl⟩
    have hc1 : h9 ≤ c := by omega
    have hc2 : h9 ≤ n := by omega
    have hc3 : ¬ c = h9 := by omega
    have HA : Hid (SlP w (.slice (some ⟨b, o, none⟩) h9 c) (L.take h9)) := ⟨_, _, by rw [List.length_take, Nat.min_eq_left (by omega)], by rw [List.length_take, Nat.min_eq_left (by omega)]; omega, (fun h => by cases h), h5.takeK _⟩
    have HB : Hid (SlP w (.slice q (n - h9) (c - h9)) (L.drop h9)) := ⟨_, _, by rw [List.length_drop, hn], by rw [List.length_drop]; omega, (fun h => by rw [hq] at h; cases h), h5.dropK _ _ (fun _ => hq)⟩
    have CA : Hid (∀ w1 : World, Below w.heap.size w w1 → Calls Tryz.prog 64 #[.slice (some ⟨b, o, none⟩) h9 c] w1 fun e w' => ∃ (v' : Value) (R : List Pt), e = .returned v' ∧ SlP w' v' R ∧ RisP R ∧ (∀ x, x ∈ R ↔ x ∈ (L.take h9)) ∧ R.length ≤ (L.take h9).length ∧ Below w1.heap.size w1 w') := fun w1 h1 => ih _ (by rw [List.length_take]; omega) _ w1 (HA.out.on h1) (by rw [List.length_take]; omega)
    have CB : Hid (∀ w1 : World, Below w.heap.size w w1 → Calls Tryz.prog 64 #[.slice q (n - h9) (c - h9)] w1 fun e w' => ∃ (v' : Value) (R : List Pt), e = .returned v' ∧ SlP w' v' R ∧ RisP R ∧ (∀ x, x ∈ R ↔ x ∈ (L.drop h9)) ∧ R.length ≤ (L.drop h9).length ∧ Below w1.heap.size w1 w') := fun w1 h1 => ih _ (by rw [List.length_drop]; omega) _ w1 (HB.out.on h1) (by rw [List.length_drop]; omega)
    have HTD : Hid (∀ z, z ∈ L ↔ z ∈ L.take h9 ∨ z ∈ L.drop h9) := fun z => by
      rw [← List.mem_append, List.take_append_drop]
    have HLs : Hid ((L.take h9).length + (L.drop h9).length = L.length) := by
      refine (show _ = _ from ?_)
      rw [List.length_take, List.length_drop]
      omega
    have htd : IntKind.i64.wrap ((n : Int) / 2) = (h9 : Int) := by
      have e : (n : Int) / 2 = (h9 : Int) := by omega
      rw [e]
      simp [IntKind.wrap, IntKind.bits, IntKind.signed]
      try omega
    rw [← hn] at h2 hlen ⊢
    have HNL : Hid (n = L.length) := hn
    have hnc : n ≤ c := by omega
    subst hq
    clear h h3 h4 h5 ih hb0 HA HB hn hh9
    go_enter Tryz.func64, Tryz.ntmps64
    go_wp2_with fail
    refine wp_region_L (fun _ => True) 14 (by kernel_rfl) ?_
    have HD : Hid (Below w.heap.size w w.drew) := (Below.refl _ _).drew
    generalize w.drew = wd at *
    refine wpL_take (v := ?_) 0 rfl (by kernel_rfl) (fun _ _ _ h => h) (by rfl) ?_ trivial ?_
    rotate_left
    focus
      intro w9 hw9
      clear hw9
      go_simp
      try with_reducible rfl
    try simp only [Act.put, List.setIfInBounds_toArray, List.set_cons_zero, List.set_cons_succ]
    refine wpL_take (v := ?_) 1 rfl (by kernel_rfl) (fun _ _ _ h => h) (by rfl) ?_ trivial ?_
    rotate_left
    focus
      intro w9 hw9
      clear hw9
      go_simp
      try with_reducible rfl
    try simp only [Act.put, List.setIfInBounds_toArray, List.set_cons_zero, List.set_cons_succ]
    refine wpL_take (v := ?_) 2 rfl (by kernel_rfl) (fun _ _ _ h => h) (by rfl) ?_ trivial ?_
    rotate_left
    focus
      intro w9 hw9
      clear hw9
      go_simp
      try with_reducible rfl
    try simp only [Act.put, List.setIfInBounds_toArray, List.set_cons_zero, List.set_cons_succ]
    refine wpL_take (v := ?_) 3 rfl (by kernel_rfl) (fun _ _ _ h => h) (by rfl) ?_ trivial ?_
    rotate_left
    focus
      intro w9 hw9
      clear hw9
      go_simp
      try with_reducible rfl
    try simp only [Act.put, List.setIfInBounds_toArray, List.set_cons_zero, List.set_cons_succ]
    refine wpL_take (v := ?_) 4 rfl (by kernel_rfl) (fun _ _ _ h => h) (by rfl) ?_ trivial ?_
    rotate_left
    focus
      intro w9 hw9
      clear hw9
      go_simp
      try with_reducible rfl
    try simp only [Act.put, List.setIfInBounds_toArray, List.set_cons_zero, List.set_cons_succ]
    refine wpL_take (v := ?_) 6 rfl (by kernel_rfl) (fun _ _ _ h => h) (by rfl) ?_ trivial ?_
    rotate_left
    focus
      intro w9 hw9
      clear hw9
      go_simp
      try with_reducible rfl
    try simp only [Act.put, List.setIfInBounds_toArray, List.set_cons_zero, List.set_cons_succ]
    refine wpL_take (v := ?_) 7 rfl (by kernel_rfl) (fun _ _ _ h => h) (by rfl) ?_ trivial ?_
    rotate_left
    focus
      intro w9 hw9
      clear hw9
      go_simp
      try with_reducible rfl
    try simp only [Act.put, List.setIfInBounds_toArray, List.set_cons_zero, List.set_cons_succ]
    refine wpL_take (v := ?_) 8 rfl (by kernel_rfl) (fun _ _ _ h => h) (by rfl) ?_ trivial ?_
    rotate_left
    focus
      intro w9 hw9
      clear hw9
      go_simp
      try with_reducible rfl
    try simp only [Act.put, List.setIfInBounds_toArray, List.set_cons_zero, List.set_cons_succ]
    refine wpL_take (v := ?_) 9 rfl (by kernel_rfl) (fun _ _ _ h => h) (by rfl) ?_ trivial ?_
    rotate_left
    focus
      intro w9 hw9
      clear hw9
      go_simp
      try with_reducible rfl
    try simp only [Act.put, List.setIfInBounds_toArray, List.set_cons_zero, List.set_cons_succ]
    refine wpL_take (v := ?_) 10 rfl (by kernel_rfl) (fun _ _ _ h => h) (by rfl) ?_ trivial ?_
    rotate_left
    focus
      intro w9 hw9
      clear hw9
      go_simp
      try with_reducible rfl
    try simp only [Act.put, List.setIfInBounds_toArray, List.set_cons_zero, List.set_cons_succ]
    refine wpL_one 5 rfl (by kernel_rfl) (by rfl) ?_
    intro K hK
    go_simp
    refine (CA.out _ HD.out).mono ?_
    rintro e w5 ⟨v5, R5, rfl, h5, hr5, hm5, hl5, hb5⟩
    dsimp only
    have H5 : Hid (SlP w5 v5 R5 ∧ RisP R5 ∧ (∀ x, x ∈ R5 ↔ x ∈ L.take h9) ∧ R5.length ≤ (L.take h9).length ∧ Below w.heap.size w w5) := ⟨h5, hr5, hm5, hl5, HD.out.trans (hb5.mono HD.out.size)⟩
    clear h5 hr5 hm5 hl5 hb5
    refine hK.out _ _ (fun _ => trivial) ?_
    clear hK K
    try simp only [Act.put, List.setIfInBounds_toArray, List.set_cons_zero, List.set_cons_succ]
    refine wpL_one 11 rfl (by kernel_rfl) (by rfl) ?_
    intro K hK
    go_simp
    refine (CB.out _ H5.out.2.2.2.2).mono ?_
    rintro e w6 ⟨v6, R6, rfl, h6, hr6, hm6, hl6, hb6⟩
    dsimp only
    have H6 : Hid (SlP w6 v5 R5 ∧ SlP w6 v6 R6 ∧ MrgI (fun x => x ∈ R5 ∨ x ∈ R6) (R5.length + R6.length) R5 R6 [] ∧ Below w.heap.size w w6) := ⟨H5.out.1.on hb6, h6, MrgI.start H5.out.2.1 hr6, H5.out.2.2.2.2.trans (hb6.mono H5.out.2.2.2.2.size)⟩
    have HS : Hid (∀ z, (z ∈ R5 ∨ z ∈ R6) ↔ z ∈ L) := fun z => by rw [H5.out.2.2.1 z, hm6 z, HTD.out z]
    have HNN : Hid (R5.length + R6.length ≤ n) := by
      have h1 := H5.out.2.2.2.1
      have h2 := HLs.out
      have h3 := HNL.out
      refine (show _ ≤ _ from ?_)
      omega
    clear h6 hr6 hm6 hl6 hb6 H5 HTD HLs CA CB
    refine hK.out _ _ (fun _ => trivial) ?_
    clear hK K
    try simp only [Act.put, List.setIfInBounds_toArray, List.set_cons_zero, List.set_cons_succ]
    refine wpL_take (v := ?_) 12 rfl (by kernel_rfl) (fun _ _ _ h => h) (by rfl) ?_ trivial ?_
    rotate_left
    focus
      intro w9 hw9
      clear hw9
      go_simp
      try with_reducible rfl
    try simp only [Act.put, List.setIfInBounds_toArray, List.set_cons_zero, List.set_cons_succ]
    refine wpL_take (v := ?_) 13 rfl (by kernel_rfl) (fun _ _ _ h => h) (by rfl) ?_ trivial ?_
    rotate_left
    focus
      intro w9 hw9
      clear hw9
      go_simp
      try with_reducible rfl
    try simp only [Act.put, List.setIfInBounds_toArray, List.set_cons_zero, List.set_cons_succ]
    refine wpL_done (by kernel_rfl) ?_ _
    try simp only [NoPanic]
    obtain ⟨p5, c5, e5, k5, -, r5⟩ := H6.out.1.f
    obtain ⟨p6, c6, e6, k6, -, r6⟩ := H6.out.2.1.f
    subst e5 e6
    have HR0 : Hid (RowP w6 w6.heap.size p5 R5 ∧ RowP w6 w6.heap.size p6 R6) := ⟨r5, r6⟩
    have HE : Hid (Below w.heap.size w w6) := H6.out.2.2.2
    obtain ⟨S, hS⟩ : ∃ S : Pt → Prop, S = fun x => x ∈ R5 ∨ x ∈ R6 := ⟨_, rfl⟩
    obtain ⟨N, hN⟩ : ∃ N : Nat, N = R5.length + R6.length := ⟨_, rfl⟩
    have HM0 : Hid (MrgI S N R5 R6 []) := by
      have h := H6.out.2.2.1
      rw [← hS, ← hN] at h
      exact h
    have HS1 : Hid (∀ z, S z ↔ z ∈ L) := fun z => by rw [hS]; exact HS.out z
    have HN1 : Hid (N ≤ n) := by
      refine (show _ ≤ _ from ?_)
      rw [hN]
      exact HNN.out
    have h51 : R5.length ≤ 4398046511104 := by have := HNN.out; omega
    have h61 : R6.length ≤ 4398046511104 := by have := HNN.out; omega
    clear HS HNN r5 r6 H6 hS hN
    have HS : Hid (∀ z, S z ↔ z ∈ L) := HS1.out
    have HNN : Hid (N ≤ n) := HN1.out
    clear HS1 HN1
    have HW : Hid (OwnP (w6.alloc (.cells #[] 39)) w6.heap.size (.slice (some ⟨w6.heap.size, 0, none⟩) 0 0) [] ∧ Below w6.heap.size w6 (w6.alloc (.cells #[] 39))) := ⟨own_empty w6, (Below.refl _ _).alloc (Nat.le_refl _) _⟩
    go_wp2_with fail
    generalize w6.alloc (.cells #[] 39) = w4 at *
    go_loopw [3, 4, 5] (fun va vb vo wr => ∃ (A B O : List Pt) (pa pb : Option Addr) (ca cb : Nat), va = .slice pa A.length ca ∧ vb = .slice pb B.length cb ∧ A.length ≤ ca ∧ B.length ≤ cb ∧ Hid (RowP w6 w6.heap.size pa A ∧ RowP w6 w6.heap.size pb B ∧ OwnP wr w6.heap.size vo O ∧ Below w6.heap.size w6 wr) ∧ Hid (MrgI S N A B O)) (fun va vb _ _ => lenV va + lenV vb)
    case atStart => exact ⟨R5, R6, [], p5, p6, c5, c6, rfl, rfl, k5, k6, ⟨HR0.out.1, HR0.out.2, HW.out.1, HW.out.2⟩, HM0.out⟩
    case round =>
      obtain ⟨A, B, O, pa, pb, ca, cb, rfl, rfl, hl1, hl2, HR, HM⟩ := hrel
      have hA1 : A.length ≤ 4398046511104 := by have := HM.out.len; have := HNN.out; omega
      have hB1 : B.length ≤ 4398046511104 := by have := HM.out.len; have := HNN.out; omega
      clear k5 k6 h51 h61 HW HR0 HM0
      cases A with
      | nil =>
        cases B with
        | nil =>
          simp only [List.length_nil] at *
          go_wp2_with fail
          go_ret
          exact ⟨_, O, rfl, HR.out.2.2.1.sl, HM.out.ro, fun z => by have h := HM.out.mem z; simpa using (h.trans (HS.out z)), by have h := HM.out.len; have := HNL.out; have := HNN.out; simp only [List.length_nil] at h; omega, HE.out.trans (HR.out.2.2.2.mono HE.out.size)⟩
        | cons y B =>
          simp only [List.length_nil] at hl1 ⊢
          have ne1 := inB_ne wr
          obtain ⟨b2, o2, hp2, hb2, c0, c1, c2⟩ := (HR.out.2.1.keep HR.out.2.2.2) 0 (by simp)
          have m20 : wr.cell? ⟨b2, o2, none⟩ = some (.int .i64 y.t) := by simpa using c0
          have m21 : wr.cell? ⟨b2, o2 + 1, none⟩ = some (.int .i64 y.i) := by simpa using c1
          have m22 : wr.cell? ⟨b2, o2 + 2, none⟩ = some (.string y.k) := by simpa using c2
          have hB2 : b2 < wr.heap.size := Nat.lt_of_lt_of_le hb2 HR.out.2.2.2.size
          have s20 := InB.cell (w := wr) m20 hB2
          have s21 := InB.cell (w := wr) m21 hB2
          have s22 := InB.cell (w := wr) m22 hB2
          have HD2 : Hid (wr.cell? ⟨b2, o2, none⟩ = some (.int .i64 y.t) ∧ wr.cell? ⟨b2, o2 + 1, none⟩ = some (.int .i64 y.i) ∧ wr.cell? ⟨b2, o2 + 2, none⟩ = some (.string y.k) ∧ b2 < wr.heap.size) := ⟨m20, m21, m22, hB2⟩
          obtain ⟨n2, hn2⟩ : ∃ n, n = (y :: B).length := ⟨_, rfl⟩
          have hm2 : n2 = B.length + 1 := by simpa using hn2
          subst hp2
          rw [← hn2] at hl2 ⊢
          have HT2 : Hid (RowP w6 w6.heap.size (if cb = 1 then some ⟨b2, o2, none⟩ else some ⟨b2, o2 + 3, none⟩) B) := by
            have h := HR.out.2.1.dropK 1 (if cb = 1 then some ⟨b2, o2, none⟩ else some ⟨b2, o2 + 3, none⟩) (fun h => if_neg (by simp only [List.length_cons] at h; omega))
            have h9 : RowP w6 w6.heap.size (if cb = 1 then some ⟨b2, o2, none⟩ else some ⟨b2, o2 + 3, none⟩) B := by simpa using h
            exact h9
          have HN2 : Hid (n2 = B.length + 1 ∧ n2 ≤ cb) := ⟨hm2, hl2⟩
          have hg2 : 0 < n2 := by omega
          have hgi2 : 0 < (n2 : Int) := by omega
          have hz2 : ((n2 : Int) == 0) = false := by
            rw [beq_eq_false_iff_ne]
            omega
          clear c0 c1 c2 m20 m21 m22 hb2 hB2 hn2 hm2
          have HOL : Hid (O.length + 1 ≤ 4398046511104) := by
            have h := HM.out.len
            have h2 := HNN.out
            simp only [List.length_cons, List.length_nil] at h
            refine (show _ ≤ _ from ?_)
            omega
          go_wp2_with fail
          refine wp_region_inB (by kernel_rfl) (by kernel_rfl) ?_
          repeat (go_big_quiet_step (first
            | (go_at_call 65; exact Calls.inB (rcmp_any _ _ _))))
          refine wpQuiet_nil ?_
          rintro w7 ⟨⟨w7', hbw7⟩, h9⟩
          obtain rfl : w7 = w7' := h9
          have HBw7 : Hid (Below wr.heap.size wr w7) := hbw7
          clear hbw7
          have ne2 := inB_ne w7
          go_wp2_with fail
          refine wp_region_inB (by kernel_rfl) (by kernel_rfl) ?_
          repeat (go_big_quiet_step (first
            | (go_at_call 65; exact Calls.inB (rcmp_any _ _ _))))
          refine wpQuiet_nil ?_
          rintro w7b ⟨⟨w7b', hbw7b⟩, h9⟩
          obtain rfl : w7b = w7b' := h9
          have HBw7b : Hid (Below w7.heap.size w7 w7b) := hbw7b
          clear hbw7b
          have HX : Hid (Below wr.heap.size wr w7b) := HBw7.out.trans (HBw7b.out.mono HBw7.out.size)
          clear s20 s21 s22 ne1 ne2
          have c0 := (HX.out.cell (p := ⟨b2, o2, none⟩) HD2.out.2.2.2).trans HD2.out.1
          have c1 := (HX.out.cell (p := ⟨b2, o2 + 1, none⟩) HD2.out.2.2.2).trans HD2.out.2.1
          have c2 := (HX.out.cell (p := ⟨b2, o2 + 2, none⟩) HD2.out.2.2.2).trans HD2.out.2.2.1
          have HO7 : Hid (OwnP w7b w6.heap.size _ O ∧ w6.heap.size ≤ w7b.heap.size ∧ Below w6.heap.size w6 w7b) := ⟨HR.out.2.2.1.kept HX.out, Nat.le_trans HR.out.2.2.2.size HX.out.size, HR.out.2.2.2.trans (HX.out.mono HR.out.2.2.2.size)⟩
          go_wp2_with (first | (at_builtin; refine wpList_appP _ rfl (.tmp 72) (.tmp 76) rfl w6.heap.size _ _ rfl HO7.out.1 y _ rfl ?gz ?ll ?bb ?_))
          case gz => rfl
          case ll => exact HOL.out
          case bb => exact HO7.out.2.1
          intro v8 w8 h1 h2
          have HO8 : Hid (OwnP w8 w6.heap.size v8 (O ++ [y]) ∧ Below w6.heap.size w6 w8) := ⟨h1, HO7.out.2.2.trans h2⟩
          clear h1 h2 c0 c1 c2
          go_wp2_with fail
          go_roundw
          case rel => exact ⟨[], B, O ++ [y], pa, (if cb = 1 then some ⟨b2, o2, none⟩ else some ⟨b2, o2 + 3, none⟩), ca, cb - 1, rfl, by rw [HN2.out.1]; rfl, by simp, by have := HN2.out; omega, ⟨HR.out.1, HT2.out, HO8.out.1, HO8.out.2⟩, HM.out.r0⟩
          case measure => simp [lenV]; omega
      | cons x A =>
        cases B with
        | nil =>
          simp only [List.length_nil] at hl2 ⊢
          have ne1 := inB_ne wr
          obtain ⟨b1, o1, hp1, hb1, c0, c1, c2⟩ := (HR.out.1.keep HR.out.2.2.2) 0 (by simp)
          have m10 : wr.cell? ⟨b1, o1, none⟩ = some (.int .i64 x.t) := by simpa using c0
          have m11 : wr.cell? ⟨b1, o1 + 1, none⟩ = some (.int .i64 x.i) := by simpa using c1
          have m12 : wr.cell? ⟨b1, o1 + 2, none⟩ = some (.string x.k) := by simpa using c2
          have hB1 : b1 < wr.heap.size := Nat.lt_of_lt_of_le hb1 HR.out.2.2.2.size
          have s10 := InB.cell (w := wr) m10 hB1
          have s11 := InB.cell (w := wr) m11 hB1
          have s12 := InB.cell (w := wr) m12 hB1
          have HD1 : Hid (wr.cell? ⟨b1, o1, none⟩ = some (.int .i64 x.t) ∧ wr.cell? ⟨b1, o1 + 1, none⟩ = some (.int .i64 x.i) ∧ wr.cell? ⟨b1, o1 + 2, none⟩ = some (.string x.k) ∧ b1 < wr.heap.size) := ⟨m10, m11, m12, hB1⟩
          obtain ⟨n1, hn1⟩ : ∃ n, n = (x :: A).length := ⟨_, rfl⟩
          have hm1 : n1 = A.length + 1 := by simpa using hn1
          subst hp1
          rw [← hn1] at hl1 ⊢
          have HT1 : Hid (RowP w6 w6.heap.size (if ca = 1 then some ⟨b1, o1, none⟩ else some ⟨b1, o1 + 3, none⟩) A) := by
            have h := HR.out.1.dropK 1 (if ca = 1 then some ⟨b1, o1, none⟩ else some ⟨b1, o1 + 3, none⟩) (fun h => if_neg (by simp only [List.length_cons] at h; omega))
            have h9 : RowP w6 w6.heap.size (if ca = 1 then some ⟨b1, o1, none⟩ else some ⟨b1, o1 + 3, none⟩) A := by simpa using h
            exact h9
          have HN1 : Hid (n1 = A.length + 1 ∧ n1 ≤ ca) := ⟨hm1, hl1⟩
          have hg1 : 0 < n1 := by omega
          have hgi1 : 0 < (n1 : Int) := by omega
          have hz1 : ((n1 : Int) == 0) = false := by
            rw [beq_eq_false_iff_ne]
            omega
          clear c0 c1 c2 m10 m11 m12 hb1 hB1 hn1 hm1
          have HOL : Hid (O.length + 1 ≤ 4398046511104) := by
            have h := HM.out.len
            have h2 := HNN.out
            simp only [List.length_cons, List.length_nil] at h
            refine (show _ ≤ _ from ?_)
            omega
          go_wp2_with fail
          refine wp_region_inB (by kernel_rfl) (by kernel_rfl) ?_
          repeat (go_big_quiet_step (first
            | (go_at_call 65; exact Calls.inB (rcmp_any _ _ _))))
          refine wpQuiet_nil ?_
          rintro w7 ⟨⟨w7', hbw7⟩, h9⟩
          obtain rfl : w7 = w7' := h9
          have HBw7 : Hid (Below wr.heap.size wr w7) := hbw7
          clear hbw7
          have HX : Hid (Below wr.heap.size wr w7) := HBw7.out
          clear s10 s11 s12 ne1
          have c0 := (HX.out.cell (p := ⟨b1, o1, none⟩) HD1.out.2.2.2).trans HD1.out.1
          have c1 := (HX.out.cell (p := ⟨b1, o1 + 1, none⟩) HD1.out.2.2.2).trans HD1.out.2.1
          have c2 := (HX.out.cell (p := ⟨b1, o1 + 2, none⟩) HD1.out.2.2.2).trans HD1.out.2.2.1
          have HO7 : Hid (OwnP w7 w6.heap.size _ O ∧ w6.heap.size ≤ w7.heap.size ∧ Below w6.heap.size w6 w7) := ⟨HR.out.2.2.1.kept HX.out, Nat.le_trans HR.out.2.2.2.size HX.out.size, HR.out.2.2.2.trans (HX.out.mono HR.out.2.2.2.size)⟩
          go_wp2_with (first | (at_builtin; refine wpList_appP _ rfl (.tmp 49) (.tmp 53) rfl w6.heap.size _ _ rfl HO7.out.1 x _ rfl ?gz ?ll ?bb ?_))
          case gz => rfl
          case ll => exact HOL.out
          case bb => exact HO7.out.2.1
          intro v8 w8 h1 h2
          have HO8 : Hid (OwnP w8 w6.heap.size v8 (O ++ [x]) ∧ Below w6.heap.size w6 w8) := ⟨h1, HO7.out.2.2.trans h2⟩
          clear h1 h2 c0 c1 c2
          go_wp2_with fail
          go_roundw
          case rel => exact ⟨A, [], O ++ [x], (if ca = 1 then some ⟨b1, o1, none⟩ else some ⟨b1, o1 + 3, none⟩), pb, ca - 1, cb, by rw [HN1.out.1]; rfl, rfl, by have := HN1.out; omega, by simp, ⟨HT1.out, HR.out.2.1, HO8.out.1, HO8.out.2⟩, HM.out.l0⟩
          case measure => simp [lenV]; omega
        | cons y B =>
          have ne1 := inB_ne wr
          obtain ⟨b1, o1, hp1, hb1, c0, c1, c2⟩ := (HR.out.1.keep HR.out.2.2.2) 0 (by simp)
          have m10 : wr.cell? ⟨b1, o1, none⟩ = some (.int .i64 x.t) := by simpa using c0
          have m11 : wr.cell? ⟨b1, o1 + 1, none⟩ = some (.int .i64 x.i) := by simpa using c1
          have m12 : wr.cell? ⟨b1, o1 + 2, none⟩ = some (.string x.k) := by simpa using c2
          have hB1 : b1 < wr.heap.size := Nat.lt_of_lt_of_le hb1 HR.out.2.2.2.size
          have s10 := InB.cell (w := wr) m10 hB1
          have s11 := InB.cell (w := wr) m11 hB1
          have s12 := InB.cell (w := wr) m12 hB1
          have HD1 : Hid (wr.cell? ⟨b1, o1, none⟩ = some (.int .i64 x.t) ∧ wr.cell? ⟨b1, o1 + 1, none⟩ = some (.int .i64 x.i) ∧ wr.cell? ⟨b1, o1 + 2, none⟩ = some (.string x.k) ∧ b1 < wr.heap.size) := ⟨m10, m11, m12, hB1⟩
          obtain ⟨n1, hn1⟩ : ∃ n, n = (x :: A).length := ⟨_, rfl⟩
          have hm1 : n1 = A.length + 1 := by simpa using hn1
          subst hp1
          rw [← hn1] at hl1 ⊢
          have HT1 : Hid (RowP w6 w6.heap.size (if ca = 1 then some ⟨b1, o1, none⟩ else some ⟨b1, o1 + 3, none⟩) A) := by
            have h := HR.out.1.dropK 1 (if ca = 1 then some ⟨b1, o1, none⟩ else some ⟨b1, o1 + 3, none⟩) (fun h => if_neg (by simp only [List.length_cons] at h; omega))
            have h9 : RowP w6 w6.heap.size (if ca = 1 then some ⟨b1, o1, none⟩ else some ⟨b1, o1 + 3, none⟩) A := by simpa using h
            exact h9
          have HN1 : Hid (n1 = A.length + 1 ∧ n1 ≤ ca) := ⟨hm1, hl1⟩
          have hg1 : 0 < n1 := by omega
          have hgi1 : 0 < (n1 : Int) := by omega
          have hz1 : ((n1 : Int) == 0) = false := by
            rw [beq_eq_false_iff_ne]
            omega
          clear c0 c1 c2 m10 m11 m12 hb1 hB1 hn1 hm1
          obtain ⟨b2, o2, hp2, hb2, c0, c1, c2⟩ := (HR.out.2.1.keep HR.out.2.2.2) 0 (by simp)
          have m20 : wr.cell? ⟨b2, o2, none⟩ = some (.int .i64 y.t) := by simpa using c0
          have m21 : wr.cell? ⟨b2, o2 + 1, none⟩ = some (.int .i64 y.i) := by simpa using c1
          have m22 : wr.cell? ⟨b2, o2 + 2, none⟩ = some (.string y.k) := by simpa using c2
          have hB2 : b2 < wr.heap.size := Nat.lt_of_lt_of_le hb2 HR.out.2.2.2.size
          have s20 := InB.cell (w := wr) m20 hB2
          have s21 := InB.cell (w := wr) m21 hB2
          have s22 := InB.cell (w := wr) m22 hB2
          have HD2 : Hid (wr.cell? ⟨b2, o2, none⟩ = some (.int .i64 y.t) ∧ wr.cell? ⟨b2, o2 + 1, none⟩ = some (.int .i64 y.i) ∧ wr.cell? ⟨b2, o2 + 2, none⟩ = some (.string y.k) ∧ b2 < wr.heap.size) := ⟨m20, m21, m22, hB2⟩
          obtain ⟨n2, hn2⟩ : ∃ n, n = (y :: B).length := ⟨_, rfl⟩
          have hm2 : n2 = B.length + 1 := by simpa using hn2
          subst hp2
          rw [← hn2] at hl2 ⊢
          have HT2 : Hid (RowP w6 w6.heap.size (if cb = 1 then some ⟨b2, o2, none⟩ else some ⟨b2, o2 + 3, none⟩) B) := by
            have h := HR.out.2.1.dropK 1 (if cb = 1 then some ⟨b2, o2, none⟩ else some ⟨b2, o2 + 3, none⟩) (fun h => if_neg (by simp only [List.length_cons] at h; omega))
            have h9 : RowP w6 w6.heap.size (if cb = 1 then some ⟨b2, o2, none⟩ else some ⟨b2, o2 + 3, none⟩) B := by simpa using h
            exact h9
          have HN2 : Hid (n2 = B.length + 1 ∧ n2 ≤ cb) := ⟨hm2, hl2⟩
          have hg2 : 0 < n2 := by omega
          have hgi2 : 0 < (n2 : Int) := by omega
          have hz2 : ((n2 : Int) == 0) = false := by
            rw [beq_eq_false_iff_ne]
            omega
          clear c0 c1 c2 m20 m21 m22 hb2 hB2 hn2 hm2
          have HOL : Hid (O.length + 1 ≤ 4398046511104) := by
            have h := HM.out.len
            have h2 := HNN.out
            simp only [List.length_cons] at h
            refine (show _ ≤ _ from ?_)
            omega
          have CC : Hid (∀ w1 : World, Calls Tryz.prog 65 #[PV x, PV y] w1 fun e w' => e = .returned (.int .i64 (cmpP x y)) ∧ Below w1.heap.size w1 w') := fun w1 => rcmp_any x y w1
          rcases cmpP_spec x y with ⟨hc, -⟩ | ⟨hc, -⟩ | ⟨hc, -⟩
          · have HM2 := HM.out.lt hc
            have HMM : Hid (MrgI S N A (y :: B) (O ++ [x])) := HM2
            rw [hc] at CC
            clear hc HM2
            go_wp2_with fail
            refine wp_region_inB (by kernel_rfl) (by kernel_rfl) ?_
            repeat (go_big_quiet_step (first
              | (go_at_call 65; exact Calls.inB (CC.out _))))
            refine wpQuiet_nil ?_
            rintro w7 ⟨⟨w7', hbw7⟩, h9⟩
            obtain rfl : w7 = w7' := h9
            have HBw7 : Hid (Below wr.heap.size wr w7) := hbw7
            clear hbw7
            have HX : Hid (Below wr.heap.size wr w7) := HBw7.out
            clear s10 s11 s12 s20 s21 s22 ne1 CC
            have c0 := (HX.out.cell (p := ⟨b1, o1, none⟩) HD1.out.2.2.2).trans HD1.out.1
            have c1 := (HX.out.cell (p := ⟨b1, o1 + 1, none⟩) HD1.out.2.2.2).trans HD1.out.2.1
            have c2 := (HX.out.cell (p := ⟨b1, o1 + 2, none⟩) HD1.out.2.2.2).trans HD1.out.2.2.1
            have HO7 : Hid (OwnP w7 w6.heap.size _ O ∧ w6.heap.size ≤ w7.heap.size ∧ Below w6.heap.size w6 w7) := ⟨HR.out.2.2.1.kept HX.out, Nat.le_trans HR.out.2.2.2.size HX.out.size, HR.out.2.2.2.trans (HX.out.mono HR.out.2.2.2.size)⟩
            go_wp2_with (first | (at_builtin; refine wpList_appP _ rfl (.tmp 49) (.tmp 53) rfl w6.heap.size _ _ rfl HO7.out.1 x _ rfl ?gz ?ll ?bb ?_))
            case gz => rfl
            case ll => exact HOL.out
            case bb => exact HO7.out.2.1
            intro v8 w8 h1 h2
            have HO8 : Hid (OwnP w8 w6.heap.size v8 (O ++ [x]) ∧ Below w6.heap.size w6 w8) := ⟨h1, HO7.out.2.2.trans h2⟩
            clear h1 h2 c0 c1 c2
            go_wp2_with fail
            go_roundw
            case rel => exact ⟨A, y :: B, O ++ [x], (if ca = 1 then some ⟨b1, o1, none⟩ else some ⟨b1, o1 + 3, none⟩), some ⟨b2, o2, none⟩, ca - 1, cb, by rw [HN1.out.1]; rfl, by rw [HN2.out.1]; rfl, by have := HN1.out; omega, by have := HN2.out; simp only [List.length_cons]; omega, ⟨HT1.out, HR.out.2.1, HO8.out.1, HO8.out.2⟩, HMM.out⟩
            case measure => simp [lenV]; omega
          · by_cases hca : ca = 1
            · have HM2 := HM.out.eq hc
              have HMM : Hid (MrgI S N A B (O ++ [y])) := HM2
              rw [hc] at CC
              clear hc HM2
              have HCA : Hid (ca = 1) := hca
              go_wp2_with fail
              refine wp_region_inB (by kernel_rfl) (by kernel_rfl) ?_
              repeat (go_big_quiet_step (first
                | (go_at_call 65; exact Calls.inB (CC.out _))))
              refine wpQuiet_nil ?_
              rintro w7 ⟨⟨w7', hbw7⟩, h9⟩
              obtain rfl : w7 = w7' := h9
              have HBw7 : Hid (Below wr.heap.size wr w7) := hbw7
              clear hbw7
              clear s10 s11 s12 s20 s21 s22 ne1
              have s10' := InB.cell (w := w7) ((HBw7.out.cell (p := ⟨b1, o1, none⟩) HD1.out.2.2.2).trans HD1.out.1) (Nat.lt_of_lt_of_le HD1.out.2.2.2 HBw7.out.size)
              have s11' := InB.cell (w := w7) ((HBw7.out.cell (p := ⟨b1, o1 + 1, none⟩) HD1.out.2.2.2).trans HD1.out.2.1) (Nat.lt_of_lt_of_le HD1.out.2.2.2 HBw7.out.size)
              have s12' := InB.cell (w := w7) ((HBw7.out.cell (p := ⟨b1, o1 + 2, none⟩) HD1.out.2.2.2).trans HD1.out.2.2.1) (Nat.lt_of_lt_of_le HD1.out.2.2.2 HBw7.out.size)
              have s20' := InB.cell (w := w7) ((HBw7.out.cell (p := ⟨b2, o2, none⟩) HD2.out.2.2.2).trans HD2.out.1) (Nat.lt_of_lt_of_le HD2.out.2.2.2 HBw7.out.size)
              have s21' := InB.cell (w := w7) ((HBw7.out.cell (p := ⟨b2, o2 + 1, none⟩) HD2.out.2.2.2).trans HD2.out.2.1) (Nat.lt_of_lt_of_le HD2.out.2.2.2 HBw7.out.size)
              have s22' := InB.cell (w := w7) ((HBw7.out.cell (p := ⟨b2, o2 + 2, none⟩) HD2.out.2.2.2).trans HD2.out.2.2.1) (Nat.lt_of_lt_of_le HD2.out.2.2.2 HBw7.out.size)
              have ne1 := inB_ne w7
              go_wp2_with fail
              refine wp_region_inB (by kernel_rfl) (by kernel_rfl) ?_
              repeat (go_big_quiet_step (first
                | (go_at_call 65; exact Calls.inB (CC.out _))))
              refine wpQuiet_nil ?_
              rintro w7b ⟨⟨w7b', hbw7b⟩, h9⟩
              obtain rfl : w7b = w7b' := h9
              have HBw7b : Hid (Below w7.heap.size w7 w7b) := hbw7b
              clear hbw7b
              have HX : Hid (Below wr.heap.size wr w7b) := HBw7.out.trans (HBw7b.out.mono HBw7.out.size)
              clear s10' s11' s12' s20' s21' s22' ne1 CC
              have c0 := (HX.out.cell (p := ⟨b2, o2, none⟩) HD2.out.2.2.2).trans HD2.out.1
              have c1 := (HX.out.cell (p := ⟨b2, o2 + 1, none⟩) HD2.out.2.2.2).trans HD2.out.2.1
              have c2 := (HX.out.cell (p := ⟨b2, o2 + 2, none⟩) HD2.out.2.2.2).trans HD2.out.2.2.1
              have HO7 : Hid (OwnP w7b w6.heap.size _ O ∧ w6.heap.size ≤ w7b.heap.size ∧ Below w6.heap.size w6 w7b) := ⟨HR.out.2.2.1.kept HX.out, Nat.le_trans HR.out.2.2.2.size HX.out.size, HR.out.2.2.2.trans (HX.out.mono HR.out.2.2.2.size)⟩
              go_wp2_with (first | (at_builtin; refine wpList_appP _ rfl (.tmp 72) (.tmp 76) rfl w6.heap.size _ _ rfl HO7.out.1 y _ rfl ?gz ?ll ?bb ?_))
              case gz => rfl
              case ll => exact HOL.out
              case bb => exact HO7.out.2.1
              intro v8 w8 h1 h2
              have HO8 : Hid (OwnP w8 w6.heap.size v8 (O ++ [y]) ∧ Below w6.heap.size w6 w8) := ⟨h1, HO7.out.2.2.trans h2⟩
              clear h1 h2 c0 c1 c2
              go_wp2_with fail
              go_roundw
              case rel => exact ⟨A, B, O ++ [y], some ⟨b1, o1, none⟩, (if cb = 1 then some ⟨b2, o2, none⟩ else some ⟨b2, o2 + 3, none⟩), 0, cb - 1, by rw [HN1.out.1]; rfl, by rw [HN2.out.1]; rfl, by have := HN1.out; have := HCA.out; omega, by have := HN2.out; omega, ⟨by have h := HT1.out; rw [if_pos HCA.out] at h; exact h, HT2.out, HO8.out.1, HO8.out.2⟩, HMM.out⟩
              case measure => simp [lenV]; omega
            · have HM2 := HM.out.eq hc
              have HMM : Hid (MrgI S N A B (O ++ [y])) := HM2
              rw [hc] at CC
              clear hc HM2
              have HCA : Hid (¬ ca = 1) := hca
              go_wp2_with fail
              refine wp_region_inB (by kernel_rfl) (by kernel_rfl) ?_
              repeat (go_big_quiet_step (first
                | (go_at_call 65; exact Calls.inB (CC.out _))))
              refine wpQuiet_nil ?_
              rintro w7 ⟨⟨w7', hbw7⟩, h9⟩
              obtain rfl : w7 = w7' := h9
              have HBw7 : Hid (Below wr.heap.size wr w7) := hbw7
              clear hbw7
              clear s10 s11 s12 s20 s21 s22 ne1
              have s10' := InB.cell (w := w7) ((HBw7.out.cell (p := ⟨b1, o1, none⟩) HD1.out.2.2.2).trans HD1.out.1) (Nat.lt_of_lt_of_le HD1.out.2.2.2 HBw7.out.size)
              have s11' := InB.cell (w := w7) ((HBw7.out.cell (p := ⟨b1, o1 + 1, none⟩) HD1.out.2.2.2).trans HD1.out.2.1) (Nat.lt_of_lt_of_le HD1.out.2.2.2 HBw7.out.size)
              have s12' := InB.cell (w := w7) ((HBw7.out.cell (p := ⟨b1, o1 + 2, none⟩) HD1.out.2.2.2).trans HD1.out.2.2.1) (Nat.lt_of_lt_of_le HD1.out.2.2.2 HBw7.out.size)
              have s20' := InB.cell (w := w7) ((HBw7.out.cell (p := ⟨b2, o2, none⟩) HD2.out.2.2.2).trans HD2.out.1) (Nat.lt_of_lt_of_le HD2.out.2.2.2 HBw7.out.size)
              have s21' := InB.cell (w := w7) ((HBw7.out.cell (p := ⟨b2, o2 + 1, none⟩) HD2.out.2.2.2).trans HD2.out.2.1) (Nat.lt_of_lt_of_le HD2.out.2.2.2 HBw7.out.size)
              have s22' := InB.cell (w := w7) ((HBw7.out.cell (p := ⟨b2, o2 + 2, none⟩) HD2.out.2.2.2).trans HD2.out.2.2.1) (Nat.lt_of_lt_of_le HD2.out.2.2.2 HBw7.out.size)
              have ne1 := inB_ne w7
              go_wp2_with fail
              refine wp_region_inB (by kernel_rfl) (by kernel_rfl) ?_
              repeat (go_big_quiet_step (first
                | (go_at_call 65; exact Calls.inB (CC.out _))))
              refine wpQuiet_nil ?_
              rintro w7b ⟨⟨w7b', hbw7b⟩, h9⟩
              obtain rfl : w7b = w7b' := h9
              have HBw7b : Hid (Below w7.heap.size w7 w7b) := hbw7b
              clear hbw7b
              have HX : Hid (Below wr.heap.size wr w7b) := HBw7.out.trans (HBw7b.out.mono HBw7.out.size)
              clear s10' s11' s12' s20' s21' s22' ne1 CC
              have c0 := (HX.out.cell (p := ⟨b2, o2, none⟩) HD2.out.2.2.2).trans HD2.out.1
              have c1 := (HX.out.cell (p := ⟨b2, o2 + 1, none⟩) HD2.out.2.2.2).trans HD2.out.2.1
              have c2 := (HX.out.cell (p := ⟨b2, o2 + 2, none⟩) HD2.out.2.2.2).trans HD2.out.2.2.1
              have HO7 : Hid (OwnP w7b w6.heap.size _ O ∧ w6.heap.size ≤ w7b.heap.size ∧ Below w6.heap.size w6 w7b) := ⟨HR.out.2.2.1.kept HX.out, Nat.le_trans HR.out.2.2.2.size HX.out.size, HR.out.2.2.2.trans (HX.out.mono HR.out.2.2.2.size)⟩
              go_wp2_with (first | (at_builtin; refine wpList_appP _ rfl (.tmp 72) (.tmp 76) rfl w6.heap.size _ _ rfl HO7.out.1 y _ rfl ?gz ?ll ?bb ?_))
              case gz => rfl
              case ll => exact HOL.out
              case bb => exact HO7.out.2.1
              intro v8 w8 h1 h2
              have HO8 : Hid (OwnP w8 w6.heap.size v8 (O ++ [y]) ∧ Below w6.heap.size w6 w8) := ⟨h1, HO7.out.2.2.trans h2⟩
              clear h1 h2 c0 c1 c2
              go_wp2_with fail
              go_roundw
              case rel => exact ⟨A, B, O ++ [y], some ⟨b1, o1 + 3, none⟩, (if cb = 1 then some ⟨b2, o2, none⟩ else some ⟨b2, o2 + 3, none⟩), ca - 1, cb - 1, by rw [HN1.out.1]; rfl, by rw [HN2.out.1]; rfl, by have := HN1.out; omega, by have := HN2.out; omega, ⟨by have h := HT1.out; rw [if_neg HCA.out] at h; exact h, HT2.out, HO8.out.1, HO8.out.2⟩, HMM.out⟩
              case measure => simp [lenV]; omega
          · have HM2 := HM.out.gt hc
            have HMM : Hid (MrgI S N (x :: A) B (O ++ [y])) := HM2
            rw [hc] at CC
            clear hc HM2
            go_wp2_with fail
            refine wp_region_inB (by kernel_rfl) (by kernel_rfl) ?_
            repeat (go_big_quiet_step (first
              | (go_at_call 65; exact Calls.inB (CC.out _))))
            refine wpQuiet_nil ?_
            rintro w7 ⟨⟨w7', hbw7⟩, h9⟩
            obtain rfl : w7 = w7' := h9
            have HBw7 : Hid (Below wr.heap.size wr w7) := hbw7
            clear hbw7
            clear s10 s11 s12 s20 s21 s22 ne1
            have s10' := InB.cell (w := w7) ((HBw7.out.cell (p := ⟨b1, o1, none⟩) HD1.out.2.2.2).trans HD1.out.1) (Nat.lt_of_lt_of_le HD1.out.2.2.2 HBw7.out.size)
            have s11' := InB.cell (w := w7) ((HBw7.out.cell (p := ⟨b1, o1 + 1, none⟩) HD1.out.2.2.2).trans HD1.out.2.1) (Nat.lt_of_lt_of_le HD1.out.2.2.2 HBw7.out.size)
            have s12' := InB.cell (w := w7) ((HBw7.out.cell (p := ⟨b1, o1 + 2, none⟩) HD1.out.2.2.2).trans HD1.out.2.2.1) (Nat.lt_of_lt_of_le HD1.out.2.2.2 HBw7.out.size)
            have s20' := InB.cell (w := w7) ((HBw7.out.cell (p := ⟨b2, o2, none⟩) HD2.out.2.2.2).trans HD2.out.1) (Nat.lt_of_lt_of_le HD2.out.2.2.2 HBw7.out.size)
            have s21' := InB.cell (w := w7) ((HBw7.out.cell (p := ⟨b2, o2 + 1, none⟩) HD2.out.2.2.2).trans HD2.out.2.1) (Nat.lt_of_lt_of_le HD2.out.2.2.2 HBw7.out.size)
            have s22' := InB.cell (w := w7) ((HBw7.out.cell (p := ⟨b2, o2 + 2, none⟩) HD2.out.2.2.2).trans HD2.out.2.2.1) (Nat.lt_of_lt_of_le HD2.out.2.2.2 HBw7.out.size)
            have ne1 := inB_ne w7
            go_wp2_with fail
            refine wp_region_inB (by kernel_rfl) (by kernel_rfl) ?_
            repeat (go_big_quiet_step (first
              | (go_at_call 65; exact Calls.inB (CC.out _))))
            refine wpQuiet_nil ?_
            rintro w7b ⟨⟨w7b', hbw7b⟩, h9⟩
            obtain rfl : w7b = w7b' := h9
            have HBw7b : Hid (Below w7.heap.size w7 w7b) := hbw7b
            clear hbw7b
            have HX : Hid (Below wr.heap.size wr w7b) := HBw7.out.trans (HBw7b.out.mono HBw7.out.size)
            clear s10' s11' s12' s20' s21' s22' ne1 CC
            have c0 := (HX.out.cell (p := ⟨b2, o2, none⟩) HD2.out.2.2.2).trans HD2.out.1
            have c1 := (HX.out.cell (p := ⟨b2, o2 + 1, none⟩) HD2.out.2.2.2).trans HD2.out.2.1
            have c2 := (HX.out.cell (p := ⟨b2, o2 + 2, none⟩) HD2.out.2.2.2).trans HD2.out.2.2.1
            have HO7 : Hid (OwnP w7b w6.heap.size _ O ∧ w6.heap.size ≤ w7b.heap.size ∧ Below w6.heap.size w6 w7b) := ⟨HR.out.2.2.1.kept HX.out, Nat.le_trans HR.out.2.2.2.size HX.out.size, HR.out.2.2.2.trans (HX.out.mono HR.out.2.2.2.size)⟩
            go_wp2_with (first | (at_builtin; refine wpList_appP _ rfl (.tmp 72) (.tmp 76) rfl w6.heap.size _ _ rfl HO7.out.1 y _ rfl ?gz ?ll ?bb ?_))
            case gz => rfl
            case ll => exact HOL.out
            case bb => exact HO7.out.2.1
            intro v8 w8 h1 h2
            have HO8 : Hid (OwnP w8 w6.heap.size v8 (O ++ [y]) ∧ Below w6.heap.size w6 w8) := ⟨h1, HO7.out.2.2.trans h2⟩
            clear h1 h2 c0 c1 c2
            go_wp2_with fail
            go_roundw
            case rel => exact ⟨x :: A, B, O ++ [y], some ⟨b1, o1, none⟩, (if cb = 1 then some ⟨b2, o2, none⟩ else some ⟨b2, o2 + 3, none⟩), ca, cb - 1, by rw [HN1.out.1]; rfl, by rw [HN2.out.1]; rfl, by have := HN1.out; simp only [List.length_cons]; omega, by have := HN2.out; omega, ⟨HR.out.1, HT2.out, HO8.out.1, HO8.out.2⟩, HMM.out⟩
            case measure => simp [lenV]; omega
theorem rsorted_all : ∀ (k : Nat) (L : List Pt), L.length ≤ k → ∀ (v : Value) (w : World), SlP w v L → L.length ≤ 4398046511104 → Calls Tryz.prog 64 #[v] w fun e w' => ∃ (v' : Value) (R : List Pt), e = .returned v' ∧ SlP w' v' R ∧ RisP R ∧ (∀ x, x ∈ R ↔ x ∈ L) ∧ R.length ≤ L.length ∧ Below w.heap.size w w'
  | 0, L, hk, v, w, h, hl => rsorted_step L (fun M hM => absurd hM (by omega)) v w h hl
  | k + 1, L, hk, v, w, h, hl => rsorted_step L (fun M hM => rsorted_all k M (by omega)) v w h hl
theorem rsorted_any (L : List Pt) (v : Value) (w : World) (h : SlP w v L) (hlen : L.length ≤ 4398046511104) : Calls Tryz.prog 64 #[v] w fun e w' => ∃ (v' : Value) (R : List Pt), e = .returned v' ∧ SlP w' v' R ∧ RisP R ∧ (∀ x, x ∈ R ↔ x ∈ L) ∧ R.length ≤ L.length ∧ Below w.heap.size w w' := rsorted_all L.length L (Nat.le_refl _) v w h hlen

end Go.Proofs.YtcknhjabdjbjiaaGreat
