/- The document's Same of feet that are the same. The document's sorted. -/
import Derived.Test.YtcknhjabdjbjiabGreatGWRs6
namespace Go.Proofs.YtcknhjabdjbjiabGreat
open Go.RowKit
set_option maxRecDepth 100000



end Go.Proofs.YtcknhjabdjbjiabGreat

namespace Go.Proofs.YtcknhjabdjbjiabGreat
open Go.RowKit
set_option maxRecDepth 100000

/-- a merge under way -/
structure MrgI (S : Pt → Prop) (N : Nat) (A B O : List Pt) : Prop where
  ra : RisP A
  rb : RisP B
  ro : RisP O
  oa : ∀ x ∈ O, ∀ y ∈ A, ltP x y = true
  ob : ∀ x ∈ O, ∀ y ∈ B, ltP x y = true
  mem : ∀ x, (x ∈ O ∨ x ∈ A ∨ x ∈ B) ↔ S x
  len : O.length + A.length + B.length ≤ N
theorem RisP.snoc {O : List Pt} {x : Pt} (h : RisP O) (hx : ∀ z ∈ O, ltP z x = true) : RisP (O ++ [x]) :=
  List.pairwise_append.2 ⟨h, List.pairwise_singleton _ _, fun a ha b hb => by rw [List.mem_singleton.1 hb]; exact hx a ha⟩
theorem MrgI.left {S : Pt → Prop} {N : Nat} {x : Pt} {A B O : List Pt} (h : MrgI S N (x :: A) B O) (hx : ∀ z ∈ B, ltP x z = true) : MrgI S N A B (O ++ [x]) := by
  have h1 := List.pairwise_cons.1 h.ra
  refine ⟨h1.2, h.rb, h.ro.snoc (fun z hz => h.oa z hz x (List.mem_cons_self ..)), ?_, ?_, ?_, ?_⟩
  · intro z hz y hy
    rcases List.mem_append.1 hz with hz | hz
    · exact h.oa z hz y (List.mem_cons_of_mem _ hy)
    · rw [List.mem_singleton.1 hz]; exact h1.1 y hy
  · intro z hz y hy
    rcases List.mem_append.1 hz with hz | hz
    · exact h.ob z hz y hy
    · rw [List.mem_singleton.1 hz]; exact hx y hy
  · intro z
    rw [← h.mem z]
    simp only [List.mem_append, List.mem_cons, List.not_mem_nil, or_false]
    constructor
    · rintro ((h | h) | h | h)
      · exact .inl h
      · exact .inr (.inl (.inl h))
      · exact .inr (.inl (.inr h))
      · exact .inr (.inr h)
    · rintro (h | (h | h) | h)
      · exact .inl (.inl h)
      · exact .inl (.inr h)
      · exact .inr (.inl h)
      · exact .inr (.inr h)
  · have := h.len
    simp only [List.length_append, List.length_cons, List.length_nil] at this ⊢
    omega
theorem MrgI.start {A B : List Pt} (ha : RisP A) (hb : RisP B) : MrgI (fun x => x ∈ A ∨ x ∈ B) (A.length + B.length) A B [] :=
  ⟨ha, hb, List.Pairwise.nil, (fun x hx => by cases hx), (fun x hx => by cases hx), (fun x => by simp), (by simp)⟩
theorem MrgI.swap {S : Pt → Prop} {N : Nat} {A B O : List Pt} (h : MrgI S N A B O) : MrgI S N B A O :=
  ⟨h.rb, h.ra, h.ro, h.ob, h.oa, fun x => by rw [← h.mem x]; exact ⟨fun h => h.imp id Or.symm, fun h => h.imp id Or.symm⟩, by have := h.len; omega⟩
theorem MrgI.l0 {S : Pt → Prop} {N : Nat} {x : Pt} {A O : List Pt} (h : MrgI S N (x :: A) [] O) : MrgI S N A [] (O ++ [x]) := h.left (fun z hz => by cases hz)
theorem MrgI.r0 {S : Pt → Prop} {N : Nat} {y : Pt} {B O : List Pt} (h : MrgI S N [] (y :: B) O) : MrgI S N [] B (O ++ [y]) := h.swap.l0.swap
theorem MrgI.left' {S : Pt → Prop} {N : Nat} {x y : Pt} {A B O : List Pt} (h : MrgI S N (x :: A) (y :: B) O) (hl : ltP x y = true) : MrgI S N A (y :: B) (O ++ [x]) :=
  h.left (fun z hz => by
    rcases List.mem_cons.1 hz with rfl | hz
    · exact hl
    · exact ltP_trans hl ((List.pairwise_cons.1 h.rb).1 z hz))
theorem MrgI.lt {S : Pt → Prop} {N : Nat} {x y : Pt} {A B O : List Pt} (h : MrgI S N (x :: A) (y :: B) O) (hc : cmpP x y = -1) : MrgI S N A (y :: B) (O ++ [x]) :=
  h.left' ((cmpP_lt x y).1 (by omega))
theorem MrgI.gt {S : Pt → Prop} {N : Nat} {x y : Pt} {A B O : List Pt} (h : MrgI S N (x :: A) (y :: B) O) (hc : cmpP x y = 1) : MrgI S N (x :: A) B (O ++ [y]) := by
  refine (h.swap.left' ?_).swap
  rcases ltP_tri x y with h1 | h1 | h1
  · have := (cmpP_lt x y).2 h1; omega
  · have := (cmpP_eq x y).2 h1; omega
  · exact h1
theorem MrgI.eq {S : Pt → Prop} {N : Nat} {x y : Pt} {A B O : List Pt} (h : MrgI S N (x :: A) (y :: B) O) (hc : cmpP x y = 0) : MrgI S N A B (O ++ [y]) := by
  have e := (cmpP_eq x y).1 hc
  subst e
  have h1 := List.pairwise_cons.1 h.ra
  have h2 := List.pairwise_cons.1 h.rb
  refine MrgI.left ⟨h.ra, h2.2, h.ro, h.oa, fun z hz y hy => h.ob z hz y (List.mem_cons_of_mem _ hy), fun z => ?_, ?_⟩ h2.1
  · rw [← h.mem z]
    simp only [List.mem_cons]
    constructor
    · rintro (h | (h | h) | h)
      · exact .inl h
      · exact .inr (.inl (.inl h))
      · exact .inr (.inl (.inr h))
      · exact .inr (.inr (.inr h))
    · rintro (h | (h | h) | (h | h))
      · exact .inl h
      · exact .inr (.inl (.inl h))
      · exact .inr (.inl (.inr h))
      · exact .inr (.inl (.inl h))
      · exact .inr (.inr h)
  · have := h.len
    simp only [List.length_cons] at this ⊢
    omega
theorem RowP.dropK {w : World} {B b o : Nat} {L : List Pt} (h : RowP w B (some ⟨b, o, none⟩) L) (k : Nat) (q : Option Addr) (hq : k < L.length → q = some ⟨b, o + k * 3, none⟩) : RowP w B q (L.drop k) := by
  intro i hi
  have hi' : k + i < L.length := by
    rw [List.length_drop] at hi
    omega
  obtain ⟨b', o', e, hb, c0, c1, c2⟩ := h (k + i) hi'
  cases e
  have e : o + k * 3 + i * 3 = o + (k + i) * 3 := by omega
  refine ⟨b, o + k * 3, hq (by omega), hb, ?_, ?_, ?_⟩
  · rw [e, List.getElem_drop]; exact c0
  · rw [e, List.getElem_drop]; exact c1
  · rw [e, List.getElem_drop]; exact c2
theorem RowP.takeK {w : World} {B : Nat} {p : Option Addr} {L : List Pt} (h : RowP w B p L) (k : Nat) : RowP w B p (L.take k) := by
  intro i hi
  have hi' : i < L.length := by
    rw [List.length_take] at hi
    omega
  obtain ⟨b, o, e, hb, c0, c1, c2⟩ := h i hi'
  refine ⟨b, o, e, hb, ?_, ?_, ?_⟩ <;> rw [List.getElem_take] <;> assumption
theorem slice_fromP (b o n c k : Nat) (h : k ≤ n) : ∃ q, (k < n → n ≤ c → q = some ⟨b, o + k * 3, none⟩) ∧ ∀ w : World, (Instr.sliceAt 24 (.slice (some ⟨b, o, none⟩) n c) (some (.int .i64 (k : Int))) none none).run Tryz.prog w = .ok (.slice q (n - k) (c - k)) w := by
  refine ⟨if c = k then some ⟨b, o, none⟩ else some ⟨b, o + k * 3, none⟩, fun h1 h2 => by rw [if_neg (by omega)], fun w => ?_⟩
  have hs : (sizeOf (Tryz.prog.elem 24)).run Tryz.prog w = .ok 3 w := by kernel_rfl
  have hu : Tryz.prog.underlying 24 = some (.slice (Tryz.prog.elem 24)) := by kernel_rfl
  rw [run_sliceAt_slice (P := Tryz.prog) (w := w) _ _ _ _ _ hu, run_slice_l (P := Tryz.prog) (w := w) _ _ _ _ hu _ _ (by omega) (by omega), hs]
  simp only [Result.andThen, sliced, Int.toNat_natCast]
  by_cases hk : c = k
  · simp [hk]
  · simp [hk, Addr.add]
    try exact fun h => absurd h.symm hk
theorem slice_toP (p : Option Addr) (n c k : Nat) (h : k ≤ c) (w : World) : (Instr.sliceAt 24 (.slice p n c) none (some (.int .i64 (k : Int))) none).run Tryz.prog w = .ok (.slice p k c) w := by
  have hs : (sizeOf (Tryz.prog.elem 24)).run Tryz.prog w = .ok 3 w := by kernel_rfl
  have hu : Tryz.prog.underlying 24 = some (.slice (Tryz.prog.elem 24)) := by kernel_rfl
  rw [run_sliceAt_slice (P := Tryz.prog) (w := w) _ _ _ _ _ hu, run_slice_h (P := Tryz.prog) (w := w) _ _ _ _ hu _ _ (by omega) (by omega), hs]
  simp only [Result.andThen, sliced, Int.toNat_natCast]
  cases p with
  | none => simp
  | some a =>
    obtain ⟨b, o, x⟩ := a
    simp [Addr.add]
def lenV : Value → Nat
  | .slice _ n _ => n
  | _ => 0



end Go.Proofs.YtcknhjabdjbjiabGreat
