/- A foot without a table. Normal spans: what they are; that there is one list of them; a point is looked for among them. -/
import Derived.Test.YtcknhjabdjbjiabGreatGWCl8
import Derived.Test.YtcknhjabdjbjiabGreatGWCl4
namespace Go.Proofs.YtcknhjabdjbjiabGreat
open Go.RowKit
set_option maxRecDepth 100000

theorem OwnS.frm {w w' : World} {F : Nat → Prop} {B : Nat} {v : Value} {L : List Sp} (h : OwnS w B v L) (hf : Frm w w' F) (hn : ∀ b, B ≤ b → ¬ F b) : OwnS w' B v L := by
  refine ⟨h.1, ?_⟩
  rcases h.2 with h1 | ⟨g, cap, cur, e, hb', hg, r⟩
  · exact .inl h1
  · exact .inr ⟨g, cap, cur, e, hb', (hf.block g (Array.getElem?_eq_some_iff.1 hg).1 (hn g hb')).trans hg, r⟩







end Go.Proofs.YtcknhjabdjbjiabGreat

namespace Go.Proofs.YtcknhjabdjbjiabGreat
open Go.RowKit

/-- a span's range -/
def Sp.rg (s : Sp) : Rg := ⟨s.lo, s.hi, s.op⟩
/-- one span is whole ahead of another one, and they do not touch -/
def ApS (x y : Sp) : Prop := x.t < y.t ∨ x.t = y.t ∧ (x.i < y.i ∨ x.i = y.i ∧ Apart x.rg y.rg)
def SepS (U : List Sp) : Prop := (∀ s ∈ U, GoodR s.rg) ∧ U.Pairwise ApS
/-- is a point in one of these? -/
def anyS (L : List Sp) (x : Pt) : Bool := L.any (inS x)
theorem anyS_iff (L : List Sp) (x : Pt) : anyS L x = true ↔ ∃ s ∈ L, inS x s = true := List.any_eq_true
theorem inS_iff (x : Pt) (s : Sp) : inS x s = true ↔ x.t = s.t ∧ x.i = s.i ∧ s.rg.has x.k := by
  rw [has_iff]
  simp [inS, Sp.rg]
theorem bgn_in {s : Sp} (h : GoodR s.rg) : inS (bgn s) s = true := (inS_iff _ _).2 ⟨rfl, rfl, some_has h.1⟩
theorem apS_lt {x y : Sp} (h : ApS x y) (hx : GoodR x.rg) : ltP (bgn x) (bgn y) = true := by
  rw [ltP_iff]
  rcases h with h | ⟨h1, h | ⟨h2, h3⟩⟩
  · exact .inl h
  · exact .inr ⟨h1, .inl h⟩
  · refine .inr ⟨h1, .inr ⟨h2, ?_⟩⟩
    have h4 : ltB x.lo x.hi = true := by
      rcases hx.1 with h5 | h5
      · rw [h3.1] at h5; cases h5
      · exact h5
    exact lt_trans' h4 h3.2
theorem apS_not {x y : Sp} (h : ApS x y) {p : Pt} (hp : ltP p (bgn y) = false) : inS p x = false := by
  cases hc : inS p x
  · rfl
  · exfalso
    rw [inS_iff] at hc
    obtain ⟨h1, h2, h3⟩ := hc
    have h4 := ltP_false hp
    simp only [bgn] at h4
    rcases h with h | ⟨e1, h | ⟨e2, h⟩⟩
    · rcases h4 with h4 | ⟨h4, _⟩ <;> omega
    · rcases h4 with h4 | ⟨_, h4 | ⟨h4, _⟩⟩ <;> omega
    · have h5 : ltB p.k y.lo = false := by
        rcases h4 with h4 | ⟨_, h4 | ⟨_, h4⟩⟩
        · omega
        · omega
        · exact h4
      have h6 : ltB x.hi y.lo = true := h.2
      rcases h3.2 with h7 | h7
      · rw [show x.rg.op = false from h.1] at h7; cases h7
      · have h8 : ltB p.k x.hi = true := h7
        rw [lt_trans' h8 h6] at h5; cases h5
theorem SepS.tail {r : Sp} {U : List Sp} (hs : SepS (r :: U)) : SepS U := ⟨fun q hq => hs.1 q (List.mem_cons_of_mem _ hq), (List.pairwise_cons.1 hs.2).2⟩
theorem SepS.head {r : Sp} {U : List Sp} (hs : SepS (r :: U)) {s : Sp} (h : s ∈ U) : ApS r s := (List.pairwise_cons.1 hs.2).1 s h
theorem SepS.ge {r : Sp} {U : List Sp} (hs : SepS (r :: U)) {x : Pt} (h : anyS (r :: U) x = true) : ltP x (bgn r) = false := by
  obtain ⟨s, hm, hx⟩ := (anyS_iff _ _).1 h
  rcases List.mem_cons.1 hm with rfl | hm
  · exact inS_ge hx
  · exact leP_trans (ltP_asymm (apS_lt (hs.head hm) (hs.1 r (by simp)))) (inS_ge hx)
theorem SepS.rest {r : Sp} {U : List Sp} (hs : SepS (r :: U)) (x : Pt) : anyS U x = (anyS (r :: U) x && !inS x r) := by
  cases h : inS x r
  · simp [anyS, h]
  · have h1 : anyS U x = false := by
      cases hc : anyS U x
      · rfl
      · exfalso
        obtain ⟨s, hm, hx⟩ := (anyS_iff _ _).1 hc
        rw [apS_not (hs.head hm) (inS_ge hx)] at h
        cases h
    simp [h1]
theorem SepS.hi {r : Sp} {U : List Sp} (hs : SepS (r :: U)) (ho : r.op = false) : anyS (r :: U) ⟨r.t, r.i, r.hi⟩ = false := by
  cases hc : anyS (r :: U) ⟨r.t, r.i, r.hi⟩
  · rfl
  · exfalso
    obtain ⟨s, hm, hx⟩ := (anyS_iff _ _).1 hc
    obtain ⟨h1, h2, h3⟩ := (inS_iff _ _).1 hx
    rcases List.mem_cons.1 hm with rfl | hm
    · rcases h3.2 with h4 | h4
      · rw [show s.rg.op = false from ho] at h4; cases h4
      · have h5 : ltB s.hi s.hi = true := h4
        rw [ltB_irrefl] at h5; cases h5
    · rcases hs.head hm with h | ⟨_, h | ⟨_, h⟩⟩
      · simp only at h1; omega
      · simp only at h2; omega
      · have h5 : ltB r.hi s.lo = true := h.2
        have h6 : ltB r.hi s.lo = false := h3.1
        rw [h5] at h6; cases h6
theorem sepS_hi {r q : Sp} {U V : List Sp} (hU : SepS (r :: U)) (h : ∀ x, anyS (r :: U) x = anyS (q :: V) x) (hb : bgn r = bgn q) (ho : r.op = false) : q.op = false ∧ ltB r.hi q.hi = false := by
  have hn := hU.hi ho
  have e1 : r.t = q.t := congrArg Pt.t hb
  have e2 : r.i = q.i := congrArg Pt.i hb
  have e3 : r.lo = q.lo := congrArg Pt.k hb
  have hs : ltB r.lo r.hi = true := by
    rcases (hU.1 r (by simp)).1 with h3 | h3
    · rw [show r.rg.op = false from ho] at h3; cases h3
    · exact h3
  have hge : ltB r.hi q.lo = false := by rw [← e3]; exact le_of_lt hs
  rw [h] at hn
  constructor
  · cases hq : q.op with
    | false => rfl
    | true =>
      rw [(anyS_iff _ _).2 ⟨q, by simp, (inS_iff _ _).2 ⟨e1, e2, hge, .inl hq⟩⟩] at hn
      cases hn
  · cases hq : ltB r.hi q.hi with
    | false => rfl
    | true =>
      rw [(anyS_iff _ _).2 ⟨q, by simp, (inS_iff _ _).2 ⟨e1, e2, hge, .inr hq⟩⟩] at hn
      cases hn

/-- there is one list of normal spans -/
theorem sepS_unique : ∀ (U V : List Sp), SepS U → SepS V → (∀ x, anyS U x = anyS V x) → U = V
  | [], [], _, _, _ => rfl
  | [], q :: V, _, hV, h => by
    have h1 := h (bgn q)
    rw [(anyS_iff (q :: V) _).2 ⟨q, by simp, bgn_in (hV.1 q (by simp))⟩] at h1
    cases h1
  | r :: U, [], hU, _, h => by
    have h1 := h (bgn r)
    rw [(anyS_iff (r :: U) _).2 ⟨r, by simp, bgn_in (hU.1 r (by simp))⟩] at h1
    cases h1
  | r :: U, q :: V, hU, hV, h => by
    have h' : ∀ x, anyS (q :: V) x = anyS (r :: U) x := fun x => (h x).symm
    have hb : bgn r = bgn q := leP_antisymm (hU.ge ((h (bgn q)).trans ((anyS_iff _ _).2 ⟨q, by simp, bgn_in (hV.1 q (by simp))⟩))) (hV.ge ((h (bgn r)).symm.trans ((anyS_iff _ _).2 ⟨r, by simp, bgn_in (hU.1 r (by simp))⟩)))
    have e1 : r.t = q.t := congrArg Pt.t hb
    have e2 : r.i = q.i := congrArg Pt.i hb
    have e3 : r.lo = q.lo := congrArg Pt.k hb
    have hrq : r = q := by
      cases ho : r.op with
      | false =>
        obtain ⟨h1, h2⟩ := sepS_hi hU h hb ho
        obtain ⟨_, h3⟩ := sepS_hi hV h' hb.symm h1
        have hh := le_antisymm' h3 h2
        cases r; cases q; simp_all
      | true =>
        cases hq : q.op with
        | false =>
          have := (sepS_hi hV h' hb.symm hq).1
          rw [ho] at this; cases this
        | true =>
          have e4 : r.hi = ⟨#[]⟩ := (hU.1 r (by simp)).2 ho
          have e5 : q.hi = ⟨#[]⟩ := (hV.1 q (by simp)).2 hq
          cases r; cases q; simp_all
    subst hrq
    congr 1
    exact sepS_unique U V hU.tail hV.tail fun x => by rw [hU.rest, hV.rest, h x]

/-- a point is looked for among normal spans -/
theorem SepS.look {U : List Sp} (hs : SepS U) (x : Pt) (i : Nat) (hi : i ≤ U.length) (h1 : ∀ k (hk : k < U.length), k < i → ltP (bgn U[k]) x = true) (h2 : ∀ k (hk : k < U.length), i ≤ k → ltP (bgn U[k]) x = false) :
    anyS U x = (decide (∃ h : i < U.length, bgn U[i] = x) || (match i with | 0 => false | j + 1 => if h : j < U.length then inS x U[j] else false)) := by
  rw [Bool.eq_iff_iff, anyS_iff, Bool.or_eq_true, decide_eq_true_eq]
  constructor
  · rintro ⟨s, hm, hx⟩
    obtain ⟨k, hk, rfl⟩ := List.getElem_of_mem hm
    by_cases hki : i ≤ k
    · left
      have h3 := h2 k hk hki
      have h4 := inS_ge hx
      have e : bgn U[k] = x := leP_antisymm h4 h3
      have hik : i = k := by
        rcases Nat.lt_or_eq_of_le hki with h | h
        · exfalso
          have h5 := apS_lt (List.pairwise_iff_getElem.1 hs.2 i k (by omega) hk h) (hs.1 _ (List.getElem_mem _))
          have h6 := h2 i (by omega) (Nat.le_refl _)
          rw [e] at h5
          rw [h5] at h6
          cases h6
        · exact h
      subst hik
      exact ⟨hk, e⟩
    · right
      cases i with
      | zero => omega
      | succ j =>
        have hj : j < U.length := by omega
        have e : k = j := by
          rcases Nat.lt_or_eq_of_le (show k ≤ j by omega) with h | h
          · exfalso
            have h5 := apS_not (List.pairwise_iff_getElem.1 hs.2 k j hk hj h) (ltP_asymm (h1 j hj (by omega)))
            rw [hx] at h5
            cases h5
          · exact h
        subst e
        simp only [hj, dif_pos]
        exact hx
  · rintro (⟨h, e⟩ | h)
    · exact ⟨U[i], List.getElem_mem _, by rw [← e]; exact bgn_in (hs.1 _ (List.getElem_mem _))⟩
    · cases i with
      | zero => cases h
      | succ j =>
        have hj : j < U.length := by omega
        simp only [hj, dif_pos] at h
        exact ⟨U[j], List.getElem_mem _, h⟩

/-- where a span lies -/
def plcS (s : Sp) : Pt := ⟨s.t, s.i, ⟨#[]⟩⟩
/-- the ranges that lie at a place -/
def rngsAt (L : List Sp) (p : Pt) : List Rg := (L.filter (fun s => decide (plcS s = p))).map Sp.rg
def spOf (p : Pt) (r : Rg) : Sp := ⟨p.t, p.i, r.lo, r.hi, r.op⟩
/-- the normal spans of places and of the unions there -/
def layU : List (Pt × List Rg) → List Sp
  | [] => []
  | x :: M => x.2.map (spOf x.1) ++ layU M
theorem mem_layU : ∀ (M : List (Pt × List Rg)) (s : Sp), s ∈ layU M ↔ ∃ x ∈ M, ∃ r ∈ x.2, s = spOf x.1 r
  | [], s => by simp [layU]
  | x :: M, s => by
    simp only [layU, List.mem_append, List.mem_map, List.mem_cons, mem_layU M s]
    constructor
    · rintro (⟨r, hr, rfl⟩ | ⟨y, hy, h⟩)
      · exact ⟨x, .inl rfl, r, hr, rfl⟩
      · exact ⟨y, .inr hy, h⟩
    · rintro ⟨y, rfl | hy, r, hr, rfl⟩
      · exact .inl ⟨r, hr, rfl⟩
      · exact .inr ⟨y, hy, r, hr, rfl⟩
theorem layU_snoc (M : List (Pt × List Rg)) (x : Pt × List Rg) : layU (M ++ [x]) = layU M ++ x.2.map (spOf x.1) := by
  induction M with
  | nil => simp [layU]
  | cons y M ih => simp [layU, ih]
/-- the union of ranges -/
def UnOf (L U : List Rg) : Prop := Sep U ∧ ∀ k, inL U k ↔ inL L k
theorem layU_sep : ∀ (M : List (Pt × List Rg)), RisP (M.map (·.1)) → (∀ x ∈ M, x.1.k = ⟨#[]⟩) → (∀ x ∈ M, Sep x.2) → SepS (layU M)
  | [], _, _, _ => ⟨fun _ h => by simp [layU] at h, List.Pairwise.nil⟩
  | x :: M, hR, hk, hS => by
    have ih := layU_sep M (List.pairwise_cons.1 hR).2 (fun y hy => hk y (List.mem_cons_of_mem _ hy)) (fun y hy => hS y (List.mem_cons_of_mem _ hy))
    have hx := hS x (by simp)
    refine ⟨fun s hs => ?_, ?_⟩
    · obtain ⟨y, hy, r, hr, rfl⟩ := (mem_layU _ _).1 hs
      exact (hS y hy).1 r hr
    · unfold layU
      refine List.pairwise_append.2 ⟨List.pairwise_map.2 (hx.2.imp (fun h => .inr ⟨rfl, .inr ⟨rfl, h⟩⟩)), ih.2, ?_⟩
      rintro a ha b hb
      obtain ⟨r, hr, rfl⟩ := List.mem_map.1 ha
      obtain ⟨y, hy, q, hq, rfl⟩ := (mem_layU _ _).1 hb
      have h1 : ltP x.1 y.1 = true := (List.pairwise_cons.1 hR).1 y.1 (List.mem_map.2 ⟨y, hy, rfl⟩)
      rw [ltP_iff] at h1
      rcases h1 with h1 | ⟨h1, h2 | ⟨h2, h3⟩⟩
      · exact .inl h1
      · exact .inr ⟨h1, .inl h2⟩
      · rw [hk x (by simp), hk y (List.mem_cons_of_mem _ hy), ltB_irrefl] at h3
        cases h3
theorem layU_any (M : List (Pt × List Rg)) (L : List Sp) (hM : ∀ x ∈ M, x.1.k = ⟨#[]⟩ ∧ ∀ k, inL x.2 k ↔ inL (rngsAt L x.1) k) (hp : ∀ s ∈ L, plcS s ∈ M.map (·.1)) (x : Pt) : anyS (layU M) x = anyS L x := by
  rw [Bool.eq_iff_iff, anyS_iff, anyS_iff]
  constructor
  · rintro ⟨s, hs, hx⟩
    obtain ⟨y, hy, r, hr, rfl⟩ := (mem_layU _ _).1 hs
    obtain ⟨h1, h2, h3⟩ := (inS_iff _ _).1 hx
    obtain ⟨q, hq, h4⟩ := ((hM y hy).2 x.k).1 ⟨r, hr, h3⟩
    obtain ⟨s', hs', rfl⟩ := List.mem_map.1 hq
    obtain ⟨h5, h6⟩ := List.mem_filter.1 hs'
    have h7 : plcS s' = y.1 := of_decide_eq_true h6
    exact ⟨s', h5, (inS_iff _ _).2 ⟨h1.trans (congrArg Pt.t h7).symm, h2.trans (congrArg Pt.i h7).symm, h4⟩⟩
  · rintro ⟨s, hs, hx⟩
    obtain ⟨h1, h2, h3⟩ := (inS_iff _ _).1 hx
    obtain ⟨y, hy, e⟩ := List.mem_map.1 (hp s hs)
    obtain ⟨r, hr, h4⟩ := ((hM y hy).2 x.k).2 ⟨s.rg, List.mem_map.2 ⟨s, List.mem_filter.2 ⟨hs, decide_eq_true e.symm⟩, rfl⟩, h3⟩
    exact ⟨spOf y.1 r, (mem_layU _ _).2 ⟨y, hy, r, hr, rfl⟩, (inS_iff _ _).2 ⟨h1.trans (congrArg Pt.t e).symm, h2.trans (congrArg Pt.i e).symm, h4⟩⟩

end Go.Proofs.YtcknhjabdjbjiabGreat
