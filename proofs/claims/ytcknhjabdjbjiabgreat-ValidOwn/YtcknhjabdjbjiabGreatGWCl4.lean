/- Points in spans; inOrder of any list. Of each span the first of the points that are in it. -/
import Derived.Test.YtcknhjabdjbjiabGreatGWBs
import Derived.Test.YtcknhjabdjbjiabGreatGWSpF
import Derived.Test.YtcknhjabdjbjiabGreatGWCl1
namespace Go.Proofs.YtcknhjabdjbjiabGreat
open Go.Shelf Go.RowKit Go.Lib Go.Sort
set_option maxRecDepth 100000

set_option maxHeartbeats 2000000 in
theorem insPN_any (fv : Value) (w : World) : Calls Tryz.prog 100 #[.slice none 0 0, .int .i64 0, .int .i64 0, fv] w fun e w' => e = .returned (.tuple #[]) ∧ w' = w := by
  go_enter Tryz.func100, Tryz.ntmps100
  go_wp2
  refine wp_loop_rounds 1 ?_
  rw [rounds_succ]
  go_wp2
  go_end0
  exact ⟨rfl, rfl⟩

set_option maxHeartbeats 2000000 in
theorem pdqPN_any (lim : Int) (fv : Value) (w : World) : Calls Tryz.prog 91 #[.slice none 0 0, .int .i64 0, .int .i64 0, .int .i64 lim, fv] w fun e w' => e = .returned (.tuple #[]) ∧ w' = w := by
  have hi := fun W => insPN_any fv W
  go_enter Tryz.func91, Tryz.ntmps91
  go_wp2
  refine wp_loop_rounds 1 ?_
  rw [rounds_succ]
  go_wp2_with (go_at_call 100; refine (hi _).mono ?_; rintro e w' ⟨rfl, rfl⟩)
  (try simp only [Exit.inBlock, Exit.then]); refine bodyPost_ret (results_none rfl _ _ _) rfl ?_
  exact ⟨rfl, rfl⟩

set_option maxHeartbeats 2000000 in
theorem sortPN_any (fv : Value) (w : World) : Calls Tryz.prog 77 #[.slice none 0 0, fv] w fun e w' => e = .returned (.tuple #[]) ∧ w' = w := by
  have hp := fun lim W => pdqPN_any lim fv W
  have hl := lenN_any
  go_enter Tryz.func77, Tryz.ntmps77
  go_wp2_with (first | (go_at_call 92; refine (hl _).mono ?_; rintro e w' ⟨rfl, rfl⟩) | (go_at_call 91; refine (hp _ _).mono ?_; rintro e w' ⟨rfl, rfl⟩))
  go_end0
  exact ⟨rfl, rfl⟩


theorem inOrder_none (w : World) : Calls Tryz.prog 60 #[.slice none 0 0] w fun e w' => e = .returned (.slice none 0 0) ∧ RowKit.Below w.heap.size w w' := by
  have C1 : Hid (Calls _ _ _ _ _) := clonePN_any w
  have C2 : Hid (∀ w1 : World, Calls Tryz.prog 77 #[.slice none 0 0, .func (.func 62) #[] #[]] w1 fun e w' => e = .returned (.tuple #[]) ∧ w' = w1) := fun w1 => sortPN_any _ w1
  have C3 : Hid (∀ w1 : World, Calls Tryz.prog 78 #[.slice none 0 0] w1 fun e w' => e = .returned (.slice none 0 0) ∧ w' = w1) := fun w1 => by
    go_enter Tryz.func78, Tryz.ntmps78
    go_wp2_with fail
    go_ret
    exact ⟨rfl, rfl⟩
  go_enter Tryz.func60, Tryz.ntmps60
  go_wp2_with fail
  refine C1.out.mono ?_
  rintro e w1 ⟨rfl, hb1⟩
  go_wp2_with fail
  refine (C2.out _).mono ?_
  rintro e w2 ⟨rfl, h2⟩
  rw [h2]
  clear h2
  go_wp2_with fail
  refine (C3.out _).mono ?_
  rintro e w3 ⟨rfl, h3⟩
  rw [h3]
  clear h3
  go_wp2_with fail
  go_ret
  exact ⟨rfl, hb1⟩
/-- a list of points that is read -/
structure SlP (w : World) (v : Value) (L : List Pt) : Prop where
  f : ∃ p c, v = .slice p L.length c ∧ L.length ≤ c ∧ (p = none → c = 0) ∧ RowP w w.heap.size p L
theorem SlP.on {w w' : World} {v : Value} {L : List Pt} (h : SlP w v L) (hb : RowKit.Below w.heap.size w w') : SlP w' v L := by
  obtain ⟨p, c, e, h1, h2, h3⟩ := h.f
  exact ⟨p, c, e, h1, h2, h3.on hb⟩
structure SlS (w : World) (v : Value) (L : List Sp) : Prop where
  f : ∃ p c, v = .slice p L.length c ∧ L.length ≤ c ∧ (p = none → c = 0) ∧ RowS w w.heap.size p L
theorem SlS.on {w w' : World} {v : Value} {L : List Sp} (h : SlS w v L) (hb : RowKit.Below w.heap.size w w') : SlS w' v L := by
  obtain ⟨p, c, e, h1, h2, h3⟩ := h.f
  exact ⟨p, c, e, h1, h2, h3.on hb⟩
theorem OwnP.sl {w : World} {B : Nat} {v : Value} {L : List Pt} (h : OwnP w B v L) : SlP w v L := by
  rcases h.form with ⟨rfl, rfl⟩ | ⟨g, cap, rfl, _, hg⟩
  · exact ⟨none, 0, rfl, Nat.le_refl _, fun _ => rfl, fun i hi => absurd hi (by simp)⟩
  · obtain ⟨p, c, e, hr⟩ := h.row
    obtain ⟨rfl, -, rfl⟩ := Value.slice.inj e
    exact ⟨_, _, rfl, h.cap.1, fun h => (by cases h), hr⟩
theorem OwnS.sl {w : World} {B : Nat} {v : Value} {L : List Sp} (h : OwnS w B v L) : SlS w v L := by
  rcases h.form with ⟨rfl, rfl⟩ | ⟨g, cap, rfl, _, hg⟩
  · exact ⟨none, 0, rfl, Nat.le_refl _, fun _ => rfl, fun i hi => absurd hi (by simp)⟩
  · obtain ⟨p, c, e, hr⟩ := h.row
    obtain ⟨rfl, -, rfl⟩ := Value.slice.inj e
    exact ⟨_, _, rfl, h.cap.1, fun h => (by cases h), hr⟩
theorem inOrder_any (L : List Pt) (v : Value) (w : World) (h : SlP w v L) (hlen : L.length ≤ 4398046511104) :
    Calls Tryz.prog 60 #[v] w fun e w' => ∃ (v' : Value) (R : List Pt), e = .returned v' ∧ OwnP w' w.heap.size v' R ∧ RisP R ∧ (∀ x, x ∈ R ↔ x ∈ L) ∧ R.length ≤ L.length ∧ RowKit.Below w.heap.size w w' := by
  obtain ⟨p, c, rfl, h1, h2, h3⟩ := h.f
  cases p with
  | none =>
    have e := rowP_len h3 rfl
    subst e
    rw [h2 rfl]
    refine (inOrder_none w).mono ?_
    rintro e w1 ⟨rfl, hb⟩
    exact ⟨_, [], rfl, OwnP.nil _ _, List.Pairwise.nil, fun _ => Iff.rfl, Nat.le_refl _, hb⟩
  | some a => exact inOrder_some L a c w h3 hlen h1

/-- is a point in a span? -/
def inS (x : Pt) (s : Sp) : Bool := (x.t == s.t) && ((x.i == s.i) && hasB s.lo s.hi s.op x.k)
def bgn (s : Sp) : Pt := ⟨s.t, s.i, s.lo⟩
theorem ltP_false {a b : Pt} (h : ltP a b = false) : b.t < a.t ∨ b.t = a.t ∧ (b.i < a.i ∨ b.i = a.i ∧ ltB a.k b.k = false) := by
  rcases Int.lt_trichotomy a.t b.t with h1 | h1 | h1
  · rw [(ltP_iff a b).2 (.inl h1)] at h; cases h
  · rcases Int.lt_trichotomy a.i b.i with h2 | h2 | h2
    · rw [(ltP_iff a b).2 (.inr ⟨h1, .inl h2⟩)] at h; cases h
    · refine .inr ⟨h1.symm, .inr ⟨h2.symm, ?_⟩⟩
      cases h3 : ltB a.k b.k
      · rfl
      · rw [(ltP_iff a b).2 (.inr ⟨h1, .inr ⟨h2, h3⟩⟩)] at h; cases h
    · exact .inr ⟨h1.symm, .inl h2⟩
  · exact .inl h1
theorem inS_ge {x : Pt} {s : Sp} (h : inS x s = true) : ltP x (bgn s) = false := by
  cases hc : ltP x (bgn s)
  · rfl
  · rw [ltP_iff] at hc
    simp only [inS, Bool.and_eq_true, beq_iff_eq, hasB, Bool.not_eq_true'] at h
    obtain ⟨h1, h2, h3, _⟩ := h
    simp only [bgn] at hc
    rcases hc with hc | ⟨_, hc | ⟨_, hc⟩⟩
    · omega
    · omega
    · rw [h3] at hc; cases hc
theorem inS_mid {x y : Pt} {s : Sp} (hb : ltP y (bgn s) = false) (hxy : ltP x y = false) (hx : inS x s = true) : inS y s = true := by
  have h1 := ltP_false hb
  have h2 := ltP_false hxy
  simp only [inS, Bool.and_eq_true, beq_iff_eq, hasB, Bool.not_eq_true', Bool.or_eq_true] at hx ⊢
  obtain ⟨e1, e2, e3, e4⟩ := hx
  simp only [bgn] at h1
  have et : y.t = s.t := by rcases h1 with h | ⟨h, _⟩ <;> rcases h2 with h' | ⟨h', _⟩ <;> omega
  have ei : y.i = s.i := by
    rcases h1 with h | ⟨_, h | ⟨h, _⟩⟩ <;> rcases h2 with h' | ⟨_, h' | ⟨h', _⟩⟩ <;> omega
  have hk1 : ltB y.k s.lo = false := by
    rcases h1 with h | ⟨_, h | ⟨_, h⟩⟩
    · omega
    · omega
    · exact h
  have hk2 : ltB x.k y.k = false := by
    rcases h2 with h | ⟨_, h | ⟨_, h⟩⟩
    · omega
    · omega
    · exact h
  refine ⟨et, ei, hk1, ?_⟩
  rcases e4 with h | h
  · exact .inl h
  · refine .inr ?_
    cases hc : ltB y.k s.hi
    · rw [le_trans' hc hk2] at h; cases h
    · rfl

set_option maxHeartbeats 1000000 in
theorem isIn_any (x : Pt) (s : Sp) (w : World) : Calls Tryz.prog 63 #[PV x, .agg #[.int .i64 s.t, .int .i64 s.i, .string s.lo, .string s.hi, .bool s.op]] w fun e w' => e = .returned (.bool (inS x s)) ∧ RowKit.Below w.heap.size w w' := by
  have C1 : Hid (∀ w1 : World, Calls Tryz.prog 79 #[rngV s.lo s.hi s.op, .string x.k] w1 fun e w' => e = .returned (.bool (hasB s.lo s.hi s.op x.k)) ∧ RowKit.Below w1.heap.size w1 w') := fun w1 => has_any s.lo s.hi s.op x.k w1
  unfold inS
  generalize hasB s.lo s.hi s.op x.k = hb at *
  cases h1 : (x.t == s.t) <;> cases h2 : (x.i == s.i)
  all_goals
    go_enter Tryz.func63, Tryz.ntmps63
    go_wp2_with (first | (go_at_call 79; refine (C1.out _).mono ?_; rintro e w5 ⟨rfl, hb5⟩))
    go_ret
    refine ⟨rfl, ?_⟩
    first | exact ((((Below.refl _ _).alloc (Nat.le_refl _) _).alloc (by simp) _).trans (hb5.mono (by simp; omega))) | exact ((Below.refl _ _).alloc (Nat.le_refl _) _).alloc (by simp) _

set_option maxHeartbeats 1000000 in
theorem begin_any (s : Sp) (w : World) : Calls Tryz.prog 37 #[.agg #[.int .i64 s.t, .int .i64 s.i, .string s.lo, .string s.hi, .bool s.op]] w fun e w' => e = .returned (PV (bgn s)) ∧ RowKit.Below w.heap.size w w' := by
  go_enter Tryz.func37, Tryz.ntmps37
  go_wp2
  go_returns
  exact ⟨rfl, by go_grown⟩

end Go.Proofs.YtcknhjabdjbjiabGreat

namespace Go.Proofs.YtcknhjabdjbjiabGreat
open Go.RowKit
set_option maxRecDepth 100000

theorem RowS.frm {w w' : World} {F : Nat → Prop} {p : Option Addr} {L : List Sp} (h : RowS w w.heap.size p L) (hf : Frm w w' F) (hn : ∀ b o, p = some ⟨b, o, none⟩ → b < w.heap.size → L ≠ [] → ¬ F b) : RowS w' w'.heap.size p L := by
  intro i hi
  obtain ⟨b, o, e, hb, c0, c1, c2, c3, c4⟩ := h i hi
  have k : ∀ q, w'.cell? ⟨b, q, none⟩ = w.cell? ⟨b, q, none⟩ := fun q => cell_block (hf.block b hb (hn b o e hb (List.ne_nil_of_length_pos (by omega))))
  exact ⟨b, o, e, Nat.lt_of_lt_of_le hb hf.size, (k _).trans c0, (k _).trans c1, (k _).trans c2, (k _).trans c3, (k _).trans c4⟩
theorem OwnP.frm {w w' : World} {F : Nat → Prop} {B : Nat} {v : Value} {L : List Pt} (h : OwnP w B v L) (hf : Frm w w' F) (hn : ∀ b, B ≤ b → ¬ F b) : OwnP w' B v L := by
  refine ⟨h.1, ?_⟩
  rcases h.2 with h1 | ⟨g, cap, cur, e, hb', hg, r⟩
  · exact .inl h1
  · exact .inr ⟨g, cap, cur, e, hb', (hf.block g (Array.getElem?_eq_some_iff.1 hg).1 (hn g hb')).trans hg, r⟩
/-- spans one more: the first point at or behind its beginning is shown, if it is in it -/
theorem span_step {S : Pt → Prop} {W R : List Pt} {o : Option Pt} {i : Nat} {s : Sp} (hM : IsMin S o) (hI : RisP R) (hm : ∀ x, x ∈ R ↔ x ∈ W) (h1 : ∀ k (hk : k < R.length), k < i → ltP R[k] (bgn s) = true) (h2 : ∀ k (hk : k < R.length), i ≤ k → ltP R[k] (bgn s) = false) :
    (∀ (hi : i < R.length), inS R[i] s = true → IsMin (fun x => S x ∨ (x ∈ W ∧ inS x s = true)) (minO o R[i])) ∧ ((∀ (hi : i < R.length), inS R[i] s = false) → IsMin (fun x => S x ∨ (x ∈ W ∧ inS x s = true)) o) := by
  have key : ∀ x, x ∈ W → inS x s = true → ∃ hi : i < R.length, ltP x R[i] = false ∧ inS R[i] s = true := by
    intro x hx hs
    obtain ⟨k, hk, rfl⟩ := List.getElem_of_mem ((hm x).2 hx)
    have hik : i ≤ k := by
      rcases Nat.lt_or_ge k i with h | h
      · have h3 := h1 k hk h
        rw [inS_ge hs] at h3
        cases h3
      · exact h
    have hi : i < R.length := by omega
    have hle : ltP R[k] R[i] = false := by
      rcases Nat.lt_or_eq_of_le hik with h | h
      · exact ltP_asymm (hI.lt h hk)
      · subst h; exact ltP_irrefl _
    exact ⟨hi, hle, inS_mid (h2 i hi (Nat.le_refl _)) hle hs⟩
  constructor
  · intro hi hs
    refine (hM.add R[i]).more (fun x hx => ?_) (fun x hx => ?_)
    · rcases hx with h | rfl
      · exact .inl h
      · exact .inr ⟨(hm _).1 (List.getElem_mem hi), hs⟩
    · rcases hx with h | ⟨h, h'⟩
      · exact ⟨x, .inl h, ltP_irrefl _⟩
      · obtain ⟨_, h3, _⟩ := key x h h'
        exact ⟨R[i], .inr rfl, h3⟩
  · intro hn
    refine hM.ext (fun x => ⟨.inl, fun hx => ?_⟩)
    rcases hx with h | ⟨h, h'⟩
    · exact h
    · obtain ⟨hi, _, h3⟩ := key x h h'
      rw [hn hi] at h3
      cases h3

set_option maxHeartbeats 8000000 in
theorem seeSpanned_any (S : Pt → Prop) (o : Option Pt) (Q : List Sp) (W : List Pt) (ps : Option Addr) (cs lb : Nat) (vw : Value) (w : World) (hM : IsMin S o) (hL : Blk w lb (lC o) 94) (hQ : RowS w w.heap.size ps Q) (hW : SlP w vw W)
    (hlq : Q.length ≤ 2513169434916) (hlw : W.length ≤ 4398046511104) (hns : ∀ b o, ps = some ⟨b, o, none⟩ → Q ≠ [] → ¬ b = lb) :
    Calls Tryz.prog 44 #[ptr1 lb, .slice ps Q.length cs, vw] w fun e w' => e = .returned (.tuple #[]) ∧ ∃ o', IsMin (fun x => S x ∨ (x ∈ W ∧ ∃ s ∈ Q, inS x s = true)) o' ∧ Blk w' lb (lC o') 94 ∧ Frm w w' (fun k => k = lb) := by
  have HL : Hid (Blk w lb (lC o) 94) := hL
  have HM : Hid (IsMin S o) := hM
  have HQ : Hid (RowS w w.heap.size ps Q) := hQ
  have HNS : Hid (∀ b o, ps = some ⟨b, o, none⟩ → Q ≠ [] → ¬ b = lb) := hns
  by_cases hq0 : Q = []
  · subst hq0
    clear hL hM hQ hW hns
    go_enter Tryz.func44, Tryz.ntmps44
    go_wp2_with fail
    go_returns
    exact ⟨rfl, o, HM.out.ext (fun x => by simp), HL.out, Frm.refl _ _⟩
  · have hql : ¬ (Q.length : Int) = 0 := by
      have := List.length_pos_iff.2 hq0
      omega
    have hqd : ((Q.length : Int) == 0) = false := by simpa using hql
    have C1 : Hid (Calls Tryz.prog 60 #[vw] w fun e w' => ∃ (v' : Value) (R : List Pt), e = .returned v' ∧ OwnP w' w.heap.size v' R ∧ RisP R ∧ (∀ x, x ∈ R ↔ x ∈ W) ∧ R.length ≤ W.length ∧ Below w.heap.size w w') := inOrder_any W vw w hW hlw
    obtain ⟨ql, hqL⟩ : ∃ ql, ql = Q.length := ⟨_, rfl⟩
    rw [← hqL] at hqd hlq ⊢
    have HqL : Hid (ql = Q.length) := hqL
    clear hL hM hQ hW hns hql hq0 hqL
    go_enter Tryz.func44, Tryz.ntmps44
    go_wp2_with fail
    refine C1.out.mono ?_
    rintro e w1 ⟨v', R, rfl, hO, hI, hm, hl, hb1⟩
    have hz1 := hb1.size
    have HO : Hid (OwnP w1 w.heap.size v' R ∧ RisP R ∧ (∀ x, x ∈ R ↔ x ∈ W) ∧ R.length ≤ 4398046511104 ∧ Below w.heap.size w w1) := ⟨hO, hI, hm, by omega, hb1⟩
    obtain ⟨pr, cr, hv, hRow⟩ := hO.row
    subst hv
    have HRr : Hid (RowP w1 w1.heap.size pr R) := hRow
    have HRb : Hid (∀ b o, pr = some ⟨b, o, none⟩ → w.heap.size ≤ b) := fun b o e => by
      rcases hO.form with ⟨h, _⟩ | ⟨g, cap, h, hg, _⟩
      · obtain ⟨h9, -, -⟩ := Value.slice.inj h
        rw [h9] at e
        cases e
      · obtain ⟨h9, -, -⟩ := Value.slice.inj h
        rw [h9] at e
        cases e
        exact hg
    have HLB : Hid (lb < w.heap.size) := HL.out.lt
    have HL1 : Hid (Blk w1 lb (lC o) 94) := HL.out.on hb1
    have HQ1 : Hid (RowS w1 w1.heap.size ps Q) := HQ.out.on hb1
    have hrl : R.length ≤ 4398046511104 := by omega
    clear hO hI hm hl hb1 C1 hRow HL HQ hz1
    go_wp2_with fail
    go_loopw [18] (fun i wr => ∃ (j : Nat) (o2 : Option Pt), j ≤ ql ∧ i = .int .i64 (j : Int) ∧ Hid (IsMin (fun x => S x ∨ (x ∈ W ∧ ∃ s ∈ Q.take j, inS x s = true)) o2) ∧ Hid (Blk wr lb (lC o2) 94) ∧ Hid (Frm w1 wr (fun k => k = lb))) (fun i _ => ql - (intOf i).toNat)
    case atStart => exact ⟨0, o, Nat.zero_le _, by go_num, HM.out.ext (fun x => by simp), HL1.out, Frm.refl _ _⟩
    case round =>
      obtain ⟨j, o2, hj, rfl, HM2, HB2, HFr⟩ := hrel
      by_cases hj0 : j = ql
      · subst hj0
        go_wp2_with fail
        go_returns
        refine ⟨rfl, o2, HM2.out.ext (fun x => by rw [HqL.out, List.take_of_length_le (Nat.le_refl _)]), HB2.out, ?_⟩
        exact (Frm.of_below (F := fun k => k = lb) HO.out.2.2.2.2).trans HFr.out (fun k hk => .inl hk)
      · have hj1 : j < ql := by omega
        have hjQ : j < Q.length := by have := HqL.out; omega
        obtain ⟨b, q, hp, hb, c0, c1, c2, c3, c4⟩ := (HQ1.out.frm HFr.out (fun b o e _ hne hb => HNS.out b o e hne hb)) j hjQ
        have hmt := take_mem Q j hjQ
        obtain ⟨s, hs⟩ : ∃ s, s = Q[j] := ⟨_, rfl⟩
        rw [← hs] at c0 c1 c2 c3 c4 hmt
        have HMT : Hid (∀ y, y ∈ Q.take (j + 1) ↔ y ∈ Q.take j ∨ y = s) := hmt
        clear hs hmt
        have hal : Below wr.heap.size wr (wr.alloc (.cells #[.int .i64 s.t, .int .i64 s.i, .string s.lo, .string s.hi, .bool s.op] 86)) := (Below.refl _ _).alloc (Nat.le_refl _) _
        have hz2 : (wr.alloc (.cells #[.int .i64 s.t, .int .i64 s.i, .string s.lo, .string s.hi, .bool s.op] 86)).heap.size = wr.heap.size + 1 := by simp
        have hP := Blk.new wr #[.int .i64 s.t, .int .i64 s.i, .string s.lo, .string s.hi, .bool s.op] 86
        have p0 := hP.cell (i := 0) rfl
        have p1 := hP.cell (i := 1) rfl
        have p2 := hP.cell (i := 2) rfl
        have p3 := hP.cell (i := 3) rfl
        have p4 := hP.cell (i := 4) rfl
        have HP : Hid (Blk (wr.alloc (.cells #[.int .i64 s.t, .int .i64 s.i, .string s.lo, .string s.hi, .bool s.op] 86)) wr.heap.size #[.int .i64 s.t, .int .i64 s.i, .string s.lo, .string s.hi, .bool s.op] 86 ∧ (wr.alloc (.cells #[.int .i64 s.t, .int .i64 s.i, .string s.lo, .string s.hi, .bool s.op] 86)).heap.size = wr.heap.size + 1) := ⟨hP, hz2⟩
        have HA : Hid (Frm w1 (wr.alloc (.cells #[.int .i64 s.t, .int .i64 s.i, .string s.lo, .string s.hi, .bool s.op] 86)) (fun k => k = lb)) := HFr.out.trans (Frm.of_below (F := fun k => k = lb) hal) (fun k hk => .inl hk)
        have HB3 : Hid (Blk (wr.alloc (.cells #[.int .i64 s.t, .int .i64 s.i, .string s.lo, .string s.hi, .bool s.op] 86)) lb (lC o2) 94) := HB2.out.on hal
        subst hp
        clear hal hz2 hP HFr HB2
        have CB : Hid (∀ w5 : World, Calls Tryz.prog 37 #[.agg #[.int .i64 s.t, .int .i64 s.i, .string s.lo, .string s.hi, .bool s.op]] w5 fun e w' => e = .returned (PV (bgn s)) ∧ Below w5.heap.size w5 w') := fun w5 => begin_any s w5
        go_wp2_with fail
        generalize (wr.alloc (.cells #[.int .i64 s.t, .int .i64 s.i, .string s.lo, .string s.hi, .bool s.op] 86)) = wB at *
        refine (CB.out _).mono ?_
        rintro e w5 ⟨rfl, hb5⟩
        have HA5 : Hid (Frm w1 w5 (fun k => k = lb)) := HA.out.trans (Frm.of_below (F := fun k => k = lb) hb5) (fun k hk => .inl hk)
        have HR5 : Hid (RowP w5 w5.heap.size pr R) := HRr.out.frm HA5.out (fun b o e _ _ hb => by have := HRb.out b o e; have := HLB.out; omega)
        have HP5 : Hid (Blk w5 wr.heap.size #[.int .i64 s.t, .int .i64 s.i, .string s.lo, .string s.hi, .bool s.op] 86) := HP.out.1.on hb5
        have HB5 : Hid (Blk w5 lb (lC o2) 94) := HB3.out.on hb5
        have CS : Hid (Calls Tryz.prog 61 #[.slice pr R.length cr, PV (bgn s), .func (.func 62) #[] #[]] w5 fun e w' => ∃ (i : Nat) (b : Bool), e = .returned (.tuple #[.int .i64 (i : Nat), .bool b]) ∧ i ≤ R.length ∧ (∀ k (hk : k < R.length), k < i → ltP R[k] (bgn s) = true) ∧ (∀ k (hk : k < R.length), i ≤ k → ltP R[k] (bgn s) = false) ∧ Below w5.heap.size w5 w') := bsP_any R pr cr (bgn s) w5 HR5.out HO.out.2.1 HO.out.2.2.2.1
        clear hb5 HA HB3 HP p0 p1 p2 p3 p4 c0 c1 c2 c3 c4 CB
        go_wp2_with fail
        refine CS.out.mono ?_
        rintro e w6 ⟨i, bo, rfl, hi, h1, h2, hb6⟩
        have hst := span_step HM2.out HO.out.2.1 HO.out.2.2.1 h1 h2
        have HA6 : Hid (Frm w1 w6 (fun k => k = lb)) := HA5.out.trans (Frm.of_below (F := fun k => k = lb) hb6) (fun k hk => .inl hk)
        have HR6 : Hid (RowP w6 w6.heap.size pr R) := HR5.out.on hb6
        have HP6 : Hid (Blk w6 wr.heap.size #[.int .i64 s.t, .int .i64 s.i, .string s.lo, .string s.hi, .bool s.op] 86) := HP5.out.on hb6
        have HB6 : Hid (Blk w6 lb (lC o2) 94) := HB5.out.on hb6
        have HEX : Hid (∀ x, ((S x ∨ (x ∈ W ∧ ∃ y ∈ Q.take j, inS x y = true)) ∨ (x ∈ W ∧ inS x s = true)) ↔ (S x ∨ (x ∈ W ∧ ∃ y ∈ Q.take (j + 1), inS x y = true))) := fun x => by
          constructor
          · rintro ((h | ⟨h, y, hy, h'⟩) | ⟨h, h'⟩)
            · exact .inl h
            · exact .inr ⟨h, y, (HMT.out y).2 (.inl hy), h'⟩
            · exact .inr ⟨h, s, (HMT.out s).2 (.inr rfl), h'⟩
          · rintro (h | ⟨h, y, hy, h'⟩)
            · exact .inl (.inl h)
            · rcases (HMT.out y).1 hy with h9 | rfl
              · exact .inl (.inr ⟨h, y, h9, h'⟩)
              · exact .inr ⟨h, h'⟩
        clear h1 h2 hb6 HA5 HR5 HP5 HB5 CS HM2 HMT
        have s0 := InB.cell (w := w6) (HP6.out.cell (i := 0) rfl) HP6.out.lt
        have s1 := InB.cell (w := w6) (HP6.out.cell (i := 1) rfl) HP6.out.lt
        have s2 := InB.cell (w := w6) (HP6.out.cell (i := 2) rfl) HP6.out.lt
        have s3 := InB.cell (w := w6) (HP6.out.cell (i := 3) rfl) HP6.out.lt
        have s4 := InB.cell (w := w6) (HP6.out.cell (i := 4) rfl) HP6.out.lt
        have ne1 := inB_ne w6
        by_cases hiR : i < R.length
        · obtain ⟨b9, q9, hp9, hb9, d0, d1, d2⟩ := HR6.out i hiR
          have r0 := InB.cell (w := w6) d0 hb9
          have r1 := InB.cell (w := w6) d1 hb9
          have r2 := InB.cell (w := w6) d2 hb9
          have gl : decide ((i : Int) < (R.length : Int)) = true := by simp; omega
          have CI : Hid (∀ w7 : World, Calls Tryz.prog 63 #[PV R[i], .agg #[.int .i64 s.t, .int .i64 s.i, .string s.lo, .string s.hi, .bool s.op]] w7 fun e w' => e = .returned (.bool (inS R[i] s)) ∧ Below w7.heap.size w7 w') := fun w7 => isIn_any R[i] s w7
          have hst1 := hst.1 hiR
          have hst2 : inS R[i] s = false → IsMin (fun x => (S x ∨ (x ∈ W ∧ ∃ y ∈ Q.take j, inS x y = true)) ∨ (x ∈ W ∧ inS x s = true)) o2 := fun h => hst.2 (fun _ => h)
          subst hp9
          obtain ⟨x, hx⟩ : ∃ x, x = R[i] := ⟨_, rfl⟩
          rw [← hx] at hst1 hst2 CI r0 r1 r2 d0 d1 d2
          have HD : Hid (w6.cell? ⟨b9, q9 + i * 3, none⟩ = some (.int .i64 x.t) ∧ w6.cell? ⟨b9, q9 + i * 3 + 1, none⟩ = some (.int .i64 x.i) ∧ w6.cell? ⟨b9, q9 + i * 3 + 2, none⟩ = some (.string x.k) ∧ b9 < w6.heap.size) := ⟨d0, d1, d2, hb9⟩
          clear hst hx d0 d1 d2 hb9
          cases hin : inS x s
          · rw [hin] at CI
            have HMN : Hid (IsMin (fun x => S x ∨ (x ∈ W ∧ ∃ y ∈ Q.take (j + 1), inS x y = true)) o2) := (hst2 hin).ext HEX.out
            clear hst1 hst2 HEX hin
            go_wp2_with fail
            refine wp_region_inB (by kernel_rfl) (by kernel_rfl) ?_
            repeat (go_big_quiet_step (first
              | (go_at_call 63; exact Calls.inB (CI.out _))))
            refine wpQuiet_nil ?_
            rintro w7 ⟨⟨w8, hb7⟩, h9⟩
            obtain rfl : w7 = w8 := h9
            clear s0 s1 s2 s3 s4 r0 r1 r2 ne1 CI
            go_wp2_with fail
            go_roundw
            case rel => exact ⟨j + 1, o2, by omega, by go_num, HMN.out, HB6.out.on hb7, HA6.out.trans (Frm.of_below (F := fun k => k = lb) hb7) (fun k hk => .inl hk)⟩
            case measure => simp [intOf]; omega
          · rw [hin] at CI
            have HMN : Hid (IsMin (fun x => S x ∨ (x ∈ W ∧ ∃ y ∈ Q.take (j + 1), inS x y = true)) (minO o2 x)) := (hst1 hin).ext HEX.out
            clear hst1 hst2 HEX hin
            go_wp2_with fail
            refine wp_region_inB (by kernel_rfl) (by kernel_rfl) ?_
            repeat (go_big_quiet_step (first
              | (go_at_call 63; exact Calls.inB (CI.out _))))
            refine wpQuiet_nil ?_
            rintro w7 ⟨⟨w8, hb7⟩, h9⟩
            obtain rfl : w7 = w8 := h9
            clear s0 s1 s2 s3 s4 r0 r1 r2 ne1 CI
            have d0 := (hb7.cell (p := ⟨b9, q9 + i * 3, none⟩) HD.out.2.2.2).trans HD.out.1
            have d1 := (hb7.cell (p := ⟨b9, q9 + i * 3 + 1, none⟩) HD.out.2.2.2).trans HD.out.2.1
            have d2 := (hb7.cell (p := ⟨b9, q9 + i * 3 + 2, none⟩) HD.out.2.2.2).trans HD.out.2.2.1
            have CC : Hid (Calls Tryz.prog 59 #[ptr1 lb, PV x] w7 fun e w' => e = .returned (.tuple #[]) ∧ Blk w' lb (lC (minO o2 x)) 94 ∧ Frm w7 w' (fun k => k = lb)) := see_any o2 x lb w7 (HB6.out.on hb7)
            have HA7 : Hid (Frm w1 w7 (fun k => k = lb)) := HA6.out.trans (Frm.of_below (F := fun k => k = lb) hb7) (fun k hk => .inl hk)
            clear hb7 HD HA6 HB6 HR6 HP6
            go_wp2_with fail
            refine CC.out.mono ?_
            rintro e w9 ⟨rfl, hb9, hf9⟩
            have HB9 : Hid (Blk w9 lb (lC (minO o2 x)) 94) := hb9
            have HA9 : Hid (Frm w1 w9 (fun k => k = lb)) := HA7.out.trans hf9 (fun k hk => .inl hk)
            clear hb9 hf9 CC d0 d1 d2
            go_wp2_with fail
            go_roundw
            case rel => exact ⟨j + 1, minO o2 x, by omega, by go_num, HMN.out, HB9.out, HA9.out⟩
            case measure => simp [intOf]; omega
        · have gl : decide ((i : Int) < (R.length : Int)) = false := by simp; omega
          have gl2 : decide (i < R.length) = false := decide_eq_false hiR
          have HMN : Hid (IsMin (fun x => S x ∨ (x ∈ W ∧ ∃ y ∈ Q.take (j + 1), inS x y = true)) o2) := (hst.2 (fun h => absurd h hiR)).ext HEX.out
          clear hst HEX hiR
          go_wp2_with fail
          refine wp_region_inB (by kernel_rfl) (by kernel_rfl) ?_
          repeat (go_big_quiet_step (first
            | (go_at_call 63; fail)))
          refine wpQuiet_nil ?_
          rintro w7 ⟨⟨w8, hb7⟩, h9⟩
          obtain rfl : w7 = w8 := h9
          clear s0 s1 s2 s3 s4 ne1
          go_wp2_with fail
          go_roundw
          case rel => exact ⟨j + 1, o2, by omega, by go_num, HMN.out, HB6.out.on hb7, HA6.out.trans (Frm.of_below (F := fun k => k = lb) hb7) (fun k hk => .inl hk)⟩
          case measure => simp [intOf]; omega

end Go.Proofs.YtcknhjabdjbjiabGreat
