/- The walks of Both and Meet, and of the document's answers for them. Plain mathematics: ranges that do not touch one another are told by their keys; what a union of ranges is. The walks of the small functions of Union, and of the document's. -/
import Derived.Lib.MinMaxS
import Derived.Test.YtcjpindbplppgaaDoorGFrameR
namespace Go.Proofs.YtcjpindbplppgaaDoor
open Go.RowKit
set_option maxRecDepth 100000

def mxB (a b : ByteArray) : ByteArray := if ltB a b then b else a
def mnB (a b : ByteArray) : ByteArray := if ltB b a then b else a
theorem mxB_eq (a b : ByteArray) : Lib.maxS a b = mxB a b := by
  unfold Lib.maxS mxB ltB
  rw [Proofs.bytesLess_eq, Lib.toList_data, Lib.toList_data]
  simp
theorem bytes_eq {a b : ByteArray} (h : a.data.toList = b.data.toList) : a = b := by
  cases a; cases b; simp at h; rw [h]
theorem mnB_eq (a b : ByteArray) : Lib.minS a b = mnB a b := by
  unfold Lib.minS mnB
  have h1 : (a.data.toList < b.data.toList) ↔ ltB a b = true := by
    unfold ltB; rw [Proofs.bytesLess_eq, Lib.toList_data, Lib.toList_data]; simp
  rw [ltB_cb] at h1
  have h2 : (a.data.toList = b.data.toList) ↔ Lib.compareBytes a.data.toList b.data.toList = 0 := by
    have := eq_cb a.data.toList b.data.toList
    constructor
    · intro h; rw [h]; exact cb_self _
    · intro h; rw [h] at this; simpa using this
  rw [ltB_cb, cb_swap a.data.toList b.data.toList]
  simp only [h1, h2]
  rcases cb_range a.data.toList b.data.toList with h | h | h <;> simp [h]
def bothH (hi : ByteArray) (op : Bool) (hi' : ByteArray) (op' : Bool) : ByteArray := if op then hi' else if op' then hi else mnB hi hi'
/-- what Both tells -/
def bothR (lo hi : ByteArray) (op : Bool) (lo' hi' : ByteArray) (op' : Bool) : ByteArray × ByteArray × Bool :=
  if op && op' then (mxB lo lo', ⟨#[]⟩, true) else if emptyB (mxB lo lo') (bothH hi op hi' op') false then (⟨#[]⟩, ⟨#[]⟩, false) else (mxB lo lo', bothH hi op hi' op', false)

theorem run_mx (a b : ByteArray) (w : World) : (Builtin.max_ #[9, 9] 9 #[.string a, .string b]).run Tryd.prog w = .ok (.string (mxB a b)) w := by rw [Lib.run_max_strs, mxB_eq]
theorem run_mn (a b : ByteArray) (w : World) : (Builtin.min_ #[9, 9] 9 #[.string a, .string b]).run Tryd.prog w = .ok (.string (mnB a b)) w := by rw [Lib.run_min_strs, mnB_eq]



end Go.Proofs.YtcjpindbplppgaaDoor

namespace Go.Proofs.YtcjpindbplppgaaDoor
set_option maxRecDepth 100000

theorem ltB_tri (a b : ByteArray) : ltB a b = true ∨ a = b ∨ ltB b a = true := by
  rw [ltB_cb, ltB_cb, cb_swap a.data.toList b.data.toList]
  rcases cb_range a.data.toList b.data.toList with h | h | h
  · left; simp [h]
  · right; left
    have := eq_cb a.data.toList b.data.toList
    rw [h] at this
    have h2 : a.data.toList = b.data.toList := by simpa using this
    cases a; cases b; simp at h2; rw [h2]
  · right; right; simp [h]
theorem ltB_asymm {a b : ByteArray} (h : ltB a b = true) : ltB b a = false := by
  rw [ltB_cb] at h ⊢
  rw [cb_swap a.data.toList b.data.toList]
  simp at h
  rw [h]
  rfl
theorem le_trans' {a b c : ByteArray} (h1 : ltB b a = false) (h2 : ltB c b = false) : ltB c a = false := by
  rw [ltB_cb] at h1 h2 ⊢
  have s1 := cb_swap a.data.toList b.data.toList
  have s2 := cb_swap b.data.toList c.data.toList
  have s3 := cb_swap a.data.toList c.data.toList
  have r1 := cb_range a.data.toList b.data.toList
  have r2 := cb_range b.data.toList c.data.toList
  have t := cb_trans a.data.toList b.data.toList c.data.toList
  simp at h1 h2 ⊢
  omega
theorem le_of_lt {a b : ByteArray} (h : ltB a b = true) : ltB b a = false := ltB_asymm h
theorem lt_of_le_ne {a b : ByteArray} (h : ltB b a = false) (hn : ¬ a = b) : ltB a b = true := by
  rcases ltB_tri a b with h1 | h1 | h1
  · exact h1
  · exact absurd h1 hn
  · rw [h] at h1; cases h1
theorem le_antisymm' {a b : ByteArray} (h1 : ltB b a = false) (h2 : ltB a b = false) : a = b := by
  rcases ltB_tri a b with h | h | h
  · rw [h2] at h; cases h
  · exact h
  · rw [h1] at h; cases h
theorem lt_of_lt_of_le' {a b c : ByteArray} (h1 : ltB a b = true) (h2 : ltB c b = false) : ltB a c = true := by
  cases h : ltB a c with
  | true => rfl
  | false =>
    have := le_trans' h2 h
    rw [this] at h1; cases h1
theorem lt_of_le_of_lt' {a b c : ByteArray} (h1 : ltB b a = false) (h2 : ltB b c = true) : ltB a c = true := by
  cases h : ltB a c with
  | true => rfl
  | false =>
    have := le_trans' h h1
    rw [this] at h2; cases h2
theorem lt_trans' {a b c : ByteArray} (h1 : ltB a b = true) (h2 : ltB b c = true) : ltB a c = true := lt_of_lt_of_le' h1 (le_of_lt h2)

structure Rg where
  lo : ByteArray
  hi : ByteArray
  op : Bool
def Rg.has (r : Rg) (k : ByteArray) : Prop := ltB k r.lo = false ∧ (r.op = true ∨ ltB k r.hi = true)
/-- not empty -/
def Rg.some (r : Rg) : Prop := r.op = true ∨ ltB r.lo r.hi = true
/-- without the end that does not matter -/
def Rg.pl (r : Rg) : Rg := if r.op then ⟨r.lo, ⟨#[]⟩, true⟩ else r
def inL (L : List Rg) (k : ByteArray) : Prop := ∃ r ∈ L, r.has k
def GoodR (r : Rg) : Prop := r.some ∧ (r.op = true → r.hi = ⟨#[]⟩)
def Apart (x y : Rg) : Prop := x.op = false ∧ ltB x.hi y.lo = true
def Sep (U : List Rg) : Prop := (∀ r ∈ U, GoodR r) ∧ U.Pairwise Apart

theorem has_iff (r : Rg) (k : ByteArray) : r.has k ↔ hasB r.lo r.hi r.op k = true := by
  unfold Rg.has hasB
  cases ltB k r.lo <;> cases r.op <;> cases ltB k r.hi <;> simp
theorem some_iff (r : Rg) : r.some ↔ emptyB r.lo r.hi r.op = false := by
  unfold Rg.some emptyB
  cases r.op <;> cases ltB r.lo r.hi <;> simp
theorem some_has {r : Rg} (h : r.some) : r.has r.lo := ⟨ltB_irrefl _, h⟩
theorem apart_not {x y : Rg} (h : Apart x y) {k : ByteArray} (hk : y.has k) : ¬ x.has k := by
  intro hx
  have h1 : ltB x.hi k = true := lt_of_lt_of_le' h.2 hk.1
  rcases hx.2 with h2 | h2
  · rw [h.1] at h2; cases h2
  · rw [ltB_asymm h1] at h2; cases h2
theorem pl_lo (r : Rg) : r.pl.lo = r.lo := by unfold Rg.pl; split <;> rfl
theorem pl_op (r : Rg) : r.pl.op = r.op := by
  unfold Rg.pl; split
  · rename_i h; exact h.symm
  · rfl
theorem pl_has (r : Rg) (k : ByteArray) : r.pl.has k ↔ r.has k := by
  unfold Rg.pl
  split
  · rename_i h; unfold Rg.has; simp [h]
  · exact Iff.rfl
theorem pl_some {r : Rg} (h : r.some) : r.pl.some := by
  unfold Rg.pl
  split
  · exact .inl rfl
  · exact h
theorem pl_good {r : Rg} (h : r.some) : GoodR r.pl := by
  refine ⟨pl_some h, fun ho => ?_⟩
  rw [pl_op] at ho
  unfold Rg.pl
  rw [if_pos ho]

/-- the first range's end is in none, if it has one -/
theorem hi_not {r : Rg} {U : List Rg} (hs : Sep (r :: U)) (ho : r.op = false) : ¬ inL (r :: U) r.hi := by
  rintro ⟨q, hq, hk⟩
  rcases List.mem_cons.1 hq with rfl | hq
  · rcases hk.2 with h | h
    · rw [ho] at h; cases h
    · rw [ltB_irrefl] at h; cases h
  · have := ((List.pairwise_cons.1 hs.2).1 q hq).2
    rw [hk.1] at this; cases this
theorem lo_le {r : Rg} {U : List Rg} (hs : Sep (r :: U)) {k : ByteArray} (hk : inL (r :: U) k) : ltB k r.lo = false := by
  obtain ⟨q, hq, h⟩ := hk
  rcases List.mem_cons.1 hq with rfl | hq
  · exact h.1
  · have h1 := (List.pairwise_cons.1 hs.2).1 q hq
    have h2 : ltB r.lo r.hi = true := by
      rcases (hs.1 r (by simp)).1 with h3 | h3
      · rw [h1.1] at h3; cases h3
      · exact h3
    exact le_of_lt (lt_of_lt_of_le' (lt_trans' h2 h1.2) h.1)
theorem sep_tail {r : Rg} {U : List Rg} (hs : Sep (r :: U)) : Sep U := ⟨fun q hq => hs.1 q (List.mem_cons_of_mem _ hq), (List.pairwise_cons.1 hs.2).2⟩
theorem tail_keys {r : Rg} {U : List Rg} (hs : Sep (r :: U)) (k : ByteArray) : inL U k ↔ (inL (r :: U) k ∧ ¬ r.has k) := by
  constructor
  · rintro ⟨q, hq, h⟩
    exact ⟨⟨q, List.mem_cons_of_mem _ hq, h⟩, apart_not ((List.pairwise_cons.1 hs.2).1 q hq) h⟩
  · rintro ⟨⟨q, hq, h⟩, hn⟩
    rcases List.mem_cons.1 hq with rfl | hq
    · exact absurd h hn
    · exact ⟨q, hq, h⟩

theorem sep_hi {r q : Rg} {U V : List Rg} (hU : Sep (r :: U)) (_hV : Sep (q :: V)) (h : ∀ k, inL (r :: U) k ↔ inL (q :: V) k) (hl : r.lo = q.lo) (ho : r.op = false) : q.op = false ∧ ltB r.hi q.hi = false := by
  have hn := hi_not hU ho
  have hs : ltB r.lo r.hi = true := by
    rcases (hU.1 r (by simp)).1 with h3 | h3
    · rw [ho] at h3; cases h3
    · exact h3
  have hge : ltB r.hi q.lo = false := by rw [← hl]; exact le_of_lt hs
  constructor
  · cases hq : q.op with
    | false => rfl
    | true => exact absurd ((h r.hi).2 ⟨q, by simp, hge, .inl hq⟩) hn
  · cases hq : ltB r.hi q.hi with
    | false => rfl
    | true => exact absurd ((h r.hi).2 ⟨q, by simp, hge, .inr hq⟩) hn

theorem sep_unique : ∀ (U V : List Rg), Sep U → Sep V → (∀ k, inL U k ↔ inL V k) → U = V
  | [], [], _, _, _ => rfl
  | [], q :: V, _, hV, h => by
    obtain ⟨x, hx, _⟩ := (h q.lo).2 ⟨q, by simp, some_has (hV.1 q (by simp)).1⟩
    cases hx
  | r :: U, [], hU, _, h => by
    obtain ⟨x, hx, _⟩ := (h r.lo).1 ⟨r, by simp, some_has (hU.1 r (by simp)).1⟩
    cases hx
  | r :: U, q :: V, hU, hV, h => by
    have h' : ∀ k, inL (q :: V) k ↔ inL (r :: U) k := fun k => (h k).symm
    have hl : r.lo = q.lo := le_antisymm' (lo_le hU ((h q.lo).2 ⟨q, by simp, some_has (hV.1 q (by simp)).1⟩)) (lo_le hV ((h r.lo).1 ⟨r, by simp, some_has (hU.1 r (by simp)).1⟩))
    have hrq : r = q := by
      cases ho : r.op with
      | false =>
        obtain ⟨h1, h2⟩ := sep_hi hU hV h hl ho
        obtain ⟨_, h3⟩ := sep_hi hV hU h' hl.symm h1
        have hh := le_antisymm' h3 h2
        cases r; cases q; simp_all
      | true =>
        cases hq : q.op with
        | false =>
          have := (sep_hi hV hU h' hl.symm hq).1
          rw [ho] at this; cases this
        | true =>
          have e1 := (hU.1 r (by simp)).2 ho
          have e2 := (hV.1 q (by simp)).2 hq
          cases r; cases q; simp_all
    subst hrq
    congr 1
    exact sep_unique U V (sep_tail hU) (sep_tail hV) fun k => by rw [tail_keys hU, tail_keys hV, h k]

/-- no key is between them -/
def touchB (a b : Rg) : Bool := a.op || !ltB a.hi b.lo
def joinR (a b : Rg) : Rg := Rg.pl ⟨a.lo, mxB a.hi b.hi, a.op || b.op⟩
/-- one range more -/
def stepU (U : List Rg) (r : Rg) : List Rg := match U.getLast? with
  | none => [r.pl]
  | some a => if touchB a r then U.dropLast ++ [joinR a r] else U ++ [r.pl]
theorem stepU_nil (r : Rg) : stepU [] r = [r.pl] := rfl
theorem stepU_snoc (U : List Rg) (a r : Rg) : stepU (U ++ [a]) r = if touchB a r then U ++ [joinR a r] else U ++ [a] ++ [r.pl] := by
  unfold stepU
  simp
theorem mxB_le (a b : ByteArray) : ltB (mxB a b) a = false ∧ ltB (mxB a b) b = false := by
  unfold mxB
  cases h : ltB a b with
  | true => simp [ltB_irrefl, ltB_asymm h]
  | false => simp [ltB_irrefl, h]
theorem mxB_or (a b : ByteArray) : mxB a b = a ∨ mxB a b = b := by
  unfold mxB; split
  · exact .inr rfl
  · exact .inl rfl
theorem join_has {a r : Rg} (hle : ltB r.lo a.lo = false) (ht : touchB a r = true) (k : ByteArray) : (joinR a r).has k ↔ (a.has k ∨ r.has k) := by
  unfold joinR
  rw [pl_has]
  unfold touchB at ht
  obtain ⟨m1, m2⟩ := mxB_le a.hi r.hi
  constructor
  · rintro ⟨h1, h2⟩
    dsimp only at h1 h2
    cases ha : a.op with
    | true => exact .inl ⟨h1, .inl ha⟩
    | false =>
      rw [ha] at ht h2
      simp at ht
      cases hk : ltB k a.hi with
      | true => exact .inl ⟨h1, .inr hk⟩
      | false =>
        refine .inr ⟨le_trans' ht hk, ?_⟩
        rcases h2 with h2 | h2
        · exact .inl (by simpa using h2)
        · rcases mxB_or a.hi r.hi with e | e
          · rw [e, hk] at h2; cases h2
          · rw [e] at h2; exact .inr h2
  · rintro (⟨h1, h2⟩ | ⟨h1, h2⟩)
    · refine ⟨h1, ?_⟩
      rcases h2 with h2 | h2
      · exact .inl (by simp [h2])
      · exact .inr (lt_of_lt_of_le' h2 m1)
    · refine ⟨le_trans' hle h1, ?_⟩
      rcases h2 with h2 | h2
      · exact .inl (by simp [h2])
      · exact .inr (lt_of_lt_of_le' h2 m2)
theorem join_some {a r : Rg} (ha : a.some) : (⟨a.lo, mxB a.hi r.hi, a.op || r.op⟩ : Rg).some := by
  rcases ha with h | h
  · exact .inl (by simp [h])
  · exact .inr (lt_of_lt_of_le' h (mxB_le a.hi r.hi).1)

/-- what stands after some ranges in order -/
def InvU (U P : List Rg) : Prop := Sep U ∧ (∀ k, inL U k ↔ inL P k) ∧ ∀ u ∈ U, ∃ p ∈ P, u.lo = p.lo
theorem inL_snoc (P : List Rg) (r : Rg) (k : ByteArray) : inL (P ++ [r]) k ↔ (inL P k ∨ r.has k) := by
  constructor
  · rintro ⟨q, hq, h⟩
    rcases List.mem_append.1 hq with h1 | h1
    · exact .inl ⟨q, h1, h⟩
    · rw [List.mem_singleton.1 h1] at h; exact .inr h
  · rintro (⟨q, hq, h⟩ | h)
    · exact ⟨q, List.mem_append_left _ hq, h⟩
    · exact ⟨r, by simp, h⟩
theorem InvU.nil : InvU [] [] := ⟨⟨fun _ h => (by cases h), List.Pairwise.nil⟩, fun _ => Iff.rfl, fun _ h => (by cases h)⟩
theorem InvU.step {U P : List Rg} (h : InvU U P) {r : Rg} (hr : r.some) (hle : ∀ p ∈ P, ltB r.lo p.lo = false) : InvU (stepU U r) (P ++ [r]) := by
  obtain ⟨⟨hg, hp⟩, hk, hlo⟩ := h
  rcases List.eq_nil_or_concat U with rfl | ⟨V, a, rfl⟩
  · rw [stepU_nil]
    refine ⟨⟨?_, List.pairwise_singleton _ _⟩, fun k => ?_, ?_⟩
    · intro q hq; rw [List.mem_singleton.1 hq]; exact pl_good hr
    · rw [inL_snoc, ← hk]
      constructor
      · rintro ⟨q, hq, h⟩
        rw [List.mem_singleton.1 hq, pl_has] at h; exact .inr h
      · rintro (⟨q, hq, _⟩ | h)
        · cases hq
        · exact ⟨r.pl, by simp, (pl_has r k).2 h⟩
    · intro u hu; rw [List.mem_singleton.1 hu]; exact ⟨r, by simp, pl_lo r⟩
  · simp only [List.concat_eq_append] at *
    rw [stepU_snoc]
    obtain ⟨pa, hpa, ela⟩ := hlo a (by simp)
    have hal : ltB r.lo a.lo = false := by rw [ela]; exact hle pa hpa
    obtain ⟨hp1, _, hp2⟩ := List.pairwise_append.1 hp
    cases ht : touchB a r with
    | true =>
      rw [if_pos rfl]
      have jl : (joinR a r).lo = a.lo := by unfold joinR; rw [pl_lo]
      refine ⟨⟨?_, ?_⟩, fun k => ?_, ?_⟩
      · intro q hq
        rcases List.mem_append.1 hq with h1 | h1
        · exact hg q (List.mem_append_left _ h1)
        · rw [List.mem_singleton.1 h1]; exact pl_good (join_some (hg a (by simp)).1)
      · refine List.pairwise_append.2 ⟨hp1, List.pairwise_singleton _ _, ?_⟩
        intro x hx y hy
        rw [List.mem_singleton.1 hy]
        have h1 := hp2 x hx a (by simp)
        exact ⟨h1.1, by rw [jl]; exact h1.2⟩
      · rw [inL_snoc, inL_snoc, ← hk, inL_snoc, join_has hal ht, or_assoc]
      · intro u hu
        rcases List.mem_append.1 hu with h1 | h1
        · obtain ⟨p, h2, h3⟩ := hlo u (List.mem_append_left _ h1)
          exact ⟨p, List.mem_append_left _ h2, h3⟩
        · rw [List.mem_singleton.1 h1]
          exact ⟨pa, List.mem_append_left _ hpa, by rw [jl, ela]⟩
    | false =>
      rw [if_neg (by simp)]
      unfold touchB at ht
      simp only [Bool.or_eq_false_iff, Bool.not_eq_false'] at ht
      refine ⟨⟨?_, ?_⟩, fun k => ?_, ?_⟩
      · intro q hq
        rcases List.mem_append.1 hq with h1 | h1
        · exact hg q h1
        · rw [List.mem_singleton.1 h1]; exact pl_good hr
      · refine List.pairwise_append.2 ⟨hp, List.pairwise_singleton _ _, ?_⟩
        intro x hx y hy
        rw [List.mem_singleton.1 hy]
        unfold Apart
        rw [pl_lo]
        rcases List.mem_append.1 hx with h1 | h1
        · have h2 := hp2 x h1 a (by simp)
          refine ⟨h2.1, lt_of_lt_of_le' h2.2 ?_⟩
          exact hal
        · rw [List.mem_singleton.1 h1]; exact ht
      · rw [inL_snoc (V ++ [a]) r.pl, inL_snoc P, ← hk, pl_has]
      · intro u hu
        rcases List.mem_append.1 hu with h1 | h1
        · obtain ⟨p, h2, h3⟩ := hlo u h1
          exact ⟨p, List.mem_append_left _ h2, h3⟩
        · rw [List.mem_singleton.1 h1]
          exact ⟨r, by simp, pl_lo r⟩

/-- in order, by their beginnings -/
def Rising (R : List Rg) : Prop := R.Pairwise (fun x y => ltB y.lo x.lo = false)
theorem fold_inv : ∀ (R U P : List Rg), InvU U P → Rising R → (∀ r ∈ R, r.some) → (∀ p ∈ P, ∀ r ∈ R, ltB r.lo p.lo = false) → InvU (R.foldl stepU U) (P ++ R)
  | [], U, P, h, _, _, _ => by rw [List.append_nil]; exact h
  | r :: R, U, P, h, hr, hs, hle => by
    have h1 := h.step (hs r (by simp)) (fun p hp => hle p hp r (by simp))
    have h2 := fold_inv R (stepU U r) (P ++ [r]) h1 (List.pairwise_cons.1 hr).2 (fun q hq => hs q (List.mem_cons_of_mem _ hq)) (by
      intro p hp q hq
      rcases List.mem_append.1 hp with h3 | h3
      · exact hle p h3 q (List.mem_cons_of_mem _ hq)
      · rw [List.mem_singleton.1 h3]; exact (List.pairwise_cons.1 hr).1 q hq)
    rw [List.append_assoc] at h2
    exact h2
theorem union_inv {R : List Rg} (hr : Rising R) (hs : ∀ r ∈ R, r.some) : InvU (R.foldl stepU []) R := by
  have := fold_inv R [] [] InvU.nil hr hs (fun _ h => by cases h)
  simpa using this
/-- the union does not hang on which of those that begin alike comes first -/
theorem union_same {R S : List Rg} (h1 : Rising R) (h2 : Rising S) (hs : ∀ r ∈ R, r.some) (hm : ∀ r, r ∈ R ↔ r ∈ S) : R.foldl stepU [] = S.foldl stepU [] := by
  obtain ⟨a1, a2, _⟩ := union_inv h1 hs
  obtain ⟨b1, b2, _⟩ := union_inv h2 (fun r hr => hs r ((hm r).2 hr))
  refine sep_unique _ _ a1 b1 fun k => ?_
  rw [a2, b2]
  constructor
  · rintro ⟨r, hr, h⟩; exact ⟨r, (hm r).1 hr, h⟩
  · rintro ⟨r, hr, h⟩; exact ⟨r, (hm r).2 hr, h⟩

/-- the document's step: the end that does not matter stays till the end -/
def stepV (U : List Rg) (r : Rg) : List Rg := match U.getLast? with
  | none => [r]
  | some a => if touchB a r then (if r.op || (!a.op && ltB a.hi r.hi) then U.dropLast ++ [⟨a.lo, r.hi, r.op⟩] else U) else U ++ [r]
theorem touch_pl (a r : Rg) : touchB a.pl r = touchB a r := by
  unfold touchB
  rw [pl_op]
  cases h : a.op with
  | true => rfl
  | false => unfold Rg.pl; rw [if_neg (by simp [h])]
theorem join_pl (a r : Rg) : joinR a.pl r = (if r.op || (!a.op && ltB a.hi r.hi) then (⟨a.lo, r.hi, r.op⟩ : Rg) else a).pl := by
  obtain ⟨al, ah, ao⟩ := a
  obtain ⟨rl, rh, ro⟩ := r
  cases ao <;> cases ro <;> cases h : ltB ah rh <;> simp [joinR, Rg.pl, mxB, h]
theorem stepV_pl (U : List Rg) (r : Rg) : (stepV U r).map Rg.pl = stepU (U.map Rg.pl) r := by
  rcases List.eq_nil_or_concat U with rfl | ⟨V, a, rfl⟩
  · rfl
  · simp only [List.concat_eq_append, List.map_append, List.map_cons, List.map_nil]
    rw [stepU_snoc, touch_pl, join_pl]
    unfold stepV
    simp only [List.getLast?_append, List.getLast?_singleton, Option.some_or, List.dropLast_concat]
    cases touchB a r with
    | false => simp
    | true =>
      simp only [if_true]
      split <;> simp
theorem foldV_pl : ∀ (R U : List Rg), (R.foldl stepV U).map Rg.pl = R.foldl stepU (U.map Rg.pl)
  | [], _ => rfl
  | r :: R, U => by rw [List.foldl_cons, List.foldl_cons, foldV_pl R, stepV_pl]

end Go.Proofs.YtcjpindbplppgaaDoor

namespace Go.Proofs.YtcjpindbplppgaaDoor
open Go.RowKit
set_option maxRecDepth 100000

/-- a range as a value -/
def Rg.val (r : Rg) : Value := rngV r.lo r.hi r.op

set_option maxHeartbeats 1000000 in
theorem touches_any (a b : Rg) (w : World) : Calls Tryd.prog 15 #[a.val, b.val] w fun e w' => e = .returned (.bool (touchB a b)) ∧ Below w.heap.size w w' := by
  obtain ⟨al, ah, ao⟩ := a
  obtain ⟨bl, bh, bo⟩ := b
  unfold touchB Rg.val
  dsimp only
  rw [← leq_not]
  cases ao <;> cases h1 : Op.bytesLess bl.toList ah.toList <;> cases h2 : (bl.toList == ah.toList)
  all_goals
    go_enter Tryd.func15, Tryd.ntmps15
    go_wp2
    go_ret
    exact ⟨rfl, by go_grown⟩



set_option maxHeartbeats 1000000 in
theorem plainR_any (r : Rg) (w : World) : Calls Tryd.prog 17 #[r.val] w fun e w' => e = .returned r.pl.val ∧ Below w.heap.size w w' := by
  obtain ⟨l, h, o⟩ := r
  unfold Rg.pl Rg.val
  cases o
  all_goals
    go_enter Tryd.func17, Tryd.ntmps17
    go_wp2
    go_returns
    exact ⟨rfl, by go_grown⟩

set_option maxHeartbeats 1000000 in
theorem joined_any (a b : Rg) (w : World) : Calls Tryd.prog 16 #[a.val, b.val] w fun e w' => e = .returned (joinR a b).val ∧ Below w.heap.size w w' := by
  have hmx := run_mx
  obtain ⟨al, ah, ao⟩ := a
  obtain ⟨bl, bh, bo⟩ := b
  unfold joinR
  dsimp only
  have C1 : Hid (∀ w1 : World, Calls _ _ _ _ _) := fun w1 => plainR_any ⟨al, mxB ah bh, ao || bo⟩ w1
  obtain ⟨r, hr⟩ : ∃ r : Rg, r = Rg.pl ⟨al, mxB ah bh, ao || bo⟩ := ⟨_, rfl⟩
  rw [← hr] at C1 ⊢
  clear hr
  obtain ⟨rl, rh, ro⟩ := r
  unfold Rg.val at C1 ⊢
  cases ao <;> cases bo
  all_goals
    go_enter Tryd.func16, Tryd.ntmps16
    go_wp2_with (first | (go_at_call 17; refine (C1.out _).mono ?_; rintro e w1 ⟨rfl, hb1⟩; obtain ⟨hx1, hx2⟩ := bcell hb1))
    have hA : Below w.heap.size w w1 := by
      refine Below.trans ?_ (hb1.mono (by simp; omega))
      go_grown
    refine bodyPost_ret (v := rngV rl rh ro) (by simp [results, Tryd.results16, go_sem, hx1]) rfl ⟨rfl, ((hA.setCell (by simp; omega) _).setCell (by simp; omega) _).setCell (by simp; omega) _⟩

end Go.Proofs.YtcjpindbplppgaaDoor
