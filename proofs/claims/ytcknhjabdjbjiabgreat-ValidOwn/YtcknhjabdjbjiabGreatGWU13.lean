/- Of layer 2, what layer 13 wants: ranges, Has, Meet; the mathematics of unions. -/
import Derived.Laws.Cover2
import Derived.Lib.Bytealg
import Derived.WalkKit
import Derived.WalkLawsBesides
import Derived.Laws.AppendOwnNone
import Derived.Handy
import Derived.Deep.QuietTactic
import Derived.BigQuiet
import Derived.Deep.RegionHeld3
import Derived.Deep.Light
import Derived.Deep.RegionWith
import Derived.Deep.RegionLaw
import Derived.Laws.StructEq
import Derived.Lib.MinMaxS
import Derived.Test.YtcknhjabdjbjiabGreatProg
namespace Go.Proofs.YtcknhjabdjbjiabGreat
open Go.RowKit
set_option maxRecDepth 100000

theorem cb_range : ∀ (a b : List UInt8), Lib.compareBytes a b = -1 ∨ Lib.compareBytes a b = 0 ∨ Lib.compareBytes a b = 1
  | [], [] => by simp [Lib.compareBytes]
  | [], _ :: _ => by simp [Lib.compareBytes]
  | _ :: _, [] => by simp [Lib.compareBytes]
  | a :: x, b :: y => by
    unfold Lib.compareBytes
    split
    · simp
    · split
      · simp
      · exact cb_range x y

theorem cb_swap : ∀ (a b : List UInt8), Lib.compareBytes b a = 0 - Lib.compareBytes a b
  | [], [] => by simp [Lib.compareBytes]
  | [], _ :: _ => by simp [Lib.compareBytes]
  | _ :: _, [] => by simp [Lib.compareBytes]
  | a :: x, b :: y => by
    have ih := cb_swap x y
    simp only [Lib.compareBytes, UInt8.lt_iff_toNat_lt]
    by_cases h1 : a.toNat < b.toNat
    · have h2 : ¬ b.toNat < a.toNat := by omega
      simp [h1, h2]
    · by_cases h2 : b.toNat < a.toNat
      · simp [h1, h2]
      · simp [h1, h2, ih]

theorem cb_self (a : List UInt8) : Lib.compareBytes a a = 0 := by have := cb_swap a a; omega

theorem cb_trans : ∀ (a b c : List UInt8), Lib.compareBytes a b ≤ 0 → Lib.compareBytes b c ≤ 0 → Lib.compareBytes a c ≤ 0
  | [], _, [] => by simp [Lib.compareBytes]
  | [], _, _ :: _ => by simp [Lib.compareBytes]
  | _ :: _, [], _ => by simp [Lib.compareBytes]
  | _ :: _, _ :: _, [] => by simp [Lib.compareBytes]
  | a :: x, b :: y, c :: z => by
    have ih := cb_trans x y z
    simp only [Lib.compareBytes, UInt8.lt_iff_toNat_lt]
    intro h1 h2
    by_cases e1 : a.toNat < b.toNat
    · by_cases e2 : b.toNat < c.toNat
      · rw [if_pos (by omega)]; omega
      · by_cases e3 : c.toNat < b.toNat
        · rw [if_neg e2, if_pos e3] at h2; omega
        · rw [if_pos (by omega)]; omega
    · by_cases e1' : b.toNat < a.toNat
      · rw [if_neg e1, if_pos e1'] at h1; omega
      · rw [if_neg e1, if_neg e1'] at h1
        by_cases e2 : b.toNat < c.toNat
        · rw [if_pos (by omega)]; omega
        · by_cases e3 : c.toNat < b.toNat
          · rw [if_neg e2, if_pos e3] at h2; omega
          · rw [if_neg e2, if_neg e3] at h2
            rw [if_neg (by omega), if_neg (by omega)]
            exact ih h1 h2

theorem less_cb : ∀ (a b : List UInt8), Op.bytesLess a b = decide (Lib.compareBytes a b = -1)
  | [], [] => by simp [Op.bytesLess, Lib.compareBytes]
  | [], _ :: _ => by simp [Op.bytesLess, Lib.compareBytes]
  | _ :: _, [] => by simp [Op.bytesLess, Lib.compareBytes]
  | a :: x, b :: y => by
    have ih := less_cb x y
    simp only [Op.bytesLess, Lib.compareBytes, ih]
    by_cases h1 : a < b
    · simp [h1]
    · by_cases h2 : b < a
      · have h3 : ¬ a = b := fun e => by subst e; exact h1 h2
        simp [h1, h2, h3]
      · have h3 : a = b := by
          rw [UInt8.lt_iff_toNat_lt] at h1 h2
          exact UInt8.toNat_inj.1 (by omega)
        simp [h3]

theorem eq_cb : ∀ (a b : List UInt8), (a == b) = decide (Lib.compareBytes a b = 0)
  | [], [] => by simp [Lib.compareBytes]
  | [], _ :: _ => by simp [Lib.compareBytes]
  | _ :: _, [] => by simp [Lib.compareBytes]
  | a :: x, b :: y => by
    have ih := eq_cb x y
    simp only [Lib.compareBytes, List.cons_beq_cons, ih]
    by_cases h1 : a < b
    · have h3 : ¬ a = b := fun e => by subst e; exact absurd h1 (by simp)
      simp [h1, h3]
    · by_cases h2 : b < a
      · have h3 : ¬ a = b := fun e => by subst e; exact h1 h2
        simp [h1, h2, h3]
      · have h3 : a = b := by
          rw [UInt8.lt_iff_toNat_lt] at h1 h2
          exact UInt8.toNat_inj.1 (by omega)
        simp [h3]

theorem bcell {W w1 : World} (hb : Below W.heap.size W w1) : (∀ b o, b < W.heap.size → w1.cell? ⟨b, o, none⟩ = W.cell? ⟨b, o, none⟩) ∧ (∀ b o, b < W.heap.size → w1.frozen? ⟨b, o, none⟩ = W.frozen? ⟨b, o, none⟩) :=
  ⟨fun b o h => hb.cell (p := ⟨b, o, none⟩) h, fun b o h => hb.frozen (p := ⟨b, o, none⟩) h⟩

/-- a range, as the program holds it -/
abbrev rngV (lo hi : ByteArray) (op : Bool) : Value := .agg #[.string lo, .string hi, .bool op]

abbrev noRng : Value := .agg #[.string ⟨#[]⟩, .string ⟨#[]⟩, .bool false]

def eqR (a b a' b' : ByteArray) (c c' : Bool) : Bool := (a.toList == a'.toList) && ((b.toList == b'.toList) && (c == c'))

theorem eqR_self (a b : ByteArray) (c : Bool) : eqR a b a b c c = true := by simp [eqR]

set_option maxHeartbeats 1000000 in
theorem run_eqR (a b a' b' : ByteArray) (c c' : Bool) (w : World) : (binOp .eql 84 (rngV a b c) (rngV a' b' c')).run Tryz.prog w = .ok (.bool (eqR a b a' b' c c')) w := by
  have u9 := Tryz.underlying9
  have a9 := Tryz.isAgg9
  have z9 := Tryz.sizeOf9
  have u4 := Tryz.underlying4
  have a4 := Tryz.isAgg4
  have z4 := Tryz.sizeOf4
  have hS : Tryz.prog.underlying 84 = some (.struct (Tryz.prog.fieldsOf 84)) := by kernel_rfl
  have hp : Tryz.prog.stoodInHeld 84 = false := by kernel_rfl
  unfold eqR
  rw [run_eql_struct, show (10000 : Nat) = 9999 + 1 from rfl, run_equalIn_agg w 9999 84 _ _ hS hp]
  simp only [Program.fieldsOf, Tryz.underlying84]
  go_simp
  cases h1 : (a.toList == a'.toList) <;> cases h2 : (b.toList == b'.toList) <;> cases c <;> cases c' <;> simp_all

theorem run_eqG (op : BinOp) (x y : Operand) (a b a' b' : ByteArray) (c c' : Bool) (w : World) : (eqGuard op 84 x y (rngV a b c) (rngV a' b' c')).run Tryz.prog w = .ok () w :=
  run_eqGuard_agg w op 84 x y _ _ (by kernel_rfl)

theorem below2r (w : World) (o p : Obj) : Below w.heap.size w ((w.alloc o).alloc p) := ((Below.refl _ _).alloc (Nat.le_refl _) _).alloc (by simp) _

def ltB (a b : ByteArray) : Bool := Op.bytesLess a.toList b.toList

def hasB (lo hi : ByteArray) (op : Bool) (k : ByteArray) : Bool := (!ltB k lo) && (op || ltB k hi)

def emptyB (lo hi : ByteArray) (op : Bool) : Bool := (!op) && (!ltB lo hi)

theorem ltB_cb (a b : ByteArray) : ltB a b = decide (Lib.compareBytes a.data.toList b.data.toList = -1) := by
  unfold ltB; rw [ByteArray.toList_eq, ByteArray.toList_eq, less_cb]

theorem ltB_irrefl (a : ByteArray) : ltB a a = false := by rw [ltB_cb, cb_self]; rfl

set_option maxHeartbeats 1000000 in
theorem has_any (lo hi : ByteArray) (op : Bool) (k : ByteArray) (w : World) :
    Calls Tryz.prog 79 #[rngV lo hi op, .string k] w fun e w' => e = .returned (.bool (hasB lo hi op k)) ∧ Below w.heap.size w w' := by
  unfold hasB ltB
  cases h1 : Op.bytesLess k.toList lo.toList <;> cases op <;> cases h2 : Op.bytesLess k.toList hi.toList
  all_goals
    go_enter Tryz.func79, Tryz.ntmps79
    go_wp2
    go_ret
    exact ⟨rfl, by go_grown⟩

theorem leq_not (a b : ByteArray) : (Op.bytesLess a.toList b.toList || (a.toList == b.toList)) = !ltB b a := by
  rw [ltB_cb, ByteArray.toList_eq, ByteArray.toList_eq, less_cb, eq_cb, cb_swap a.data.toList b.data.toList]
  rcases cb_range a.data.toList b.data.toList with h | h | h <;> simp [h]



def mxB (a b : ByteArray) : ByteArray := if ltB a b then b else a

def mnB (a b : ByteArray) : ByteArray := if ltB b a then b else a

theorem bytes_eq {a b : ByteArray} (h : a.data.toList = b.data.toList) : a = b := by
  cases a; cases b; simp at h; rw [h]

def bothH (hi : ByteArray) (op : Bool) (hi' : ByteArray) (op' : Bool) : ByteArray := if op then hi' else if op' then hi else mnB hi hi'

/-- what Both tells -/
def bothR (lo hi : ByteArray) (op : Bool) (lo' hi' : ByteArray) (op' : Bool) : ByteArray × ByteArray × Bool :=
  if op && op' then (mxB lo lo', ⟨#[]⟩, true) else if emptyB (mxB lo lo') (bothH hi op hi' op') false then (⟨#[]⟩, ⟨#[]⟩, false) else (mxB lo lo', bothH hi op hi' op', false)

theorem ltB_tri (a b : ByteArray) : ltB a b = true ∨ a = b ∨ ltB b a = true := by
  rw [ltB_cb, ltB_cb, cb_swap a.data.toList b.data.toList]
  rcases cb_range a.data.toList b.data.toList with h | h | h
  · left; simp [h]
  · right; left
    have := eq_cb a.data.toList b.data.toList
    rw [h] at this
    have h2 : a.data.toList = b.data.toList := by simpa using this
    cases a; cases b; simp at h2; rw [h2]
  · right; right; simp [h]

theorem ltB_asymm {a b : ByteArray} (h : ltB a b = true) : ltB b a = false := by
  rw [ltB_cb] at h ⊢
  rw [cb_swap a.data.toList b.data.toList]
  simp at h
  rw [h]
  rfl

theorem le_trans' {a b c : ByteArray} (h1 : ltB b a = false) (h2 : ltB c b = false) : ltB c a = false := by
  rw [ltB_cb] at h1 h2 ⊢
  have s1 := cb_swap a.data.toList b.data.toList
  have s2 := cb_swap b.data.toList c.data.toList
  have s3 := cb_swap a.data.toList c.data.toList
  have r1 := cb_range a.data.toList b.data.toList
  have r2 := cb_range b.data.toList c.data.toList
  have t := cb_trans a.data.toList b.data.toList c.data.toList
  simp at h1 h2 ⊢
  omega

theorem le_of_lt {a b : ByteArray} (h : ltB a b = true) : ltB b a = false := ltB_asymm h

theorem lt_of_le_ne {a b : ByteArray} (h : ltB b a = false) (hn : ¬ a = b) : ltB a b = true := by
  rcases ltB_tri a b with h1 | h1 | h1
  · exact h1
  · exact absurd h1 hn
  · rw [h] at h1; cases h1

theorem le_antisymm' {a b : ByteArray} (h1 : ltB b a = false) (h2 : ltB a b = false) : a = b := by
  rcases ltB_tri a b with h | h | h
  · rw [h2] at h; cases h
  · exact h
  · rw [h1] at h; cases h

theorem lt_of_lt_of_le' {a b c : ByteArray} (h1 : ltB a b = true) (h2 : ltB c b = false) : ltB a c = true := by
  cases h : ltB a c with
  | true => rfl
  | false =>
    have := le_trans' h2 h
    rw [this] at h1; cases h1

theorem lt_trans' {a b c : ByteArray} (h1 : ltB a b = true) (h2 : ltB b c = true) : ltB a c = true := lt_of_lt_of_le' h1 (le_of_lt h2)

structure Rg where
  lo : ByteArray
  hi : ByteArray
  op : Bool

def Rg.has (r : Rg) (k : ByteArray) : Prop := ltB k r.lo = false ∧ (r.op = true ∨ ltB k r.hi = true)

/-- not empty -/
def Rg.some (r : Rg) : Prop := r.op = true ∨ ltB r.lo r.hi = true

/-- without the end that does not matter -/
def Rg.pl (r : Rg) : Rg := if r.op then ⟨r.lo, ⟨#[]⟩, true⟩ else r

def inL (L : List Rg) (k : ByteArray) : Prop := ∃ r ∈ L, r.has k

def GoodR (r : Rg) : Prop := r.some ∧ (r.op = true → r.hi = ⟨#[]⟩)

def Apart (x y : Rg) : Prop := x.op = false ∧ ltB x.hi y.lo = true

def Sep (U : List Rg) : Prop := (∀ r ∈ U, GoodR r) ∧ U.Pairwise Apart

theorem has_iff (r : Rg) (k : ByteArray) : r.has k ↔ hasB r.lo r.hi r.op k = true := by
  unfold Rg.has hasB
  cases ltB k r.lo <;> cases r.op <;> cases ltB k r.hi <;> simp

theorem some_has {r : Rg} (h : r.some) : r.has r.lo := ⟨ltB_irrefl _, h⟩

theorem pl_lo (r : Rg) : r.pl.lo = r.lo := by unfold Rg.pl; split <;> rfl

theorem pl_op (r : Rg) : r.pl.op = r.op := by
  unfold Rg.pl; split
  · rename_i h; exact h.symm
  · rfl

theorem pl_has (r : Rg) (k : ByteArray) : r.pl.has k ↔ r.has k := by
  unfold Rg.pl
  split
  · rename_i h; unfold Rg.has; simp [h]
  · exact Iff.rfl

theorem pl_some {r : Rg} (h : r.some) : r.pl.some := by
  unfold Rg.pl
  split
  · exact .inl rfl
  · exact h

theorem pl_good {r : Rg} (h : r.some) : GoodR r.pl := by
  refine ⟨pl_some h, fun ho => ?_⟩
  rw [pl_op] at ho
  unfold Rg.pl
  rw [if_pos ho]

theorem lo_le {r : Rg} {U : List Rg} (hs : Sep (r :: U)) {k : ByteArray} (hk : inL (r :: U) k) : ltB k r.lo = false := by
  obtain ⟨q, hq, h⟩ := hk
  rcases List.mem_cons.1 hq with rfl | hq
  · exact h.1
  · have h1 := (List.pairwise_cons.1 hs.2).1 q hq
    have h2 : ltB r.lo r.hi = true := by
      rcases (hs.1 r (by simp)).1 with h3 | h3
      · rw [h1.1] at h3; cases h3
      · exact h3
    exact le_of_lt (lt_of_lt_of_le' (lt_trans' h2 h1.2) h.1)

theorem sep_tail {r : Rg} {U : List Rg} (hs : Sep (r :: U)) : Sep U := ⟨fun q hq => hs.1 q (List.mem_cons_of_mem _ hq), (List.pairwise_cons.1 hs.2).2⟩

/-- no key is between them -/
def touchB (a b : Rg) : Bool := a.op || !ltB a.hi b.lo

def joinR (a b : Rg) : Rg := Rg.pl ⟨a.lo, mxB a.hi b.hi, a.op || b.op⟩

/-- one range more -/
def stepU (U : List Rg) (r : Rg) : List Rg := match U.getLast? with
  | none => [r.pl]
  | some a => if touchB a r then U.dropLast ++ [joinR a r] else U ++ [r.pl]

theorem stepU_nil (r : Rg) : stepU [] r = [r.pl] := rfl

theorem stepU_snoc (U : List Rg) (a r : Rg) : stepU (U ++ [a]) r = if touchB a r then U ++ [joinR a r] else U ++ [a] ++ [r.pl] := by
  unfold stepU
  simp

theorem mxB_le (a b : ByteArray) : ltB (mxB a b) a = false ∧ ltB (mxB a b) b = false := by
  unfold mxB
  cases h : ltB a b with
  | true => simp [ltB_irrefl, ltB_asymm h]
  | false => simp [ltB_irrefl, h]

theorem mxB_or (a b : ByteArray) : mxB a b = a ∨ mxB a b = b := by
  unfold mxB; split
  · exact .inr rfl
  · exact .inl rfl

theorem join_has {a r : Rg} (hle : ltB r.lo a.lo = false) (ht : touchB a r = true) (k : ByteArray) : (joinR a r).has k ↔ (a.has k ∨ r.has k) := by
  unfold joinR
  rw [pl_has]
  unfold touchB at ht
  obtain ⟨m1, m2⟩ := mxB_le a.hi r.hi
  constructor
  · rintro ⟨h1, h2⟩
    dsimp only at h1 h2
    cases ha : a.op with
    | true => exact .inl ⟨h1, .inl ha⟩
    | false =>
      rw [ha] at ht h2
      simp at ht
      cases hk : ltB k a.hi with
      | true => exact .inl ⟨h1, .inr hk⟩
      | false =>
        refine .inr ⟨le_trans' ht hk, ?_⟩
        rcases h2 with h2 | h2
        · exact .inl (by simpa using h2)
        · rcases mxB_or a.hi r.hi with e | e
          · rw [e, hk] at h2; cases h2
          · rw [e] at h2; exact .inr h2
  · rintro (⟨h1, h2⟩ | ⟨h1, h2⟩)
    · refine ⟨h1, ?_⟩
      rcases h2 with h2 | h2
      · exact .inl (by simp [h2])
      · exact .inr (lt_of_lt_of_le' h2 m1)
    · refine ⟨le_trans' hle h1, ?_⟩
      rcases h2 with h2 | h2
      · exact .inl (by simp [h2])
      · exact .inr (lt_of_lt_of_le' h2 m2)

theorem join_some {a r : Rg} (ha : a.some) : (⟨a.lo, mxB a.hi r.hi, a.op || r.op⟩ : Rg).some := by
  rcases ha with h | h
  · exact .inl (by simp [h])
  · exact .inr (lt_of_lt_of_le' h (mxB_le a.hi r.hi).1)

/-- what stands after some ranges in order -/
def InvU (U P : List Rg) : Prop := Sep U ∧ (∀ k, inL U k ↔ inL P k) ∧ ∀ u ∈ U, ∃ p ∈ P, u.lo = p.lo

theorem inL_snoc (P : List Rg) (r : Rg) (k : ByteArray) : inL (P ++ [r]) k ↔ (inL P k ∨ r.has k) := by
  constructor
  · rintro ⟨q, hq, h⟩
    rcases List.mem_append.1 hq with h1 | h1
    · exact .inl ⟨q, h1, h⟩
    · rw [List.mem_singleton.1 h1] at h; exact .inr h
  · rintro (⟨q, hq, h⟩ | h)
    · exact ⟨q, List.mem_append_left _ hq, h⟩
    · exact ⟨r, by simp, h⟩

theorem InvU.nil : InvU [] [] := ⟨⟨fun _ h => (by cases h), List.Pairwise.nil⟩, fun _ => Iff.rfl, fun _ h => (by cases h)⟩

theorem InvU.step {U P : List Rg} (h : InvU U P) {r : Rg} (hr : r.some) (hle : ∀ p ∈ P, ltB r.lo p.lo = false) : InvU (stepU U r) (P ++ [r]) := by
  obtain ⟨⟨hg, hp⟩, hk, hlo⟩ := h
  rcases List.eq_nil_or_concat U with rfl | ⟨V, a, rfl⟩
  · rw [stepU_nil]
    refine ⟨⟨?_, List.pairwise_singleton _ _⟩, fun k => ?_, ?_⟩
    · intro q hq; rw [List.mem_singleton.1 hq]; exact pl_good hr
    · rw [inL_snoc, ← hk]
      constructor
      · rintro ⟨q, hq, h⟩
        rw [List.mem_singleton.1 hq, pl_has] at h; exact .inr h
      · rintro (⟨q, hq, _⟩ | h)
        · cases hq
        · exact ⟨r.pl, by simp, (pl_has r k).2 h⟩
    · intro u hu; rw [List.mem_singleton.1 hu]; exact ⟨r, by simp, pl_lo r⟩
  · simp only [List.concat_eq_append] at *
    rw [stepU_snoc]
    obtain ⟨pa, hpa, ela⟩ := hlo a (by simp)
    have hal : ltB r.lo a.lo = false := by rw [ela]; exact hle pa hpa
    obtain ⟨hp1, _, hp2⟩ := List.pairwise_append.1 hp
    cases ht : touchB a r with
    | true =>
      rw [if_pos rfl]
      have jl : (joinR a r).lo = a.lo := by unfold joinR; rw [pl_lo]
      refine ⟨⟨?_, ?_⟩, fun k => ?_, ?_⟩
      · intro q hq
        rcases List.mem_append.1 hq with h1 | h1
        · exact hg q (List.mem_append_left _ h1)
        · rw [List.mem_singleton.1 h1]; exact pl_good (join_some (hg a (by simp)).1)
      · refine List.pairwise_append.2 ⟨hp1, List.pairwise_singleton _ _, ?_⟩
        intro x hx y hy
        rw [List.mem_singleton.1 hy]
        have h1 := hp2 x hx a (by simp)
        exact ⟨h1.1, by rw [jl]; exact h1.2⟩
      · rw [inL_snoc, inL_snoc, ← hk, inL_snoc, join_has hal ht, or_assoc]
      · intro u hu
        rcases List.mem_append.1 hu with h1 | h1
        · obtain ⟨p, h2, h3⟩ := hlo u (List.mem_append_left _ h1)
          exact ⟨p, List.mem_append_left _ h2, h3⟩
        · rw [List.mem_singleton.1 h1]
          exact ⟨pa, List.mem_append_left _ hpa, by rw [jl, ela]⟩
    | false =>
      rw [if_neg (by simp)]
      unfold touchB at ht
      simp only [Bool.or_eq_false_iff, Bool.not_eq_false'] at ht
      refine ⟨⟨?_, ?_⟩, fun k => ?_, ?_⟩
      · intro q hq
        rcases List.mem_append.1 hq with h1 | h1
        · exact hg q h1
        · rw [List.mem_singleton.1 h1]; exact pl_good hr
      · refine List.pairwise_append.2 ⟨hp, List.pairwise_singleton _ _, ?_⟩
        intro x hx y hy
        rw [List.mem_singleton.1 hy]
        unfold Apart
        rw [pl_lo]
        rcases List.mem_append.1 hx with h1 | h1
        · have h2 := hp2 x h1 a (by simp)
          refine ⟨h2.1, lt_of_lt_of_le' h2.2 ?_⟩
          exact hal
        · rw [List.mem_singleton.1 h1]; exact ht
      · rw [inL_snoc (V ++ [a]) r.pl, inL_snoc P, ← hk, pl_has]
      · intro u hu
        rcases List.mem_append.1 hu with h1 | h1
        · obtain ⟨p, h2, h3⟩ := hlo u h1
          exact ⟨p, List.mem_append_left _ h2, h3⟩
        · rw [List.mem_singleton.1 h1]
          exact ⟨r, by simp, pl_lo r⟩

/-- in order, by their beginnings -/
def Rising (R : List Rg) : Prop := R.Pairwise (fun x y => ltB y.lo x.lo = false)

theorem fold_inv : ∀ (R U P : List Rg), InvU U P → Rising R → (∀ r ∈ R, r.some) → (∀ p ∈ P, ∀ r ∈ R, ltB r.lo p.lo = false) → InvU (R.foldl stepU U) (P ++ R)
  | [], U, P, h, _, _, _ => by rw [List.append_nil]; exact h
  | r :: R, U, P, h, hr, hs, hle => by
    have h1 := h.step (hs r (by simp)) (fun p hp => hle p hp r (by simp))
    have h2 := fold_inv R (stepU U r) (P ++ [r]) h1 (List.pairwise_cons.1 hr).2 (fun q hq => hs q (List.mem_cons_of_mem _ hq)) (by
      intro p hp q hq
      rcases List.mem_append.1 hp with h3 | h3
      · exact hle p h3 q (List.mem_cons_of_mem _ hq)
      · rw [List.mem_singleton.1 h3]; exact (List.pairwise_cons.1 hr).1 q hq)
    rw [List.append_assoc] at h2
    exact h2

theorem union_inv {R : List Rg} (hr : Rising R) (hs : ∀ r ∈ R, r.some) : InvU (R.foldl stepU []) R := by
  have := fold_inv R [] [] InvU.nil hr hs (fun _ h => by cases h)
  simpa using this

/-- a range as a value -/
def Rg.val (r : Rg) : Value := rngV r.lo r.hi r.op

theorem gtB (a b : ByteArray) : ltB a b = (!Op.bytesLess b.toList a.toList && !(b.toList == a.toList)) := by
  rw [ltB_cb, ByteArray.toList_eq, ByteArray.toList_eq, less_cb, eq_cb, cb_swap a.data.toList b.data.toList]
  rcases cb_range a.data.toList b.data.toList with h | h | h <;> simp [h]

























































theorem neq_zero (lo hi : ByteArray) (op : Bool) (lo' hi' : ByteArray) (op' : Bool) : (!eqR (bothR lo hi op lo' hi' op').1 (bothR lo hi op lo' hi' op').2.1 ⟨#[]⟩ ⟨#[]⟩ (bothR lo hi op lo' hi' op').2.2 false) = !emptyB (bothR lo hi op lo' hi' op').1 (bothR lo hi op lo' hi' op').2.1 (bothR lo hi op lo' hi' op').2.2 := by
  have e0 : emptyB ⟨#[]⟩ ⟨#[]⟩ false = true := by unfold emptyB; rw [ltB_irrefl]; rfl
  unfold bothR
  split
  · have : emptyB (mxB lo lo') ⟨#[]⟩ true = false := rfl
    rw [this]; simp [eqR]
  · split
    · rw [e0]; rw [eqR_self]
    · rename_i h
      have h' : emptyB (mxB lo lo') (bothH hi op hi' op') false = false := by simpa using h
      rw [h']
      congr 1
      cases hq : eqR (mxB lo lo') (bothH hi op hi' op') ⟨#[]⟩ ⟨#[]⟩ false false
      · rfl
      · exfalso
        unfold eqR at hq
        simp only [Bool.and_eq_true, beq_iff_eq] at hq
        have e1 : mxB lo lo' = ⟨#[]⟩ := bytes_eq (by rw [← ByteArray.toList_eq, ← ByteArray.toList_eq]; exact hq.1)
        have e2 : bothH hi op hi' op' = ⟨#[]⟩ := bytes_eq (by rw [← ByteArray.toList_eq, ← ByteArray.toList_eq]; exact hq.2.1)
        rw [e1, e2, e0] at h'
        exact absurd h' (by decide)

set_option maxHeartbeats 1000000 in
theorem run_neR (a b a' b' : ByteArray) (c c' : Bool) (w : World) : (binOp .neq 84 (rngV a b c) (rngV a' b' c')).run Tryz.prog w = .ok (.bool (!eqR a b a' b' c c')) w := by
  have h := run_eqR a b a' b' c c' w
  rw [run_eql_struct] at h
  rw [run_neq_struct]
  generalize (Op.equalIn 10000 84 (rngV a b c) (rngV a' b' c')).run Tryz.prog w = r at *
  cases r with
  | ok x w1 => simp [Result.andThen] at h ⊢; exact ⟨by rw [h.1], h.2⟩
  | _ => simp [Result.andThen] at h



end Go.Proofs.YtcknhjabdjbjiabGreat
