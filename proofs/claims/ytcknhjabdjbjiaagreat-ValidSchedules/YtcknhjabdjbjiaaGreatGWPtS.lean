/- Points compared and sorted. Lists of spans. -/
import Derived.Shelf.SlSortCmp.WholeK
import Derived.Ground.SlsfProg
import Derived.Test.YtcknhjabdjbjiaaGreatGWV13
namespace Go.Proofs.YtcknhjabdjbjiaaGreat
open Go.Shelf Go.RowKit Go.Lib Go.Sort
set_option maxRecDepth 100000

theorem isNaNi_any (x : Int) (w : World) : Calls Tryz.prog 95 #[.int .i64 x] w fun e w' => e = .returned (.bool false) ∧ w' = w := by
  have h : (x != x) = false := by simp [bne]
  go_enter Tryz.func95, Tryz.ntmps95
  go_wp2
  go_ret
  exact ⟨rfl, rfl⟩

set_option maxHeartbeats 1000000 in
theorem compareI_any (x y : Int) (w : World) : Calls Tryz.prog 82 #[.int .i64 x, .int .i64 y] w fun e w' => e = .returned (.int .i64 (cmpI x y)) ∧ w' = w := by
  unfold cmpI
  rcases Int.lt_trichotomy x y with h | h | h
  all_goals
    have h1 : decide (x < y) = decide (x < y) := rfl
    go_enter Tryz.func82, Tryz.ntmps82
    go_wp2_with (first | (go_at_call 95; refine (isNaNi_any _ _).mono ?_; rintro e w1 ⟨rfl, hww⟩; obtain rfl := hww.symm))
  all_goals go_ret
  all_goals (refine ⟨?_, rfl⟩)
  all_goals simp [*]
  all_goals omega

theorem run_cmps (a b : ByteArray) (w : World) : (callFunc 114 #[.string a, .string b]).run Tryz.prog w = .ok (.value (.int .i64 (Lib.compareBytes a.data.toList b.data.toList))) w := by
  rw [run_callFunc_extern (fn := Tryz.f114) (e := Extern.BytealgCompare.compare) Tryz.func114 (by kernel_rfl) (by kernel_rfl) (by kernel_rfl) (by kernel_rfl)]
  rw [Lib.run_compareString]
  rfl

theorem bstrCmp_any (a b : ByteArray) (w : World) :
    Calls Tryz.prog 96 #[.string a, .string b] w fun e w' => e = .returned (.int .i64 (Lib.compareBytes a.data.toList b.data.toList)) ∧ w' = w := by
  have hb := run_cmps
  go_enter Tryz.func96, Tryz.ntmps96
  go_wp2
  go_ret
  exact ⟨rfl, rfl⟩

theorem strCmp_any (a b : ByteArray) (w : World) :
    Calls Tryz.prog 83 #[.string a, .string b] w fun e w' => e = .returned (.int .i64 (Lib.compareBytes a.data.toList b.data.toList)) ∧ w' = w := by
  go_enter Tryz.func83, Tryz.ntmps83
  go_wp2_with (first | (go_at_call 96; refine (bstrCmp_any _ _ _).mono ?_; rintro e w1 ⟨rfl, hww⟩; obtain rfl := hww.symm))
  go_ret
  exact ⟨rfl, rfl⟩

set_option maxHeartbeats 1000000 in
theorem compare_any (x y : Pt) (w : World) : Calls Tryz.prog 69 #[.agg #[.int .i64 x.t, .int .i64 x.i, .string x.k], .agg #[.int .i64 y.t, .int .i64 y.i, .string y.k]] w fun e w' => e = .returned (.int .i64 (cmpP x y)) ∧ ∃ q os', w' = grow (w.drewN q) os' := by
  unfold cmpP
  have C1 : Hid (∀ w1 : World, Calls _ _ _ _ _) := fun w1 => compareI_any x.t y.t w1
  have C2 : Hid (∀ w1 : World, Calls _ _ _ _ _) := fun w1 => compareI_any x.i y.i w1
  have C3 : Hid (∀ w1 : World, Calls _ _ _ _ _) := fun w1 => strCmp_any x.k y.k w1
  generalize cmpI x.t y.t = r1 at *
  generalize cmpI x.i y.i = r2 at *
  generalize Lib.compareBytes x.k.data.toList y.k.data.toList = r3 at *
  cases h1 : (r1 != 0)
  · cases h2 : (r2 != 0)
    · go_enter Tryz.func69, Tryz.ntmps69
      go_wp2_with fail
      refine (C1.out _).mono ?_
      rintro e w1 ⟨rfl, hw1⟩
      rw [hw1]
      clear hw1
      go_wp2_with fail
      refine (C2.out _).mono ?_
      rintro e w1 ⟨rfl, hw1⟩
      rw [hw1]
      clear hw1
      go_wp2_with fail
      refine (C3.out _).mono ?_
      rintro e w1 ⟨rfl, hw1⟩
      rw [hw1]
      clear hw1
      go_wp2
      go_ret
      exact ⟨rfl, 0, _, by rw [alloc_eq_grow, alloc_eq_grow, grow_grow]; rfl⟩
    · go_enter Tryz.func69, Tryz.ntmps69
      go_wp2_with fail
      refine (C1.out _).mono ?_
      rintro e w1 ⟨rfl, hw1⟩
      rw [hw1]
      clear hw1
      go_wp2_with fail
      refine (C2.out _).mono ?_
      rintro e w1 ⟨rfl, hw1⟩
      rw [hw1]
      clear hw1
      go_wp2
      go_ret
      exact ⟨rfl, 0, _, by rw [alloc_eq_grow, alloc_eq_grow, grow_grow]; rfl⟩
  · go_enter Tryz.func69, Tryz.ntmps69
    go_wp2_with fail
    refine (C1.out _).mono ?_
    rintro e w1 ⟨rfl, hw1⟩
    rw [hw1]
    clear hw1
    go_wp2
    go_ret
    exact ⟨rfl, 0, _, by rw [alloc_eq_grow, alloc_eq_grow, grow_grow]; rfl⟩

theorem grow_belowP (w : World) (q : Nat) (os : Array Obj) : RowKit.Below w.heap.size w (grow (w.drewN q) os) := grow_below (w0 := w) (w := w.drewN q) ⟨rfl, rfl, rfl, Nat.le_refl _, fun _ _ => rfl⟩ os (Nat.le_refl _)
theorem compareB_any (x y : Pt) (w : World) : Calls Tryz.prog 69 #[.agg #[.int .i64 x.t, .int .i64 x.i, .string x.k], .agg #[.int .i64 y.t, .int .i64 y.i, .string y.k]] w fun e w' => e = .returned (.int .i64 (cmpP x y)) ∧ RowKit.Below w.heap.size w w' := by
  refine (compare_any x y w).mono ?_
  rintro e w1 ⟨rfl, q, os, rfl⟩
  exact ⟨rfl, grow_belowP w q os⟩

def Tryz.sortPt_ren : Go.Shelf.Ren := ⟨fun | 6 => 80 | 15 => 94 | 14 => 93 | 28 => 112 | 29 => 113 | 20 => 104 | 21 => 105 | 22 => 106 | 23 => 107 | 24 => 108 | 25 => 109 | 26 => 110 | 27 => 111 | 46 => 121 | 47 => 122 | 48 => 123 | 49 => 124 | 50 => 125 | 57 => 133 | n => n, fun | 22 => 34 | 24 => 39 | 25 => 112 | 3 => 3 | 39 => 121 | 0 => 0 | 53 => 156 | 55 => 23 | 4 => 4 | 46 => 150 | 45 => 149 | 50 => 118 | 5 => 5 | 9 => 9 | 66 => 161 | 70 => 164 | 76 => 171 | 77 => 172 | n => n, fun | n => n⟩

theorem Tryz.sortPt : Go.Proofs.SlLaysF0.n6 Tryz.prog Tryz.sortPt_ren := {
  mixed := by kernel_rfl
  f6 := ⟨Tryz.f80.name, by decide, Tryz.func80.trans (congrArg some (by kernel_rfl))⟩
  f14 := ⟨Tryz.f93.name, by decide, Tryz.func93.trans (congrArg some (by kernel_rfl))⟩
  f15 := Tryz.func94.trans (congrArg some (by kernel_rfl))
  f20 := ⟨Tryz.f104.name, by decide, Tryz.func104.trans (congrArg some (by kernel_rfl))⟩
  f21 := ⟨Tryz.f105.name, by decide, Tryz.func105.trans (congrArg some (by kernel_rfl))⟩
  f22 := ⟨Tryz.f106.name, by decide, Tryz.func106.trans (congrArg some (by kernel_rfl))⟩
  f23 := ⟨Tryz.f107.name, by decide, Tryz.func107.trans (congrArg some (by kernel_rfl))⟩
  f24 := ⟨Tryz.f108.name, by decide, Tryz.func108.trans (congrArg some (by kernel_rfl))⟩
  f25 := ⟨Tryz.f109.name, by decide, Tryz.func109.trans (congrArg some (by kernel_rfl))⟩
  f26 := ⟨Tryz.f110.name, by decide, Tryz.func110.trans (congrArg some (by kernel_rfl))⟩
  f27 := ⟨Tryz.f111.name, by decide, Tryz.func111.trans (congrArg some (by kernel_rfl))⟩
  f28 := Tryz.func112.trans (congrArg some (by kernel_rfl))
  f29 := Tryz.func113.trans (congrArg some (by kernel_rfl))
  f46 := ⟨Tryz.f121.name, by decide, Tryz.func121.trans (congrArg some (by kernel_rfl))⟩
  f47 := Tryz.func122.trans (congrArg some (by kernel_rfl))
  f48 := Tryz.func123.trans (congrArg some (by kernel_rfl))
  f49 := ⟨Tryz.f124.name, by decide, Tryz.func124.trans (congrArg some (by kernel_rfl))⟩
  f50 := ⟨Tryz.f125.name, by decide, Tryz.func125.trans (congrArg some (by kernel_rfl))⟩
  f57 := ⟨Tryz.f133.name, by decide, Tryz.func133.trans (congrArg some (by kernel_rfl))⟩
  t0 := Tryz.underlying0
  a0 := Tryz.isAgg0
  z0 := Tryz.sizeOf0
  v0 := Tryz.zeroValue0
  t3 := Tryz.underlying3
  a3 := Tryz.isAgg3
  z3 := Tryz.sizeOf3
  v3 := Tryz.zeroValue3
  t4 := Tryz.underlying4
  a4 := Tryz.isAgg4
  z4 := Tryz.sizeOf4
  v4 := Tryz.zeroValue4
  t5 := Tryz.underlying5
  a5 := Tryz.isAgg5
  z5 := Tryz.sizeOf5
  v5 := Tryz.zeroValue5
  t9 := Tryz.underlying9
  a9 := Tryz.isAgg9
  z9 := Tryz.sizeOf9
  v9 := Tryz.zeroValue9
  t22 := Tryz.underlying34
  a22 := Tryz.isAgg34
  z22 := Tryz.sizeOf34
  v22 := Tryz.zeroValue34
  t25 := Tryz.underlying112
  a25 := Tryz.isAgg112
  z25 := Tryz.sizeOf112
  v25 := Tryz.zeroValue112
  t39 := Tryz.underlying121
  a39 := Tryz.isAgg121
  z39 := Tryz.sizeOf121
  v39 := Tryz.zeroValue121
  t45 := Tryz.underlying149
  a45 := Tryz.isAgg149
  z45 := Tryz.sizeOf149
  v45 := Tryz.zeroValue149
  t46 := Tryz.underlying150
  a46 := Tryz.isAgg150
  z46 := Tryz.sizeOf150
  v46 := Tryz.zeroValue150
  t50 := Tryz.underlying118
  a50 := Tryz.isAgg118
  z50 := Tryz.sizeOf118
  v50 := Tryz.zeroValue118
  t53 := Tryz.underlying156
  a53 := Tryz.isAgg156
  z53 := Tryz.sizeOf156
  v53 := Tryz.zeroValue156
  t55 := Tryz.underlying23
  a55 := Tryz.isAgg23
  z55 := Tryz.sizeOf23
  v55 := Tryz.zeroValue23
  t66 := Tryz.underlying161
  a66 := Tryz.isAgg161
  z66 := Tryz.sizeOf161
  v66 := Tryz.zeroValue161
  t70 := Tryz.underlying164
  a70 := Tryz.isAgg164
  z70 := Tryz.sizeOf164
  v70 := Tryz.zeroValue164
  t76 := Tryz.underlying171
  a76 := Tryz.isAgg171
  z76 := Tryz.sizeOf171
  v76 := Tryz.zeroValue171
  t77 := Tryz.underlying172
  a77 := Tryz.isAgg172
  z77 := Tryz.sizeOf172
  v77 := Tryz.zeroValue172 }


theorem cmpLaysP [Inhabited Pt] (blk off size : Nat) (w : World) : CmpLays Tryz.prog 69 #[] encP 3 cmpP blk off size w := fun _ _ _ _ x y => compare_any x y _

theorem ltOf_cmp (x y : Pt) : ltOf cmpP x y = ltP x y := by
  unfold ltOf ltP
  rfl

theorem swoP : SWO (ltOf cmpP) where
  irrefl x := by rw [ltOf_cmp]; exact ltP_irrefl _
  trans x y z h1 h2 := by rw [ltOf_cmp] at *; exact ltP_trans h1 h2
  ntrans x y z h1 h2 := by rw [ltOf_cmp] at *; exact leP_trans h2 h1

set_option maxHeartbeats 1000000 in
theorem sortP_any [Inhabited Pt] (blk off cap : Nat) (d : Array Pt) (w : World) (hH : HoldsK encP 3 w blk off d) (hblk : blk < w.heap.size) (hsz : d.size < 4611686018427387904) :
    Calls Tryz.prog 80 #[.slice (some ⟨blk, off, none⟩) d.size cap, .func (.func 69) #[] #[]] w fun e w' => e = .returned (.tuple #[]) ∧ ∃ d' n os, PermIn 0 d.size d d' ∧ SortedIn (ltOf cmpP) 0 d.size d' ∧ w' = sortWorldK encP 3 w blk off n d' os := by
  have eg : ∀ args w, (callFunc 69 args).run Tryz.prog w = .ok (.enter 69 args) w := enters_of Tryz.func69 (by kernel_rfl) rfl
  have hcon := AnyQ.slices_SortFunc Tryz.sortPt 3 Tryz.isAgg39 Tryz.sizeOf39 encP (fun _ => rfl) (fun x v hv => by simp [encP] at hv; rcases hv with rfl | rfl | rfl <;> rfl) cmpP swoP 69 #[] blk off cap d w eg (cmpLaysP blk off d.size w) hH hblk hsz
  change Calls Tryz.prog 80 _ _ _ at hcon
  exact hcon

end Go.Proofs.YtcknhjabdjbjiaaGreat

namespace Go.Proofs.YtcknhjabdjbjiaaGreat
open Go.Shelf Go.RowKit Go.Lib Go.Sort
set_option maxRecDepth 100000

structure Sp where
  t : Int
  i : Int
  lo : ByteArray
  hi : ByteArray
  op : Bool
  deriving DecidableEq


def encS (r : Sp) : List Value := [.int .i64 r.t, .int .i64 r.i, .string r.lo, .string r.hi, .bool r.op]

theorem info_S : (Tryz.prog.info? 103).map (fun i => (i.zero, i.size, i.bytes)) = some (some (.agg #[.int .i64 0, .int .i64 0, .string ⟨#[]⟩, .string ⟨#[]⟩, .bool false]), 5, 56) := by kernel_rfl

def scells (L : List Sp) : List Value := L.flatMap encS

theorem scells_cons (r : Sp) (L : List Sp) : scells (r :: L) = .int .i64 r.t :: .int .i64 r.i :: .string r.lo :: .string r.hi :: .bool r.op :: scells L := rfl

theorem scells_len (L : List Sp) : (scells L).length = L.length * 5 := by
  induction L with
  | nil => rfl
  | cons v L ih => rw [scells_cons]; simp only [List.length_cons]; rw [ih]; omega

theorem scells_append (a b : List Sp) : scells (a ++ b) = scells a ++ scells b := by simp [scells]

theorem scells_at : ∀ (L : List Sp) (i : Nat) (hi : i < L.length), (scells L)[i * 5]? = some (.int .i64 L[i].t) ∧ (scells L)[i * 5 + 1]? = some (.int .i64 L[i].i) ∧ (scells L)[i * 5 + 2]? = some (.string L[i].lo) ∧ (scells L)[i * 5 + 3]? = some (.string L[i].hi) ∧ (scells L)[i * 5 + 4]? = some (.bool L[i].op)
  | [], i, hi => by simp at hi
  | r :: L, 0, _ => ⟨rfl, rfl, rfl, rfl, rfl⟩
  | r :: L, i + 1, hi => by
    have h := scells_at L i (by simpa using hi)
    have e : (i + 1) * 5 = i * 5 + 5 := by omega
    rw [scells_cons, e]
    exact h

theorem scells_set : ∀ (L : List Sp) (i : Nat) (r : Sp), i < L.length → scells (L.set i r) = (((((scells L).set (i * 5) (.int .i64 r.t)).set (i * 5 + 1) (.int .i64 r.i)).set (i * 5 + 2) (.string r.lo)).set (i * 5 + 3) (.string r.hi)).set (i * 5 + 4) (.bool r.op)
  | [], i, r, hi => by simp at hi
  | v :: L, 0, r, _ => rfl
  | v :: L, i + 1, r, hi => by
    have h := scells_set L i r (by simpa using hi)
    have e : (i + 1) * 5 = i * 5 + 5 := by omega
    rw [List.set_cons_succ, scells_cons, scells_cons, e, h]
    rfl

/-- the slice v owns these, in a block of number B or more -/
def OwnS (w : World) (B : Nat) (v : Value) (L : List Sp) : Prop := w.ownsRow B 103 5 v L.length (scells L)

theorem OwnS.nil (w : World) (B : Nat) : OwnS w B (.slice none 0 0) [] := World.ownsRow_nil w B _ _

theorem OwnS.mono {w : World} {B C : Nat} {v : Value} {L : List Sp} (h : OwnS w B v L) (hb : C ≤ B) : OwnS w C v L := by
  refine ⟨h.1, ?_⟩
  rcases h.2 with h1 | ⟨g, cap, cur, e, hb', r⟩
  · exact .inl h1
  · exact .inr ⟨g, cap, cur, e, Nat.le_trans hb hb', r⟩

theorem OwnS.kept {w w' : World} {B : Nat} {v : Value} {L : List Sp} (h : OwnS w B v L) (hb : Below w.heap.size w w') : OwnS w' B v L := by
  refine ⟨h.1, ?_⟩
  rcases h.2 with h1 | ⟨g, cap, cur, e, hb', hg, r⟩
  · exact .inl h1
  · exact .inr ⟨g, cap, cur, e, hb', (hb.block g (Array.getElem?_eq_some_iff.1 hg).1).trans hg, r⟩

theorem OwnS.form {w : World} {B : Nat} {v : Value} {L : List Sp} (h : OwnS w B v L) : (v = .slice none 0 0 ∧ L = []) ∨ ∃ g cap, v = .slice (some ⟨g, 0, none⟩) L.length cap ∧ B ≤ g ∧ g < w.heap.size := by
  rcases h.2 with ⟨h1, h2⟩ | ⟨g, cap, cur, e, hb, hg, _⟩
  · exact .inl ⟨h1, List.eq_nil_of_length_eq_zero h2⟩
  · exact .inr ⟨g, cap, e, hb, (Array.getElem?_eq_some_iff.1 hg).1⟩

theorem OwnS.at {w : World} {B g cap : Nat} {L : List Sp} (h : OwnS w B (.slice (some ⟨g, 0, none⟩) L.length cap) L) (i : Nat) (hi : i < L.length) :
    (w.cell? ⟨g, i * 5, none⟩ = some (.int .i64 L[i].t) ∧ w.cell? ⟨g, i * 5 + 1, none⟩ = some (.int .i64 L[i].i) ∧ w.cell? ⟨g, i * 5 + 2, none⟩ = some (.string L[i].lo) ∧ w.cell? ⟨g, i * 5 + 3, none⟩ = some (.string L[i].hi) ∧ w.cell? ⟨g, i * 5 + 4, none⟩ = some (.bool L[i].op)) ∧
    (w.frozen? ⟨g, i * 5, none⟩ = false ∧ w.frozen? ⟨g, i * 5 + 1, none⟩ = false ∧ w.frozen? ⟨g, i * 5 + 2, none⟩ = false ∧ w.frozen? ⟨g, i * 5 + 3, none⟩ = false ∧ w.frozen? ⟨g, i * 5 + 4, none⟩ = false) := by
  obtain ⟨a0, a1, a2, a3, a4⟩ := scells_at L i hi
  have h' : w.ownsRow B 103 5 (.slice (some ⟨g, 0, none⟩) L.length cap) L.length (scells L) := h
  exact ⟨⟨(h'.cellAt (i * 5) (by omega)).trans a0, (h'.cellAt (i * 5 + 1) (by omega)).trans a1, (h'.cellAt (i * 5 + 2) (by omega)).trans a2, (h'.cellAt (i * 5 + 3) (by omega)).trans a3, (h'.cellAt (i * 5 + 4) (by omega)).trans a4⟩, h'.frozenAt _, h'.frozenAt _, h'.frozenAt _, h'.frozenAt _, h'.frozenAt _⟩

/-- 's[i] = r' -/
theorem OwnS.set {w : World} {B g cap : Nat} {L : List Sp} (h : OwnS w B (.slice (some ⟨g, 0, none⟩) L.length cap) L) (i : Nat) (hi : i < L.length) (r : Sp) :
    OwnS ((((((w).setCell ⟨g, i * 5, none⟩ (.int .i64 r.t)).setCell ⟨g, i * 5 + 1, none⟩ (.int .i64 r.i)).setCell ⟨g, i * 5 + 2, none⟩ (.string r.lo)).setCell ⟨g, i * 5 + 3, none⟩ (.string r.hi)).setCell ⟨g, i * 5 + 4, none⟩ (.bool r.op)) B (.slice (some ⟨g, 0, none⟩) L.length cap) (L.set i r) := by
  have h' : w.ownsRow B 103 5 (.slice (some ⟨g, 0, none⟩) L.length cap) L.length (scells L) := h
  have h3 := (((((h'.stored (i * 5) (.int .i64 r.t)).1.stored (i * 5 + 1) (.int .i64 r.i)).1.stored (i * 5 + 2) (.string r.lo)).1.stored (i * 5 + 3) (.string r.hi)).1.stored (i * 5 + 4) (.bool r.op)).1
  unfold OwnS
  rw [List.length_set, scells_set L i r hi]
  exact h3

/-- 'append(l, r)' -/
theorem wpList_appS {ops : Array Oper} {rest : List Oper} {o : Oper} {a : Act} {Q : Exit → Act → World → Prop} (w : World) (hgd : o.guard = none) (s x : Operand)
    (ho : o.op = .call { callee := .builtin .append, args := #[s, x], argTypes := #[35, 35] })
    (B : Nat) (v : Value) (L : List Sp) (hs : a.eval s = v) (hown : OwnS w B v L)
    (u : Sp) (g : Nat) (hx : a.eval x = .slice (some ⟨g, 0, none⟩) 1 1) (hgz : g = w.heap.size)
    (hlen : L.length + 1 ≤ 2513169434916) (hbase : B ≤ w.heap.size)
    (h : ∀ v' w', OwnS w' B v' (L ++ [u]) → Below B w w' → wpList Tryz.prog ops Q rest (a.put o.dst v') w') : wpList Tryz.prog ops Q (o :: rest) a (w.alloc (.cells #[.int .i64 u.t, .int .i64 u.i, .string u.lo, .string u.hi, .bool u.op] 103)) := by
  obtain ⟨i, hi, hz0, hz1, hz2⟩ := info_parts info_S
  subst hgz
  have hown' : OwnS (w.alloc (.cells #[.int .i64 u.t, .int .i64 u.i, .string u.lo, .string u.hi, .bool u.op] 103)) B v L := hown.kept ((Below.refl _ _).alloc (Nat.le_refl _) _)
  refine wpList_append_own _ hgd s x 35 ho B 103 i (.agg #[.int .i64 0, .int .i64 0, .string ⟨#[]⟩, .string ⟨#[]⟩, .bool false]) 5 56 Tryz.underlying35 hi hz0 hz1 hz2 rfl (by decide) v L.length (scells L) hs hown' ⟨w.heap.size, 0, none⟩ 1 1 (scells [u]) hx rfl ?_ ?_ (by unfold maxLen; omega) (by omega) (by simp; omega) ?_
  · intro j y hj
    have hj' : j < 5 := by
      have := (List.getElem?_eq_some_iff.1 hj).1
      simpa [scells, encS] using this
    have e : (⟨w.heap.size, 0, none⟩ : Addr).add j = ⟨w.heap.size, j, none⟩ := by unfold Addr.add; split <;> simp_all
    rw [e]
    have h4 : j = 0 ∨ j = 1 ∨ j = 2 ∨ j = 3 ∨ j = 4 := by omega
    rcases h4 with rfl | rfl | rfl | rfl | rfl <;> (simp [scells, encS] at hj; subst hj; simp [go_sem])
  · intro y hy
    simp [scells, encS] at hy
    rcases hy with rfl | rfl | rfl | rfl | rfl <;> rfl
  · intro v' w' h1 h2 _
    refine h v' w' ?_ ?_
    · unfold OwnS
      rw [scells_append, List.length_append]
      exact h1
    · exact ((Below.refl _ _).alloc hbase _).grown h2 (by simp; omega) (fun k hk => (hown'.lt k hk).1)

/-- what is owned, in the sort's words -/
theorem OwnS.holds [Inhabited Sp] {w : World} {B g cap : Nat} {L : List Sp} (h : OwnS w B (.slice (some ⟨g, 0, none⟩) L.length cap) L) : HoldsK encS 5 w g 0 L.toArray := by
  intro j hj
  rw [size_flatK] at hj
  have hj' : j < L.length * 5 := by simpa using hj
  rw [get_flatK encS 5 L.toArray j hj, Nat.zero_add]
  have hi : j / 5 < L.length := by omega
  obtain ⟨⟨c0, c1, c2, c3, c4⟩, f0, f1, f2, f3, f4⟩ := h.at (j / 5) hi
  have eL : L.toArray[j / 5]! = L[j / 5] := by simp [getElem!_pos, hi]
  rw [eL]
  have h3 : j % 5 = 0 ∨ j % 5 = 1 ∨ j % 5 = 2 ∨ j % 5 = 3 ∨ j % 5 = 4 := by omega
  rcases h3 with e | e | e | e | e
  · have ej : j = j / 5 * 5 := by omega
    rw [e]
    rw [← ej] at c0 f0
    exact ⟨c0, f0⟩
  · have ej : j = j / 5 * 5 + 1 := by omega
    rw [e]
    rw [← ej] at c1 f1
    exact ⟨c1, f1⟩
  · have ej : j = j / 5 * 5 + 2 := by omega
    rw [e]
    rw [← ej] at c2 f2
    exact ⟨c2, f2⟩
  · have ej : j = j / 5 * 5 + 3 := by omega
    rw [e]
    rw [← ej] at c3 f3
    exact ⟨c3, f3⟩
  · have ej : j = j / 5 * 5 + 4 := by omega
    rw [e]
    rw [← ej] at c4 f4
    exact ⟨c4, f4⟩

/-- the slice at p holds these, in a block below B -/
def RowS (w : World) (B : Nat) (p : Option Addr) (L : List Sp) : Prop := ∀ i (hi : i < L.length), ∃ b o, p = some ⟨b, o, none⟩ ∧ b < B ∧
  w.cell? ⟨b, o + i * 5, none⟩ = some (.int .i64 L[i].t) ∧ w.cell? ⟨b, o + i * 5 + 1, none⟩ = some (.int .i64 L[i].i) ∧ w.cell? ⟨b, o + i * 5 + 2, none⟩ = some (.string L[i].lo) ∧ w.cell? ⟨b, o + i * 5 + 3, none⟩ = some (.string L[i].hi) ∧ w.cell? ⟨b, o + i * 5 + 4, none⟩ = some (.bool L[i].op)

theorem RowS.keep {w w' : World} {B : Nat} {p : Option Addr} {L : List Sp} (h : RowS w B p L) (hb : Below B w w') : RowS w' B p L := by
  intro i hi
  obtain ⟨b, o, e, hbB, c0, c1, c2, c3, c4⟩ := h i hi
  have k : ∀ {o : Nat} {v : Option Value}, w.cell? ⟨b, o, none⟩ = v → w'.cell? ⟨b, o, none⟩ = v := fun {o v} hc => (hb.cell (p := ⟨b, o, none⟩) hbB).trans hc
  exact ⟨b, o, e, hbB, k c0, k c1, k c2, k c3, k c4⟩

theorem RowS.mono {w : World} {B C : Nat} {p : Option Addr} {L : List Sp} (h : RowS w B p L) (hb : B ≤ C) : RowS w C p L := by
  intro i hi
  obtain ⟨b, o, e, hbB, r⟩ := h i hi
  exact ⟨b, o, e, Nat.lt_of_lt_of_le hbB hb, r⟩

theorem RowS.on {w w' : World} {p : Option Addr} {L : List Sp} (h : RowS w w.heap.size p L) (hb : Below w.heap.size w w') : RowS w' w'.heap.size p L := (h.keep hb).mono hb.size

theorem OwnS.row {w : World} {B : Nat} {v : Value} {L : List Sp} (h : OwnS w B v L) : ∃ (p : Option Addr) (c : Nat), v = .slice p L.length c ∧ RowS w w.heap.size p L := by
  rcases h.form with ⟨rfl, rfl⟩ | ⟨g, cap, rfl, _, hg⟩
  · exact ⟨none, 0, rfl, fun i hi => absurd hi (by simp)⟩
  · refine ⟨_, cap, rfl, fun i hi => ?_⟩
    obtain ⟨⟨c0, c1, c2, c3, c4⟩, _⟩ := h.at i hi
    exact ⟨g, 0, rfl, hg, by rw [Nat.zero_add]; exact c0, by rw [Nat.zero_add]; exact c1, by rw [Nat.zero_add]; exact c2, by rw [Nat.zero_add]; exact c3, by rw [Nat.zero_add]; exact c4⟩

theorem scells_get (L : List Sp) (j : Nat) (hj : j < L.length * 5) : (scells L)[j]? = (encS (L[j / 5]'(by omega)))[j % 5]? := by
  have hi : j / 5 < L.length := by omega
  obtain ⟨a0, a1, a2, a3, a4⟩ := scells_at L (j / 5) hi
  have h3 : j % 5 = 0 ∨ j % 5 = 1 ∨ j % 5 = 2 ∨ j % 5 = 3 ∨ j % 5 = 4 := by omega
  rcases h3 with e | e | e | e | e
  · have ej : j / 5 * 5 = j := by omega
    rw [e]; rw [ej] at a0; exact a0
  · have ej : j / 5 * 5 + 1 = j := by omega
    rw [e]; rw [ej] at a1; exact a1
  · have ej : j / 5 * 5 + 2 = j := by omega
    rw [e]; rw [ej] at a2; exact a2
  · have ej : j / 5 * 5 + 3 = j := by omega
    rw [e]; rw [ej] at a3; exact a3
  · have ej : j / 5 * 5 + 4 = j := by omega
    rw [e]; rw [ej] at a4; exact a4

theorem RowS.cells {w : World} {B b o : Nat} {L : List Sp} (h : RowS w B (some ⟨b, o, none⟩) L) : ∀ j y, (scells L)[j]? = some y → w.cell? ((⟨b, o, none⟩ : Addr).add j) = some y := by
  intro j y hj
  have hl : j < L.length * 5 := by have := (List.getElem?_eq_some_iff.1 hj).1; rw [scells_len] at this; exact this
  have e : (⟨b, o, none⟩ : Addr).add j = ⟨b, o + j, none⟩ := by unfold Addr.add; split <;> simp_all
  rw [e]
  obtain ⟨b', o', e', _, c0, c1, c2, c3, c4⟩ := h (j / 5) (by omega)
  injection e' with e'
  injection e' with e1 e2
  subst e1 e2
  rw [scells_get L j hl] at hj
  have h3 : j % 5 = 0 ∨ j % 5 = 1 ∨ j % 5 = 2 ∨ j % 5 = 3 ∨ j % 5 = 4 := by omega
  rcases h3 with e | e | e | e | e
  · have ej : o + j = o + j / 5 * 5 := by omega
    rw [e] at hj; rw [ej, c0]; exact hj
  · have ej : o + j = o + j / 5 * 5 + 1 := by omega
    rw [e] at hj; rw [ej, c1]; exact hj
  · have ej : o + j = o + j / 5 * 5 + 2 := by omega
    rw [e] at hj; rw [ej, c2]; exact hj
  · have ej : o + j = o + j / 5 * 5 + 3 := by omega
    rw [e] at hj; rw [ej, c3]; exact hj
  · have ej : o + j = o + j / 5 * 5 + 4 := by omega
    rw [e] at hj; rw [ej, c4]; exact hj

theorem scells_one (L : List Sp) : ∀ y ∈ scells L, y.oneCell' = true := by
  intro y hy
  simp only [scells, List.mem_flatMap, encS] at hy
  obtain ⟨r, _, h⟩ := hy
  simp at h
  rcases h with rfl | rfl | rfl | rfl | rfl <;> rfl

theorem RowS.cellsA {w : World} {B : Nat} {a : Addr} {L : List Sp} (h : RowS w B (some a) L) : ∀ j y, (scells L)[j]? = some y → w.cell? (a.add j) = some y := by
  match L, h with
  | [], _ => intro j y hj; simp [scells] at hj
  | r :: L, h =>
    obtain ⟨b, o, e, _⟩ := h 0 (by simp)
    injection e with e
    subst e
    exact h.cells





theorem scells_take (L : List Sp) (k : Nat) : scells (L.take k) = (scells L).take (k * 5) := by
  induction L generalizing k with
  | nil => simp [scells]
  | cons r L ih =>
    cases k with
    | zero => simp [scells]
    | succ k =>
      have e : (k + 1) * 5 = k * 5 + 1 + 1 + 1 + 1 + 1 := by omega
      rw [List.take_succ_cons, scells_cons, scells_cons, e, List.take_succ_cons, List.take_succ_cons, List.take_succ_cons, List.take_succ_cons, List.take_succ_cons, ih]

/-- the row cut to its first ones, whatever is laid behind them -/
theorem OwnS.cut {w : World} {B g cap n : Nat} {M : List Sp} (h : OwnS w B (.slice (some ⟨g, 0, none⟩) n cap) M) (hn : n = M.length) (k : Nat) (hk : k ≤ n) (vs : List Value) :
    OwnS (w.setCells g (k * 5) vs) B (.slice (some ⟨g, 0, none⟩) k cap) (M.take k) := by
  have hl : (M.take k).length = k := by rw [List.length_take]; omega
  rcases h.2 with ⟨h1, _⟩ | ⟨g', cap', cur, e, hb, hg, hn1, hm, hs, ht⟩
  · cases h1
  · injection e with e1 e2 e3
    injection e1 with e1
    injection e1 with e1
    subst e1 e3
    obtain ⟨cur', c1, c2, c3⟩ := setCells_row g 103 vs (k * 5) w cur hg
    refine ⟨by rw [scells_len], .inr ⟨g, cap, cur', by rw [hl], hb, c1, by omega, hm, by rw [c2]; exact hs, ?_⟩⟩
    rw [hl, scells_take, ← ht, List.take_take]
    have hmin : min (k * 5) (M.length * 5) = k * 5 := by omega
    rw [hmin]
    apply List.ext_getElem?
    intro j
    rw [List.getElem?_take, List.getElem?_take]
    split
    · rename_i hj
      rw [Array.getElem?_toList, Array.getElem?_toList, c3 j hj]
    · rfl

def zeroS (n : Nat) : List Value := (Builtin.zeroCells #[.int .i64 0, .int .i64 0, .string ⟨#[]⟩, .string ⟨#[]⟩, .bool false] n).toList

theorem zeroS_len (n : Nat) : (zeroS n).length = n * 5 := by simp [zeroS, Builtin.zeroCells]

theorem zeroS_one (n : Nat) : ∀ v ∈ zeroS n, v.oneCell' = true := by
  intro v hv
  simp [zeroS, Builtin.zeroCells] at hv
  obtain ⟨j, _, rfl⟩ := hv
  have h3 : j % 5 = 0 ∨ j % 5 = 1 ∨ j % 5 = 2 ∨ j % 5 = 3 ∨ j % 5 = 4 := by omega
  rcases h3 with e | e | e | e | e <;> simp [e] <;> rfl

theorem run_clearS (w : World) (ty : TypeId) (b o n c : Nat) (hn : 0 < n) (hc : ∀ j, j < n * 5 → (w.cell? ⟨b, o + j, none⟩).isSome = true) (hf : ∀ j, j < n * 5 → w.frozen? ⟨b, o + j, none⟩ = false) :
    (Builtin.clear_ #[35] ty #[.slice (some ⟨b, o, none⟩) n c]).run Tryz.prog w = .ok (.tuple #[]) (w.setCells b o (zeroS n)) := by
  have hst := run_storeCells_cells (P := Tryz.prog) b o (zeroS n) 0 w (by rw [zeroS_len]; simpa using hc) (by rw [zeroS_len]; simpa using hf) (zeroS_one n)
  simp only [Nat.add_zero] at hst
  obtain ⟨m, rfl⟩ : ∃ m, n = m + 1 := ⟨n - 1, by omega⟩
  have hz : (Value.agg #[.int .i64 0, .int .i64 0, .string ⟨#[]⟩, .string ⟨#[]⟩, .bool false]).cells = #[.int .i64 0, .int .i64 0, .string ⟨#[]⟩, .string ⟨#[]⟩, .bool false] := by first | rfl | kernel_rfl | simp [Value.cells]
  unfold zeroS at hst ⊢
  simp [Builtin.clear_, run_underlying Tryz.underlying35, hz, hst]

theorem OwnS.cap {w : World} {B g cap n : Nat} {L : List Sp} (h : OwnS w B (.slice (some ⟨g, 0, none⟩) n cap) L) : L.length ≤ cap ∧ cap ≤ maxLen ∧ B ≤ g ∧ g < w.heap.size := by
  rcases h.2 with ⟨h1, _⟩ | ⟨g', cap', cur, e, hb, hg, hn1, hm, hs, ht⟩
  · cases h1
  · injection e with e1 e2 e3
    injection e1 with e1
    injection e1 with e1
    subst e1 e3
    exact ⟨hn1, hm, hb, (Array.getElem?_eq_some_iff.1 hg).1⟩

end Go.Proofs.YtcknhjabdjbjiaaGreat
