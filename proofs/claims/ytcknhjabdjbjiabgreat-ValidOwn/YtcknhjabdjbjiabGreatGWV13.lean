/- Of layer 2, what layer 13 wants: Union. Lists of points. -/
import Derived.Shelf.Strconv.Itoa0
import Derived.Shelf.SlSortCmp.WholeK
import Derived.Ground.SlsfProg
import Derived.Lib.SliceRun
import Derived.Lib.OwnBridge
import Derived.Laws.DeepNot64
import Derived.Test.YtcknhjabdjbjiabGreatGWU13
namespace Go.Proofs.YtcknhjabdjbjiabGreat
open Go.Shelf Go.RowKit Go.Lib Go.Sort
set_option maxRecDepth 100000

/-- vellumref01.Strings -/
def cmpS (a b : ByteArray) : Int := if Op.bytesLess a.toList b.toList then -1 else if (!Op.bytesLess a.toList b.toList && !(a.toList == b.toList)) then 1 else 0

def laysL_ren : Go.Shelf.Ren := ⟨fun | 129 => 109 | n => n, fun | 3 => 3 | 4 => 4 | 5 => 5 | 9 => 9 | 46 => 102 | 53 => 23 | n => n, fun n => n⟩

theorem laysL : Lays.n129 Tryz.prog laysL_ren :=
  { mixed := by kernel_rfl,
    f129 := Tryz.func109.trans (congrArg some (by kernel_rfl)),
    t3 := Tryz.underlying3,
    a3 := Tryz.isAgg3,
    z3 := Tryz.sizeOf3,
    v3 := Tryz.zeroValue3,
    t4 := Tryz.underlying4,
    a4 := Tryz.isAgg4,
    z4 := Tryz.sizeOf4,
    v4 := Tryz.zeroValue4,
    t5 := Tryz.underlying5,
    a5 := Tryz.isAgg5,
    z5 := Tryz.sizeOf5,
    v5 := Tryz.zeroValue5,
    t9 := Tryz.underlying9,
    a9 := Tryz.isAgg9,
    z9 := Tryz.sizeOf9,
    v9 := Tryz.zeroValue9,
    t46 := Tryz.underlying102,
    a46 := Tryz.isAgg102,
    z46 := Tryz.sizeOf102,
    v46 := Tryz.zeroValue102,
    t53 := Tryz.underlying23,
    a53 := Tryz.isAgg23,
    z53 := Tryz.sizeOf23,
    v53 := Tryz.zeroValue23 }

theorem len64_any (n : Nat) (w : World) (hn : n < 18446744073709551616) :
    Calls Tryz.prog 109 #[.int .u64 (n : Int)] w fun e w' => e = .returned (.int .i64 (Lib.bitLen n : Nat)) ∧ w' = w := by
  have h := Any.bits_Len64 laysL (n : Int) w (by omega) (by omega)
  rw [Int.toNat_natCast] at h
  exact h

/-- one value's box -/
abbrev C1 (b : Nat) (k n : Int) (f : Nat) (s : ByteArray) (w' : World) : Prop :=
  w'.cell? ⟨b, 0, none⟩ = some (.int .i64 k) ∧ w'.cell? ⟨b, 1, none⟩ = some (.int .i64 n) ∧ w'.cell? ⟨b, 2, none⟩ = some (.float .f64 f) ∧ w'.cell? ⟨b, 3, none⟩ = some (.string s)

theorem hasB_lo (lo hi : ByteArray) (op : Bool) : (!hasB lo hi op lo) = emptyB lo hi op := by
  unfold hasB emptyB; rw [ltB_irrefl]; cases op <;> cases ltB lo hi <;> rfl

set_option maxHeartbeats 1000000 in
theorem empty_any (lo hi : ByteArray) (op : Bool) (w : World) :
    Calls Tryz.prog 113 #[rngV lo hi op] w fun e w' => e = .returned (.bool (emptyB lo hi op)) ∧ Below w.heap.size w w' := by
  rw [← hasB_lo]
  go_enter Tryz.func113, Tryz.ntmps113
  go_wp2_with (first | (go_at_call 79; refine (has_any _ _ _ _ _).mono ?_; rintro e w1 ⟨rfl, hb1⟩))
  go_ret
  exact ⟨rfl, ((Below.refl _ _).alloc (Nat.le_refl _) _).trans (hb1.mono (by simp))⟩

theorem mxB_eq (a b : ByteArray) : Lib.maxS a b = mxB a b := by
  unfold Lib.maxS mxB ltB
  rw [Proofs.bytesLess_eq, Lib.toList_data, Lib.toList_data]
  simp

theorem run_mx (a b : ByteArray) (w : World) : (Builtin.max_ #[9, 9] 9 #[.string a, .string b]).run Tryz.prog w = .ok (.string (mxB a b)) w := by rw [Lib.run_max_strs, mxB_eq]

set_option maxHeartbeats 1000000 in
theorem touches_any (a b : Rg) (w : World) : Calls Tryz.prog 96 #[a.val, b.val] w fun e w' => e = .returned (.bool (touchB a b)) ∧ Below w.heap.size w w' := by
  obtain ⟨al, ah, ao⟩ := a
  obtain ⟨bl, bh, bo⟩ := b
  unfold touchB Rg.val
  dsimp only
  rw [← leq_not]
  cases ao <;> cases h1 : Op.bytesLess bl.toList ah.toList <;> cases h2 : (bl.toList == ah.toList)
  all_goals
    go_enter Tryz.func96, Tryz.ntmps96
    go_wp2
    go_ret
    exact ⟨rfl, by go_grown⟩

set_option maxHeartbeats 1000000 in
theorem plainR_any (r : Rg) (w : World) : Calls Tryz.prog 98 #[r.val] w fun e w' => e = .returned r.pl.val ∧ Below w.heap.size w w' := by
  obtain ⟨l, h, o⟩ := r
  unfold Rg.pl Rg.val
  cases o
  all_goals
    go_enter Tryz.func98, Tryz.ntmps98
    go_wp2
    go_returns
    exact ⟨rfl, by go_grown⟩

set_option maxHeartbeats 1000000 in
theorem joined_any (a b : Rg) (w : World) : Calls Tryz.prog 97 #[a.val, b.val] w fun e w' => e = .returned (joinR a b).val ∧ Below w.heap.size w w' := by
  have hmx := run_mx
  obtain ⟨al, ah, ao⟩ := a
  obtain ⟨bl, bh, bo⟩ := b
  unfold joinR
  dsimp only
  have C1 : Hid (∀ w1 : World, Calls _ _ _ _ _) := fun w1 => plainR_any ⟨al, mxB ah bh, ao || bo⟩ w1
  obtain ⟨r, hr⟩ : ∃ r : Rg, r = Rg.pl ⟨al, mxB ah bh, ao || bo⟩ := ⟨_, rfl⟩
  rw [← hr] at C1 ⊢
  clear hr
  obtain ⟨rl, rh, ro⟩ := r
  unfold Rg.val at C1 ⊢
  cases ao <;> cases bo
  all_goals
    go_enter Tryz.func97, Tryz.ntmps97
    go_wp2_with (first | (go_at_call 98; refine (C1.out _).mono ?_; rintro e w1 ⟨rfl, hb1⟩; obtain ⟨hx1, hx2⟩ := bcell hb1))
    have hA : Below w.heap.size w w1 := by
      refine Below.trans ?_ (hb1.mono (by simp; omega))
      go_grown
    refine bodyPost_ret (v := rngV rl rh ro) (by simp [results, Tryz.results97, go_sem, hx1]) rfl ⟨rfl, ((hA.setCell (by simp; omega) _).setCell (by simp; omega) _).setCell (by simp; omega) _⟩

def Tryz.sortRg_ren : Go.Shelf.Ren := ⟨fun | 6 => 114 | 15 => 92 | 14 => 123 | 28 => 108 | 29 => 109 | 20 => 126 | 21 => 127 | 22 => 128 | 23 => 129 | 24 => 130 | 25 => 131 | 26 => 132 | 27 => 133 | 46 => 134 | 47 => 118 | 48 => 119 | 49 => 135 | 50 => 136 | 57 => 137 | n => n, fun | 22 => 124 | 24 => 84 | 25 => 154 | 3 => 3 | 39 => 102 | 0 => 0 | 53 => 149 | 55 => 23 | 4 => 4 | 46 => 143 | 45 => 142 | 50 => 110 | 5 => 5 | 9 => 9 | 66 => 155 | 70 => 158 | 76 => 163 | 77 => 164 | n => n, fun | n => n⟩

theorem Tryz.sortRg : Go.Proofs.SlLaysF0.n6 Tryz.prog Tryz.sortRg_ren := {
  mixed := by kernel_rfl
  f6 := ⟨Tryz.f114.name, by decide, Tryz.func114.trans (congrArg some (by kernel_rfl))⟩
  f14 := ⟨Tryz.f123.name, by decide, Tryz.func123.trans (congrArg some (by kernel_rfl))⟩
  f15 := Tryz.func92.trans (congrArg some (by kernel_rfl))
  f20 := ⟨Tryz.f126.name, by decide, Tryz.func126.trans (congrArg some (by kernel_rfl))⟩
  f21 := ⟨Tryz.f127.name, by decide, Tryz.func127.trans (congrArg some (by kernel_rfl))⟩
  f22 := ⟨Tryz.f128.name, by decide, Tryz.func128.trans (congrArg some (by kernel_rfl))⟩
  f23 := ⟨Tryz.f129.name, by decide, Tryz.func129.trans (congrArg some (by kernel_rfl))⟩
  f24 := ⟨Tryz.f130.name, by decide, Tryz.func130.trans (congrArg some (by kernel_rfl))⟩
  f25 := ⟨Tryz.f131.name, by decide, Tryz.func131.trans (congrArg some (by kernel_rfl))⟩
  f26 := ⟨Tryz.f132.name, by decide, Tryz.func132.trans (congrArg some (by kernel_rfl))⟩
  f27 := ⟨Tryz.f133.name, by decide, Tryz.func133.trans (congrArg some (by kernel_rfl))⟩
  f28 := Tryz.func108.trans (congrArg some (by kernel_rfl))
  f29 := Tryz.func109.trans (congrArg some (by kernel_rfl))
  f46 := ⟨Tryz.f134.name, by decide, Tryz.func134.trans (congrArg some (by kernel_rfl))⟩
  f47 := Tryz.func118.trans (congrArg some (by kernel_rfl))
  f48 := Tryz.func119.trans (congrArg some (by kernel_rfl))
  f49 := ⟨Tryz.f135.name, by decide, Tryz.func135.trans (congrArg some (by kernel_rfl))⟩
  f50 := ⟨Tryz.f136.name, by decide, Tryz.func136.trans (congrArg some (by kernel_rfl))⟩
  f57 := ⟨Tryz.f137.name, by decide, Tryz.func137.trans (congrArg some (by kernel_rfl))⟩
  t0 := Tryz.underlying0
  a0 := Tryz.isAgg0
  z0 := Tryz.sizeOf0
  v0 := Tryz.zeroValue0
  t3 := Tryz.underlying3
  a3 := Tryz.isAgg3
  z3 := Tryz.sizeOf3
  v3 := Tryz.zeroValue3
  t4 := Tryz.underlying4
  a4 := Tryz.isAgg4
  z4 := Tryz.sizeOf4
  v4 := Tryz.zeroValue4
  t5 := Tryz.underlying5
  a5 := Tryz.isAgg5
  z5 := Tryz.sizeOf5
  v5 := Tryz.zeroValue5
  t9 := Tryz.underlying9
  a9 := Tryz.isAgg9
  z9 := Tryz.sizeOf9
  v9 := Tryz.zeroValue9
  t22 := Tryz.underlying124
  a22 := Tryz.isAgg124
  z22 := Tryz.sizeOf124
  v22 := Tryz.zeroValue124
  t25 := Tryz.underlying154
  a25 := Tryz.isAgg154
  z25 := Tryz.sizeOf154
  v25 := Tryz.zeroValue154
  t39 := Tryz.underlying102
  a39 := Tryz.isAgg102
  z39 := Tryz.sizeOf102
  v39 := Tryz.zeroValue102
  t45 := Tryz.underlying142
  a45 := Tryz.isAgg142
  z45 := Tryz.sizeOf142
  v45 := Tryz.zeroValue142
  t46 := Tryz.underlying143
  a46 := Tryz.isAgg143
  z46 := Tryz.sizeOf143
  v46 := Tryz.zeroValue143
  t50 := Tryz.underlying110
  a50 := Tryz.isAgg110
  z50 := Tryz.sizeOf110
  v50 := Tryz.zeroValue110
  t53 := Tryz.underlying149
  a53 := Tryz.isAgg149
  z53 := Tryz.sizeOf149
  v53 := Tryz.zeroValue149
  t55 := Tryz.underlying23
  a55 := Tryz.isAgg23
  z55 := Tryz.sizeOf23
  v55 := Tryz.zeroValue23
  t66 := Tryz.underlying155
  a66 := Tryz.isAgg155
  z66 := Tryz.sizeOf155
  v66 := Tryz.zeroValue155
  t70 := Tryz.underlying158
  a70 := Tryz.isAgg158
  z70 := Tryz.sizeOf158
  v70 := Tryz.zeroValue158
  t76 := Tryz.underlying163
  a76 := Tryz.isAgg163
  z76 := Tryz.sizeOf163
  v76 := Tryz.zeroValue163
  t77 := Tryz.underlying164
  a77 := Tryz.isAgg164
  z77 := Tryz.sizeOf164
  v77 := Tryz.zeroValue164 }

set_option maxHeartbeats 1000000 in
theorem isNaNs_any (x : ByteArray) (w : World) : Calls Tryz.prog 124 #[.string x] w fun e w' => e = .returned (.bool false) ∧ w' = w := by
  have h : (x.toList != x.toList) = false := by simp [bne]
  go_enter Tryz.func124, Tryz.ntmps124
  go_wp2
  go_ret
  exact ⟨rfl, rfl⟩

set_option maxHeartbeats 1000000 in
theorem compareS_any (x y : ByteArray) (w : World) : Calls Tryz.prog 116 #[.string x, .string y] w fun e w' => e = .returned (.int .i64 (cmpS x y)) ∧ w' = w := by
  unfold cmpS
  cases h1 : Op.bytesLess x.toList y.toList <;> cases h2 : (x.toList == y.toList)
  all_goals
    go_enter Tryz.func116, Tryz.ntmps116
    go_wp2_with (first | (go_at_call 124; refine (isNaNs_any _ _).mono ?_; rintro e w1 ⟨rfl, hww⟩; obtain rfl := hww.symm))
    go_ret
    exact ⟨rfl, rfl⟩

def encR (r : Rg) : List Value := [.string r.lo, .string r.hi, .bool r.op]

def cfR (x y : Rg) : Int := cmpS x.lo y.lo

set_option maxHeartbeats 1000000 in
theorem closureR (x y : Rg) (W : World) : Calls Tryz.prog 115 #[.agg #[.string x.lo, .string x.hi, .bool x.op], .agg #[.string y.lo, .string y.hi, .bool y.op]] W fun e w' => e = .returned (.int .i64 (cfR x y)) ∧ ∃ q os', w' = grow (W.drewN q) os' := by
  have C1 : Hid (∀ w1 : World, Calls _ _ _ _ _) := fun w1 => compareS_any x.lo y.lo w1
  unfold cfR
  generalize cmpS x.lo y.lo = r at *
  go_enter Tryz.func115, Tryz.ntmps115
  go_wp2_with (go_at_call 116; refine (C1.out _).mono ?_; rintro e w' ⟨rfl, rfl⟩)
  go_ret
  exact ⟨rfl, 0, _, by rw [alloc_eq_grow, alloc_eq_grow, grow_grow]; rfl⟩

theorem cmpLaysR [Inhabited Rg] (blk off size : Nat) (w : World) : CmpLays Tryz.prog 115 #[] encR 3 cfR blk off size w := fun _ _ _ _ x y => closureR x y _

theorem ltOf_cf (x y : Rg) : ltOf cfR x y = ltB x.lo y.lo := by
  unfold ltOf cfR cmpS ltB
  cases h1 : Op.bytesLess x.lo.toList y.lo.toList <;> cases h2 : (x.lo.toList == y.lo.toList) <;> rfl

theorem swoR : SWO (ltOf cfR) where
  irrefl x := by rw [ltOf_cf]; exact ltB_irrefl _
  trans x y z h1 h2 := by rw [ltOf_cf] at *; exact lt_trans' h1 h2
  ntrans x y z h1 h2 := by rw [ltOf_cf] at *; exact le_trans' h2 h1

set_option maxHeartbeats 1000000 in
/-- slices.SortFunc, as Union calls it -/
theorem sortR_any [Inhabited Rg] (blk off cap : Nat) (d : Array Rg) (w : World) (hH : HoldsK encR 3 w blk off d) (hblk : blk < w.heap.size) (hsz : d.size < 4611686018427387904) :
    Calls Tryz.prog 114 #[.slice (some ⟨blk, off, none⟩) d.size cap, .func (.func 115) #[] #[]] w fun e w' => e = .returned (.tuple #[]) ∧ ∃ d' n os, PermIn 0 d.size d d' ∧ SortedIn (ltOf cfR) 0 d.size d' ∧ w' = sortWorldK encR 3 w blk off n d' os := by
  have eg : ∀ args w, (callFunc 115 args).run Tryz.prog w = .ok (.enter 115 args) w := enters_of Tryz.func115 (by kernel_rfl) rfl
  have hcon := AnyQ.slices_SortFunc Tryz.sortRg 3 Tryz.isAgg84 Tryz.sizeOf84 encR (fun _ => rfl) (fun x v hv => by simp [encR] at hv; rcases hv with rfl | rfl | rfl <;> rfl) cfR swoR 115 #[] blk off cap d w eg (cmpLaysR blk off d.size w) hH hblk hsz
  change Calls Tryz.prog 114 _ _ _ at hcon
  exact hcon

theorem info_rng : (Tryz.prog.info? 84).map (fun i => (i.zero, i.size, i.bytes)) = some (some (.agg #[.string ⟨#[]⟩, .string ⟨#[]⟩, .bool false]), 3, 40) := by kernel_rfl

/-- ranges as cells -/
def rcells (L : List Rg) : List Value := L.flatMap encR

theorem rcells_cons (r : Rg) (L : List Rg) : rcells (r :: L) = .string r.lo :: .string r.hi :: .bool r.op :: rcells L := rfl

theorem rcells_len (L : List Rg) : (rcells L).length = L.length * 3 := by
  induction L with
  | nil => rfl
  | cons v L ih => rw [rcells_cons]; simp only [List.length_cons]; rw [ih]; omega

theorem rcells_append (a b : List Rg) : rcells (a ++ b) = rcells a ++ rcells b := by simp [rcells]

theorem rcell_at : ∀ (L : List Rg) (i : Nat) (hi : i < L.length), (rcells L)[i * 3]? = some (.string L[i].lo) ∧ (rcells L)[i * 3 + 1]? = some (.string L[i].hi) ∧ (rcells L)[i * 3 + 2]? = some (.bool L[i].op)
  | [], i, hi => by simp at hi
  | r :: L, 0, _ => ⟨rfl, rfl, rfl⟩
  | r :: L, i + 1, hi => by
    have h := rcell_at L i (by simpa using hi)
    have e : (i + 1) * 3 = i * 3 + 3 := by omega
    rw [rcells_cons, e]
    exact h

theorem rcells_set : ∀ (L : List Rg) (i : Nat) (r : Rg), i < L.length → rcells (L.set i r) = (((rcells L).set (i * 3) (.string r.lo)).set (i * 3 + 1) (.string r.hi)).set (i * 3 + 2) (.bool r.op)
  | [], i, r, hi => by simp at hi
  | v :: L, 0, r, _ => rfl
  | v :: L, i + 1, r, hi => by
    have h := rcells_set L i r (by simpa using hi)
    have e : (i + 1) * 3 = i * 3 + 3 := by omega
    rw [List.set_cons_succ, rcells_cons, rcells_cons, e, h]
    rfl

/-- the slice v owns these ranges, in a block of number B or more -/
def OwnR (w : World) (B : Nat) (v : Value) (L : List Rg) : Prop := w.ownsRow B 84 3 v L.length (rcells L)

theorem OwnR.nil (w : World) (B : Nat) : OwnR w B (.slice none 0 0) [] := World.ownsRow_nil w B _ _

theorem OwnR.kept {w w' : World} {B : Nat} {v : Value} {L : List Rg} (h : OwnR w B v L) (hb : Below w.heap.size w w') : OwnR w' B v L := by
  refine ⟨h.1, ?_⟩
  rcases h.2 with h1 | ⟨g, cap, cur, e, hb', hg, r⟩
  · exact .inl h1
  · exact .inr ⟨g, cap, cur, e, hb', (hb.block g (Array.getElem?_eq_some_iff.1 hg).1).trans hg, r⟩

theorem OwnR.form {w : World} {B : Nat} {v : Value} {L : List Rg} (h : OwnR w B v L) : (v = .slice none 0 0 ∧ L = []) ∨ ∃ g cap, v = .slice (some ⟨g, 0, none⟩) L.length cap ∧ B ≤ g ∧ g < w.heap.size := by
  rcases h.2 with ⟨h1, h2⟩ | ⟨g, cap, cur, e, hb, hg, _⟩
  · exact .inl ⟨h1, List.eq_nil_of_length_eq_zero h2⟩
  · exact .inr ⟨g, cap, e, hb, (Array.getElem?_eq_some_iff.1 hg).1⟩

theorem OwnR.at {w : World} {B g cap : Nat} {L : List Rg} (h : OwnR w B (.slice (some ⟨g, 0, none⟩) L.length cap) L) (i : Nat) (hi : i < L.length) :
    (w.cell? ⟨g, i * 3, none⟩ = some (.string L[i].lo) ∧ w.cell? ⟨g, i * 3 + 1, none⟩ = some (.string L[i].hi) ∧ w.cell? ⟨g, i * 3 + 2, none⟩ = some (.bool L[i].op)) ∧
    (w.frozen? ⟨g, i * 3, none⟩ = false ∧ w.frozen? ⟨g, i * 3 + 1, none⟩ = false ∧ w.frozen? ⟨g, i * 3 + 2, none⟩ = false) := by
  obtain ⟨a0, a1, a2⟩ := rcell_at L i hi
  have h' : w.ownsRow B 84 3 (.slice (some ⟨g, 0, none⟩) L.length cap) L.length (rcells L) := h
  exact ⟨⟨(h'.cellAt (i * 3) (by omega)).trans a0, (h'.cellAt (i * 3 + 1) (by omega)).trans a1, (h'.cellAt (i * 3 + 2) (by omega)).trans a2⟩, h'.frozenAt _, h'.frozenAt _, h'.frozenAt _⟩

/-- 's[i] = r' -/
theorem OwnR.set {w : World} {B g cap : Nat} {L : List Rg} (h : OwnR w B (.slice (some ⟨g, 0, none⟩) L.length cap) L) (i : Nat) (hi : i < L.length) (r : Rg) :
    OwnR (((w.setCell ⟨g, i * 3, none⟩ (.string r.lo)).setCell ⟨g, i * 3 + 1, none⟩ (.string r.hi)).setCell ⟨g, i * 3 + 2, none⟩ (.bool r.op)) B (.slice (some ⟨g, 0, none⟩) L.length cap) (L.set i r) := by
  have h' : w.ownsRow B 84 3 (.slice (some ⟨g, 0, none⟩) L.length cap) L.length (rcells L) := h
  have h3 := (((h'.stored (i * 3) (.string r.lo)).1.stored (i * 3 + 1) (.string r.hi)).1.stored (i * 3 + 2) (.bool r.op)).1
  unfold OwnR
  rw [List.length_set, rcells_set L i r hi]
  exact h3

/-- 'append(l, r)' -/
theorem wpList_appR {ops : Array Oper} {rest : List Oper} {o : Oper} {a : Act} {Q : Exit → Act → World → Prop} (w : World) (hgd : o.guard = none) (s x : Operand)
    (ho : o.op = .call { callee := .builtin .append, args := #[s, x], argTypes := #[124, 124] })
    (B : Nat) (v : Value) (L : List Rg) (hs : a.eval s = v) (hown : OwnR w B v L)
    (u : Rg) (g : Nat) (hx : a.eval x = .slice (some ⟨g, 0, none⟩) 1 1) (hgz : g = w.heap.size)
    (hlen : L.length + 1 ≤ 3518437208883) (hbase : B ≤ w.heap.size)
    (h : ∀ v' w', OwnR w' B v' (L ++ [u]) → Below B w w' → wpList Tryz.prog ops Q rest (a.put o.dst v') w') : wpList Tryz.prog ops Q (o :: rest) a (w.alloc (.cells #[.string u.lo, .string u.hi, .bool u.op] 84)) := by
  obtain ⟨i, hi, hz0, hz1, hz2⟩ := info_parts info_rng
  subst hgz
  have hown' : OwnR (w.alloc (.cells #[.string u.lo, .string u.hi, .bool u.op] 84)) B v L := hown.kept ((Below.refl _ _).alloc (Nat.le_refl _) _)
  refine wpList_append_own _ hgd s x 124 ho B 84 i (.agg #[.string ⟨#[]⟩, .string ⟨#[]⟩, .bool false]) 3 40 Tryz.underlying124 hi hz0 hz1 hz2 rfl (by decide) v L.length (rcells L) hs hown' ⟨w.heap.size, 0, none⟩ 1 1 (rcells [u]) hx rfl ?_ ?_ (by unfold maxLen; omega) (by omega) (by simp; omega) ?_
  · intro j y hj
    have hj' : j < 3 := by
      have := (List.getElem?_eq_some_iff.1 hj).1
      simpa [rcells, encR] using this
    have e : (⟨w.heap.size, 0, none⟩ : Addr).add j = ⟨w.heap.size, j, none⟩ := by unfold Addr.add; split <;> simp_all
    rw [e]
    have h4 : j = 0 ∨ j = 1 ∨ j = 2 := by omega
    rcases h4 with rfl | rfl | rfl <;> (simp [rcells, encR] at hj; subst hj; simp [go_sem])
  · intro y hy
    simp [rcells, encR] at hy
    rcases hy with rfl | rfl | rfl <;> rfl
  · intro v' w' h1 h2 _
    refine h v' w' ?_ ?_
    · unfold OwnR
      rw [rcells_append, List.length_append]
      exact h1
    · exact ((Below.refl _ _).alloc hbase _).grown h2 (by simp; omega) (fun k hk => (hown'.lt k hk).1)

/-- what is owned, in the sort's words -/
theorem OwnR.holds [Inhabited Rg] {w : World} {B g cap : Nat} {L : List Rg} (h : OwnR w B (.slice (some ⟨g, 0, none⟩) L.length cap) L) : HoldsK encR 3 w g 0 L.toArray := by
  intro j hj
  rw [size_flatK] at hj
  have hj' : j < L.length * 3 := by simpa using hj
  rw [get_flatK encR 3 L.toArray j hj, Nat.zero_add]
  have hi : j / 3 < L.length := by omega
  obtain ⟨⟨c0, c1, c2⟩, f0, f1, f2⟩ := h.at (j / 3) hi
  have eL : L.toArray[j / 3]! = L[j / 3] := by simp [getElem!_pos, hi]
  rw [eL]
  have h3 : j % 3 = 0 ∨ j % 3 = 1 ∨ j % 3 = 2 := by omega
  rcases h3 with e | e | e
  · have ej : j = j / 3 * 3 := by omega
    rw [e]
    rw [← ej] at c0 f0
    exact ⟨c0, f0⟩
  · have ej : j = j / 3 * 3 + 1 := by omega
    rw [e]
    rw [← ej] at c1 f1
    exact ⟨c1, f1⟩
  · have ej : j = j / 3 * 3 + 2 := by omega
    rw [e]
    rw [← ej] at c2 f2
    exact ⟨c2, f2⟩

/-- the slice at p holds the ranges L, in a block below B -/
def RowR (w : World) (B : Nat) (p : Option Addr) (L : List Rg) : Prop := ∀ i (hi : i < L.length), ∃ b o, p = some ⟨b, o, none⟩ ∧ b < B ∧
  w.cell? ⟨b, o + i * 3, none⟩ = some (.string L[i].lo) ∧ w.cell? ⟨b, o + i * 3 + 1, none⟩ = some (.string L[i].hi) ∧ w.cell? ⟨b, o + i * 3 + 2, none⟩ = some (.bool L[i].op)

theorem RowR.keep {w w' : World} {B : Nat} {p : Option Addr} {L : List Rg} (h : RowR w B p L) (hb : Below B w w') : RowR w' B p L := by
  intro i hi
  obtain ⟨b, o, e, hbB, c0, c1, c2⟩ := h i hi
  have k : ∀ {o : Nat} {v : Option Value}, w.cell? ⟨b, o, none⟩ = v → w'.cell? ⟨b, o, none⟩ = v := fun {o v} hc => (hb.cell (p := ⟨b, o, none⟩) hbB).trans hc
  exact ⟨b, o, e, hbB, k c0, k c1, k c2⟩

theorem RowR.mono {w : World} {B C : Nat} {p : Option Addr} {L : List Rg} (h : RowR w B p L) (hb : B ≤ C) : RowR w C p L := by
  intro i hi
  obtain ⟨b, o, e, hbB, r⟩ := h i hi
  exact ⟨b, o, e, Nat.lt_of_lt_of_le hbB hb, r⟩

theorem OwnR.row {w : World} {B : Nat} {v : Value} {L : List Rg} (h : OwnR w B v L) : ∃ (p : Option Addr) (c : Nat), v = .slice p L.length c ∧ RowR w w.heap.size p L := by
  rcases h.form with ⟨rfl, rfl⟩ | ⟨g, cap, rfl, _, hg⟩
  · exact ⟨none, 0, rfl, fun i hi => absurd hi (by simp)⟩
  · refine ⟨_, cap, rfl, fun i hi => ?_⟩
    obtain ⟨⟨c0, c1, c2⟩, _⟩ := h.at i hi
    exact ⟨g, 0, rfl, hg, by rw [Nat.zero_add]; exact c0, by rw [Nat.zero_add]; exact c1, by rw [Nat.zero_add]; exact c2⟩

/-- where the first that meets a test stands -/
def firstI (t : Rg → Bool) : List Rg → Nat
  | [] => 0
  | r :: L => if t r then 0 else firstI t L + 1

theorem firstI_le (t : Rg → Bool) : ∀ L, firstI t L ≤ L.length
  | [] => Nat.le_refl _
  | r :: L => by
    have := firstI_le t L
    unfold firstI
    split
    · omega
    · simp only [List.length_cons]; omega

def Rg.emp (r : Rg) : Bool := emptyB r.lo r.hi r.op

theorem firstI_step (t : Rg → Bool) : ∀ (L : List Rg) (j : Nat) (hj : j < L.length), j ≤ firstI t L → (t L[j] = true → firstI t L = j) ∧ (t L[j] = false → j + 1 ≤ firstI t L)
  | [], j, hj, _ => by simp at hj
  | r :: L, 0, _, _ => by
    refine ⟨fun h => ?_, fun h => ?_⟩
    · have h' : t r = true := h
      unfold firstI; rw [if_pos h']
    · have h' : t r = false := h
      unfold firstI; rw [if_neg (by simp [h'])]; omega
  | r :: L, j + 1, hj, hle => by
    unfold firstI at hle ⊢
    split at hle
    · omega
    · rename_i hn
      rw [if_neg hn]
      obtain ⟨h1, h2⟩ := firstI_step t L j (by simpa using hj) (by omega)
      exact ⟨fun h => by rw [h1 h], fun h => by have := h2 h; omega⟩

set_option maxHeartbeats 2000000 in
theorem indexF_any (L : List Rg) (p : Option Addr) (c : Nat) (w : World) (hR : RowR w w.heap.size p L) (hlen : L.length ≤ 3518437208784) :
    Calls Tryz.prog 122 #[.slice p L.length c, .func (.func 113) #[] #[]] w fun e w' => e = .returned (.int .i64 (if firstI Rg.emp L = L.length then -1 else (firstI Rg.emp L : Int))) ∧ Below w.heap.size w w' := by
  have HA : Hid (RowR _ _ _ _) := hR
  have HF := firstI_le Rg.emp L
  have HS : Hid (∀ (j : Nat) (hj : j < L.length), j ≤ firstI Rg.emp L → (Rg.emp L[j] = true → firstI Rg.emp L = j) ∧ (Rg.emp L[j] = false → j + 1 ≤ firstI Rg.emp L)) := firstI_step Rg.emp L
  clear hR
  generalize firstI Rg.emp L = f at *
  go_enter Tryz.func122, Tryz.ntmps122
  go_wp2_with fail
  go_loopw [8] (fun i wr => ∃ j : Nat, j ≤ f ∧ i = .int .i64 (j : Int) ∧ Below w.heap.size w wr) (fun i _ => L.length - (intOf i).toNat)
  case atStart => exact ⟨0, Nat.zero_le _, by go_num, Below.refl _ _⟩
  case round =>
    obtain ⟨j, hj, rfl, hn⟩ := hrel
    by_cases hj0 : j = L.length
    · have hf : f = L.length := by omega
      subst hj0
      go_wp2
      go_ret
      exact ⟨rfl, hn⟩
    · have hj1 : j < L.length := by omega
      obtain ⟨b, o, rfl, hbB, c0, c1, c2⟩ := HA.out j hj1
      have a0 := (hn.cell (p := ⟨b, o + j * 3, none⟩) hbB).trans c0
      have a1 := (hn.cell (p := ⟨b, o + j * 3 + 1, none⟩) hbB).trans c1
      have a2 := (hn.cell (p := ⟨b, o + j * 3 + 2, none⟩) hbB).trans c2
      have hst := HS.out j hj1 hj
      have CE : Hid (∀ w1 : World, Calls Tryz.prog 113 #[.agg #[.string (L[j]).lo, .string (L[j]).hi, .bool (L[j]).op]] w1 fun e w' => e = .returned (.bool (Rg.emp L[j])) ∧ Below w1.heap.size w1 w') := fun w1 => empty_any (L[j]).lo (L[j]).hi (L[j]).op w1
      clear c0 c1 c2 hj0
      generalize Rg.emp L[j] = em at *
      generalize (L[j]).lo = lo at *
      generalize (L[j]).hi = hi at *
      generalize (L[j]).op = op at *
      cases em
      · have hlt := hst.2 rfl
        clear hst
        go_wp2_with (first | (go_at_call 113; refine (CE.out _).mono ?_; rintro e w5 ⟨rfl, hb5⟩))
        go_roundw
        case rel => exact ⟨j + 1, hlt, by go_num, hn.trans (hb5.mono hn.size)⟩
        case measure => simp [intOf]; omega
      · have hf := hst.1 rfl
        clear hst
        go_wp2_with (first | (go_at_call 113; refine (CE.out _).mono ?_; rintro e w5 ⟨rfl, hb5⟩))
        go_ret
        exact ⟨rfl, hn.trans (hb5.mono hn.size)⟩

theorem rcells_at (L : List Rg) (j : Nat) (hj : j < L.length * 3) : (rcells L)[j]? = (encR (L[j / 3]'(by omega)))[j % 3]? := by
  have hi : j / 3 < L.length := by omega
  obtain ⟨a0, a1, a2⟩ := rcell_at L (j / 3) hi
  have h3 : j % 3 = 0 ∨ j % 3 = 1 ∨ j % 3 = 2 := by omega
  rcases h3 with e | e | e
  · have ej : j / 3 * 3 = j := by omega
    rw [e]; rw [ej] at a0; exact a0
  · have ej : j / 3 * 3 + 1 = j := by omega
    rw [e]; rw [ej] at a1; exact a1
  · have ej : j / 3 * 3 + 2 = j := by omega
    rw [e]; rw [ej] at a2; exact a2

theorem RowR.cells {w : World} {B b o : Nat} {L : List Rg} (h : RowR w B (some ⟨b, o, none⟩) L) : ∀ j y, (rcells L)[j]? = some y → w.cell? ((⟨b, o, none⟩ : Addr).add j) = some y := by
  intro j y hj
  have hl : j < L.length * 3 := by have := (List.getElem?_eq_some_iff.1 hj).1; rw [rcells_len] at this; exact this
  have e : (⟨b, o, none⟩ : Addr).add j = ⟨b, o + j, none⟩ := by unfold Addr.add; split <;> simp_all
  rw [e]
  obtain ⟨b', o', e', _, c0, c1, c2⟩ := h (j / 3) (by omega)
  injection e' with e'
  injection e' with e1 e2
  subst e1 e2
  rw [rcells_at L j hl] at hj
  have h3 : j % 3 = 0 ∨ j % 3 = 1 ∨ j % 3 = 2 := by omega
  rcases h3 with e | e | e
  · have ej : o + j = o + j / 3 * 3 := by omega
    rw [e] at hj; rw [ej, c0]; exact hj
  · have ej : o + j = o + j / 3 * 3 + 1 := by omega
    rw [e] at hj; rw [ej, c1]; exact hj
  · have ej : o + j = o + j / 3 * 3 + 2 := by omega
    rw [e] at hj; rw [ej, c2]; exact hj

theorem rcells_one (L : List Rg) : ∀ y ∈ rcells L, y.oneCell' = true := by
  intro y hy
  simp only [rcells, List.mem_flatMap, encR] at hy
  obtain ⟨r, _, h⟩ := hy
  simp at h
  rcases h with rfl | rfl | rfl <;> rfl

theorem RowR.cellsA {w : World} {B : Nat} {a : Addr} {L : List Rg} (h : RowR w B (some a) L) : ∀ j y, (rcells L)[j]? = some y → w.cell? (a.add j) = some y := by
  match L, h with
  | [], _ => intro j y hj; simp [rcells] at hj
  | r :: L, h =>
    obtain ⟨b, o, e, _⟩ := h 0 (by simp)
    injection e with e
    subst e
    exact h.cells

set_option maxHeartbeats 2000000 in
theorem clone_any (L : List Rg) (a : Addr) (c : Nat) (w : World) (hR : RowR w w.heap.size (some a) L) (hlen : L.length ≤ 3518437208784) (_hc : L.length ≤ c) :
    Calls Tryz.prog 112 #[.slice (some a) L.length c] w fun e w' => ∃ v, e = .returned v ∧ OwnR w' w.heap.size v L ∧ (¬ v = .slice none 0 0) ∧ Below w.heap.size w w' := by
  have HR : Hid (RowR _ _ _ _) := hR
  clear hR
  go_enter Tryz.func112, Tryz.ntmps112
  have hnil := fun w1 : World => Lib.run_eql_slice_nil (P := Tryz.prog) w1 124 84 (some a) L.length c 0 0 Tryz.underlying124
  simp only [Option.isNone_some] at hnil
  obtain ⟨i, hi, hz0, hz1, hz2⟩ := info_parts info_rng
  go_wp2_with (first | (at_builtin; refine wpList_append_own _ rfl (.tmp 5) (.tmp 6) 124 rfl w.heap.size 84 i (.agg #[.string ⟨#[]⟩, .string ⟨#[]⟩, .bool false]) 3 40 Tryz.underlying124 hi hz0 hz1 hz2 rfl (by decide) _ 0 [] rfl ?own a L.length c (rcells L) rfl (rcells_len L) ?cells (rcells_one L) ?mx ?byt ?base ?_))
  case own => exact World.ownsRow_lit w #[] 0 (Nat.le_refl _) (Nat.zero_le _) rfl
  case cells => exact (HR.out.keep ((Below.refl _ _).alloc (Nat.le_refl _) _)).cellsA
  case mx => unfold maxLen; omega
  case byt => omega
  case base => simp
  intro v1 w1 h1 h2 h9
  have hnn : ¬ v1 = .slice none 0 0 := h9
  have hown : OwnR w1 w.heap.size v1 L := by
    unfold OwnR
    simpa using h1
  have hb : Below w.heap.size w w1 := ((Below.refl _ _).alloc (Nat.le_refl _) _).grown h2 (by simp) (fun k hk => by simp [Value.ownBlock] at hk; omega)
  clear h1 h2 h9
  have HN : Hid (¬ v1 = .slice none 0 0) := hnn
  clear hnn
  go_wp2
  go_ret
  exact ⟨_, rfl, hown, HN.out, hb⟩

theorem setCells_row (g : Nat) (t : TypeId) : ∀ (vs : List Value) (o : Nat) (w : World) (cur : Array Value), w.heap[g]? = some (.cells cur t (0, 0)) →
    ∃ cur', (w.setCells g o vs).heap[g]? = some (.cells cur' t (0, 0)) ∧ cur'.size = cur.size ∧ ∀ j, j < o → cur'[j]? = cur[j]?
  | [], _, w, cur, h => ⟨cur, h, rfl, fun _ _ => rfl⟩
  | v :: vs, o, w, cur, h => by
    have h1 := heap_setCell_same w g o cur t v h
    obtain ⟨cur', h2, h3, h4⟩ := setCells_row g t vs (o + 1) (w.setCell ⟨g, o, none⟩ v) (cur.setIfInBounds o v) h1
    refine ⟨cur', h2, by rw [h3]; simp, fun j hj => ?_⟩
    rw [h4 j (by omega), Array.getElem?_setIfInBounds_ne (by omega)]

theorem setCells_below {B g : Nat} (hg : B ≤ g) : ∀ (vs : List Value) (o : Nat) (w w1 : World), Below B w w1 → Below B w (w1.setCells g o vs)
  | [], _, _, _, h => h
  | v :: vs, o, w, w1, h => setCells_below hg vs (o + 1) w (w1.setCell ⟨g, o, none⟩ v) (h.setCell hg _)

theorem rcells_take (L : List Rg) (k : Nat) : rcells (L.take k) = (rcells L).take (k * 3) := by
  induction L generalizing k with
  | nil => simp [rcells]
  | cons r L ih =>
    cases k with
    | zero => simp [rcells]
    | succ k =>
      have e : (k + 1) * 3 = k * 3 + 1 + 1 + 1 := by omega
      rw [List.take_succ_cons, rcells_cons, rcells_cons, e, List.take_succ_cons, List.take_succ_cons, List.take_succ_cons, ih]

/-- the row cut to its first ranges, whatever is laid behind them -/
theorem OwnR.cut {w : World} {B g cap n : Nat} {M : List Rg} (h : OwnR w B (.slice (some ⟨g, 0, none⟩) n cap) M) (hn : n = M.length) (k : Nat) (hk : k ≤ n) (vs : List Value) :
    OwnR (w.setCells g (k * 3) vs) B (.slice (some ⟨g, 0, none⟩) k cap) (M.take k) := by
  have hl : (M.take k).length = k := by rw [List.length_take]; omega
  rcases h.2 with ⟨h1, _⟩ | ⟨g', cap', cur, e, hb, hg, hn1, hm, hs, ht⟩
  · cases h1
  · injection e with e1 e2 e3
    injection e1 with e1
    injection e1 with e1
    subst e1 e3
    obtain ⟨cur', c1, c2, c3⟩ := setCells_row g 84 vs (k * 3) w cur hg
    refine ⟨by rw [rcells_len], .inr ⟨g, cap, cur', by rw [hl], hb, c1, by omega, hm, by rw [c2]; exact hs, ?_⟩⟩
    rw [hl, rcells_take, ← ht, List.take_take]
    have hmin : min (k * 3) (M.length * 3) = k * 3 := by omega
    rw [hmin]
    apply List.ext_getElem?
    intro j
    rw [List.getElem?_take, List.getElem?_take]
    split
    · rename_i hj
      rw [Array.getElem?_toList, Array.getElem?_toList, c3 j hj]
    · rfl

def zeroR (n : Nat) : List Value := (Builtin.zeroCells #[.string ⟨#[]⟩, .string ⟨#[]⟩, .bool false] n).toList

theorem zeroR_len (n : Nat) : (zeroR n).length = n * 3 := by simp [zeroR, Builtin.zeroCells]

theorem zeroR_one (n : Nat) : ∀ v ∈ zeroR n, v.oneCell' = true := by
  intro v hv
  simp [zeroR, Builtin.zeroCells] at hv
  obtain ⟨j, _, rfl⟩ := hv
  have h3 : j % 3 = 0 ∨ j % 3 = 1 ∨ j % 3 = 2 := by omega
  rcases h3 with e | e | e <;> simp [e] <;> rfl

theorem run_clearR (w : World) (ty : TypeId) (b o n c : Nat) (hn : 0 < n) (hc : ∀ j, j < n * 3 → (w.cell? ⟨b, o + j, none⟩).isSome = true) (hf : ∀ j, j < n * 3 → w.frozen? ⟨b, o + j, none⟩ = false) :
    (Builtin.clear_ #[124] ty #[.slice (some ⟨b, o, none⟩) n c]).run Tryz.prog w = .ok (.tuple #[]) (w.setCells b o (zeroR n)) := by
  have hst := run_storeCells_cells (P := Tryz.prog) b o (zeroR n) 0 w (by rw [zeroR_len]; simpa using hc) (by rw [zeroR_len]; simpa using hf) (zeroR_one n)
  simp only [Nat.add_zero] at hst
  obtain ⟨m, rfl⟩ : ∃ m, n = m + 1 := ⟨n - 1, by omega⟩
  have hz : (Value.agg #[.string ⟨#[]⟩, .string ⟨#[]⟩, .bool false]).cells = #[.string ⟨#[]⟩, .string ⟨#[]⟩, .bool false] := rfl
  unfold zeroR at hst ⊢
  simp [Builtin.clear_, run_underlying Tryz.underlying124, hz, hst]

/-- those that are not empty -/
def keepL (L : List Rg) : List Rg := L.filter (fun r => !r.emp)

theorem keepL_snoc (L : List Rg) (j : Nat) (hj : j < L.length) : keepL (L.take (j + 1)) = if L[j].emp then keepL (L.take j) else keepL (L.take j) ++ [L[j]] := by
  unfold keepL
  rw [← List.take_append_getElem hj, List.filter_append]
  cases h : L[j].emp <;> simp [h]

theorem first_take : ∀ (L : List Rg), firstI Rg.emp L < L.length → keepL (L.take (firstI Rg.emp L + 1)) = L.take (firstI Rg.emp L)
  | [], h => by simp at h
  | r :: L, h => by
    unfold firstI at h ⊢
    by_cases hr : r.emp = true
    · rw [if_pos hr]
      simp [keepL, hr]
    · rw [if_neg hr] at h ⊢
      have ih := first_take L (by simpa using h)
      rw [List.take_succ_cons, List.take_succ_cons]
      unfold keepL at ih ⊢
      rw [List.filter_cons, ih]
      simp at hr
      simp [hr]

theorem first_none : ∀ (L : List Rg), firstI Rg.emp L = L.length → keepL L = L
  | [], _ => rfl
  | r :: L, h => by
    unfold firstI at h
    by_cases hr : r.emp = true
    · rw [if_pos hr] at h; simp at h
    · rw [if_neg hr] at h
      have ih := first_none L (by simpa using h)
      unfold keepL at ih ⊢
      rw [List.filter_cons, ih]
      simp at hr
      simp [hr]

theorem OwnR.cap {w : World} {B g cap n : Nat} {L : List Rg} (h : OwnR w B (.slice (some ⟨g, 0, none⟩) n cap) L) : L.length ≤ cap ∧ cap ≤ maxLen ∧ B ≤ g ∧ g < w.heap.size := by
  rcases h.2 with ⟨h1, _⟩ | ⟨g', cap', cur, e, hb, hg, hn1, hm, hs, ht⟩
  · cases h1
  · injection e with e1 e2 e3
    injection e1 with e1
    injection e1 with e1
    subst e1 e3
    exact ⟨hn1, hm, hb, (Array.getElem?_eq_some_iff.1 hg).1⟩

set_option maxHeartbeats 4000000 in
theorem deleteF_any (L : List Rg) (g cap B : Nat) (w : World) (hO : OwnR w B (.slice (some ⟨g, 0, none⟩) L.length cap) L) (hlen : L.length ≤ 3518437208784) :
    Calls Tryz.prog 111 #[.slice (some ⟨g, 0, none⟩) L.length cap, .func (.func 113) #[] #[]] w fun e w' => e = .returned (.slice (some ⟨g, 0, none⟩) (keepL L).length cap) ∧ OwnR w' B (.slice (some ⟨g, 0, none⟩) (keepL L).length cap) (keepL L) ∧ Below B w w' := by
  obtain ⟨hcap, hmx, hBg, hgw⟩ := hO.cap
  have hmx' : cap ≤ 9223372036854775807 := by unfold maxLen at hmx; omega
  obtain ⟨p0, c0', ep, hRow⟩ := hO.row
  injection ep with ep1 _ ep3
  subst ep1 ep3
  have C1 : Hid (Calls _ _ _ _ _) := indexF_any L (some ⟨g, 0, none⟩) cap w hRow hlen
  have HO : Hid (OwnR _ _ _ _) := hO
  have hfl := firstI_le Rg.emp L
  clear hO hRow hmx
  by_cases hall : firstI Rg.emp L = L.length
  · have hk := first_none L hall
    rw [if_pos hall] at C1
    rw [hk]
    clear hk hall hfl
    go_enter Tryz.func111, Tryz.ntmps111
    go_wp2_with fail
    refine C1.out.mono ?_
    rintro e w1 ⟨rfl, hb1⟩
    go_wp2
    go_ret
    exact ⟨rfl, HO.out.kept hb1, hb1.mono (by omega)⟩
  · have HT : Hid (keepL (L.take (firstI Rg.emp L + 1)) = L.take (firstI Rg.emp L)) := first_take L (by omega)
    rw [if_neg hall] at C1
    have hf1 : firstI Rg.emp L < L.length := by omega
    clear hall hfl
    generalize firstI Rg.emp L = f at *
    have hfne : ((f : Int) == -1) = false := by simp
    go_enter Tryz.func111, Tryz.ntmps111
    go_wp2_with fail
    refine C1.out.mono ?_
    rintro e w1 ⟨rfl, hb1⟩
    have HB1 : Hid (Below _ _ _) := hb1
    clear hb1 C1
    go_wp2_with fail
    go_loopw [5, 6] (fun x y wr => ∃ (i j : Nat) (M : List Rg), x = .int .i64 (i : Int) ∧ y = .int .i64 (j : Int) ∧ i < j ∧ j ≤ L.length ∧ M.length = L.length ∧ M.take i = keepL (L.take j) ∧ M.drop j = L.drop j ∧ OwnR wr B (.slice (some ⟨g, 0, none⟩) L.length cap) M ∧ Below B w wr) (fun _ y _ => L.length - (intOf y).toNat)
    case atStart => exact ⟨f, f + 1, L, by go_num, by go_num, by omega, by omega, rfl, HT.out.symm, rfl, HO.out.kept HB1.out, HB1.out.mono (by omega)⟩
    case round =>
      obtain ⟨i, j, M, rfl, rfl, hij, hj, hM, htk, hdr, hown, hbl⟩ := hrel
      have HE : Hid (M.take i = keepL (L.take j) ∧ M.drop j = L.drop j ∧ OwnR wr B (.slice (some ⟨g, 0, none⟩) L.length cap) M ∧ Below B w wr) := ⟨htk, hdr, hown, hbl⟩
      have hgr : g < wr.heap.size := (hown.cap).2.2.2
      clear htk hdr hown hbl
      by_cases hj0 : j = L.length
      · subst hj0
        have hi : i < M.length := by omega
        have hk : M.take i = keepL L := by have h := HE.out.1; rw [List.take_of_length_le (Nat.le_refl L.length)] at h; exact h
        have hkl : (keepL L).length = i := by rw [← hk, List.length_take]; omega
        have hcl : (Builtin.clear_ #[124] 0 #[.slice (some ⟨g, i * 3, none⟩) (L.length - i) (cap - i)]).run Tryz.prog wr = .ok (.tuple #[]) (wr.setCells g (i * 3) (zeroR (L.length - i))) := by
          have h' : wr.ownsRow B 84 3 (.slice (some ⟨g, 0, none⟩) M.length cap) M.length (rcells M) := by
            have h := HE.out.2.2.1
            rw [← hM] at h
            exact h
          refine run_clearR wr 0 g (i * 3) (L.length - i) (cap - i) (by omega) (fun t ht => ?_) (fun t _ => h'.frozenAt _)
          rw [h'.cellAt (i * 3 + t) (by omega), List.getElem?_eq_getElem (by rw [rcells_len]; omega)]
          rfl
        have HF : Hid ((keepL L).length = i ∧ M.take i = keepL L) := ⟨hkl, hk⟩
        clear hk hkl
        go_wp2
        go_ret
        rw [HF.out.1, ← HF.out.2]
        exact ⟨rfl, HE.out.2.2.1.cut hM.symm i (by omega) _, setCells_below hBg _ _ _ _ HE.out.2.2.2⟩
      · have hj1 : j < L.length := by omega
        have hoM : OwnR wr B (.slice (some ⟨g, 0, none⟩) M.length cap) M := by rw [hM]; exact HE.out.2.2.1
        obtain ⟨⟨c0, c1, c2⟩, _⟩ := hoM.at j (by omega)
        obtain ⟨⟨m0, m1, m2⟩, n0, n1, n2⟩ := hoM.at i (by omega)
        have eMj : M[j]'(by omega) = L[j] := by
          have h := congrArg (fun l => l[0]?) HE.out.2.1
          simp only [List.getElem?_drop, Nat.add_zero] at h
          rw [List.getElem?_eq_getElem (by omega), List.getElem?_eq_getElem hj1] at h
          exact Option.some.inj h
        rw [eMj] at c0 c1 c2
        have CE : Hid (∀ w1 : World, Calls Tryz.prog 113 #[.agg #[.string (L[j]).lo, .string (L[j]).hi, .bool (L[j]).op]] w1 fun e w' => e = .returned (.bool (Rg.emp L[j])) ∧ Below w1.heap.size w1 w') := fun w1 => empty_any (L[j]).lo (L[j]).hi (L[j]).op w1
        have hks := keepL_snoc L j hj1
        have HK : Hid (keepL (L.take (j + 1)) = if L[j].emp then keepL (L.take j) else keepL (L.take j) ++ [L[j]]) := hks
        clear hoM hks
        obtain ⟨x, hx⟩ : ∃ x, x = L[j] := ⟨_, rfl⟩
        rw [← hx] at HK CE c0 c1 c2 eMj
        have HX : Hid (x = L[j]) := hx
        clear hx
        cases hem : x.emp
        · rw [hem] at CE HK
          rw [if_neg (by simp)] at HK
          have hBw : B ≤ wr.heap.size := by omega
          have fin : Hid (∀ (o : Obj) (w5 : World), Below (wr.alloc o).heap.size (wr.alloc o) w5 → Below wr.heap.size wr w5 ∧ OwnR w5 B (.slice (some ⟨g, 0, none⟩) M.length cap) M) := by
            intro o w5 hb5
            have hA : Below wr.heap.size wr w5 := ((Below.refl _ _).alloc (Nat.le_refl _) _).trans (hb5.mono (by simp))
            have hoM : OwnR w5 B (.slice (some ⟨g, 0, none⟩) M.length cap) M := by rw [hM]; exact HE.out.2.2.1.kept hA
            exact ⟨hA, hoM⟩
          go_wp2_with (first | (go_at_call 113; refine (CE.out _).mono ?_; rintro e w5 ⟨rfl, hb5⟩; obtain ⟨hx1, hx2⟩ := bcell hb5; obtain ⟨hA, hoM5⟩ := fin.out _ w5 hb5))
          go_roundw
          case rel =>
            refine ⟨i + 1, j + 1, M.set i x, by go_num, by go_num, by omega, by omega, by rw [List.length_set]; exact hM, ?_, ?_, ?_, ?_⟩
            · rw [HK.out, ← HE.out.1, List.take_set, List.take_add_one, List.getElem?_eq_getElem (by omega : i < M.length)]
              rw [List.set_append]
              have hl : (M.take i).length = i := by rw [List.length_take]; omega
              rw [if_neg (by omega), hl, Nat.sub_self]
              rfl
            · rw [List.drop_set_of_lt (by omega), ← List.drop_drop, ← List.drop_drop, HE.out.2.1]
            · have h := hoM5.set i (by omega) x
              rw [hM] at h
              exact h
            · exact ((HE.out.2.2.2.trans (hA.mono hBw)).setCell hBg _).setCell hBg _ |>.setCell hBg _
          case measure => simp [intOf]; omega
        · rw [hem] at CE HK
          rw [if_pos rfl] at HK
          go_wp2_with (first | (go_at_call 113; refine (CE.out _).mono ?_; rintro e w5 ⟨rfl, hb5⟩))
          have hA : Below wr.heap.size wr w5 := ((Below.refl _ _).alloc (Nat.le_refl _) _).trans (hb5.mono (by simp))
          have hBw : B ≤ wr.heap.size := by omega
          go_roundw
          case rel => exact ⟨i, j + 1, M, by go_num, by go_num, by omega, by omega, hM, by rw [HK.out]; exact HE.out.1, by rw [← List.drop_drop, ← List.drop_drop, HE.out.2.1], HE.out.2.2.1.kept hA, HE.out.2.2.2.trans (hA.mono hBw)⟩
          case measure => simp [intOf]; omega

theorem grow_below {B : Nat} {w0 w : World} (h : RowKit.Below B w0 w) (os : Array Obj) (hB : B ≤ w.heap.size) : RowKit.Below B w0 (grow w os) :=
  ⟨h.os, h.tape, h.output, by have := h.size; simp [grow]; omega, fun k hk => by
    rw [← h.block k hk]
    simp only [grow]
    rw [Array.getElem?_append_left (by omega)]⟩

theorem sw_below [Inhabited Rg] {B : Nat} {w0 w : World} (h : RowKit.Below B w0 w) {g : Nat} (hg : B ≤ g) (hw : g < w.heap.size) (n : Nat) (d : Array Rg) (os : Array Obj) : RowKit.Below B w0 (sortWorldK encR 3 w g 0 n d os) := by
  unfold sortWorldK putRowK
  refine grow_below (below_putRow h hg) os ?_
  simp [putRow, mapBlock, Sort.ahead]
  omega

theorem sw_holds [Inhabited Rg] {w : World} {g n : Nat} {d0 d : Array Rg} (os : Array Obj) (h0 : HoldsK encR 3 w g 0 d0) (hs : d.size = d0.size) (hw : g < w.heap.size) : HoldsK encR 3 (sortWorldK encR 3 w g 0 n d os) g 0 d := by
  unfold sortWorldK
  have h1 : HoldsK encR 3 (Sort.ahead w n) g 0 d0 := h0
  exact holdsK_grow encR 3 _ os g 0 d (by simp [putRowK, putRow, mapBlock, Sort.ahead]; exact hw) (holdsK_putRowK encR 3 (Sort.ahead w n) g 0 d0 d h1 hs)

theorem holds_row [Inhabited Rg] {w : World} {g : Nat} {d : Array Rg} (h : HoldsK encR 3 w g 0 d) (hw : g < w.heap.size) : RowR w w.heap.size (some ⟨g, 0, none⟩) d.toList := by
  intro i hi
  have hi' : i < d.size := by simpa using hi
  have hd : d[i]! = d.toList[i] := by simp [getElem!_pos, hi']
  have hc : ∀ t, t < 3 → w.cell? ⟨g, 0 + (i * 3 + t), none⟩ = some ((encR d[i]!)[t]!) := by
    intro t ht
    have h1 := (h (i * 3 + t) (by rw [size_flatK]; omega)).1
    rw [get_flatK encR 3 d (i * 3 + t) (by omega)] at h1
    have e1 : (i * 3 + t) / 3 = i := by omega
    have e2 : (i * 3 + t) % 3 = t := by omega
    rw [e1, e2] at h1
    exact h1
  have h0 := hc 0 (by decide)
  have h1 := hc 1 (by decide)
  have h2 := hc 2 (by decide)
  rw [hd] at h0 h1 h2
  refine ⟨g, 0, rfl, hw, ?_, ?_, ?_⟩
  · exact h0
  · rw [Nat.add_assoc]; exact h1
  · rw [Nat.add_assoc]; exact h2

theorem sorted_rising [Inhabited Rg] {d : Array Rg} (h : SortedIn (ltOf cfR) 0 d.size d) : Rising d.toList := by
  unfold Rising
  rw [List.pairwise_iff_getElem]
  intro i j hi hj hij
  have hi' : i < d.size := by simpa using hi
  have hj' : j < d.size := by simpa using hj
  have h1 := h i j (Nat.zero_le _) hij hj'
  rw [ltOf_cf] at h1
  have e1 : d[i]! = d.toList[i] := by simp [getElem!_pos, hi']
  have e2 : d[j]! = d.toList[j] := by simp [getElem!_pos, hj']
  rw [e1, e2] at h1
  exact h1

theorem perm_mem [Inhabited Rg] {d d' : Array Rg} (h : PermIn 0 d.size d d') (r : Rg) : r ∈ d'.toList ↔ r ∈ d.toList := by
  have h1 := h.2.2
  have e1 : (d.extract 0 d.size).toList = d.toList := by simp
  have e2 : (d'.extract 0 d.size).toList = d'.toList := by rw [← h.1]; simp
  rw [e1, e2] at h1
  exact h1.mem_iff

set_option maxHeartbeats 2000000 in
theorem sorted_any (L : List Rg) (a : Addr) (c : Nat) (w : World) (hR : RowR w w.heap.size (some a) L) (hlen : L.length ≤ 3518437208784) (hc : L.length ≤ c) :
    Calls Tryz.prog 95 #[.slice (some a) L.length c] w fun e w' => ∃ (p : Option Addr) (c' : Nat) (R : List Rg), e = .returned (.slice p R.length c') ∧ RowR w' w'.heap.size p R ∧ Rising R ∧ (∀ r, r ∈ R ↔ r ∈ keepL L) ∧ R.length ≤ L.length ∧ RowKit.Below w.heap.size w w' := by
  haveI : Inhabited Rg := ⟨⟨⟨#[]⟩, ⟨#[]⟩, false⟩⟩
  have C1 : Hid (Calls _ _ _ _ _) := clone_any L a c w hR hlen hc
  clear hR
  go_enter Tryz.func95, Tryz.ntmps95
  go_wp2_with fail
  refine C1.out.mono ?_
  rintro e w1 ⟨v, rfl, hO, hnn, hb1⟩
  have HB1 : Hid (RowKit.Below _ _ _) := hb1
  have hz1 := hb1.size
  clear hb1 C1
  rcases hO.form with ⟨rfl, rfl⟩ | ⟨g, cap, rfl, hg1, hg2⟩
  · exact absurd rfl hnn
  · clear hnn
    have C2 : Hid (∀ x, x = w1 → Calls _ _ _ _ _) := fun x hx => by subst hx; exact deleteF_any L g cap w.heap.size x hO hlen
    have hkl : (keepL L).length ≤ L.length := by unfold keepL; exact List.length_filter_le _ _
    clear hO
    go_wp2_with fail
    refine (C2.out _ rfl).mono ?_
    rintro e w2 ⟨rfl, hO2, hb2⟩
    have hz2 := hb2.size
    have hg3 : g < w2.heap.size := hO2.cap.2.2.2
    have hs0 : (keepL L).toArray.size = (keepL L).length := by simp
    have C3 : Hid (∀ x, x = w2 → Calls _ _ _ _ _) := fun x hx => by subst hx; exact sortR_any g 0 cap (keepL L).toArray x hO2.holds hg3 (by rw [hs0]; omega)
    rw [hs0] at C3
    have HO2 : Hid (HoldsK encR 3 w2 g 0 (keepL L).toArray ∧ RowKit.Below w.heap.size w w2) := ⟨hO2.holds, HB1.out.trans hb2⟩
    clear hO2 hb2
    go_wp2_with fail
    refine (C3.out _ rfl).mono ?_
    rintro e w3 ⟨rfl, d', n, os, hp, hs, rfl⟩
    have hds : d'.size = (keepL L).length := by rw [hp.1]; simp
    have hdl : d'.toList.length = (keepL L).length := hds
    have hH := sw_holds (n := n) os HO2.out.1 (d := d') (by rw [hds]; simp) hg3
    have hB := sw_below HO2.out.2 hg1 hg3 n d' os
    have hsz : g < (sortWorldK encR 3 w2 g 0 n d' os).heap.size := by simp [sortWorldK, putRowK, putRow, mapBlock, Sort.ahead, grow]; omega
    have FIN : Hid (RowR (sortWorldK encR 3 w2 g 0 n d' os) (sortWorldK encR 3 w2 g 0 n d' os).heap.size (some ⟨g, 0, none⟩) d'.toList ∧ Rising d'.toList ∧ (∀ r, r ∈ d'.toList ↔ r ∈ keepL L) ∧ RowKit.Below w.heap.size w (sortWorldK encR 3 w2 g 0 n d' os)) :=
      ⟨holds_row hH hsz, sorted_rising (by rw [hds]; simpa using hs), fun r => by have h := perm_mem (d := (keepL L).toArray) (d' := d') (by simpa using hp) r; simpa using h, hB⟩
    clear hp hs hH hB
    generalize sortWorldK encR 3 w2 g 0 n d' os = w4 at *
    go_wp2
    go_ret
    exact ⟨some ⟨g, 0, none⟩, cap, d'.toList, by rw [hdl]; rfl, FIN.out.1, FIN.out.2.1, FIN.out.2.2.1, by rw [hdl]; exact hkl, FIN.out.2.2.2⟩

theorem OwnR.mono {w : World} {B C : Nat} {v : Value} {L : List Rg} (h : OwnR w B v L) (hb : C ≤ B) : OwnR w C v L := by
  refine ⟨h.1, ?_⟩
  rcases h.2 with h1 | ⟨g, cap, cur, e, hb', r⟩
  · exact .inl h1
  · exact .inr ⟨g, cap, cur, e, Nat.le_trans hb hb', r⟩

theorem foldU_snoc (R : List Rg) (j : Nat) (hj : j < R.length) : (R.take (j + 1)).foldl stepU [] = stepU ((R.take j).foldl stepU []) R[j] := by
  rw [← List.take_append_getElem hj, List.foldl_append]; rfl

theorem stepU_len (U : List Rg) (r : Rg) : (stepU U r).length ≤ U.length + 1 := by
  rcases List.eq_nil_or_concat U with rfl | ⟨V, a, rfl⟩
  · simp [stepU_nil]
  · simp only [List.concat_eq_append]; rw [stepU_snoc]; split <;> simp

theorem foldU_len : ∀ (R U : List Rg), (R.foldl stepU U).length ≤ U.length + R.length
  | [], U => by simp
  | r :: R, U => by
    have h1 := foldU_len R (stepU U r)
    have h2 := stepU_len U r
    simp only [List.foldl_cons, List.length_cons]
    omega

set_option maxHeartbeats 2000000 in
theorem insN_any (fv : Value) (w : World) : Calls Tryz.prog 126 #[.slice none 0 0, .int .i64 0, .int .i64 0, fv] w fun e w' => e = .returned (.tuple #[]) ∧ w' = w := by
  go_enter Tryz.func126, Tryz.ntmps126
  go_wp2
  refine wp_loop_rounds 1 ?_
  rw [rounds_succ]
  go_wp2
  go_end0
  exact ⟨rfl, rfl⟩

set_option maxHeartbeats 2000000 in
theorem pdqN_any (lim : Int) (fv : Value) (w : World) : Calls Tryz.prog 123 #[.slice none 0 0, .int .i64 0, .int .i64 0, .int .i64 lim, fv] w fun e w' => e = .returned (.tuple #[]) ∧ w' = w := by
  have hi := fun W => insN_any fv W
  go_enter Tryz.func123, Tryz.ntmps123
  go_wp2
  refine wp_loop_rounds 1 ?_
  rw [rounds_succ]
  go_wp2_with (go_at_call 126; refine (hi _).mono ?_; rintro e w' ⟨rfl, rfl⟩)
  (try simp only [Exit.inBlock, Exit.then]); refine bodyPost_ret (results_none rfl _ _ _) rfl ?_
  exact ⟨rfl, rfl⟩

set_option maxHeartbeats 2000000 in
theorem lenN_any (w : World) : Calls Tryz.prog 92 #[.int .u64 0] w fun e w' => e = .returned (.int .i64 0) ∧ w' = w := by
  have e0 : Lib.bitLen 0 = 0 := by decide
  have hl : ∀ W, Calls Tryz.prog 109 #[.int .u64 0] W fun e w' => e = .returned (.int .i64 0) ∧ w' = W := fun W => by
    have h := len64_any 0 W (by omega)
    rw [e0] at h
    exact h
  clear e0
  go_enter Tryz.func92, Tryz.ntmps92
  go_wp2_with (first | (go_at_call 109; refine (hl _).mono ?_; rintro e w' ⟨rfl, rfl⟩))
  go_ret
  exact ⟨rfl, rfl⟩

set_option maxHeartbeats 2000000 in
theorem sortN_any (fv : Value) (w : World) : Calls Tryz.prog 114 #[.slice none 0 0, fv] w fun e w' => e = .returned (.tuple #[]) ∧ w' = w := by
  have hp := fun lim W => pdqN_any lim fv W
  have hl := lenN_any
  go_enter Tryz.func114, Tryz.ntmps114
  go_wp2_with (first | (go_at_call 92; refine (hl _).mono ?_; rintro e w' ⟨rfl, rfl⟩) | (go_at_call 123; refine (hp _ _).mono ?_; rintro e w' ⟨rfl, rfl⟩))
  go_end0
  exact ⟨rfl, rfl⟩

set_option maxHeartbeats 2000000 in
theorem cloneN_any (w : World) : Calls Tryz.prog 112 #[.slice none 0 0] w fun e w' => e = .returned (.slice none 0 0) ∧ Below w.heap.size w w' := by
  go_enter Tryz.func112, Tryz.ntmps112
  have hnil := fun w1 : World => Lib.run_eql_slice_nil (P := Tryz.prog) w1 124 84 none 0 0 0 0 Tryz.underlying124
  simp only [Option.isNone_none] at hnil
  go_wp2
  go_ret
  exact ⟨rfl, by go_grown⟩

set_option maxHeartbeats 2000000 in
theorem deleteN_any (w : World) : Calls Tryz.prog 111 #[.slice none 0 0, .func (.func 113) #[] #[]] w fun e w' => e = .returned (.slice none 0 0) ∧ Below w.heap.size w w' := by
  have hi := fun W => indexF_any [] none 0 W (fun i hi => absurd hi (by simp)) (by simp)
  simp only [firstI, List.length_nil, if_true] at hi
  go_enter Tryz.func111, Tryz.ntmps111
  go_wp2_with (first | (go_at_call 122; refine (hi _).mono ?_; rintro e w5 ⟨rfl, hb5⟩))
  go_ret
  exact ⟨rfl, hb5⟩

set_option maxHeartbeats 2000000 in
theorem sortedN_any (w : World) : Calls Tryz.prog 95 #[.slice none 0 0] w fun e w' => e = .returned (.slice none 0 0) ∧ Below w.heap.size w w' := by
  go_enter Tryz.func95, Tryz.ntmps95
  go_wp2_with (first
    | (go_at_call 112; refine (cloneN_any _).mono ?_; rintro e w1 ⟨rfl, hb1⟩)
    | (go_at_call 111; refine (deleteN_any _).mono ?_; rintro e w2 ⟨rfl, hb2⟩)
    | (go_at_call 114; refine (sortN_any _ _).mono ?_; rintro e w3 ⟨rfl, rfl⟩))
  go_ret
  exact ⟨rfl, hb1.trans (hb2.mono hb1.size)⟩

/-- sorted, whatever it is given -/
theorem sorted_all (L : List Rg) (p : Option Addr) (c : Nat) (w : World) (hR : RowR w w.heap.size p L) (hlen : L.length ≤ 3518437208784) (hc : L.length ≤ c) (hp : p = none → c = 0) :
    Calls Tryz.prog 95 #[.slice p L.length c] w fun e w' => ∃ (p : Option Addr) (c' : Nat) (R : List Rg), e = .returned (.slice p R.length c') ∧ RowR w' w'.heap.size p R ∧ Rising R ∧ (∀ r, r ∈ R ↔ r ∈ keepL L) ∧ R.length ≤ L.length ∧ RowKit.Below w.heap.size w w' := by
  cases p with
  | some a => exact sorted_any L a c w hR hlen hc
  | none =>
    obtain rfl := hp rfl
    obtain rfl : L = [] := List.eq_nil_of_length_eq_zero (by omega)
    refine (sortedN_any w).mono ?_
    rintro e w' ⟨rfl, hb⟩
    exact ⟨none, 0, [], rfl, fun i hi => absurd hi (by simp), List.Pairwise.nil, fun r => by simp [keepL], Nat.le_refl _, hb⟩

theorem OwnR.last {w : World} {B g n cap : Nat} {V : List Rg} {a : Rg} (h : OwnR w B (.slice (some ⟨g, 0, none⟩) (n + 1) cap) (V ++ [a])) (hn : V.length = n) :
    (w.cell? ⟨g, n * 3, none⟩ = some (.string a.lo) ∧ w.cell? ⟨g, n * 3 + 1, none⟩ = some (.string a.hi) ∧ w.cell? ⟨g, n * 3 + 2, none⟩ = some (.bool a.op)) ∧
    (w.frozen? ⟨g, n * 3, none⟩ = false ∧ w.frozen? ⟨g, n * 3 + 1, none⟩ = false ∧ w.frozen? ⟨g, n * 3 + 2, none⟩ = false) := by
  subst hn
  have e : (V ++ [a]).length = V.length + 1 := by simp
  rw [← e] at h
  have h1 := h.at V.length (by simp)
  simpa using h1

theorem OwnR.setLast {w : World} {B g n cap : Nat} {V : List Rg} {a : Rg} (h : OwnR w B (.slice (some ⟨g, 0, none⟩) (n + 1) cap) (V ++ [a])) (hn : V.length = n) (r : Rg) :
    OwnR (((w.setCell ⟨g, n * 3, none⟩ (.string r.lo)).setCell ⟨g, n * 3 + 1, none⟩ (.string r.hi)).setCell ⟨g, n * 3 + 2, none⟩ (.bool r.op)) B (.slice (some ⟨g, 0, none⟩) (n + 1) cap) (V ++ [r]) := by
  subst hn
  have e : (V ++ [a]).length = V.length + 1 := by simp
  have h1 := h
  rw [← e] at h1
  have h2 := h1.set V.length (by simp) r
  have e2 : (V ++ [a]).set V.length r = V ++ [r] := by simp
  rw [e2, e] at h2
  exact h2

/-- what is held while a range is joined: the last range's cells, the range's box -/
abbrev S1U (w : World) (g n : Nat) (al ah rl rh : ByteArray) (ao ro : Bool) (w' : World) : Prop :=
  w'.cell? ⟨g, n * 3, none⟩ = some (.string al) ∧ w'.cell? ⟨g, n * 3 + 1, none⟩ = some (.string ah) ∧ w'.cell? ⟨g, n * 3 + 2, none⟩ = some (.bool ao) ∧
  w'.cell? ⟨w.heap.size, 0, none⟩ = some (.string rl) ∧ w'.cell? ⟨w.heap.size, 1, none⟩ = some (.string rh) ∧ w'.cell? ⟨w.heap.size, 2, none⟩ = some (.bool ro) ∧
  w.heap.size + 1 ≤ w'.heap.size ∧ Below w.heap.size w w'

theorem keepS1U {w : World} {g n : Nat} {al ah rl rh : ByteArray} {ao ro : Bool} {B : Nat} {wp w' : World} (hb : Below B wp w') (h : S1U w g n al ah rl rh ao ro wp) (hg : g < w.heap.size) (hB : B = wp.heap.size ∨ w.heap.size + 1 ≤ B) : S1U w g n al ah rl rh ao ro w' := by
  obtain ⟨h1, h2, h3, h4, h5, h6, hz, hw⟩ := h
  have := hb.size
  have hk : w.heap.size + 1 ≤ B := by omega
  have o : ∀ {b o : Nat} {v : Option Value}, b < w.heap.size + 1 → wp.cell? ⟨b, o, none⟩ = v → w'.cell? ⟨b, o, none⟩ = v := fun {b o v} hb' hc => (hb.cell (p := ⟨b, o, none⟩) (by show b < B; omega)).trans hc
  exact ⟨o (by omega) h1, o (by omega) h2, o (by omega) h3, o (by omega) h4, o (by omega) h5, o (by omega) h6, by omega, hw.trans (hb.mono (by omega))⟩

theorem startS1U {w : World} {g n : Nat} {al ah : ByteArray} {ao : Bool} (rl rh : ByteArray) (ro : Bool) (h1 : w.cell? ⟨g, n * 3, none⟩ = some (.string al)) (h2 : w.cell? ⟨g, n * 3 + 1, none⟩ = some (.string ah)) (h3 : w.cell? ⟨g, n * 3 + 2, none⟩ = some (.bool ao)) (hg : g < w.heap.size) :
    S1U w g n al ah rl rh ao ro (w.alloc (.cells #[.string rl, .string rh, .bool ro] 84)).drew := by
  have hb : Below w.heap.size w (w.alloc (.cells #[.string rl, .string rh, .bool ro] 84)).drew := by go_grown
  have o : ∀ {o : Nat} {v : Option Value}, w.cell? ⟨g, o, none⟩ = v → (w.alloc (.cells #[.string rl, .string rh, .bool ro] 84)).drew.cell? ⟨g, o, none⟩ = v := fun {o v} hc => (hb.cell (p := ⟨g, o, none⟩) hg).trans hc
  refine ⟨o h1, o h2, o h3, ?_, ?_, ?_, by simp, hb⟩
  all_goals simp [go_sem]

set_option maxHeartbeats 4000000 in
theorem union_any (L : List Rg) (p : Option Addr) (c : Nat) (w : World) (hR : RowR w w.heap.size p L) (hlen : L.length ≤ 3518437208784) (hc : L.length ≤ c) (hp : p = none → c = 0) :
    Calls Tryz.prog 84 #[.slice p L.length c] w fun e w' => ∃ v R, e = .returned v ∧ OwnR w' w.heap.size v (R.foldl stepU []) ∧ Rising R ∧ (∀ r, r ∈ R ↔ r ∈ keepL L) ∧ R.length ≤ L.length ∧ Below w.heap.size w w' := by
  have C1 : Hid (Calls _ _ _ _ _) := sorted_all L p c w hR hlen hc hp
  clear hR
  go_enter Tryz.func84, Tryz.ntmps84
  go_wp2_with fail
  refine C1.out.mono ?_
  rintro e w1 ⟨p1, c1, R, rfl, hR, hrise, hmem, hl, hb1⟩
  have HB1 : Hid (Below _ _ _) := hb1
  have HF : Hid (Rising R ∧ (∀ r, r ∈ R ↔ r ∈ keepL L)) := ⟨hrise, hmem⟩
  have HA : Hid (RowR _ _ _ _) := hR
  have hz1 := hb1.size
  clear C1 hR hrise hmem hb1
  go_wp2_with fail
  go_loopw [3, 10] (fun u i wr => ∃ j : Nat, j ≤ R.length ∧ i = .int .i64 (j : Int) ∧ Hid (OwnR wr w1.heap.size u ((R.take j).foldl stepU [])) ∧ Below w1.heap.size w1 wr) (fun _ i _ => R.length - (intOf i).toNat)
  case atStart => exact ⟨0, Nat.zero_le _, by go_num, OwnR.nil _ _, by go_grown⟩
  case round =>
    obtain ⟨j, hj, rfl, hO, hn⟩ := hrel
    by_cases hj0 : j = R.length
    · subst hj0
      rw [List.take_length] at hO
      go_wp2
      go_ret
      exact ⟨_, R, rfl, hO.out.mono (by omega), HF.out.1, HF.out.2, hl, HB1.out.trans (hn.mono hz1)⟩
    · have hj1 : j < R.length := by omega
      obtain ⟨b, o, rfl, hbB, d0, d1, d2⟩ := HA.out j hj1
      have a0 := (hn.cell (p := ⟨b, o + j * 3, none⟩) hbB).trans d0
      have a1 := (hn.cell (p := ⟨b, o + j * 3 + 1, none⟩) hbB).trans d1
      have a2 := (hn.cell (p := ⟨b, o + j * 3 + 2, none⟩) hbB).trans d2
      have HS : Hid ((R.take (j + 1)).foldl stepU [] = stepU ((R.take j).foldl stepU []) R[j]) := foldU_snoc R j hj1
      have hul := foldU_len (R.take j) []
      simp only [List.length_nil, Nat.zero_add, List.length_take] at hul
      generalize (R.take j).foldl stepU [] = U at *
      generalize R[j] = r at *
      obtain ⟨rl, rh, ro⟩ := r
      dsimp only at a0 a1 a2
      rcases List.eq_nil_or_concat U with rfl | ⟨V, a, rfl⟩
      · rw [stepU_nil] at HS
        have CP : Hid (∀ w1 : World, Calls Tryz.prog 98 #[.agg #[.string rl, .string rh, .bool ro]] w1 fun e w' => e = .returned (.agg #[.string (Rg.pl ⟨rl, rh, ro⟩).lo, .string (Rg.pl ⟨rl, rh, ro⟩).hi, .bool (Rg.pl ⟨rl, rh, ro⟩).op]) ∧ Below w1.heap.size w1 w') := fun w1 => plainR_any ⟨rl, rh, ro⟩ w1
        generalize Rg.pl ⟨rl, rh, ro⟩ = q at *
        obtain ⟨ql, qh, qo⟩ := q
        dsimp only at CP
        rcases hO.out.form with ⟨rfl, _⟩ | ⟨g, cap, rfl, hg1, hg2⟩
        · skip
          go_wp2_with fail
          go_quiet (fail)
          have hq : Below wr.heap.size wr ((wr.alloc (Obj.cells #[Value.string rl, Value.string rh, Value.bool ro] 84)).drewN nq) := (show Below wr.heap.size wr (wr.alloc (Obj.cells #[Value.string rl, Value.string rh, Value.bool ro] 84)) by go_grown).trans (below_drewN (Below.refl _ _) nq)
          go_wp2_with (first | (go_at_call 98; refine (CP.out _).mono ?_; rintro e w5 ⟨rfl, hb5⟩; have hq5 := hq.trans (hb5.mono hq.size)) | (at_builtin; refine wpList_appR _ rfl (.tmp 36) _ rfl w1.heap.size _ _ rfl (hO.out.kept (hq5)) ⟨ql, qh, qo⟩ _ rfl (by simp) (by simp only [List.length_nil]; omega) (by have := hb5.size; have := hn.size; simp at *; omega) ?_; intro v6 w6 h6 h7))
          go_roundw
          case rel => exact ⟨j + 1, hj1, by go_num, (show OwnR _ _ _ _ by rw [HS.out]; exact h6), (hn.trans (hq5.mono hn.size)).trans h7⟩
          case measure => simp [intOf]; omega
        · skip
          go_wp2_with fail
          go_quiet (fail)
          have hq : Below wr.heap.size wr ((wr.alloc (Obj.cells #[Value.string rl, Value.string rh, Value.bool ro] 84)).drewN nq) := (show Below wr.heap.size wr (wr.alloc (Obj.cells #[Value.string rl, Value.string rh, Value.bool ro] 84)) by go_grown).trans (below_drewN (Below.refl _ _) nq)
          go_wp2_with (first | (go_at_call 98; refine (CP.out _).mono ?_; rintro e w5 ⟨rfl, hb5⟩; have hq5 := hq.trans (hb5.mono hq.size)) | (at_builtin; refine wpList_appR _ rfl (.tmp 36) _ rfl w1.heap.size _ _ rfl (hO.out.kept (hq5)) ⟨ql, qh, qo⟩ _ rfl (by simp) (by simp only [List.length_nil]; omega) (by have := hb5.size; have := hn.size; simp at *; omega) ?_; intro v6 w6 h6 h7))
          go_roundw
          case rel => exact ⟨j + 1, hj1, by go_num, (show OwnR _ _ _ _ by rw [HS.out]; exact h6), (hn.trans (hq5.mono hn.size)).trans h7⟩
          case measure => simp [intOf]; omega
      · obtain ⟨al, ah, ao⟩ := a
        simp only [List.concat_eq_append] at *
        rcases hO.out.form with ⟨rfl, h0⟩ | ⟨g, cap, rfl, hg1, hg2⟩
        · simp at h0
        · obtain ⟨n, hVn⟩ : ∃ n, V.length = n := ⟨_, rfl⟩
          have hVl : (V ++ [(⟨al, ah, ao⟩ : Rg)]).length = n + 1 := by simp [hVn]
          rw [hVl] at hO hul
          have hV := hO.out.last hVn
          dsimp only at hV
          have CT : Hid (∀ w1 : World, Calls _ _ _ _ _) := fun w1 => touches_any ⟨al, ah, ao⟩ ⟨rl, rh, ro⟩ w1
          obtain ⟨⟨b0, b1, b2⟩, f0, f1, f2⟩ := hV
          have n0 : (0 : Int) ≤ (n : Int) := by omega
          have n1 : (n : Int) < (n : Int) + 1 := by omega
          rw [stepU_snoc] at HS
          have CJ : Hid (∀ w1 : World, Calls Tryz.prog 97 #[.agg #[.string al, .string ah, .bool ao], .agg #[.string rl, .string rh, .bool ro]] w1 fun e w' => e = .returned (.agg #[.string (joinR ⟨al, ah, ao⟩ ⟨rl, rh, ro⟩).lo, .string (joinR ⟨al, ah, ao⟩ ⟨rl, rh, ro⟩).hi, .bool (joinR ⟨al, ah, ao⟩ ⟨rl, rh, ro⟩).op]) ∧ Below w1.heap.size w1 w') := fun w1 => joined_any ⟨al, ah, ao⟩ ⟨rl, rh, ro⟩ w1
          have CP : Hid (∀ w1 : World, Calls Tryz.prog 98 #[.agg #[.string rl, .string rh, .bool ro]] w1 fun e w' => e = .returned (.agg #[.string (Rg.pl ⟨rl, rh, ro⟩).lo, .string (Rg.pl ⟨rl, rh, ro⟩).hi, .bool (Rg.pl ⟨rl, rh, ro⟩).op]) ∧ Below w1.heap.size w1 w') := fun w1 => plainR_any ⟨rl, rh, ro⟩ w1
          generalize touchB ⟨al, ah, ao⟩ ⟨rl, rh, ro⟩ = tb at *
          cases tb
          · simp only [Bool.false_eq_true, if_false] at HS
            clear CJ
            generalize Rg.pl ⟨rl, rh, ro⟩ = q at *
            obtain ⟨ql, qh, qo⟩ := q
            dsimp only at CP
            go_wp2_with fail
            go_region_held3 (fun w' => S1U wr g n al ah rl rh ao ro w') (first | exact startS1U rl rh ro b0 b1 b2 hg2 | (apply keepS1U; assumption; assumption; exact hg2; first | exact Or.inl rfl | exact Or.inr (Nat.le_refl _) | exact Or.inr (by simp))) (first | (go_at_call 96; refine (CT.out _).mono ?_; rintro e w' ⟨rfl, hb⟩))
            have hS : S1U wr g n al ah rl rh ao ro w' := by assumption
            obtain ⟨e0, e1, e2, x0, x1, x2, hz, hbw⟩ := hS
            go_wp2_with (first | (go_at_call 98; refine (CP.out _).mono ?_; rintro e w5 ⟨rfl, hb5⟩; have hq5 := hbw.trans (hb5.mono hbw.size)) | (at_builtin; refine wpList_appR _ rfl (.tmp 36) _ rfl w1.heap.size _ _ rfl (hO.out.kept (hq5)) ⟨ql, qh, qo⟩ _ rfl (by simp) (by simp only [List.length_append, List.length_singleton]; omega) (by have := hb5.size; have := hn.size; simp at *; omega) ?_; intro v6 w6 h6 h7))
            go_roundw
            case rel => exact ⟨j + 1, hj1, by go_num, (show OwnR _ _ _ _ by rw [HS.out]; exact h6), (hn.trans (hq5.mono hn.size)).trans h7⟩
            case measure => simp [intOf]; omega
          · simp only [if_true] at HS
            clear CP
            generalize joinR ⟨al, ah, ao⟩ ⟨rl, rh, ro⟩ = q at *
            obtain ⟨ql, qh, qo⟩ := q
            dsimp only at CJ
            go_wp2_with fail
            go_region_held3 (fun w' => S1U wr g n al ah rl rh ao ro w') (first | exact startS1U rl rh ro b0 b1 b2 hg2 | (apply keepS1U; assumption; assumption; exact hg2; first | exact Or.inl rfl | exact Or.inr (Nat.le_refl _) | exact Or.inr (by simp))) (first | (go_at_call 96; refine (CT.out _).mono ?_; rintro e w' ⟨rfl, hb⟩))
            have hS : S1U wr g n al ah rl rh ao ro w' := by assumption
            obtain ⟨e0, e1, e2, x0, x1, x2, hz, hbw⟩ := hS
            have k0 := (hbw.frozen (p := ⟨g, n * 3, none⟩) hg2).trans f0
            have k1 := (hbw.frozen (p := ⟨g, n * 3 + 1, none⟩) hg2).trans f1
            have k2 := (hbw.frozen (p := ⟨g, n * 3 + 2, none⟩) hg2).trans f2
            go_wp2_with fail
            go_region_with (go_at_call 97; refine (CJ.out _).mono ?_; rintro e w7 ⟨rfl, hb7⟩; have hq7 : Below wr.heap.size wr w7 := (by first | exact hbw.trans (hb7.mono hbw.size) | exact hbw.drew.trans (hb7.mono hbw.size)); have l0 := (hb7.cell (p := ⟨g, n * 3, none⟩) (by show g < _; simp; omega)).trans e0; have l1 := (hb7.cell (p := ⟨g, n * 3 + 1, none⟩) (by show g < _; simp; omega)).trans e1; have l2 := (hb7.cell (p := ⟨g, n * 3 + 2, none⟩) (by show g < _; simp; omega)).trans e2; have m0 := (hb7.frozen (p := ⟨g, n * 3, none⟩) (by show g < _; simp; omega)).trans k0; have m1 := (hb7.frozen (p := ⟨g, n * 3 + 1, none⟩) (by show g < _; simp; omega)).trans k1; have m2 := (hb7.frozen (p := ⟨g, n * 3 + 2, none⟩) (by show g < _; simp; omega)).trans k2)
            all_goals
              have hq8 : OwnR _ _ _ _ := (hO.out.kept hq7).setLast hVn ⟨ql, qh, qo⟩
              go_wp2_with fail
              go_roundw
              case rel => exact ⟨j + 1, hj1, by go_num, (show OwnR _ _ _ _ by rw [HS.out]; exact hq8), (((hn.trans (hq7.mono hn.size)).setCell hg1 _).setCell hg1 _).setCell hg1 _⟩
              case measure => simp [intOf]; omega

end Go.Proofs.YtcknhjabdjbjiabGreat

namespace Go.Proofs.YtcknhjabdjbjiabGreat
open Go.Shelf Go.RowKit Go.Lib Go.Sort
set_option maxRecDepth 100000

structure Pt where
  t : Int
  i : Int
  k : ByteArray
  deriving DecidableEq


def encP (r : Pt) : List Value := [.int .i64 r.t, .int .i64 r.i, .string r.k]

theorem info_P : (Tryz.prog.info? 36).map (fun i => (i.zero, i.size, i.bytes)) = some (some (.agg #[.int .i64 0, .int .i64 0, .string ⟨#[]⟩]), 3, 32) := by kernel_rfl

def pcells (L : List Pt) : List Value := L.flatMap encP

theorem pcells_cons (r : Pt) (L : List Pt) : pcells (r :: L) = .int .i64 r.t :: .int .i64 r.i :: .string r.k :: pcells L := rfl

theorem pcells_len (L : List Pt) : (pcells L).length = L.length * 3 := by
  induction L with
  | nil => rfl
  | cons v L ih => rw [pcells_cons]; simp only [List.length_cons]; rw [ih]; omega

theorem pcells_append (a b : List Pt) : pcells (a ++ b) = pcells a ++ pcells b := by simp [pcells]

theorem pcells_at : ∀ (L : List Pt) (i : Nat) (hi : i < L.length), (pcells L)[i * 3]? = some (.int .i64 L[i].t) ∧ (pcells L)[i * 3 + 1]? = some (.int .i64 L[i].i) ∧ (pcells L)[i * 3 + 2]? = some (.string L[i].k)
  | [], i, hi => by simp at hi
  | r :: L, 0, _ => ⟨rfl, rfl, rfl⟩
  | r :: L, i + 1, hi => by
    have h := pcells_at L i (by simpa using hi)
    have e : (i + 1) * 3 = i * 3 + 3 := by omega
    rw [pcells_cons, e]
    exact h

theorem pcells_set : ∀ (L : List Pt) (i : Nat) (r : Pt), i < L.length → pcells (L.set i r) = (((pcells L).set (i * 3) (.int .i64 r.t)).set (i * 3 + 1) (.int .i64 r.i)).set (i * 3 + 2) (.string r.k)
  | [], i, r, hi => by simp at hi
  | v :: L, 0, r, _ => rfl
  | v :: L, i + 1, r, hi => by
    have h := pcells_set L i r (by simpa using hi)
    have e : (i + 1) * 3 = i * 3 + 3 := by omega
    rw [List.set_cons_succ, pcells_cons, pcells_cons, e, h]
    rfl

/-- the slice v owns these, in a block of number B or more -/
def OwnP (w : World) (B : Nat) (v : Value) (L : List Pt) : Prop := w.ownsRow B 36 3 v L.length (pcells L)

theorem OwnP.nil (w : World) (B : Nat) : OwnP w B (.slice none 0 0) [] := World.ownsRow_nil w B _ _

theorem OwnP.mono {w : World} {B C : Nat} {v : Value} {L : List Pt} (h : OwnP w B v L) (hb : C ≤ B) : OwnP w C v L := by
  refine ⟨h.1, ?_⟩
  rcases h.2 with h1 | ⟨g, cap, cur, e, hb', r⟩
  · exact .inl h1
  · exact .inr ⟨g, cap, cur, e, Nat.le_trans hb hb', r⟩

theorem OwnP.kept {w w' : World} {B : Nat} {v : Value} {L : List Pt} (h : OwnP w B v L) (hb : Below w.heap.size w w') : OwnP w' B v L := by
  refine ⟨h.1, ?_⟩
  rcases h.2 with h1 | ⟨g, cap, cur, e, hb', hg, r⟩
  · exact .inl h1
  · exact .inr ⟨g, cap, cur, e, hb', (hb.block g (Array.getElem?_eq_some_iff.1 hg).1).trans hg, r⟩

theorem OwnP.form {w : World} {B : Nat} {v : Value} {L : List Pt} (h : OwnP w B v L) : (v = .slice none 0 0 ∧ L = []) ∨ ∃ g cap, v = .slice (some ⟨g, 0, none⟩) L.length cap ∧ B ≤ g ∧ g < w.heap.size := by
  rcases h.2 with ⟨h1, h2⟩ | ⟨g, cap, cur, e, hb, hg, _⟩
  · exact .inl ⟨h1, List.eq_nil_of_length_eq_zero h2⟩
  · exact .inr ⟨g, cap, e, hb, (Array.getElem?_eq_some_iff.1 hg).1⟩

theorem OwnP.at {w : World} {B g cap : Nat} {L : List Pt} (h : OwnP w B (.slice (some ⟨g, 0, none⟩) L.length cap) L) (i : Nat) (hi : i < L.length) :
    (w.cell? ⟨g, i * 3, none⟩ = some (.int .i64 L[i].t) ∧ w.cell? ⟨g, i * 3 + 1, none⟩ = some (.int .i64 L[i].i) ∧ w.cell? ⟨g, i * 3 + 2, none⟩ = some (.string L[i].k)) ∧
    (w.frozen? ⟨g, i * 3, none⟩ = false ∧ w.frozen? ⟨g, i * 3 + 1, none⟩ = false ∧ w.frozen? ⟨g, i * 3 + 2, none⟩ = false) := by
  obtain ⟨a0, a1, a2⟩ := pcells_at L i hi
  have h' : w.ownsRow B 36 3 (.slice (some ⟨g, 0, none⟩) L.length cap) L.length (pcells L) := h
  exact ⟨⟨(h'.cellAt (i * 3) (by omega)).trans a0, (h'.cellAt (i * 3 + 1) (by omega)).trans a1, (h'.cellAt (i * 3 + 2) (by omega)).trans a2⟩, h'.frozenAt _, h'.frozenAt _, h'.frozenAt _⟩

/-- 's[i] = r' -/
theorem OwnP.set {w : World} {B g cap : Nat} {L : List Pt} (h : OwnP w B (.slice (some ⟨g, 0, none⟩) L.length cap) L) (i : Nat) (hi : i < L.length) (r : Pt) :
    OwnP ((((w).setCell ⟨g, i * 3, none⟩ (.int .i64 r.t)).setCell ⟨g, i * 3 + 1, none⟩ (.int .i64 r.i)).setCell ⟨g, i * 3 + 2, none⟩ (.string r.k)) B (.slice (some ⟨g, 0, none⟩) L.length cap) (L.set i r) := by
  have h' : w.ownsRow B 36 3 (.slice (some ⟨g, 0, none⟩) L.length cap) L.length (pcells L) := h
  have h3 := (((h'.stored (i * 3) (.int .i64 r.t)).1.stored (i * 3 + 1) (.int .i64 r.i)).1.stored (i * 3 + 2) (.string r.k)).1
  unfold OwnP
  rw [List.length_set, pcells_set L i r hi]
  exact h3

/-- 'append(l, r)' -/
theorem wpList_appP {ops : Array Oper} {rest : List Oper} {o : Oper} {a : Act} {Q : Exit → Act → World → Prop} (w : World) (hgd : o.guard = none) (s x : Operand)
    (ho : o.op = .call { callee := .builtin .append, args := #[s, x], argTypes := #[24, 24] })
    (B : Nat) (v : Value) (L : List Pt) (hs : a.eval s = v) (hown : OwnP w B v L)
    (u : Pt) (g : Nat) (hx : a.eval x = .slice (some ⟨g, 0, none⟩) 1 1) (hgz : g = w.heap.size)
    (hlen : L.length + 1 ≤ 4398046511104) (hbase : B ≤ w.heap.size)
    (h : ∀ v' w', OwnP w' B v' (L ++ [u]) → Below B w w' → wpList Tryz.prog ops Q rest (a.put o.dst v') w') : wpList Tryz.prog ops Q (o :: rest) a (w.alloc (.cells #[.int .i64 u.t, .int .i64 u.i, .string u.k] 36)) := by
  obtain ⟨i, hi, hz0, hz1, hz2⟩ := info_parts info_P
  subst hgz
  have hown' : OwnP (w.alloc (.cells #[.int .i64 u.t, .int .i64 u.i, .string u.k] 36)) B v L := hown.kept ((Below.refl _ _).alloc (Nat.le_refl _) _)
  refine wpList_append_own _ hgd s x 24 ho B 36 i (.agg #[.int .i64 0, .int .i64 0, .string ⟨#[]⟩]) 3 32 Tryz.underlying24 hi hz0 hz1 hz2 rfl (by decide) v L.length (pcells L) hs hown' ⟨w.heap.size, 0, none⟩ 1 1 (pcells [u]) hx rfl ?_ ?_ (by unfold maxLen; omega) (by omega) (by simp; omega) ?_
  · intro j y hj
    have hj' : j < 3 := by
      have := (List.getElem?_eq_some_iff.1 hj).1
      simpa [pcells, encP] using this
    have e : (⟨w.heap.size, 0, none⟩ : Addr).add j = ⟨w.heap.size, j, none⟩ := by unfold Addr.add; split <;> simp_all
    rw [e]
    have h4 : j = 0 ∨ j = 1 ∨ j = 2 := by omega
    rcases h4 with rfl | rfl | rfl <;> (simp [pcells, encP] at hj; subst hj; simp [go_sem])
  · intro y hy
    simp [pcells, encP] at hy
    rcases hy with rfl | rfl | rfl <;> rfl
  · intro v' w' h1 h2 _
    refine h v' w' ?_ ?_
    · unfold OwnP
      rw [pcells_append, List.length_append]
      exact h1
    · exact ((Below.refl _ _).alloc hbase _).grown h2 (by simp; omega) (fun k hk => (hown'.lt k hk).1)

/-- what is owned, in the sort's words -/
theorem OwnP.holds [Inhabited Pt] {w : World} {B g cap : Nat} {L : List Pt} (h : OwnP w B (.slice (some ⟨g, 0, none⟩) L.length cap) L) : HoldsK encP 3 w g 0 L.toArray := by
  intro j hj
  rw [size_flatK] at hj
  have hj' : j < L.length * 3 := by simpa using hj
  rw [get_flatK encP 3 L.toArray j hj, Nat.zero_add]
  have hi : j / 3 < L.length := by omega
  obtain ⟨⟨c0, c1, c2⟩, f0, f1, f2⟩ := h.at (j / 3) hi
  have eL : L.toArray[j / 3]! = L[j / 3] := by simp [getElem!_pos, hi]
  rw [eL]
  have h3 : j % 3 = 0 ∨ j % 3 = 1 ∨ j % 3 = 2 := by omega
  rcases h3 with e | e | e
  · have ej : j = j / 3 * 3 := by omega
    rw [e]
    rw [← ej] at c0 f0
    exact ⟨c0, f0⟩
  · have ej : j = j / 3 * 3 + 1 := by omega
    rw [e]
    rw [← ej] at c1 f1
    exact ⟨c1, f1⟩
  · have ej : j = j / 3 * 3 + 2 := by omega
    rw [e]
    rw [← ej] at c2 f2
    exact ⟨c2, f2⟩

/-- the slice at p holds these, in a block below B -/
def RowP (w : World) (B : Nat) (p : Option Addr) (L : List Pt) : Prop := ∀ i (hi : i < L.length), ∃ b o, p = some ⟨b, o, none⟩ ∧ b < B ∧
  w.cell? ⟨b, o + i * 3, none⟩ = some (.int .i64 L[i].t) ∧ w.cell? ⟨b, o + i * 3 + 1, none⟩ = some (.int .i64 L[i].i) ∧ w.cell? ⟨b, o + i * 3 + 2, none⟩ = some (.string L[i].k)

theorem RowP.keep {w w' : World} {B : Nat} {p : Option Addr} {L : List Pt} (h : RowP w B p L) (hb : Below B w w') : RowP w' B p L := by
  intro i hi
  obtain ⟨b, o, e, hbB, c0, c1, c2⟩ := h i hi
  have k : ∀ {o : Nat} {v : Option Value}, w.cell? ⟨b, o, none⟩ = v → w'.cell? ⟨b, o, none⟩ = v := fun {o v} hc => (hb.cell (p := ⟨b, o, none⟩) hbB).trans hc
  exact ⟨b, o, e, hbB, k c0, k c1, k c2⟩

theorem RowP.mono {w : World} {B C : Nat} {p : Option Addr} {L : List Pt} (h : RowP w B p L) (hb : B ≤ C) : RowP w C p L := by
  intro i hi
  obtain ⟨b, o, e, hbB, r⟩ := h i hi
  exact ⟨b, o, e, Nat.lt_of_lt_of_le hbB hb, r⟩

theorem RowP.on {w w' : World} {p : Option Addr} {L : List Pt} (h : RowP w w.heap.size p L) (hb : Below w.heap.size w w') : RowP w' w'.heap.size p L := (h.keep hb).mono hb.size

theorem OwnP.row {w : World} {B : Nat} {v : Value} {L : List Pt} (h : OwnP w B v L) : ∃ (p : Option Addr) (c : Nat), v = .slice p L.length c ∧ RowP w w.heap.size p L := by
  rcases h.form with ⟨rfl, rfl⟩ | ⟨g, cap, rfl, _, hg⟩
  · exact ⟨none, 0, rfl, fun i hi => absurd hi (by simp)⟩
  · refine ⟨_, cap, rfl, fun i hi => ?_⟩
    obtain ⟨⟨c0, c1, c2⟩, _⟩ := h.at i hi
    exact ⟨g, 0, rfl, hg, by rw [Nat.zero_add]; exact c0, by rw [Nat.zero_add]; exact c1, by rw [Nat.zero_add]; exact c2⟩

theorem pcells_get (L : List Pt) (j : Nat) (hj : j < L.length * 3) : (pcells L)[j]? = (encP (L[j / 3]'(by omega)))[j % 3]? := by
  have hi : j / 3 < L.length := by omega
  obtain ⟨a0, a1, a2⟩ := pcells_at L (j / 3) hi
  have h3 : j % 3 = 0 ∨ j % 3 = 1 ∨ j % 3 = 2 := by omega
  rcases h3 with e | e | e
  · have ej : j / 3 * 3 = j := by omega
    rw [e]; rw [ej] at a0; exact a0
  · have ej : j / 3 * 3 + 1 = j := by omega
    rw [e]; rw [ej] at a1; exact a1
  · have ej : j / 3 * 3 + 2 = j := by omega
    rw [e]; rw [ej] at a2; exact a2

theorem RowP.cells {w : World} {B b o : Nat} {L : List Pt} (h : RowP w B (some ⟨b, o, none⟩) L) : ∀ j y, (pcells L)[j]? = some y → w.cell? ((⟨b, o, none⟩ : Addr).add j) = some y := by
  intro j y hj
  have hl : j < L.length * 3 := by have := (List.getElem?_eq_some_iff.1 hj).1; rw [pcells_len] at this; exact this
  have e : (⟨b, o, none⟩ : Addr).add j = ⟨b, o + j, none⟩ := by unfold Addr.add; split <;> simp_all
  rw [e]
  obtain ⟨b', o', e', _, c0, c1, c2⟩ := h (j / 3) (by omega)
  injection e' with e'
  injection e' with e1 e2
  subst e1 e2
  rw [pcells_get L j hl] at hj
  have h3 : j % 3 = 0 ∨ j % 3 = 1 ∨ j % 3 = 2 := by omega
  rcases h3 with e | e | e
  · have ej : o + j = o + j / 3 * 3 := by omega
    rw [e] at hj; rw [ej, c0]; exact hj
  · have ej : o + j = o + j / 3 * 3 + 1 := by omega
    rw [e] at hj; rw [ej, c1]; exact hj
  · have ej : o + j = o + j / 3 * 3 + 2 := by omega
    rw [e] at hj; rw [ej, c2]; exact hj

theorem pcells_one (L : List Pt) : ∀ y ∈ pcells L, y.oneCell' = true := by
  intro y hy
  simp only [pcells, List.mem_flatMap, encP] at hy
  obtain ⟨r, _, h⟩ := hy
  simp at h
  rcases h with rfl | rfl | rfl <;> rfl

theorem RowP.cellsA {w : World} {B : Nat} {a : Addr} {L : List Pt} (h : RowP w B (some a) L) : ∀ j y, (pcells L)[j]? = some y → w.cell? (a.add j) = some y := by
  match L, h with
  | [], _ => intro j y hj; simp [pcells] at hj
  | r :: L, h =>
    obtain ⟨b, o, e, _⟩ := h 0 (by simp)
    injection e with e
    subst e
    exact h.cells

set_option maxHeartbeats 2000000 in
theorem cloneP_any (L : List Pt) (a : Addr) (c : Nat) (w : World) (hR : RowP w w.heap.size (some a) L) (hlen : L.length ≤ 4398046511104) (_hc : L.length ≤ c) :
    Calls Tryz.prog 46 #[.slice (some a) L.length c] w fun e w' => ∃ v, e = .returned v ∧ OwnP w' w.heap.size v L ∧ (¬ v = .slice none 0 0) ∧ Below w.heap.size w w' := by
  have HR : Hid (RowP _ _ _ _) := hR
  clear hR
  go_enter Tryz.func46, Tryz.ntmps46
  have hnil := fun w1 : World => Lib.run_eql_slice_nil (P := Tryz.prog) w1 24 36 (some a) L.length c 0 0 Tryz.underlying24
  simp only [Option.isNone_some] at hnil
  obtain ⟨i, hi, hz0, hz1, hz2⟩ := info_parts info_P
  go_wp2_with (first | (at_builtin; refine wpList_append_own _ rfl (.tmp 5) (.tmp 6) 24 rfl w.heap.size 36 i (.agg #[.int .i64 0, .int .i64 0, .string ⟨#[]⟩]) 3 32 Tryz.underlying24 hi hz0 hz1 hz2 rfl (by decide) _ 0 [] rfl ?own a L.length c (pcells L) rfl (pcells_len L) ?cells (pcells_one L) ?mx ?byt ?base ?_))
  case own => exact World.ownsRow_lit w #[] 0 (Nat.le_refl _) (Nat.zero_le _) rfl
  case cells => exact (HR.out.keep ((Below.refl _ _).alloc (Nat.le_refl _) _)).cellsA
  case mx => unfold maxLen; omega
  case byt => omega
  case base => simp
  intro v1 w1 h1 h2 h9
  have hnn : ¬ v1 = .slice none 0 0 := h9
  have hown : OwnP w1 w.heap.size v1 L := by
    unfold OwnP
    simpa using h1
  have hb : Below w.heap.size w w1 := ((Below.refl _ _).alloc (Nat.le_refl _) _).grown h2 (by simp) (fun k hk => by simp [Value.ownBlock] at hk; omega)
  clear h1 h2 h9
  have HN : Hid (¬ v1 = .slice none 0 0) := hnn
  clear hnn
  go_wp2
  go_ret
  exact ⟨_, rfl, hown, HN.out, hb⟩

theorem clonePN_any (w : World) : Calls Tryz.prog 46 #[.slice none 0 0] w fun e w' => e = .returned (.slice none 0 0) ∧ Below w.heap.size w w' := by
  have hnil := fun w1 : World => Lib.run_eql_slice_nil (P := Tryz.prog) w1 24 36 none 0 0 0 0 Tryz.underlying24
  simp only [Option.isNone_none] at hnil
  go_enter Tryz.func46, Tryz.ntmps46
  go_wp2
  go_ret
  exact ⟨rfl, Below.refl _ _⟩

theorem pcells_take (L : List Pt) (k : Nat) : pcells (L.take k) = (pcells L).take (k * 3) := by
  induction L generalizing k with
  | nil => simp [pcells]
  | cons r L ih =>
    cases k with
    | zero => simp [pcells]
    | succ k =>
      have e : (k + 1) * 3 = k * 3 + 1 + 1 + 1 := by omega
      rw [List.take_succ_cons, pcells_cons, pcells_cons, e, List.take_succ_cons, List.take_succ_cons, List.take_succ_cons, ih]

/-- the row cut to its first ones, whatever is laid behind them -/
theorem OwnP.cut {w : World} {B g cap n : Nat} {M : List Pt} (h : OwnP w B (.slice (some ⟨g, 0, none⟩) n cap) M) (hn : n = M.length) (k : Nat) (hk : k ≤ n) (vs : List Value) :
    OwnP (w.setCells g (k * 3) vs) B (.slice (some ⟨g, 0, none⟩) k cap) (M.take k) := by
  have hl : (M.take k).length = k := by rw [List.length_take]; omega
  rcases h.2 with ⟨h1, _⟩ | ⟨g', cap', cur, e, hb, hg, hn1, hm, hs, ht⟩
  · cases h1
  · injection e with e1 e2 e3
    injection e1 with e1
    injection e1 with e1
    subst e1 e3
    obtain ⟨cur', c1, c2, c3⟩ := setCells_row g 36 vs (k * 3) w cur hg
    refine ⟨by rw [pcells_len], .inr ⟨g, cap, cur', by rw [hl], hb, c1, by omega, hm, by rw [c2]; exact hs, ?_⟩⟩
    rw [hl, pcells_take, ← ht, List.take_take]
    have hmin : min (k * 3) (M.length * 3) = k * 3 := by omega
    rw [hmin]
    apply List.ext_getElem?
    intro j
    rw [List.getElem?_take, List.getElem?_take]
    split
    · rename_i hj
      rw [Array.getElem?_toList, Array.getElem?_toList, c3 j hj]
    · rfl

def zeroP (n : Nat) : List Value := (Builtin.zeroCells #[.int .i64 0, .int .i64 0, .string ⟨#[]⟩] n).toList

theorem zeroP_len (n : Nat) : (zeroP n).length = n * 3 := by simp [zeroP, Builtin.zeroCells]

theorem zeroP_one (n : Nat) : ∀ v ∈ zeroP n, v.oneCell' = true := by
  intro v hv
  simp [zeroP, Builtin.zeroCells] at hv
  obtain ⟨j, _, rfl⟩ := hv
  have h3 : j % 3 = 0 ∨ j % 3 = 1 ∨ j % 3 = 2 := by omega
  rcases h3 with e | e | e <;> simp [e] <;> rfl

theorem run_clearP (w : World) (ty : TypeId) (b o n c : Nat) (hn : 0 < n) (hc : ∀ j, j < n * 3 → (w.cell? ⟨b, o + j, none⟩).isSome = true) (hf : ∀ j, j < n * 3 → w.frozen? ⟨b, o + j, none⟩ = false) :
    (Builtin.clear_ #[24] ty #[.slice (some ⟨b, o, none⟩) n c]).run Tryz.prog w = .ok (.tuple #[]) (w.setCells b o (zeroP n)) := by
  have hst := run_storeCells_cells (P := Tryz.prog) b o (zeroP n) 0 w (by rw [zeroP_len]; simpa using hc) (by rw [zeroP_len]; simpa using hf) (zeroP_one n)
  simp only [Nat.add_zero] at hst
  obtain ⟨m, rfl⟩ : ∃ m, n = m + 1 := ⟨n - 1, by omega⟩
  have hz : (Value.agg #[.int .i64 0, .int .i64 0, .string ⟨#[]⟩]).cells = #[.int .i64 0, .int .i64 0, .string ⟨#[]⟩] := by first | rfl | kernel_rfl | simp [Value.cells]
  unfold zeroP at hst ⊢
  simp [Builtin.clear_, run_underlying Tryz.underlying24, hz, hst]

theorem OwnP.cap {w : World} {B g cap n : Nat} {L : List Pt} (h : OwnP w B (.slice (some ⟨g, 0, none⟩) n cap) L) : L.length ≤ cap ∧ cap ≤ maxLen ∧ B ≤ g ∧ g < w.heap.size := by
  rcases h.2 with ⟨h1, _⟩ | ⟨g', cap', cur, e, hb, hg, hn1, hm, hs, ht⟩
  · cases h1
  · injection e with e1 e2 e3
    injection e1 with e1
    injection e1 with e1
    subst e1 e3
    exact ⟨hn1, hm, hb, (Array.getElem?_eq_some_iff.1 hg).1⟩

end Go.Proofs.YtcknhjabdjbjiabGreat
