/- How points stand. Points compared and sorted. -/
import Derived.Shelf.SlSortCmp.WholeK
import Derived.Ground.SlsfProg
import Derived.Test.YtcknhjabdjbjiabGreatGWV13
namespace Go.Proofs.YtcknhjabdjbjiabGreat
open Go.RowKit

def cmpI (a b : Int) : Int := if a < b then -1 else if b < a then 1 else 0
/-- how two points stand -/
def cmpP (a b : Pt) : Int := if cmpI a.t b.t != 0 then cmpI a.t b.t else if cmpI a.i b.i != 0 then cmpI a.i b.i else Lib.compareBytes a.k.data.toList b.k.data.toList
def ltP (a b : Pt) : Bool := decide (cmpP a b < 0)
theorem cmpI_cases (a b : Int) : (a < b ∧ cmpI a b = -1) ∨ (a = b ∧ cmpI a b = 0) ∨ (b < a ∧ cmpI a b = 1) := by
  unfold cmpI
  rcases Int.lt_trichotomy a b with h | h | h
  · exact .inl ⟨h, by rw [if_pos h]⟩
  · subst h; exact .inr (.inl ⟨rfl, by simp⟩)
  · exact .inr (.inr ⟨h, by rw [if_neg (by omega), if_pos h]⟩)
theorem cb_zero {a b : ByteArray} (h : Lib.compareBytes a.data.toList b.data.toList = 0) : a = b := by
  have h1 := eq_cb a.data.toList b.data.toList
  rw [h] at h1
  have h2 : a.data.toList = b.data.toList := by simpa using h1
  exact bytes_eq h2
/-- what a comparison of points says -/
theorem cmpP_spec (a b : Pt) : (cmpP a b = -1 ∧ (a.t < b.t ∨ a.t = b.t ∧ (a.i < b.i ∨ a.i = b.i ∧ ltB a.k b.k = true))) ∨ (cmpP a b = 0 ∧ a = b) ∨ (cmpP a b = 1 ∧ (b.t < a.t ∨ a.t = b.t ∧ (b.i < a.i ∨ a.i = b.i ∧ ltB b.k a.k = true))) := by
  unfold cmpP
  rcases cmpI_cases a.t b.t with ⟨h, e⟩ | ⟨h, e⟩ | ⟨h, e⟩
  · rw [e]; exact .inl ⟨rfl, .inl h⟩
  · rw [e]
    rcases cmpI_cases a.i b.i with ⟨h2, e2⟩ | ⟨h2, e2⟩ | ⟨h2, e2⟩
    · rw [e2]; exact .inl ⟨rfl, .inr ⟨h, .inl h2⟩⟩
    · rw [e2]
      show _ ∨ _ ∨ _
      rcases cb_range a.k.data.toList b.k.data.toList with h3 | h3 | h3
      · refine .inl ⟨h3, .inr ⟨h, .inr ⟨h2, ?_⟩⟩⟩
        rw [ltB_cb, h3]; rfl
      · refine .inr (.inl ⟨h3, ?_⟩)
        obtain ⟨t, i, k⟩ := a
        obtain ⟨t', i', k'⟩ := b
        simp only at h h2 h3
        rw [h, h2, cb_zero h3]
      · refine .inr (.inr ⟨h3, .inr ⟨h, .inr ⟨h2, ?_⟩⟩⟩)
        rw [ltB_cb, cb_swap, h3]; rfl
    · rw [e2]; exact .inr (.inr ⟨rfl, .inr ⟨h, .inl h2⟩⟩)
  · rw [e]; exact .inr (.inr ⟨rfl, .inl h⟩)
theorem ltP_iff (a b : Pt) : ltP a b = true ↔ (a.t < b.t ∨ a.t = b.t ∧ (a.i < b.i ∨ a.i = b.i ∧ ltB a.k b.k = true)) := by
  unfold ltP
  rw [decide_eq_true_eq]
  rcases cmpP_spec a b with ⟨e, h⟩ | ⟨e, h⟩ | ⟨e, h⟩
  · exact ⟨fun _ => h, fun _ => by omega⟩
  · subst h
    refine ⟨fun h => by omega, fun h => ?_⟩
    rcases h with h | ⟨_, h | ⟨_, h⟩⟩
    · omega
    · omega
    · rw [ltB_irrefl] at h; cases h
  · refine ⟨fun h => by omega, fun h' => ?_⟩
    exfalso
    rcases h with h | ⟨h1, h | ⟨h2, h⟩⟩ <;> rcases h' with h' | ⟨h1', h' | ⟨h2', h'⟩⟩ <;> try omega
    have := ltB_asymm h
    rw [h'] at this
    cases this
theorem ltP_irrefl (a : Pt) : ltP a a = false := by
  rcases h : ltP a a with _ | _
  · rfl
  · rw [ltP_iff] at h
    rcases h with h | ⟨_, h | ⟨_, h⟩⟩
    · omega
    · omega
    · rw [ltB_irrefl] at h; cases h
theorem ltP_trans {a b c : Pt} (h1 : ltP a b = true) (h2 : ltP b c = true) : ltP a c = true := by
  rw [ltP_iff] at *
  rcases h1 with h | ⟨e1, h | ⟨e2, h⟩⟩ <;> rcases h2 with h' | ⟨e1', h' | ⟨e2', h'⟩⟩
  all_goals first | (left; omega) | (right; refine ⟨by omega, ?_⟩; first | (left; omega) | (right; exact ⟨by omega, lt_trans' h h'⟩))
theorem ltP_tri (a b : Pt) : ltP a b = true ∨ a = b ∨ ltP b a = true := by
  rcases cmpP_spec a b with ⟨e, h⟩ | ⟨e, h⟩ | ⟨e, h⟩
  · exact .inl ((ltP_iff a b).2 h)
  · exact .inr (.inl h)
  · refine .inr (.inr ((ltP_iff b a).2 ?_))
    rcases h with h | ⟨h1, h | ⟨h2, h⟩⟩
    · exact .inl h
    · exact .inr ⟨h1.symm, .inl h⟩
    · exact .inr ⟨h1.symm, .inr ⟨h2.symm, h⟩⟩
theorem ltP_asymm {a b : Pt} (h : ltP a b = true) : ltP b a = false := by
  rcases h2 : ltP b a with _ | _
  · rfl
  · have := ltP_trans h h2
    rw [ltP_irrefl] at this
    cases this
theorem leP_trans {a b c : Pt} (h1 : ltP b a = false) (h2 : ltP c b = false) : ltP c a = false := by
  rcases h : ltP c a with _ | _
  · rfl
  · rcases ltP_tri a b with h3 | h3 | h3
    · rw [ltP_trans h h3] at h2; cases h2
    · subst h3; rw [h] at h2; cases h2
    · rw [h3] at h1; cases h1
theorem leP_antisymm {a b : Pt} (h1 : ltP b a = false) (h2 : ltP a b = false) : a = b := by
  rcases ltP_tri a b with h | h | h
  · rw [h] at h2; cases h2
  · exact h
  · rw [h] at h1; cases h1
theorem cmpP_lt (a b : Pt) : (cmpP a b < 0) ↔ ltP a b = true := by unfold ltP; rw [decide_eq_true_eq]
theorem cmpP_eq (a b : Pt) : (cmpP a b = 0) ↔ a = b := by
  rcases cmpP_spec a b with ⟨e, h⟩ | ⟨e, h⟩ | ⟨e, h⟩
  · refine ⟨fun h => by omega, fun h' => ?_⟩
    subst h'
    have := (ltP_iff a a).2 h
    rw [ltP_irrefl] at this; cases this
  · exact ⟨fun _ => h, fun _ => e⟩
  · refine ⟨fun h => by omega, fun h' => ?_⟩
    subst h'
    have h9 : ltP a a = true := (ltP_iff a a).2 (by
      rcases h with h | ⟨h1, h | ⟨h2, h⟩⟩
      · exact .inl h
      · exact .inr ⟨rfl, .inl h⟩
      · exact .inr ⟨rfl, .inr ⟨rfl, h⟩⟩)
    rw [ltP_irrefl] at h9; cases h9
/-- points that stand in order, each once -/
def RisP (L : List Pt) : Prop := L.Pairwise (fun a b => ltP a b = true)
/-- points that stand in order -/
def UpP (L : List Pt) : Prop := L.Pairwise (fun a b => ltP b a = false)
theorem RisP.uniq : ∀ {A B : List Pt}, RisP A → RisP B → (∀ x, x ∈ A ↔ x ∈ B) → A = B
  | [], [], _, _, _ => rfl
  | [], b :: B, _, _, h => absurd ((h b).2 (List.mem_cons_self ..)) (by simp)
  | a :: A, [], _, _, h => absurd ((h a).1 (List.mem_cons_self ..)) (by simp)
  | a :: A, b :: B, ha, hb, h => by
    have ha' := List.pairwise_cons.1 ha
    have hb' := List.pairwise_cons.1 hb
    have e : a = b := by
      rcases List.mem_cons.1 ((h a).1 (List.mem_cons_self ..)) with h1 | h1
      · exact h1
      · rcases List.mem_cons.1 ((h b).2 (List.mem_cons_self ..)) with h2 | h2
        · exact h2.symm
        · have h3 := ltP_trans (ha'.1 b h2) (hb'.1 a h1)
          rw [ltP_irrefl] at h3; cases h3
    subst e
    rw [RisP.uniq ha'.2 hb'.2 (fun x => ?_)]
    refine ⟨fun hx => ?_, fun hx => ?_⟩
    · rcases List.mem_cons.1 ((h x).1 (List.mem_cons_of_mem _ hx)) with rfl | h1
      · have := ha'.1 x hx; rw [ltP_irrefl] at this; cases this
      · exact h1
    · rcases List.mem_cons.1 ((h x).2 (List.mem_cons_of_mem _ hx)) with rfl | h1
      · have := hb'.1 x hx; rw [ltP_irrefl] at this; cases this
      · exact h1

end Go.Proofs.YtcknhjabdjbjiabGreat

namespace Go.Proofs.YtcknhjabdjbjiabGreat
open Go.Shelf Go.RowKit Go.Lib Go.Sort
set_option maxRecDepth 100000

theorem isNaNi_any (x : Int) (w : World) : Calls Tryz.prog 87 #[.int .i64 x] w fun e w' => e = .returned (.bool false) ∧ w' = w := by
  have h : (x != x) = false := by simp [bne]
  go_enter Tryz.func87, Tryz.ntmps87
  go_wp2
  go_ret
  exact ⟨rfl, rfl⟩

set_option maxHeartbeats 1000000 in
theorem compareI_any (x y : Int) (w : World) : Calls Tryz.prog 72 #[.int .i64 x, .int .i64 y] w fun e w' => e = .returned (.int .i64 (cmpI x y)) ∧ w' = w := by
  unfold cmpI
  rcases Int.lt_trichotomy x y with h | h | h
  all_goals
    have h1 : decide (x < y) = decide (x < y) := rfl
    go_enter Tryz.func72, Tryz.ntmps72
    go_wp2_with (first | (go_at_call 87; refine (isNaNi_any _ _).mono ?_; rintro e w1 ⟨rfl, hww⟩; obtain rfl := hww.symm))
  all_goals go_ret
  all_goals (refine ⟨?_, rfl⟩)
  all_goals simp [*]
  all_goals omega

theorem run_cmps (a b : ByteArray) (w : World) : (callFunc 99 #[.string a, .string b]).run Tryz.prog w = .ok (.value (.int .i64 (Lib.compareBytes a.data.toList b.data.toList))) w := by
  rw [run_callFunc_extern (fn := Tryz.f99) (e := Extern.BytealgCompare.compare) Tryz.func99 (by kernel_rfl) (by kernel_rfl) (by kernel_rfl) (by kernel_rfl)]
  rw [Lib.run_compareString]
  rfl

theorem bstrCmp_any (a b : ByteArray) (w : World) :
    Calls Tryz.prog 88 #[.string a, .string b] w fun e w' => e = .returned (.int .i64 (Lib.compareBytes a.data.toList b.data.toList)) ∧ w' = w := by
  have hb := run_cmps
  go_enter Tryz.func88, Tryz.ntmps88
  go_wp2
  go_ret
  exact ⟨rfl, rfl⟩

theorem strCmp_any (a b : ByteArray) (w : World) :
    Calls Tryz.prog 73 #[.string a, .string b] w fun e w' => e = .returned (.int .i64 (Lib.compareBytes a.data.toList b.data.toList)) ∧ w' = w := by
  go_enter Tryz.func73, Tryz.ntmps73
  go_wp2_with (first | (go_at_call 88; refine (bstrCmp_any _ _ _).mono ?_; rintro e w1 ⟨rfl, hww⟩; obtain rfl := hww.symm))
  go_ret
  exact ⟨rfl, rfl⟩

set_option maxHeartbeats 1000000 in
theorem compare_any (x y : Pt) (w : World) : Calls Tryz.prog 62 #[.agg #[.int .i64 x.t, .int .i64 x.i, .string x.k], .agg #[.int .i64 y.t, .int .i64 y.i, .string y.k]] w fun e w' => e = .returned (.int .i64 (cmpP x y)) ∧ ∃ q os', w' = grow (w.drewN q) os' := by
  unfold cmpP
  have C1 : Hid (∀ w1 : World, Calls _ _ _ _ _) := fun w1 => compareI_any x.t y.t w1
  have C2 : Hid (∀ w1 : World, Calls _ _ _ _ _) := fun w1 => compareI_any x.i y.i w1
  have C3 : Hid (∀ w1 : World, Calls _ _ _ _ _) := fun w1 => strCmp_any x.k y.k w1
  generalize cmpI x.t y.t = r1 at *
  generalize cmpI x.i y.i = r2 at *
  generalize Lib.compareBytes x.k.data.toList y.k.data.toList = r3 at *
  cases h1 : (r1 != 0)
  · cases h2 : (r2 != 0)
    · go_enter Tryz.func62, Tryz.ntmps62
      go_wp2_with fail
      refine (C1.out _).mono ?_
      rintro e w1 ⟨rfl, hw1⟩
      rw [hw1]
      clear hw1
      go_wp2_with fail
      refine (C2.out _).mono ?_
      rintro e w1 ⟨rfl, hw1⟩
      rw [hw1]
      clear hw1
      go_wp2_with fail
      refine (C3.out _).mono ?_
      rintro e w1 ⟨rfl, hw1⟩
      rw [hw1]
      clear hw1
      go_wp2
      go_ret
      exact ⟨rfl, 0, _, by rw [alloc_eq_grow, alloc_eq_grow, grow_grow]; rfl⟩
    · go_enter Tryz.func62, Tryz.ntmps62
      go_wp2_with fail
      refine (C1.out _).mono ?_
      rintro e w1 ⟨rfl, hw1⟩
      rw [hw1]
      clear hw1
      go_wp2_with fail
      refine (C2.out _).mono ?_
      rintro e w1 ⟨rfl, hw1⟩
      rw [hw1]
      clear hw1
      go_wp2
      go_ret
      exact ⟨rfl, 0, _, by rw [alloc_eq_grow, alloc_eq_grow, grow_grow]; rfl⟩
  · go_enter Tryz.func62, Tryz.ntmps62
    go_wp2_with fail
    refine (C1.out _).mono ?_
    rintro e w1 ⟨rfl, hw1⟩
    rw [hw1]
    clear hw1
    go_wp2
    go_ret
    exact ⟨rfl, 0, _, by rw [alloc_eq_grow, alloc_eq_grow, grow_grow]; rfl⟩

theorem grow_belowP (w : World) (q : Nat) (os : Array Obj) : RowKit.Below w.heap.size w (grow (w.drewN q) os) := grow_below (w0 := w) (w := w.drewN q) ⟨rfl, rfl, rfl, Nat.le_refl _, fun _ _ => rfl⟩ os (Nat.le_refl _)
theorem compareB_any (x y : Pt) (w : World) : Calls Tryz.prog 62 #[.agg #[.int .i64 x.t, .int .i64 x.i, .string x.k], .agg #[.int .i64 y.t, .int .i64 y.i, .string y.k]] w fun e w' => e = .returned (.int .i64 (cmpP x y)) ∧ RowKit.Below w.heap.size w w' := by
  refine (compare_any x y w).mono ?_
  rintro e w1 ⟨rfl, q, os, rfl⟩
  exact ⟨rfl, grow_belowP w q os⟩

def Tryz.sortPt_ren : Go.Shelf.Ren := ⟨fun | 6 => 77 | 15 => 92 | 14 => 91 | 28 => 108 | 29 => 109 | 20 => 100 | 21 => 101 | 22 => 102 | 23 => 103 | 24 => 104 | 25 => 105 | 26 => 106 | 27 => 107 | 46 => 117 | 47 => 118 | 48 => 119 | 49 => 120 | 50 => 121 | 57 => 125 | n => n, fun | 22 => 24 | 24 => 36 | 25 => 112 | 3 => 3 | 39 => 102 | 0 => 0 | 53 => 149 | 55 => 23 | 4 => 4 | 46 => 143 | 45 => 142 | 50 => 110 | 5 => 5 | 9 => 9 | 66 => 155 | 70 => 158 | 76 => 163 | 77 => 164 | n => n, fun | n => n⟩

theorem Tryz.sortPt : Go.Proofs.SlLaysF0.n6 Tryz.prog Tryz.sortPt_ren := {
  mixed := by kernel_rfl
  f6 := ⟨Tryz.f77.name, by decide, Tryz.func77.trans (congrArg some (by kernel_rfl))⟩
  f14 := ⟨Tryz.f91.name, by decide, Tryz.func91.trans (congrArg some (by kernel_rfl))⟩
  f15 := Tryz.func92.trans (congrArg some (by kernel_rfl))
  f20 := ⟨Tryz.f100.name, by decide, Tryz.func100.trans (congrArg some (by kernel_rfl))⟩
  f21 := ⟨Tryz.f101.name, by decide, Tryz.func101.trans (congrArg some (by kernel_rfl))⟩
  f22 := ⟨Tryz.f102.name, by decide, Tryz.func102.trans (congrArg some (by kernel_rfl))⟩
  f23 := ⟨Tryz.f103.name, by decide, Tryz.func103.trans (congrArg some (by kernel_rfl))⟩
  f24 := ⟨Tryz.f104.name, by decide, Tryz.func104.trans (congrArg some (by kernel_rfl))⟩
  f25 := ⟨Tryz.f105.name, by decide, Tryz.func105.trans (congrArg some (by kernel_rfl))⟩
  f26 := ⟨Tryz.f106.name, by decide, Tryz.func106.trans (congrArg some (by kernel_rfl))⟩
  f27 := ⟨Tryz.f107.name, by decide, Tryz.func107.trans (congrArg some (by kernel_rfl))⟩
  f28 := Tryz.func108.trans (congrArg some (by kernel_rfl))
  f29 := Tryz.func109.trans (congrArg some (by kernel_rfl))
  f46 := ⟨Tryz.f117.name, by decide, Tryz.func117.trans (congrArg some (by kernel_rfl))⟩
  f47 := Tryz.func118.trans (congrArg some (by kernel_rfl))
  f48 := Tryz.func119.trans (congrArg some (by kernel_rfl))
  f49 := ⟨Tryz.f120.name, by decide, Tryz.func120.trans (congrArg some (by kernel_rfl))⟩
  f50 := ⟨Tryz.f121.name, by decide, Tryz.func121.trans (congrArg some (by kernel_rfl))⟩
  f57 := ⟨Tryz.f125.name, by decide, Tryz.func125.trans (congrArg some (by kernel_rfl))⟩
  t0 := Tryz.underlying0
  a0 := Tryz.isAgg0
  z0 := Tryz.sizeOf0
  v0 := Tryz.zeroValue0
  t3 := Tryz.underlying3
  a3 := Tryz.isAgg3
  z3 := Tryz.sizeOf3
  v3 := Tryz.zeroValue3
  t4 := Tryz.underlying4
  a4 := Tryz.isAgg4
  z4 := Tryz.sizeOf4
  v4 := Tryz.zeroValue4
  t5 := Tryz.underlying5
  a5 := Tryz.isAgg5
  z5 := Tryz.sizeOf5
  v5 := Tryz.zeroValue5
  t9 := Tryz.underlying9
  a9 := Tryz.isAgg9
  z9 := Tryz.sizeOf9
  v9 := Tryz.zeroValue9
  t22 := Tryz.underlying24
  a22 := Tryz.isAgg24
  z22 := Tryz.sizeOf24
  v22 := Tryz.zeroValue24
  t25 := Tryz.underlying112
  a25 := Tryz.isAgg112
  z25 := Tryz.sizeOf112
  v25 := Tryz.zeroValue112
  t39 := Tryz.underlying102
  a39 := Tryz.isAgg102
  z39 := Tryz.sizeOf102
  v39 := Tryz.zeroValue102
  t45 := Tryz.underlying142
  a45 := Tryz.isAgg142
  z45 := Tryz.sizeOf142
  v45 := Tryz.zeroValue142
  t46 := Tryz.underlying143
  a46 := Tryz.isAgg143
  z46 := Tryz.sizeOf143
  v46 := Tryz.zeroValue143
  t50 := Tryz.underlying110
  a50 := Tryz.isAgg110
  z50 := Tryz.sizeOf110
  v50 := Tryz.zeroValue110
  t53 := Tryz.underlying149
  a53 := Tryz.isAgg149
  z53 := Tryz.sizeOf149
  v53 := Tryz.zeroValue149
  t55 := Tryz.underlying23
  a55 := Tryz.isAgg23
  z55 := Tryz.sizeOf23
  v55 := Tryz.zeroValue23
  t66 := Tryz.underlying155
  a66 := Tryz.isAgg155
  z66 := Tryz.sizeOf155
  v66 := Tryz.zeroValue155
  t70 := Tryz.underlying158
  a70 := Tryz.isAgg158
  z70 := Tryz.sizeOf158
  v70 := Tryz.zeroValue158
  t76 := Tryz.underlying163
  a76 := Tryz.isAgg163
  z76 := Tryz.sizeOf163
  v76 := Tryz.zeroValue163
  t77 := Tryz.underlying164
  a77 := Tryz.isAgg164
  z77 := Tryz.sizeOf164
  v77 := Tryz.zeroValue164 }


theorem cmpLaysP [Inhabited Pt] (blk off size : Nat) (w : World) : CmpLays Tryz.prog 62 #[] encP 3 cmpP blk off size w := fun _ _ _ _ x y => compare_any x y _

theorem ltOf_cmp (x y : Pt) : ltOf cmpP x y = ltP x y := by
  unfold ltOf ltP
  rfl

theorem swoP : SWO (ltOf cmpP) where
  irrefl x := by rw [ltOf_cmp]; exact ltP_irrefl _
  trans x y z h1 h2 := by rw [ltOf_cmp] at *; exact ltP_trans h1 h2
  ntrans x y z h1 h2 := by rw [ltOf_cmp] at *; exact leP_trans h2 h1

set_option maxHeartbeats 1000000 in
theorem sortP_any [Inhabited Pt] (blk off cap : Nat) (d : Array Pt) (w : World) (hH : HoldsK encP 3 w blk off d) (hblk : blk < w.heap.size) (hsz : d.size < 4611686018427387904) :
    Calls Tryz.prog 77 #[.slice (some ⟨blk, off, none⟩) d.size cap, .func (.func 62) #[] #[]] w fun e w' => e = .returned (.tuple #[]) ∧ ∃ d' n os, PermIn 0 d.size d d' ∧ SortedIn (ltOf cmpP) 0 d.size d' ∧ w' = sortWorldK encP 3 w blk off n d' os := by
  have eg : ∀ args w, (callFunc 62 args).run Tryz.prog w = .ok (.enter 62 args) w := enters_of Tryz.func62 (by kernel_rfl) rfl
  have hcon := AnyQ.slices_SortFunc Tryz.sortPt 3 Tryz.isAgg36 Tryz.sizeOf36 encP (fun _ => rfl) (fun x v hv => by simp [encP] at hv; rcases hv with rfl | rfl | rfl <;> rfl) cmpP swoP 62 #[] blk off cap d w eg (cmpLaysP blk off d.size w) hH hblk hsz
  change Calls Tryz.prog 77 _ _ _ at hcon
  exact hcon

end Go.Proofs.YtcknhjabdjbjiabGreat
