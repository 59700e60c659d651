/- A change read: one column behind the other. The walk of readStep. -/
import Derived.Test.YtinlgaefgedmcaaGreatDoorGWRdR
import Derived.Test.YtinlgaefgedmcaaGreatDoorGMInv3
import Derived.Test.YtinlgaefgedmcaaGreatDoorGWRvs
namespace Go.Proofs.YtinlgaefgedmcaaGreatDoor
open Go.RowKit
set_option maxRecDepth 100000

/-- a column that is none -/
def zC : Cl := ⟨⟨#[]⟩, 0, false, zV⟩
/-- WHAT A CHANGE TELLS NEXT, from a column on: the column, what it has then, how many bytes say so. -/
def stepA (cs : List Cl) (next : Nat) (s : ByteArray) : Option (Nat × Vl × Nat) :=
  if (rdV s).2 = 0 ∨ cs.length - next ≤ (rdV s).1 then none else
  match rowR [cs.getD (next + (rdV s).1) zC] (s.extract (rdV s).2 s.size) with
  | none => none
  | some p => some (next + (rdV s).1, p.1.headD zV, (rdV s).2 + p.2)
theorem rowR_one {c : Cl} {s : ByteArray} {L : List Vl} {k : Nat} (hc : 1 ≤ c.kd ∧ c.kd ≤ 5) (hs : s.size ≤ 65536) (h : rowR [c] s = some (L, k)) : ∃ v, L = [v] ∧ k ≤ s.size := by
  unfold rowR at h
  have e : ([c].length + 3) / 4 = 1 := by simp
  rw [e] at h
  clear e
  split at h
  · cases h
  · rename_i h1
    split at h
    · have := of_rowA s hs [c] 0 1 L k (fun d hd => by simp at hd; subst hd; exact hc) (by omega) h
      obtain ⟨_, h3, h4, _⟩ := this
      match L, h4 with
      | [v], _ => exact ⟨v, rfl, h3⟩
    · cases h
/-- how readStep ends -/
def StepP (r : Option (Nat × Vl × Nat)) (w : World) (e : Ending) (w' : World) : Prop := ∃ (i : Nat) (v : Vl) (k : Nat) (b : Bool), e = .returned (.tuple #[.int .i64 (i : Int), v.val, .int .i64 (k : Int), .bool b]) ∧ ((b = true ∧ r = some (i, v, k)) ∨ (b = false ∧ r = none)) ∧ Below w.heap.size w w'
theorem StepP.no {r : Option (Nat × Vl × Nat)} {w w' : World} {e : Ending} (he : e = .returned (.tuple #[.int .i64 0, zV.val, .int .i64 0, .bool false])) (h : r = none) (hw : Below w.heap.size w w') : StepP r w e w' := ⟨0, zV, 0, false, he, .inr ⟨rfl, h⟩, hw⟩
theorem RowC.one {w : World} {B : Nat} {p : Option Addr} {cs : List Cl} (h : RowC w B p cs) (i : Nat) (hi : i < cs.length) : ∃ b o, p = some ⟨b, o, none⟩ ∧ RowC w B (some ⟨b, o + i * 7, none⟩) [cs[i]] := by
  obtain ⟨b, o, rfl, hb, hh⟩ := h i hi
  refine ⟨b, o, rfl, fun j hj => ?_⟩
  obtain rfl : j = 0 := by simp at hj; exact hj
  exact ⟨b, o + i * 7, rfl, hb, by simpa using hh⟩

end Go.Proofs.YtinlgaefgedmcaaGreatDoor

namespace Go.Proofs.YtinlgaefgedmcaaGreatDoor
open Go.RowKit
set_option maxRecDepth 100000

set_option maxHeartbeats 8000000 in
theorem readStep_any (cs : List Cl) (p : Option Addr) (c next : Nat) (s : ByteArray) (w : World) (hR : RowC w w.heap.size p cs) (hcc : cs.length ≤ c) (hnx : next ≤ cs.length) (hn : cs.length ≤ 64) (hkd : ∀ c ∈ cs, 1 ≤ c.kd ∧ c.kd ≤ 5) (hs : s.size ≤ 65536) (hE : Env w) :
    Calls Tryz.prog 10 #[.slice p cs.length c, .int .i64 (next : Int), .string s] w (StepP (stepA cs next s) w) := by
  have hsf := run_store_float
  have C1 : Hid (∀ w1, Calls _ _ _ _ _) := fun w1 => readVarint_any s w1 (by omega)
  have HF : Hid (stepA cs next s = if (rdV s).2 = 0 ∨ cs.length - next ≤ (rdV s).1 then none else match rowR [cs.getD (next + (rdV s).1) zC] (s.extract (rdV s).2 s.size) with
  | none => none
  | some p => some (next + (rdV s).1, p.1.headD zV, (rdV s).2 + p.2)) := rfl
  generalize stepA cs next s = r at *
  have HR : Hid (RowC w w.heap.size p cs ∧ (∀ c ∈ cs, 1 ≤ c.kd ∧ c.kd ≤ 5) ∧ Env w) := ⟨hR, hkd, hE⟩
  have HK : Hid ((rdV s).2 ≤ s.size) := rdV_le s
  clear hR hkd hE
  go_enter Tryz.func10, Tryz.ntmps10
  go_wp2_with fail
  refine (C1.out _).mono ?_
  rintro e w2 ⟨n, k, b, rfl, hn64, hb, hw⟩
  rw [hw]
  clear hw C1
  have HBw : Hid (Below w.heap.size w w) := Below.refl _ _
  rcases hb with ⟨rfl, hv, hk⟩ | ⟨rfl, hv⟩
  · rw [hv] at HF HK
    have HK' : k ≤ s.size := HK.out
    clear HK
    have hwl : IntKind.u64.wrap ((cs.length : Int) - (next : Int)) = (cs.length : Int) - (next : Int) := by rw [show ∀ z : Int, IntKind.u64.wrap z = z % 18446744073709551616 from fun z => by simp [IntKind.wrap, IntKind.bits, IntKind.signed]]; omega
    by_cases hge : cs.length - next ≤ n
    · have HN : Hid (r = none) := by have := HF.out; rw [if_pos (.inr hge)] at this; exact this
      have a1 : (cs.length : Int) - (next : Int) ≤ (n : Int) := by omega
      clear HF
      go_wp2_with fail
      refine bodyPost_ret (v := .tuple #[.int .i64 0, zV.val, .int .i64 0, .bool false]) (by simp [results, Tryz.results10, go_sem, zV, Vl.val, go_sem]) rfl ?_
      exact StepP.no rfl HN.out (by go_grown; all_goals exact HBw.out)
    · have a1 : ¬ ((cs.length : Int) - (next : Int) ≤ (n : Int)) := by omega
      obtain ⟨col, hcol⟩ : ∃ col : Nat, next + n = col := ⟨_, rfl⟩
      have hcl : col < cs.length := by omega
      have HF2 : Hid (r = match rowR [cs[col]] (s.extract k s.size) with
        | none => none
        | some p => some (col, p.1.headD zV, k + p.2)) := by
        have := HF.out
        rw [if_neg (by dsimp only; omega)] at this
        dsimp only at this
        rw [hcol, List.getD_eq_getElem?_getD, List.getElem?_eq_getElem hcl] at this
        exact this
      clear HF hv
      obtain ⟨b, o, rfl, hR1⟩ := HR.out.1.one col hcl
      have hbz : Below w.heap.size w (w.alloc (.cells #[.int .i64 0, .int .i64 0, .float .f64 0, .string ⟨#[]⟩] 39)).drew := by go_grown
      have hsz : (s.extract k s.size).size ≤ 65536 := by rw [ByteArray.size_extract]; omega
      have C2 : Hid (Calls _ _ _ _ _) := readRow_any [cs[col]] (some ⟨b, o + col * 7, none⟩) (c - col) (s.extract k s.size) (w.alloc (.cells #[.int .i64 0, .int .i64 0, .float .f64 0, .string ⟨#[]⟩] 39)).drew ((hR1.keep hbz).mono hbz.size) (by simp) (by simp) (fun d hd => by simp at hd; subst hd; exact HR.out.2.1 _ (List.getElem_mem _)) hsz (HR.out.2.2.on hbz)
      have HR1 : Hid (∀ L k3, rowR [cs[col]] (s.extract k s.size) = some (L, k3) → ∃ v, L = [v] ∧ k3 ≤ s.size - k) := fun L k3 h => by
        obtain ⟨v, h1, h2⟩ := rowR_one (HR.out.2.1 _ (List.getElem_mem _)) hsz h
        rw [ByteArray.size_extract] at h2
        exact ⟨v, h1, by omega⟩
      clear hR1 HR hsz
      generalize rowR [cs[col]] (s.extract k s.size) = rr at *
      have hwn : IntKind.i64.wrap (n : Int) = (n : Int) := by rw [IntKind.wrap_i64]; (try unfold wrap64); omega
      have hci : (next : Int) + (n : Int) = (col : Int) := by omega
      obtain ⟨c1, hc1⟩ : ∃ c1 : Nat, col + 1 = c1 := ⟨_, rfl⟩
      have hw1 : IntKind.i64.wrap ((col : Int) + 1) = (c1 : Int) := by rw [IntKind.wrap_i64]; (try unfold wrap64); omega
      have hcc2 : (c1 : Int) ≤ (c : Int) := by omega
      have hcc4 : col ≤ c1 := by omega
      have hcc5 : c1 - col = 1 := by omega
      have hcc3 : ¬ (c = col) := by omega
      have hks : (k : Int) ≤ (s.size : Int) := by omega
      dsimp only [List.length_cons, List.length_nil] at C2
      clear hcol hc1
      go_wp2_with fail
      refine wp_region_any (by kernel_rfl) ?_
      change wpAny _ _ _ _ _ _ _ (World.drew _)
      refine anyN_take (v := ?_) 0 rfl (by kernel_rfl) (by kernel_rfl) (by kernel_rfl) (fun _ _ _ h => h) (Or.inl ⟨by rfl, ?_⟩) ?_
      rotate_left
      focus
        intro w9
        go_simp
        try with_reducible rfl
      try simp only [Act.put, List.setIfInBounds_toArray, List.set_cons_zero, List.set_cons_succ]
      refine anyN_take (v := ?_) 1 rfl (by kernel_rfl) (by kernel_rfl) (by kernel_rfl) (fun _ _ _ h => h) (Or.inl ⟨by rfl, ?_⟩) ?_
      rotate_left
      focus
        intro w9
        go_simp
        try with_reducible rfl
      try simp only [Act.put, List.setIfInBounds_toArray, List.set_cons_zero, List.set_cons_succ]
      refine anyN_take (v := ?_) 2 rfl (by kernel_rfl) (by kernel_rfl) (by kernel_rfl) (fun _ _ _ h => h) (Or.inl ⟨by rfl, ?_⟩) ?_
      rotate_left
      focus
        intro w9
        go_simp
        try with_reducible rfl
      try simp only [Act.put, List.setIfInBounds_toArray, List.set_cons_zero, List.set_cons_succ]
      refine anyN_take (v := ?_) 3 rfl (by kernel_rfl) (by kernel_rfl) (by kernel_rfl) (fun _ _ _ h => h) (Or.inl ⟨by rfl, ?_⟩) ?_
      rotate_left
      focus
        intro w9
        go_simp
        try with_reducible rfl
      try simp only [Act.put, List.setIfInBounds_toArray, List.set_cons_zero, List.set_cons_succ]
      refine anyN_take (v := ?_) 4 rfl (by kernel_rfl) (by kernel_rfl) (by kernel_rfl) (fun _ _ _ h => h) (Or.inl ⟨by rfl, ?_⟩) ?_
      rotate_left
      focus
        intro w9
        go_simp
        try with_reducible rfl
      try simp only [Act.put, List.setIfInBounds_toArray, List.set_cons_zero, List.set_cons_succ]
      refine anyN_take (v := ?_) 5 rfl (by kernel_rfl) (by kernel_rfl) (by kernel_rfl) (fun _ _ _ h => h) (Or.inl ⟨by rfl, ?_⟩) ?_
      rotate_left
      focus
        intro w9
        go_simp
        try with_reducible rfl
      try simp only [Act.put, List.setIfInBounds_toArray, List.set_cons_zero, List.set_cons_succ]
      refine anyN_take (v := ?_) 6 rfl (by kernel_rfl) (by kernel_rfl) (by kernel_rfl) (fun _ _ _ h => h) (Or.inl ⟨by rfl, ?_⟩) ?_
      rotate_left
      focus
        intro w9
        go_simp
        try with_reducible rfl
      try simp only [Act.put, List.setIfInBounds_toArray, List.set_cons_zero, List.set_cons_succ]
      refine anyN_take (v := ?_) 7 rfl (by kernel_rfl) (by kernel_rfl) (by kernel_rfl) (fun _ _ _ h => h) (Or.inl ⟨by rfl, ?_⟩) ?_
      rotate_left
      focus
        intro w9
        go_simp
        try with_reducible rfl
      try simp only [Act.put, List.setIfInBounds_toArray, List.set_cons_zero, List.set_cons_succ]
      refine wpAny_ready (rs := [8]) (by kernel_rfl) (by simp) ?_
      refine anyN_cons 8 rfl (by rfl) (fun K hK => ?_) AllReady.nil
      go_simp
      refine C2.out.mono ?_
      rintro e w3 ⟨v3, k3, b3, rfl, hr3, hb3⟩
      dsimp only
      refine hK.out _ _ ?_
      clear hK K
      try simp only [Act.put, List.setIfInBounds_toArray, List.set_cons_zero, List.set_cons_succ]
      refine anyN_take (v := ?_) 9 rfl (by kernel_rfl) (by kernel_rfl) (by kernel_rfl) (fun _ _ _ h => h) (Or.inl ⟨by rfl, ?_⟩) ?_
      rotate_left
      focus
        intro w9
        go_simp
        try with_reducible rfl
      try simp only [Act.put, List.setIfInBounds_toArray, List.set_cons_zero, List.set_cons_succ]
      refine anyN_take (v := ?_) 10 rfl (by kernel_rfl) (by kernel_rfl) (by kernel_rfl) (fun _ _ _ h => h) (Or.inl ⟨by rfl, ?_⟩) ?_
      rotate_left
      focus
        intro w9
        go_simp
        try with_reducible rfl
      try simp only [Act.put, List.setIfInBounds_toArray, List.set_cons_zero, List.set_cons_succ]
      refine anyN_take (v := ?_) 11 rfl (by kernel_rfl) (by kernel_rfl) (by kernel_rfl) (fun _ _ _ h => h) (Or.inl ⟨by rfl, ?_⟩) ?_
      rotate_left
      focus
        intro w9
        go_simp
        try with_reducible rfl
      try simp only [Act.put, List.setIfInBounds_toArray, List.set_cons_zero, List.set_cons_succ]
      refine anyN_take (v := ?_) 12 rfl (by kernel_rfl) (by kernel_rfl) (by kernel_rfl) (fun _ _ _ h => h) (Or.inl ⟨by rfl, ?_⟩) ?_
      rotate_left
      focus
        intro w9
        go_simp
        try with_reducible rfl
      try simp only [Act.put, List.setIfInBounds_toArray, List.set_cons_zero, List.set_cons_succ]
      refine wpAny_ready (rs := [13]) (by kernel_rfl) (by simp) ?_
      refine anyN_cons 13 rfl (by rfl) (fun K hK => ?_) AllReady.nil
      go_simp
      refine hK.out _ _ ?_
      clear hK K
      try simp only [Act.put, List.setIfInBounds_toArray, List.set_cons_zero, List.set_cons_succ]
      refine wpAny_ready (rs := [14]) (by kernel_rfl) (by simp) ?_
      refine anyN_cons 14 rfl (by rfl) (fun K hK => ?_) AllReady.nil
      go_simp
      refine hK.out _ _ ?_
      clear hK K
      try simp only [Act.put, List.setIfInBounds_toArray, List.set_cons_zero, List.set_cons_succ]
      refine wpAny_ready (rs := [15]) (by kernel_rfl) (by simp) ?_
      refine anyN_cons 15 rfl (by rfl) (fun K hK => ?_) AllReady.nil
      go_simp
      refine hK.out _ _ ?_
      clear hK K
      try simp only [Act.put, List.setIfInBounds_toArray, List.set_cons_zero, List.set_cons_succ]
      refine wpAny_done (by kernel_rfl) ?_ _
      have hbz3 : Below (w.alloc (.cells #[.int .i64 0, .int .i64 0, .float .f64 0, .string ⟨#[]⟩] 39)).heap.size (w.alloc (.cells #[.int .i64 0, .int .i64 0, .float .f64 0, .string ⟨#[]⟩] 39)) w3 := ⟨hb3.os, hb3.tape, hb3.output, hb3.size, hb3.block⟩
      obtain ⟨⟨z0, z1, z2, z3⟩, y0, y1, y2, y3⟩ := vz w w3 _ rfl hbz3
      have HBw3 : Hid (Below w.heap.size w w3) := hbz.trans (hb3.mono (by simp))
      rcases hr3 with ⟨rfl, L, hrr, hown⟩ | ⟨rfl, hrr⟩
      · obtain ⟨y, rfl, hk3⟩ := HR1.out L k3 hrr
        have HY : Hid (r = some (col, y, k + k3)) := by have := HF2.out; rw [hrr] at this; exact this
        rcases hown.form with ⟨_, h⟩ | ⟨g3, cap3, rfl, hg3, hg3'⟩
        · cases h
        obtain ⟨⟨x0, x1, x2, x3⟩, _⟩ := hown.at rfl 0 (by simp)
        simp only [List.getElem_cons_zero, Nat.zero_mul, Nat.zero_add] at x0 x1 x2 x3
        clear hown hrr HF2 HR1 hb3 hbz3
        obtain ⟨yk, yn, yf, ys⟩ := y
        have hwk : IntKind.i64.wrap ((k : Int) + (k3 : Int)) = (k : Int) + (k3 : Int) := by rw [IntKind.wrap_i64]; (try unfold wrap64); omega
        dsimp only at x0 x1 x2 x3
        simp only [List.length_cons, List.length_nil] at *
        go_wp2_with fail
        refine wp_region_any (by kernel_rfl) ?_
        change wpAny _ _ _ _ _ _ _ (World.drew _)
        refine anyN_take (v := ?_) 0 rfl (by kernel_rfl) (by kernel_rfl) (by kernel_rfl) (fun _ _ _ h => h) (Or.inl ⟨by rfl, ?_⟩) ?_
        rotate_left
        focus
          intro w9
          go_simp
          try with_reducible rfl
        try simp only [Act.put, List.setIfInBounds_toArray, List.set_cons_zero, List.set_cons_succ]
        refine anyN_take (v := ?_) 1 rfl (by kernel_rfl) (by kernel_rfl) (by kernel_rfl) (fun _ _ _ h => h) (Or.inl ⟨by rfl, ?_⟩) ?_
        rotate_left
        focus
          intro w9
          go_simp
          try with_reducible rfl
        try simp only [Act.put, List.setIfInBounds_toArray, List.set_cons_zero, List.set_cons_succ]
        refine anyN_take (v := ?_) 2 rfl (by kernel_rfl) (by kernel_rfl) (by kernel_rfl) (fun _ _ _ h => h) (Or.inl ⟨by rfl, ?_⟩) ?_
        rotate_left
        focus
          intro w9
          go_simp
          try with_reducible rfl
        try simp only [Act.put, List.setIfInBounds_toArray, List.set_cons_zero, List.set_cons_succ]
        refine anyN_take (v := ?_) 4 rfl (by kernel_rfl) (by kernel_rfl) (by kernel_rfl) (fun _ _ _ h => h) (Or.inl ⟨by rfl, ?_⟩) ?_
        rotate_left
        focus
          intro w9
          go_simp
          try with_reducible rfl
        try simp only [Act.put, List.setIfInBounds_toArray, List.set_cons_zero, List.set_cons_succ]
        refine anyN_take (v := ?_) 5 rfl (by kernel_rfl) (by kernel_rfl) (by kernel_rfl) (fun _ _ _ h => h) (Or.inl ⟨by rfl, ?_⟩) ?_
        rotate_left
        focus
          intro w9
          go_simp
          try with_reducible rfl
        try simp only [Act.put, List.setIfInBounds_toArray, List.set_cons_zero, List.set_cons_succ]
        refine anyN_take (v := ?_) 6 rfl (by kernel_rfl) (by kernel_rfl) (by kernel_rfl) (fun _ _ _ h => h) (Or.inl ⟨by rfl, ?_⟩) ?_
        rotate_left
        focus
          intro w9
          go_simp
          try with_reducible rfl
        try simp only [Act.put, List.setIfInBounds_toArray, List.set_cons_zero, List.set_cons_succ]
        refine anyN_take (v := ?_) 7 rfl (by kernel_rfl) (by kernel_rfl) (by kernel_rfl) (fun _ _ _ h => h) (Or.inl ⟨by rfl, ?_⟩) ?_
        rotate_left
        focus
          intro w9
          go_simp
          try with_reducible rfl
        try simp only [Act.put, List.setIfInBounds_toArray, List.set_cons_zero, List.set_cons_succ]
        refine wpAny_ready (rs := [3]) (by kernel_rfl) (by simp) ?_
        refine anyN_cons 3 rfl (by rfl) (fun K hK => ?_) AllReady.nil
        go_simp
        refine hK.out _ _ ?_
        clear hK K
        try simp only [Act.put, List.setIfInBounds_toArray, List.set_cons_zero, List.set_cons_succ]
        refine wpAny_ready (rs := [8]) (by kernel_rfl) (by simp) ?_
        refine anyN_cons 8 rfl (by rfl) (fun K hK => ?_) AllReady.nil
        go_simp
        refine hK.out _ _ ?_
        clear hK K
        try simp only [Act.put, List.setIfInBounds_toArray, List.set_cons_zero, List.set_cons_succ]
        refine wpAny_ready (rs := [9]) (by kernel_rfl) (by simp) ?_
        refine anyN_cons 9 rfl (by rfl) (fun K hK => ?_) AllReady.nil
        go_simp
        refine hK.out _ _ ?_
        clear hK K
        try simp only [Act.put, List.setIfInBounds_toArray, List.set_cons_zero, List.set_cons_succ]
        refine wpAny_ready (rs := [10]) (by kernel_rfl) (by simp) ?_
        refine anyN_cons 10 rfl (by rfl) (fun K hK => ?_) AllReady.nil
        go_simp
        refine hK.out _ _ ?_
        clear hK K
        try simp only [Act.put, List.setIfInBounds_toArray, List.set_cons_zero, List.set_cons_succ]
        refine wpAny_done (by kernel_rfl) ?_ _
        go_wp2_with fail
        refine bodyPost_ret (v := .tuple #[.int .i64 (col : Int), .agg #[.int .i64 yk, .int .i64 yn, .float .f64 yf, .string ys], .int .i64 ((k + k3 : Nat) : Int), .bool true]) (by simp [results, Tryz.results10, go_sem, z0, z1, z2, z3]) rfl ?_
        exact ⟨col, ⟨yk, yn, yf, ys⟩, k + k3, true, rfl, .inl ⟨rfl, HY.out⟩, by go_grown; all_goals exact HBw3.out⟩
      · have HN : Hid (r = none) := by have := HF2.out; rw [hrr] at this; exact this
        clear HF2 HR1 hrr hb3 hbz3 HBw
        have HBw := HBw3
        go_wp2_with fail
        refine bodyPost_ret (v := .tuple #[.int .i64 0, zV.val, .int .i64 0, .bool false]) (by simp [results, Tryz.results10, go_sem, zV, Vl.val, z0, z1, z2, z3]) rfl ?_
        exact StepP.no rfl HN.out (by go_grown; all_goals exact HBw.out)
  · have HN : Hid (r = none) := by have := HF.out; rw [if_pos (.inl hv)] at this; exact this
    clear HF
    go_wp2_with fail
    refine bodyPost_ret (v := .tuple #[.int .i64 0, zV.val, .int .i64 0, .bool false]) (by simp [results, Tryz.results10, go_sem, zV, Vl.val, go_sem]) rfl ?_
    exact StepP.no rfl HN.out (by go_grown; all_goals exact HBw.out)

end Go.Proofs.YtinlgaefgedmcaaGreatDoor
