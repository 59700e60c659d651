/- Layer 19: sort.Search with closures; within: from where up to where rising items are in a range. Layer 19, the document's side: how often an item was written. -/
import Derived.Shelf.Abstract
import Derived.Test.YtncfejndmlcidaaGreatGWGr2
namespace Go.Proofs.YtncfejndmlcidaaGreat
open Go.RowKit
set_option maxRecDepth 100000

abbrev rngV (lo hi : ByteArray) (op : Bool) : Value := .agg #[.string lo, .string hi, .bool op]
set_option maxHeartbeats 1000000 in
theorem has_any (lo hi : ByteArray) (op : Bool) (k : ByteArray) (w : World) :
    Calls Tryz.prog 98 #[rngV lo hi op, .string k] w fun e w' => e = .returned (.bool (hasB lo hi op k)) ∧ Below w.heap.size w w' := by
  unfold hasB ltB
  cases h1 : Op.bytesLess k.toList lo.toList <;> cases op <;> cases h2 : Op.bytesLess k.toList hi.toList
  all_goals
    go_enter Tryz.func98, Tryz.ntmps98
    go_wp2
    go_ret
    exact ⟨rfl, by go_grown⟩
set_option maxHeartbeats 4000000 in
theorem search2_any (fid : FuncId) (k1 k2 : Value) (P : Nat → Bool) (n : Nat) (w : World) (hin : ∀ args w, (callFunc fid args).run Tryz.prog w = .ok (.enter fid args) w) (hn : n ≤ 4398046511104) (hmo : ∀ i j, i ≤ j → j < n → P i = true → P j = true)
    (HC : ∀ (i : Nat) (w1 : World), i < n → Below w.heap.size w w1 → Calls Tryz.prog fid #[.int .i64 (i : Nat), k1, k2] w1 fun e w' => e = .returned (.bool (P i)) ∧ Below w1.heap.size w1 w') :
    Calls Tryz.prog 126 #[.int .i64 (n : Nat), .func (.func fid) #[] #[k1, k2]] w fun e w' => ∃ r : Nat, e = .returned (.int .i64 (r : Nat)) ∧ r ≤ n ∧ (∀ k, k < r → P k = false) ∧ (∀ k, r ≤ k → k < n → P k = true) ∧ Below w.heap.size w w' := by
  have HF : Hid (∀ (i : Nat) (w1 : World), i < n → Below w.heap.size w w1 → Calls Tryz.prog fid #[.int .i64 (i : Nat), k1, k2] w1 fun e w' => e = .returned (.bool (P i)) ∧ Below w1.heap.size w1 w') := HC
  have HM : Hid (∀ i j, i ≤ j → j < n → P i = true → P j = true) := hmo
  clear HC hmo
  go_enter Tryz.func126, Tryz.ntmps126
  go_wp2_with fail
  go_loopw [5, 6] (fun a b wr => ∃ i j : Nat, a = .int .i64 (i : Int) ∧ b = .int .i64 (j : Int) ∧ i ≤ j ∧ j ≤ n ∧ Hid (∀ k, k < i → P k = false) ∧ Hid (∀ k, j ≤ k → k < n → P k = true) ∧ Hid (Below w.heap.size w wr)) (fun a b _ => (intOf b).toNat - (intOf a).toNat)
  case atStart => exact ⟨0, n, by go_num, rfl, Nat.zero_le _, Nat.le_refl _, fun k h => absurd h (by omega), fun k h1 h2 => absurd h1 (by omega), Below.refl _ _⟩
  case round =>
    obtain ⟨i, j, rfl, rfl, hij, hj, hA, hB, HW⟩ := hrel
    by_cases h0 : i = j
    · subst h0
      go_wp2_with fail
      go_ret
      exact ⟨i, rfl, hj, hA.out, hB.out, HW.out⟩
    · have hl : i < j := by omega
      obtain ⟨m, hm⟩ : ∃ m : Nat, m = (i + j) / 2 := ⟨_, rfl⟩
      have hmi : ((i : Int) + (j : Int)) / 2 = ((m : Nat) : Int) := by omega
      have hm1 : m < n := by omega
      have hm2 : i ≤ m ∧ m < j := by omega
      have CM : Hid (Calls _ _ _ _ _) := HF.out m wr hm1 HW.out
      have HQ : Hid (i ≤ m ∧ m < j) := hm2
      clear hm hm2
      go_wp2_with fail
      clear hmi
      refine CM.out.mono ?_
      rintro e w2 ⟨rfl, hb2⟩
      clear CM
      have HW2 : Hid (Below w.heap.size w w2) := HW.out.trans (hb2.mono HW.out.size)
      clear hb2 HW
      cases hx : P m
      · have HA2 : Hid (∀ k, k < m + 1 → P k = false) := fun k hk => by
          cases h1 : P k
          · rfl
          · have := HM.out k m (by omega) hm1 h1
            rw [hx] at this
            cases this
        clear hx hA
        go_wp2_with fail
        go_roundw
        case rel => exact ⟨m + 1, j, by go_num, rfl, by have := HQ.out; omega, hj, HA2, hB, HW2⟩
        case measure => simp [intOf]; have := HQ.out; omega
      · have HB2 : Hid (∀ k, m ≤ k → k < n → P k = true) := fun k h1 h2 => HM.out m k h1 h2 hx
        clear hx hB
        go_wp2_with fail
        go_roundw
        case rel => exact ⟨i, m, rfl, rfl, HQ.out.1, by have := HQ.out; omega, hA, HB2, HW2⟩
        case measure => simp [intOf]; have := HQ.out; omega
set_option maxHeartbeats 4000000 in
theorem search3_any (fid : FuncId) (k1 k2 k3 : Value) (P : Nat → Bool) (n : Nat) (w : World) (hin : ∀ args w, (callFunc fid args).run Tryz.prog w = .ok (.enter fid args) w) (hn : n ≤ 4398046511104) (hmo : ∀ i j, i ≤ j → j < n → P i = true → P j = true)
    (HC : ∀ (i : Nat) (w1 : World), i < n → Below w.heap.size w w1 → Calls Tryz.prog fid #[.int .i64 (i : Nat), k1, k2, k3] w1 fun e w' => e = .returned (.bool (P i)) ∧ Below w1.heap.size w1 w') :
    Calls Tryz.prog 126 #[.int .i64 (n : Nat), .func (.func fid) #[] #[k1, k2, k3]] w fun e w' => ∃ r : Nat, e = .returned (.int .i64 (r : Nat)) ∧ r ≤ n ∧ (∀ k, k < r → P k = false) ∧ (∀ k, r ≤ k → k < n → P k = true) ∧ Below w.heap.size w w' := by
  have HF : Hid (∀ (i : Nat) (w1 : World), i < n → Below w.heap.size w w1 → Calls Tryz.prog fid #[.int .i64 (i : Nat), k1, k2, k3] w1 fun e w' => e = .returned (.bool (P i)) ∧ Below w1.heap.size w1 w') := HC
  have HM : Hid (∀ i j, i ≤ j → j < n → P i = true → P j = true) := hmo
  clear HC hmo
  go_enter Tryz.func126, Tryz.ntmps126
  go_wp2_with fail
  go_loopw [5, 6] (fun a b wr => ∃ i j : Nat, a = .int .i64 (i : Int) ∧ b = .int .i64 (j : Int) ∧ i ≤ j ∧ j ≤ n ∧ Hid (∀ k, k < i → P k = false) ∧ Hid (∀ k, j ≤ k → k < n → P k = true) ∧ Hid (Below w.heap.size w wr)) (fun a b _ => (intOf b).toNat - (intOf a).toNat)
  case atStart => exact ⟨0, n, by go_num, rfl, Nat.zero_le _, Nat.le_refl _, fun k h => absurd h (by omega), fun k h1 h2 => absurd h1 (by omega), Below.refl _ _⟩
  case round =>
    obtain ⟨i, j, rfl, rfl, hij, hj, hA, hB, HW⟩ := hrel
    by_cases h0 : i = j
    · subst h0
      go_wp2_with fail
      go_ret
      exact ⟨i, rfl, hj, hA.out, hB.out, HW.out⟩
    · have hl : i < j := by omega
      obtain ⟨m, hm⟩ : ∃ m : Nat, m = (i + j) / 2 := ⟨_, rfl⟩
      have hmi : ((i : Int) + (j : Int)) / 2 = ((m : Nat) : Int) := by omega
      have hm1 : m < n := by omega
      have hm2 : i ≤ m ∧ m < j := by omega
      have CM : Hid (Calls _ _ _ _ _) := HF.out m wr hm1 HW.out
      have HQ : Hid (i ≤ m ∧ m < j) := hm2
      clear hm hm2
      go_wp2_with fail
      clear hmi
      refine CM.out.mono ?_
      rintro e w2 ⟨rfl, hb2⟩
      clear CM
      have HW2 : Hid (Below w.heap.size w w2) := HW.out.trans (hb2.mono HW.out.size)
      clear hb2 HW
      cases hx : P m
      · have HA2 : Hid (∀ k, k < m + 1 → P k = false) := fun k hk => by
          cases h1 : P k
          · rfl
          · have := HM.out k m (by omega) hm1 h1
            rw [hx] at this
            cases this
        clear hx hA
        go_wp2_with fail
        go_roundw
        case rel => exact ⟨m + 1, j, by go_num, rfl, by have := HQ.out; omega, hj, HA2, hB, HW2⟩
        case measure => simp [intOf]; have := HQ.out; omega
      · have HB2 : Hid (∀ k, m ≤ k → k < n → P k = true) := fun k h1 h2 => HM.out m k h1 h2 hx
        clear hx hB
        go_wp2_with fail
        go_roundw
        case rel => exact ⟨i, m, rfl, rfl, HQ.out.1, by have := HQ.out; omega, hA, HB2, HW2⟩
        case measure => simp [intOf]; have := HQ.out; omega
theorem SlG.cellX {B : Nat} {w : World} {p : Option Addr} {n c : Nat} {L : List ByteArray} (h : SlG encX 1 B w (.slice p n c) L) (i : Nat) (hi : i < L.length) : n = L.length ∧ n ≤ c ∧ ∃ b o, p = some ⟨b, o, none⟩ ∧ b < B ∧ w.cell? ⟨b, o + i, none⟩ = some (.string L[i]) := by
  obtain ⟨p', c', e, h1, _, h3⟩ := h.f
  cases e
  obtain ⟨b, o, e, hb, hc⟩ := h3 i hi
  have h4 := hc 0 _ rfl
  rw [Nat.mul_one] at h4
  exact ⟨rfl, h1, b, o, e, hb, h4⟩
set_option maxHeartbeats 4000000 in
theorem within1_any (ob ib : Nat) (lo : ByteArray) (v : Value) (L : List ByteArray) (i : Nat) (hi : i < L.length) (w : World) (ho : Blk w ob #[.string lo, .string ⟨#[]⟩, .bool true] 47) (hv : Blk w ib #[v] 68) (hL : SlG encX 1 w.heap.size w v L) :
    Calls Tryz.prog 127 #[.int .i64 (i : Nat), ptr1 ob, ptr1 ib] w fun e w' => e = .returned (.bool (hasB lo ⟨#[]⟩ true L[i])) ∧ Below w.heap.size w w' := by
  obtain ⟨p, c, rfl, _, _, _⟩ := hL.f
  obtain ⟨_, hc, b, o, rfl, hb, d0⟩ := hL.cellX i hi
  have HC : Hid (∀ w1 : World, Calls _ _ _ _ _) := fun w1 => has_any lo ⟨#[]⟩ true L[i] w1
  have HF : Hid (∀ w' : World, Below w.heap.size w w' → w'.cell? ⟨ob, 0, none⟩ = some (.string lo) ∧ w'.cell? ⟨ob, 1, none⟩ = some (.string ⟨#[]⟩) ∧ w'.cell? ⟨ob, 2, none⟩ = some (.bool true) ∧ w'.cell? ⟨ib, 0, none⟩ = some (.slice (some ⟨b, o, none⟩) L.length c) ∧ w'.cell? ⟨b, o + i, none⟩ = some (.string L[i])) := fun w' h =>
    ⟨(ho.on h).cell rfl, (ho.on h).cell rfl, (ho.on h).cell rfl, (hv.on h).cell rfl, (h.cell (p := ⟨b, o + i, none⟩) hb).trans d0⟩
  have HBw : Hid (Below w.heap.size w w) := Below.refl _ _
  have hi2 : (i : Int) < (L.length : Int) := by omega
  clear ho hv hL d0 hb
  generalize hasB lo ⟨#[]⟩ true L[i] = R at *
  generalize L[i] = x at *
  go_enter Tryz.func127, Tryz.ntmps127
  go_upto_region 1 with fail
  haveI := inB_ne w
  have f0 := fun p : InB w => (HF.out p.w' (HBw.out.trans (p.h.mono HBw.out.size))).1
  have f1 := fun p : InB w => (HF.out p.w' (HBw.out.trans (p.h.mono HBw.out.size))).2.1
  have f2 := fun p : InB w => (HF.out p.w' (HBw.out.trans (p.h.mono HBw.out.size))).2.2.1
  have f3 := fun p : InB w => (HF.out p.w' (HBw.out.trans (p.h.mono HBw.out.size))).2.2.2.1
  have f4 := fun p : InB w => (HF.out p.w' (HBw.out.trans (p.h.mono HBw.out.size))).2.2.2.2
  refine wp_region_inB (by kernel_rfl) (by kernel_rfl) ?_
  repeat (go_big_quiet_step (first | (go_at_call 98; exact Calls.inB (HC.out _))))
  refine wpQuiet_nil ?_
  rintro w2 ⟨⟨w2', hb9⟩, h9⟩
  obtain rfl : w2 = w2' := h9
  have HBw2 : Hid (Below w.heap.size w w2) := HBw.out.trans (hb9.mono HBw.out.size)
  clear hb9 f0 f1 f2 f3 f4
  go_wp2_with fail
  go_ret
  exact ⟨rfl, HBw2.out⟩
set_option maxHeartbeats 4000000 in
theorem within2_any (rb ib tb : Nat) (lo hi : ByteArray) (op : Bool) (v : Value) (L : List ByteArray) (r i : Nat) (hr : r + i < L.length) (hll : L.length ≤ 4398046511104) (w : World) (ho : Blk w rb #[.string lo, .string hi, .bool op] 47) (hv : Blk w ib #[v] 68) (ht : Blk w tb #[.int .i64 (r : Nat)] 3) (hL : SlG encX 1 w.heap.size w v L) :
    Calls Tryz.prog 128 #[.int .i64 (i : Nat), ptr1 rb, ptr1 ib, ptr1 tb] w fun e w' => e = .returned (.bool (!hasB lo hi op L[r + i])) ∧ Below w.heap.size w w' := by
  obtain ⟨p, c, rfl, _, _, _⟩ := hL.f
  obtain ⟨_, hc, b, o, rfl, hb, d0⟩ := hL.cellX (r + i) hr
  have HC : Hid (∀ w1 : World, Calls _ _ _ _ _) := fun w1 => has_any lo hi op L[r + i] w1
  obtain ⟨m, hm⟩ : ∃ m, r + i = m := ⟨_, rfl⟩
  have HF : Hid (∀ w' : World, Below w.heap.size w w' → w'.cell? ⟨rb, 0, none⟩ = some (.string lo) ∧ w'.cell? ⟨rb, 1, none⟩ = some (.string hi) ∧ w'.cell? ⟨rb, 2, none⟩ = some (.bool op) ∧ w'.cell? ⟨ib, 0, none⟩ = some (.slice (some ⟨b, o, none⟩) L.length c) ∧ w'.cell? ⟨tb, 0, none⟩ = some (.int .i64 (r : Nat)) ∧ w'.cell? ⟨b, o + m, none⟩ = some (.string L[r + i])) := fun w' h =>
    ⟨(ho.on h).cell rfl, (ho.on h).cell rfl, (ho.on h).cell rfl, (hv.on h).cell rfl, (ht.on h).cell rfl, by rw [← hm]; exact (h.cell (p := ⟨b, o + (r + i), none⟩) hb).trans d0⟩
  have HBw : Hid (Below w.heap.size w w) := Below.refl _ _
  have hi1 : wrap64 ((r : Int) + (i : Int)) = (m : Int) := by simp only [wrap64]; omega
  have hi2 : (m : Int) < (L.length : Int) := by omega
  clear ho hv ht hL d0 hb
  generalize hasB lo hi op L[r + i] = R at *
  generalize L[r + i] = x at *
  clear hr hll hm
  go_enter Tryz.func128, Tryz.ntmps128
  go_upto_region 1 with fail
  haveI := inB_ne w
  have f0 := fun p : InB w => (HF.out p.w' (HBw.out.trans (p.h.mono HBw.out.size))).1
  have f1 := fun p : InB w => (HF.out p.w' (HBw.out.trans (p.h.mono HBw.out.size))).2.1
  have f2 := fun p : InB w => (HF.out p.w' (HBw.out.trans (p.h.mono HBw.out.size))).2.2.1
  have f3 := fun p : InB w => (HF.out p.w' (HBw.out.trans (p.h.mono HBw.out.size))).2.2.2.1
  have f4 := fun p : InB w => (HF.out p.w' (HBw.out.trans (p.h.mono HBw.out.size))).2.2.2.2.1
  have f5 := fun p : InB w => (HF.out p.w' (HBw.out.trans (p.h.mono HBw.out.size))).2.2.2.2.2
  refine wp_region_inB (by kernel_rfl) (by kernel_rfl) ?_
  repeat (go_big_quiet_step (first | (go_at_call 98; exact Calls.inB (HC.out _))))
  refine wpQuiet_nil ?_
  rintro w2 ⟨⟨w2', hb9⟩, h9⟩
  obtain rfl : w2 = w2' := h9
  have HBw2 : Hid (Below w.heap.size w w2) := HBw.out.trans (hb9.mono HBw.out.size)
  clear hb9 f0 f1 f2 f3 f4 f5
  go_wp2_with fail
  go_ret
  exact ⟨rfl, HBw2.out⟩
/-- from where up to where a test is met -/
def Wit (P : Nat → Bool) (n f u : Nat) : Prop := f ≤ u ∧ u ≤ n ∧ ∀ j, j < n → P j = (decide (f ≤ j) && decide (j < u))
set_option maxHeartbeats 8000000 in
theorem within_any (lo hi : ByteArray) (op : Bool) (v : Value) (L : List ByteArray) (hR : RisS L) (hll : L.length ≤ 4398046511104) (w : World) (hL : SlG encX 1 w.heap.size w v L) :
    Calls Tryz.prog 99 #[v, rngV lo hi op] w fun e w' => ∃ f u : Nat, e = .returned (.tuple #[.int .i64 (f : Nat), .int .i64 (u : Nat)]) ∧ f ≤ u ∧ u ≤ L.length ∧ (∀ j (hj : j < L.length), hasB lo hi op L[j] = (decide (f ≤ j) && decide (j < u))) ∧ (∀ j (hj : j < L.length), hasB lo ⟨#[]⟩ true L[j] = decide (f ≤ j)) ∧ Below w.heap.size w w' := by
  have hlt : ∀ i j (hi : i < L.length) (hj : j < L.length), i < j → ltB L[i] L[j] = true := fun i j hi hj hij => List.pairwise_iff_getElem.1 hR i j hi hj hij
  have HM1 : Hid (∀ i j, (hij : i ≤ j) → (hj : j < L.length) → hasB lo ⟨#[]⟩ true (L[i]'(by omega)) = true → hasB lo ⟨#[]⟩ true L[j] = true) := fun i j hij hj h => by
    unfold hasB at h ⊢
    simp only [Bool.true_or, Bool.and_true, Bool.not_eq_true'] at h ⊢
    rcases Nat.lt_or_ge i j with h1 | h1
    · cases h2 : ltB L[j] lo
      · rfl
      · have := ltB_trans (hlt i j (by omega) hj h1) h2
        rw [h] at this
        cases this
    · have e : i = j := by omega
      subst e
      exact h
  have HM2 : Hid (∀ i j, (hij : i ≤ j) → (hj : j < L.length) → hasB lo ⟨#[]⟩ true (L[i]'(by omega)) = true → (!hasB lo hi op (L[i]'(by omega))) = true → (!hasB lo hi op L[j]) = true) := fun i j hij hj h0 h => by
    have h0j := HM1.out i j hij hj h0
    unfold hasB at h h0 h0j ⊢
    simp only [Bool.true_or, Bool.and_true, Bool.not_eq_true'] at h0 h0j
    rw [h0] at h
    rw [h0j]
    simp only [Bool.not_false, Bool.true_and, Bool.not_eq_true', Bool.or_eq_false_iff] at h ⊢
    refine ⟨h.1, ?_⟩
    rcases Nat.lt_or_ge i j with h1 | h1
    · cases h2 : ltB L[j] hi
      · rfl
      · have := ltB_trans (hlt i j (by omega) hj h1) h2
        rw [h.2] at this
        cases this
    · have e : i = j := by omega
      subst e
      exact h.2
  have HSL : Hid (SlG encX 1 w.heap.size w v L) := hL
  obtain ⟨p, c, rfl, hnc, _, _⟩ := hL.f
  have hin1 : ∀ args w, (callFunc 127 args).run Tryz.prog w = .ok (.enter 127 args) w := enters_of Tryz.func127 (by kernel_rfl) rfl
  have hin2 : ∀ args w, (callFunc 128 args).run Tryz.prog w = .ok (.enter 128 args) w := enters_of Tryz.func128 (by kernel_rfl) rfl
  obtain ⟨w1, hw1⟩ : ∃ w1, ((w.alloc (.cells #[.slice p L.length c] 68)).alloc (.cells #[.string lo, .string hi, .bool op] 47)).alloc (.cells #[.string lo, .string ⟨#[]⟩, .bool true] 47) = w1 := ⟨_, rfl⟩
  have HB1 : Hid (Below w.heap.size w w1) := by rw [← hw1]; exact (((Below.refl _ _).alloc (Nat.le_refl _) _).alloc (by simp) _).alloc (by simp <;> omega) _
  have hz1 : w1.heap.size = w.heap.size + 3 := by rw [← hw1]; simp
  have HA : Hid (Blk w1 w.heap.size #[.slice p L.length c] 68 ∧ Blk w1 (w.heap.size + 1) #[.string lo, .string hi, .bool op] 47 ∧ Blk w1 (w.heap.size + 2) #[.string lo, .string ⟨#[]⟩, .bool true] 47) := by
    rw [← hw1]
    refine ⟨?_, ?_, ?_⟩
    · exact (Blk.new w _ _).keep (B := w.heap.size + 1) (((Below.refl _ _).alloc (by simp) _).alloc (by simp) _) (by omega)
    · have h := (Blk.new (w.alloc (.cells #[.slice p L.length c] 68)) #[.string lo, .string hi, .bool op] 47).keep (B := w.heap.size + 2) (w' := ((w.alloc (.cells #[.slice p L.length c] 68)).alloc (.cells #[.string lo, .string hi, .bool op] 47)).alloc (.cells #[.string lo, .string ⟨#[]⟩, .bool true] 47)) ((Below.refl _ _).alloc (by simp) _) (by simp)
      simpa using h
    · have h := Blk.new ((w.alloc (.cells #[.slice p L.length c] 68)).alloc (.cells #[.string lo, .string hi, .bool op] 47)) #[.string lo, .string ⟨#[]⟩, .bool true] 47
      simpa using h
  have HC1 : Hid (Calls _ _ _ _ _) := search2_any 127 (ptr1 (w.heap.size + 2)) (ptr1 w.heap.size) (fun j => hasB lo ⟨#[]⟩ true (L.getD j ⟨#[]⟩)) L.length w1 hin1 (by omega)
    (fun i j hij hj h => by
      have e1 : L.getD i ⟨#[]⟩ = L[i]'(by omega) := by simp [List.getD, show i < L.length by omega]
      have e2 : L.getD j ⟨#[]⟩ = L[j]'(by omega) := by simp [List.getD, show j < L.length by omega]
      simp only [e1] at h
      simp only [e2]
      exact HM1.out i j hij (by omega) h)
    (fun i w2 hi hb2 => by
      have e1 : L.getD i ⟨#[]⟩ = L[i]'(by omega) := by simp [List.getD, show i < L.length by omega]
      simp only [e1]
      exact within1_any (w.heap.size + 2) w.heap.size lo _ L i (by omega) w2 (HA.out.2.2.on hb2) (HA.out.1.on hb2) ((HSL.out.on (HB1.out.trans (hb2.mono HB1.out.size))).mono (Nat.le_trans HB1.out.size hb2.size)))
  clear hL hlt hR hin1
  have k0 := HA.out.1.cell (i := 0) rfl
  dsimp only [rngV]
  go_enter Tryz.func99, Tryz.ntmps99
  go_wp2_with fail
  clear hw1
  dsimp only [ptr1] at HC1
  refine HC1.out.mono ?_
  rintro e w2 ⟨r, rfl, hr, hr1, hr2, hb2⟩
  have HBw2 : Hid (Below w1.heap.size w1 w2) := hb2
  clear HC1 hb2
  obtain ⟨w3, hw3⟩ : ∃ w3, w2.alloc (.cells #[.int .i64 (r : Nat)] 3) = w3 := ⟨_, rfl⟩
  have HBw3 : Hid (Below w1.heap.size w1 w3) := by rw [← hw3]; exact HBw2.out.alloc HBw2.out.size _
  have HT3 : Hid (Blk w3 w2.heap.size #[.int .i64 (r : Nat)] 3) := by rw [← hw3]; exact Blk.new w2 _ _
  have HR1 : Hid (r ≤ L.length ∧ (∀ k, k < r → hasB lo ⟨#[]⟩ true (L.getD k ⟨#[]⟩) = false) ∧ (∀ k, r ≤ k → k < L.length → hasB lo ⟨#[]⟩ true (L.getD k ⟨#[]⟩) = true)) := ⟨hr, hr1, hr2⟩
  have hsub : wrap64 ((L.length : Int) - (r : Int)) = ((L.length - r : Nat) : Int) := by simp only [wrap64]; omega
  have HC2 : Hid (Calls _ _ _ _ _) := search3_any 128 (ptr1 (w.heap.size + 1)) (ptr1 w.heap.size) (ptr1 w2.heap.size) (fun j => !hasB lo hi op (L.getD (r + j) ⟨#[]⟩)) (L.length - r) w3 hin2 (by omega)
    (fun i j hij hj h => by
      have e1 : L.getD (r + i) ⟨#[]⟩ = L[r + i]'(by omega) := by simp [List.getD, show r + i < L.length by omega]
      have e2 : L.getD (r + j) ⟨#[]⟩ = L[r + j]'(by omega) := by simp [List.getD, show r + j < L.length by omega]
      have h3 := HR1.out.2.2 (r + i) (by omega) (by omega)
      simp only [e1] at h h3
      simp only [e2]
      exact HM2.out (r + i) (r + j) (by omega) (by omega) h3 h)
    (fun i w4 hi4 hb4 => by
      have e1 : L.getD (r + i) ⟨#[]⟩ = L[r + i]'(by omega) := by simp [List.getD, show r + i < L.length by omega]
      simp only [e1]
      have hb14 := HBw3.out.trans (hb4.mono HBw3.out.size)
      exact within2_any (w.heap.size + 1) w.heap.size w2.heap.size lo hi op _ L r i (by omega) hll w4 (HA.out.2.1.on hb14) (HA.out.1.on hb14) (HT3.out.on hb4) ((HSL.out.on (HB1.out.trans (hb14.mono HB1.out.size))).mono (Nat.le_trans HB1.out.size hb14.size)))
  have hne : w2.heap.size ≠ w.heap.size := by have := HBw2.out.size; omega
  have k1 := (HA.out.1.on HBw2.out).cell (i := 0) rfl
  have k2 := (HA.out.1.on HBw3.out).cell (i := 0) rfl
  have k3 := HT3.out.cell (i := 0) rfl
  have HK2 : Hid (w2.heap.size < w3.heap.size) := HT3.out.lt
  clear hr hr1 hr2 hin2 k0
  go_wp2_with fail
  dsimp only [ptr1] at HC2
  refine HC2.out.mono ?_
  rintro e w4 ⟨q, rfl, hq, hq1, hq2, hb4⟩
  have HBw4 : Hid (Below w1.heap.size w1 w4) := HBw3.out.trans (hb4.mono HBw3.out.size)
  have HF : Hid (∀ w' : World, Below w4.heap.size w4 w' → w'.cell? ⟨w2.heap.size, 0, none⟩ = some (.int .i64 (r : Nat))) := fun w' h => (HT3.out.on (hb4.trans (h.mono hb4.size))).cell rfl
  have HQ : Hid (r ≤ r + q ∧ r + q ≤ L.length ∧ ∀ j, j < L.length → hasB lo hi op (L.getD j ⟨#[]⟩) = (decide (r ≤ j) && decide (j < r + q))) := by
    have h1 := HR1.out
    refine ⟨by omega, by omega, fun j hj => ?_⟩
    by_cases hrj : r ≤ j
    · by_cases hjq : j < r + q
      · have h3 := hq1 (j - r) (by omega)
        rw [show r + (j - r) = j by omega] at h3
        simp only [Bool.not_eq_false'] at h3
        rw [h3]
        simp [hrj, hjq]
      · have h3 := hq2 (j - r) (by omega) (by omega)
        rw [show r + (j - r) = j by omega] at h3
        simp only [Bool.not_eq_true'] at h3
        rw [h3]
        simp [hjq]
    · have h3 := h1.2.1 j (by omega)
      have : hasB lo hi op (L.getD j ⟨#[]⟩) = false := by
        unfold hasB at h3 ⊢
        simp only [Bool.true_or, Bool.and_true] at h3
        rw [h3]
        rfl
      rw [this]
      simp [hrj]
  have hadd : wrap64 ((r : Int) + (q : Int)) = ((r + q : Nat) : Int) := by have := HQ.out; simp only [wrap64]; omega
  clear hb4 hq1 hq2 hq HC2 k1 k2 k3 hsub hne hw3
  go_upto_region 4 with fail
  have HBw4' : Hid (Below w4.heap.size w4 w4) := Below.refl _ _
  haveI := inB_ne w4
  have f0 := fun p : InB w4 => HF.out p.w' p.h
  refine wp_region_inB (by kernel_rfl) (by kernel_rfl) ?_
  repeat (go_big_quiet_step (fail))
  refine wpQuiet_nil ?_
  rintro w5 ⟨⟨w5', hb9⟩, h9⟩
  obtain rfl : w5 = w5' := h9
  clear f0
  go_wp2_with fail
  go_ret2
  refine ⟨r, r + q, by simp [hadd], HQ.out.1, HQ.out.2.1, fun j hj => ?_, fun j hj => ?_, HB1.out.trans ((HBw4.out.trans (hb9.mono HBw4.out.size)).mono HB1.out.size)⟩
  · have h3 := HQ.out.2.2 j hj
    rw [← h3]
    simp [List.getD, hj]
  · have e1 : L.getD j ⟨#[]⟩ = L[j] := by simp [List.getD, hj]
    by_cases hrj : r ≤ j
    · rw [decide_eq_true hrj, ← e1]
      exact HR1.out.2.2 j hrj hj
    · rw [decide_eq_false hrj, ← e1]
      exact HR1.out.2.1 j (by omega)
/-- how many stand ahead of a range -/
def wiF (lo : ByteArray) (L : List ByteArray) : Nat := L.countP (fun x => !hasB lo ⟨#[]⟩ true x)
def wiN (lo hi : ByteArray) (op : Bool) (L : List ByteArray) : Nat := (L.filter (hasB lo hi op)).length
theorem count_split (P : ByteArray → Bool) (f : Nat) : ∀ (L : List ByteArray) (m : Nat), (∀ j (hj : j < L.length), P L[j] = decide (f ≤ m + j)) → f ≤ m + L.length → L.countP (fun x => !P x) = f - m
  | [], m, _, h => by simp at h; simp; omega
  | x :: L, m, h, h2 => by
    have h0 := h 0 (by simp)
    have ih := count_split P f L (m + 1) (fun j hj => by
      have := h (j + 1) (by simpa using hj)
      simp only [List.getElem_cons_succ] at this
      rw [this, show m + (j + 1) = m + 1 + j by omega]) (by simp only [List.length_cons] at h2; omega)
    simp only [List.getElem_cons_zero, Nat.add_zero] at h0
    rw [List.countP_cons, ih, h0]
    by_cases hx : f ≤ m
    · rw [decide_eq_true hx]
      simp
      omega
    · rw [decide_eq_false hx]
      simp
      omega
theorem filter_len (P : ByteArray → Bool) (f u : Nat) : ∀ (L : List ByteArray) (m : Nat), (∀ j (hj : j < L.length), P L[j] = (decide (f ≤ m + j) && decide (m + j < u))) → f ≤ u → u ≤ m + L.length → (L.filter P).length = u - max f m
  | [], m, _, h1, h2 => by simp at h2; simp; omega
  | x :: L, m, h, h1, h2 => by
    have h0 := h 0 (by simp)
    simp only [List.getElem_cons_zero, Nat.add_zero] at h0
    rw [List.filter_cons]
    by_cases hu : u ≤ m
    · have hz : (L.filter P).length = 0 := by
        rw [List.length_eq_zero_iff, List.filter_eq_nil_iff]
        intro y hy
        obtain ⟨j, hj, rfl⟩ := List.getElem_of_mem hy
        have := h (j + 1) (by simpa using hj)
        simp only [List.getElem_cons_succ] at this
        rw [this]
        simp; omega
      have : ¬ P x = true := by rw [h0]; simp; omega
      rw [if_neg this, hz]
      omega
    · have ih := filter_len P f u L (m + 1) (fun j hj => by
        have := h (j + 1) (by simpa using hj)
        simp only [List.getElem_cons_succ] at this
        rw [this, show m + (j + 1) = m + 1 + j by omega]) h1 (by simp only [List.length_cons] at h2; omega)
      by_cases hx : f ≤ m ∧ m < u
      · have : P x = true := by rw [h0]; simp [hx.1, hx.2]
        rw [if_pos this, List.length_cons, ih]
        omega
      · have : ¬ P x = true := by rw [h0]; simp; omega
        rw [if_neg this, ih]
        omega
theorem within_det (lo hi : ByteArray) (op : Bool) (v : Value) (L : List ByteArray) (hR : RisS L) (hll : L.length ≤ 4398046511104) (w : World) (hL : SlG encX 1 w.heap.size w v L) :
    Calls Tryz.prog 99 #[v, rngV lo hi op] w fun e w' => e = .returned (.tuple #[.int .i64 (wiF lo L : Nat), .int .i64 ((wiF lo L + wiN lo hi op L : Nat) : Int)]) ∧ Below w.heap.size w w' := by
  refine (within_any lo hi op v L hR hll w hL).mono ?_
  rintro e w' ⟨f, u, rfl, h1, h2, h3, h4, h5⟩
  have e1 : wiF lo L = f := by
    have := count_split (hasB lo ⟨#[]⟩ true) f L 0 (fun j hj => by rw [h4 j hj, Nat.zero_add]) (by omega)
    unfold wiF
    omega
  have e2 : wiN lo hi op L = u - f := by
    have := filter_len (hasB lo hi op) f u L 0 (fun j hj => by rw [h3 j hj, Nat.zero_add]) h1 (by omega)
    unfold wiN
    omega
  rw [e1, e2, show f + (u - f) = u by omega]
  exact ⟨rfl, h5⟩
theorem wiFN_le (lo hi : ByteArray) (op : Bool) (L : List ByteArray) : wiF lo L ≤ L.length ∧ wiN lo hi op L ≤ L.length := ⟨List.countP_le_length, List.length_filter_le _ _⟩

end Go.Proofs.YtncfejndmlcidaaGreat

namespace Go.Proofs.YtncfejndmlcidaaGreat
open Go.RowKit
set_option maxRecDepth 100000

theorem wr_take (L : List Ac) (k : Nat) (hk : k < L.length) (t : Int) (x : ByteArray) : wr (L.take (k + 1)) t x = wr (L.take k) t x + (if isW t x L[k] then 1 else 0) := by
  rw [List.take_succ_eq_append_getElem hk, wr_snoc]
theorem isW_at {L : List Ac} {k : Nat} {a : Ac} (h : ∃ h : k < L.length, L[k] = a) (t : Int) (x : ByteArray) {R : Bool} (hR : isW t x a = R) : wr (L.take (k + 1)) t x = wr (L.take k) t x + (if R = true then 1 else 0) := by
  obtain ⟨h1, h2⟩ := h
  rw [wr_take L k h1, h2, hR]
set_option maxHeartbeats 4000000 in
theorem writes_any (B : Nat) (v : Value) (Z : List (Ac × Value)) (w : World) (h : RdH B w v Z) (n : Nat) (hn : n ≤ Z.length) (t : Int) (x : ByteArray) :
    Calls Tryz.prog 39 #[v, .int .i64 (n : Nat), .int .i64 t, .string x] w fun e w' => e = .returned (.int .i64 (wr ((Z.map (·.1)).take n) t x : Nat)) ∧ w' = w := by
  obtain ⟨p, c, rfl, hpc, hp0, _⟩ := h.sl.f
  have HR : Hid (RdH B w (.slice p Z.length c) Z) := h
  have hll : Z.length ≤ 1172812402961 := h.ll
  obtain ⟨L, hL⟩ : ∃ L, Z.map (·.1) = L := ⟨_, rfl⟩
  have HL : Hid (Z.map (·.1) = L ∧ Z.length = L.length) := ⟨hL, by rw [← hL]; simp⟩
  rw [hL]
  clear h hL
  go_enter Tryz.func39, Tryz.ntmps39
  go_wp2_with fail
  go_loopw [9, 10] (fun va vb wr1 => ∃ (k m : Nat), va = .int .i64 (m : Int) ∧ vb = .int .i64 (k : Int) ∧ k ≤ n ∧ Hid (m = wr (L.take k) t x) ∧ Hid (wr1 = w)) (fun _ vb _ => n - (intOf vb).toNat)
  case atStart => exact ⟨0, 0, by go_num, by go_num, Nat.zero_le _, rfl, rfl⟩
  case round =>
    obtain ⟨k, m, rfl, rfl, hk, HM, HW⟩ := hrel
    by_cases hk0 : k = n
    · subst hk0
      go_wp2_with fail
      go_ret
      exact ⟨by rw [HM.out]; rfl, HW.out⟩
    · have hk1 : k < n := by omega
      clear hk0
      obtain ⟨b, o, q, d, rfl, hb, e8, hd, k0, k1, k2, -, -, -, -, -, -, -⟩ := HR.out.at k (by omega)
      rw [← HW.out] at k0 k1 k2
      have hkl : k < L.length := by rw [← HL.out.2]; omega
      have HA0 : Hid (∃ h : k < L.length, L[k] = Z[k].1) := ⟨hkl, by simp only [← HL.out.1, List.getElem_map]⟩
      have hm : m ≤ 1172812402961 := by
        have h1 := wr_le (L.take k) t x
        rw [List.length_take] at h1
        have h2 := HM.out
        omega
      generalize Z[k].1 = a at *
      clear hb e8 hd hkl
      obtain ⟨R, hR⟩ : ∃ R, isW t x a = R := ⟨_, rfl⟩
      have HRR : Hid (isW t x a = R) := hR
      clear hR
      have h2 : ((a.it.toList == x.toList) = decide (a.it = x)) := str_eq _ _
      by_cases h4 : a.kd = 4
      · have q4 : (a.kd == 4) = true := by simpa using h4
        by_cases ht : a.tx = t
        · have qt : (a.tx == t) = true := by simpa using ht
          by_cases hi : a.it = x
          · have qi : decide (a.it = x) = true := by simpa using hi
            obtain rfl : R = true := by rw [← HRR.out]; unfold isW; simp [h4, ht, hi]
            clear h4 ht hi
            go_wp2_with fail
            go_roundw
            case rel => exact ⟨k + 1, m + 1, by go_num, by go_num, hk1, by show _ = _; rw [isW_at HA0.out t x HRR.out, HM.out]; rfl, HW.out⟩
            case measure => simp [intOf]; omega
          · have qi : decide (a.it = x) = false := by simpa using hi
            obtain rfl : R = false := by rw [← HRR.out]; unfold isW; simp [h4, ht, hi]
            clear h4 ht hi
            go_wp2_with fail
            go_roundw
            case rel => exact ⟨k + 1, m, by go_num, by go_num, hk1, by show _ = _; rw [isW_at HA0.out t x HRR.out, HM.out]; rfl, HW.out⟩
            case measure => simp [intOf]; omega
        · have qt : (a.tx == t) = false := by simpa using ht
          obtain rfl : R = false := by rw [← HRR.out]; unfold isW; simp [h4, ht]
          clear h4 ht
          go_wp2_with fail
          go_roundw
          case rel => exact ⟨k + 1, m, by go_num, by go_num, hk1, by show _ = _; rw [isW_at HA0.out t x HRR.out, HM.out]; rfl, HW.out⟩
          case measure => simp [intOf]; omega
      · have q4 : (a.kd == 4) = false := by simpa using h4
        obtain rfl : R = false := by rw [← HRR.out]; unfold isW; simp [h4]
        clear h4
        go_wp2_with fail
        go_roundw
        case rel => exact ⟨k + 1, m, by go_num, by go_num, hk1, by show _ = _; rw [isW_at HA0.out t x HRR.out, HM.out]; rfl, HW.out⟩
        case measure => simp [intOf]; omega

end Go.Proofs.YtncfejndmlcidaaGreat
