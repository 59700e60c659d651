/- Logs: the first commit behind a stamp that wrote what is asked for. firstOf: the stamp of the first commit behind a stamp that wrote one of some points. -/
import Derived.Test.YtcknhjabdjbjiabGreatGWNc
namespace Go.Proofs.YtcknhjabdjbjiabGreat
open Go.RowKit
set_option maxRecDepth 100000

/-- the least stamp behind fr of a commit that is meant, or never -/
def IsL (L : List Cm) (fr : Nat) (M : Cm → Prop) (r : Nat) : Prop := (r = 18446744073709551615 ∧ ∀ c ∈ L, fr < c.s → ¬ M c) ∨ ∃ c ∈ L, c.s = r ∧ fr < r ∧ M c ∧ ∀ c' ∈ L, fr < c'.s → M c' → r ≤ c'.s
theorem IsL.ext {L : List Cm} {fr r : Nat} {M N : Cm → Prop} (h : IsL L fr M r) (hMN : ∀ c ∈ L, M c ↔ N c) : IsL L fr N r := by
  rcases h with ⟨e, h⟩ | ⟨c, hc, e, h1, h2, h3⟩
  · exact .inl ⟨e, fun c hc hf hn => h c hc hf ((hMN c hc).2 hn)⟩
  · exact .inr ⟨c, hc, e, h1, (hMN c hc).1 h2, fun c' hc' hf hn => h3 c' hc' hf ((hMN c' hc').2 hn)⟩
theorem IsL.le {L : List Cm} {fr r : Nat} {M : Cm → Prop} (h : IsL L fr M r) (hI : InvC L) : r ≤ 18446744073709551615 := by
  rcases h with ⟨e, _⟩ | ⟨c, hc, e, _⟩
  · omega
  · have := hI.hi c hc
    omega
theorem IsL.min {L : List Cm} {fr r s : Nat} {M N : Cm → Prop} (hI : InvC L) (h : IsL L fr M r) (h2 : IsL L fr N s) : IsL L fr (fun c => M c ∨ N c) (min r s) := by
  rcases h with ⟨e, h⟩ | ⟨c, hc, e, h1, h2', h3⟩
  · rcases h2 with ⟨e2, h2⟩ | ⟨c2, hc2, e2, k1, k2, k3⟩
    · exact .inl ⟨by omega, fun c hc hf hn => hn.elim (h c hc hf) (h2 c hc hf)⟩
    · have := hI.hi c2 hc2
      refine .inr ⟨c2, hc2, by omega, by omega, .inr k2, fun c' hc' hf hn => ?_⟩
      rcases hn with hn | hn
      · exact absurd hn (h c' hc' hf)
      · have := k3 c' hc' hf hn; omega
  · rcases h2 with ⟨e2, h2⟩ | ⟨c2, hc2, e2, k1, k2, k3⟩
    · have := hI.hi c hc
      refine .inr ⟨c, hc, by omega, by omega, .inl h2', fun c' hc' hf hn => ?_⟩
      rcases hn with hn | hn
      · have := h3 c' hc' hf hn; omega
      · exact absurd hn (h2 c' hc' hf)
    · rcases Nat.le_total r s with hrs | hrs
      · refine .inr ⟨c, hc, by omega, by omega, .inl h2', fun c' hc' hf hn => ?_⟩
        rcases hn with hn | hn
        · have := h3 c' hc' hf hn; omega
        · have := k3 c' hc' hf hn; omega
      · refine .inr ⟨c2, hc2, by omega, by omega, .inr k2, fun c' hc' hf hn => ?_⟩
        rcases hn with hn | hn
        · have := h3 c' hc' hf hn; omega
        · have := k3 c' hc' hf hn; omega
theorem IsL.uniq {L : List Cm} {fr r s : Nat} {M : Cm → Prop} (_hI : InvC L) (h : IsL L fr M r) (h2 : IsL L fr M s) : r = s := by
  rcases h with ⟨e, h⟩ | ⟨c, hc, e, h1, h2', h3⟩
  · rcases h2 with ⟨e2, h2⟩ | ⟨c2, hc2, e2, k1, k2, k3⟩
    · omega
    · exact absurd k2 (h c2 hc2 (by omega))
  · rcases h2 with ⟨e2, h2⟩ | ⟨c2, hc2, e2, k1, k2, k3⟩
    · exact absurd h2' (h2 c hc (by omega))
    · have := h3 c2 hc2 (by omega) k2
      have := k3 c hc (by omega) h2'
      omega
theorem mem_sts {L : List Cm} {x : Pt} {s : Nat} : s ∈ stsAt L x ↔ ∃ c ∈ L, x ∈ c.W ∧ c.s = s := by
  unfold stsAt
  simp only [List.mem_map, List.mem_filter, decide_eq_true_eq]
  constructor
  · rintro ⟨c, ⟨h1, h2⟩, h3⟩; exact ⟨c, h1, h2, h3⟩
  · rintro ⟨c, h1, h2, h3⟩; exact ⟨c, ⟨h1, h2⟩, h3⟩
theorem InvC.pw {L : List Cm} (h : InvC L) : L.Pairwise (fun a b => a.s < b.s) := by
  rw [List.pairwise_iff_getElem]
  exact fun i j hi hj hij => h.ris i j hi hj hij
theorem sts_pw {L : List Cm} (h : InvC L) (x : Pt) : (stsAt L x).Pairwise (· < ·) := by
  unfold stsAt
  rw [List.pairwise_map]
  exact h.pw.filter _
theorem sts_ris {L : List Cm} (h : InvC L) (x : Pt) (i j : Nat) (hi : i < (stsAt L x).length) (hj : j < (stsAt L x).length) (hij : i < j) : (stsAt L x)[i] < (stsAt L x)[j] := List.pairwise_iff_getElem.1 (sts_pw h x) i j hi hj hij
theorem sts_len (L : List Cm) (x : Pt) : (stsAt L x).length ≤ L.length := by
  unfold stsAt
  rw [List.length_map]
  exact List.length_filter_le _ _
/-- what a search among a point's stamps says -/
theorem sts_first {L : List Cm} (hI : InvC L) (fr : Nat) (x : Pt) (i : Nat) (hi : i ≤ (stsAt L x).length) (h1 : ∀ k (hk : k < (stsAt L x).length), k < i → (stsAt L x)[k] ≤ fr) (h2 : ∀ k (hk : k < (stsAt L x).length), i ≤ k → fr < (stsAt L x)[k]) :
    IsL L fr (fun c => x ∈ c.W) (if h : i < (stsAt L x).length then (stsAt L x)[i] else 18446744073709551615) := by
  by_cases h : i < (stsAt L x).length
  · rw [dif_pos h]
    have hm := List.getElem_mem h
    obtain ⟨c, hc, hx, hs⟩ := mem_sts.1 hm
    refine .inr ⟨c, hc, hs, h2 i h (Nat.le_refl _), hx, fun c' hc' hf hx' => ?_⟩
    obtain ⟨k, hk, hk2⟩ := List.getElem_of_mem (mem_sts.2 ⟨c', hc', hx', rfl⟩)
    rcases Nat.lt_trichotomy k i with h5 | h5 | h5
    · have := h1 k hk h5; omega
    · subst h5; omega
    · have := sts_ris hI x i k h hk h5; omega
  · rw [dif_neg h]
    refine .inl ⟨rfl, fun c hc hf hx => ?_⟩
    obtain ⟨k, hk, hk2⟩ := List.getElem_of_mem (mem_sts.2 ⟨c, hc, hx, rfl⟩)
    have := h1 k hk (by omega)
    omega
theorem last_le {L : List Cm} (hI : InvC L) (c : Cm) (hc : c ∈ L) : c.s ≤ lastC L := by
  obtain ⟨i, hi, rfl⟩ := List.getElem_of_mem hc
  unfold lastC
  rw [List.getLast?_eq_getElem?, List.getElem?_eq_getElem (by omega)]
  rcases Nat.lt_or_ge i (L.length - 1) with h | h
  · exact Nat.le_of_lt (hI.ris i (L.length - 1) hi (by omega) h)
  · have : i = L.length - 1 := by omega
    subst this
    exact Nat.le_refl _
theorem IsL.none {L : List Cm} (hI : InvC L) {fr : Nat} (h : lastC L ≤ fr) (M : Cm → Prop) : IsL L fr M 18446744073709551615 := .inl ⟨rfl, fun c hc hf => by have := last_le hI c hc; omega⟩

end Go.Proofs.YtcknhjabdjbjiabGreat

namespace Go.Proofs.YtcknhjabdjbjiabGreat
open Go.RowKit
set_option maxRecDepth 100000

theorem zeroUs (w : World) : (zeroValue 54).run Tryz.prog w = .ok (.slice none 0 0) w := by kernel_rfl
theorem MapV.lookU {w : World} {mb : Nat} {E : List (Pt × Value)} (h : MapV w mb E) (x : Pt) :
    (Instr.lookup 47 (.map (some mb)) (PV x) false).run Tryz.prog w = .ok (getV E x) w := by
  obtain ⟨es, c, h1, h2, _⟩ := h.f
  have hf := findV_run x w es.toList E h2
  unfold Instr.lookup getV
  simp only [Sem.run_bind, run_underlying Tryz.underlying47, Result.andThen_ok, MapKept.run_getObj_map h1, Sem.run_pure, run_checkP, hf]
  cases fndV E x with
  | none => simp
  | some p => simp

set_option maxHeartbeats 2000000 in
theorem firstOff_any (sb fb fr i : Nat) (v : Value) (U : List Nat) (w : World) (hU : SlU w v U) (hx : w.cell? ⟨sb, 0, none⟩ = some v) (hf : w.cell? ⟨fb, 0, none⟩ = some (.int .u64 (fr : Nat))) (hi : i < U.length) :
    Calls Tryz.prog 39 #[.int .i64 (i : Nat), ptr1 sb, ptr1 fb] w fun e w' => e = .returned (.bool (decide (fr < U[i]))) ∧ Below w.heap.size w w' := by
  obtain ⟨p, c, rfl, h1, h2, h3⟩ := hU.f
  obtain ⟨b, o, rfl, hb, d0⟩ := h3 i hi
  clear hU h3 h2
  generalize U[i] = x at *
  generalize U.length = n at *
  clear h1
  go_enter Tryz.func39, Tryz.ntmps39
  go_wp2_with fail
  go_quiet (fail)
  go_wp2_with fail
  go_ret
  exact ⟨by first | rfl | simp, drew_below _ _⟩

set_option maxHeartbeats 8000000 in
theorem firstOf_any (lb fr : Nat) (vC : Value) (mb : Nat) (E : List (Pt × Value)) (L : List Cm) (Q : List Pt) (v : Value) (w : World) (hX : LogX w lb vC mb E L) (hQ : SlP w v Q) (hlQ : Q.length ≤ 4398046511104) (_hfr : fr < 18446744073709551616) :
    Calls Tryz.prog 21 #[ptr1 lb, v, .int .u64 (fr : Nat)] w fun e w' => ∃ r : Nat, e = .returned (.int .u64 (r : Nat)) ∧ IsL L fr (fun c => ∃ x ∈ Q, x ∈ c.W) r ∧ Below w.heap.size w w' := by
  obtain ⟨p, c, rfl, h1, h2, h3⟩ := hQ.f
  obtain ⟨w1, hw1⟩ : ∃ w1, w.alloc (.cells #[.int .u64 (fr : Nat)] 23) = w1 := ⟨_, rfl⟩
  have HB1 : Hid (Below w.heap.size w w1) := by rw [← hw1]; exact (Below.refl _ _).alloc (Nat.le_refl _) _
  have HK1 : Hid (Blk w1 w.heap.size #[.int .u64 (fr : Nat)] 23) := by rw [← hw1]; exact Blk.new w _ _
  have HX1 : Hid (LogX w1 lb vC mb E L) := hX.on HB1.out
  have HQ1 : Hid (RowP w1 w1.heap.size p Q) := h3.on HB1.out
  have HI : Hid (InvC L) := hX.inv
  have CL : Hid (∀ w7 : World, Below w1.heap.size w1 w7 → Calls Tryz.prog 27 #[ptr1 lb] w7 fun e w' => e = .returned (.int .u64 (lastC L : Nat)) ∧ Below w7.heap.size w7 w') := fun w7 hb => last_any lb _ _ L w7 (HX1.out.on hb).blk (HX1.out.on hb).com HI.out.len
  have HLa : Hid (lastC L ≤ fr → IsL L fr (fun c => ∃ x ∈ Q, x ∈ c.W) 18446744073709551615) := fun h => IsL.none HI.out h _
  have ne1 := inB_ne w1
  have CL2 : Hid (∀ q : InB w1, Calls Tryz.prog 27 #[ptr1 lb] q.w' fun e w' => e = .returned (.int .u64 (lastC L : Nat)) ∧ Below q.w'.heap.size q.w' w') := fun q => CL.out q.w' q.h
  have g0 := InB.cell (w := w1) (HK1.out.cell (i := 0) rfl) HK1.out.lt
  clear hX hQ h3 CL h1 h2
  generalize lastC L = la at *
  go_enter Tryz.func21, Tryz.ntmps21
  go_wp2_with fail
  refine wp_region_inB (by kernel_rfl) (by kernel_rfl) ?_
  repeat (go_big_quiet_step (first | (go_at_call 27; exact Calls.inB (CL2.out _))))
  refine wpQuiet_nil ?_
  rintro w7 ⟨⟨w2, hb2⟩, h9⟩
  obtain rfl : w7 = w2 := h9
  clear CL2 g0 ne1
  have HB2 : Hid (Below w1.heap.size w1 w7) := hb2
  have HE2 : Hid (Below w.heap.size w w7) := HB1.out.trans (hb2.mono HB1.out.size)
  clear hb2
  by_cases hla : la ≤ fr
  · go_wp2_with fail
    go_ret
    exact ⟨18446744073709551615, rfl, HLa.out hla, HE2.out⟩
  · have hla2 : fr < la := by omega
    clear hla HLa
    go_wp2_with fail
    have HX2 : Hid (LogX w7 lb vC mb E L) := HX1.out.on HB2.out
    have HQ2 : Hid (RowP w7 w7.heap.size p Q) := HQ1.out.on HB2.out
    have HK2 : Hid (Blk w7 w.heap.size #[.int .u64 (fr : Nat)] 23) := HK1.out.on HB2.out
    rw [decide_eq_false (show ¬ la ≤ fr by omega)]
    clear HX1 HQ1 HK1 hw1 HB2 hla2
    go_loopw [7, 18] (fun a i wr => ∃ j r : Nat, j ≤ Q.length ∧ i = .int .i64 (j : Int) ∧ a = .int .u64 (r : Nat) ∧ Hid (IsL L fr (fun c => ∃ x ∈ Q.take j, x ∈ c.W) r) ∧ Hid (Below w7.heap.size w7 wr)) (fun _ i _ => Q.length - (intOf i).toNat)
    case atStart => exact ⟨0, 18446744073709551615, Nat.zero_le _, by go_num, by go_num, .inl ⟨rfl, fun c _ _ h => by simp at h⟩, Below.refl _ _⟩
    case round =>
      obtain ⟨j, r, hj, rfl, rfl, HL, HW⟩ := hrel
      by_cases hj0 : j = Q.length
      · subst hj0
        have HE3 : Hid (Below w.heap.size w wr) := HE2.out.trans (HW.out.mono HE2.out.size)
        go_wp2_with fail
        go_ret
        refine ⟨r, rfl, ?_, HE3.out⟩
        have h := HL.out
        rw [List.take_of_length_le (Nat.le_refl _)] at h
        exact h
      · have hj1 : j < Q.length := by omega
        obtain ⟨b, o, hp, hb, d0, d1, d2⟩ := (HQ2.out.on HW.out) j hj1
        subst hp
        obtain ⟨x, hx⟩ : ∃ x, Q[j] = x := ⟨_, rfl⟩
        have HTk : Hid (Q.take (j + 1) = Q.take j ++ [x]) := by rw [← hx]; exact take_snoc Q j hj1
        rw [hx] at d0 d1 d2
        clear hx
        obtain ⟨wq, hwq⟩ : ∃ wq, wr.alloc (.cells #[.int .i64 x.t, .int .i64 x.i, .string x.k] 36) = wq := ⟨_, rfl⟩
        have HBq : Hid (Below w7.heap.size w7 wq) := by rw [← hwq]; exact HW.out.alloc HW.out.size _
        have HKq : Hid (Blk wq wr.heap.size #[.int .i64 x.t, .int .i64 x.i, .string x.k] 36) := by rw [← hwq]; exact Blk.new wr _ _
        go_upto_region 7 with fail
        clear d0 d1 d2 hwq
        have HXq : Hid (LogX wq lb vC mb E L) := HX2.out.on HBq.out
        obtain ⟨vs, hvs⟩ : ∃ vs, getV E x = vs := ⟨_, rfl⟩
        have HLk : Hid (∀ w9 : World, Below wq.heap.size wq w9 → (Instr.lookup 47 (.map (some mb)) (.agg #[.int .i64 x.t, .int .i64 x.i, .string x.k]) false).run Tryz.prog w9 = .ok vs w9) := fun w9 h9 => by rw [← hvs]; exact (HXq.out.on h9).map.lookU x
        have HU : Hid (SlU wq vs (stsAt L x)) := by rw [← hvs]; exact HXq.out.sts x
        clear hvs
        obtain ⟨pu, cu, evs, -⟩ := HU.out.f
        obtain ⟨nu, hnu⟩ : ∃ nu, (stsAt L x).length = nu := ⟨_, rfl⟩
        rw [hnu] at evs
        subst evs
        have HNu : Hid ((stsAt L x).length = nu) := hnu
        clear hnu
        refine wp_region_L (fun w' => Below wq.heap.size wq w') 7 (by kernel_rfl) ?_
        have HBwd : Hid (Below wq.heap.size wq wq.drew) := (Below.refl _ _).drew
        generalize wq.drew = wd at *
        refine wpL_take (v := ?_) 0 rfl (by kernel_rfl) (fun _ _ _ h => h) (by rfl) ?_ HBwd.out ?_
        rotate_left
        focus
          intro w9 hw9
          have a0 := (HXq.out.on hw9).blk.cell (i := 2) rfl
          have b0 := (HKq.out.on hw9).cell (i := 0) rfl
          have b1 := (HKq.out.on hw9).cell (i := 1) rfl
          have b2 := (HKq.out.on hw9).cell (i := 2) rfl
          have lk := HLk.out w9 hw9
          go_simp
          try with_reducible rfl
        try simp only [Act.put, List.setIfInBounds_toArray, List.set_cons_zero, List.set_cons_succ]
        refine wpL_take (v := ?_) 1 rfl (by kernel_rfl) (fun _ _ _ h => h) (by rfl) ?_ HBwd.out ?_
        rotate_left
        focus
          intro w9 hw9
          have a0 := (HXq.out.on hw9).blk.cell (i := 2) rfl
          have b0 := (HKq.out.on hw9).cell (i := 0) rfl
          have b1 := (HKq.out.on hw9).cell (i := 1) rfl
          have b2 := (HKq.out.on hw9).cell (i := 2) rfl
          have lk := HLk.out w9 hw9
          go_simp
          try with_reducible rfl
        try simp only [Act.put, List.setIfInBounds_toArray, List.set_cons_zero, List.set_cons_succ]
        refine wpL_take (v := ?_) 2 rfl (by kernel_rfl) (fun _ _ _ h => h) (by rfl) ?_ HBwd.out ?_
        rotate_left
        focus
          intro w9 hw9
          have a0 := (HXq.out.on hw9).blk.cell (i := 2) rfl
          have b0 := (HKq.out.on hw9).cell (i := 0) rfl
          have b1 := (HKq.out.on hw9).cell (i := 1) rfl
          have b2 := (HKq.out.on hw9).cell (i := 2) rfl
          have lk := HLk.out w9 hw9
          go_simp
          try with_reducible rfl
        try simp only [Act.put, List.setIfInBounds_toArray, List.set_cons_zero, List.set_cons_succ]
        refine wpL_take (v := ?_) 3 rfl (by kernel_rfl) (fun _ _ _ h => h) (by rfl) ?_ HBwd.out ?_
        rotate_left
        focus
          intro w9 hw9
          have a0 := (HXq.out.on hw9).blk.cell (i := 2) rfl
          have b0 := (HKq.out.on hw9).cell (i := 0) rfl
          have b1 := (HKq.out.on hw9).cell (i := 1) rfl
          have b2 := (HKq.out.on hw9).cell (i := 2) rfl
          have lk := HLk.out w9 hw9
          go_simp
          try with_reducible rfl
        try simp only [Act.put, List.setIfInBounds_toArray, List.set_cons_zero, List.set_cons_succ]
        refine wpL_take (v := ?_) 4 rfl (by kernel_rfl) (fun _ _ _ h => h) (by rfl) ?_ HBwd.out ?_
        rotate_left
        focus
          intro w9 hw9
          have a0 := (HXq.out.on hw9).blk.cell (i := 2) rfl
          have b0 := (HKq.out.on hw9).cell (i := 0) rfl
          have b1 := (HKq.out.on hw9).cell (i := 1) rfl
          have b2 := (HKq.out.on hw9).cell (i := 2) rfl
          have lk := HLk.out w9 hw9
          go_simp
          try with_reducible rfl
        try simp only [Act.put, List.setIfInBounds_toArray, List.set_cons_zero, List.set_cons_succ]
        refine wpL_take (v := ?_) 5 rfl (by kernel_rfl) (fun _ _ _ h => h) (by rfl) ?_ HBwd.out ?_
        rotate_left
        focus
          intro w9 hw9
          have a0 := (HXq.out.on hw9).blk.cell (i := 2) rfl
          have b0 := (HKq.out.on hw9).cell (i := 0) rfl
          have b1 := (HKq.out.on hw9).cell (i := 1) rfl
          have b2 := (HKq.out.on hw9).cell (i := 2) rfl
          have lk := HLk.out w9 hw9
          go_simp
          try with_reducible rfl
        try simp only [Act.put, List.setIfInBounds_toArray, List.set_cons_zero, List.set_cons_succ]
        refine wpL_one 6 rfl (by kernel_rfl) (by rfl) ?_
        intro K hK
        go_simp
        have HBwu : Hid (Below wq.heap.size wq (wd.alloc (.cells #[.slice none 0 0] 54))) := HBwd.out.alloc HBwd.out.size _
        have HZ : Hid (Blk (wd.alloc (.cells #[.slice none 0 0] 54)) wd.heap.size #[.slice none 0 0] 54) := Blk.new wd _ _
        have HLd : Hid (wq.heap.size ≤ wd.heap.size) := HBwd.out.size
        refine hK.out _ _ (fun _ => HBwu.out) ?_
        clear hK K
        generalize wd.alloc (.cells #[.slice none 0 0] 54) = wu at *
        try simp only [Act.put, List.setIfInBounds_toArray, List.set_cons_zero, List.set_cons_succ]
        refine wpL_one 7 rfl (by kernel_rfl) (by rfl) ?_
        intro K hK
        have z0 := HZ.out.cell (i := 0) rfl
        have f0 := HZ.out.frozen 0
        go_simp
        refine hK.out _ _ (fun h => absurd rfl h) ?_
        clear hK K z0 f0
        have HKs : Hid (Blk (wu.setCell ⟨wd.heap.size, 0, none⟩ (.slice pu nu cu)) wd.heap.size #[.slice pu nu cu] 54) := HZ.out.set 0 _
        have HBs : Hid (Below wq.heap.size wq (wu.setCell ⟨wd.heap.size, 0, none⟩ (.slice pu nu cu))) := HBwu.out.trans ((frm_set wu wd.heap.size 0 (.slice pu nu cu) (F := fun k => k = wd.heap.size) (.inl rfl)).below HBwu.out.size (fun k hk => by have := HLd.out; omega))
        generalize wu.setCell ⟨wd.heap.size, 0, none⟩ (.slice pu nu cu) = ws at *
        generalize wd.heap.size = sb at *
        clear HBwu HZ HBwd HLk
        try simp only [Act.put, List.setIfInBounds_toArray, List.set_cons_zero, List.set_cons_succ]
        refine wpL_done (by kernel_rfl) ?_ _
        try simp only [NoPanic]
        have HUs : Hid (SlU ws (.slice pu nu cu) (stsAt L x)) := HU.out.on HBs.out
        have HBr : Hid (Below w7.heap.size w7 ws) := HBq.out.trans (HBs.out.mono HBq.out.size)
        have HKf : Hid (Blk ws w.heap.size #[.int .u64 (fr : Nat)] 23) := HK2.out.on HBr.out
        clear HU HBs HBq HKq HXq
        obtain ⟨U, hU⟩ : ∃ U, stsAt L x = U := ⟨_, rfl⟩
        have HSF : Hid (∀ i, i ≤ U.length → (∀ k (hk : k < U.length), k < i → U[k] ≤ fr) → (∀ k (hk : k < U.length), i ≤ k → fr < U[k]) → IsL L fr (fun c => x ∈ c.W) (if h : i < U.length then U[i] else 18446744073709551615)) := by
          subst hU
          exact fun i hi h1 h2 => sts_first HI.out fr x i hi h1 h2
        have HRi : Hid (∀ i j (hi : i < U.length) (hj : j < U.length), i < j → U[i] < U[j]) := by
          subst hU
          exact fun i j hi hj hij => sts_ris HI.out x i j hi hj hij
        have HUl : Hid (U.length ≤ 4096 ∧ ∀ k (hk : k < U.length), U[k] ≤ 4611686018427387904) := by
          subst hU
          refine ⟨Nat.le_trans (sts_len L x) HI.out.len, fun k hk => ?_⟩
          obtain ⟨c, hc, _, hs⟩ := mem_sts.1 (List.getElem_mem hk)
          rw [← hs]
          exact HI.out.hi c hc
        rw [hU] at HUs HNu
        clear hU
        obtain rfl : nu = U.length := HNu.out.symm
        clear HNu
        have CS : Hid (Calls _ _ _ _ _) := search2_any 39 (ptr1 sb) (ptr1 w.heap.size) (fun i => if hi : i < U.length then decide (fr < U[i]) else true) U.length ws (fun _ _ => rfl) (by have := HUl.out.1; omega)
          (fun i j hij hj hp => by
            have hi : i < U.length := by omega
            rw [dif_pos hi] at hp
            rw [dif_pos hj]
            have h5 := of_decide_eq_true hp
            rcases Nat.lt_or_ge i j with h6 | h6
            · have := HRi.out i j hi hj h6
              exact decide_eq_true (by omega)
            · have : i = j := by omega
              subst this
              exact hp)
          (fun i w1 hi hb => by
            rw [dif_pos hi]
            exact firstOff_any sb _ fr i _ U w1 (HUs.out.on hb) ((HKs.out.on hb).cell (i := 0) rfl) ((HKf.out.on hb).cell (i := 0) rfl) hi)
        have s0 := HKs.out.cell (i := 0) rfl
        go_wp2_with fail
        clear s0
        refine CS.out.mono ?_
        rintro e wt ⟨i, rfl, hi, hi1, hi2, hbt⟩
        clear CS
        have HSI : Hid (IsL L fr (fun c => x ∈ c.W) (if h : i < U.length then U[i] else 18446744073709551615)) := HSF.out i hi (fun k hk hki => by
          have := hi1 k hki
          rw [dif_pos hk] at this
          have := of_decide_eq_false this
          omega) (fun k hk hki => by
          have := hi2 k hki hk
          rw [dif_pos hk] at this
          exact of_decide_eq_true this)
        have HBt : Hid (Below w7.heap.size w7 wt) := HBr.out.trans (hbt.mono HBr.out.size)
        have HUt : Hid (SlU wt (.slice pu U.length cu) U) := HUs.out.on hbt
        have s0 := (HKs.out.on hbt).cell (i := 0) rfl
        have HN : Hid (∀ r', IsL L fr (fun c => x ∈ c.W) r' → IsL L fr (fun c => ∃ x ∈ Q.take (j + 1), x ∈ c.W) (min r r')) := fun r' h' => (HL.out.min HI.out h').ext (fun c _ => by
          rw [HTk.out]
          simp only [List.mem_append, List.mem_singleton]
          constructor
          · rintro (⟨y, h1, h2⟩ | h1)
            · exact ⟨y, .inl h1, h2⟩
            · exact ⟨x, .inr rfl, h1⟩
          · rintro ⟨y, h1 | rfl, h2⟩
            · exact .inl ⟨y, h1, h2⟩
            · exact .inr h2)
        have HRl : Hid (r ≤ 18446744073709551615) := HL.out.le HI.out
        clear hi1 hi2 hbt HSF HRi HUs HKs HKf HBr HTk HW
        by_cases hil : i < U.length
        · obtain ⟨pp, cc, ee, -, -, hh⟩ := HUt.out.f
          cases ee
          obtain ⟨b, o, rfl, hb, d0⟩ := hh i hil
          clear hh
          have h5 := HSI.out
          rw [dif_pos hil] at h5
          have HN2 : Hid (IsL L fr (fun c => ∃ x ∈ Q.take (j + 1), x ∈ c.W) (min r U[i])) := HN.out _ h5
          clear h5 HSI HN HUl
          generalize U[i] = u at *
          generalize U.length = n at *
          have hmn : (min (r : Int) (u : Int)) = ((min r u : Nat) : Int) := by omega
          go_wp2_with fail
          go_roundw
          case rel => exact ⟨j + 1, min r u, by omega, by go_num, by go_num, HN2.out, HBt.out⟩
          case measure => simp [intOf]; omega
        · have h5 := HSI.out
          rw [dif_neg hil] at h5
          have HN2 : Hid (IsL L fr (fun c => ∃ x ∈ Q.take (j + 1), x ∈ c.W) r) := by
            have := HN.out _ h5
            rw [Nat.min_eq_left HRl.out] at this
            exact this
          clear h5 HSI HN HUl
          generalize U.length = n at *
          go_wp2_with fail
          go_roundw
          case rel => exact ⟨j + 1, r, by omega, by go_num, rfl, HN2.out, HBt.out⟩
          case measure => simp [intOf]; omega

end Go.Proofs.YtcknhjabdjbjiabGreat
