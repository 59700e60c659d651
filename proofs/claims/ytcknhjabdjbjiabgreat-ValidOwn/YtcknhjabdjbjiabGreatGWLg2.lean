/- at: what the commit of a stamp wrote. firstOf: the first commit behind a stamp that wrote a point. firstIn: the stamp of the first commit between two stamps that wrote a point of some spans. -/
import Derived.Test.YtcknhjabdjbjiabGreatGWNc
import Derived.Test.YtcknhjabdjbjiabGreatGWLg4
namespace Go.Proofs.YtcknhjabdjbjiabGreat
open Go.RowKit
set_option maxRecDepth 100000

theorem SlC.at0 {w : World} {v : Value} {L : List Cm} (h : SlC w v L) {i : Nat} (hi : i < L.length) : ∃ b o n c, v = .slice (some ⟨b, o, none⟩) n c ∧ i < n ∧ n ≤ c ∧ w.cell? ⟨b, o + i * 4, none⟩ = some (.int .u64 (L[i].s : Nat)) ∧ w.cell? ⟨b, o + i * 4 + 1, none⟩ = some L[i].v0 ∧ w.cell? ⟨b, o + i * 4 + 2, none⟩ = some L[i].v1 ∧ w.cell? ⟨b, o + i * 4 + 3, none⟩ = some L[i].v2 := by
  obtain ⟨p, c, rfl, h1, h2, h3⟩ := h.f
  obtain ⟨b, o, rfl, _, c0, c1, c2, c3⟩ := h3 i hi
  exact ⟨b, o, _, _, rfl, hi, h1, c0, c1, c2, c3⟩
set_option maxHeartbeats 2000000 in
theorem at_any (lb : Nat) (vC v2 : Value) (L : List Cm) (w : World) (h : Blk w lb #[ptr1 lb, vC, v2] 49) (hC : SlC w vC L) (hI : InvC L) (i : Nat) (hi : i < L.length) :
    Calls Tryz.prog 24 #[ptr1 lb, .int .u64 (L[i].s : Nat)] w fun e w' => e = .returned (.agg #[L[i].v0, L[i].v1, L[i].v2]) ∧ Below w.heap.size w w' := by
  have hlo := hI.lo L[i] (List.getElem_mem hi)
  have hhi := hI.hi L[i] (List.getElem_mem hi)
  obtain ⟨w1, hw1⟩ : ∃ w1, w.alloc (.cells #[.slice none 0 0, .slice none 0 0, .slice none 0 0] 27) = w1 := ⟨_, rfl⟩
  have HB1 : Hid (Below w.heap.size w w1) := by rw [← hw1]; exact (Below.refl _ _).alloc (Nat.le_refl _) _
  have HK1 : Hid (Blk w1 w.heap.size #[.slice none 0 0, .slice none 0 0, .slice none 0 0] 27) := by rw [← hw1]; exact Blk.new w _ _
  have CB : Hid (Calls _ _ _ _ _) := behind_any lb (L[i].s - 1) vC v2 L w1 (h.on HB1.out) (hC.on HB1.out) hI
  have HI : Hid (InvC L) := hI
  obtain ⟨s, hs⟩ : ∃ s, L[i].s = s := ⟨_, rfl⟩
  rw [hs] at CB hlo hhi ⊢
  have HS : Hid (L[i].s = s) := hs
  obtain ⟨t, ht⟩ : ∃ t, s - 1 = t := ⟨_, rfl⟩
  rw [ht] at CB
  have hwr : IntKind.u64.wrap ((s : Int) - 1) = (t : Int) := by rw [IntKind.wrap_u64]; omega
  have HT : Hid (t + 1 = s) := by show t + 1 = s; omega
  clear h hC hI hs ht hlo hhi
  go_enter Tryz.func24, Tryz.ntmps24
  go_wp2_with fail
  refine CB.out.mono ?_
  rintro e w2 ⟨v, r, rfl, hr, hsl, hb2⟩
  clear CB hw1
  have hri : r = i := by
    obtain ⟨h1, h2, h3⟩ := hr
    have hs := HS.out
    have ht := HT.out
    rcases Nat.lt_trichotomy r i with h5 | h5 | h5
    · have h6 := h3 r (by omega) (Nat.le_refl _)
      have h7 := HI.out.ris r i (by omega) hi h5
      omega
    · exact h5
    · have h6 := h2 i hi h5
      omega
  subst hri
  have hl0 : 0 < (L.drop r).length := by rw [List.length_drop]; omega
  obtain ⟨b, o, n, c, rfl, hn0, hnc, c0, c1, c2, c3⟩ := hsl.at0 hl0
  simp only [List.getElem_drop, Nat.add_zero, Nat.zero_mul] at c1 c2 c3
  have hk := HK1.out.on hb2
  have z0 := hk.cell (i := 0) rfl
  have z1 := hk.cell (i := 1) rfl
  have z2 := hk.cell (i := 2) rfl
  have f0 := hk.frozen 0
  have f1 := hk.frozen 1
  have f2 := hk.frozen 2
  obtain ⟨⟨p0, q0, e0, _⟩, ⟨p1, q1, e1, _⟩, ⟨p2, q2, e2, _⟩⟩ := (show _ ∧ _ ∧ _ from ⟨(hsl.ft (L.drop r)[0] (List.getElem_mem hl0)).p.f, (hsl.ft (L.drop r)[0] (List.getElem_mem hl0)).s.f, (hsl.ft (L.drop r)[0] (List.getElem_mem hl0)).w.f⟩)
  simp only [List.getElem_drop, Nat.add_zero] at e0 e1 e2
  have HB2 : Hid (Below w.heap.size w w2) := HB1.out.trans (hb2.mono HB1.out.size)
  have hlt : w.heap.size < w2.heap.size := hk.lt
  dsimp only [List.length_nil] at e0 e1 e2
  generalize L[r].W.length = lw at *
  rw [e0] at c1
  rw [e1] at c2
  rw [e2] at c3
  have HV : Hid (L[r].v0 = .slice p0 0 q0 ∧ L[r].v1 = .slice p1 0 q1 ∧ L[r].v2 = .slice p2 lw q2) := ⟨e0, e1, e2⟩
  clear e0 e1 e2
  have HK : Hid (Blk (((w2.setCell ⟨w.heap.size, 0, none⟩ (.slice p0 0 q0)).setCell ⟨w.heap.size, 1, none⟩ (.slice p1 0 q1)).setCell ⟨w.heap.size, 2, none⟩ (.slice p2 lw q2)) w.heap.size #[.slice p0 0 q0, .slice p1 0 q1, .slice p2 lw q2] 27) := ((hk.set 0 _).set 1 _).set 2 _
  have HF : Hid (Frm w2 (((w2.setCell ⟨w.heap.size, 0, none⟩ (.slice p0 0 q0)).setCell ⟨w.heap.size, 1, none⟩ (.slice p1 0 q1)).setCell ⟨w.heap.size, 2, none⟩ (.slice p2 lw q2)) (fun k => k = w.heap.size)) := ((frm_set _ _ _ _ (F := fun k => k = w.heap.size) (.inl rfl)).trans (frm_set _ _ _ _ (F := fun k => k = w.heap.size) (.inl rfl)) (fun k hk => .inl hk)).trans (frm_set _ _ _ _ (F := fun k => k = w.heap.size) (.inl rfl)) (fun k hk => .inl hk)
  have HE : Hid (Below w.heap.size w (((w2.setCell ⟨w.heap.size, 0, none⟩ (.slice p0 0 q0)).setCell ⟨w.heap.size, 1, none⟩ (.slice p1 0 q1)).setCell ⟨w.heap.size, 2, none⟩ (.slice p2 lw q2))) := HB2.out.trans (HF.out.below HB2.out.size (fun k hk => by omega))
  clear hsl hr hk hb2 c0 HB1 HK1 HF HB2 HI HS HT
  go_wp2_with fail
  generalize ((w2.setCell ⟨w.heap.size, 0, none⟩ (.slice p0 0 q0)).setCell ⟨w.heap.size, 1, none⟩ (.slice p1 0 q1)).setCell ⟨w.heap.size, 2, none⟩ (.slice p2 lw q2) = we at *
  have r0 := HK.out.cell (i := 0) rfl
  have r1 := HK.out.cell (i := 1) rfl
  have r2 := HK.out.cell (i := 2) rfl
  refine bodyPost_ret (v := .agg #[.slice p0 0 q0, .slice p1 0 q1, .slice p2 lw q2]) (by simp [results, Tryz.results24, go_sem, r0, r1, r2]) rfl ?_
  exact ⟨by rw [HV.out.1, HV.out.2.1, HV.out.2.2], HE.out⟩

end Go.Proofs.YtcknhjabdjbjiabGreat

namespace Go.Proofs.YtcknhjabdjbjiabGreat
open Go.RowKit
set_option maxRecDepth 100000

theorem chk_size18 {Q : List Sp} (h : chkF ⟨[], Q, []⟩ = 0) : Q.length ≤ 65536 := by
  unfold chkF at h
  by_cases h9 : 65536 < (⟨[], Q, []⟩ : Ft).size
  · rw [if_pos h9] at h; cases h
  · unfold Ft.size at h9; simp at h9; omega
/-- the least stamp behind fr and ahead of ah of a commit that is meant, or never -/
def IsLA (L : List Cm) (fr ah : Nat) (M : Cm → Prop) (r : Nat) : Prop := (r = 18446744073709551615 ∧ ∀ c ∈ L, fr < c.s → c.s < ah → ¬ M c) ∨ ∃ c ∈ L, c.s = r ∧ fr < r ∧ r < ah ∧ M c ∧ ∀ c' ∈ L, fr < c'.s → c'.s < r → ¬ M c'
theorem IsL.both {L : List Cm} {fr s r : Nat} {M N : Cm → Prop} (hI : InvC L) (h : IsL L fr M s) (h2 : IsLA L fr s N r) : IsL L fr (fun c => M c ∨ N c) (Min.min s r) := by
  rcases h2 with ⟨e, h2⟩ | ⟨c, hc, e, k1, k2, k3, k4⟩
  · rw [Nat.min_eq_left (by have := h.le hI; omega)]
    rcases h with ⟨e1, h⟩ | ⟨c, hc, e1, h1, h3, h4⟩
    · refine .inl ⟨e1, fun c hc hf hn => hn.elim (h c hc hf) (h2 c hc hf ?_)⟩
      have := hI.hi c hc
      omega
    · refine .inr ⟨c, hc, e1, h1, .inl h3, fun c' hc' hf hn => ?_⟩
      rcases hn with hn | hn
      · exact h4 c' hc' hf hn
      · rcases Nat.lt_or_ge c'.s s with h5 | h5
        · exact absurd hn (h2 c' hc' hf h5)
        · exact h5
  · rw [Nat.min_eq_right (by omega)]
    refine .inr ⟨c, hc, e, k1, .inr k3, fun c' hc' hf hn => ?_⟩
    rcases Nat.lt_or_ge c'.s r with h5 | h5
    · rcases hn with hn | hn
      · exfalso
        rcases h with ⟨e1, h⟩ | ⟨c1, hc1, e1, h1, h3, h4⟩
        · exact h c' hc' hf hn
        · have := h4 c' hc' hf hn
          omega
      · exact absurd hn (k4 c' hc' hf h5)
    · exact h5
theorem IsLA.none {L : List Cm} (hI : InvC L) {fr ah : Nat} (h : lastC L ≤ fr) (M : Cm → Prop) : IsLA L fr ah M 18446744073709551615 := .inl ⟨rfl, fun c hc hf => by have := last_le hI c hc; omega⟩
theorem IsBeh.mem {L : List Cm} {fr r : Nat} (h : IsBeh L fr r) {c : Cm} (hc : c ∈ L) (hf : fr < c.s) : c ∈ L.drop r := by
  obtain ⟨i, hi, rfl⟩ := List.getElem_of_mem hc
  rcases Nat.lt_or_ge i r with h1 | h1
  · have := h.2.1 i hi h1
    omega
  · have e : L[i] = (L.drop r)[i - r]'(by rw [List.length_drop]; omega) := by
      rw [List.getElem_drop]
      congr 1
      omega
    rw [e]
    exact List.getElem_mem _
theorem IsBeh.gt {L : List Cm} {fr r : Nat} (h : IsBeh L fr r) {j : Nat} (hj : j < (L.drop r).length) : fr < (L.drop r)[j].s := by
  rw [List.getElem_drop]
  exact h.2.2 (r + j) _ (by omega)
theorem InvC.drop {L : List Cm} (hI : InvC L) (r : Nat) : InvC (L.drop r) := by
  refine ⟨fun i j hi hj hij => ?_, fun c hc => hI.lo c (List.mem_of_mem_drop hc), fun c hc => hI.hi c (List.mem_of_mem_drop hc), by rw [List.length_drop]; have := hI.len; omega, fun c hc => hI.lw c (List.mem_of_mem_drop hc)⟩
  rw [List.getElem_drop, List.getElem_drop]
  rw [List.length_drop] at hi hj
  exact hI.ris _ _ (by omega) (by omega) (by omega)
theorem firstIn_never {L : List Cm} (_hI : InvC L) {fr ah r j : Nat} {M : Cm → Prop} (h : IsBeh L fr r) (h0 : ∀ k (hk : k < (L.drop r).length), k < j → ¬ M (L.drop r)[k]) (hj : ∀ k (hk : k < (L.drop r).length), j ≤ k → ah ≤ (L.drop r)[k].s) : IsLA L fr ah M 18446744073709551615 := by
  refine .inl ⟨rfl, fun c hc hf ha hM => ?_⟩
  obtain ⟨k, hk, rfl⟩ := List.getElem_of_mem (h.mem hc hf)
  rcases Nat.lt_or_ge k j with h1 | h1
  · exact h0 k hk h1 hM
  · have := hj k hk h1
    omega
theorem firstIn_at {L : List Cm} (hI : InvC L) {fr ah r j : Nat} {M : Cm → Prop} (h : IsBeh L fr r) (h0 : ∀ k (hk : k < (L.drop r).length), k < j → ¬ M (L.drop r)[k]) (hj : j < (L.drop r).length) (ha : (L.drop r)[j].s < ah) (hM : M (L.drop r)[j]) : IsLA L fr ah M (L.drop r)[j].s := by
  refine .inr ⟨(L.drop r)[j], List.mem_of_mem_drop (List.getElem_mem hj), rfl, h.gt hj, ha, hM, fun c hc hf hl hM' => ?_⟩
  obtain ⟨k, hk, rfl⟩ := List.getElem_of_mem (h.mem hc hf)
  rcases Nat.lt_trichotomy k j with h1 | h1 | h1
  · exact h0 k hk h1 hM'
  · subst h1; omega
  · have := (hI.drop r).ris j k hj hk h1
    omega
set_option maxHeartbeats 2000000 in
theorem firstInf_any (nb : Nat) (v0 v1 v2 : Value) (U : List Sp) (x : Pt) (w : World) (h : Blk w nb #[v0, v1, v2] 27) (hU : SlS w v1 U) (hs : SepS U) (hl : U.length ≤ 65536) :
    Calls Tryz.prog 41 #[.agg #[.int .i64 x.t, .int .i64 x.i, .string x.k], ptr1 nb] w fun e w' => e = .returned (.bool (anyS U x)) ∧ Below w.heap.size w w' := by
  obtain ⟨w1, hw1⟩ : ∃ w1, w.alloc (.cells #[.int .i64 x.t, .int .i64 x.i, .string x.k] 36) = w1 := ⟨_, rfl⟩
  have HB1 : Hid (Below w.heap.size w w1) := by rw [← hw1]; exact (Below.refl _ _).alloc (Nat.le_refl _) _
  have HK1 : Hid (Blk w1 w.heap.size #[.int .i64 x.t, .int .i64 x.i, .string x.k] 36) := by rw [← hw1]; exact Blk.new w _ _
  have CV : Hid (Calls _ _ _ _ _) := vcovers_any U x v1 w1 (hU.on HB1.out) hs hl
  have g0 := HK1.out.cell (i := 0) rfl
  have g1 := HK1.out.cell (i := 1) rfl
  have g2 := HK1.out.cell (i := 2) rfl
  have g3 := (h.on HB1.out).cell (i := 1) rfl
  obtain ⟨p, c, e1, -⟩ := hU.f
  subst e1
  generalize anyS U x = an at *
  clear h hU
  go_enter Tryz.func41, Tryz.ntmps41
  go_wp2_with fail
  refine CV.out.mono ?_
  rintro e w2 ⟨rfl, hb2⟩
  have HB2 : Hid (Below w.heap.size w w2) := HB1.out.trans (hb2.mono HB1.out.size)
  clear CV hb2 g0 g1 g2 g3 hw1
  go_wp2_with fail
  go_ret
  exact ⟨rfl, HB2.out⟩

set_option maxHeartbeats 8000000 in
theorem firstIn_any (lb fr ah : Nat) (vC : Value) (mb : Nat) (E : List (Pt × Value)) (L : List Cm) (Q : List Sp) (v : Value) (w : World) (hX : LogX w lb vC mb E L) (hQ : SlS w v Q) (hc : chkF ⟨[], Q, []⟩ = 0) (_hfr : fr < 18446744073709551616) (_hah : ah < 18446744073709551616) :
    Calls Tryz.prog 22 #[ptr1 lb, v, .int .u64 (fr : Nat), .int .u64 (ah : Nat)] w fun e w' => ∃ r : Nat, e = .returned (.int .u64 (r : Nat)) ∧ IsLA L fr ah (fun c => ∃ x ∈ c.W, anyS Q x = true) r ∧ Below w.heap.size w w' := by
  obtain ⟨p, c, rfl, h1, h2, h3⟩ := hQ.f
  have HX : Hid (LogX w lb vC mb E L) := hX
  have HI : Hid (InvC L) := hX.inv
  have HQ : Hid (SlS w (.slice p Q.length c) Q) := hQ
  have CL : Hid (Calls _ _ _ _ _) := last_any lb _ _ L w hX.blk hX.com hX.inv.len
  have HLa : Hid (lastC L ≤ fr → IsLA L fr ah (fun c => ∃ x ∈ c.W, anyS Q x = true) 18446744073709551615) := fun h => IsLA.none HI.out h _
  have hlq : Q.length ≤ 65536 := by have := chk_size18 hc; exact this
  obtain ⟨n, hn⟩ : ∃ n, Q.length = n := ⟨_, rfl⟩
  have HNil : Hid (n = 0 → IsLA L fr ah (fun c => ∃ x ∈ c.W, anyS Q x = true) 18446744073709551615) := fun h => .inl ⟨rfl, fun c _ _ _ ⟨x, _, hx⟩ => by
    have : Q = [] := List.eq_nil_of_length_eq_zero (by omega)
    rw [this] at hx
    cases hx⟩
  have CN : Hid (∀ w7 : World, Below w.heap.size w w7 → Calls Tryz.prog 40 #[.agg #[.slice none 0 0, .slice p Q.length c, .slice none 0 0]] w7 fun e w' => ∃ (x0 x1 x2 : Value) (g : Ft), e = .returned (.tuple #[.agg #[x0, x1, x2], .int .i64 0]) ∧ SlP w' x0 g.P ∧ SlS w' x1 g.S ∧ SlP w' x2 g.W ∧ SepS g.S ∧ (∀ x, anyS g.S x = anyS Q x) ∧ g.S.length ≤ 65536 ∧ Below w7.heap.size w7 w') := fun w7 hb => by
    refine (norm_any ⟨[], Q, []⟩ _ _ _ w7 ⟨(OwnP.nil w7 0).sl, hQ.on hb, (OwnP.nil w7 0).sl, by simp, by have := hlq; simp; omega, by simp⟩).mono ?_
    rintro e w' ⟨⟨h1, rfl⟩ | ⟨h1, x0, x1, x2, g, rfl, k0, k1, k2, k3⟩, hb'⟩
    · exact absurd hc h1
    · exact ⟨x0, x1, x2, g, rfl, k0.sl, k1.sl, k2.sl, k3.s1, k3.s2, by have := k3.ls; have := hlq; simp at *; omega, hb'⟩
  have CB : Hid (∀ w7 : World, Below w.heap.size w w7 → Calls Tryz.prog 29 #[ptr1 lb, .int .u64 (fr : Nat)] w7 fun e w' => ∃ v r, e = .returned v ∧ IsBeh L fr r ∧ SlC w' v (L.drop r) ∧ Below w7.heap.size w7 w') := fun w7 hb => behind_any lb fr _ _ L w7 (HX.out.on hb).blk (HX.out.on hb).com HI.out
  rw [hn] at CN HQ h1 ⊢
  clear hX hQ h3 h2 hc hlq hn h1
  generalize lastC L = la at *
  by_cases hn0 : n = 0
  · have HR := HNil.out hn0
    subst hn0
    clear CN CB CL HLa HNil
    go_enter Tryz.func22, Tryz.ntmps22
    go_wp2_with fail
    go_ret
    exact ⟨_, rfl, HR, Below.refl _ _⟩
  · have hnp : 0 < n := by omega
    go_enter Tryz.func22, Tryz.ntmps22
    go_wp2_with fail
    refine CL.out.mono ?_
    rintro e w1 ⟨rfl, hb1⟩
    have HB1 : Hid (Below w.heap.size w w1) := hb1
    clear CL hb1 HNil
    by_cases hla : la ≤ fr
    · have HR := HLa.out hla
      clear HLa
      go_wp2_with fail
      go_ret
      exact ⟨_, rfl, HR, HB1.out⟩
    · have hla2 : fr < la := by omega
      have hd : decide (la ≤ fr) = false := decide_eq_false hla
      clear hla HLa
      have CN1 : Hid (Calls _ _ _ _ _) := CN.out w1 HB1.out
      clear CN
      go_wp2_with fail
      refine CN1.out.mono ?_
      rintro e w2 ⟨x0, x1, x2, g, rfl, hx0, hx1, hx2, hse, hans, hgl, hb2⟩
      clear CN1
      obtain ⟨q0, d0, e0, -⟩ := hx0.f
      obtain ⟨q1, d1, e1, -⟩ := hx1.f
      obtain ⟨q2, d2, e2, -⟩ := hx2.f
      obtain ⟨m0, hm0⟩ : ∃ m, g.P.length = m := ⟨_, rfl⟩
      obtain ⟨m1, hm1⟩ : ∃ m, g.S.length = m := ⟨_, rfl⟩
      obtain ⟨m2, hm2⟩ : ∃ m, g.W.length = m := ⟨_, rfl⟩
      rw [hm0] at e0
      rw [hm1] at e1
      rw [hm2] at e2
      subst e0 e1 e2
      have HU : Hid (SlS w2 (.slice q1 m1 d1) g.S ∧ SepS g.S ∧ g.S.length ≤ 65536 ∧ ∀ x, anyS g.S x = anyS Q x) := ⟨hx1, hse, hgl, hans⟩
      have HB2 : Hid (Below w.heap.size w w2) := HB1.out.trans (hb2.mono HB1.out.size)
      clear hx0 hx1 hx2 hse hans hgl hm0 hm1 hm2 hb2 HB1
      obtain ⟨w3, hw3⟩ : ∃ w3, w2.alloc (.cells #[.slice q0 m0 d0, .slice q1 m1 d1, .slice q2 m2 d2] 27) = w3 := ⟨_, rfl⟩
      have hal : Below w2.heap.size w2 w3 := by rw [← hw3]; exact (Below.refl _ _).alloc (Nat.le_refl _) _
      have HB3 : Hid (Below w.heap.size w w3) := HB2.out.trans (hal.mono HB2.out.size)
      have HK3 : Hid (Blk w3 w2.heap.size #[.slice q0 m0 d0, .slice q1 m1 d1, .slice q2 m2 d2] 27) := by rw [← hw3]; exact Blk.new w2 _ _
      have HU3 : Hid (SlS w3 (.slice q1 m1 d1) g.S ∧ SepS g.S ∧ g.S.length ≤ 65536 ∧ ∀ x, anyS g.S x = anyS Q x) := ⟨HU.out.1.on hal, HU.out.2⟩
      have CB3 : Hid (Calls _ _ _ _ _) := CB.out w3 HB3.out
      clear CB HU HB2 hal
      go_wp2_with fail
      clear hw3
      refine CB3.out.mono ?_
      rintro e w4 ⟨vB, r, rfl, hbe, hsl, hb4⟩
      clear CB3
      obtain ⟨pb, cb, e4, -⟩ := hsl.f
      obtain ⟨nd, hnd⟩ : ∃ nd, (L.drop r).length = nd := ⟨_, rfl⟩
      rw [hnd] at e4
      subst e4
      have HBe : Hid (IsBeh L fr r) := hbe
      have HD : Hid (SlC w4 (.slice pb nd cb) (L.drop r)) := hsl
      have HB4 : Hid (Below w.heap.size w w4) := HB3.out.trans (hb4.mono HB3.out.size)
      have HK4 : Hid (Blk w4 w2.heap.size #[.slice q0 m0 d0, .slice q1 m1 d1, .slice q2 m2 d2] 27) := HK3.out.on hb4
      have HU4 : Hid (SlS w4 (.slice q1 m1 d1) g.S ∧ SepS g.S ∧ g.S.length ≤ 65536 ∧ ∀ x, anyS g.S x = anyS Q x) := ⟨HU3.out.1.on hb4, HU3.out.2⟩
      have HND : Hid ((L.drop r).length = nd) := hnd
      have HID : Hid (InvC (L.drop r)) := HI.out.drop r
      have HNv : Hid (∀ j, (∀ k (hk : k < (L.drop r).length), k < j → ¬ ∃ x ∈ (L.drop r)[k].W, anyS Q x = true) → (∀ k (hk : k < (L.drop r).length), j ≤ k → ah ≤ (L.drop r)[k].s) → IsLA L fr ah (fun c => ∃ x ∈ c.W, anyS Q x = true) 18446744073709551615) := fun j h0 hj => firstIn_never HI.out HBe.out h0 hj
      have HAt : Hid (∀ j (hj : j < (L.drop r).length), (∀ k (hk : k < (L.drop r).length), k < j → ¬ ∃ x ∈ (L.drop r)[k].W, anyS Q x = true) → (L.drop r)[j].s < ah → (∃ x ∈ (L.drop r)[j].W, anyS Q x = true) → IsLA L fr ah (fun c => ∃ x ∈ c.W, anyS Q x = true) (L.drop r)[j].s) := fun j hj h0 ha hM => firstIn_at HI.out HBe.out h0 hj ha hM
      have hnl : nd ≤ 4096 := by have := HID.out.len; omega
      clear hbe hsl hb4 HB3 HK3 HU3 hnd HBe HI HX HQ
      generalize L.drop r = D at *
      clear hd hla2 hn0 hnp
      go_wp2_with fail
      go_loopw [34] (fun i wr => ∃ j : Nat, j ≤ nd ∧ i = .int .i64 (j : Int) ∧ Hid (∀ k (hk : k < D.length), k < j → ¬ ∃ x ∈ D[k].W, anyS Q x = true) ∧ Hid (Below w4.heap.size w4 wr)) (fun i _ => nd - (intOf i).toNat)
      case atStart => exact ⟨0, Nat.zero_le _, by go_num, fun k hk h => absurd h (by omega), Below.refl _ _⟩
      case round =>
        obtain ⟨j, hj, rfl, H0, HW⟩ := hrel
        by_cases hj0 : j = nd
        · have HR : Hid (IsLA L fr ah (fun c => ∃ x ∈ c.W, anyS Q x = true) 18446744073709551615) := HNv.out j H0.out (fun k hk hk2 => by have := HND.out; omega)
          obtain rfl := hj0.symm
          have HE : Hid (Below w.heap.size w wr) := HB4.out.trans (HW.out.mono HB4.out.size)
          go_wp2_with fail
          go_ret
          exact ⟨_, rfl, HR.out, HE.out⟩
        · have hj1 : j < nd := by omega
          have hjD : j < D.length := by have := HND.out; omega
          obtain ⟨b, o, n', c', e5, -, -, k0, k1, k2, k3⟩ := (HD.out.on HW.out).at0 hjD
          cases e5
          have hft := (HD.out.on HW.out).ft D[j] (List.getElem_mem hjD)
          obtain ⟨y0, z0, f0, -⟩ := hft.p.f
          obtain ⟨y1, z1, f1, -⟩ := hft.s.f
          obtain ⟨y2, z2, f2, _, _, hrow⟩ := hft.w.f
          rw [f0] at k1
          rw [f1] at k2
          rw [f2] at k3
          dsimp only [List.length_nil] at k1 k2 k3 hrow
          have HRow : Hid (RowP wr wr.heap.size y2 D[j].W) := hrow
          have HWl : Hid (D[j].W.length ≤ 65536) := HID.out.lw _ (List.getElem_mem hjD)
          have HSt : Hid (D[j].s ≤ 4611686018427387904) := HID.out.hi _ (List.getElem_mem hjD)
          obtain ⟨s, hs⟩ : ∃ s, D[j].s = s := ⟨_, rfl⟩
          obtain ⟨W, hWe⟩ : ∃ W, D[j].W = W := ⟨_, rfl⟩
          have HAj : Hid (s < ah → (∃ x ∈ W, anyS Q x = true) → IsLA L fr ah (fun c => ∃ x ∈ c.W, anyS Q x = true) s) := by
            rw [← hs, ← hWe]
            exact fun h1 h2 => HAt.out j hjD H0.out h1 h2
          have HBr : Hid (ah ≤ s → IsLA L fr ah (fun c => ∃ x ∈ c.W, anyS Q x = true) 18446744073709551615) := fun h => HNv.out j H0.out (fun k hk hjk => by
            rcases Nat.lt_or_eq_of_le hjk with h5 | h5
            · have := HID.out.ris j k hjD hk h5
              omega
            · subst h5; omega)
          have HNx : Hid ((¬ ∃ x ∈ W, anyS Q x = true) → ∀ k (hk : k < D.length), k < j + 1 → ¬ ∃ x ∈ D[k].W, anyS Q x = true) := fun hn k hk hkj => by
            rcases Nat.lt_or_ge k j with h5 | h5
            · exact H0.out k hk h5
            · have : k = j := by omega
              subst this
              rw [hWe]
              exact hn
          rw [hs] at k0 HSt
          rw [hWe] at HRow HWl k3
          obtain ⟨lw, hlw⟩ : ∃ lw, W.length = lw := ⟨_, rfl⟩
          rw [hlw] at k3
          obtain ⟨w5, hw5⟩ : ∃ w5, wr.alloc (.cells #[.int .u64 (s : Nat), .slice y0 0 z0, .slice y1 0 z1, .slice y2 lw z2] 75) = w5 := ⟨_, rfl⟩
          have HB5 : Hid (Below w4.heap.size w4 w5) := by rw [← hw5]; exact HW.out.alloc HW.out.size _
          have hbr : Below wr.heap.size wr w5 := by rw [← hw5]; exact (Below.refl _ _).alloc (Nat.le_refl _) _
          have HK5 : Hid (Blk w5 wr.heap.size #[.int .u64 (s : Nat), .slice y0 0 z0, .slice y1 0 z1, .slice y2 lw z2] 75) := by rw [← hw5]; exact Blk.new wr _ _
          have CF : Hid (Calls Tryz.prog 35 #[.slice y2 lw z2, .func (.func 41) #[] #[ptr1 w2.heap.size]] w5 fun e w' => e = .returned (.bool (W.any (anyS g.S))) ∧ Below w5.heap.size w5 w') := by
            rw [← hlw]
            exact containsFP1_any 41 (ptr1 w2.heap.size) (anyS g.S) W y2 z2 w5 (fun _ _ => rfl) (HRow.out.on hbr) (by have := HWl.out; omega) (fun x w1 hb => firstInf_any w2.heap.size _ _ _ g.S x w1 ((HK4.out.on HB5.out).on hb) ((HU4.out.1.on HB5.out).on hb) HU4.out.2.1 HU4.out.2.2.1)
          have HAn : Hid (W.any (anyS g.S) = true ↔ ∃ x ∈ W, anyS Q x = true) := by
            show _ ↔ _
            rw [List.any_eq_true]
            constructor
            · rintro ⟨x, h1, h2⟩
              exact ⟨x, h1, by rw [← HU4.out.2.2.2]; exact h2⟩
            · rintro ⟨x, h1, h2⟩
              exact ⟨x, h1, by rw [HU4.out.2.2.2]; exact h2⟩
          have u0 := HK5.out.cell (i := 0) rfl
          have u3 := HK5.out.cell (i := 3) rfl
          clear hft f0 f1 f2 hrow hs hWe hlw hbr H0 HRow HWl HID HNv HAt
          by_cases hsa : ah ≤ s
          · have HR := HBr.out hsa
            have HE : Hid (Below w.heap.size w w5) := HB4.out.trans (HB5.out.mono HB4.out.size)
            clear CF HBr HAj HNx
            go_wp2_with fail
            go_ret
            exact ⟨_, rfl, HR, HE.out⟩
          · have hsa2 : s < ah := by omega
            clear hsa
            go_wp2_with fail
            clear u0 u3 hw5
            refine CF.out.mono ?_
            rintro e w6 ⟨rfl, hb6⟩
            have HB6 : Hid (Below w4.heap.size w4 w6) := HB5.out.trans (hb6.mono HB5.out.size)
            have u0 := (HK5.out.on hb6).cell (i := 0) rfl
            clear CF hb6 k0 k1 k2 k3
            cases han : W.any (anyS g.S)
            · have HNn : Hid (∀ k (hk : k < D.length), k < j + 1 → ¬ ∃ x ∈ D[k].W, anyS Q x = true) := HNx.out (fun h => by
                have := HAn.out.2 h
                rw [han] at this
                cases this)
              clear han HNx HAj HBr
              go_wp2_with fail
              go_roundw
              case rel => exact ⟨j + 1, by omega, by go_num, HNn.out, HB6.out⟩
              case measure => simp [intOf]; omega
            · have HR := HAj.out hsa2 (HAn.out.1 han)
              have HE : Hid (Below w.heap.size w w6) := HB4.out.trans (HB6.out.mono HB4.out.size)
              clear han HNx HAj HBr
              go_wp2_with fail
              go_ret
              exact ⟨_, rfl, HR, HE.out⟩

end Go.Proofs.YtcknhjabdjbjiabGreat
