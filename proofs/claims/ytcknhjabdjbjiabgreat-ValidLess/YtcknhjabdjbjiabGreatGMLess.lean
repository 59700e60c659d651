/- Who reads less and writes less, or saw more, commits where the other one does. The law of ValidLess. -/
import Derived.Test.YtcknhjabdjbjiabGreatGF18b
namespace Go.Proofs.YtcknhjabdjbjiabGreat
set_option maxRecDepth 100000

theorem any_take {α : Type} (p : α → Bool) (L : List α) (k : Nat) (h : L.any p = false) : (L.take k).any p = false := by
  rw [List.any_eq_false] at h ⊢
  exact fun x hx => h x (List.mem_of_mem_take hx)
theorem chk_take {a : Ft} (h : chkF a = 0) (i j k : Nat) : chkF ⟨a.P.take i, a.S.take j, a.W.take k⟩ = 0 := by
  unfold chkF at h ⊢
  by_cases h9 : 65536 < a.size
  · rw [if_pos h9] at h; cases h
  · rw [if_neg h9] at h
    have h10 : ¬ 65536 < (⟨a.P.take i, a.S.take j, a.W.take k⟩ : Ft).size := by
      unfold Ft.size at *
      simp only [List.length_take]
      omega
    rw [if_neg h10]
    by_cases h2 : (a.P.any (fun y : Pt => !plB y.t y.i) || (a.S.any (fun y : Sp => !plB y.t y.i) || a.W.any (fun y : Pt => !plB y.t y.i))) = true
    · rw [if_pos h2] at h; cases h
    · have h3 := Bool.eq_false_iff.2 h2
      rw [Bool.or_eq_false_iff, Bool.or_eq_false_iff] at h3
      rw [if_neg]
      rw [Bool.not_eq_true, Bool.or_eq_false_iff, Bool.or_eq_false_iff]
      exact ⟨any_take _ _ _ h3.1, any_take _ _ _ h3.2.1, any_take _ _ _ h3.2.2⟩
theorem FstO.less {L : List Cm} {fr fr' : Nat} {P Q : Pt → Prop} (h : FstO L fr P none) (hf : fr ≤ fr') (hpq : ∀ x, Q x → P x) : FstO L fr' Q none := fun c hc hcf x hx hq => h c hc (by omega) x hx (hpq x hq)
theorem TryQ.zero2 {a : Ft} {fr : Nat} {lv : Int} {L : List Cm} {q : Option (Nat × Pt)} (h : TryQ a fr lv L q 0) : chkF a = 0 ∧ q = none ∧ (lv = 1 ∨ lv = 2 ∨ lv = 3) ∧ (lv = 2 ∨ lv = 3 → FstO L fr a.wrs none) ∧ (lv = 3 → FstO L fr a.rds none) := by
  rcases h with ⟨h1, h2, h3⟩ | ⟨h1, h2, h3, h4⟩ | ⟨h1, h2, h3, h4, h5⟩ | ⟨h1, h2, h3, h4, h5, h6⟩ | ⟨h1, h2, h3, h4, h5, h6⟩
  · exact absurd h3.symm h1
  · cases h4
  · cases h5
  · cases h6
  · exact ⟨h1, h5, h2, h3, h4⟩
theorem TryQ.err0 {a : Ft} {fr : Nat} {lv : Int} {L : List Cm} {q : Option (Nat × Pt)} {er : Int} (hc : chkF a = 0) (hl : lv = 1 ∨ lv = 2 ∨ lv = 3) (hw : lv = 2 ∨ lv = 3 → FstO L fr a.wrs none) (hr : lv = 3 → FstO L fr a.rds none) (h : TryQ a fr lv L q er) : er = 0 := by
  rcases h with ⟨h1, h2, h3⟩ | ⟨h1, h2, h3, h4⟩ | ⟨h1, h2, ⟨p, h3⟩, h4, h5⟩ | ⟨h1, h2, h3, ⟨p, h4⟩, h5, h6⟩ | ⟨h1, h2, h3, h4, h5, h6⟩
  · exact absurd hc h1
  · omega
  · subst h3
    obtain ⟨c, hc', e, hf, hm, _⟩ := h4
    exact absurd hm.1.2 (hw h2 c hc' (by omega) _ hm.1.1)
  · subst h4
    obtain ⟨c, hc', e, hf, hm, _⟩ := h5
    exact absurd hm.1.2 (hr h2 c hc' (by omega) _ hm.1.1)
  · exact h6
theorem TryQ.less {a : Ft} {fr fr' : Nat} {lv : Int} {L : List Cm} {q q' : Option (Nat × Pt)} {er : Int} (h : TryQ a fr lv L q 0) (i j k : Nat) (hf : fr ≤ fr') (h' : TryQ ⟨a.P.take i, a.S.take j, a.W.take k⟩ fr' lv L q' er) : er = 0 := by
  obtain ⟨hc, _, hl, hw, hr⟩ := h.zero2
  refine TryQ.err0 (chk_take hc i j k) hl (fun h2 => (hw h2).less hf (fun x hx => ?_)) (fun h3 => (hr h3).less hf (fun x hx => ?_)) h'
  · unfold Ft.wrs rowsL at hx ⊢
    rw [mem_dropG] at hx ⊢
    exact ⟨List.mem_of_mem_take hx.1, hx.2⟩
  · rcases hx with hx | ⟨s, hs, hx⟩
    · exact .inl (List.mem_of_mem_take hx)
    · exact .inr ⟨s, List.mem_of_mem_take hs, hx⟩
theorem TryQ.empty {fr : Nat} {L : List Cm} {q : Option (Nat × Pt)} {er : Int} (h : TryQ ⟨[], [], []⟩ fr 3 L q er) : er = 0 := by
  refine TryQ.err0 (by decide) (by omega) (fun _ c hc hf x hx hm => ?_) (fun _ c hc hf x hx hm => ?_) h
  · unfold Ft.wrs rowsL at hm
    rw [mem_dropG] at hm
    exact absurd hm.1 (by simp)
  · rcases hm with hm | ⟨s, hs, _⟩
    · exact absurd hm (by simp)
    · exact absurd hs (by simp)
theorem SlP.take {w : World} {p : Option Addr} {n c : Nat} {L : List Pt} (h : SlP w (.slice p n c) L) (k : Nat) (hk : k ≤ n) : SlP w (.slice p k c) (L.take k) := by
  obtain ⟨p', c', e, h1, h2, h3⟩ := h.f
  obtain ⟨rfl, rfl, rfl⟩ := Value.slice.inj e
  refine ⟨p, c, by rw [List.length_take, Nat.min_eq_left hk], by rw [List.length_take]; omega, h2, fun i hi => ?_⟩
  rw [List.length_take] at hi
  rw [List.getElem_take]
  exact h3 i (by omega)
theorem SlS.take {w : World} {p : Option Addr} {n c : Nat} {L : List Sp} (h : SlS w (.slice p n c) L) (k : Nat) (hk : k ≤ n) : SlS w (.slice p k c) (L.take k) := by
  obtain ⟨p', c', e, h1, h2, h3⟩ := h.f
  obtain ⟨rfl, rfl, rfl⟩ := Value.slice.inj e
  refine ⟨p, c, by rw [List.length_take, Nat.min_eq_left hk], by rw [List.length_take]; omega, h2, fun i hi => ?_⟩
  rw [List.length_take] at hi
  rw [List.getElem_take]
  exact h3 i (by omega)
theorem RdF.take {w : World} {p0 p1 p2 : Option Addr} {n0 n1 n2 c0 c1 c2 : Nat} {a : Ft} (h : RdF w (.slice p0 n0 c0) (.slice p1 n1 c1) (.slice p2 n2 c2) a) (i j k : Nat) (hi : i ≤ n0) (hj : j ≤ n1) (hk : k ≤ n2) : RdF w (.slice p0 i c0) (.slice p1 j c1) (.slice p2 k c2) ⟨a.P.take i, a.S.take j, a.W.take k⟩ :=
  ⟨h.p.take i hi, h.s.take j hj, h.w.take k hk, Nat.le_trans (List.length_take_le' _ _) h.lp, Nat.le_trans (List.length_take_le' _ _) h.ls, Nat.le_trans (List.length_take_le' _ _) h.lw⟩

end Go.Proofs.YtcknhjabdjbjiabGreat

namespace Go.Proofs.YtcknhjabdjbjiabGreat
open Go.RowKit
set_option maxRecDepth 100000

/-- how many are left -/
def lesN (l : Int) (n : Nat) : Nat := if 0 ≤ l ∧ l < n then l.toNat else n
theorem lesN_le (l : Int) (n : Nat) : lesN l n ≤ n := by unfold lesN; split <;> omega
theorem lesN_no {l : Int} {n : Nat} (h : ¬ (0 ≤ l ∧ l < n)) : lesN l n = n := if_neg h
theorem lesN_yes {l : Int} {n : Nat} (h : 0 ≤ l ∧ l < n) : ((lesN l n : Nat) : Int) = l := by unfold lesN; rw [if_pos h]; omega
theorem Blk.drew' {w w' : World} {g : Nat} {cs : Array Value} {T : TypeId} (h : Blk w g cs T) (hh : w'.heap = w.heap) : Blk w' g cs T := by
  unfold Blk at h ⊢
  rw [hh]
  exact h
theorem NtP.drew' {w wr : World} {lb mb : Nat} {vC : Value} {E : List (Pt × Value × List Nat)} {L : List Cm} {vm : Value} {M : List Cm} (h : NtP w wr lb mb vC E L vm M) (w' : World) (h1 : w'.os = wr.os) (h2 : w'.tape = wr.tape) (h3 : w'.output = wr.output) (h4 : w'.heap = wr.heap) : NtP w w' lb mb vC E L vm M :=
  h.on ⟨h1, h2, h3, by rw [h4]; exact Nat.le_refl _, fun k _ => by rw [h4]⟩
/-- a write into a block of another type -/
theorem NtP.frmI {w wr w' : World} {lb mb g : Nat} {vC : Value} {E : List (Pt × Value × List Nat)} {L : List Cm} {vm : Value} {M : List Cm} {cs : Array Value} {T : TypeId} (h : NtP w wr lb mb vC E L vm M) (hf : Frm wr w' (fun k => k = g)) (hg : Blk wr g cs T) (hT : ¬ (T = 49 ∨ T = 75 ∨ T = 23 ∨ T = 36 ∨ T = 86 ∨ T = 79)) (hgw : w.heap.size ≤ g) : NtP w w' lb mb vC E L vm M := by
  have hk : ∀ {k : Nat} {cs' : Array Value} {T' : TypeId}, T' ≠ T → wr.heap[k]? = some (.cells cs' T' (0, 0)) → w'.heap[k]? = wr.heap[k]? := fun {k cs' T'} hn hk => hf.block k (Array.getElem?_eq_some_iff.1 hk).1 (fun e => by
    subst e
    rw [show wr.heap[k]? = some (.cells cs T (0, 0)) from hg] at hk
    cases hk
    exact hn rfl)
  have hm : w'.heap[mb]? = wr.heap[mb]? := by
    obtain ⟨es, c, h3, _⟩ := h.log.sts.map.f
    exact hf.block mb (Array.getElem?_eq_some_iff.1 h3).1 (fun e => by
      subst e
      rw [show wr.heap[mb]? = some (.cells cs T (0, 0)) from hg] at h3
      cases h3)
  have hl := h.log
  exact ⟨⟨(hk (fun e => hT (.inl e.symm)) hl.blk).trans hl.blk, hl.lbB, hl.mbB, hl.com.by (fun g' hg' => by
    obtain ⟨_, cur, h2⟩ := hl.com.blk hg'
    exact hk (fun e => hT (.inr (.inl e.symm))) h2), fun c hc => ⟨ownsRow_by (hl.ft c hc).p (fun _ _ _ hg' => hk (fun e => hT (.inr (.inr (.inr (.inl e.symm))))) hg'), ownsRow_by (hl.ft c hc).s (fun _ _ _ hg' => hk (fun e => hT (.inr (.inr (.inr (.inr (.inl e.symm)))))) hg'), ownsRow_by (hl.ft c hc).w (fun _ _ _ hg' => hk (fun e => hT (.inr (.inr (.inr (.inl e.symm))))) hg')⟩, hl.sts.by hm (fun g' cur hg' => hk (fun e => hT (.inr (.inr (.inl e.symm)))) hg'), hl.inv⟩, ⟨ownsRow_by h.doc.own (fun _ _ _ hg' => hk (fun e => hT (.inr (.inr (.inr (.inr (.inr e.symm)))))) hg'), h.doc.ft⟩, h.sam, h.inv, h.bel.trans (hf.below h.bel.size (fun k hk => by omega))⟩
set_option maxHeartbeats 8000000 in
theorem lawVLess (v : Value) (K : List Lc) (a : Ft) (va0 va1 va2 : Value) (fr : Nat) (lv l0 l1 l2 : Int) (w : World) (hK : RdLc w v K) (ha : RdF w va0 va1 va2 a) (hfr : fr < 18446744073709551616) :
    Calls Tryz.prog 3 #[v, .agg #[.int .u64 (fr : Nat), va0, va1, va2, .int .i64 lv], .agg #[.int .i64 l0, .int .i64 l1, .int .i64 l2]] w fun e w' => e = .returned (.bool true) ∧ Below w.heap.size w w' := by
  obtain ⟨p0, c0, e0, hc0, -⟩ := ha.p.f
  obtain ⟨p1, c1, e1, hc1, -⟩ := ha.s.f
  obtain ⟨p2, c2, e2, hc2, -⟩ := ha.w.f
  have hl0 := ha.lp
  have hl1 := ha.ls
  have hl2 := ha.lw
  obtain ⟨n0, hn0⟩ : ∃ n, a.P.length = n := ⟨_, rfl⟩
  obtain ⟨n1, hn1⟩ : ∃ n, a.S.length = n := ⟨_, rfl⟩
  obtain ⟨n2, hn2⟩ : ∃ n, a.W.length = n := ⟨_, rfl⟩
  rw [hn0] at e0 hc0 hl0
  rw [hn1] at e1 hc1 hl1
  rw [hn2] at e2 hc2 hl2
  subst e0 e1 e2
  clear hn0 hn1 hn2
  have HFr : Hid (fr < 18446744073709551616) := hfr
  obtain ⟨w1, hw1⟩ : ∃ w1, ((w.alloc (.cells #[.int .u64 (fr : Nat), .slice p0 n0 c0, .slice p1 n1 c1, .slice p2 n2 c2, .int .i64 lv] 29)).alloc (.cells #[.int .i64 l0, .int .i64 l1, .int .i64 l2] 30)) = w1 := ⟨_, rfl⟩
  have HB1 : Hid (Below w.heap.size w w1) := by rw [← hw1]; exact ((Below.refl _ _).alloc (Nat.le_refl _) _).alloc (by simp) _
  have HK1 : Hid (Blk w1 w.heap.size #[.int .u64 (fr : Nat), .slice p0 n0 c0, .slice p1 n1 c1, .slice p2 n2 c2, .int .i64 lv] 29) := by rw [← hw1]; exact (Blk.new w _ _).keep (B := w.heap.size + 1) ((Below.refl _ _).alloc (by simp) _) (by omega)
  have HL1 : Hid (Blk w1 (w.heap.size + 1) #[.int .i64 l0, .int .i64 l1, .int .i64 l2] 30) := by
    rw [← hw1]
    have h := Blk.new (w.alloc (.cells #[.int .u64 (fr : Nat), .slice p0 n0 c0, .slice p1 n1 c1, .slice p2 n2 c2, .int .i64 lv] 29)) #[.int .i64 l0, .int .i64 l1, .int .i64 l2] 30
    rw [World.size_alloc] at h
    exact h
  have HA1 : Hid (RdF w1 _ _ _ a) := ha.on HB1.out
  have CN : Hid (Calls _ _ _ _ _) := noted_any v K w1 (hK.on HB1.out)
  have HCs : Hid ((n0 ≤ c0 ∧ n0 ≤ 4398046511104) ∧ (n1 ≤ c1 ∧ n1 ≤ 2513169434916) ∧ (n2 ≤ c2 ∧ n2 ≤ 4398046511104)) := ⟨⟨hc0, hl0⟩, ⟨hc1, hl1⟩, ⟨hc2, hl2⟩⟩
  clear hK ha hfr hc0 hc1 hc2 hl0 hl1 hl2
  go_enter Tryz.func3, Tryz.ntmps3
  go_wp2_with fail
  refine CN.out.mono ?_
  rintro e w2 ⟨lb, mb, vC, E, L, vm, M, rfl, hP⟩
  clear CN hw1
  have HP2 : Hid (NtP w1 w2 lb mb vC E L vm M) := hP
  clear hP
  have l02 := (HK1.out.on HP2.out.bel).cell (i := 0) rfl
  have l12 := (HK1.out.on HP2.out.bel).cell (i := 1) rfl
  have l22 := (HK1.out.on HP2.out.bel).cell (i := 2) rfl
  have l32 := (HK1.out.on HP2.out.bel).cell (i := 3) rfl
  have l42 := (HK1.out.on HP2.out.bel).cell (i := 4) rfl
  have CR : Hid (Calls _ _ _ _ _) := try_any a _ _ _ lb fr lv vC mb _ L w2 HP2.out.log.x (HA1.out.on HP2.out.bel) HFr.out
  go_wp2_with fail
  clear l02 l12 l22 l32 l42
  refine CR.out.mono ?_
  rintro e w3 ⟨q, er, rfl, hq, hb⟩
  clear CR
  have HQ : Hid (TryQ a fr lv L q er) := hq
  rw [clA_eq]
  generalize clC q = cl
  obtain ⟨m1, x1⟩ := cl
  dsimp only
  obtain ⟨wb3, hwb3⟩ : ∃ wb, w3.alloc (.cells #[.int .u64 (m1 : Nat), .int .i64 x1.t, .int .i64 x1.i, .string x1.k] 38) = wb := ⟨_, rfl⟩
  have hal : Below w2.heap.size w2 wb3 := by rw [← hwb3]; exact hb.trans ((Below.refl _ _).alloc hb.size _)
  have HP3 : Hid (NtP w1 wb3 lb mb vC E L vm M) := HP2.out.on hal
  clear hal hq hb HP2
  have CR : Hid (Calls _ _ _ _ _) := try_any ⟨[], [], []⟩ _ _ _ lb 0 3 vC mb _ L wb3 HP3.out.log.x ⟨SlP.nil18 _, SlS.nil18 _, SlP.nil18 _, by simp, by simp, by simp⟩ (by omega)
  go_wp2_with fail
  clear hwb3
  refine CR.out.mono ?_
  rintro e w4 ⟨q2, er2, rfl, hq, hb⟩
  clear CR
  obtain rfl := hq.empty
  rw [clA_eq]
  generalize clC q2 = cl
  obtain ⟨m2, x2⟩ := cl
  dsimp only
  obtain ⟨wb4, hwb4⟩ : ∃ wb, w4.alloc (.cells #[.int .u64 (m2 : Nat), .int .i64 x2.t, .int .i64 x2.i, .string x2.k] 38) = wb := ⟨_, rfl⟩
  have hal : Below wb3.heap.size wb3 wb4 := by rw [← hwb4]; exact hb.trans ((Below.refl _ _).alloc hb.size _)
  have HP4 : Hid (NtP w1 wb4 lb mb vC E L vm M) := HP3.out.on hal
  clear hal hq hb HP3
  by_cases her : er = 0
  · subst her
    have l04 := (HK1.out.on HP4.out.bel).cell (i := 0) rfl
    have l14 := (HK1.out.on HP4.out.bel).cell (i := 1) rfl
    have l24 := (HK1.out.on HP4.out.bel).cell (i := 2) rfl
    have l34 := (HK1.out.on HP4.out.bel).cell (i := 3) rfl
    have l44 := (HK1.out.on HP4.out.bel).cell (i := 4) rfl
    obtain ⟨w5, hw5⟩ : ∃ w5, ((wb4.alloc (.cells #[.int .u64 (fr : Nat), .slice p0 n0 c0, .slice p1 n1 c1, .slice p2 n2 c2, .int .i64 lv] 29)).alloc (.cells #[.int .i64 (n0 : Int), .int .i64 (n1 : Int), .int .i64 (n2 : Int)] 30)) = w5 := ⟨_, rfl⟩
    obtain ⟨w5a, hw5a⟩ : ∃ w5, wb4.alloc (.cells #[.int .u64 (fr : Nat), .slice p0 n0 c0, .slice p1 n1 c1, .slice p2 n2 c2, .int .i64 lv] 29) = w5 := ⟨_, rfl⟩
    rw [hw5a] at hw5
    have h5a : Below wb4.heap.size wb4 w5a := by rw [← hw5a]; exact (Below.refl _ _).alloc (Nat.le_refl _) _
    have hz5a : w5a.heap.size = wb4.heap.size + 1 := by rw [← hw5a]; simp
    have h5b : Below w5a.heap.size w5a w5 := by rw [← hw5]; exact (Below.refl _ _).alloc (Nat.le_refl _) _
    have HP5a : Hid (NtP w1 w5a lb mb vC E L vm M) := HP4.out.on h5a
    have HP5 : Hid (NtP w1 w5 lb mb vC E L vm M) := HP5a.out.on h5b
    have HBb5 : Hid (Blk w5 wb4.heap.size #[.int .u64 (fr : Nat), .slice p0 n0 c0, .slice p1 n1 c1, .slice p2 n2 c2, .int .i64 lv] 29) := (show Blk w5a wb4.heap.size #[.int .u64 (fr : Nat), .slice p0 n0 c0, .slice p1 n1 c1, .slice p2 n2 c2, .int .i64 lv] 29 by rw [← hw5a]; exact Blk.new wb4 _ _).on h5b
    have HNb5 : Hid (Blk w5 (wb4.heap.size + 1) #[.int .i64 (n0 : Int), .int .i64 (n1 : Int), .int .i64 (n2 : Int)] 30) := by
      rw [← hw5, ← hz5a]
      exact Blk.new w5a _ _
    have l1a := (HK1.out.on HP5a.out.bel).cell (i := 1) rfl
    have l2a := (HK1.out.on HP5a.out.bel).cell (i := 2) rfl
    have l3a := (HK1.out.on HP5a.out.bel).cell (i := 3) rfl
    have HLe4 : Hid (w1.heap.size ≤ wb4.heap.size) := HP4.out.bel.size
    have HSz : Hid (w.heap.size + 1 < w1.heap.size) := HL1.out.lt
    clear h5a h5b HP4
    go_wp2_with fail
    clear l04 l14 l24 l34 l44
    clear l1a l2a l3a hw5 hw5a hwb4 HP5a hz5a
    generalize hbb : wb4.heap.size = bb at *
    clear hbb
    go_loopw [16] (fun i wr => ∃ j : Nat, j ≤ 3 ∧ i = .int .i64 (j : Int) ∧ Hid (NtP w1 wr lb mb vC E L vm M) ∧ Hid (Blk wr bb #[.int .u64 (fr : Nat), .slice p0 n0 c0, .slice p1 n1 c1, .slice p2 n2 c2, .int .i64 lv] 29) ∧ Hid (Blk wr (bb + 1) #[.int .i64 (((if 0 < j then lesN l0 n0 else n0 : Nat)) : Int), .int .i64 (((if 1 < j then lesN l1 n1 else n1 : Nat)) : Int), .int .i64 (((if 2 < j then lesN l2 n2 else n2 : Nat)) : Int)] 30)) (fun i _ => 3 - (intOf i).toNat)
    case atStart => exact ⟨0, by omega, by go_num, HP5, HBb5, (show Blk _ _ _ _ from by simpa using HNb5.out)⟩
    case round =>
      obtain ⟨j, hj, rfl, HPr, HBr, HNr⟩ := hrel
      clear HP5 HBb5 HNb5
      have hj4 : j = 0 ∨ j = 1 ∨ j = 2 ∨ j = 3 := by omega
      rcases hj4 with rfl | rfl | rfl | rfl
      · skip
        have HNj : Hid (Blk wr (bb + 1) #[.int .i64 ((n0 : Nat) : Int), .int .i64 ((n1 : Nat) : Int), .int .i64 ((n2 : Nat) : Int)] 30) := (show Blk _ _ _ _ from by simpa using HNr.out)
        clear HNr
        rw [show ((0 : Nat) : Int) = 0 from rfl]
        have y := (HL1.out.on HPr.out.bel).cell (i := 0) rfl
        have z := HNj.out.cell (i := 0) rfl
        have f := HNj.out.frozen 0
        by_cases hneg : l0 < 0
        · have HNn : Hid (Blk wr (bb + 1) #[.int .i64 ((lesN l0 n0 : Nat) : Int), .int .i64 ((n1 : Nat) : Int), .int .i64 ((n2 : Nat) : Int)] 30) := by rw [lesN_no (by omega)]; exact HNj.out
          have HNg : Hid (¬ 0 ≤ l0) := by show ¬ 0 ≤ l0; omega
          clear hneg HNj
          go_wp2_with fail
          have hng := HNg.out
          have hng2 : decide (0 ≤ l0) = false := decide_eq_false (by omega)
          go_quiet (fail)
          go_wp2_with fail
          go_roundw
          case rel => exact ⟨1, by omega, by go_num, HPr.out.drew' (wr.drewN nq) rfl rfl rfl rfl, Blk.drew' (w' := wr.drewN nq) HBr.out rfl, (show Blk _ _ _ _ from by simpa using Blk.drew' (w' := wr.drewN nq) HNn.out rfl)⟩
          case measure => simp [intOf]
        · by_cases hlt : l0 < (n0 : Int)
          · have HNn : Hid (Blk (wr.setCell ⟨bb + 1, 0, none⟩ (.int .i64 l0)) (bb + 1) #[.int .i64 l0, .int .i64 ((n1 : Nat) : Int), .int .i64 ((n2 : Nat) : Int)] 30) := HNj.out.set 0 _
            have HYs : Hid ((0 ≤ l0 ∧ l0 < (n0 : Int)) ∧ ((lesN l0 n0 : Nat) : Int) = l0) := ⟨by omega, lesN_yes (by omega)⟩
            have HFs : Hid (Frm wr (wr.setCell ⟨bb + 1, 0, none⟩ (.int .i64 l0)) (fun k => k = bb + 1)) := frm_set _ _ _ _ (F := fun k => k = bb + 1) (.inl rfl)
            clear hneg hlt
            have hns : 0 ≤ l0 := HYs.out.1.1
            have hlt2 : l0 < (n0 : Int) := HYs.out.1.2
            go_wp2_with fail
            go_quiet (fail)
            go_wp2_with fail
            go_roundw
            case rel => exact ⟨1, by omega, by go_num, (HPr.out.drew' (wr.drewN nq) rfl rfl rfl rfl).frmI (frm_set _ _ _ _ (F := fun k => k = bb + 1) (.inl rfl)) HNj.out (by decide) (by have := HLe4.out; omega), ((frm_set (wr.drewN nq) _ _ _ (F := fun k => k = bb + 1) (.inl rfl)).block bb HBr.out.lt (by simp)).trans HBr.out, by
              have h := (Blk.drew' (w' := wr.drewN nq) HNj.out rfl).set 0 (.int .i64 l0)
              have e := HYs.out.2
              refine (show Blk _ _ _ _ from ?_)
              simpa [e] using h⟩
            case measure => simp [intOf]
          · have HNn : Hid (Blk wr (bb + 1) #[.int .i64 ((lesN l0 n0 : Nat) : Int), .int .i64 ((n1 : Nat) : Int), .int .i64 ((n2 : Nat) : Int)] 30) := by rw [lesN_no (by omega)]; exact HNj.out
            have HNg : Hid (0 ≤ l0 ∧ ¬ l0 < (n0 : Int)) := ⟨by omega, hlt⟩
            clear hneg hlt HNj
            go_wp2_with fail
            have hns : 0 ≤ l0 := HNg.out.1
            have hng := HNg.out.2
            have hng2 : decide (l0 < (n0 : Int)) = false := decide_eq_false (by omega)
            go_quiet (fail)
            go_wp2_with fail
            go_roundw
            case rel => exact ⟨1, by omega, by go_num, HPr.out.drew' (wr.drewN nq) rfl rfl rfl rfl, Blk.drew' (w' := wr.drewN nq) HBr.out rfl, (show Blk _ _ _ _ from by simpa using Blk.drew' (w' := wr.drewN nq) HNn.out rfl)⟩
            case measure => simp [intOf]
      · skip
        have HNj : Hid (Blk wr (bb + 1) #[.int .i64 ((lesN l0 n0 : Nat) : Int), .int .i64 ((n1 : Nat) : Int), .int .i64 ((n2 : Nat) : Int)] 30) := (show Blk _ _ _ _ from by simpa using HNr.out)
        clear HNr
        rw [show ((1 : Nat) : Int) = 1 from rfl]
        generalize hg0 : lesN l0 n0 = g0 at *
        have y := (HL1.out.on HPr.out.bel).cell (i := 1) rfl
        have z := HNj.out.cell (i := 1) rfl
        have f := HNj.out.frozen 1
        by_cases hneg : l1 < 0
        · have HNn : Hid (Blk wr (bb + 1) #[.int .i64 ((g0 : Nat) : Int), .int .i64 ((lesN l1 n1 : Nat) : Int), .int .i64 ((n2 : Nat) : Int)] 30) := by rw [lesN_no (by omega)]; exact HNj.out
          have HNg : Hid (¬ 0 ≤ l1) := by show ¬ 0 ≤ l1; omega
          clear hneg HNj
          go_wp2_with fail
          have hng := HNg.out
          have hng2 : decide (0 ≤ l1) = false := decide_eq_false (by omega)
          go_quiet (fail)
          go_wp2_with fail
          go_roundw
          case rel => exact ⟨2, by omega, by go_num, HPr.out.drew' (wr.drewN nq) rfl rfl rfl rfl, Blk.drew' (w' := wr.drewN nq) HBr.out rfl, (show Blk _ _ _ _ from by simpa [hg0] using Blk.drew' (w' := wr.drewN nq) HNn.out rfl)⟩
          case measure => simp [intOf]
        · by_cases hlt : l1 < (n1 : Int)
          · have HNn : Hid (Blk (wr.setCell ⟨bb + 1, 1, none⟩ (.int .i64 l1)) (bb + 1) #[.int .i64 ((g0 : Nat) : Int), .int .i64 l1, .int .i64 ((n2 : Nat) : Int)] 30) := HNj.out.set 1 _
            have HYs : Hid ((0 ≤ l1 ∧ l1 < (n1 : Int)) ∧ ((lesN l1 n1 : Nat) : Int) = l1) := ⟨by omega, lesN_yes (by omega)⟩
            have HFs : Hid (Frm wr (wr.setCell ⟨bb + 1, 1, none⟩ (.int .i64 l1)) (fun k => k = bb + 1)) := frm_set _ _ _ _ (F := fun k => k = bb + 1) (.inl rfl)
            clear hneg hlt
            have hns : 0 ≤ l1 := HYs.out.1.1
            have hlt2 : l1 < (n1 : Int) := HYs.out.1.2
            go_wp2_with fail
            go_quiet (fail)
            go_wp2_with fail
            go_roundw
            case rel => exact ⟨2, by omega, by go_num, (HPr.out.drew' (wr.drewN nq) rfl rfl rfl rfl).frmI (frm_set _ _ _ _ (F := fun k => k = bb + 1) (.inl rfl)) HNj.out (by decide) (by have := HLe4.out; omega), ((frm_set (wr.drewN nq) _ _ _ (F := fun k => k = bb + 1) (.inl rfl)).block bb HBr.out.lt (by simp)).trans HBr.out, by
              have h := (Blk.drew' (w' := wr.drewN nq) HNj.out rfl).set 1 (.int .i64 l1)
              have e := HYs.out.2
              refine (show Blk _ _ _ _ from ?_)
              simpa [e, hg0] using h⟩
            case measure => simp [intOf]
          · have HNn : Hid (Blk wr (bb + 1) #[.int .i64 ((g0 : Nat) : Int), .int .i64 ((lesN l1 n1 : Nat) : Int), .int .i64 ((n2 : Nat) : Int)] 30) := by rw [lesN_no (by omega)]; exact HNj.out
            have HNg : Hid (0 ≤ l1 ∧ ¬ l1 < (n1 : Int)) := ⟨by omega, hlt⟩
            clear hneg hlt HNj
            go_wp2_with fail
            have hns : 0 ≤ l1 := HNg.out.1
            have hng := HNg.out.2
            have hng2 : decide (l1 < (n1 : Int)) = false := decide_eq_false (by omega)
            go_quiet (fail)
            go_wp2_with fail
            go_roundw
            case rel => exact ⟨2, by omega, by go_num, HPr.out.drew' (wr.drewN nq) rfl rfl rfl rfl, Blk.drew' (w' := wr.drewN nq) HBr.out rfl, (show Blk _ _ _ _ from by simpa [hg0] using Blk.drew' (w' := wr.drewN nq) HNn.out rfl)⟩
            case measure => simp [intOf]
      · skip
        have HNj : Hid (Blk wr (bb + 1) #[.int .i64 ((lesN l0 n0 : Nat) : Int), .int .i64 ((lesN l1 n1 : Nat) : Int), .int .i64 ((n2 : Nat) : Int)] 30) := (show Blk _ _ _ _ from by simpa using HNr.out)
        clear HNr
        rw [show ((2 : Nat) : Int) = 2 from rfl]
        generalize hg0 : lesN l0 n0 = g0 at *
        generalize hg1 : lesN l1 n1 = g1 at *
        have y := (HL1.out.on HPr.out.bel).cell (i := 2) rfl
        have z := HNj.out.cell (i := 2) rfl
        have f := HNj.out.frozen 2
        by_cases hneg : l2 < 0
        · have HNn : Hid (Blk wr (bb + 1) #[.int .i64 ((g0 : Nat) : Int), .int .i64 ((g1 : Nat) : Int), .int .i64 ((lesN l2 n2 : Nat) : Int)] 30) := by rw [lesN_no (by omega)]; exact HNj.out
          have HNg : Hid (¬ 0 ≤ l2) := by show ¬ 0 ≤ l2; omega
          clear hneg HNj
          go_wp2_with fail
          have hng := HNg.out
          have hng2 : decide (0 ≤ l2) = false := decide_eq_false (by omega)
          go_quiet (fail)
          go_wp2_with fail
          go_roundw
          case rel => exact ⟨3, by omega, by go_num, HPr.out.drew' (wr.drewN nq) rfl rfl rfl rfl, Blk.drew' (w' := wr.drewN nq) HBr.out rfl, (show Blk _ _ _ _ from by simpa [hg0, hg1] using Blk.drew' (w' := wr.drewN nq) HNn.out rfl)⟩
          case measure => simp [intOf]
        · by_cases hlt : l2 < (n2 : Int)
          · have HNn : Hid (Blk (wr.setCell ⟨bb + 1, 2, none⟩ (.int .i64 l2)) (bb + 1) #[.int .i64 ((g0 : Nat) : Int), .int .i64 ((g1 : Nat) : Int), .int .i64 l2] 30) := HNj.out.set 2 _
            have HYs : Hid ((0 ≤ l2 ∧ l2 < (n2 : Int)) ∧ ((lesN l2 n2 : Nat) : Int) = l2) := ⟨by omega, lesN_yes (by omega)⟩
            have HFs : Hid (Frm wr (wr.setCell ⟨bb + 1, 2, none⟩ (.int .i64 l2)) (fun k => k = bb + 1)) := frm_set _ _ _ _ (F := fun k => k = bb + 1) (.inl rfl)
            clear hneg hlt
            have hns : 0 ≤ l2 := HYs.out.1.1
            have hlt2 : l2 < (n2 : Int) := HYs.out.1.2
            go_wp2_with fail
            go_quiet (fail)
            go_wp2_with fail
            go_roundw
            case rel => exact ⟨3, by omega, by go_num, (HPr.out.drew' (wr.drewN nq) rfl rfl rfl rfl).frmI (frm_set _ _ _ _ (F := fun k => k = bb + 1) (.inl rfl)) HNj.out (by decide) (by have := HLe4.out; omega), ((frm_set (wr.drewN nq) _ _ _ (F := fun k => k = bb + 1) (.inl rfl)).block bb HBr.out.lt (by simp)).trans HBr.out, by
              have h := (Blk.drew' (w' := wr.drewN nq) HNj.out rfl).set 2 (.int .i64 l2)
              have e := HYs.out.2
              refine (show Blk _ _ _ _ from ?_)
              simpa [e, hg0, hg1] using h⟩
            case measure => simp [intOf]
          · have HNn : Hid (Blk wr (bb + 1) #[.int .i64 ((g0 : Nat) : Int), .int .i64 ((g1 : Nat) : Int), .int .i64 ((lesN l2 n2 : Nat) : Int)] 30) := by rw [lesN_no (by omega)]; exact HNj.out
            have HNg : Hid (0 ≤ l2 ∧ ¬ l2 < (n2 : Int)) := ⟨by omega, hlt⟩
            clear hneg hlt HNj
            go_wp2_with fail
            have hns : 0 ≤ l2 := HNg.out.1
            have hng := HNg.out.2
            have hng2 : decide (l2 < (n2 : Int)) = false := decide_eq_false (by omega)
            go_quiet (fail)
            go_wp2_with fail
            go_roundw
            case rel => exact ⟨3, by omega, by go_num, HPr.out.drew' (wr.drewN nq) rfl rfl rfl rfl, Blk.drew' (w' := wr.drewN nq) HBr.out rfl, (show Blk _ _ _ _ from by simpa [hg0, hg1] using Blk.drew' (w' := wr.drewN nq) HNn.out rfl)⟩
            case measure => simp [intOf]
      · skip
        have HNj : Hid (Blk wr (bb + 1) #[.int .i64 ((lesN l0 n0 : Nat) : Int), .int .i64 ((lesN l1 n1 : Nat) : Int), .int .i64 ((lesN l2 n2 : Nat) : Int)] 30) := (show Blk _ _ _ _ from by simpa using HNr.out)
        clear HNr
        rw [show ((3 : Nat) : Int) = 3 from rfl]
        have hk0 := lesN_le l0 n0
        have hk1 := lesN_le l1 n1
        have hk2 := lesN_le l2 n2
        generalize lesN l0 n0 = k0 at *
        generalize lesN l1 n1 = k1 at *
        generalize lesN l2 n2 = k2 at *
        have HKk : Hid (k0 ≤ n0 ∧ k1 ≤ n1 ∧ k2 ≤ n2) := ⟨hk0, hk1, hk2⟩
        obtain ⟨⟨hc0, hm0⟩, ⟨hc1, hm1⟩, ⟨hc2, hm2⟩⟩ := HCs.out
        have hkc0 : k0 ≤ c0 := by omega
        have hkc1 : k1 ≤ c1 := by omega
        have hkc2 : k2 ≤ c2 := by omega
        clear hk0 hk1 hk2 hc0 hc1 hc2 hm0 hm1 hm2
        have hne : w.heap.size < bb := by have h1 := HLe4.out; have h2 := HSz.out; omega
        have hT : ¬ ((29 : TypeId) = 49 ∨ (29 : TypeId) = 75 ∨ (29 : TypeId) = 23 ∨ (29 : TypeId) = 36 ∨ (29 : TypeId) = 86 ∨ (29 : TypeId) = 79) := by decide
        obtain ⟨wA, hwA⟩ : ∃ wA, wr.setCell ⟨bb, 1, none⟩ (.slice p0 k0 c0) = wA := ⟨_, rfl⟩
        have fA : Frm wr wA (fun k => k = bb) := by rw [← hwA]; exact frm_set _ _ _ _ (F := fun k => k = bb) (.inl rfl)
        have bA : Blk wA bb #[.int .u64 (fr : Nat), .slice p0 k0 c0, .slice p1 n1 c1, .slice p2 n2 c2, .int .i64 lv] 29 := by rw [← hwA]; exact HBr.out.set 1 _
        have nA : NtP w1 wA lb mb vC E L vm M := HPr.out.frmI fA HBr.out hT (by have := HLe4.out; omega)
        have mA : Blk wA (bb + 1) #[.int .i64 (k0 : Int), .int .i64 (k1 : Int), .int .i64 (k2 : Int)] 30 := (fA.block (bb + 1) HNj.out.lt (by simp)).trans HNj.out
        obtain ⟨wB, hwB⟩ : ∃ wB, wA.setCell ⟨bb, 2, none⟩ (.slice p1 k1 c1) = wB := ⟨_, rfl⟩
        have fB : Frm wA wB (fun k => k = bb) := by rw [← hwB]; exact frm_set _ _ _ _ (F := fun k => k = bb) (.inl rfl)
        have bB : Blk wB bb #[.int .u64 (fr : Nat), .slice p0 k0 c0, .slice p1 k1 c1, .slice p2 n2 c2, .int .i64 lv] 29 := by rw [← hwB]; exact bA.set 2 _
        have nB : NtP w1 wB lb mb vC E L vm M := nA.frmI fB bA hT (by have := HLe4.out; omega)
        have mB : Blk wB (bb + 1) #[.int .i64 (k0 : Int), .int .i64 (k1 : Int), .int .i64 (k2 : Int)] 30 := (fB.block (bb + 1) mA.lt (by simp)).trans mA
        obtain ⟨wC, hwC⟩ : ∃ wC, wB.setCell ⟨bb, 3, none⟩ (.slice p2 k2 c2) = wC := ⟨_, rfl⟩
        have fC : Frm wB wC (fun k => k = bb) := by rw [← hwC]; exact frm_set _ _ _ _ (F := fun k => k = bb) (.inl rfl)
        have HbC : Hid (Blk wC bb #[.int .u64 (fr : Nat), .slice p0 k0 c0, .slice p1 k1 c1, .slice p2 k2 c2, .int .i64 lv] 29) := by rw [← hwC]; exact bB.set 3 _
        have HnC : Hid (NtP w1 wC lb mb vC E L vm M) := nB.frmI fC bB hT (by have := HLe4.out; omega)
        have y1 := (HK1.out.on HPr.out.bel).cell (i := 1) rfl
        have y2 := (HK1.out.on nA.bel).cell (i := 2) rfl
        have y3 := (HK1.out.on nB.bel).cell (i := 3) rfl
        have z0 := HNj.out.cell (i := 0) rfl
        have z1 := mA.cell (i := 1) rfl
        have z2 := mB.cell (i := 2) rfl
        have t1 := HBr.out.cell (i := 1) rfl
        have t2 := bA.cell (i := 2) rfl
        have t3 := bB.cell (i := 3) rfl
        have f1 := HBr.out.frozen 1
        have f2 := bA.frozen 2
        have f3 := bB.frozen 3
        have t0 := HbC.out.cell (i := 0) rfl
        have g0 := HbC.out.frozen 0
        have HSw : Hid (bb < wC.heap.size) := HbC.out.lt
        clear fA bA nA mA fB bB nB mB fC hne hT HPr HBr HNj
        have HRf : Hid (∀ w9, Below w1.heap.size w1 w9 → RdF w9 (.slice p0 k0 c0) (.slice p1 k1 c1) (.slice p2 k2 c2) ⟨a.P.take k0, a.S.take k1, a.W.take k2⟩) := fun w9 h9 => (HA1.out.on h9).take k0 k1 k2 HKk.out.1 HKk.out.2.1 HKk.out.2.2
        by_cases hbig : fr < 1152921504606846976
        · have dg : decide ((fr : Int) < 1152921504606846976) = true := decide_eq_true (by omega)
          obtain ⟨fz, hfz⟩ : ∃ fz, fr + 1 = fz := ⟨_, rfl⟩
          have hwr : IntKind.u64.wrap ((fr : Int) + 1) = ((fz : Nat) : Int) := by rw [IntKind.wrap_u64]; omega
          obtain ⟨wD, hwD⟩ : ∃ wD, wC.setCell ⟨bb, 0, none⟩ (.int .u64 (fz : Nat)) = wD := ⟨_, rfl⟩
          have fD : Frm wC wD (fun k => k = bb) := by rw [← hwD]; exact frm_set _ _ _ _ (F := fun k => k = bb) (.inl rfl)
          have HbD : Hid (Blk wD bb #[.int .u64 (fz : Nat), .slice p0 k0 c0, .slice p1 k1 c1, .slice p2 k2 c2, .int .i64 lv] 29) := by rw [← hwD]; exact HbC.out.set 0 _
          have HPD : Hid (NtP w1 wD lb mb vC E L vm M) := HnC.out.frmI fD HbC.out (by decide) (by have := HLe4.out; omega)
          have HFz : Hid (fr ≤ fz) := by show fr ≤ fz; omega
          have CR : Hid (Calls _ _ _ _ _) := try_any ⟨a.P.take k0, a.S.take k1, a.W.take k2⟩ _ _ _ lb fz lv vC mb _ L wD HPD.out.log.x (HRf.out wD HPD.out.bel) (by omega)
          clear fD hfz hbig
          have u0 := HbD.out.cell (i := 0) rfl
          have u1 := HbD.out.cell (i := 1) rfl
          have u2 := HbD.out.cell (i := 2) rfl
          have u3 := HbD.out.cell (i := 3) rfl
          have u4 := HbD.out.cell (i := 4) rfl
          go_wp2_with fail
          clear u0 u1 u2 u3 u4 y1 y2 y3 z0 z1 z2 t0 t1 t2 t3 f1 f2 f3 g0 hwA hwB hwC dg hkc0 hkc1 hkc2 hwD hwr
          refine CR.out.mono ?_
          rintro e w8 ⟨q8, er8, rfl, hq8, hb8⟩
          clear CR
          obtain rfl := HQ.out.less k0 k1 k2 HFz.out hq8
          rw [clA_eq]
          generalize clC q8 = cl
          obtain ⟨m8, x8⟩ := cl
          dsimp only
          obtain ⟨wb8, hwb8⟩ : ∃ wb, w8.alloc (.cells #[.int .u64 (m8 : Nat), .int .i64 x8.t, .int .i64 x8.i, .string x8.k] 38) = wb := ⟨_, rfl⟩
          have hal : Below wD.heap.size wD wb8 := by rw [← hwb8]; exact hb8.trans ((Below.refl _ _).alloc hb8.size _)
          have HE8 : Hid (Below w.heap.size w wb8) := HB1.out.trans ((HPD.out.on hal).bel.mono HB1.out.size)
          have CW : Hid (Calls _ _ _ _ _) := awake18_any wb8
          clear hal hq8 hb8 HPD
          go_wp2_with fail
          refine CW.out.mono ?_
          rintro e w9 ⟨rfl, hb⟩
          have HE : Hid (Below w.heap.size w w9) := HE8.out.trans (hb.mono HE8.out.size)
          clear CW hb hwb8
          go_wp2_with fail
          go_ret
          exact ⟨rfl, HE.out⟩
        · have dg : decide ((fr : Int) < 1152921504606846976) = false := decide_eq_false (by omega)
          have HbD := HbC
          have HPD := HnC
          have HFz : Hid (fr ≤ fr) := Nat.le_refl _
          have CR : Hid (Calls _ _ _ _ _) := try_any ⟨a.P.take k0, a.S.take k1, a.W.take k2⟩ _ _ _ lb fr lv vC mb _ L wC HPD.out.log.x (HRf.out wC HPD.out.bel) HFr.out
          clear hbig
          have u0 := HbD.out.cell (i := 0) rfl
          have u1 := HbD.out.cell (i := 1) rfl
          have u2 := HbD.out.cell (i := 2) rfl
          have u3 := HbD.out.cell (i := 3) rfl
          have u4 := HbD.out.cell (i := 4) rfl
          go_wp2_with fail
          clear u0 u1 u2 u3 u4 y1 y2 y3 z0 z1 z2 t0 t1 t2 t3 f1 f2 f3 g0 hwA hwB hwC dg hkc0 hkc1 hkc2
          refine CR.out.mono ?_
          rintro e w8 ⟨q8, er8, rfl, hq8, hb8⟩
          clear CR
          obtain rfl := HQ.out.less k0 k1 k2 HFz.out hq8
          rw [clA_eq]
          generalize clC q8 = cl
          obtain ⟨m8, x8⟩ := cl
          dsimp only
          obtain ⟨wb8, hwb8⟩ : ∃ wb, w8.alloc (.cells #[.int .u64 (m8 : Nat), .int .i64 x8.t, .int .i64 x8.i, .string x8.k] 38) = wb := ⟨_, rfl⟩
          have hal : Below wC.heap.size wC wb8 := by rw [← hwb8]; exact hb8.trans ((Below.refl _ _).alloc hb8.size _)
          have HE8 : Hid (Below w.heap.size w wb8) := HB1.out.trans ((HPD.out.on hal).bel.mono HB1.out.size)
          have CW : Hid (Calls _ _ _ _ _) := awake18_any wb8
          clear hal hq8 hb8 HPD
          go_wp2_with fail
          refine CW.out.mono ?_
          rintro e w9 ⟨rfl, hb⟩
          have HE : Hid (Below w.heap.size w w9) := HE8.out.trans (hb.mono HE8.out.size)
          clear CW hb hwb8
          go_wp2_with fail
          go_ret
          exact ⟨rfl, HE.out⟩
  · have HE4 : Hid (Below w.heap.size w wb4) := HB1.out.trans (HP4.out.bel.mono HB1.out.size)
    have CW : Hid (Calls _ _ _ _ _) := awake18_any wb4
    clear HP4
    go_wp2_with fail
    refine CW.out.mono ?_
    rintro e w5 ⟨rfl, hb⟩
    have HE : Hid (Below w.heap.size w w5) := HE4.out.trans (hb.mono HE4.out.size)
    clear CW hb hwb4
    go_wp2_with fail
    go_ret
    exact ⟨rfl, HE.out⟩

end Go.Proofs.YtcknhjabdjbjiabGreat
