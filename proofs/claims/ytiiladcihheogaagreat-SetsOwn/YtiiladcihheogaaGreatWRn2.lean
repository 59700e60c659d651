/- Of the document: the normal foot. -/
import Derived.Test.YtiiladcihheogaaGreatWRn1
namespace Go.Proofs.YtiiladcihheogaaGreat
open Go.RowKit
set_option maxRecDepth 100000

theorem rowP_ne {w : World} {p : Option Addr} {L : List Pt} {g : Nat} {cs : Array Value} {T : TypeId} (h : RowP w w.heap.size p L) (hb : Blk w g cs T) (hcs : ∀ (i : Nat) (v : Value), cs[i]? = some v → ∃ a n c, v = Value.slice a n c) : ∀ b o, p = some ⟨b, o, none⟩ → b < w.heap.size → L ≠ [] → ¬ b = g := by
  intro b o e _ hL e2
  subst e2
  obtain ⟨b', o', e', _, c0, _⟩ := h 0 (List.length_pos_iff.2 hL)
  rw [e] at e'
  cases e'
  have h9 : w.cell? ⟨b, o + 0 * 3, none⟩ = cs[o + 0 * 3]? := by
    unfold Blk at hb
    simp [World.cell?, hb]
  rw [h9] at c0
  obtain ⟨a, n, c, e9⟩ := hcs _ _ c0
  cases e9
theorem SlP.frm1 {w w' : World} {v : Value} {L : List Pt} {g : Nat} {cs : Array Value} {T : TypeId} (h : SlP w v L) (hf : Frm w w' (fun k => k = g)) (hb : Blk w g cs T) (hcs : ∀ (i : Nat) (v : Value), cs[i]? = some v → ∃ a n c, v = Value.slice a n c) : SlP w' v L := by
  obtain ⟨p, c, e, h1, h2, h3⟩ := h.f
  exact ⟨p, c, e, h1, h2, h3.frm hf (rowP_ne h3 hb hcs)⟩
theorem slices3 (a0 a1 a2 : Option Addr) (n0 n1 n2 c0 c1 c2 : Nat) : ∀ (i : Nat) (v : Value), (#[Value.slice a0 n0 c0, .slice a1 n1 c1, .slice a2 n2 c2] : Array Value)[i]? = some v → ∃ a n c, v = Value.slice a n c := by
  intro i v h
  match i, h with
  | 0, h => cases h; exact ⟨_, _, _, rfl⟩
  | 1, h => cases h; exact ⟨_, _, _, rfl⟩
  | 2, h => cases h; exact ⟨_, _, _, rfl⟩
  | i + 3, h => simp at h

/-- 'append(l, s)', where the order is drawn, and what stays -/
theorem wp_appSg {o : Oper} {a : Act} {K : Act → World → Prop} {Q : Exit → Act → World → Prop} (w : World) (s x : Operand)
    (ho : o.op = .call { callee := .builtin .append, args := #[s, x], argTypes := #[23, 23] })
    (B : Nat) (v : Value) (L : List Sp) (hs : a.eval s = v) (hown : OwnS w B v L)
    (u : Sp) (g : Nat) (hx : a.eval x = .slice (some ⟨g, 0, none⟩) 1 1) (hgz : g = w.heap.size)
    (hlen : L.length + 1 ≤ 2513169434916) (hbase : B ≤ w.heap.size)
    (h : ∀ v' w', OwnS w' B v' (L ++ [u]) → Below B w w' → (∀ k, k < w.heap.size → some k ≠ v.ownBlock → w'.heap[k]? = w.heap[k]?) → K (a.put o.dst v') w') : Oper.wp Tryz.prog o a (w.alloc (.cells #[.int .i64 u.t, .int .i64 u.i, .string u.lo, .string u.hi, .bool u.op] 42)) K Q := by
  obtain ⟨i, hi, hz0, hz1, hz2⟩ := info_parts info_S
  subst hgz
  have hown' : OwnS (w.alloc (.cells #[.int .i64 u.t, .int .i64 u.i, .string u.lo, .string u.hi, .bool u.op] 42)) B v L := hown.kept ((Below.refl _ _).alloc (Nat.le_refl _) _)
  refine wp_append_own _ s x 23 ho B 42 i (.agg #[.int .i64 0, .int .i64 0, .string ⟨#[]⟩, .string ⟨#[]⟩, .bool false]) 5 56 Tryz.underlying23 hi hz0 hz1 hz2 rfl (by decide) v L.length (scells L) hs hown' ⟨w.heap.size, 0, none⟩ 1 1 (scells [u]) hx rfl ?_ ?_ (by unfold maxLen; omega) (by omega) (by simp; omega) ?_
  · intro j y hj
    have hj' : j < 5 := by
      have := (List.getElem?_eq_some_iff.1 hj).1
      simpa [scells, encS] using this
    have e : (⟨w.heap.size, 0, none⟩ : Addr).add j = ⟨w.heap.size, j, none⟩ := by unfold Addr.add; split <;> simp_all
    rw [e]
    have h4 : j = 0 ∨ j = 1 ∨ j = 2 ∨ j = 3 ∨ j = 4 := by omega
    rcases h4 with rfl | rfl | rfl | rfl | rfl <;> (simp [scells, encS] at hj; subst hj; simp [go_sem])
  · intro y hy
    simp [scells, encS] at hy
    rcases hy with rfl | rfl | rfl | rfl | rfl <;> rfl
  · intro v' w' h1 h2 _
    refine h v' w' ?_ ?_ ?_
    · unfold OwnS
      rw [scells_append, List.length_append]
      exact h1
    · exact ((Below.refl _ _).alloc hbase _).grown h2 (by simp; omega) (fun k hk => (hown'.lt k hk).1)
    · intro k hk hne
      exact (h2.block k (by simp; omega) hne).trans (Below.heap_alloc _ _ k hk)

theorem runionV_any {B : Nat} (v : Value) (L : List Rg) (w : World) (h : OwnR w B v L) (hlen : L.length ≤ 3518437208784) :
    Calls Tryz.prog 44 #[v] w fun e w' => ∃ (v' : Value) (U : List Rg), e = .returned v' ∧ OwnR w' w.heap.size v' U ∧ UnOf L U ∧ U.length ≤ L.length ∧ Below w.heap.size w w' := by
  obtain ⟨p, c, rfl, hr⟩ := h.row
  refine (runion_any L p c w hr hlen).mono ?_
  rintro e w' ⟨v, R, rfl, h1, h2, h3, h4, h5⟩
  have h6 := foldU_len R []
  simp only [List.length_nil, Nat.zero_add] at h6
  exact ⟨v, _, rfl, h1, union_un h2 h3, by omega, h5⟩
theorem plc_eq (s : Sp) (x : Pt) (hx : x.k = ⟨#[]⟩) : decide (plcS s = x) = ((s.t == x.t) && (s.i == x.i)) := by
  rw [Bool.eq_iff_iff]
  simp only [decide_eq_true_eq, Bool.and_eq_true, beq_iff_eq]
  constructor
  · rintro rfl; exact ⟨rfl, rfl⟩
  · rintro ⟨h1, h2⟩
    obtain ⟨t, i, k⟩ := x
    simp only at hx h1 h2
    subst hx h1 h2
    rfl

set_option maxHeartbeats 16000000 in
theorem rnormal_any (f : Ft) (va0 va1 va2 : Value) (w : World) (hf : RdF w va0 va1 va2 f) (hl : f.S.length ≤ 65536) :
    Calls Tryz.prog 20 #[.agg #[va0, va1, va2]] w fun e w' => ∃ x0 x1 x2 g, e = .returned (.agg #[x0, x1, x2]) ∧ RdF w' x0 x1 x2 g ∧ NrmF f g ∧ Below w.heap.size w w' := by
  obtain ⟨w3, hw3⟩ : ∃ w3, ((w.alloc (.cells #[va0, va1, va2] 25)).alloc (.cells #[.slice none 0 0, .slice none 0 0, .slice none 0 0] 25)) = w3 := ⟨_, rfl⟩
  have hz3 : w3.heap.size = w.heap.size + 1 + 1 := by rw [← hw3]; simp
  have HB3 : Hid (Below w.heap.size w w3) := by rw [← hw3]; exact ((Below.refl _ _).alloc (Nat.le_refl _) _).alloc (by simp) _
  have HKF : Hid (Blk w3 w.heap.size #[va0, va1, va2] 25) := by rw [← hw3]; exact (Blk.new w #[va0, va1, va2] 25).keep (B := w.heap.size + 1) ((Below.refl _ _).alloc (by simp) _) (by omega)
  have HKR : Hid (Blk w3 (w.heap.size + 1) #[.slice none 0 0, .slice none 0 0, .slice none 0 0] 25) := by
    rw [← hw3]
    have h := Blk.new (w.alloc (.cells #[va0, va1, va2] 25)) #[.slice none 0 0, .slice none 0 0, .slice none 0 0] 25
    rw [World.size_alloc] at h
    exact h
  have HA0 : Hid (RdF w va0 va1 va2 f) := hf
  have HA : Hid (RdF w3 va0 va1 va2 f) := hf.on HB3.out
  have HC : Hid (Calls _ _ _ _ _) := rsorted_any f.W va2 w3 HA.out.w HA.out.lw
  have g2 := HKF.out.cell (i := 2) rfl
  clear hf
  obtain ⟨p1, n1, c1, ev1, hn1, HRS⟩ : ∃ p n c, va1 = .slice p n c ∧ n = f.S.length ∧ Hid (RowS w w.heap.size p f.S) := by
    obtain ⟨p, c, e, _, _, h⟩ := HA0.out.s.f
    exact ⟨_, _, _, e, rfl, h⟩
  obtain ⟨p0, n0, c0, ev0⟩ : ∃ p n c, va0 = .slice p n c := by
    obtain ⟨p, c, e, _⟩ := HA.out.p.f
    exact ⟨_, _, _, e⟩
  obtain ⟨p2, n2, c2, ev2⟩ : ∃ p n c, va2 = .slice p n c := by
    obtain ⟨p, c, e, _⟩ := HA.out.w.f
    exact ⟨_, _, _, e⟩
  subst ev0 ev1 ev2 hn1
  go_enter Tryz.func20, Tryz.ntmps20
  go_wp2_with fail
  refine HC.out.mono ?_
  rintro e w4 ⟨vW, T, rfl, hSW, hT1, hT2, hT3, hb4⟩
  clear HC g2 hw3
  obtain ⟨pW, nW, cW, evW⟩ : ∃ p n c, vW = .slice p n c := by
    obtain ⟨p, c, e, _⟩ := hSW.f
    exact ⟨_, _, _, e⟩
  subst evW
  have hz4 := hb4.size
  have HB5 : Hid (Below w4.heap.size w4 (w4.alloc (.cells #[.slice none 0 0, .slice none 0 0, .slice pW nW cW] 25))) := (Below.refl _ _).alloc (Nat.le_refl _) _
  have HKO : Hid (Blk (w4.alloc (.cells #[.slice none 0 0, .slice none 0 0, .slice pW nW cW] 25)) w4.heap.size #[.slice none 0 0, .slice none 0 0, .slice pW nW cW] 25) := Blk.new w4 _ _
  have HFW : Hid (RisP T ∧ (∀ x, x ∈ T ↔ x ∈ f.W) ∧ T.length ≤ f.W.length) := ⟨hT1, hT2, hT3⟩
  have HSW : Hid (SlP (w4.alloc (.cells #[.slice none 0 0, .slice none 0 0, .slice pW nW cW] 25)) (.slice pW nW cW) T) := hSW.on HB5.out
  have HB35 : Hid (Below w3.heap.size w3 (w4.alloc (.cells #[.slice none 0 0, .slice none 0 0, .slice pW nW cW] 25))) := hb4.trans (HB5.out.mono hz4)
  have HP : Hid (Calls _ _ _ _ _) := places_any f.S (.slice p1 f.S.length c1) (w4.alloc (.cells #[.slice none 0 0, .slice none 0 0, .slice pW nW cW] 25)) (HA.out.s.on HB35.out) hl
  have g1 := (HKF.out.on HB35.out).cell (i := 1) rfl
  clear hSW hT1 hT2 hT3 hb4 HB5
  go_wp2_with fail
  generalize (w4.alloc (.cells #[.slice none 0 0, .slice none 0 0, .slice pW nW cW] 25)) = w5 at *
  refine HP.out.mono ?_
  rintro e wS ⟨vP, R, rfl, hSP, hR1, hR2, hR3, hbS⟩
  clear HP g1
  obtain ⟨pP, cP, evP, _, _, hRP⟩ := hSP.f
  subst evP
  have HRP : Hid (RowP wS wS.heap.size pP R) := hRP
  have HFP : Hid (RisP R ∧ (∀ x, x ∈ R ↔ x ∈ f.S.map plcS)) := ⟨hR1, hR2⟩
  have HB3S : Hid (Below w3.heap.size w3 wS) := HB35.out.trans (hbS.mono HB35.out.size)
  have HFS : Hid (Blk wS w.heap.size #[.slice p0 n0 c0, .slice p1 f.S.length c1, .slice p2 n2 c2] 25) := HKF.out.on HB3S.out
  have HRS2 : Hid (Blk wS (w.heap.size + 1) #[.slice none 0 0, .slice none 0 0, .slice none 0 0] 25) := HKR.out.on HB3S.out
  have HOS : Hid (Blk wS w4.heap.size #[.slice none 0 0, .slice none 0 0, .slice pW nW cW] 25) := HKO.out.on hbS
  have HWS : Hid (SlP wS (.slice pW nW cW) T) := HSW.out.on hbS
  have HBW : Hid (Below w.heap.size w wS) := HB3.out.trans (HB3S.out.mono (by omega))
  have hobl := HOS.out.lt
  have hzS : w.heap.size + 1 + 1 ≤ w4.heap.size := by omega
  have HNe : Hid (∀ b o, pP = some ⟨b, o, none⟩ → b < wS.heap.size → R ≠ [] → ¬ b = w4.heap.size) := rowP_ne HRP.out HOS.out (slices3 _ _ _ _ _ _ _ _ _)
  have hRl : R.length ≤ 65536 := by omega
  have HSum : Hid (∀ Ms : List (Pt × List Rg), (∃ n, Ms.map (·.1) = R.take n) → (∀ x ∈ Ms, x.2.length ≤ (rngsAt f.S x.1).length) → (layU Ms).length ≤ f.S.length) := fun Ms hM1 hM2 => by
    obtain ⟨n, hn⟩ := hM1
    have h1 := layU_len f.S Ms hM2
    have h2 := sum_rngs (Ms.map (·.1)) (by rw [hn]; exact List.Pairwise.sublist (List.take_sublist _ _) HFP.out.1.nodup) f.S
    omega
  clear hSP hR1 hR2 hR3 hbS hRP HKO HSW HB35 HB3S HKF HKR HB3 hz3 hz4
  have HD : Hid (∀ wx : World, Frm wS wx (fun k => k = w4.heap.size) → Below w.heap.size w wx ∧ Blk wx w.heap.size #[.slice p0 n0 c0, .slice p1 f.S.length c1, .slice p2 n2 c2] 25 ∧ RowP wx wx.heap.size pP R) := fun wx hx => ⟨HBW.out.trans (hx.below HBW.out.size (fun k hk => by omega)), HFS.out.frm hx (by omega), HRP.out.frm hx HNe.out⟩
  go_wp2_with fail
  go_loopw [5] (fun i wr => ∃ (j : Nat) (Ms : List (Pt × List Rg)) (q : Option Addr) (l d : Nat), j ≤ R.length ∧ i = .int .i64 (j : Int) ∧ Hid (Ms.map (·.1) = R.take j) ∧ Hid (∀ x ∈ Ms, UnOf (rngsAt f.S x.1) x.2 ∧ x.2.length ≤ (rngsAt f.S x.1).length) ∧ Hid (Blk wr w4.heap.size #[.slice none 0 0, .slice q l d, .slice pW nW cW] 25) ∧ Hid (OwnS wr wS.heap.size (.slice q l d) (layU Ms)) ∧ Hid (Frm wS wr (fun k => k = w4.heap.size))) (fun i _ => R.length - (intOf i).toNat)
  case atStart => exact ⟨0, [], none, 0, 0, Nat.zero_le _, by go_num, (show ([] : List (Pt × List Rg)).map (·.1) = R.take 0 by simp), (show ∀ x ∈ ([] : List (Pt × List Rg)), _ by simp), HOS.out, OwnS.nil _ _, Frm.refl _ _⟩
  case round =>
    obtain ⟨j, Ms, q, l, d, hj, rfl, HMs, HUn, HB, HOw, HFr⟩ := hrel
    by_cases hj0 : j = R.length
    · subst hj0
      have hMs := HMs.out
      rw [List.take_of_length_le (Nat.le_refl _)] at hMs
      have hxk : ∀ x ∈ Ms, x.1.k = ⟨#[]⟩ := fun x hx => by
        have h1 : x.1 ∈ R := by rw [← hMs]; exact List.mem_map.2 ⟨x, hx, rfl⟩
        obtain ⟨s, _, e⟩ := List.mem_map.1 ((HFP.out.2 x.1).1 h1)
        rw [← e]
        rfl
      have HUF : Hid (SepS (layU Ms) ∧ (∀ x, anyS (layU Ms) x = anyS f.S x) ∧ (layU Ms).length ≤ f.S.length) := ⟨layU_sep Ms (by rw [hMs]; exact HFP.out.1) hxk (fun x hx => (HUn.out x hx).1.1), layU_any Ms f.S (fun x hx => ⟨hxk x hx, (HUn.out x hx).1.2⟩) (fun s hs => by rw [hMs]; exact (HFP.out.2 _).2 (List.mem_map.2 ⟨s, hs, rfl⟩)), HSum.out Ms ⟨R.length, HMs.out⟩ (fun x hx => (HUn.out x hx).2)⟩
      generalize wr = wz at *
      obtain ⟨hBz, hFz, _⟩ := HD.out wz HFr.out
      have g0 := hFz.cell (i := 0) rfl
      have HSo : Hid (Calls _ _ _ _ _) := rsorted_any f.P (.slice p0 n0 c0) wz (HA0.out.p.on hBz) HA0.out.lp
      have HBz : Hid (Below w.heap.size w wz) := hBz
      obtain ⟨pz, cz, ez, _⟩ := HOw.out.row
      obtain ⟨rfl, rfl, rfl⟩ := Value.slice.inj ez
      clear hMs hxk hBz hFz ez HMs HUn
      go_wp2_with fail
      refine HSo.out.mono ?_
      rintro e wY ⟨vQ, Q, rfl, hSQ, hQ1, hQ2, hQ3, hbY⟩
      clear HSo g0
      obtain ⟨pQ, cQ, evQ, _, _, hRQ⟩ := hSQ.f
      subst evQ
      have HBY : Hid (Blk wY w4.heap.size #[.slice none 0 0, .slice q (layU Ms).length d, .slice pW nW cW] 25) := HB.out.on hbY
      have HOY : Hid (OwnS wY wS.heap.size (.slice q (layU Ms).length d) (layU Ms)) := HOw.out.kept hbY
      have HRQ : Hid (RowP wY wY.heap.size pQ Q) := hRQ
      have HNQ : Hid (∀ b o, pQ = some ⟨b, o, none⟩ → b < wY.heap.size → Q ≠ [] → ¬ b = w4.heap.size) := rowP_ne hRQ HBY.out (slices3 _ _ _ _ _ _ _ _ _)
      have HWY : Hid (SlP wY (.slice pW nW cW) T) := (HWS.out.frm1 HFr.out HOS.out (slices3 _ _ _ _ _ _ _ _ _)).on hbY
      have HRY : Hid (Blk wY (w.heap.size + 1) #[.slice none 0 0, .slice none 0 0, .slice none 0 0] 25) := (HRS2.out.frm HFr.out (by omega)).on hbY
      have HBwY : Hid (Below w.heap.size w wY) := HBz.out.trans (hbY.mono HBz.out.size)
      have HFQ : Hid (RisP Q ∧ (∀ x, x ∈ Q ↔ x ∈ f.P) ∧ Q.length ≤ f.P.length) := ⟨hQ1, hQ2, hQ3⟩
      have hoY := HBY.out.lt
      have hSY : wS.heap.size ≤ wY.heap.size := Nat.le_trans HFr.out.size hbY.size
      have hQl : Q.length ≤ 4398046511104 - 1 ∨ Q.length = 4398046511104 := by have := HA0.out.lp; omega
      have HQl : Hid (Q.length ≤ 4398046511104) := by have := HA0.out.lp; exact Nat.le_trans hQ3 this
      clear hSQ hQ1 hQ2 hQ3 hbY hRQ HB HOw HFr HBz hQl
      have hQl2 : Q.length ≤ 4398046511104 := HQl.out
      go_wp2_with fail
      go_loopw [11] (fun i wr => ∃ (k : Nat) (q4 : Option Addr) (l4 d4 : Nat), k ≤ Q.length ∧ i = .int .i64 (k : Int) ∧ Hid (Blk wr w4.heap.size #[.slice q4 l4 d4, .slice q (layU Ms).length d, .slice pW nW cW] 25) ∧ Hid (OwnP wr wY.heap.size (.slice q4 l4 d4) (dropG (anyS (layU Ms)) (Q.take k))) ∧ Hid (Frm wY wr (fun k => k = w4.heap.size))) (fun i _ => Q.length - (intOf i).toNat)
      case atStart => exact ⟨0, none, 0, 0, Nat.zero_le _, by go_num, HBY.out, OwnP.nil _ _, Frm.refl _ _⟩
      case round =>
        obtain ⟨k, q4, l4, d4, hk, rfl, HBk, HOk, HFk⟩ := hrel
        by_cases hk0 : k = Q.length
        · subst hk0
          have HOx : Hid (OwnP wr wY.heap.size (.slice q4 l4 d4) (dropG (anyS (layU Ms)) Q)) := by have h := HOk.out; rw [List.take_of_length_le (Nat.le_refl _)] at h; exact h
          have HRR : Hid (Blk wr (w.heap.size + 1) #[.slice none 0 0, .slice none 0 0, .slice none 0 0] 25) := HRY.out.frm HFk.out (by omega)
          have o0 := HBk.out.cell (i := 0) rfl
          have o1 := HBk.out.cell (i := 1) rfl
          have o2 := HBk.out.cell (i := 2) rfl
          have c0 := HRR.out.cell (i := 0) rfl
          have c1 := HRR.out.cell (i := 1) rfl
          have c2 := HRR.out.cell (i := 2) rfl
          have f0 := HRR.out.frozen 0
          have f1 := HRR.out.frozen 1
          have f2 := HRR.out.frozen 2
          obtain ⟨we, hwe⟩ : ∃ we, (((wr.setCell ⟨w.heap.size + 1, 0, none⟩ (.slice q4 l4 d4)).setCell ⟨w.heap.size + 1, 1, none⟩ (.slice q (layU Ms).length d)).setCell ⟨w.heap.size + 1, 2, none⟩ (.slice pW nW cW)) = we := ⟨_, rfl⟩
          have HF : Hid (Frm wr we (fun k => k = w.heap.size + 1)) := by rw [← hwe]; exact ((frm_set _ _ _ _ (F := fun k => k = w.heap.size + 1) (.inl rfl)).trans (frm_set _ _ _ _ (F := fun k => k = w.heap.size + 1) (.inl rfl)) (fun k hk => .inl hk)).trans (frm_set _ _ _ _ (F := fun k => k = w.heap.size + 1) (.inl rfl)) (fun k hk => .inl hk)
          have HRe : Hid (Blk we (w.heap.size + 1) #[.slice q4 l4 d4, .slice q (layU Ms).length d, .slice pW nW cW] 25) := by rw [← hwe]; exact ((HRR.out.set 0 _).set 1 _).set 2 _
          have r0 := HRe.out.cell (i := 0) rfl
          have r1 := HRe.out.cell (i := 1) rfl
          have r2 := HRe.out.cell (i := 2) rfl
          go_wp2_with fail
          refine bodyPost_ret (v := .agg #[.slice q4 l4 d4, .slice q (layU Ms).length d, .slice pW nW cW]) (by simp [results, Tryz.results20, go_sem, r0, r1, r2]) rfl ?_
          obtain ⟨hU1, hU2, hU3⟩ := HUF.out
          obtain ⟨hQ1, hQ2, hQ3⟩ := HFQ.out
          obtain ⟨hT1, hT2, hT3⟩ := HFW.out
          have hOS' : OwnS wr wS.heap.size (.slice q (layU Ms).length d) (layU Ms) := HOY.out.frm HFk.out (fun b9 hb9 hk => by omega)
          have hW' : SlP wr (.slice pW nW cW) T := HWY.out.frm1 HFk.out HBY.out (slices3 _ _ _ _ _ _ _ _ _)
          have hdl : (dropG (anyS (layU Ms)) Q).length ≤ Q.length := List.length_filter_le _ _
          refine ⟨_, _, _, ⟨dropG (anyS (layU Ms)) Q, layU Ms, T⟩, rfl, ⟨(HOx.out.frm HF.out (fun b9 hb9 hk => by omega)).sl, (hOS'.frm HF.out (fun b9 hb9 hk => by omega)).sl, hW'.frm1 HF.out HRR.out (slices3 _ _ _ _ _ _ _ _ _), Nat.le_trans hdl HQl.out, by show (layU Ms).length ≤ _; omega, Nat.le_trans hT3 HA0.out.lw⟩, ?_, ?_⟩
          · exact ⟨hU1, hU2, hQ1.drop _, fun x => by rw [mem_dropG, hQ2 x, hU2 x], hT1, hT2, Nat.le_trans hdl hQ3, hU3, hT3⟩
          · exact (HBwY.out.trans (HFk.out.below HBwY.out.size (fun k hk => by omega))).trans (HF.out.below (Nat.le_trans HBwY.out.size HFk.out.size) (fun k hk => by omega))
        · have hk1 : k < Q.length := by omega
          obtain ⟨by9, oy, hpy, hby, y0, y1, y2⟩ := (HRQ.out.frm HFk.out HNQ.out) k hk1
          obtain ⟨by8, oy8, hpy8, hbyY, _, _, _⟩ := HRQ.out k hk1
          rw [hpy] at hpy8
          cases hpy8
          subst hpy
          have hlU : (layU Ms).length ≤ 2513169434916 := by have := HUF.out.2.2; omega
          have HTQ0 : Hid (dropG (anyS (layU Ms)) (Q.take (k + 1)) = if anyS (layU Ms) Q[k] then dropG (anyS (layU Ms)) (Q.take k) else dropG (anyS (layU Ms)) (Q.take k) ++ [Q[k]]) := dropG_snoc _ Q k hk1
          have HLn : Hid ((dropG (anyS (layU Ms)) (Q.take k)).length + 1 ≤ 4398046511104) := by
            have h1 : (dropG (anyS (layU Ms)) (Q.take k)).length ≤ (Q.take k).length := List.length_filter_le _ _
            have h2 := HQl.out
            rw [List.length_take] at h1
            exact (show (dropG (anyS (layU Ms)) (Q.take k)).length + 1 ≤ 4398046511104 by omega)
          generalize Q[k] = y at *
          have hOk : OwnS wr wS.heap.size (.slice q (layU Ms).length d) (layU Ms) := HOY.out.frm HFk.out (fun b9 hb9 hk => by omega)
          obtain ⟨pz, cz, ez, hrz⟩ := hOk.row
          obtain ⟨rfl, -, rfl⟩ := Value.slice.inj ez
          clear ez
          have CS : Hid (∀ p : InB wr, Calls Tryz.prog 45 #[.slice q (layU Ms).length d, PV y] p.w' fun e w' => e = .returned (.bool (anyS (layU Ms) y)) ∧ Below p.w'.heap.size p.w' w') := fun p => rspanned_any y (layU Ms) q d p.w' (hrz.on p.h) hlU
          have b1 := InB.cell (w := wr) (HBk.out.cell (i := 1) rfl) HBk.out.lt
          have z0 := InB.cell (w := wr) y0 hby
          have z1 := InB.cell (w := wr) y1 hby
          have z2 := InB.cell (w := wr) y2 hby
          have ne1 := inB_ne wr
          clear hOk hrz
          cases hay : anyS (layU Ms) y with
          | true =>
            rw [hay, if_pos rfl] at HTQ0
            rw [hay] at CS
            go_wp2_with fail
            refine wp_region_inB (by kernel_rfl) (by kernel_rfl) ?_
            repeat (go_big_quiet_step (first | (go_at_call 45; exact Calls.inB (CS.out _))))
            refine wpQuiet_nil ?_
            rintro w8 ⟨⟨w9, hb9⟩, h9⟩
            obtain rfl : w8 = w9 := h9
            have HB8 : Hid (Blk w8 w4.heap.size #[.slice q4 l4 d4, .slice q (layU Ms).length d, .slice pW nW cW] 25) := HBk.out.on hb9
            have HO8 : Hid (OwnP w8 wY.heap.size (.slice q4 l4 d4) (dropG (anyS (layU Ms)) (Q.take k))) := HOk.out.kept hb9
            have HF8 : Hid (Frm wY w8 (fun k => k = w4.heap.size)) := HFk.out.trans (Frm.of_below (F := fun k => k = w4.heap.size) hb9) (fun k hk => .inl hk)
            clear b1 z0 z1 z2 ne1 CS hb9 HBk HOk HFk y0 y1 y2
            go_wp2_with fail
            go_roundw
            case rel => exact ⟨k + 1, q4, l4, d4, hk1, by go_num, HB8.out, (show OwnP _ _ _ _ by rw [HTQ0.out]; exact HO8.out), HF8.out⟩
            case measure => simp [intOf]; omega
          | false =>
            have HTQ : Hid (dropG (anyS (layU Ms)) (Q.take (k + 1)) = dropG (anyS (layU Ms)) (Q.take k) ++ [y]) := by
              have h := HTQ0.out
              rw [hay, if_neg (by simp)] at h
              exact h
            rw [hay] at CS
            clear HTQ0
            go_wp2_with fail
            refine wp_region_inB (by kernel_rfl) (by kernel_rfl) ?_
            repeat (go_big_quiet_step (first | (go_at_call 45; exact Calls.inB (CS.out _))))
            refine wpQuiet_nil ?_
            rintro w8 ⟨⟨w9, hb9⟩, h9⟩
            obtain rfl : w8 = w9 := h9
            have HB8 : Hid (Blk w8 w4.heap.size #[.slice q4 l4 d4, .slice q (layU Ms).length d, .slice pW nW cW] 25) := HBk.out.on hb9
            have HO8 : Hid (OwnP w8 wY.heap.size (.slice q4 l4 d4) (dropG (anyS (layU Ms)) (Q.take k))) := HOk.out.kept hb9
            have HF8 : Hid (Frm wY w8 (fun k => k = w4.heap.size)) := HFk.out.trans (Frm.of_below (F := fun k => k = w4.heap.size) hb9) (fun k hk => .inl hk)
            replace y0 := (hb9.cell (p := ⟨by9, oy + k * 3, none⟩) hby).trans y0
            replace y1 := (hb9.cell (p := ⟨by9, oy + k * 3 + 1, none⟩) hby).trans y1
            replace y2 := (hb9.cell (p := ⟨by9, oy + k * 3 + 2, none⟩) hby).trans y2
            clear b1 z0 z1 z2 ne1 CS hb9 HBk HOk HFk hby hay
            go_wp2_with fail
            refine wp_region_L (fun w' => w'.cell? ⟨w4.heap.size, 0, none⟩ = some (.slice q4 l4 d4) ∧ w'.cell? ⟨by9, oy + k * 3, none⟩ = some (.int .i64 y.t) ∧ w'.cell? ⟨by9, oy + k * 3 + 1, none⟩ = some (.int .i64 y.i) ∧ w'.cell? ⟨by9, oy + k * 3 + 2, none⟩ = some (.string y.k)) 9 (by kernel_rfl) ?_
            have hdr : Below w8.heap.size w8 w8.drew := (Below.refl _ _).drew
            have HS0 : Hid (w8.drew.cell? ⟨w4.heap.size, 0, none⟩ = some (.slice q4 l4 d4) ∧ w8.drew.cell? ⟨by9, oy + k * 3, none⟩ = some (.int .i64 y.t) ∧ w8.drew.cell? ⟨by9, oy + k * 3 + 1, none⟩ = some (.int .i64 y.i) ∧ w8.drew.cell? ⟨by9, oy + k * 3 + 2, none⟩ = some (.string y.k)) := ⟨HB8.out.cell (i := 0) rfl, y0, y1, y2⟩
            have HBd : Hid (Blk w8.drew w4.heap.size #[.slice q4 l4 d4, .slice q (layU Ms).length d, .slice pW nW cW] 25 ∧ OwnP w8.drew wY.heap.size (.slice q4 l4 d4) (dropG (anyS (layU Ms)) (Q.take k)) ∧ Frm wY w8.drew (fun k => k = w4.heap.size)) := ⟨HB8.out.on hdr, HO8.out.kept hdr, HF8.out.drew⟩
            have HZ : Hid (by9 < wY.heap.size ∧ wY.heap.size ≤ w8.drew.heap.size ∧ w4.heap.size < wY.heap.size) := ⟨hbyY, HF8.out.size, hoY⟩
            clear hdr y0 y1 y2 HB8 HO8 HF8
            generalize w8.drew = wd at *
            refine wpL_take (v := ?_) 0 rfl (by kernel_rfl) (fun _ _ _ h => h) (by rfl) ?_ HS0.out ?_
            rotate_left
            focus
              intro w9 hw9
              obtain ⟨k0, k1, k2, k3⟩ := hw9
              go_simp
              try with_reducible rfl
            try simp only [Act.put, List.setIfInBounds_toArray, List.set_cons_zero, List.set_cons_succ]
            refine wpL_take (v := ?_) 1 rfl (by kernel_rfl) (fun _ _ _ h => h) (by rfl) ?_ HS0.out ?_
            rotate_left
            focus
              intro w9 hw9
              obtain ⟨k0, k1, k2, k3⟩ := hw9
              go_simp
              try with_reducible rfl
            try simp only [Act.put, List.setIfInBounds_toArray, List.set_cons_zero, List.set_cons_succ]
            refine wpL_take (v := ?_) 2 rfl (by kernel_rfl) (fun _ _ _ h => h) (by rfl) ?_ HS0.out ?_
            rotate_left
            focus
              intro w9 hw9
              obtain ⟨k0, k1, k2, k3⟩ := hw9
              go_simp
              try with_reducible rfl
            try simp only [Act.put, List.setIfInBounds_toArray, List.set_cons_zero, List.set_cons_succ]
            refine wpL_take (v := ?_) 3 rfl (by kernel_rfl) (fun _ _ _ h => h) (by rfl) ?_ HS0.out ?_
            rotate_left
            focus
              intro w9 hw9
              obtain ⟨k0, k1, k2, k3⟩ := hw9
              go_simp
              try with_reducible rfl
            try simp only [Act.put, List.setIfInBounds_toArray, List.set_cons_zero, List.set_cons_succ]
            refine wpL_take (v := ?_) 4 rfl (by kernel_rfl) (fun _ _ _ h => h) (by rfl) ?_ HS0.out ?_
            rotate_left
            focus
              intro w9 hw9
              obtain ⟨k0, k1, k2, k3⟩ := hw9
              go_simp
              try with_reducible rfl
            try simp only [Act.put, List.setIfInBounds_toArray, List.set_cons_zero, List.set_cons_succ]
            refine wpL_take (v := ?_) 5 rfl (by kernel_rfl) (fun _ _ _ h => h) (by rfl) ?_ HS0.out ?_
            rotate_left
            focus
              intro w9 hw9
              obtain ⟨k0, k1, k2, k3⟩ := hw9
              go_simp
              try with_reducible rfl
            try simp only [Act.put, List.setIfInBounds_toArray, List.set_cons_zero, List.set_cons_succ]
            have HAL : Hid (Below wd.heap.size wd (wd.alloc (.cells #[.int .i64 y.t, .int .i64 y.i, .string y.k] 38))) := (Below.refl _ _).alloc (Nat.le_refl _) _
            have HS1 : Hid ((wd.alloc (.cells #[.int .i64 y.t, .int .i64 y.i, .string y.k] 38)).cell? ⟨w4.heap.size, 0, none⟩ = some (.slice q4 l4 d4) ∧ (wd.alloc (.cells #[.int .i64 y.t, .int .i64 y.i, .string y.k] 38)).cell? ⟨by9, oy + k * 3, none⟩ = some (.int .i64 y.t) ∧ (wd.alloc (.cells #[.int .i64 y.t, .int .i64 y.i, .string y.k] 38)).cell? ⟨by9, oy + k * 3 + 1, none⟩ = some (.int .i64 y.i) ∧ (wd.alloc (.cells #[.int .i64 y.t, .int .i64 y.i, .string y.k] 38)).cell? ⟨by9, oy + k * 3 + 2, none⟩ = some (.string y.k)) := by
              obtain ⟨k0, k1, k2, k3⟩ := HS0.out
              obtain ⟨z1, z2, z3⟩ := HZ.out
              have h := HAL.out
              exact ⟨(h.cell (p := ⟨w4.heap.size, 0, none⟩) (show w4.heap.size < _ by omega)).trans k0, (h.cell (p := ⟨by9, oy + k * 3, none⟩) (show by9 < _ by omega)).trans k1, (h.cell (p := ⟨by9, oy + k * 3 + 1, none⟩) (show by9 < _ by omega)).trans k2, (h.cell (p := ⟨by9, oy + k * 3 + 2, none⟩) (show by9 < _ by omega)).trans k3⟩
            refine wpL_one 6 rfl (by kernel_rfl) (by rfl) ?_
            intro K hK
            go_simp
            refine hK.out _ _ (fun _ => HS1.out) ?_
            clear hK K
            try simp only [Act.put, List.setIfInBounds_toArray, List.set_cons_zero, List.set_cons_succ]
            refine wpL_one 7 rfl (by kernel_rfl) (by rfl) ?_
            intro K hK
            refine wp_appP wd (.tmp 114) (.tmp 119) rfl wY.heap.size (.slice q4 l4 d4) (dropG (anyS (layU Ms)) (Q.take k)) (by rfl) HBd.out.2.1 y wd.heap.size (by rfl) rfl HLn.out HZ.out.2.1 ?_
            intro v3 we h3 h5
            have HO3 : Hid (OwnP we wY.heap.size v3 (dropG (anyS (layU Ms)) (Q.take k) ++ [y]) ∧ Below wY.heap.size wd we) := ⟨h3, h5⟩
            clear h3 h5
            have HS2 : Hid (we.cell? ⟨w4.heap.size, 0, none⟩ = some (.slice q4 l4 d4) ∧ we.cell? ⟨by9, oy + k * 3, none⟩ = some (.int .i64 y.t) ∧ we.cell? ⟨by9, oy + k * 3 + 1, none⟩ = some (.int .i64 y.i) ∧ we.cell? ⟨by9, oy + k * 3 + 2, none⟩ = some (.string y.k)) := by
              obtain ⟨k0, k1, k2, k3⟩ := HS0.out
              obtain ⟨z1, z2, z3⟩ := HZ.out
              have h := HO3.out.2
              exact ⟨(h.cell (p := ⟨w4.heap.size, 0, none⟩) (show w4.heap.size < _ by omega)).trans k0, (h.cell (p := ⟨by9, oy + k * 3, none⟩) (show by9 < _ by omega)).trans k1, (h.cell (p := ⟨by9, oy + k * 3 + 1, none⟩) (show by9 < _ by omega)).trans k2, (h.cell (p := ⟨by9, oy + k * 3 + 2, none⟩) (show by9 < _ by omega)).trans k3⟩
            refine hK.out _ _ (fun _ => HS2.out) ?_
            clear hK K
            try simp only [Act.put, List.setIfInBounds_toArray, List.set_cons_zero, List.set_cons_succ]
            refine wpL_take (v := ?_) 8 rfl (by kernel_rfl) (fun _ _ _ h => h) (by rfl) ?_ HS2.out ?_
            rotate_left
            focus
              intro w9 hw9
              obtain ⟨k0, k1, k2, k3⟩ := hw9
              go_simp
              try with_reducible rfl
            try simp only [Act.put, List.setIfInBounds_toArray, List.set_cons_zero, List.set_cons_succ]
            obtain ⟨q5, l5, d5, hv3⟩ : ∃ q3 l3 d3, v3 = .slice q3 l3 d3 := by
              obtain ⟨p9, c9, e9, _⟩ := HO3.out.1.row
              exact ⟨_, _, _, e9⟩
            subst hv3
            have HB3 : Hid (Blk we w4.heap.size #[.slice q4 l4 d4, .slice q (layU Ms).length d, .slice pW nW cW] 25) := HBd.out.1.keep HO3.out.2 HZ.out.2.2
            have e0 := HB3.out.cell (i := 0) rfl
            have f0 := HB3.out.frozen 0
            refine wpL_one 9 rfl (by kernel_rfl) (by rfl) ?_
            intro K hK
            go_simp
            refine hK.out _ _ (fun h => absurd rfl h) ?_
            clear hK K
            refine wpL_done (by kernel_rfl) ?_ _
            try simp only [NoPanic]
            have HFN : Hid (Frm wY (we.setCell ⟨w4.heap.size, 0, none⟩ (.slice q5 l5 d5)) (fun k => k = w4.heap.size)) := (HBd.out.2.2.trans (Frm.of_belowB HO3.out.2 HZ.out.2.1) (G := fun k => wY.heap.size ≤ k) (fun k hk => .inr hk)).trans (frm_set _ _ _ _ (F := fun k => k = w4.heap.size) (.inl rfl)) (fun k hk => .inl hk)
            have HBN : Hid (Blk (we.setCell ⟨w4.heap.size, 0, none⟩ (.slice q5 l5 d5)) w4.heap.size #[.slice q5 l5 d5, .slice q (layU Ms).length d, .slice pW nW cW] 25) := HB3.out.set 0 _
            have HON : Hid (OwnP (we.setCell ⟨w4.heap.size, 0, none⟩ (.slice q5 l5 d5)) wY.heap.size (.slice q5 l5 d5) (dropG (anyS (layU Ms)) (Q.take k) ++ [y])) := HO3.out.1.frm (frm_set we _ _ _ (F := fun k => k = w4.heap.size) (.inl rfl)) (fun b9 hb9 hk => by have := HZ.out.2.2; omega)
            clear e0 f0 HB3 HO3 HS0 HS1 HS2 HAL HBd HZ
            generalize (we.setCell ⟨w4.heap.size, 0, none⟩ (.slice q5 l5 d5)) = wf at *
            go_wp2_with fail
            go_roundw
            case rel => exact ⟨k + 1, q5, l5, d5, by omega, by go_num, HBN.out, (show OwnP _ _ _ _ by rw [HTQ.out]; exact HON.out), HFN.out⟩
            case measure => simp [intOf]; omega
    · have hj1 : j < R.length := by omega
      generalize wr = wq at *
      obtain ⟨hBq, hFq, hPq⟩ := HD.out wq HFr.out
      have HBq : Hid (Below w.heap.size w wq) := hBq
      have HFq : Hid (Blk wq w.heap.size #[.slice p0 n0 c0, .slice p1 f.S.length c1, .slice p2 n2 c2] 25) := hFq
      have hfl := hFq.lt
      obtain ⟨bp, op, hp, hbp, d0, d1, d2⟩ := hPq j hj1
      subst hp
      obtain ⟨x, hx⟩ : ∃ x, R[j] = x := ⟨_, rfl⟩
      have HTk : Hid (R.take (j + 1) = R.take j ++ [x]) := by rw [← hx]; exact take_snoc R j hj1
      have hxk : x.k = ⟨#[]⟩ := by
        have h1 : x ∈ f.S.map plcS := (HFP.out.2 x).1 (by rw [← hx]; exact List.getElem_mem _)
        obtain ⟨s, _, e⟩ := List.mem_map.1 h1
        rw [← e]
        rfl
      rw [hx] at d0 d1 d2
      have HXc : Hid (wq.cell? ⟨bp, op + j * 3, none⟩ = some (.int .i64 x.t) ∧ wq.cell? ⟨bp, op + j * 3 + 1, none⟩ = some (.int .i64 x.i) ∧ bp < wq.heap.size) := ⟨d0, d1, hbp⟩
      have HX : Hid (R[j] = x) := hx
      clear hx d0 d1 d2 hBq hFq hPq
      have HO0 : Hid (OwnR (wq.alloc (.cells #[] 40)) wq.heap.size (.slice (some ⟨wq.heap.size, 0, none⟩) 0 0) []) := World.ownsRow_lit wq #[] 0 (Nat.le_refl _) (Nat.zero_le _) rfl
      have HB0 : Hid (Below wq.heap.size wq (wq.alloc (.cells #[] 40))) := (Below.refl _ _).alloc (Nat.le_refl _) _
      go_wp2_with fail
      generalize (wq.alloc (.cells #[] 40)) = wL at *
      go_loopw [6, 7] (fun u i wr => ∃ (k : Nat) (q2 : Option Addr) (l2 d2 : Nat), k ≤ f.S.length ∧ i = .int .i64 (k : Int) ∧ u = .slice q2 l2 d2 ∧ Hid (OwnR wr wq.heap.size (.slice q2 l2 d2) (rngsAt (f.S.take k) x)) ∧ Hid (Below wq.heap.size wq wr)) (fun _ i _ => f.S.length - (intOf i).toNat)
      case atStart => exact ⟨0, _, _, _, Nat.zero_le _, by go_num, rfl, HO0.out, HB0.out⟩
      case round =>
        obtain ⟨k, q2, l2, d2, hk, rfl, rfl, HO2, HB2⟩ := hrel
        have hFx := HFq.out.on HB2.out
        have hzr := HB2.out.size
        have fb := hFx.cell (i := 1) rfl
        by_cases hk0 : k = f.S.length
        · subst hk0
          have HOx : Hid (OwnR wr wq.heap.size (.slice q2 l2 d2) (rngsAt f.S x)) := by have h := HO2.out; rw [List.take_of_length_le (Nat.le_refl _)] at h; exact h
          have HLx : Hid ((rngsAt f.S x).length ≤ 65536) := by
            unfold rngsAt
            rw [List.length_map]
            exact Nat.le_trans (List.length_filter_le _ _) hl
          generalize wr = wr2 at *
          have HU : Hid (Calls _ _ _ _ _) := runionV_any (.slice q2 l2 d2) (rngsAt f.S x) wr2 HOx.out (by have := HLx.out; omega)
          clear HO2
          go_wp2_with fail
          refine HU.out.mono ?_
          rintro e wU ⟨vU, U, rfl, hOU, hUU, hUl, hbU⟩
          clear HU fb hFx
          obtain ⟨pU, cU, rfl, _⟩ := hOU.row
          have HBu : Hid (Below wq.heap.size wq wU) := HB2.out.trans (hbU.mono hzr)
          have HFu : Hid (Frm wS wU (fun k => k = w4.heap.size)) := HFr.out.trans (Frm.of_below (F := fun k => k = w4.heap.size) HBu.out) (fun k hk => .inl hk)
          have HBU : Hid (Blk wU w4.heap.size #[.slice none 0 0, .slice q l d, .slice pW nW cW] 25) := HB.out.on HBu.out
          have HOU2 : Hid (OwnS wU wS.heap.size (.slice q l d) (layU Ms)) := HOw.out.kept HBu.out
          have HRU : Hid (OwnR wU wr2.heap.size (.slice pU U.length cU) U) := hOU
          have HUU : Hid (UnOf (rngsAt f.S x) U ∧ U.length ≤ (rngsAt f.S x).length) := ⟨hUU, hUl⟩
          have hUl2 : U.length ≤ 65536 := by have := HLx.out; omega
          have hLl := HSum.out Ms ⟨j, HMs.out⟩ (fun x hx => (HUn.out x hx).2)
          clear hOU hUU hUl hbU HBu HFr HB HOw HOx HLx HB2
          go_wp2_with fail
          go_loopw [9] (fun i wr => ∃ (k : Nat) (q3 : Option Addr) (l3 d3 : Nat), k ≤ U.length ∧ i = .int .i64 (k : Int) ∧ Hid (Blk wr w4.heap.size #[.slice none 0 0, .slice q3 l3 d3, .slice pW nW cW] 25) ∧ Hid (OwnS wr wS.heap.size (.slice q3 l3 d3) (layU Ms ++ (U.take k).map (spOf x))) ∧ Hid (OwnR wr wr2.heap.size (.slice pU U.length cU) U) ∧ Hid (Frm wS wr (fun k => k = w4.heap.size))) (fun i _ => U.length - (intOf i).toNat)
          case atStart => exact ⟨0, q, l, d, Nat.zero_le _, by go_num, HBU.out, (show OwnS _ _ _ _ by simpa using HOU2.out), HRU.out, HFu.out⟩
          case round =>
            obtain ⟨k, q3, l3, d3, hk, rfl, HBk, HOk, HRk, HFk⟩ := hrel
            clear HBU HOU2 HRU HFu
            by_cases hk0 : k = U.length
            · subst hk0
              go_wp2_with fail
              go_roundw
              case rel =>
                refine ⟨j + 1, Ms ++ [(x, U)], q3, l3, d3, hj1, by go_num, ?_, ?_, HBk.out, ?_, HFk.out⟩
                · refine (show _ = _ from ?_); rw [List.map_append, HMs.out, HTk.out]; rfl
                · refine (show ∀ y ∈ Ms ++ [(x, U)], _ from ?_)
                  intro y hy
                  rcases List.mem_append.1 hy with hy | hy
                  · exact HUn.out y hy
                  · rw [List.mem_singleton] at hy; subst hy; exact HUU.out
                · refine (show OwnS _ _ _ _ from ?_); rw [layU_snoc]; have h := HOk.out; rw [List.take_of_length_le (Nat.le_refl _)] at h; exact h
              case measure => simp [intOf]; omega
            · have hk1 : k < U.length := by omega
              obtain ⟨p9, c9, e9, hr9⟩ := HRk.out.row
              obtain ⟨rfl, -, rfl⟩ := Value.slice.inj e9
              clear e9
              obtain ⟨bu, ou, hp2, hbu, u0, u1, u2⟩ := hr9 k hk1
              subst hp2
              clear hr9
              have HTU : Hid ((U.take (k + 1)).map (spOf x) = (U.take k).map (spOf x) ++ [spOf x U[k]]) := by rw [take_snoc U k hk1, List.map_append]; rfl
              have hl9 : (layU Ms ++ (U.take k).map (spOf x)).length + 1 ≤ 2513169434916 := by
                rw [List.length_append, List.length_map, List.length_take]
                omega
              generalize U[k] = r at *
              obtain ⟨rl, rh, ro⟩ := r
              dsimp only at u0 u1 u2
              obtain ⟨bp', op', e9, hb9, P0, P1, _⟩ := (HD.out wr HFk.out).2.2 j hj1
              cases e9
              obtain ⟨bp'', op'', e9, hbpS, _, _, _⟩ := HRP.out j hj1
              cases e9
              rw [HX.out] at P0 P1
              clear hb9
              go_wp2_with fail
              refine wp_region_L (fun w' => w'.cell? ⟨w4.heap.size, 1, none⟩ = some (.slice q3 l3 d3) ∧ w'.cell? ⟨bp, op + j * 3, none⟩ = some (.int .i64 x.t) ∧ w'.cell? ⟨bp, op + j * 3 + 1, none⟩ = some (.int .i64 x.i) ∧ w'.cell? ⟨bu, ou + k * 3, none⟩ = some (.string rl) ∧ w'.cell? ⟨bu, ou + k * 3 + 1, none⟩ = some (.string rh) ∧ w'.cell? ⟨bu, ou + k * 3 + 2, none⟩ = some (.bool ro)) 20 (by kernel_rfl) ?_
              have hdr : Below wr.heap.size wr wr.drew := (Below.refl _ _).drew
              have HS0 : Hid (wr.drew.cell? ⟨w4.heap.size, 1, none⟩ = some (.slice q3 l3 d3) ∧ wr.drew.cell? ⟨bp, op + j * 3, none⟩ = some (.int .i64 x.t) ∧ wr.drew.cell? ⟨bp, op + j * 3 + 1, none⟩ = some (.int .i64 x.i) ∧ wr.drew.cell? ⟨bu, ou + k * 3, none⟩ = some (.string rl) ∧ wr.drew.cell? ⟨bu, ou + k * 3 + 1, none⟩ = some (.string rh) ∧ wr.drew.cell? ⟨bu, ou + k * 3 + 2, none⟩ = some (.bool ro)) := ⟨HBk.out.cell (i := 1) rfl, P0, P1, u0, u1, u2⟩
              have HBd : Hid (Blk wr.drew w4.heap.size #[.slice none 0 0, .slice q3 l3 d3, .slice pW nW cW] 25 ∧ OwnS wr.drew wS.heap.size (.slice q3 l3 d3) (layU Ms ++ (U.take k).map (spOf x)) ∧ OwnR wr.drew wr2.heap.size (.slice (some ⟨bu, ou, none⟩) U.length cU) U ∧ Frm wS wr.drew (fun k => k = w4.heap.size)) := ⟨HBk.out.on hdr, HOk.out.kept hdr, HRk.out.kept hdr, HFk.out.drew⟩
              have HZ : Hid (bp < wS.heap.size ∧ bu < wr.drew.heap.size ∧ wS.heap.size ≤ wr.drew.heap.size ∧ w4.heap.size < wS.heap.size) := ⟨hbpS, hbu, HFk.out.size, hobl⟩
              clear hdr P0 P1 u0 u1 u2 HBk HOk HRk HFk hbu
              generalize wr.drew = wd at *
              refine wpL_take (v := ?_) 0 rfl (by kernel_rfl) (fun _ _ _ h => h) (by rfl) ?_ HS0.out ?_
              rotate_left
              focus
                intro w9 hw9
                obtain ⟨k0, k1, k2, k3, k4, k5⟩ := hw9
                go_simp
                try with_reducible rfl
              try simp only [Act.put, List.setIfInBounds_toArray, List.set_cons_zero, List.set_cons_succ]
              refine wpL_take (v := ?_) 1 rfl (by kernel_rfl) (fun _ _ _ h => h) (by rfl) ?_ HS0.out ?_
              rotate_left
              focus
                intro w9 hw9
                obtain ⟨k0, k1, k2, k3, k4, k5⟩ := hw9
                go_simp
                try with_reducible rfl
              try simp only [Act.put, List.setIfInBounds_toArray, List.set_cons_zero, List.set_cons_succ]
              refine wpL_take (v := ?_) 2 rfl (by kernel_rfl) (fun _ _ _ h => h) (by rfl) ?_ HS0.out ?_
              rotate_left
              focus
                intro w9 hw9
                obtain ⟨k0, k1, k2, k3, k4, k5⟩ := hw9
                go_simp
                try with_reducible rfl
              try simp only [Act.put, List.setIfInBounds_toArray, List.set_cons_zero, List.set_cons_succ]
              refine wpL_take (v := ?_) 3 rfl (by kernel_rfl) (fun _ _ _ h => h) (by rfl) ?_ HS0.out ?_
              rotate_left
              focus
                intro w9 hw9
                obtain ⟨k0, k1, k2, k3, k4, k5⟩ := hw9
                go_simp
                try with_reducible rfl
              try simp only [Act.put, List.setIfInBounds_toArray, List.set_cons_zero, List.set_cons_succ]
              refine wpL_take (v := ?_) 4 rfl (by kernel_rfl) (fun _ _ _ h => h) (by rfl) ?_ HS0.out ?_
              rotate_left
              focus
                intro w9 hw9
                obtain ⟨k0, k1, k2, k3, k4, k5⟩ := hw9
                go_simp
                try with_reducible rfl
              try simp only [Act.put, List.setIfInBounds_toArray, List.set_cons_zero, List.set_cons_succ]
              refine wpL_take (v := ?_) 5 rfl (by kernel_rfl) (fun _ _ _ h => h) (by rfl) ?_ HS0.out ?_
              rotate_left
              focus
                intro w9 hw9
                obtain ⟨k0, k1, k2, k3, k4, k5⟩ := hw9
                go_simp
                try with_reducible rfl
              try simp only [Act.put, List.setIfInBounds_toArray, List.set_cons_zero, List.set_cons_succ]
              refine wpL_take (v := ?_) 6 rfl (by kernel_rfl) (fun _ _ _ h => h) (by rfl) ?_ HS0.out ?_
              rotate_left
              focus
                intro w9 hw9
                obtain ⟨k0, k1, k2, k3, k4, k5⟩ := hw9
                go_simp
                try with_reducible rfl
              try simp only [Act.put, List.setIfInBounds_toArray, List.set_cons_zero, List.set_cons_succ]
              refine wpL_take (v := ?_) 7 rfl (by kernel_rfl) (fun _ _ _ h => h) (by rfl) ?_ HS0.out ?_
              rotate_left
              focus
                intro w9 hw9
                obtain ⟨k0, k1, k2, k3, k4, k5⟩ := hw9
                go_simp
                try with_reducible rfl
              try simp only [Act.put, List.setIfInBounds_toArray, List.set_cons_zero, List.set_cons_succ]
              refine wpL_take (v := ?_) 8 rfl (by kernel_rfl) (fun _ _ _ h => h) (by rfl) ?_ HS0.out ?_
              rotate_left
              focus
                intro w9 hw9
                obtain ⟨k0, k1, k2, k3, k4, k5⟩ := hw9
                go_simp
                try with_reducible rfl
              try simp only [Act.put, List.setIfInBounds_toArray, List.set_cons_zero, List.set_cons_succ]
              refine wpL_take (v := ?_) 9 rfl (by kernel_rfl) (fun _ _ _ h => h) (by rfl) ?_ HS0.out ?_
              rotate_left
              focus
                intro w9 hw9
                obtain ⟨k0, k1, k2, k3, k4, k5⟩ := hw9
                go_simp
                try with_reducible rfl
              try simp only [Act.put, List.setIfInBounds_toArray, List.set_cons_zero, List.set_cons_succ]
              refine wpL_take (v := ?_) 10 rfl (by kernel_rfl) (fun _ _ _ h => h) (by rfl) ?_ HS0.out ?_
              rotate_left
              focus
                intro w9 hw9
                obtain ⟨k0, k1, k2, k3, k4, k5⟩ := hw9
                go_simp
                try with_reducible rfl
              try simp only [Act.put, List.setIfInBounds_toArray, List.set_cons_zero, List.set_cons_succ]
              refine wpL_take (v := ?_) 11 rfl (by kernel_rfl) (fun _ _ _ h => h) (by rfl) ?_ HS0.out ?_
              rotate_left
              focus
                intro w9 hw9
                obtain ⟨k0, k1, k2, k3, k4, k5⟩ := hw9
                go_simp
                try with_reducible rfl
              try simp only [Act.put, List.setIfInBounds_toArray, List.set_cons_zero, List.set_cons_succ]
              refine wpL_take (v := ?_) 12 rfl (by kernel_rfl) (fun _ _ _ h => h) (by rfl) ?_ HS0.out ?_
              rotate_left
              focus
                intro w9 hw9
                obtain ⟨k0, k1, k2, k3, k4, k5⟩ := hw9
                go_simp
                try with_reducible rfl
              try simp only [Act.put, List.setIfInBounds_toArray, List.set_cons_zero, List.set_cons_succ]
              refine wpL_take (v := ?_) 13 rfl (by kernel_rfl) (fun _ _ _ h => h) (by rfl) ?_ HS0.out ?_
              rotate_left
              focus
                intro w9 hw9
                obtain ⟨k0, k1, k2, k3, k4, k5⟩ := hw9
                go_simp
                try with_reducible rfl
              try simp only [Act.put, List.setIfInBounds_toArray, List.set_cons_zero, List.set_cons_succ]
              refine wpL_take (v := ?_) 14 rfl (by kernel_rfl) (fun _ _ _ h => h) (by rfl) ?_ HS0.out ?_
              rotate_left
              focus
                intro w9 hw9
                obtain ⟨k0, k1, k2, k3, k4, k5⟩ := hw9
                go_simp
                try with_reducible rfl
              try simp only [Act.put, List.setIfInBounds_toArray, List.set_cons_zero, List.set_cons_succ]
              refine wpL_take (v := ?_) 15 rfl (by kernel_rfl) (fun _ _ _ h => h) (by rfl) ?_ HS0.out ?_
              rotate_left
              focus
                intro w9 hw9
                obtain ⟨k0, k1, k2, k3, k4, k5⟩ := hw9
                go_simp
                try with_reducible rfl
              try simp only [Act.put, List.setIfInBounds_toArray, List.set_cons_zero, List.set_cons_succ]
              refine wpL_take (v := ?_) 16 rfl (by kernel_rfl) (fun _ _ _ h => h) (by rfl) ?_ HS0.out ?_
              rotate_left
              focus
                intro w9 hw9
                obtain ⟨k0, k1, k2, k3, k4, k5⟩ := hw9
                go_simp
                try with_reducible rfl
              try simp only [Act.put, List.setIfInBounds_toArray, List.set_cons_zero, List.set_cons_succ]
              have HAL : Hid (Below wd.heap.size wd (wd.alloc (.cells #[.int .i64 x.t, .int .i64 x.i, .string rl, .string rh, .bool ro] 42))) := (Below.refl _ _).alloc (Nat.le_refl _) _
              have HS1 : Hid ((wd.alloc (.cells #[.int .i64 x.t, .int .i64 x.i, .string rl, .string rh, .bool ro] 42)).cell? ⟨w4.heap.size, 1, none⟩ = some (.slice q3 l3 d3) ∧ (wd.alloc (.cells #[.int .i64 x.t, .int .i64 x.i, .string rl, .string rh, .bool ro] 42)).cell? ⟨bp, op + j * 3, none⟩ = some (.int .i64 x.t) ∧ (wd.alloc (.cells #[.int .i64 x.t, .int .i64 x.i, .string rl, .string rh, .bool ro] 42)).cell? ⟨bp, op + j * 3 + 1, none⟩ = some (.int .i64 x.i) ∧ (wd.alloc (.cells #[.int .i64 x.t, .int .i64 x.i, .string rl, .string rh, .bool ro] 42)).cell? ⟨bu, ou + k * 3, none⟩ = some (.string rl) ∧ (wd.alloc (.cells #[.int .i64 x.t, .int .i64 x.i, .string rl, .string rh, .bool ro] 42)).cell? ⟨bu, ou + k * 3 + 1, none⟩ = some (.string rh) ∧ (wd.alloc (.cells #[.int .i64 x.t, .int .i64 x.i, .string rl, .string rh, .bool ro] 42)).cell? ⟨bu, ou + k * 3 + 2, none⟩ = some (.bool ro)) := by
                obtain ⟨k0, k1, k2, k3, k4, k5⟩ := HS0.out
                obtain ⟨z1, z2, z3, z4⟩ := HZ.out
                have h := HAL.out
                exact ⟨(h.cell (p := ⟨w4.heap.size, 1, none⟩) (show w4.heap.size < _ by omega)).trans k0, (h.cell (p := ⟨bp, op + j * 3, none⟩) (show bp < _ by omega)).trans k1, (h.cell (p := ⟨bp, op + j * 3 + 1, none⟩) (show bp < _ by omega)).trans k2, (h.cell (p := ⟨bu, ou + k * 3, none⟩) (show bu < _ by omega)).trans k3, (h.cell (p := ⟨bu, ou + k * 3 + 1, none⟩) (show bu < _ by omega)).trans k4, (h.cell (p := ⟨bu, ou + k * 3 + 2, none⟩) (show bu < _ by omega)).trans k5⟩
              refine wpL_one 17 rfl (by kernel_rfl) (by rfl) ?_
              intro K hK
              go_simp
              refine hK.out _ _ (fun _ => HS1.out) ?_
              clear hK K
              try simp only [Act.put, List.setIfInBounds_toArray, List.set_cons_zero, List.set_cons_succ]
              refine wpL_one 18 rfl (by kernel_rfl) (by rfl) ?_
              intro K hK
              refine wp_appSg wd (.tmp 77) (.tmp 93) rfl wS.heap.size (.slice q3 l3 d3) (layU Ms ++ (U.take k).map (spOf x)) (by rfl) HBd.out.2.1 (spOf x ⟨rl, rh, ro⟩) wd.heap.size (by rfl) rfl hl9 HZ.out.2.2.1 ?_
              intro v3 we h3 h5 h8
              have HUk : Hid (we.heap[bu]? = wd.heap[bu]?) := by
                obtain ⟨cur, hcur⟩ := own_blk HBd.out.2.2.1 (g := bu) rfl
                exact h8 bu (own_lt HBd.out.2.2.1 (g := bu) rfl) (ownS_ne HBd.out.2.1 hcur (by decide))
              have HO3 : Hid (OwnS we wS.heap.size v3 (layU Ms ++ (U.take k).map (spOf x) ++ [spOf x ⟨rl, rh, ro⟩]) ∧ Below wS.heap.size wd we) := ⟨h3, h5⟩
              have HR3 : Hid (OwnR we wr2.heap.size (.slice (some ⟨bu, ou, none⟩) U.length cU) U) := HBd.out.2.2.1.by (fun g hg => by cases hg; exact HUk.out)
              clear h3 h5 h8
              have HS2 : Hid (we.cell? ⟨w4.heap.size, 1, none⟩ = some (.slice q3 l3 d3) ∧ we.cell? ⟨bp, op + j * 3, none⟩ = some (.int .i64 x.t) ∧ we.cell? ⟨bp, op + j * 3 + 1, none⟩ = some (.int .i64 x.i) ∧ we.cell? ⟨bu, ou + k * 3, none⟩ = some (.string rl) ∧ we.cell? ⟨bu, ou + k * 3 + 1, none⟩ = some (.string rh) ∧ we.cell? ⟨bu, ou + k * 3 + 2, none⟩ = some (.bool ro)) := by
                obtain ⟨k0, k1, k2, k3, k4, k5⟩ := HS0.out
                obtain ⟨z1, z2, z3, z4⟩ := HZ.out
                have h := HO3.out.2
                exact ⟨(h.cell (p := ⟨w4.heap.size, 1, none⟩) (show w4.heap.size < _ by omega)).trans k0, (h.cell (p := ⟨bp, op + j * 3, none⟩) (show bp < _ by omega)).trans k1, (h.cell (p := ⟨bp, op + j * 3 + 1, none⟩) (show bp < _ by omega)).trans k2, (cell_block HUk.out).trans k3, (cell_block HUk.out).trans k4, (cell_block HUk.out).trans k5⟩
              refine hK.out _ _ (fun _ => HS2.out) ?_
              clear hK K
              try simp only [Act.put, List.setIfInBounds_toArray, List.set_cons_zero, List.set_cons_succ]
              refine wpL_take (v := ?_) 19 rfl (by kernel_rfl) (fun _ _ _ h => h) (by rfl) ?_ HS2.out ?_
              rotate_left
              focus
                intro w9 hw9
                obtain ⟨k0, k1, k2, k3, k4, k5⟩ := hw9
                go_simp
                try with_reducible rfl
              try simp only [Act.put, List.setIfInBounds_toArray, List.set_cons_zero, List.set_cons_succ]
              obtain ⟨q5, l5, d5, hv3⟩ : ∃ q3 l3 d3, v3 = .slice q3 l3 d3 := by
                obtain ⟨p9, c9, e9, _⟩ := HO3.out.1.row
                exact ⟨_, _, _, e9⟩
              subst hv3
              have HB3 : Hid (Blk we w4.heap.size #[.slice none 0 0, .slice q3 l3 d3, .slice pW nW cW] 25) := HBd.out.1.keep HO3.out.2 HZ.out.2.2.2
              have e0 := HB3.out.cell (i := 1) rfl
              have f0 := HB3.out.frozen 1
              refine wpL_one 20 rfl (by kernel_rfl) (by rfl) ?_
              intro K hK
              go_simp
              refine hK.out _ _ (fun h => absurd rfl h) ?_
              clear hK K
              refine wpL_done (by kernel_rfl) ?_ _
              try simp only [NoPanic]
              have HFN : Hid (Frm wS (we.setCell ⟨w4.heap.size, 1, none⟩ (.slice q5 l5 d5)) (fun k => k = w4.heap.size)) := (HBd.out.2.2.2.trans (Frm.of_belowB HO3.out.2 HZ.out.2.2.1) (G := fun k => wS.heap.size ≤ k) (fun k hk => .inr hk)).trans (frm_set _ _ _ _ (F := fun k => k = w4.heap.size) (.inl rfl)) (fun k hk => .inl hk)
              have HBN : Hid (Blk (we.setCell ⟨w4.heap.size, 1, none⟩ (.slice q5 l5 d5)) w4.heap.size #[.slice none 0 0, .slice q5 l5 d5, .slice pW nW cW] 25) := HB3.out.set 1 _
              have HON : Hid (OwnS (we.setCell ⟨w4.heap.size, 1, none⟩ (.slice q5 l5 d5)) wS.heap.size (.slice q5 l5 d5) (layU Ms ++ (U.take k).map (spOf x) ++ [spOf x ⟨rl, rh, ro⟩])) := HO3.out.1.frm (frm_set we _ _ _ (F := fun k => k = w4.heap.size) (.inl rfl)) (fun b9 hb9 hk => by have := HZ.out.2.2.2; omega)
              have HRN : Hid (OwnR (we.setCell ⟨w4.heap.size, 1, none⟩ (.slice q5 l5 d5)) wr2.heap.size (.slice (some ⟨bu, ou, none⟩) U.length cU) U) := HR3.out.by (fun g hg => by
                obtain ⟨cur, hcur⟩ := own_blk HR3.out hg
                refine (frm_set we w4.heap.size 1 (.slice q5 l5 d5) (F := fun k => k = w4.heap.size) (.inl rfl)).block g (own_lt HR3.out hg) (fun e => ?_)
                have h9 : we.heap[w4.heap.size]? = _ := HB3.out
                rw [e, h9] at hcur
                cases hcur)
              clear e0 f0 HB3 HO3 HR3 HS0 HS1 HS2 HAL HBd HZ HUk
              generalize (we.setCell ⟨w4.heap.size, 1, none⟩ (.slice q5 l5 d5)) = wf at *
              go_wp2_with fail
              go_roundw
              case rel => exact ⟨k + 1, q5, l5, d5, by omega, by go_num, HBN.out, (show OwnS _ _ _ _ by rw [HTU.out, ← List.append_assoc]; exact HON.out), HRN.out, HFN.out⟩
              case measure => simp [intOf]; omega
        · have hk1 : k < f.S.length := by omega
          obtain ⟨bs, os, hps, hbs, e0, e1, e2, e3, e4⟩ := (HRS.out.keep (HBq.out.trans (HB2.out.mono HBq.out.size))) k hk1
          subst hps
          have s0 := InB.cell (w := wr) e0 (by omega)
          have s1 := InB.cell (w := wr) e1 (by omega)
          have x0 := InB.cell (w := wr) ((HB2.out.cell (p := ⟨bp, op + j * 3, none⟩) HXc.out.2.2).trans HXc.out.1) (by have := HXc.out.2.2; omega)
          have x1 := InB.cell (w := wr) ((HB2.out.cell (p := ⟨bp, op + j * 3 + 1, none⟩) HXc.out.2.2).trans HXc.out.2.1) (by have := HXc.out.2.2; omega)
          have b1 := InB.cell (w := wr) (hFx.cell (i := 1) rfl) hFx.lt
          have ne1 := inB_ne wr
          have hpe := plc_eq f.S[k] x hxk
          have HTS : Hid (rngsAt (f.S.take (k + 1)) x = rngsAt (f.S.take k) x ++ (if plcS f.S[k] = x then [f.S[k].rg] else [])) := by rw [take_snoc f.S k hk1]; exact rngsAt_snoc _ _ _
          have HLn : Hid ((rngsAt (f.S.take k) x).length + 1 ≤ 3518437208883) := by
            unfold rngsAt
            rw [List.length_map]
            exact Nat.le_trans (Nat.add_le_add_right (List.length_filter_le _ _) 1) (by rw [List.length_take]; omega)
          generalize f.S[k] = s at *
          cases h1 : (s.t == x.t) <;> cases h2 : (s.i == x.i)
          all_goals rw [h1, h2] at hpe
          all_goals simp only [Bool.and_true, Bool.and_false, Bool.and_self, decide_eq_true_eq, decide_eq_false_iff_not] at hpe
          rotate_right
          · rw [if_pos hpe] at HTS
            go_wp2_with fail
            refine wp_region_inB (by kernel_rfl) (by kernel_rfl) ?_
            repeat (go_big_quiet_step (first | fail))
            refine wpQuiet_nil ?_
            rintro w8 ⟨⟨w9, hb9⟩, h9⟩
            obtain rfl : w8 = w9 := h9
            clear s0 s1 x0 x1 b1 ne1
            have f0 := (hFx.on hb9).cell (i := 1) rfl
            have r2 := (hb9.cell (p := ⟨bs, os + k * 5 + 2, none⟩) (show bs < _ by omega)).trans e2
            have r3 := (hb9.cell (p := ⟨bs, os + k * 5 + 3, none⟩) (show bs < _ by omega)).trans e3
            have r4 := (hb9.cell (p := ⟨bs, os + k * 5 + 4, none⟩) (show bs < _ by omega)).trans e4
            have hz9 := hb9.size
            have HO9 : Hid (OwnR w8 wq.heap.size (.slice q2 l2 d2) (rngsAt (f.S.take k) x)) := HO2.out.kept hb9
            have HB9 : Hid (Below wq.heap.size wq w8) := HB2.out.trans (hb9.mono hzr)
            clear e0 e1 e2 e3 e4 hb9 HO2 HB2
            go_wp2_with (first | (at_builtin; refine wpList_appR _ rfl _ _ rfl wq.heap.size _ _ rfl HO9.out s.rg _ rfl rfl HLn.out (by omega) ?_; intro v6 w6 h6 h7))
            obtain ⟨q3, l3, d3, hv3⟩ : ∃ q3 l3 d3, v6 = .slice q3 l3 d3 := by
              obtain ⟨p9, c9, e9, _⟩ := h6.row
              exact ⟨_, _, _, e9⟩
            subst hv3
            go_roundw
            case rel => exact ⟨k + 1, q3, l3, d3, hk1, by go_num, rfl, (show OwnR _ _ _ _ by rw [HTS.out]; exact h6), HB9.out.trans h7⟩
            case measure => simp [intOf]; omega
          all_goals
            rw [if_neg hpe, List.append_nil] at HTS
            go_wp2_with fail
            refine wp_region_inB (by kernel_rfl) (by kernel_rfl) ?_
            repeat (go_big_quiet_step (first | fail))
            refine wpQuiet_nil ?_
            rintro w8 ⟨⟨w9, hb9⟩, h9⟩
            obtain rfl : w8 = w9 := h9
            have HO9 : Hid (OwnR w8 wq.heap.size (.slice q2 l2 d2) (rngsAt (f.S.take k) x)) := HO2.out.kept hb9
            have HB9 : Hid (Below wq.heap.size wq w8) := HB2.out.trans (hb9.mono hzr)
            clear s0 s1 x0 x1 b1 ne1 HO2 HB2 hb9
            go_wp2_with fail
            go_roundw
            case rel => exact ⟨k + 1, q2, l2, d2, hk1, by go_num, rfl, (show OwnR _ _ _ _ by rw [HTS.out]; exact HO9.out), HB9.out⟩
            case measure => simp [intOf]; omega
end Go.Proofs.YtiiladcihheogaaGreat
