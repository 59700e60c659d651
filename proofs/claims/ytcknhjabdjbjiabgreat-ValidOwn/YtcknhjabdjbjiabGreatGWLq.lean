/- What both sides tell is the same. The document's Read. -/
import Derived.Test.YtcknhjabdjbjiabGreatGWLg15
import Derived.Test.YtcknhjabdjbjiabGreatGWLg12
import Derived.Test.YtcknhjabdjbjiabGreatGWLd1
import Derived.Test.YtcknhjabdjbjiabGreatGWRs2
import Derived.Test.YtcknhjabdjbjiabGreatGWRs10
namespace Go.Proofs.YtcknhjabdjbjiabGreat
open Go.RowKit
set_option maxRecDepth 100000

/-- a clash in its parts -/
def clC (q : Option (Nat × Pt)) : Nat × Pt := q.getD (0, ⟨0, 0, ⟨#[]⟩⟩)
theorem clA_eq (q : Option (Nat × Pt)) : clA q = .agg #[.int .u64 ((clC q).1 : Nat), .int .i64 (clC q).2.t, .int .i64 (clC q).2.i, .string (clC q).2.k] := by cases q <;> rfl
theorem clV_eq (q : Option (Nat × Pt)) : clV q = .tuple #[.agg #[.int .u64 ((clC q).1 : Nat), .int .i64 (clC q).2.t, .int .i64 (clC q).2.i, .string (clC q).2.k], .bool q.isSome] := by cases q <;> rfl
theorem FstO.uniq {M : List Cm} {fr : Nat} {P : Pt → Prop} (hI : InvC M) : ∀ {q q' : Option (Nat × Pt)}, FstO M fr P q → FstO M fr P q' → q = q'
  | none, none, _, _ => rfl
  | none, some q', h, h' => by
    obtain ⟨c, hc, e, hf, hm, _⟩ := h'
    exact absurd hm.1.2 (h c hc (by omega) _ hm.1.1)
  | some q, none, h, h' => by
    obtain ⟨c, hc, e, hf, hm, _⟩ := h
    exact absurd hm.1.2 (h' c hc (by omega) _ hm.1.1)
  | some (m, x), some (m', x'), h, h' => by
    obtain ⟨c, hc, e, hf, hm, hl⟩ := h
    obtain ⟨c', hc', e', hf', hm', hl'⟩ := h'
    dsimp only at e e' hf hf' hl hl' hm hm'
    have h1 : ¬ m < m' := fun hlt => hl' c hc (by omega) (by omega) x hm.1.1 hm.1.2
    have h2 : ¬ m' < m := fun hlt => hl c' hc' (by omega) (by omega) x' hm'.1.1 hm'.1.2
    have h3 : m = m' := by omega
    obtain ⟨i, hi, rfl⟩ := List.getElem_of_mem hc
    obtain ⟨j, hj, rfl⟩ := List.getElem_of_mem hc'
    have hij : i = j := by
      rcases Nat.lt_trichotomy i j with h | h | h
      · have := hI.ris i j hi hj h; omega
      · exact h
      · have := hI.ris j i hj hi h; omega
    subst hij
    have := Option.some.inj (hm.uniq hm')
    rw [h3, this]
theorem RdQ.same {a : Ft} {L M : List Cm} {fr : Nat} {q q' : Option (Nat × Pt)} (hs : SamC L M) (hI : InvC M) (h : RdQ a L fr q) (h' : RdQ a M fr q') : q' = q := by
  by_cases hc : chkF a = 0
  · exact FstO.uniq hI (h'.ok hc) (hs.fst (h.ok hc))
  · rw [h.bad hc, h'.bad hc]
theorem WrQ.same {a : Ft} {L M : List Cm} {fr : Nat} {q q' : Option (Nat × Pt)} (hs : SamC L M) (hI : InvC M) (h : WrQ a L fr q) (h' : WrQ a M fr q') : q' = q := by
  by_cases hc : chkF a = 0
  · exact FstO.uniq hI (h'.ok hc) (hs.fst (h.ok hc))
  · rw [h.bad hc, h'.bad hc]
theorem TryQ.sam {a : Ft} {fr : Nat} {lv : Int} {L M : List Cm} {q : Option (Nat × Pt)} {er : Int} (hs : SamC L M) (h : TryQ a fr lv L q er) : TryQ a fr lv M q er := by
  rcases h with h | h | ⟨h1, h2, h3, h4, h5⟩ | ⟨h1, h2, h3, h4, h5, h6⟩ | ⟨h1, h2, h3, h4, h5⟩
  · exact .inl h
  · exact .inr (.inl h)
  · exact .inr (.inr (.inl ⟨h1, h2, h3, hs.fst h4, h5⟩))
  · exact .inr (.inr (.inr (.inl ⟨h1, h2, hs.fst h3, h4, hs.fst h5, h6⟩)))
  · exact .inr (.inr (.inr (.inr ⟨h1, h2, fun h => hs.fst (h3 h), fun h => hs.fst (h4 h), h5⟩)))
theorem TryQ.uniq {a : Ft} {fr : Nat} {lv : Int} {M : List Cm} {q q' : Option (Nat × Pt)} {er er' : Int} (hI : InvC M) (h : TryQ a fr lv M q er) (h' : TryQ a fr lv M q' er') : q' = q ∧ er' = er := by
  rcases h with ⟨h1, h2, h3⟩ | ⟨h1, h2, h3, h4⟩ | ⟨h1, h2, ⟨p, h3⟩, h4, h5⟩ | ⟨h1, h2, h3, ⟨p, h4⟩, h5, h6⟩ | ⟨h1, h2, h3, h4, h5, h6⟩ <;>
  rcases h' with ⟨k1, k2, k3⟩ | ⟨k1, k2, k3, k4⟩ | ⟨k1, k2, ⟨p', k3⟩, k4, k5⟩ | ⟨k1, k2, k3, ⟨p', k4⟩, k5, k6⟩ | ⟨k1, k2, k3, k4, k5, k6⟩
  all_goals first
    | exact absurd k1 h1
    | exact absurd h1 k1
    | exact ⟨by rw [h2, k2], by rw [h3, k3]⟩
    | exact ⟨by rw [h3, k3], by rw [h4, k4]⟩
    | (exfalso; omega)
    | exact ⟨FstO.uniq hI k4 h4, by rw [h5, k5]⟩
    | exact ⟨FstO.uniq hI k5 h5, by rw [h6, k6]⟩
    | exact ⟨by rw [h5, k5], by rw [h6, k6]⟩
    | (exfalso; have h7 := FstO.uniq hI h4 k3; rw [h3] at h7; cases h7)
    | (exfalso; have h7 := FstO.uniq hI k4 h3; rw [k3] at h7; cases h7)
    | (exfalso; have h7 := FstO.uniq hI h4 (k3 (by omega)); rw [h3] at h7; cases h7)
    | (exfalso; have h7 := FstO.uniq hI k4 (h3 (by omega)); rw [k3] at h7; cases h7)
    | (exfalso; have h7 := FstO.uniq hI h5 (k4 (by omega)); rw [h4] at h7; cases h7)
    | (exfalso; have h7 := FstO.uniq hI k5 (h4 (by omega)); rw [k4] at h7; cases h7)
set_option maxHeartbeats 2000000 in
theorem sameClash_any (m : Nat) (t i : Int) (k : ByteArray) (w : World) : Calls Tryz.prog 15 #[.agg #[.int .u64 (m : Nat), .int .i64 t, .int .i64 i, .string k], .agg #[.int .u64 (m : Nat), .int .i64 t, .int .i64 i, .string k]] w fun e w' => e = .returned (.bool true) ∧ Below w.heap.size w w' := by
  obtain ⟨w2, hw2⟩ : ∃ w2, ((w.alloc (.cells #[.int .u64 (m : Nat), .int .i64 t, .int .i64 i, .string k] 38)).alloc (.cells #[.int .u64 (m : Nat), .int .i64 t, .int .i64 i, .string k] 38)) = w2 := ⟨_, rfl⟩
  have HB2 : Hid (Below w.heap.size w w2) := by rw [← hw2]; exact ((Below.refl _ _).alloc (Nat.le_refl _) _).alloc (by simp) _
  have HKA : Hid (Blk w2 w.heap.size #[.int .u64 (m : Nat), .int .i64 t, .int .i64 i, .string k] 38) := by rw [← hw2]; exact (Blk.new w _ _).keep (B := w.heap.size + 1) ((Below.refl _ _).alloc (by simp) _) (by omega)
  have HKB : Hid (Blk w2 (w.heap.size + 1) #[.int .u64 (m : Nat), .int .i64 t, .int .i64 i, .string k] 38) := by
    rw [← hw2]
    have h := Blk.new (w.alloc (.cells #[.int .u64 (m : Nat), .int .i64 t, .int .i64 i, .string k] 38)) #[.int .u64 (m : Nat), .int .i64 t, .int .i64 i, .string k] 38
    rw [World.size_alloc] at h
    exact h
  have a0 := HKA.out.cell (i := 0) rfl
  have a1 := HKA.out.cell (i := 1) rfl
  have a2 := HKA.out.cell (i := 2) rfl
  have a3 := HKA.out.cell (i := 3) rfl
  have b0 := HKB.out.cell (i := 0) rfl
  have b1 := HKB.out.cell (i := 1) rfl
  have b2 := HKB.out.cell (i := 2) rfl
  have b3 := HKB.out.cell (i := 3) rfl
  go_enter Tryz.func15, Tryz.ntmps15
  go_wp2_with fail
  go_ret
  exact ⟨by simp, HB2.out⟩

end Go.Proofs.YtcknhjabdjbjiabGreat

namespace Go.Proofs.YtcknhjabdjbjiabGreat
open Go.RowKit
set_option maxRecDepth 100000

set_option maxHeartbeats 8000000 in
theorem rread_any (a : Ft) (va0 va1 va2 : Value) (B fr : Nat) (v : Value) (M : List Cm) (w : World) (hX : DocC w B v M) (hI : InvC M) (ha : RdF w va0 va1 va2 a) :
    Calls Tryz.prog 14 #[v, .agg #[va0, va1, va2], .int .u64 (fr : Nat)] w fun e w' => ∃ q, e = .returned (clV q) ∧ RdQ a M fr q ∧ Below w.heap.size w w' := by
  obtain ⟨p0, c0, e0, -⟩ := ha.p.f
  obtain ⟨p1, c1, e1, -⟩ := ha.s.f
  obtain ⟨p2, c2, e2, -⟩ := ha.w.f
  obtain ⟨n0, hn0⟩ : ∃ n, a.P.length = n := ⟨_, rfl⟩
  obtain ⟨n1, hn1⟩ : ∃ n, a.S.length = n := ⟨_, rfl⟩
  obtain ⟨n2, hn2⟩ : ∃ n, a.W.length = n := ⟨_, rfl⟩
  rw [hn0] at e0
  rw [hn1] at e1
  rw [hn2] at e2
  subst e0 e1 e2
  clear hn0 hn1 hn2
  obtain ⟨pm, cm, rfl, hrow⟩ := hX.drop
  obtain ⟨n, hn⟩ : ∃ n, M.length = n := ⟨_, rfl⟩
  rw [hn] at hX ⊢
  have HRw : Hid (RowD w pm M) := hrow
  have HXw : Hid (DocC w B (.slice pm n cm) M) := hX
  have HI : Hid (InvC M) := hI
  have HLn : Hid (M.length = n) := hn
  have hn4 : n ≤ 4096 := by have := hI.len; omega
  obtain ⟨w2, hw2⟩ : ∃ w2, ((w.alloc (.cells #[.slice p0 n0 c0, .slice p1 n1 c1, .slice p2 n2 c2] 27)).alloc (.cells #[.int .u64 0, .int .i64 0, .int .i64 0, .string ⟨#[]⟩] 38)) = w2 := ⟨_, rfl⟩
  have HB2 : Hid (Below w.heap.size w w2) := by rw [← hw2]; exact ((Below.refl _ _).alloc (Nat.le_refl _) _).alloc (by simp) _
  have HKA : Hid (Blk w2 w.heap.size #[.slice p0 n0 c0, .slice p1 n1 c1, .slice p2 n2 c2] 27) := by rw [← hw2]; exact (Blk.new w _ _).keep (B := w.heap.size + 1) ((Below.refl _ _).alloc (by simp) _) (by omega)
  have HKB : Hid (Blk w2 (w.heap.size + 1) #[.int .u64 0, .int .i64 0, .int .i64 0, .string ⟨#[]⟩] 38) := by
    rw [← hw2]
    have h := Blk.new (w.alloc (.cells #[.slice p0 n0 c0, .slice p1 n1 c1, .slice p2 n2 c2] 27)) #[.int .u64 0, .int .i64 0, .int .i64 0, .string ⟨#[]⟩] 38
    rw [World.size_alloc] at h
    exact h
  have HA2 : Hid (RdF w2 _ _ _ a) := ha.on HB2.out
  have CC : Hid (Calls _ _ _ _ _) := rcheck_any a _ _ _ w2 HA2.out
  have k0 := HKA.out.cell (i := 0) rfl
  have k1 := HKA.out.cell (i := 1) rfl
  have k2 := HKA.out.cell (i := 2) rfl
  clear hX ha hI hrow hn
  go_enter Tryz.func14, Tryz.ntmps14
  go_wp2_with fail
  refine CC.out.mono ?_
  rintro e w3 ⟨rfl, hb3⟩
  clear CC k0 k1 k2 hw2
  have HB3 : Hid (Below w.heap.size w w3) := HB2.out.trans (hb3.mono HB2.out.size)
  have HA3 : Hid (RdF w3 _ _ _ a) := HA2.out.on hb3
  have HK3 : Hid (Blk w3 w.heap.size #[.slice p0 n0 c0, .slice p1 n1 c1, .slice p2 n2 c2] 27) := HKA.out.on hb3
  have HZ3 : Hid (Blk w3 (w.heap.size + 1) #[.int .u64 0, .int .i64 0, .int .i64 0, .string ⟨#[]⟩] 38) := HKB.out.on hb3
  clear hb3 HB2 HA2 HKA HKB
  by_cases hca : chkF a = 0
  · have HCA : Hid (chkF a = 0) := hca
    rw [hca]
    clear hca
    go_wp2_with fail
    go_loopw [8] (fun i wr => ∃ j : Nat, j ≤ n ∧ i = .int .i64 (j : Int) ∧ Hid (Below w3.heap.size w3 wr) ∧ Hid (∀ k (hk : k < M.length), k < j → fr < M[k].s → ∀ x ∈ M[k].W, ¬ a.rds x)) (fun i _ => n - (intOf i).toNat)
    case atStart => exact ⟨0, Nat.zero_le _, by go_num, Below.refl _ _, fun k _ hk => absurd hk (by omega)⟩
    case round =>
      obtain ⟨j, hj, rfl, HB, HNo⟩ := hrel
      have HBr : Hid (Below w.heap.size w wr) := HB3.out.trans (HB.out.mono HB3.out.size)
      have HKr : Hid (Blk wr w.heap.size #[.slice p0 n0 c0, .slice p1 n1 c1, .slice p2 n2 c2] 27) := HK3.out.on HB.out
      have HZr : Hid (Blk wr (w.heap.size + 1) #[.int .u64 0, .int .i64 0, .int .i64 0, .string ⟨#[]⟩] 38) := HZ3.out.on HB.out
      have HAr : Hid (RdF wr _ _ _ a) := HA3.out.on HB.out
      have HRr : Hid (RowD wr pm M) := HRw.out.on HBr.out
      have HXr : Hid (DocC wr B (.slice pm n cm) M) := HXw.out.on HBr.out
      clear HB3 HK3 HZ3 HA3
      by_cases hj0 : j = n
      · subst hj0
        have HQ : Hid (RdQ a M fr none) := ⟨fun _ c hc hf x hx => by
          obtain ⟨k, hk, rfl⟩ := List.getElem_of_mem hc
          exact HNo.out k hk (by have := HLn.out; omega) hf x hx, fun h => absurd HCA.out h⟩
        have z0 := HZr.out.cell (i := 0) rfl
        have f0 := HZr.out.frozen 0
        have z1 := HZr.out.cell (i := 1) rfl
        have f1 := HZr.out.frozen 1
        have z2 := HZr.out.cell (i := 2) rfl
        have f2 := HZr.out.frozen 2
        have z3 := HZr.out.cell (i := 3) rfl
        have f3 := HZr.out.frozen 3
        have H4 : Hid (Blk ((((wr.setCell ⟨w.heap.size + 1, 0, none⟩ (.int .u64 0)).setCell ⟨w.heap.size + 1, 1, none⟩ (.int .i64 0)).setCell ⟨w.heap.size + 1, 2, none⟩ (.int .i64 0)).setCell ⟨w.heap.size + 1, 3, none⟩ (.string ⟨#[]⟩)) (w.heap.size + 1) #[(.int .u64 0), (.int .i64 0), (.int .i64 0), (.string ⟨#[]⟩)] 38 ∧ Frm wr ((((wr.setCell ⟨w.heap.size + 1, 0, none⟩ (.int .u64 0)).setCell ⟨w.heap.size + 1, 1, none⟩ (.int .i64 0)).setCell ⟨w.heap.size + 1, 2, none⟩ (.int .i64 0)).setCell ⟨w.heap.size + 1, 3, none⟩ (.string ⟨#[]⟩)) (fun k => k = w.heap.size + 1)) := set4 HZr.out
        have HE4 : Hid (Below w.heap.size w ((((wr.setCell ⟨w.heap.size + 1, 0, none⟩ (.int .u64 0)).setCell ⟨w.heap.size + 1, 1, none⟩ (.int .i64 0)).setCell ⟨w.heap.size + 1, 2, none⟩ (.int .i64 0)).setCell ⟨w.heap.size + 1, 3, none⟩ (.string ⟨#[]⟩))) := HBr.out.trans (H4.out.2.below HBr.out.size (fun k hk => by omega))
        go_wp2_with fail
        clear z0 z1 z2 z3 f0 f1 f2 f3
        generalize (((wr.setCell ⟨w.heap.size + 1, 0, none⟩ (.int .u64 0)).setCell ⟨w.heap.size + 1, 1, none⟩ (.int .i64 0)).setCell ⟨w.heap.size + 1, 2, none⟩ (.int .i64 0)).setCell ⟨w.heap.size + 1, 3, none⟩ (.string ⟨#[]⟩) = wz at *
        have r0 := H4.out.1.cell (i := 0) rfl
        have r1 := H4.out.1.cell (i := 1) rfl
        have r2 := H4.out.1.cell (i := 2) rfl
        have r3 := H4.out.1.cell (i := 3) rfl
        refine bodyPost_ret (v := clV none) (by simp [clV, results, Tryz.results14, go_sem, r0, r1, r2, r3]) rfl ?_
        exact ⟨_, rfl, HQ.out, HE4.out⟩
      · have hj1 : j < n := by omega
        have hjM : j < M.length := by have := HLn.out; omega
        obtain ⟨b, o, rfl, hbl, d0, d1⟩ := HRr.out j hjM
        obtain ⟨s, hs⟩ : ∃ s, M[j].s = s := ⟨_, rfl⟩
        obtain ⟨v2, hv2⟩ : ∃ v2, M[j].v2 = v2 := ⟨_, rfl⟩
        rw [hs] at d0
        rw [hv2] at d1
        have HS : Hid (M[j].s = s) := hs
        by_cases hsf : s ≤ fr
        · have HNo2 : Hid (∀ k (hk : k < M.length), k < j + 1 → fr < M[k].s → ∀ x ∈ M[k].W, ¬ a.rds x) := fun k hk hkj hf => by
            by_cases hk2 : k = j
            · subst hk2
              have := HS.out
              omega
            · exact HNo.out k hk (by omega) hf
          clear hs hv2 d1 HS hjM
          go_wp2_with fail
          go_roundw
          case rel => exact ⟨j + 1, hj1, by go_num, HB, HNo2⟩
          case measure => simp [intOf]; omega
        · have hsf2 : fr < s := by omega
          have hftj := HXr.out.ft M[j] (List.getElem_mem hjM)
          rw [hv2] at hftj
          have CQ : Hid (∀ w7 : World, Below wr.heap.size wr w7 → Calls Tryz.prog 33 #[.agg #[.slice p0 n0 c0, .slice p1 n1 c1, .slice p2 n2 c2], .agg #[.slice none 0 0, .slice none 0 0, v2]] w7 fun e w' => ∃ oo : Option Pt, IsMin (fun x => x ∈ M[j].W ∧ a.rds x) oo ∧ e = .returned (.tuple #[.agg #[.int .i64 (lP oo).t, .int .i64 (lP oo).i, .string (lP oo).k], .bool oo.isSome]) ∧ Below w7.heap.size w7 w') := fun w7 hb => by
            refine (rclash_any a ⟨[], [], M[j].W⟩ _ _ _ _ _ _ w7 (HAr.out.on hb) ⟨SlP.nil18 _, SlS.nil18 _, hftj.1.1.on hb, by simp, by simp, hftj.1.2⟩).mono ?_
            rintro e w' ⟨oo, ho, rfl, hb'⟩
            exact ⟨oo, ho, rfl, hb'⟩
          obtain ⟨q2, l2, k2, ev2⟩ : ∃ p n c, v2 = .slice p n c := by obtain ⟨p, c, e, _⟩ := hftj.1.1.f; exact ⟨_, _, _, e⟩
          subst ev2
          clear hs hv2 hftj
          have hsd : decide ((s : Int) ≤ (fr : Int)) = false := decide_eq_false (by omega)
          go_upto_region 7 with fail
          clear hsd
          have HD : Hid (∀ w9, Below wr.heap.size wr w9 → w9.cell? ⟨b, o + j * 2, none⟩ = some (.int .u64 (s : Nat)) ∧ w9.cell? ⟨b, o + j * 2 + 1, none⟩ = some (.slice q2 l2 k2)) := fun w9 h9 => ⟨(h9.cell (p := ⟨b, o + j * 2, none⟩) hbl).trans d0, (h9.cell (p := ⟨b, o + j * 2 + 1, none⟩) hbl).trans d1⟩
          have HLb : Hid (b < wr.heap.size) := hbl
          clear d0 d1 hbl
          refine wp_region_L (fun w' => Below wr.heap.size wr w') 14 (by kernel_rfl) ?_
          have HBwd : Hid (Below wr.heap.size wr wr.drew) := (Below.refl _ _).drew
          generalize wr.drew = wd at *
          refine wpL_take (v := ?_) 0 rfl (by kernel_rfl) (fun _ _ _ h => h) (by rfl) ?_ HBwd.out ?_
          rotate_left
          focus
            intro w9 hw9
            have a0 := (HKr.out.on hw9).cell (i := 0) rfl
            have a1 := (HKr.out.on hw9).cell (i := 1) rfl
            have a2 := (HKr.out.on hw9).cell (i := 2) rfl
            have a3 := (HD.out w9 hw9).1
            have a4 := (HD.out w9 hw9).2
            go_simp
            try with_reducible rfl
          try simp only [Act.put, List.setIfInBounds_toArray, List.set_cons_zero, List.set_cons_succ]
          refine wpL_take (v := ?_) 1 rfl (by kernel_rfl) (fun _ _ _ h => h) (by rfl) ?_ HBwd.out ?_
          rotate_left
          focus
            intro w9 hw9
            have a0 := (HKr.out.on hw9).cell (i := 0) rfl
            have a1 := (HKr.out.on hw9).cell (i := 1) rfl
            have a2 := (HKr.out.on hw9).cell (i := 2) rfl
            have a3 := (HD.out w9 hw9).1
            have a4 := (HD.out w9 hw9).2
            go_simp
            try with_reducible rfl
          try simp only [Act.put, List.setIfInBounds_toArray, List.set_cons_zero, List.set_cons_succ]
          refine wpL_take (v := ?_) 2 rfl (by kernel_rfl) (fun _ _ _ h => h) (by rfl) ?_ HBwd.out ?_
          rotate_left
          focus
            intro w9 hw9
            have a0 := (HKr.out.on hw9).cell (i := 0) rfl
            have a1 := (HKr.out.on hw9).cell (i := 1) rfl
            have a2 := (HKr.out.on hw9).cell (i := 2) rfl
            have a3 := (HD.out w9 hw9).1
            have a4 := (HD.out w9 hw9).2
            go_simp
            try with_reducible rfl
          try simp only [Act.put, List.setIfInBounds_toArray, List.set_cons_zero, List.set_cons_succ]
          refine wpL_take (v := ?_) 3 rfl (by kernel_rfl) (fun _ _ _ h => h) (by rfl) ?_ HBwd.out ?_
          rotate_left
          focus
            intro w9 hw9
            have a0 := (HKr.out.on hw9).cell (i := 0) rfl
            have a1 := (HKr.out.on hw9).cell (i := 1) rfl
            have a2 := (HKr.out.on hw9).cell (i := 2) rfl
            have a3 := (HD.out w9 hw9).1
            have a4 := (HD.out w9 hw9).2
            go_simp
            try with_reducible rfl
          try simp only [Act.put, List.setIfInBounds_toArray, List.set_cons_zero, List.set_cons_succ]
          refine wpL_take (v := ?_) 4 rfl (by kernel_rfl) (fun _ _ _ h => h) (by rfl) ?_ HBwd.out ?_
          rotate_left
          focus
            intro w9 hw9
            have a0 := (HKr.out.on hw9).cell (i := 0) rfl
            have a1 := (HKr.out.on hw9).cell (i := 1) rfl
            have a2 := (HKr.out.on hw9).cell (i := 2) rfl
            have a3 := (HD.out w9 hw9).1
            have a4 := (HD.out w9 hw9).2
            go_simp
            try with_reducible rfl
          try simp only [Act.put, List.setIfInBounds_toArray, List.set_cons_zero, List.set_cons_succ]
          refine wpL_take (v := ?_) 5 rfl (by kernel_rfl) (fun _ _ _ h => h) (by rfl) ?_ HBwd.out ?_
          rotate_left
          focus
            intro w9 hw9
            have a0 := (HKr.out.on hw9).cell (i := 0) rfl
            have a1 := (HKr.out.on hw9).cell (i := 1) rfl
            have a2 := (HKr.out.on hw9).cell (i := 2) rfl
            have a3 := (HD.out w9 hw9).1
            have a4 := (HD.out w9 hw9).2
            go_simp
            try with_reducible rfl
          try simp only [Act.put, List.setIfInBounds_toArray, List.set_cons_zero, List.set_cons_succ]
          refine wpL_take (v := ?_) 6 rfl (by kernel_rfl) (fun _ _ _ h => h) (by rfl) ?_ HBwd.out ?_
          rotate_left
          focus
            intro w9 hw9
            have a0 := (HKr.out.on hw9).cell (i := 0) rfl
            have a1 := (HKr.out.on hw9).cell (i := 1) rfl
            have a2 := (HKr.out.on hw9).cell (i := 2) rfl
            have a3 := (HD.out w9 hw9).1
            have a4 := (HD.out w9 hw9).2
            go_simp
            try with_reducible rfl
          try simp only [Act.put, List.setIfInBounds_toArray, List.set_cons_zero, List.set_cons_succ]
          refine wpL_two18 7 11 rfl rfl (by kernel_rfl) (by rfl) (by rfl) ?_ ?_
          · intro K hK
            go_simp
            refine (CQ.out wd HBwd.out).mono ?_
            rintro e wu1 ⟨oo, hoo, rfl, hbwu1⟩
            have HMn : Hid (IsMin (fun x => x ∈ M[j].W ∧ a.rds x) oo) := hoo
            clear hoo
            dsimp only
            have HBwu1 : Hid (Below wr.heap.size wr wu1) := HBwd.out.trans (hbwu1.mono HBwd.out.size)
            clear hbwu1
            generalize hlp : lP oo = x at *
            generalize hio : oo.isSome = bo at *
            have HLp : Hid (lP oo = x ∧ oo.isSome = bo) := ⟨hlp, hio⟩
            clear hlp hio
            refine hK.out _ _ (fun _ => HBwu1.out) ?_
            clear hK K
            try simp only [Act.put, List.setIfInBounds_toArray, List.set_cons_zero, List.set_cons_succ]
            refine wpL_take (v := ?_) 8 rfl (by kernel_rfl) (fun _ _ _ h => h) (by rfl) ?_ HBwu1.out ?_
            rotate_left
            focus
              intro w9 hw9

              go_simp
              try with_reducible rfl
            try simp only [Act.put, List.setIfInBounds_toArray, List.set_cons_zero, List.set_cons_succ]
            refine wpL_take (v := ?_) 9 rfl (by kernel_rfl) (fun _ _ _ h => h) (by rfl) ?_ HBwu1.out ?_
            rotate_left
            focus
              intro w9 hw9

              go_simp
              try with_reducible rfl
            try simp only [Act.put, List.setIfInBounds_toArray, List.set_cons_zero, List.set_cons_succ]
            refine wpL_take (v := ?_) 10 rfl (by kernel_rfl) (fun _ _ _ h => h) (by rfl) ?_ HBwu1.out ?_
            rotate_left
            focus
              intro w9 hw9

              go_simp
              try with_reducible rfl
            try simp only [Act.put, List.setIfInBounds_toArray, List.set_cons_zero, List.set_cons_succ]
            refine wpL_one 11 rfl (by kernel_rfl) (by rfl) ?_
            intro K hK
            go_simp
            have hal : Below wu1.heap.size wu1 (wu1.alloc (.cells #[.int .i64 0, .int .i64 0, .string ⟨#[]⟩] 36)) := (Below.refl _ _).alloc (Nat.le_refl _) _
            have HZwu2 : Hid (Blk (wu1.alloc (.cells #[.int .i64 0, .int .i64 0, .string ⟨#[]⟩] 36)) wu1.heap.size #[.int .i64 0, .int .i64 0, .string ⟨#[]⟩] 36) := Blk.new wu1 _ _
            have HBwu2 : Hid (Below wr.heap.size wr (wu1.alloc (.cells #[.int .i64 0, .int .i64 0, .string ⟨#[]⟩] 36))) := HBwu1.out.trans (hal.mono HBwu1.out.size)
            have HLe : Hid (wr.heap.size ≤ wu1.heap.size) := HBwu1.out.size
            clear hal
            generalize (wu1.alloc (.cells #[.int .i64 0, .int .i64 0, .string ⟨#[]⟩] 36)) = wu2 at *
            refine hK.out _ _ (fun _ => HBwu2.out) ?_
            clear hK K
            try simp only [Act.put, List.setIfInBounds_toArray, List.set_cons_zero, List.set_cons_succ]
            have q0 := HZwu2.out.cell (i := 0) rfl
            have q1 := HZwu2.out.cell (i := 1) rfl
            have q2' := HZwu2.out.cell (i := 2) rfl
            have g0 := HZwu2.out.frozen 0
            have g1 := HZwu2.out.frozen 1
            have g2 := HZwu2.out.frozen 2
            have H3 : Hid (Blk (((wu2.setCell ⟨wu1.heap.size, 0, none⟩ (.int .i64 x.t)).setCell ⟨wu1.heap.size, 1, none⟩ (.int .i64 x.i)).setCell ⟨wu1.heap.size, 2, none⟩ (.string x.k)) wu1.heap.size #[.int .i64 x.t, .int .i64 x.i, .string x.k] 36 ∧ Frm wu2 (((wu2.setCell ⟨wu1.heap.size, 0, none⟩ (.int .i64 x.t)).setCell ⟨wu1.heap.size, 1, none⟩ (.int .i64 x.i)).setCell ⟨wu1.heap.size, 2, none⟩ (.string x.k)) (fun k => k = wu1.heap.size)) := set3 HZwu2.out
            have HBs : Hid (Below wr.heap.size wr (((wu2.setCell ⟨wu1.heap.size, 0, none⟩ (.int .i64 x.t)).setCell ⟨wu1.heap.size, 1, none⟩ (.int .i64 x.i)).setCell ⟨wu1.heap.size, 2, none⟩ (.string x.k))) := HBwu2.out.trans (H3.out.2.below HBwu2.out.size (fun k hk => by have := HLe.out; omega))
            refine wpL_one 12 rfl (by kernel_rfl) (by rfl) ?_
            intro K hK
            go_simp
            refine hK.out _ _ (fun _ => HBs.out) ?_
            clear hK K q0 q1 q2' g0 g1 g2
            generalize ((wu2.setCell ⟨wu1.heap.size, 0, none⟩ (.int .i64 x.t)).setCell ⟨wu1.heap.size, 1, none⟩ (.int .i64 x.i)).setCell ⟨wu1.heap.size, 2, none⟩ (.string x.k) = ws at *
            try simp only [Act.put, List.setIfInBounds_toArray, List.set_cons_zero, List.set_cons_succ]
            refine wpL_take (v := ?_) 13 rfl (by kernel_rfl) (fun _ _ _ h => h) (by rfl) ?_ HBs.out ?_
            rotate_left
            focus
              intro w9 hw9

              go_simp
              try with_reducible rfl
            try simp only [Act.put, List.setIfInBounds_toArray, List.set_cons_zero, List.set_cons_succ]
            refine wpL_done (by kernel_rfl) ?_ _
            try simp only [NoPanic]
            have HPs : Hid (Blk ws wu1.heap.size #[.int .i64 x.t, .int .i64 x.i, .string x.k] 36) := H3.out.1
            have HLe2 : Hid (wr.heap.size ≤ wu1.heap.size) := HLe.out
            clear H3 HBwu2 HZwu2 HLe
            generalize wu1.heap.size = pb at *
            cases bo with
            | false =>
              have HNo2 : Hid (∀ k (hk : k < M.length), k < j + 1 → fr < M[k].s → ∀ x ∈ M[k].W, ¬ a.rds x) := fun k hk hkj hf y hy hm => by
                by_cases hk2 : k = j
                · subst hk2
                  have h9 := HMn.out
                  cases oo with
                  | none => exact h9 y ⟨hy, hm⟩
                  | some z => exact absurd HLp.out.2 (by simp)
                · exact HNo.out k hk (by omega) hf y hy hm
              have HBn : Hid (Below w3.heap.size w3 ws) := HB.out.trans (HBs.out.mono HB.out.size)
              clear HPs HLe2 HMn HLp HD HNo HB CQ HS hjM
              go_wp2_with fail
              go_roundw
              case rel => exact ⟨j + 1, hj1, by go_num, HBn, HNo2⟩
              case measure => simp [intOf]; omega
            | true =>
              have HFx : Hid (RdQ a M fr (some (s, x))) := ⟨fun _ => by
                have h9 := HMn.out
                cases oo with
                | none => exact absurd HLp.out.2 (by simp)
                | some z =>
                  have hz : z = x := HLp.out.1
                  subst hz
                  refine ⟨M[j], List.getElem_mem hjM, HS.out, hsf2, h9, fun c' hc' hf hlt y hy hm => ?_⟩
                  obtain ⟨k, hk, rfl⟩ := List.getElem_of_mem hc'
                  have hlt' : M[k].s < s := hlt
                  have hkj : k < j := by
                    rcases Nat.lt_trichotomy k j with h | h | h
                    · exact h
                    · subst h
                      have := HS.out
                      omega
                    · have := HI.out.ris j k hjM hk h
                      have := HS.out
                      omega
                  exact HNo.out k hk hkj hf y hy hm, fun h => absurd HCA.out h⟩
              go_upto_region 9 with fail
              have HZs : Hid (Blk ws (w.heap.size + 1) #[.int .u64 0, .int .i64 0, .int .i64 0, .string ⟨#[]⟩] 38) := HZr.out.on HBs.out
              have HLz : Hid (w.heap.size + 1 < wr.heap.size) := HZr.out.lt
              have hds := (HD.out ws HBs.out).1
              have HBe : Hid (Below w.heap.size w ws) := HBr.out.trans (HBs.out.mono HBr.out.size)
              have HBd : Hid (¬ b = w.heap.size + 1) := by
                obtain ⟨b', o', e', hb', _⟩ := HRw.out j hjM
                cases e'
                show ¬ b = w.heap.size + 1
                omega
              clear HMn HLp HD HNo HB HBs HZr HRr HXr HAr HKr HBr CQ HS hjM
              refine wp_region_L (fun w' => w'.cell? ⟨b, o + j * 2, none⟩ = some (.int .u64 (s : Nat)) ∧ Blk w' pb #[.int .i64 x.t, .int .i64 x.i, .string x.k] 36) 9 (by kernel_rfl) ?_
              have HSd : Hid (ws.drew.cell? ⟨b, o + j * 2, none⟩ = some (.int .u64 (s : Nat)) ∧ Blk ws.drew pb #[.int .i64 x.t, .int .i64 x.i, .string x.k] 36) := ⟨hds, HPs.out⟩
              have HZd : Hid (Blk ws.drew (w.heap.size + 1) #[.int .u64 0, .int .i64 0, .int .i64 0, .string ⟨#[]⟩] 38) := HZs.out
              have HEd : Hid (Below w.heap.size w ws.drew) := HBe.out.drew
              clear hds HPs HZs HBe
              generalize ws.drew = wd9 at *
              refine wpL_take (v := ?_) 0 rfl (by kernel_rfl) (fun _ _ _ h => h) (by rfl) ?_ HSd.out ?_
              rotate_left
              focus
                intro w9 hw9
                have a0 := hw9.1
                have b0 := hw9.2.cell (i := 0) rfl
                have b1 := hw9.2.cell (i := 1) rfl
                have b2 := hw9.2.cell (i := 2) rfl
                go_simp
                try with_reducible rfl
              try simp only [Act.put, List.setIfInBounds_toArray, List.set_cons_zero, List.set_cons_succ]
              refine wpL_take (v := ?_) 1 rfl (by kernel_rfl) (fun _ _ _ h => h) (by rfl) ?_ HSd.out ?_
              rotate_left
              focus
                intro w9 hw9
                have a0 := hw9.1
                have b0 := hw9.2.cell (i := 0) rfl
                have b1 := hw9.2.cell (i := 1) rfl
                have b2 := hw9.2.cell (i := 2) rfl
                go_simp
                try with_reducible rfl
              try simp only [Act.put, List.setIfInBounds_toArray, List.set_cons_zero, List.set_cons_succ]
              refine wpL_take (v := ?_) 2 rfl (by kernel_rfl) (fun _ _ _ h => h) (by rfl) ?_ HSd.out ?_
              rotate_left
              focus
                intro w9 hw9
                have a0 := hw9.1
                have b0 := hw9.2.cell (i := 0) rfl
                have b1 := hw9.2.cell (i := 1) rfl
                have b2 := hw9.2.cell (i := 2) rfl
                go_simp
                try with_reducible rfl
              try simp only [Act.put, List.setIfInBounds_toArray, List.set_cons_zero, List.set_cons_succ]
              refine wpL_take (v := ?_) 3 rfl (by kernel_rfl) (fun _ _ _ h => h) (by rfl) ?_ HSd.out ?_
              rotate_left
              focus
                intro w9 hw9
                have a0 := hw9.1
                have b0 := hw9.2.cell (i := 0) rfl
                have b1 := hw9.2.cell (i := 1) rfl
                have b2 := hw9.2.cell (i := 2) rfl
                go_simp
                try with_reducible rfl
              try simp only [Act.put, List.setIfInBounds_toArray, List.set_cons_zero, List.set_cons_succ]
              refine wpL_take (v := ?_) 4 rfl (by kernel_rfl) (fun _ _ _ h => h) (by rfl) ?_ HSd.out ?_
              rotate_left
              focus
                intro w9 hw9
                have a0 := hw9.1
                have b0 := hw9.2.cell (i := 0) rfl
                have b1 := hw9.2.cell (i := 1) rfl
                have b2 := hw9.2.cell (i := 2) rfl
                go_simp
                try with_reducible rfl
              try simp only [Act.put, List.setIfInBounds_toArray, List.set_cons_zero, List.set_cons_succ]
              refine wpL_take (v := ?_) 5 rfl (by kernel_rfl) (fun _ _ _ h => h) (by rfl) ?_ HSd.out ?_
              rotate_left
              focus
                intro w9 hw9
                have a0 := hw9.1
                have b0 := hw9.2.cell (i := 0) rfl
                have b1 := hw9.2.cell (i := 1) rfl
                have b2 := hw9.2.cell (i := 2) rfl
                go_simp
                try with_reducible rfl
              try simp only [Act.put, List.setIfInBounds_toArray, List.set_cons_zero, List.set_cons_succ]
              refine wpL_take (v := ?_) 6 rfl (by kernel_rfl) (fun _ _ _ h => h) (by rfl) ?_ HSd.out ?_
              rotate_left
              focus
                intro w9 hw9
                have a0 := hw9.1
                have b0 := hw9.2.cell (i := 0) rfl
                have b1 := hw9.2.cell (i := 1) rfl
                have b2 := hw9.2.cell (i := 2) rfl
                go_simp
                try with_reducible rfl
              try simp only [Act.put, List.setIfInBounds_toArray, List.set_cons_zero, List.set_cons_succ]
              refine wpL_one 7 rfl (by kernel_rfl) (by rfl) ?_
              intro K hK
              have z0 := HZd.out.cell (i := 0) rfl
              have f0 := HZd.out.frozen 0
              have z1 := HZd.out.cell (i := 1) rfl
              have f1 := HZd.out.frozen 1
              have z2 := HZd.out.cell (i := 2) rfl
              have f2 := HZd.out.frozen 2
              have z3 := HZd.out.cell (i := 3) rfl
              have f3 := HZd.out.frozen 3
              have H4 : Hid (Blk ((((wd9.setCell ⟨w.heap.size + 1, 0, none⟩ (.int .u64 (s : Nat))).setCell ⟨w.heap.size + 1, 1, none⟩ (.int .i64 x.t)).setCell ⟨w.heap.size + 1, 2, none⟩ (.int .i64 x.i)).setCell ⟨w.heap.size + 1, 3, none⟩ (.string x.k)) (w.heap.size + 1) #[(.int .u64 (s : Nat)), (.int .i64 x.t), (.int .i64 x.i), (.string x.k)] 38 ∧ Frm wd9 ((((wd9.setCell ⟨w.heap.size + 1, 0, none⟩ (.int .u64 (s : Nat))).setCell ⟨w.heap.size + 1, 1, none⟩ (.int .i64 x.t)).setCell ⟨w.heap.size + 1, 2, none⟩ (.int .i64 x.i)).setCell ⟨w.heap.size + 1, 3, none⟩ (.string x.k)) (fun k => k = w.heap.size + 1)) := set4 HZd.out
              have HE4 : Hid (Below w.heap.size w ((((wd9.setCell ⟨w.heap.size + 1, 0, none⟩ (.int .u64 (s : Nat))).setCell ⟨w.heap.size + 1, 1, none⟩ (.int .i64 x.t)).setCell ⟨w.heap.size + 1, 2, none⟩ (.int .i64 x.i)).setCell ⟨w.heap.size + 1, 3, none⟩ (.string x.k))) := HEd.out.trans (H4.out.2.below HEd.out.size (fun k hk => by omega))
              have HSe : Hid (((((wd9.setCell ⟨w.heap.size + 1, 0, none⟩ (.int .u64 (s : Nat))).setCell ⟨w.heap.size + 1, 1, none⟩ (.int .i64 x.t)).setCell ⟨w.heap.size + 1, 2, none⟩ (.int .i64 x.i)).setCell ⟨w.heap.size + 1, 3, none⟩ (.string x.k)).cell? ⟨b, o + j * 2, none⟩ = some (.int .u64 (s : Nat)) ∧ Blk ((((wd9.setCell ⟨w.heap.size + 1, 0, none⟩ (.int .u64 (s : Nat))).setCell ⟨w.heap.size + 1, 1, none⟩ (.int .i64 x.t)).setCell ⟨w.heap.size + 1, 2, none⟩ (.int .i64 x.i)).setCell ⟨w.heap.size + 1, 3, none⟩ (.string x.k)) pb #[.int .i64 x.t, .int .i64 x.i, .string x.k] 36) := by
                have hf := H4.out.2
                refine ⟨?_, ?_⟩
                · have h8 := HSd.out.1
                  unfold World.cell? at h8 ⊢
                  have hbk : ((((wd9.setCell ⟨w.heap.size + 1, 0, none⟩ (.int .u64 (s : Nat))).setCell ⟨w.heap.size + 1, 1, none⟩ (.int .i64 x.t)).setCell ⟨w.heap.size + 1, 2, none⟩ (.int .i64 x.i)).setCell ⟨w.heap.size + 1, 3, none⟩ (.string x.k)).heap[b]? = wd9.heap[b]? := by
                    rcases Nat.lt_or_ge b wd9.heap.size with hlt | hge
                    · exact hf.block b hlt HBd.out
                    · simp [Array.getElem?_eq_none hge] at h8
                  simp only [hbk]
                  exact h8
                · exact (hf.block pb HSd.out.2.lt (by have h1 := HLe2.out; have h2 := HLz.out; omega)).trans HSd.out.2
              go_simp
              refine hK.out _ _ (fun _ => HSe.out) ?_
              clear hK K
              clear z0 z1 z2 z3 f0 f1 f2 f3
              generalize (((wd9.setCell ⟨w.heap.size + 1, 0, none⟩ (.int .u64 (s : Nat))).setCell ⟨w.heap.size + 1, 1, none⟩ (.int .i64 x.t)).setCell ⟨w.heap.size + 1, 2, none⟩ (.int .i64 x.i)).setCell ⟨w.heap.size + 1, 3, none⟩ (.string x.k) = wz at *
              try simp only [Act.put, List.setIfInBounds_toArray, List.set_cons_zero, List.set_cons_succ]
              refine wpL_take (v := ?_) 8 rfl (by kernel_rfl) (fun _ _ _ h => h) (by rfl) ?_ HSe.out ?_
              rotate_left
              focus
                intro w9 hw9

                go_simp
                try with_reducible rfl
              try simp only [Act.put, List.setIfInBounds_toArray, List.set_cons_zero, List.set_cons_succ]
              refine wpL_done (by kernel_rfl) ?_ _
              try simp only [NoPanic]
              have HQ := HFx
              go_wp2_with fail
              have r0 := H4.out.1.cell (i := 0) rfl
              have r1 := H4.out.1.cell (i := 1) rfl
              have r2 := H4.out.1.cell (i := 2) rfl
              have r3 := H4.out.1.cell (i := 3) rfl
              refine bodyPost_ret (v := clV (some (s, x))) (by simp [clV, results, Tryz.results14, go_sem, r0, r1, r2, r3]) rfl ?_
              exact ⟨_, rfl, HQ.out, HE4.out⟩
          · intro K hK
            go_simp
            have hal : Below wd.heap.size wd (wd.alloc (.cells #[.int .i64 0, .int .i64 0, .string ⟨#[]⟩] 36)) := (Below.refl _ _).alloc (Nat.le_refl _) _
            have HZwu3 : Hid (Blk (wd.alloc (.cells #[.int .i64 0, .int .i64 0, .string ⟨#[]⟩] 36)) wd.heap.size #[.int .i64 0, .int .i64 0, .string ⟨#[]⟩] 36) := Blk.new wd _ _
            have HBwu3 : Hid (Below wr.heap.size wr (wd.alloc (.cells #[.int .i64 0, .int .i64 0, .string ⟨#[]⟩] 36))) := HBwd.out.trans (hal.mono HBwd.out.size)
            have HLe : Hid (wr.heap.size ≤ wd.heap.size) := HBwd.out.size
            clear hal
            generalize (wd.alloc (.cells #[.int .i64 0, .int .i64 0, .string ⟨#[]⟩] 36)) = wu3 at *
            refine hK.out _ _ (fun _ => HBwu3.out) ?_
            clear hK K
            try simp only [Act.put, List.setIfInBounds_toArray, List.set_cons_zero, List.set_cons_succ]
            refine wpL_one 7 rfl (by kernel_rfl) (by rfl) ?_
            intro K hK
            go_simp
            refine (CQ.out wu3 HBwu3.out).mono ?_
            rintro e wu4 ⟨oo, hoo, rfl, hbwu4⟩
            have HMn : Hid (IsMin (fun x => x ∈ M[j].W ∧ a.rds x) oo) := hoo
            clear hoo
            dsimp only
            have HBwu4 : Hid (Below wr.heap.size wr wu4) := HBwu3.out.trans (hbwu4.mono HBwu3.out.size)
            have HZwu4 : Hid (Blk wu4 wd.heap.size #[.int .i64 0, .int .i64 0, .string ⟨#[]⟩] 36) := HZwu3.out.on hbwu4
            clear hbwu4
            generalize hlp : lP oo = x at *
            generalize hio : oo.isSome = bo at *
            have HLp : Hid (lP oo = x ∧ oo.isSome = bo) := ⟨hlp, hio⟩
            clear hlp hio
            refine hK.out _ _ (fun _ => HBwu4.out) ?_
            clear hK K
            try simp only [Act.put, List.setIfInBounds_toArray, List.set_cons_zero, List.set_cons_succ]
            refine wpL_take (v := ?_) 8 rfl (by kernel_rfl) (fun _ _ _ h => h) (by rfl) ?_ HBwu4.out ?_
            rotate_left
            focus
              intro w9 hw9

              go_simp
              try with_reducible rfl
            try simp only [Act.put, List.setIfInBounds_toArray, List.set_cons_zero, List.set_cons_succ]
            refine wpL_take (v := ?_) 9 rfl (by kernel_rfl) (fun _ _ _ h => h) (by rfl) ?_ HBwu4.out ?_
            rotate_left
            focus
              intro w9 hw9

              go_simp
              try with_reducible rfl
            try simp only [Act.put, List.setIfInBounds_toArray, List.set_cons_zero, List.set_cons_succ]
            refine wpL_take (v := ?_) 10 rfl (by kernel_rfl) (fun _ _ _ h => h) (by rfl) ?_ HBwu4.out ?_
            rotate_left
            focus
              intro w9 hw9

              go_simp
              try with_reducible rfl
            try simp only [Act.put, List.setIfInBounds_toArray, List.set_cons_zero, List.set_cons_succ]
            have q0 := HZwu4.out.cell (i := 0) rfl
            have q1 := HZwu4.out.cell (i := 1) rfl
            have q2' := HZwu4.out.cell (i := 2) rfl
            have g0 := HZwu4.out.frozen 0
            have g1 := HZwu4.out.frozen 1
            have g2 := HZwu4.out.frozen 2
            have H3 : Hid (Blk (((wu4.setCell ⟨wd.heap.size, 0, none⟩ (.int .i64 x.t)).setCell ⟨wd.heap.size, 1, none⟩ (.int .i64 x.i)).setCell ⟨wd.heap.size, 2, none⟩ (.string x.k)) wd.heap.size #[.int .i64 x.t, .int .i64 x.i, .string x.k] 36 ∧ Frm wu4 (((wu4.setCell ⟨wd.heap.size, 0, none⟩ (.int .i64 x.t)).setCell ⟨wd.heap.size, 1, none⟩ (.int .i64 x.i)).setCell ⟨wd.heap.size, 2, none⟩ (.string x.k)) (fun k => k = wd.heap.size)) := set3 HZwu4.out
            have HBs : Hid (Below wr.heap.size wr (((wu4.setCell ⟨wd.heap.size, 0, none⟩ (.int .i64 x.t)).setCell ⟨wd.heap.size, 1, none⟩ (.int .i64 x.i)).setCell ⟨wd.heap.size, 2, none⟩ (.string x.k))) := HBwu4.out.trans (H3.out.2.below HBwu4.out.size (fun k hk => by have := HLe.out; omega))
            refine wpL_one 12 rfl (by kernel_rfl) (by rfl) ?_
            intro K hK
            go_simp
            refine hK.out _ _ (fun _ => HBs.out) ?_
            clear hK K q0 q1 q2' g0 g1 g2
            generalize ((wu4.setCell ⟨wd.heap.size, 0, none⟩ (.int .i64 x.t)).setCell ⟨wd.heap.size, 1, none⟩ (.int .i64 x.i)).setCell ⟨wd.heap.size, 2, none⟩ (.string x.k) = ws at *
            try simp only [Act.put, List.setIfInBounds_toArray, List.set_cons_zero, List.set_cons_succ]
            refine wpL_take (v := ?_) 13 rfl (by kernel_rfl) (fun _ _ _ h => h) (by rfl) ?_ HBs.out ?_
            rotate_left
            focus
              intro w9 hw9

              go_simp
              try with_reducible rfl
            try simp only [Act.put, List.setIfInBounds_toArray, List.set_cons_zero, List.set_cons_succ]
            refine wpL_done (by kernel_rfl) ?_ _
            try simp only [NoPanic]
            have HPs : Hid (Blk ws wd.heap.size #[.int .i64 x.t, .int .i64 x.i, .string x.k] 36) := H3.out.1
            have HLe2 : Hid (wr.heap.size ≤ wd.heap.size) := HLe.out
            clear H3 HBwu4 HZwu4 HLe
            generalize wd.heap.size = pb at *
            cases bo with
            | false =>
              have HNo2 : Hid (∀ k (hk : k < M.length), k < j + 1 → fr < M[k].s → ∀ x ∈ M[k].W, ¬ a.rds x) := fun k hk hkj hf y hy hm => by
                by_cases hk2 : k = j
                · subst hk2
                  have h9 := HMn.out
                  cases oo with
                  | none => exact h9 y ⟨hy, hm⟩
                  | some z => exact absurd HLp.out.2 (by simp)
                · exact HNo.out k hk (by omega) hf y hy hm
              have HBn : Hid (Below w3.heap.size w3 ws) := HB.out.trans (HBs.out.mono HB.out.size)
              clear HPs HLe2 HMn HLp HD HNo HB CQ HS hjM
              go_wp2_with fail
              go_roundw
              case rel => exact ⟨j + 1, hj1, by go_num, HBn, HNo2⟩
              case measure => simp [intOf]; omega
            | true =>
              have HFx : Hid (RdQ a M fr (some (s, x))) := ⟨fun _ => by
                have h9 := HMn.out
                cases oo with
                | none => exact absurd HLp.out.2 (by simp)
                | some z =>
                  have hz : z = x := HLp.out.1
                  subst hz
                  refine ⟨M[j], List.getElem_mem hjM, HS.out, hsf2, h9, fun c' hc' hf hlt y hy hm => ?_⟩
                  obtain ⟨k, hk, rfl⟩ := List.getElem_of_mem hc'
                  have hlt' : M[k].s < s := hlt
                  have hkj : k < j := by
                    rcases Nat.lt_trichotomy k j with h | h | h
                    · exact h
                    · subst h
                      have := HS.out
                      omega
                    · have := HI.out.ris j k hjM hk h
                      have := HS.out
                      omega
                  exact HNo.out k hk hkj hf y hy hm, fun h => absurd HCA.out h⟩
              go_upto_region 9 with fail
              have HZs : Hid (Blk ws (w.heap.size + 1) #[.int .u64 0, .int .i64 0, .int .i64 0, .string ⟨#[]⟩] 38) := HZr.out.on HBs.out
              have HLz : Hid (w.heap.size + 1 < wr.heap.size) := HZr.out.lt
              have hds := (HD.out ws HBs.out).1
              have HBe : Hid (Below w.heap.size w ws) := HBr.out.trans (HBs.out.mono HBr.out.size)
              have HBd : Hid (¬ b = w.heap.size + 1) := by
                obtain ⟨b', o', e', hb', _⟩ := HRw.out j hjM
                cases e'
                show ¬ b = w.heap.size + 1
                omega
              clear HMn HLp HD HNo HB HBs HZr HRr HXr HAr HKr HBr CQ HS hjM
              refine wp_region_L (fun w' => w'.cell? ⟨b, o + j * 2, none⟩ = some (.int .u64 (s : Nat)) ∧ Blk w' pb #[.int .i64 x.t, .int .i64 x.i, .string x.k] 36) 9 (by kernel_rfl) ?_
              have HSd : Hid (ws.drew.cell? ⟨b, o + j * 2, none⟩ = some (.int .u64 (s : Nat)) ∧ Blk ws.drew pb #[.int .i64 x.t, .int .i64 x.i, .string x.k] 36) := ⟨hds, HPs.out⟩
              have HZd : Hid (Blk ws.drew (w.heap.size + 1) #[.int .u64 0, .int .i64 0, .int .i64 0, .string ⟨#[]⟩] 38) := HZs.out
              have HEd : Hid (Below w.heap.size w ws.drew) := HBe.out.drew
              clear hds HPs HZs HBe
              generalize ws.drew = wd9 at *
              refine wpL_take (v := ?_) 0 rfl (by kernel_rfl) (fun _ _ _ h => h) (by rfl) ?_ HSd.out ?_
              rotate_left
              focus
                intro w9 hw9
                have a0 := hw9.1
                have b0 := hw9.2.cell (i := 0) rfl
                have b1 := hw9.2.cell (i := 1) rfl
                have b2 := hw9.2.cell (i := 2) rfl
                go_simp
                try with_reducible rfl
              try simp only [Act.put, List.setIfInBounds_toArray, List.set_cons_zero, List.set_cons_succ]
              refine wpL_take (v := ?_) 1 rfl (by kernel_rfl) (fun _ _ _ h => h) (by rfl) ?_ HSd.out ?_
              rotate_left
              focus
                intro w9 hw9
                have a0 := hw9.1
                have b0 := hw9.2.cell (i := 0) rfl
                have b1 := hw9.2.cell (i := 1) rfl
                have b2 := hw9.2.cell (i := 2) rfl
                go_simp
                try with_reducible rfl
              try simp only [Act.put, List.setIfInBounds_toArray, List.set_cons_zero, List.set_cons_succ]
              refine wpL_take (v := ?_) 2 rfl (by kernel_rfl) (fun _ _ _ h => h) (by rfl) ?_ HSd.out ?_
              rotate_left
              focus
                intro w9 hw9
                have a0 := hw9.1
                have b0 := hw9.2.cell (i := 0) rfl
                have b1 := hw9.2.cell (i := 1) rfl
                have b2 := hw9.2.cell (i := 2) rfl
                go_simp
                try with_reducible rfl
              try simp only [Act.put, List.setIfInBounds_toArray, List.set_cons_zero, List.set_cons_succ]
              refine wpL_take (v := ?_) 3 rfl (by kernel_rfl) (fun _ _ _ h => h) (by rfl) ?_ HSd.out ?_
              rotate_left
              focus
                intro w9 hw9
                have a0 := hw9.1
                have b0 := hw9.2.cell (i := 0) rfl
                have b1 := hw9.2.cell (i := 1) rfl
                have b2 := hw9.2.cell (i := 2) rfl
                go_simp
                try with_reducible rfl
              try simp only [Act.put, List.setIfInBounds_toArray, List.set_cons_zero, List.set_cons_succ]
              refine wpL_take (v := ?_) 4 rfl (by kernel_rfl) (fun _ _ _ h => h) (by rfl) ?_ HSd.out ?_
              rotate_left
              focus
                intro w9 hw9
                have a0 := hw9.1
                have b0 := hw9.2.cell (i := 0) rfl
                have b1 := hw9.2.cell (i := 1) rfl
                have b2 := hw9.2.cell (i := 2) rfl
                go_simp
                try with_reducible rfl
              try simp only [Act.put, List.setIfInBounds_toArray, List.set_cons_zero, List.set_cons_succ]
              refine wpL_take (v := ?_) 5 rfl (by kernel_rfl) (fun _ _ _ h => h) (by rfl) ?_ HSd.out ?_
              rotate_left
              focus
                intro w9 hw9
                have a0 := hw9.1
                have b0 := hw9.2.cell (i := 0) rfl
                have b1 := hw9.2.cell (i := 1) rfl
                have b2 := hw9.2.cell (i := 2) rfl
                go_simp
                try with_reducible rfl
              try simp only [Act.put, List.setIfInBounds_toArray, List.set_cons_zero, List.set_cons_succ]
              refine wpL_take (v := ?_) 6 rfl (by kernel_rfl) (fun _ _ _ h => h) (by rfl) ?_ HSd.out ?_
              rotate_left
              focus
                intro w9 hw9
                have a0 := hw9.1
                have b0 := hw9.2.cell (i := 0) rfl
                have b1 := hw9.2.cell (i := 1) rfl
                have b2 := hw9.2.cell (i := 2) rfl
                go_simp
                try with_reducible rfl
              try simp only [Act.put, List.setIfInBounds_toArray, List.set_cons_zero, List.set_cons_succ]
              refine wpL_one 7 rfl (by kernel_rfl) (by rfl) ?_
              intro K hK
              have z0 := HZd.out.cell (i := 0) rfl
              have f0 := HZd.out.frozen 0
              have z1 := HZd.out.cell (i := 1) rfl
              have f1 := HZd.out.frozen 1
              have z2 := HZd.out.cell (i := 2) rfl
              have f2 := HZd.out.frozen 2
              have z3 := HZd.out.cell (i := 3) rfl
              have f3 := HZd.out.frozen 3
              have H4 : Hid (Blk ((((wd9.setCell ⟨w.heap.size + 1, 0, none⟩ (.int .u64 (s : Nat))).setCell ⟨w.heap.size + 1, 1, none⟩ (.int .i64 x.t)).setCell ⟨w.heap.size + 1, 2, none⟩ (.int .i64 x.i)).setCell ⟨w.heap.size + 1, 3, none⟩ (.string x.k)) (w.heap.size + 1) #[(.int .u64 (s : Nat)), (.int .i64 x.t), (.int .i64 x.i), (.string x.k)] 38 ∧ Frm wd9 ((((wd9.setCell ⟨w.heap.size + 1, 0, none⟩ (.int .u64 (s : Nat))).setCell ⟨w.heap.size + 1, 1, none⟩ (.int .i64 x.t)).setCell ⟨w.heap.size + 1, 2, none⟩ (.int .i64 x.i)).setCell ⟨w.heap.size + 1, 3, none⟩ (.string x.k)) (fun k => k = w.heap.size + 1)) := set4 HZd.out
              have HE4 : Hid (Below w.heap.size w ((((wd9.setCell ⟨w.heap.size + 1, 0, none⟩ (.int .u64 (s : Nat))).setCell ⟨w.heap.size + 1, 1, none⟩ (.int .i64 x.t)).setCell ⟨w.heap.size + 1, 2, none⟩ (.int .i64 x.i)).setCell ⟨w.heap.size + 1, 3, none⟩ (.string x.k))) := HEd.out.trans (H4.out.2.below HEd.out.size (fun k hk => by omega))
              have HSe : Hid (((((wd9.setCell ⟨w.heap.size + 1, 0, none⟩ (.int .u64 (s : Nat))).setCell ⟨w.heap.size + 1, 1, none⟩ (.int .i64 x.t)).setCell ⟨w.heap.size + 1, 2, none⟩ (.int .i64 x.i)).setCell ⟨w.heap.size + 1, 3, none⟩ (.string x.k)).cell? ⟨b, o + j * 2, none⟩ = some (.int .u64 (s : Nat)) ∧ Blk ((((wd9.setCell ⟨w.heap.size + 1, 0, none⟩ (.int .u64 (s : Nat))).setCell ⟨w.heap.size + 1, 1, none⟩ (.int .i64 x.t)).setCell ⟨w.heap.size + 1, 2, none⟩ (.int .i64 x.i)).setCell ⟨w.heap.size + 1, 3, none⟩ (.string x.k)) pb #[.int .i64 x.t, .int .i64 x.i, .string x.k] 36) := by
                have hf := H4.out.2
                refine ⟨?_, ?_⟩
                · have h8 := HSd.out.1
                  unfold World.cell? at h8 ⊢
                  have hbk : ((((wd9.setCell ⟨w.heap.size + 1, 0, none⟩ (.int .u64 (s : Nat))).setCell ⟨w.heap.size + 1, 1, none⟩ (.int .i64 x.t)).setCell ⟨w.heap.size + 1, 2, none⟩ (.int .i64 x.i)).setCell ⟨w.heap.size + 1, 3, none⟩ (.string x.k)).heap[b]? = wd9.heap[b]? := by
                    rcases Nat.lt_or_ge b wd9.heap.size with hlt | hge
                    · exact hf.block b hlt HBd.out
                    · simp [Array.getElem?_eq_none hge] at h8
                  simp only [hbk]
                  exact h8
                · exact (hf.block pb HSd.out.2.lt (by have h1 := HLe2.out; have h2 := HLz.out; omega)).trans HSd.out.2
              go_simp
              refine hK.out _ _ (fun _ => HSe.out) ?_
              clear hK K
              clear z0 z1 z2 z3 f0 f1 f2 f3
              generalize (((wd9.setCell ⟨w.heap.size + 1, 0, none⟩ (.int .u64 (s : Nat))).setCell ⟨w.heap.size + 1, 1, none⟩ (.int .i64 x.t)).setCell ⟨w.heap.size + 1, 2, none⟩ (.int .i64 x.i)).setCell ⟨w.heap.size + 1, 3, none⟩ (.string x.k) = wz at *
              try simp only [Act.put, List.setIfInBounds_toArray, List.set_cons_zero, List.set_cons_succ]
              refine wpL_take (v := ?_) 8 rfl (by kernel_rfl) (fun _ _ _ h => h) (by rfl) ?_ HSe.out ?_
              rotate_left
              focus
                intro w9 hw9

                go_simp
                try with_reducible rfl
              try simp only [Act.put, List.setIfInBounds_toArray, List.set_cons_zero, List.set_cons_succ]
              refine wpL_done (by kernel_rfl) ?_ _
              try simp only [NoPanic]
              have HQ := HFx
              go_wp2_with fail
              have r0 := H4.out.1.cell (i := 0) rfl
              have r1 := H4.out.1.cell (i := 1) rfl
              have r2 := H4.out.1.cell (i := 2) rfl
              have r3 := H4.out.1.cell (i := 3) rfl
              refine bodyPost_ret (v := clV (some (s, x))) (by simp [clV, results, Tryz.results14, go_sem, r0, r1, r2, r3]) rfl ?_
              exact ⟨_, rfl, HQ.out, HE4.out⟩
  · have HQ : Hid (RdQ a M fr none) := ⟨fun h => absurd h hca, fun _ => rfl⟩
    have z0 := HZ3.out.cell (i := 0) rfl
    have f0 := HZ3.out.frozen 0
    have z1 := HZ3.out.cell (i := 1) rfl
    have f1 := HZ3.out.frozen 1
    have z2 := HZ3.out.cell (i := 2) rfl
    have f2 := HZ3.out.frozen 2
    have z3 := HZ3.out.cell (i := 3) rfl
    have f3 := HZ3.out.frozen 3
    have H4 : Hid (Blk ((((w3.setCell ⟨w.heap.size + 1, 0, none⟩ (.int .u64 0)).setCell ⟨w.heap.size + 1, 1, none⟩ (.int .i64 0)).setCell ⟨w.heap.size + 1, 2, none⟩ (.int .i64 0)).setCell ⟨w.heap.size + 1, 3, none⟩ (.string ⟨#[]⟩)) (w.heap.size + 1) #[(.int .u64 0), (.int .i64 0), (.int .i64 0), (.string ⟨#[]⟩)] 38 ∧ Frm w3 ((((w3.setCell ⟨w.heap.size + 1, 0, none⟩ (.int .u64 0)).setCell ⟨w.heap.size + 1, 1, none⟩ (.int .i64 0)).setCell ⟨w.heap.size + 1, 2, none⟩ (.int .i64 0)).setCell ⟨w.heap.size + 1, 3, none⟩ (.string ⟨#[]⟩)) (fun k => k = w.heap.size + 1)) := set4 HZ3.out
    have HE4 : Hid (Below w.heap.size w ((((w3.setCell ⟨w.heap.size + 1, 0, none⟩ (.int .u64 0)).setCell ⟨w.heap.size + 1, 1, none⟩ (.int .i64 0)).setCell ⟨w.heap.size + 1, 2, none⟩ (.int .i64 0)).setCell ⟨w.heap.size + 1, 3, none⟩ (.string ⟨#[]⟩))) := HB3.out.trans (H4.out.2.below HB3.out.size (fun k hk => by omega))
    go_wp2_with fail
    clear z0 z1 z2 z3 f0 f1 f2 f3
    generalize (((w3.setCell ⟨w.heap.size + 1, 0, none⟩ (.int .u64 0)).setCell ⟨w.heap.size + 1, 1, none⟩ (.int .i64 0)).setCell ⟨w.heap.size + 1, 2, none⟩ (.int .i64 0)).setCell ⟨w.heap.size + 1, 3, none⟩ (.string ⟨#[]⟩) = wz at *
    have r0 := H4.out.1.cell (i := 0) rfl
    have r1 := H4.out.1.cell (i := 1) rfl
    have r2 := H4.out.1.cell (i := 2) rfl
    have r3 := H4.out.1.cell (i := 3) rfl
    refine bodyPost_ret (v := clV none) (by simp [clV, results, Tryz.results14, go_sem, r0, r1, r2, r3]) rfl ?_
    exact ⟨_, rfl, HQ.out, HE4.out⟩

end Go.Proofs.YtcknhjabdjbjiabGreat
