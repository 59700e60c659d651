/- Merge. -/
import Derived.Test.YtjeidpgkgjljcaaWCat17
namespace Go.Proofs.Ytjeidpgkgjljcaa
open Go.RowKit
set_option maxRecDepth 100000

/-- two feet as one -/
def Ft.bth (a b : Ft) : Ft := ⟨a.P ++ b.P, a.S ++ b.S, a.W ++ b.W⟩
theorem chk_sz {f : Ft} (h : chkF f = 0) : f.size ≤ 65536 := by
  unfold chkF at h
  by_cases h9 : 65536 < f.size
  · rw [if_pos h9] at h; cases h
  · omega
theorem chk_size17 {f : Ft} (h : chkF f = 0) : f.P.length ≤ 65536 ∧ f.S.length ≤ 65536 ∧ f.W.length ≤ 65536 := by
  have h9 := chk_sz h
  unfold Ft.size at h9
  omega
/-- what Merge refuses -/
def chkM (a b : Ft) : Int := if chkF a ≠ 0 then chkF a else if chkF b ≠ 0 then chkF b else if 65536 < a.size + b.size then 2 else 0
/-- what Merge answers -/
def MrO (a b g : Ft) : Prop := (chkM a b ≠ 0 ∧ g = ⟨[], [], []⟩) ∨ (chkM a b = 0 ∧ NrmF (a.bth b) g)
theorem MrO.uniq {a b g h : Ft} (hg : MrO a b g) (hh : MrO a b h) : g = h := by
  rcases hg with ⟨h1, rfl⟩ | ⟨h1, hg⟩
  · rcases hh with ⟨_, rfl⟩ | ⟨h2, _⟩
    · rfl
    · exact absurd h2 h1
  · rcases hh with ⟨h2, _⟩ | ⟨_, hh⟩
    · exact absurd h1 h2
    · exact hg.same hh
theorem pair17 {α : Type} {w : World} {g : Nat} {v v' : Value} {T : TypeId} {L M : List α} {R : Value → List α → Prop} (hB : Blk w g #[v, v'] T) (h1 : R v L) (h2 : R v' M) : ∀ i (hi : i < [L, M].length), ∃ u, w.cell? ⟨g, i, none⟩ = some u ∧ R u [L, M][i] := by
  intro i hi
  match i, hi with
  | 0, _ => exact ⟨v, hB.cell rfl, h1⟩
  | 1, _ => exact ⟨v', hB.cell rfl, h2⟩
theorem len17 {α : Type} {L M : List α} (h1 : L.length ≤ 65536) (h2 : M.length ≤ 65536) : ∀ K ∈ [L, M], K.length ≤ 65536 := by
  intro K hK
  simp only [List.mem_cons, List.not_mem_nil, or_false] at hK
  rcases hK with rfl | rfl
  · exact h1
  · exact h2
theorem flat_two {α : Type} (L M : List α) : [L, M].flatten = L ++ M := by simp
theorem bth_rd {w : World} {B : Nat} {x0 x1 x2 : Value} {a b : Ft} (h0 : OwnP w B x0 (a.P ++ b.P)) (h1 : OwnS w B x1 (a.S ++ b.S)) (h2 : OwnP w B x2 (a.W ++ b.W)) (ha : a.P.length ≤ 65536 ∧ a.S.length ≤ 65536 ∧ a.W.length ≤ 65536) (hb : b.P.length ≤ 65536 ∧ b.S.length ≤ 65536 ∧ b.W.length ≤ 65536) : RdF w x0 x1 x2 (a.bth b) :=
  ⟨h0.sl, h1.sl, h2.sl, by show (a.P ++ b.P).length ≤ _; rw [List.length_append]; omega, by show (a.S ++ b.S).length ≤ _; rw [List.length_append]; omega, by show (a.W ++ b.W).length ≤ _; rw [List.length_append]; omega⟩
theorem wpL_two17 {P : Program} {ops : Array Oper} {Q : Exit → Act → World → Prop} {S : World → Prop} {m : Nat} (i j : Nat) {oi oj : Oper} {fuel : Nat} {listed : Array Bool} {a : Act} {w : World} (hi : nthO ops.toList i = some oi) (hj : nthO ops.toList j = some oj) (hr : Region.ready .any ops listed = [i, j]) (hwi : Region.wanted oi (yielded ops a.tmps) = true) (hwj : Region.wanted oj (yielded ops a.tmps) = true)
    (h1 : ∀ K : Act → World → Prop, Hid (∀ a' w', (i ≠ m → S w') → wpL P ops Q S m fuel (listed.setIfInBounds i true) a' w' → K a' w') → oi.wp P a w K Q)
    (h2 : ∀ K : Act → World → Prop, Hid (∀ a' w', (j ≠ m → S w') → wpL P ops Q S m fuel (listed.setIfInBounds j true) a' w' → K a' w') → oj.wp P a w K Q) : wpL P ops Q S m (fuel + 1) listed a w := by
  refine ⟨fun h0 => (by rw [hr] at h0; cases h0), fun k hk => ?_⟩
  rw [hr] at hk
  rcases List.mem_cons.1 hk with e | hk
  · subst e
    unfold wpOp
    simp only [nthO_at hi, hwi, if_true]
    exact .inl (h1 _ (show ∀ a' w', _ → _ → _ from fun a' w' h1 h2 => ⟨h1, h2⟩))
  · have e : k = j := by simpa using hk
    subst e
    unfold wpOp
    simp only [nthO_at hj, hwj, if_true]
    exact .inl (h2 _ (show ∀ a' w', _ → _ → _ from fun a' w' h1 h2 => ⟨h1, h2⟩))
theorem wpL_three17 {P : Program} {ops : Array Oper} {Q : Exit → Act → World → Prop} {S : World → Prop} {m : Nat} (i j l : Nat) {oi oj ol : Oper} {fuel : Nat} {listed : Array Bool} {a : Act} {w : World} (hi : nthO ops.toList i = some oi) (hj : nthO ops.toList j = some oj) (hl : nthO ops.toList l = some ol) (hr : Region.ready .any ops listed = [i, j, l]) (hwi : Region.wanted oi (yielded ops a.tmps) = true) (hwj : Region.wanted oj (yielded ops a.tmps) = true) (hwl : Region.wanted ol (yielded ops a.tmps) = true)
    (h1 : ∀ K : Act → World → Prop, Hid (∀ a' w', (i ≠ m → S w') → wpL P ops Q S m fuel (listed.setIfInBounds i true) a' w' → K a' w') → oi.wp P a w K Q)
    (h2 : ∀ K : Act → World → Prop, Hid (∀ a' w', (j ≠ m → S w') → wpL P ops Q S m fuel (listed.setIfInBounds j true) a' w' → K a' w') → oj.wp P a w K Q)
    (h3 : ∀ K : Act → World → Prop, Hid (∀ a' w', (l ≠ m → S w') → wpL P ops Q S m fuel (listed.setIfInBounds l true) a' w' → K a' w') → ol.wp P a w K Q) : wpL P ops Q S m (fuel + 1) listed a w := by
  refine ⟨fun h0 => (by rw [hr] at h0; cases h0), fun k hk => ?_⟩
  rw [hr] at hk
  rcases List.mem_cons.1 hk with e | hk
  · subst e
    unfold wpOp
    simp only [nthO_at hi, hwi, if_true]
    exact .inl (h1 _ (show ∀ a' w', _ → _ → _ from fun a' w' h1 h2 => ⟨h1, h2⟩))
  · rcases List.mem_cons.1 hk with e | hk
    · subst e
      unfold wpOp
      simp only [nthO_at hj, hwj, if_true]
      exact .inl (h2 _ (show ∀ a' w', _ → _ → _ from fun a' w' h1 h2 => ⟨h1, h2⟩))
    · have e : k = l := by simpa using hk
      subst e
      unfold wpOp
      simp only [nthO_at hl, hwl, if_true]
      exact .inl (h3 _ (show ∀ a' w', _ → _ → _ from fun a' w' h1 h2 => ⟨h1, h2⟩))
theorem mg_end {w w7 wz wN we : World} {a b g : Ft} {y0 y1 y2 : Value} (hc : chkM a b = 0) (hO : OwnP wN wz.heap.size y0 g.P ∧ OwnS wN wz.heap.size y1 g.S ∧ OwnP wN wz.heap.size y2 g.W ∧ NrmF (a.bth b) g) (hF : Frm wN we (fun k => k = w.heap.size + 1 + 1)) (hz : w7.heap.size ≤ wz.heap.size) (hb7 : Below w.heap.size w w7) (hbN : Below w7.heap.size w7 wN) (h7 : w.heap.size + 1 + 1 < w7.heap.size) :
    ∃ x0 x1 x2 g, Ending.returned (.tuple #[.agg #[y0, y1, y2], .int .i64 0]) = .returned (.tuple #[.agg #[x0, x1, x2], .int .i64 (chkM a b)]) ∧ OwnP we w.heap.size x0 g.P ∧ OwnS we w.heap.size x1 g.S ∧ OwnP we w.heap.size x2 g.W ∧ MrO a b g ∧ Below w.heap.size w we := by
  obtain ⟨h0, h1, h2, hN⟩ := hO
  have h8 : Below w.heap.size w wN := hb7.trans (hbN.mono hb7.size)
  exact ⟨y0, y1, y2, g, by rw [hc], (h0.frm hF (fun b9 hb9 hk => by omega)).mono (by omega), (h1.frm hF (fun b9 hb9 hk => by omega)).mono (by omega), (h2.frm hF (fun b9 hb9 hk => by omega)).mono (by omega), .inr ⟨hc, hN⟩, h8.trans (hF.below (Nat.le_trans hb7.size hbN.size) (fun k hk => by omega))⟩

set_option maxHeartbeats 40000000 in
theorem merge_any (a b : Ft) (va0 va1 va2 vb0 vb1 vb2 : Value) (w : World) (ha : RdF w va0 va1 va2 a) (hb : RdF w vb0 vb1 vb2 b) :
    Calls Try.prog 18 #[.agg #[va0, va1, va2], .agg #[vb0, vb1, vb2]] w fun e w' => ∃ x0 x1 x2 g, e = .returned (.tuple #[.agg #[x0, x1, x2], .int .i64 (chkM a b)]) ∧ OwnP w' w.heap.size x0 g.P ∧ OwnS w' w.heap.size x1 g.S ∧ OwnP w' w.heap.size x2 g.W ∧ MrO a b g ∧ Below w.heap.size w w' := by
  obtain ⟨pa0, na0, ca0, eva0, ena0⟩ : ∃ p n c, va0 = .slice p n c ∧ n = a.P.length := by
    obtain ⟨p, c, e, _⟩ := ha.p.f
    exact ⟨_, _, _, e, rfl⟩
  obtain ⟨pa1, na1, ca1, eva1, ena1⟩ : ∃ p n c, va1 = .slice p n c ∧ n = a.S.length := by
    obtain ⟨p, c, e, _⟩ := ha.s.f
    exact ⟨_, _, _, e, rfl⟩
  obtain ⟨pa2, na2, ca2, eva2, ena2⟩ : ∃ p n c, va2 = .slice p n c ∧ n = a.W.length := by
    obtain ⟨p, c, e, _⟩ := ha.w.f
    exact ⟨_, _, _, e, rfl⟩
  obtain ⟨pb0, nb0, cb0, evb0, enb0⟩ : ∃ p n c, vb0 = .slice p n c ∧ n = b.P.length := by
    obtain ⟨p, c, e, _⟩ := hb.p.f
    exact ⟨_, _, _, e, rfl⟩
  obtain ⟨pb1, nb1, cb1, evb1, enb1⟩ : ∃ p n c, vb1 = .slice p n c ∧ n = b.S.length := by
    obtain ⟨p, c, e, _⟩ := hb.s.f
    exact ⟨_, _, _, e, rfl⟩
  obtain ⟨pb2, nb2, cb2, evb2, enb2⟩ : ∃ p n c, vb2 = .slice p n c ∧ n = b.W.length := by
    obtain ⟨p, c, e, _⟩ := hb.w.f
    exact ⟨_, _, _, e, rfl⟩
  subst eva0 eva1 eva2 evb0 evb1 evb2
  have HEn : Hid (na0 = a.P.length ∧ na1 = a.S.length ∧ na2 = a.W.length ∧ nb0 = b.P.length ∧ nb1 = b.S.length ∧ nb2 = b.W.length) := ⟨ena0, ena1, ena2, enb0, enb1, enb2⟩
  clear ena0 ena1 ena2 enb0 enb1 enb2
  obtain ⟨w3, hw3⟩ : ∃ w3, (((w.alloc (.cells #[.slice pa0 na0 ca0, .slice pa1 na1 ca1, .slice pa2 na2 ca2] 25)).alloc (.cells #[.slice pb0 nb0 cb0, .slice pb1 nb1 cb1, .slice pb2 nb2 cb2] 25)).alloc (.cells #[.slice none 0 0, .slice none 0 0, .slice none 0 0] 25)) = w3 := ⟨_, rfl⟩
  have hz3 : w3.heap.size = w.heap.size + 1 + 1 + 1 := by rw [← hw3]; simp
  have HB3 : Hid (Below w.heap.size w w3) := by rw [← hw3]; exact (((Below.refl _ _).alloc (Nat.le_refl _) _).alloc (by simp) _).alloc (by simp; omega) _
  have HKA : Hid (Blk w3 w.heap.size #[.slice pa0 na0 ca0, .slice pa1 na1 ca1, .slice pa2 na2 ca2] 25) := by rw [← hw3]; exact (Blk.new w #[.slice pa0 na0 ca0, .slice pa1 na1 ca1, .slice pa2 na2 ca2] 25).keep (B := w.heap.size + 1) (((Below.refl _ _).alloc (by simp) _).alloc (by simp) _) (by omega)
  have HKB : Hid (Blk w3 (w.heap.size + 1) #[.slice pb0 nb0 cb0, .slice pb1 nb1 cb1, .slice pb2 nb2 cb2] 25) := by
    rw [← hw3]
    have h := Blk.new (w.alloc (.cells #[.slice pa0 na0 ca0, .slice pa1 na1 ca1, .slice pa2 na2 ca2] 25)) #[.slice pb0 nb0 cb0, .slice pb1 nb1 cb1, .slice pb2 nb2 cb2] 25
    rw [World.size_alloc] at h
    exact h.keep (B := w.heap.size + 1 + 1) ((Below.refl _ _).alloc (by simp) _) (by omega)
  have HKR : Hid (Blk w3 (w.heap.size + 1 + 1) #[.slice none 0 0, .slice none 0 0, .slice none 0 0] 25) := by
    rw [← hw3]
    have h := Blk.new ((w.alloc (.cells #[.slice pa0 na0 ca0, .slice pa1 na1 ca1, .slice pa2 na2 ca2] 25)).alloc (.cells #[.slice pb0 nb0 cb0, .slice pb1 nb1 cb1, .slice pb2 nb2 cb2] 25)) #[.slice none 0 0, .slice none 0 0, .slice none 0 0] 25
    rw [World.size_alloc, World.size_alloc] at h
    exact h
  have HA : Hid (RdF w _ _ _ a) := ha
  have HBb : Hid (RdF w _ _ _ b) := hb
  have C1 : Hid (Calls _ _ _ _ _) := check_any a _ _ _ w3 (ha.on HB3.out)
  have g0 := HKA.out.cell (i := 0) rfl
  have g1 := HKA.out.cell (i := 1) rfl
  have g2 := HKA.out.cell (i := 2) rfl
  have g3 := HKB.out.cell (i := 0) rfl
  have g4 := HKB.out.cell (i := 1) rfl
  have g5 := HKB.out.cell (i := 2) rfl
  clear ha hb
  go_enter Try.func18, Try.ntmps18
  go_wp2_with fail
  refine C1.out.mono ?_
  rintro e w4 ⟨rfl, hb4⟩
  clear C1 hw3 g0 g1 g2 g3 g4 g5
  have HB34 : Hid (Below w3.heap.size w3 w4) := hb4
  have HB4 : Hid (Below w.heap.size w w4) := HB3.out.trans (hb4.mono HB3.out.size)
  have HRes : Hid (Blk w4 (w.heap.size + 1 + 1) #[.slice none 0 0, .slice none 0 0, .slice none 0 0] 25) := HKR.out.on hb4
  have HKA4 : Hid (Blk w4 w.heap.size #[.slice pa0 na0 ca0, .slice pa1 na1 ca1, .slice pa2 na2 ca2] 25) := HKA.out.on hb4
  have HKB4 : Hid (Blk w4 (w.heap.size + 1) #[.slice pb0 nb0 cb0, .slice pb1 nb1 cb1, .slice pb2 nb2 cb2] 25) := HKB.out.on hb4
  have hz4 := hb4.size
  clear hb4
  by_cases hca : chkF a = 0
  · rw [hca]
    have C2 : Hid (Calls _ _ _ _ _) := check_any b _ _ _ w4 (HBb.out.on HB4.out)
    have g0 := HKA4.out.cell (i := 0) rfl
    have g1 := HKA4.out.cell (i := 1) rfl
    have g2 := HKA4.out.cell (i := 2) rfl
    have g3 := HKB4.out.cell (i := 0) rfl
    have g4 := HKB4.out.cell (i := 1) rfl
    have g5 := HKB4.out.cell (i := 2) rfl
    go_wp2_with fail
    refine C2.out.mono ?_
    rintro e w5 ⟨rfl, hb5⟩
    clear C2 g0 g1 g2 g3 g4 g5
    have HB5 : Hid (Below w.heap.size w w5) := HB4.out.trans (hb5.mono HB4.out.size)
    have HRes5 : Hid (Blk w5 (w.heap.size + 1 + 1) #[.slice none 0 0, .slice none 0 0, .slice none 0 0] 25) := HRes.out.on hb5
    have HKA5 : Hid (Blk w5 w.heap.size #[.slice pa0 na0 ca0, .slice pa1 na1 ca1, .slice pa2 na2 ca2] 25) := HKA4.out.on hb5
    have HKB5 : Hid (Blk w5 (w.heap.size + 1) #[.slice pb0 nb0 cb0, .slice pb1 nb1 cb1, .slice pb2 nb2 cb2] 25) := HKB4.out.on hb5
    have hz5 := hb5.size
    clear hb5 HRes HKA4 HKB4
    have HRes : Hid (Blk w5 (w.heap.size + 1 + 1) #[.slice none 0 0, .slice none 0 0, .slice none 0 0] 25) := HRes5.out
    clear HRes5
    by_cases hcb : chkF b = 0
    · rw [hcb]
      have HLa : Hid (a.P.length ≤ 65536 ∧ a.S.length ≤ 65536 ∧ a.W.length ≤ 65536) := chk_size17 hca
      have HLb : Hid (b.P.length ≤ 65536 ∧ b.S.length ≤ 65536 ∧ b.W.length ≤ 65536) := chk_size17 hcb
      have hsa : a.size ≤ 65536 := chk_sz hca
      have hsb : b.size ≤ 65536 := chk_sz hcb
      have CSa : Hid (∀ w1 : World, Calls Try.prog 39 #[.agg #[.slice pa0 na0 ca0, .slice pa1 na1 ca1, .slice pa2 na2 ca2]] w1 fun e w' => e = .returned (.int .i64 (a.size : Int)) ∧ Below w1.heap.size w1 w') := fun w1 => by rw [HEn.out.1, HEn.out.2.1, HEn.out.2.2.1]; exact psize_any a _ _ _ _ _ _ w1 HA.out.lp HA.out.ls HA.out.lw
      have CSb : Hid (∀ w1 : World, Calls Try.prog 39 #[.agg #[.slice pb0 nb0 cb0, .slice pb1 nb1 cb1, .slice pb2 nb2 cb2]] w1 fun e w' => e = .returned (.int .i64 (b.size : Int)) ∧ Below w1.heap.size w1 w') := fun w1 => by rw [HEn.out.2.2.2.1, HEn.out.2.2.2.2.1, HEn.out.2.2.2.2.2]; exact psize_any b _ _ _ _ _ _ w1 HBb.out.lp HBb.out.ls HBb.out.lw
      have g0 := InB.cell (w := w5) (HKA5.out.cell (i := 0) rfl) HKA5.out.lt
      have g1 := InB.cell (w := w5) (HKA5.out.cell (i := 1) rfl) HKA5.out.lt
      have g2 := InB.cell (w := w5) (HKA5.out.cell (i := 2) rfl) HKA5.out.lt
      have g3 := InB.cell (w := w5) (HKB5.out.cell (i := 0) rfl) HKB5.out.lt
      have g4 := InB.cell (w := w5) (HKB5.out.cell (i := 1) rfl) HKB5.out.lt
      have g5 := InB.cell (w := w5) (HKB5.out.cell (i := 2) rfl) HKB5.out.lt
      have ne1 := inB_ne w5
      have HCM : Hid (chkM a b = if 65536 < a.size + b.size then 2 else 0) := by
        refine (show _ = _ from ?_)
        unfold chkM
        rw [if_neg (by simpa using hca), if_neg (by simpa using hcb)]
      have HSz : Hid (a.size + b.size = (a.bth b).size) := by
        refine (show _ = _ from ?_)
        unfold Ft.size Ft.bth
        simp only [List.length_append]
        omega
      generalize a.size = sa at *
      generalize b.size = sb at *
      by_cases hsz : 65536 < sa + sb
      · have gl : decide (((sa : Int) + (sb : Int)) > 65536) = true := by simp; omega
        go_wp2_with fail
        refine wp_region_inB (by kernel_rfl) (by kernel_rfl) ?_
        go_big_quiet_step (first | (go_at_call 39; exact Calls.inB (CSa.out _)))
        go_big_quiet_step (first | (go_at_call 39; exact Calls.inB (CSa.out _)))
        repeat (go_big_quiet_step (first | (go_at_call 39; exact Calls.inB (CSb.out _))))
        refine wpQuiet_nil ?_
        rintro w6 ⟨⟨w9, hb6⟩, h9⟩
        obtain rfl : w6 = w9 := h9
        clear g0 g1 g2 g3 g4 g5 ne1 CSa CSb
        have HB6 : Hid (Below w.heap.size w w6) := HB5.out.trans (hb6.mono HB5.out.size)
        have HRes6 : Hid (Blk w6 (w.heap.size + 1 + 1) #[.slice none 0 0, .slice none 0 0, .slice none 0 0] 25) := HRes.out.on hb6
        have HKA6 : Hid (Blk w6 w.heap.size #[.slice pa0 na0 ca0, .slice pa1 na1 ca1, .slice pa2 na2 ca2] 25) := HKA5.out.on hb6
        have HKB6 : Hid (Blk w6 (w.heap.size + 1) #[.slice pb0 nb0 cb0, .slice pb1 nb1 cb1, .slice pb2 nb2 cb2] 25) := HKB5.out.on hb6
        have hz6 := hb6.size
        clear hb6 HRes HKA5 HKB5
        have HRes : Hid (Blk w6 (w.heap.size + 1 + 1) #[.slice none 0 0, .slice none 0 0, .slice none 0 0] 25) := HRes6.out
        clear HRes6
        obtain ⟨we, hwe⟩ : ∃ we, (((w6.setCell ⟨w.heap.size + 1 + 1, 0, none⟩ (.slice none 0 0)).setCell ⟨w.heap.size + 1 + 1, 1, none⟩ (.slice none 0 0)).setCell ⟨w.heap.size + 1 + 1, 2, none⟩ (.slice none 0 0)) = we := ⟨_, rfl⟩
        have HF : Hid (Frm w6 we (fun k => k = w.heap.size + 1 + 1)) := by rw [← hwe]; exact ((frm_set _ _ _ _ (F := fun k => k = w.heap.size + 1 + 1) (.inl rfl)).trans (frm_set _ _ _ _ (F := fun k => k = w.heap.size + 1 + 1) (.inl rfl)) (fun k hk => .inl hk)).trans (frm_set _ _ _ _ (F := fun k => k = w.heap.size + 1 + 1) (.inl rfl)) (fun k hk => .inl hk)
        have HR : Hid (Blk we (w.heap.size + 1 + 1) #[.slice none 0 0, .slice none 0 0, .slice none 0 0] 25) := by rw [← hwe]; exact ((HRes.out.set 0 _).set 1 _).set 2 _
        have c0 := HRes.out.cell (i := 0) rfl
        have c1 := HRes.out.cell (i := 1) rfl
        have c2 := HRes.out.cell (i := 2) rfl
        have f0 := HRes.out.frozen 0
        have f1 := HRes.out.frozen 1
        have f2 := HRes.out.frozen 2
        have r0 := HR.out.cell (i := 0) rfl
        have r1 := HR.out.cell (i := 1) rfl
        have r2 := HR.out.cell (i := 2) rfl
        go_wp2_with fail
        refine bodyPost_ret (v := .tuple #[.agg #[.slice none 0 0, .slice none 0 0, .slice none 0 0], .int .i64 (2)]) (by simp [results, Try.results18, go_sem, r0, r1, r2]) rfl ?_
        obtain ⟨e9, n9⟩ : chkM a b = 2 ∧ chkM a b ≠ 0 := ⟨by rw [HCM.out, if_pos hsz], by rw [HCM.out, if_pos hsz]; decide⟩
        exact ⟨_, _, _, ⟨[], [], []⟩, by rw [e9], OwnP.nil _ _, OwnS.nil _ _, OwnP.nil _ _, .inl ⟨n9, rfl⟩, HB6.out.trans (HF.out.below HB6.out.size (fun k hk => by omega))⟩
      · have gl : decide (((sa : Int) + (sb : Int)) > 65536) = false := by simp; omega
        go_wp2_with fail
        refine wp_region_inB (by kernel_rfl) (by kernel_rfl) ?_
        go_big_quiet_step (first | (go_at_call 39; exact Calls.inB (CSa.out _)))
        go_big_quiet_step (first | (go_at_call 39; exact Calls.inB (CSa.out _)))
        repeat (go_big_quiet_step (first | (go_at_call 39; exact Calls.inB (CSb.out _))))
        refine wpQuiet_nil ?_
        rintro w6 ⟨⟨w9, hb6⟩, h9⟩
        obtain rfl : w6 = w9 := h9
        clear g0 g1 g2 g3 g4 g5 ne1 CSa CSb
        have HB6 : Hid (Below w.heap.size w w6) := HB5.out.trans (hb6.mono HB5.out.size)
        have HRes6 : Hid (Blk w6 (w.heap.size + 1 + 1) #[.slice none 0 0, .slice none 0 0, .slice none 0 0] 25) := HRes.out.on hb6
        have HKA6 : Hid (Blk w6 w.heap.size #[.slice pa0 na0 ca0, .slice pa1 na1 ca1, .slice pa2 na2 ca2] 25) := HKA5.out.on hb6
        have HKB6 : Hid (Blk w6 (w.heap.size + 1) #[.slice pb0 nb0 cb0, .slice pb1 nb1 cb1, .slice pb2 nb2 cb2] 25) := HKB5.out.on hb6
        have hz6 := hb6.size
        clear hb6 HRes HKA5 HKB5
        have HRes : Hid (Blk w6 (w.heap.size + 1 + 1) #[.slice none 0 0, .slice none 0 0, .slice none 0 0] 25) := HRes6.out
        clear HRes6
        rw [if_neg hsz] at HCM
        have HLs : Hid ((a.bth b).S.length ≤ 65536) := by
          refine (show _ ≤ _ from ?_)
          have h1 := HSz.out
          unfold Ft.size at h1
          omega
        go_wp2_with fail
        refine wp_region_L (fun w' => Blk w' w.heap.size #[.slice pa0 na0 ca0, .slice pa1 na1 ca1, .slice pa2 na2 ca2] 25 ∧ Blk w' (w.heap.size + 1) #[.slice pb0 nb0 cb0, .slice pb1 nb1 cb1, .slice pb2 nb2 cb2] 25) 20 (by kernel_rfl) ?_
        have hdr : Below w6.heap.size w6 w6.drew := (Below.refl _ _).drew
        have HBw7 : Hid (Below w.heap.size w w6.drew) := HB6.out.trans (hdr.mono HB6.out.size)
        have HRes7 : Hid (Blk w6.drew (w.heap.size + 1 + 1) #[.slice none 0 0, .slice none 0 0, .slice none 0 0] 25) := HRes.out.on hdr
        have HBwd : Hid (Below w6.drew.heap.size w6.drew w6.drew ∧ (Blk w6.drew w.heap.size #[.slice pa0 na0 ca0, .slice pa1 na1 ca1, .slice pa2 na2 ca2] 25 ∧ Blk w6.drew (w.heap.size + 1) #[.slice pb0 nb0 cb0, .slice pb1 nb1 cb1, .slice pb2 nb2 cb2] 25)) := ⟨Below.refl _ _, HKA6.out.on hdr, HKB6.out.on hdr⟩
        have hz7 : w.heap.size + 1 + 1 < w6.drew.heap.size := HRes7.out.lt
        have HRa : Hid (RdF w6.drew _ _ _ a) := HA.out.on HBw7.out
        have HRb : Hid (RdF w6.drew _ _ _ b) := HBb.out.on HBw7.out
        clear hdr HRes HKA6 HKB6 HB6 HB5 HB4 HB34 HB3 HKA HKB HKR HA HBb hca hcb hsz gl
        generalize w6.drew = w7 at *
        have HRes : Hid (Blk w7 (w.heap.size + 1 + 1) #[.slice none 0 0, .slice none 0 0, .slice none 0 0] 25) := HRes7.out
        have HSN : Hid (Blk w7 w.heap.size #[.slice pa0 na0 ca0, .slice pa1 na1 ca1, .slice pa2 na2 ca2] 25 ∧ Blk w7 (w.heap.size + 1) #[.slice pb0 nb0 cb0, .slice pb1 nb1 cb1, .slice pb2 nb2 cb2] 25) := HBwd.out.2
        clear HRes7
        refine wpL_take (v := ?_) 0 rfl (by kernel_rfl) (fun _ _ _ h => h) (by rfl) ?_ HSN.out ?_
        rotate_left
        focus
          intro w9 hw9
          have k0 := Blk.cell hw9.1 (i := 0) rfl
          have k1 := Blk.cell hw9.1 (i := 1) rfl
          have k2 := Blk.cell hw9.1 (i := 2) rfl
          have k3 := Blk.cell hw9.2 (i := 0) rfl
          have k4 := Blk.cell hw9.2 (i := 1) rfl
          have k5 := Blk.cell hw9.2 (i := 2) rfl
          go_simp
          try with_reducible rfl
        try simp only [Act.put, List.setIfInBounds_toArray, List.set_cons_zero, List.set_cons_succ]
        refine wpL_take (v := ?_) 1 rfl (by kernel_rfl) (fun _ _ _ h => h) (by rfl) ?_ HSN.out ?_
        rotate_left
        focus
          intro w9 hw9
          have k0 := Blk.cell hw9.1 (i := 0) rfl
          have k1 := Blk.cell hw9.1 (i := 1) rfl
          have k2 := Blk.cell hw9.1 (i := 2) rfl
          have k3 := Blk.cell hw9.2 (i := 0) rfl
          have k4 := Blk.cell hw9.2 (i := 1) rfl
          have k5 := Blk.cell hw9.2 (i := 2) rfl
          go_simp
          try with_reducible rfl
        try simp only [Act.put, List.setIfInBounds_toArray, List.set_cons_zero, List.set_cons_succ]
        refine wpL_take (v := ?_) 2 rfl (by kernel_rfl) (fun _ _ _ h => h) (by rfl) ?_ HSN.out ?_
        rotate_left
        focus
          intro w9 hw9
          have k0 := Blk.cell hw9.1 (i := 0) rfl
          have k1 := Blk.cell hw9.1 (i := 1) rfl
          have k2 := Blk.cell hw9.1 (i := 2) rfl
          have k3 := Blk.cell hw9.2 (i := 0) rfl
          have k4 := Blk.cell hw9.2 (i := 1) rfl
          have k5 := Blk.cell hw9.2 (i := 2) rfl
          go_simp
          try with_reducible rfl
        try simp only [Act.put, List.setIfInBounds_toArray, List.set_cons_zero, List.set_cons_succ]
        refine wpL_take (v := ?_) 3 rfl (by kernel_rfl) (fun _ _ _ h => h) (by rfl) ?_ HSN.out ?_
        rotate_left
        focus
          intro w9 hw9
          have k0 := Blk.cell hw9.1 (i := 0) rfl
          have k1 := Blk.cell hw9.1 (i := 1) rfl
          have k2 := Blk.cell hw9.1 (i := 2) rfl
          have k3 := Blk.cell hw9.2 (i := 0) rfl
          have k4 := Blk.cell hw9.2 (i := 1) rfl
          have k5 := Blk.cell hw9.2 (i := 2) rfl
          go_simp
          try with_reducible rfl
        try simp only [Act.put, List.setIfInBounds_toArray, List.set_cons_zero, List.set_cons_succ]
        refine wpL_take (v := ?_) 6 rfl (by kernel_rfl) (fun _ _ _ h => h) (by rfl) ?_ HSN.out ?_
        rotate_left
        focus
          intro w9 hw9
          have k0 := Blk.cell hw9.1 (i := 0) rfl
          have k1 := Blk.cell hw9.1 (i := 1) rfl
          have k2 := Blk.cell hw9.1 (i := 2) rfl
          have k3 := Blk.cell hw9.2 (i := 0) rfl
          have k4 := Blk.cell hw9.2 (i := 1) rfl
          have k5 := Blk.cell hw9.2 (i := 2) rfl
          go_simp
          try with_reducible rfl
        try simp only [Act.put, List.setIfInBounds_toArray, List.set_cons_zero, List.set_cons_succ]
        refine wpL_take (v := ?_) 7 rfl (by kernel_rfl) (fun _ _ _ h => h) (by rfl) ?_ HSN.out ?_
        rotate_left
        focus
          intro w9 hw9
          have k0 := Blk.cell hw9.1 (i := 0) rfl
          have k1 := Blk.cell hw9.1 (i := 1) rfl
          have k2 := Blk.cell hw9.1 (i := 2) rfl
          have k3 := Blk.cell hw9.2 (i := 0) rfl
          have k4 := Blk.cell hw9.2 (i := 1) rfl
          have k5 := Blk.cell hw9.2 (i := 2) rfl
          go_simp
          try with_reducible rfl
        try simp only [Act.put, List.setIfInBounds_toArray, List.set_cons_zero, List.set_cons_succ]
        refine wpL_take (v := ?_) 8 rfl (by kernel_rfl) (fun _ _ _ h => h) (by rfl) ?_ HSN.out ?_
        rotate_left
        focus
          intro w9 hw9
          have k0 := Blk.cell hw9.1 (i := 0) rfl
          have k1 := Blk.cell hw9.1 (i := 1) rfl
          have k2 := Blk.cell hw9.1 (i := 2) rfl
          have k3 := Blk.cell hw9.2 (i := 0) rfl
          have k4 := Blk.cell hw9.2 (i := 1) rfl
          have k5 := Blk.cell hw9.2 (i := 2) rfl
          go_simp
          try with_reducible rfl
        try simp only [Act.put, List.setIfInBounds_toArray, List.set_cons_zero, List.set_cons_succ]
        refine wpL_take (v := ?_) 9 rfl (by kernel_rfl) (fun _ _ _ h => h) (by rfl) ?_ HSN.out ?_
        rotate_left
        focus
          intro w9 hw9
          have k0 := Blk.cell hw9.1 (i := 0) rfl
          have k1 := Blk.cell hw9.1 (i := 1) rfl
          have k2 := Blk.cell hw9.1 (i := 2) rfl
          have k3 := Blk.cell hw9.2 (i := 0) rfl
          have k4 := Blk.cell hw9.2 (i := 1) rfl
          have k5 := Blk.cell hw9.2 (i := 2) rfl
          go_simp
          try with_reducible rfl
        try simp only [Act.put, List.setIfInBounds_toArray, List.set_cons_zero, List.set_cons_succ]
        refine wpL_take (v := ?_) 12 rfl (by kernel_rfl) (fun _ _ _ h => h) (by rfl) ?_ HSN.out ?_
        rotate_left
        focus
          intro w9 hw9
          have k0 := Blk.cell hw9.1 (i := 0) rfl
          have k1 := Blk.cell hw9.1 (i := 1) rfl
          have k2 := Blk.cell hw9.1 (i := 2) rfl
          have k3 := Blk.cell hw9.2 (i := 0) rfl
          have k4 := Blk.cell hw9.2 (i := 1) rfl
          have k5 := Blk.cell hw9.2 (i := 2) rfl
          go_simp
          try with_reducible rfl
        try simp only [Act.put, List.setIfInBounds_toArray, List.set_cons_zero, List.set_cons_succ]
        refine wpL_take (v := ?_) 13 rfl (by kernel_rfl) (fun _ _ _ h => h) (by rfl) ?_ HSN.out ?_
        rotate_left
        focus
          intro w9 hw9
          have k0 := Blk.cell hw9.1 (i := 0) rfl
          have k1 := Blk.cell hw9.1 (i := 1) rfl
          have k2 := Blk.cell hw9.1 (i := 2) rfl
          have k3 := Blk.cell hw9.2 (i := 0) rfl
          have k4 := Blk.cell hw9.2 (i := 1) rfl
          have k5 := Blk.cell hw9.2 (i := 2) rfl
          go_simp
          try with_reducible rfl
        try simp only [Act.put, List.setIfInBounds_toArray, List.set_cons_zero, List.set_cons_succ]
        refine wpL_take (v := ?_) 14 rfl (by kernel_rfl) (fun _ _ _ h => h) (by rfl) ?_ HSN.out ?_
        rotate_left
        focus
          intro w9 hw9
          have k0 := Blk.cell hw9.1 (i := 0) rfl
          have k1 := Blk.cell hw9.1 (i := 1) rfl
          have k2 := Blk.cell hw9.1 (i := 2) rfl
          have k3 := Blk.cell hw9.2 (i := 0) rfl
          have k4 := Blk.cell hw9.2 (i := 1) rfl
          have k5 := Blk.cell hw9.2 (i := 2) rfl
          go_simp
          try with_reducible rfl
        try simp only [Act.put, List.setIfInBounds_toArray, List.set_cons_zero, List.set_cons_succ]
        refine wpL_take (v := ?_) 15 rfl (by kernel_rfl) (fun _ _ _ h => h) (by rfl) ?_ HSN.out ?_
        rotate_left
        focus
          intro w9 hw9
          have k0 := Blk.cell hw9.1 (i := 0) rfl
          have k1 := Blk.cell hw9.1 (i := 1) rfl
          have k2 := Blk.cell hw9.1 (i := 2) rfl
          have k3 := Blk.cell hw9.2 (i := 0) rfl
          have k4 := Blk.cell hw9.2 (i := 1) rfl
          have k5 := Blk.cell hw9.2 (i := 2) rfl
          go_simp
          try with_reducible rfl
        try simp only [Act.put, List.setIfInBounds_toArray, List.set_cons_zero, List.set_cons_succ]
        clear HSN
        refine wpL_three17 4 10 16 rfl rfl rfl (by kernel_rfl) (by rfl) (by rfl) (by rfl) ?_ ?_ ?_
        · intro K hK
          go_simp
          have hbz1 : Below w7.heap.size w7 (w7.alloc (.cells #[.slice pa0 na0 ca0, .slice pb0 nb0 cb0] 22)) := (Below.refl _ _).alloc (Nat.le_refl _) _
          have hkz1 : Blk (w7.alloc (.cells #[.slice pa0 na0 ca0, .slice pb0 nb0 cb0] 22)) w7.heap.size #[.slice pa0 na0 ca0, .slice pb0 nb0 cb0] 22 := Blk.new w7 _ _
          generalize (w7.alloc (.cells #[.slice pa0 na0 ca0, .slice pb0 nb0 cb0] 22)) = z1 at *
          have HBz1 : Hid (Below w7.heap.size w7 z1 ∧ (Blk z1 w.heap.size #[.slice pa0 na0 ca0, .slice pa1 na1 ca1, .slice pa2 na2 ca2] 25 ∧ Blk z1 (w.heap.size + 1) #[.slice pb0 nb0 cb0, .slice pb1 nb1 cb1, .slice pb2 nb2 cb2] 25)) := ⟨HBwd.out.1.trans ((hbz1).mono HBwd.out.1.size), HBwd.out.2.1.on (hbz1), HBwd.out.2.2.on (hbz1)⟩
          clear HBwd
          have B0z1 : Hid (Blk z1 w7.heap.size #[.slice pa0 na0 ca0, .slice pb0 nb0 cb0] 22) := hkz1
          clear hbz1 hkz1
          refine hK.out _ _ (fun _ => HBz1.out.2) ?_
          clear hK K
          try simp only [Act.put, List.setIfInBounds_toArray, List.set_cons_zero, List.set_cons_succ]
          refine wpL_three17 5 10 16 rfl rfl rfl (by kernel_rfl) (by rfl) (by rfl) (by rfl) ?_ ?_ ?_
          · intro K hK
            go_simp
            have Cz2 : Hid (Calls Try.prog 40 #[.slice (some ⟨w7.heap.size, 0, none⟩) 2 2] z1 fun e w' => (∃ v, e = .returned v ∧ OwnP w' z1.heap.size v [a.P, b.P].flatten) ∧ Below z1.heap.size z1 w') := concatP_any [a.P, b.P] (w7.heap.size) z1 B0z1.out.lt (pair17 B0z1.out (HRa.out.p.on HBz1.out.1) (HRb.out.p.on HBz1.out.1)) (by simp) (len17 HLa.out.1 HLb.out.1)
            refine Cz2.out.mono ?_
            rintro e z2 ⟨⟨x0z2, rfl, hoz2⟩, hbz2⟩
            dsimp only
            have HZz2 : Hid (w7.heap.size ≤ z1.heap.size) := HBz1.out.1.size
            have HBz2 : Hid (Below w7.heap.size w7 z2 ∧ (Blk z2 w.heap.size #[.slice pa0 na0 ca0, .slice pa1 na1 ca1, .slice pa2 na2 ca2] 25 ∧ Blk z2 (w.heap.size + 1) #[.slice pb0 nb0 cb0, .slice pb1 nb1 cb1, .slice pb2 nb2 cb2] 25)) := ⟨HBz1.out.1.trans ((hbz2).mono HBz1.out.1.size), HBz1.out.2.1.on (hbz2), HBz1.out.2.2.on (hbz2)⟩
            clear HBz1
            have X0z2 : Hid (OwnP z2 w7.heap.size x0z2 (a.P ++ b.P)) := (show OwnP _ _ _ _ by have h := hoz2; rw [flat_two] at h; exact h.mono HZz2.out)
            clear Cz2 hoz2 hbz2 B0z1
            refine hK.out _ _ (fun _ => HBz2.out.2) ?_
            clear hK K
            try simp only [Act.put, List.setIfInBounds_toArray, List.set_cons_zero, List.set_cons_succ]
            refine wpL_two17 10 16 rfl rfl (by kernel_rfl) (by rfl) (by rfl) ?_ ?_
            · intro K hK
              go_simp
              have hbz3 : Below z2.heap.size z2 (z2.alloc (.cells #[.slice pa1 na1 ca1, .slice pb1 nb1 cb1] 23)) := (Below.refl _ _).alloc (Nat.le_refl _) _
              have hkz3 : Blk (z2.alloc (.cells #[.slice pa1 na1 ca1, .slice pb1 nb1 cb1] 23)) z2.heap.size #[.slice pa1 na1 ca1, .slice pb1 nb1 cb1] 23 := Blk.new z2 _ _
              generalize (z2.alloc (.cells #[.slice pa1 na1 ca1, .slice pb1 nb1 cb1] 23)) = z3 at *
              have HBz3 : Hid (Below w7.heap.size w7 z3 ∧ (Blk z3 w.heap.size #[.slice pa0 na0 ca0, .slice pa1 na1 ca1, .slice pa2 na2 ca2] 25 ∧ Blk z3 (w.heap.size + 1) #[.slice pb0 nb0 cb0, .slice pb1 nb1 cb1, .slice pb2 nb2 cb2] 25)) := ⟨HBz2.out.1.trans ((hbz3).mono HBz2.out.1.size), HBz2.out.2.1.on (hbz3), HBz2.out.2.2.on (hbz3)⟩
              have X0z3 : Hid (OwnP z3 w7.heap.size x0z2 (a.P ++ b.P)) := X0z2.out.kept (hbz3)
              clear HBz2 X0z2
              have B1z3 : Hid (Blk z3 z2.heap.size #[.slice pa1 na1 ca1, .slice pb1 nb1 cb1] 23) := hkz3
              clear hbz3 hkz3
              refine hK.out _ _ (fun _ => HBz3.out.2) ?_
              clear hK K
              try simp only [Act.put, List.setIfInBounds_toArray, List.set_cons_zero, List.set_cons_succ]
              refine wpL_two17 11 16 rfl rfl (by kernel_rfl) (by rfl) (by rfl) ?_ ?_
              · intro K hK
                go_simp
                have Cz4 : Hid (Calls Try.prog 41 #[.slice (some ⟨z2.heap.size, 0, none⟩) 2 2] z3 fun e w' => (∃ v, e = .returned v ∧ OwnS w' z3.heap.size v [a.S, b.S].flatten) ∧ Below z3.heap.size z3 w') := concatS_any [a.S, b.S] (z2.heap.size) z3 B1z3.out.lt (pair17 B1z3.out (HRa.out.s.on HBz3.out.1) (HRb.out.s.on HBz3.out.1)) (by simp) (len17 HLa.out.2.1 HLb.out.2.1)
                refine Cz4.out.mono ?_
                rintro e z4 ⟨⟨x1z4, rfl, hoz4⟩, hbz4⟩
                dsimp only
                have HZz4 : Hid (w7.heap.size ≤ z3.heap.size) := HBz3.out.1.size
                have HBz4 : Hid (Below w7.heap.size w7 z4 ∧ (Blk z4 w.heap.size #[.slice pa0 na0 ca0, .slice pa1 na1 ca1, .slice pa2 na2 ca2] 25 ∧ Blk z4 (w.heap.size + 1) #[.slice pb0 nb0 cb0, .slice pb1 nb1 cb1, .slice pb2 nb2 cb2] 25)) := ⟨HBz3.out.1.trans ((hbz4).mono HBz3.out.1.size), HBz3.out.2.1.on (hbz4), HBz3.out.2.2.on (hbz4)⟩
                have X0z4 : Hid (OwnP z4 w7.heap.size x0z2 (a.P ++ b.P)) := X0z3.out.kept (hbz4)
                clear HBz3 X0z3
                have X1z4 : Hid (OwnS z4 w7.heap.size x1z4 (a.S ++ b.S)) := (show OwnS _ _ _ _ by have h := hoz4; rw [flat_two] at h; exact h.mono HZz4.out)
                clear Cz4 hoz4 hbz4 B1z3
                refine hK.out _ _ (fun _ => HBz4.out.2) ?_
                clear hK K
                try simp only [Act.put, List.setIfInBounds_toArray, List.set_cons_zero, List.set_cons_succ]
                refine wpL_one 16 rfl (by kernel_rfl) (by rfl) ?_
                intro K hK
                go_simp
                have hbz5 : Below z4.heap.size z4 (z4.alloc (.cells #[.slice pa2 na2 ca2, .slice pb2 nb2 cb2] 22)) := (Below.refl _ _).alloc (Nat.le_refl _) _
                have hkz5 : Blk (z4.alloc (.cells #[.slice pa2 na2 ca2, .slice pb2 nb2 cb2] 22)) z4.heap.size #[.slice pa2 na2 ca2, .slice pb2 nb2 cb2] 22 := Blk.new z4 _ _
                generalize (z4.alloc (.cells #[.slice pa2 na2 ca2, .slice pb2 nb2 cb2] 22)) = z5 at *
                have HBz5 : Hid (Below w7.heap.size w7 z5 ∧ (Blk z5 w.heap.size #[.slice pa0 na0 ca0, .slice pa1 na1 ca1, .slice pa2 na2 ca2] 25 ∧ Blk z5 (w.heap.size + 1) #[.slice pb0 nb0 cb0, .slice pb1 nb1 cb1, .slice pb2 nb2 cb2] 25)) := ⟨HBz4.out.1.trans ((hbz5).mono HBz4.out.1.size), HBz4.out.2.1.on (hbz5), HBz4.out.2.2.on (hbz5)⟩
                have X0z5 : Hid (OwnP z5 w7.heap.size x0z2 (a.P ++ b.P)) := X0z4.out.kept (hbz5)
                have X1z5 : Hid (OwnS z5 w7.heap.size x1z4 (a.S ++ b.S)) := X1z4.out.kept (hbz5)
                clear HBz4 X0z4 X1z4
                have B2z5 : Hid (Blk z5 z4.heap.size #[.slice pa2 na2 ca2, .slice pb2 nb2 cb2] 22) := hkz5
                clear hbz5 hkz5
                refine hK.out _ _ (fun _ => HBz5.out.2) ?_
                clear hK K
                try simp only [Act.put, List.setIfInBounds_toArray, List.set_cons_zero, List.set_cons_succ]
                refine wpL_one 17 rfl (by kernel_rfl) (by rfl) ?_
                intro K hK
                go_simp
                have Cz6 : Hid (Calls Try.prog 40 #[.slice (some ⟨z4.heap.size, 0, none⟩) 2 2] z5 fun e w' => (∃ v, e = .returned v ∧ OwnP w' z5.heap.size v [a.W, b.W].flatten) ∧ Below z5.heap.size z5 w') := concatP_any [a.W, b.W] (z4.heap.size) z5 B2z5.out.lt (pair17 B2z5.out (HRa.out.w.on HBz5.out.1) (HRb.out.w.on HBz5.out.1)) (by simp) (len17 HLa.out.2.2 HLb.out.2.2)
                refine Cz6.out.mono ?_
                rintro e z6 ⟨⟨x2z6, rfl, hoz6⟩, hbz6⟩
                dsimp only
                have HZz6 : Hid (w7.heap.size ≤ z5.heap.size) := HBz5.out.1.size
                have HBz6 : Hid (Below w7.heap.size w7 z6 ∧ (Blk z6 w.heap.size #[.slice pa0 na0 ca0, .slice pa1 na1 ca1, .slice pa2 na2 ca2] 25 ∧ Blk z6 (w.heap.size + 1) #[.slice pb0 nb0 cb0, .slice pb1 nb1 cb1, .slice pb2 nb2 cb2] 25)) := ⟨HBz5.out.1.trans ((hbz6).mono HBz5.out.1.size), HBz5.out.2.1.on (hbz6), HBz5.out.2.2.on (hbz6)⟩
                have X0z6 : Hid (OwnP z6 w7.heap.size x0z2 (a.P ++ b.P)) := X0z5.out.kept (hbz6)
                have X1z6 : Hid (OwnS z6 w7.heap.size x1z4 (a.S ++ b.S)) := X1z5.out.kept (hbz6)
                clear HBz5 X0z5 X1z5
                have X2z6 : Hid (OwnP z6 w7.heap.size x2z6 (a.W ++ b.W)) := (show OwnP _ _ _ _ by have h := hoz6; rw [flat_two] at h; exact h.mono HZz6.out)
                clear Cz6 hoz6 hbz6 B2z5
                refine hK.out _ _ (fun _ => HBz6.out.2) ?_
                clear hK K
                try simp only [Act.put, List.setIfInBounds_toArray, List.set_cons_zero, List.set_cons_succ]
                obtain ⟨px0, nx0, cx0, ex0⟩ : ∃ p n c, x0z2 = .slice p n c := by
                  obtain ⟨p, c, e, _⟩ := X0z6.out.row
                  exact ⟨_, _, _, e⟩
                obtain ⟨px1, nx1, cx1, ex1⟩ : ∃ p n c, x1z4 = .slice p n c := by
                  obtain ⟨p, c, e, _⟩ := X1z6.out.row
                  exact ⟨_, _, _, e⟩
                obtain ⟨px2, nx2, cx2, ex2⟩ : ∃ p n c, x2z6 = .slice p n c := by
                  obtain ⟨p, c, e, _⟩ := X2z6.out.row
                  exact ⟨_, _, _, e⟩
                subst ex0 ex1 ex2
                have HRf : Hid (RdF z6 (.slice px0 nx0 cx0) (.slice px1 nx1 cx1) (.slice px2 nx2 cx2) (a.bth b)) := bth_rd X0z6.out X1z6.out X2z6.out HLa.out HLb.out
                have HSN : Hid (Blk z6 w.heap.size #[.slice pa0 na0 ca0, .slice pa1 na1 ca1, .slice pa2 na2 ca2] 25 ∧ Blk z6 (w.heap.size + 1) #[.slice pb0 nb0 cb0, .slice pb1 nb1 cb1, .slice pb2 nb2 cb2] 25) := HBz6.out.2
                refine wpL_take (v := ?_) 18 rfl (by kernel_rfl) (fun _ _ _ h => h) (by rfl) ?_ HSN.out ?_
                rotate_left
                focus
                  intro w9 hw9
                  have k0 := Blk.cell hw9.1 (i := 0) rfl
                  have k1 := Blk.cell hw9.1 (i := 1) rfl
                  have k2 := Blk.cell hw9.1 (i := 2) rfl
                  have k3 := Blk.cell hw9.2 (i := 0) rfl
                  have k4 := Blk.cell hw9.2 (i := 1) rfl
                  have k5 := Blk.cell hw9.2 (i := 2) rfl
                  go_simp
                  try with_reducible rfl
                try simp only [Act.put, List.setIfInBounds_toArray, List.set_cons_zero, List.set_cons_succ]
                refine wpL_one 19 rfl (by kernel_rfl) (by rfl) ?_
                intro K hK
                go_simp
                have CN : Hid (Calls _ _ _ _ _) := normal_any (a.bth b) (.slice px0 nx0 cx0) (.slice px1 nx1 cx1) (.slice px2 nx2 cx2) z6 HRf.out HLs.out
                refine CN.out.mono ?_
                rintro e wN ⟨y0, y1, y2, g, rfl, h0, h1, h2, hN, hbN⟩
                dsimp only
                refine hK.out _ _ (fun _ => ⟨HSN.out.1.on hbN, HSN.out.2.on hbN⟩) ?_
                clear hK K CN
                try simp only [Act.put, List.setIfInBounds_toArray, List.set_cons_zero, List.set_cons_succ]
                obtain ⟨q0, m0, d0, ey0⟩ : ∃ p n c, y0 = .slice p n c := by
                  obtain ⟨p, c, e, _⟩ := h0.row
                  exact ⟨_, _, _, e⟩
                obtain ⟨q1, m1, d1, ey1⟩ : ∃ p n c, y1 = .slice p n c := by
                  obtain ⟨p, c, e, _⟩ := h1.row
                  exact ⟨_, _, _, e⟩
                obtain ⟨q2, m2, d2, ey2⟩ : ∃ p n c, y2 = .slice p n c := by
                  obtain ⟨p, c, e, _⟩ := h2.row
                  exact ⟨_, _, _, e⟩
                subst ey0 ey1 ey2
                have HO : Hid (OwnP wN z6.heap.size (.slice q0 m0 d0) g.P ∧ OwnS wN z6.heap.size (.slice q1 m1 d1) g.S ∧ OwnP wN z6.heap.size (.slice q2 m2 d2) g.W ∧ NrmF (a.bth b) g) := ⟨h0, h1, h2, hN⟩
                have HBN : Hid (Below w7.heap.size w7 wN) := HBz6.out.1.trans (hbN.mono HBz6.out.1.size)
                have HZN : Hid (w7.heap.size ≤ z6.heap.size) := HBz6.out.1.size
                have HRs : Hid (Blk wN (w.heap.size + 1 + 1) #[.slice none 0 0, .slice none 0 0, .slice none 0 0] 25) := HRes.out.on HBN.out
                have HSM : Hid (Blk wN w.heap.size #[.slice pa0 na0 ca0, .slice pa1 na1 ca1, .slice pa2 na2 ca2] 25 ∧ Blk wN (w.heap.size + 1) #[.slice pb0 nb0 cb0, .slice pb1 nb1 cb1, .slice pb2 nb2 cb2] 25) := ⟨HSN.out.1.on hbN, HSN.out.2.on hbN⟩
                clear h0 h1 h2 hN hbN HRf HSN HBz6 X0z6 X1z6 X2z6 HLa HLb HLs HRa HRb HSz HEn
                have c0 := HRs.out.cell (i := 0) rfl
                have c1 := HRs.out.cell (i := 1) rfl
                have c2 := HRs.out.cell (i := 2) rfl
                have f0 := HRs.out.frozen 0
                have f1 := HRs.out.frozen 1
                have f2 := HRs.out.frozen 2
                have HF : Hid (Frm wN (((wN.setCell ⟨w.heap.size + 1 + 1, 0, none⟩ (.slice q0 m0 d0)).setCell ⟨w.heap.size + 1 + 1, 1, none⟩ (.slice q1 m1 d1)).setCell ⟨w.heap.size + 1 + 1, 2, none⟩ (.slice q2 m2 d2)) (fun k => k = w.heap.size + 1 + 1)) := ((frm_set _ _ _ _ (F := fun k => k = w.heap.size + 1 + 1) (.inl rfl)).trans (frm_set _ _ _ _ (F := fun k => k = w.heap.size + 1 + 1) (.inl rfl)) (fun k hk => .inl hk)).trans (frm_set _ _ _ _ (F := fun k => k = w.heap.size + 1 + 1) (.inl rfl)) (fun k hk => .inl hk)
                have HR : Hid (Blk (((wN.setCell ⟨w.heap.size + 1 + 1, 0, none⟩ (.slice q0 m0 d0)).setCell ⟨w.heap.size + 1 + 1, 1, none⟩ (.slice q1 m1 d1)).setCell ⟨w.heap.size + 1 + 1, 2, none⟩ (.slice q2 m2 d2)) (w.heap.size + 1 + 1) #[.slice q0 m0 d0, .slice q1 m1 d1, .slice q2 m2 d2] 25) := ((HRs.out.set 0 _).set 1 _).set 2 _
                refine wpL_one 20 rfl (by kernel_rfl) (by rfl) ?_
                intro K hK
                go_simp
                refine hK.out _ _ (fun h => absurd rfl h) ?_
                clear hK K
                try simp only [Act.put, List.setIfInBounds_toArray, List.set_cons_zero, List.set_cons_succ]
                clear c0 c1 c2 f0 f1 f2
                generalize ((wN.setCell ⟨w.heap.size + 1 + 1, 0, none⟩ (.slice q0 m0 d0)).setCell ⟨w.heap.size + 1 + 1, 1, none⟩ (.slice q1 m1 d1)).setCell ⟨w.heap.size + 1 + 1, 2, none⟩ (.slice q2 m2 d2) = we at *
                have HSE : Hid (Blk we w.heap.size #[.slice pa0 na0 ca0, .slice pa1 na1 ca1, .slice pa2 na2 ca2] 25 ∧ Blk we (w.heap.size + 1) #[.slice pb0 nb0 cb0, .slice pb1 nb1 cb1, .slice pb2 nb2 cb2] 25) := ⟨HSM.out.1.frm HF.out (by omega), HSM.out.2.frm HF.out (by omega)⟩
                refine wpL_one 21 rfl (by kernel_rfl) (by rfl) ?_
                intro K hK
                go_simp
                refine hK.out _ _ (fun _ => HSE.out) ?_
                clear hK K
                try simp only [Act.put, List.setIfInBounds_toArray, List.set_cons_zero, List.set_cons_succ]
                refine wpL_done (by kernel_rfl) ?_ _
                try simp only [NoPanic]
                have r0 := HR.out.cell (i := 0) rfl
                have r1 := HR.out.cell (i := 1) rfl
                have r2 := HR.out.cell (i := 2) rfl
                go_wp2_with fail
                refine bodyPost_ret (v := .tuple #[.agg #[.slice q0 m0 d0, .slice q1 m1 d1, .slice q2 m2 d2], .int .i64 0]) (by simp [results, Try.results18, go_sem, r0, r1, r2]) rfl ?_
                exact mg_end HCM.out HO.out HF.out HZN.out HBw7.out HBN.out hz7
              · intro K hK
                go_simp
                have hbz8 : Below z3.heap.size z3 (z3.alloc (.cells #[.slice pa2 na2 ca2, .slice pb2 nb2 cb2] 22)) := (Below.refl _ _).alloc (Nat.le_refl _) _
                have hkz8 : Blk (z3.alloc (.cells #[.slice pa2 na2 ca2, .slice pb2 nb2 cb2] 22)) z3.heap.size #[.slice pa2 na2 ca2, .slice pb2 nb2 cb2] 22 := Blk.new z3 _ _
                generalize (z3.alloc (.cells #[.slice pa2 na2 ca2, .slice pb2 nb2 cb2] 22)) = z8 at *
                have HBz8 : Hid (Below w7.heap.size w7 z8 ∧ (Blk z8 w.heap.size #[.slice pa0 na0 ca0, .slice pa1 na1 ca1, .slice pa2 na2 ca2] 25 ∧ Blk z8 (w.heap.size + 1) #[.slice pb0 nb0 cb0, .slice pb1 nb1 cb1, .slice pb2 nb2 cb2] 25)) := ⟨HBz3.out.1.trans ((hbz8).mono HBz3.out.1.size), HBz3.out.2.1.on (hbz8), HBz3.out.2.2.on (hbz8)⟩
                have X0z8 : Hid (OwnP z8 w7.heap.size x0z2 (a.P ++ b.P)) := X0z3.out.kept (hbz8)
                have B1z8 : Hid (Blk z8 (z2.heap.size) #[.slice pa1 na1 ca1, .slice pb1 nb1 cb1] 23) := B1z3.out.on (hbz8)
                clear HBz3 X0z3 B1z3
                have B2z8 : Hid (Blk z8 z3.heap.size #[.slice pa2 na2 ca2, .slice pb2 nb2 cb2] 22) := hkz8
                clear hbz8 hkz8
                refine hK.out _ _ (fun _ => HBz8.out.2) ?_
                clear hK K
                try simp only [Act.put, List.setIfInBounds_toArray, List.set_cons_zero, List.set_cons_succ]
                refine wpL_one 11 rfl (by kernel_rfl) (by rfl) ?_
                intro K hK
                go_simp
                have Cz9 : Hid (Calls Try.prog 41 #[.slice (some ⟨z2.heap.size, 0, none⟩) 2 2] z8 fun e w' => (∃ v, e = .returned v ∧ OwnS w' z8.heap.size v [a.S, b.S].flatten) ∧ Below z8.heap.size z8 w') := concatS_any [a.S, b.S] (z2.heap.size) z8 B1z8.out.lt (pair17 B1z8.out (HRa.out.s.on HBz8.out.1) (HRb.out.s.on HBz8.out.1)) (by simp) (len17 HLa.out.2.1 HLb.out.2.1)
                refine Cz9.out.mono ?_
                rintro e z9 ⟨⟨x1z9, rfl, hoz9⟩, hbz9⟩
                dsimp only
                have HZz9 : Hid (w7.heap.size ≤ z8.heap.size) := HBz8.out.1.size
                have HBz9 : Hid (Below w7.heap.size w7 z9 ∧ (Blk z9 w.heap.size #[.slice pa0 na0 ca0, .slice pa1 na1 ca1, .slice pa2 na2 ca2] 25 ∧ Blk z9 (w.heap.size + 1) #[.slice pb0 nb0 cb0, .slice pb1 nb1 cb1, .slice pb2 nb2 cb2] 25)) := ⟨HBz8.out.1.trans ((hbz9).mono HBz8.out.1.size), HBz8.out.2.1.on (hbz9), HBz8.out.2.2.on (hbz9)⟩
                have X0z9 : Hid (OwnP z9 w7.heap.size x0z2 (a.P ++ b.P)) := X0z8.out.kept (hbz9)
                have B2z9 : Hid (Blk z9 (z3.heap.size) #[.slice pa2 na2 ca2, .slice pb2 nb2 cb2] 22) := B2z8.out.on (hbz9)
                clear HBz8 X0z8 B2z8
                have X1z9 : Hid (OwnS z9 w7.heap.size x1z9 (a.S ++ b.S)) := (show OwnS _ _ _ _ by have h := hoz9; rw [flat_two] at h; exact h.mono HZz9.out)
                clear Cz9 hoz9 hbz9 B1z8
                refine hK.out _ _ (fun _ => HBz9.out.2) ?_
                clear hK K
                try simp only [Act.put, List.setIfInBounds_toArray, List.set_cons_zero, List.set_cons_succ]
                refine wpL_one 17 rfl (by kernel_rfl) (by rfl) ?_
                intro K hK
                go_simp
                have Cz10 : Hid (Calls Try.prog 40 #[.slice (some ⟨z3.heap.size, 0, none⟩) 2 2] z9 fun e w' => (∃ v, e = .returned v ∧ OwnP w' z9.heap.size v [a.W, b.W].flatten) ∧ Below z9.heap.size z9 w') := concatP_any [a.W, b.W] (z3.heap.size) z9 B2z9.out.lt (pair17 B2z9.out (HRa.out.w.on HBz9.out.1) (HRb.out.w.on HBz9.out.1)) (by simp) (len17 HLa.out.2.2 HLb.out.2.2)
                refine Cz10.out.mono ?_
                rintro e z10 ⟨⟨x2z10, rfl, hoz10⟩, hbz10⟩
                dsimp only
                have HZz10 : Hid (w7.heap.size ≤ z9.heap.size) := HBz9.out.1.size
                have HBz10 : Hid (Below w7.heap.size w7 z10 ∧ (Blk z10 w.heap.size #[.slice pa0 na0 ca0, .slice pa1 na1 ca1, .slice pa2 na2 ca2] 25 ∧ Blk z10 (w.heap.size + 1) #[.slice pb0 nb0 cb0, .slice pb1 nb1 cb1, .slice pb2 nb2 cb2] 25)) := ⟨HBz9.out.1.trans ((hbz10).mono HBz9.out.1.size), HBz9.out.2.1.on (hbz10), HBz9.out.2.2.on (hbz10)⟩
                have X0z10 : Hid (OwnP z10 w7.heap.size x0z2 (a.P ++ b.P)) := X0z9.out.kept (hbz10)
                have X1z10 : Hid (OwnS z10 w7.heap.size x1z9 (a.S ++ b.S)) := X1z9.out.kept (hbz10)
                clear HBz9 X0z9 X1z9
                have X2z10 : Hid (OwnP z10 w7.heap.size x2z10 (a.W ++ b.W)) := (show OwnP _ _ _ _ by have h := hoz10; rw [flat_two] at h; exact h.mono HZz10.out)
                clear Cz10 hoz10 hbz10 B2z9
                refine hK.out _ _ (fun _ => HBz10.out.2) ?_
                clear hK K
                try simp only [Act.put, List.setIfInBounds_toArray, List.set_cons_zero, List.set_cons_succ]
                obtain ⟨px0, nx0, cx0, ex0⟩ : ∃ p n c, x0z2 = .slice p n c := by
                  obtain ⟨p, c, e, _⟩ := X0z10.out.row
                  exact ⟨_, _, _, e⟩
                obtain ⟨px1, nx1, cx1, ex1⟩ : ∃ p n c, x1z9 = .slice p n c := by
                  obtain ⟨p, c, e, _⟩ := X1z10.out.row
                  exact ⟨_, _, _, e⟩
                obtain ⟨px2, nx2, cx2, ex2⟩ : ∃ p n c, x2z10 = .slice p n c := by
                  obtain ⟨p, c, e, _⟩ := X2z10.out.row
                  exact ⟨_, _, _, e⟩
                subst ex0 ex1 ex2
                have HRf : Hid (RdF z10 (.slice px0 nx0 cx0) (.slice px1 nx1 cx1) (.slice px2 nx2 cx2) (a.bth b)) := bth_rd X0z10.out X1z10.out X2z10.out HLa.out HLb.out
                have HSN : Hid (Blk z10 w.heap.size #[.slice pa0 na0 ca0, .slice pa1 na1 ca1, .slice pa2 na2 ca2] 25 ∧ Blk z10 (w.heap.size + 1) #[.slice pb0 nb0 cb0, .slice pb1 nb1 cb1, .slice pb2 nb2 cb2] 25) := HBz10.out.2
                refine wpL_take (v := ?_) 18 rfl (by kernel_rfl) (fun _ _ _ h => h) (by rfl) ?_ HSN.out ?_
                rotate_left
                focus
                  intro w9 hw9
                  have k0 := Blk.cell hw9.1 (i := 0) rfl
                  have k1 := Blk.cell hw9.1 (i := 1) rfl
                  have k2 := Blk.cell hw9.1 (i := 2) rfl
                  have k3 := Blk.cell hw9.2 (i := 0) rfl
                  have k4 := Blk.cell hw9.2 (i := 1) rfl
                  have k5 := Blk.cell hw9.2 (i := 2) rfl
                  go_simp
                  try with_reducible rfl
                try simp only [Act.put, List.setIfInBounds_toArray, List.set_cons_zero, List.set_cons_succ]
                refine wpL_one 19 rfl (by kernel_rfl) (by rfl) ?_
                intro K hK
                go_simp
                have CN : Hid (Calls _ _ _ _ _) := normal_any (a.bth b) (.slice px0 nx0 cx0) (.slice px1 nx1 cx1) (.slice px2 nx2 cx2) z10 HRf.out HLs.out
                refine CN.out.mono ?_
                rintro e wN ⟨y0, y1, y2, g, rfl, h0, h1, h2, hN, hbN⟩
                dsimp only
                refine hK.out _ _ (fun _ => ⟨HSN.out.1.on hbN, HSN.out.2.on hbN⟩) ?_
                clear hK K CN
                try simp only [Act.put, List.setIfInBounds_toArray, List.set_cons_zero, List.set_cons_succ]
                obtain ⟨q0, m0, d0, ey0⟩ : ∃ p n c, y0 = .slice p n c := by
                  obtain ⟨p, c, e, _⟩ := h0.row
                  exact ⟨_, _, _, e⟩
                obtain ⟨q1, m1, d1, ey1⟩ : ∃ p n c, y1 = .slice p n c := by
                  obtain ⟨p, c, e, _⟩ := h1.row
                  exact ⟨_, _, _, e⟩
                obtain ⟨q2, m2, d2, ey2⟩ : ∃ p n c, y2 = .slice p n c := by
                  obtain ⟨p, c, e, _⟩ := h2.row
                  exact ⟨_, _, _, e⟩
                subst ey0 ey1 ey2
                have HO : Hid (OwnP wN z10.heap.size (.slice q0 m0 d0) g.P ∧ OwnS wN z10.heap.size (.slice q1 m1 d1) g.S ∧ OwnP wN z10.heap.size (.slice q2 m2 d2) g.W ∧ NrmF (a.bth b) g) := ⟨h0, h1, h2, hN⟩
                have HBN : Hid (Below w7.heap.size w7 wN) := HBz10.out.1.trans (hbN.mono HBz10.out.1.size)
                have HZN : Hid (w7.heap.size ≤ z10.heap.size) := HBz10.out.1.size
                have HRs : Hid (Blk wN (w.heap.size + 1 + 1) #[.slice none 0 0, .slice none 0 0, .slice none 0 0] 25) := HRes.out.on HBN.out
                have HSM : Hid (Blk wN w.heap.size #[.slice pa0 na0 ca0, .slice pa1 na1 ca1, .slice pa2 na2 ca2] 25 ∧ Blk wN (w.heap.size + 1) #[.slice pb0 nb0 cb0, .slice pb1 nb1 cb1, .slice pb2 nb2 cb2] 25) := ⟨HSN.out.1.on hbN, HSN.out.2.on hbN⟩
                clear h0 h1 h2 hN hbN HRf HSN HBz10 X0z10 X1z10 X2z10 HLa HLb HLs HRa HRb HSz HEn
                have c0 := HRs.out.cell (i := 0) rfl
                have c1 := HRs.out.cell (i := 1) rfl
                have c2 := HRs.out.cell (i := 2) rfl
                have f0 := HRs.out.frozen 0
                have f1 := HRs.out.frozen 1
                have f2 := HRs.out.frozen 2
                have HF : Hid (Frm wN (((wN.setCell ⟨w.heap.size + 1 + 1, 0, none⟩ (.slice q0 m0 d0)).setCell ⟨w.heap.size + 1 + 1, 1, none⟩ (.slice q1 m1 d1)).setCell ⟨w.heap.size + 1 + 1, 2, none⟩ (.slice q2 m2 d2)) (fun k => k = w.heap.size + 1 + 1)) := ((frm_set _ _ _ _ (F := fun k => k = w.heap.size + 1 + 1) (.inl rfl)).trans (frm_set _ _ _ _ (F := fun k => k = w.heap.size + 1 + 1) (.inl rfl)) (fun k hk => .inl hk)).trans (frm_set _ _ _ _ (F := fun k => k = w.heap.size + 1 + 1) (.inl rfl)) (fun k hk => .inl hk)
                have HR : Hid (Blk (((wN.setCell ⟨w.heap.size + 1 + 1, 0, none⟩ (.slice q0 m0 d0)).setCell ⟨w.heap.size + 1 + 1, 1, none⟩ (.slice q1 m1 d1)).setCell ⟨w.heap.size + 1 + 1, 2, none⟩ (.slice q2 m2 d2)) (w.heap.size + 1 + 1) #[.slice q0 m0 d0, .slice q1 m1 d1, .slice q2 m2 d2] 25) := ((HRs.out.set 0 _).set 1 _).set 2 _
                refine wpL_one 20 rfl (by kernel_rfl) (by rfl) ?_
                intro K hK
                go_simp
                refine hK.out _ _ (fun h => absurd rfl h) ?_
                clear hK K
                try simp only [Act.put, List.setIfInBounds_toArray, List.set_cons_zero, List.set_cons_succ]
                clear c0 c1 c2 f0 f1 f2
                generalize ((wN.setCell ⟨w.heap.size + 1 + 1, 0, none⟩ (.slice q0 m0 d0)).setCell ⟨w.heap.size + 1 + 1, 1, none⟩ (.slice q1 m1 d1)).setCell ⟨w.heap.size + 1 + 1, 2, none⟩ (.slice q2 m2 d2) = we at *
                have HSE : Hid (Blk we w.heap.size #[.slice pa0 na0 ca0, .slice pa1 na1 ca1, .slice pa2 na2 ca2] 25 ∧ Blk we (w.heap.size + 1) #[.slice pb0 nb0 cb0, .slice pb1 nb1 cb1, .slice pb2 nb2 cb2] 25) := ⟨HSM.out.1.frm HF.out (by omega), HSM.out.2.frm HF.out (by omega)⟩
                refine wpL_one 21 rfl (by kernel_rfl) (by rfl) ?_
                intro K hK
                go_simp
                refine hK.out _ _ (fun _ => HSE.out) ?_
                clear hK K
                try simp only [Act.put, List.setIfInBounds_toArray, List.set_cons_zero, List.set_cons_succ]
                refine wpL_done (by kernel_rfl) ?_ _
                try simp only [NoPanic]
                have r0 := HR.out.cell (i := 0) rfl
                have r1 := HR.out.cell (i := 1) rfl
                have r2 := HR.out.cell (i := 2) rfl
                go_wp2_with fail
                refine bodyPost_ret (v := .tuple #[.agg #[.slice q0 m0 d0, .slice q1 m1 d1, .slice q2 m2 d2], .int .i64 0]) (by simp [results, Try.results18, go_sem, r0, r1, r2]) rfl ?_
                exact mg_end HCM.out HO.out HF.out HZN.out HBw7.out HBN.out hz7
            · intro K hK
              go_simp
              have hbz12 : Below z2.heap.size z2 (z2.alloc (.cells #[.slice pa2 na2 ca2, .slice pb2 nb2 cb2] 22)) := (Below.refl _ _).alloc (Nat.le_refl _) _
              have hkz12 : Blk (z2.alloc (.cells #[.slice pa2 na2 ca2, .slice pb2 nb2 cb2] 22)) z2.heap.size #[.slice pa2 na2 ca2, .slice pb2 nb2 cb2] 22 := Blk.new z2 _ _
              generalize (z2.alloc (.cells #[.slice pa2 na2 ca2, .slice pb2 nb2 cb2] 22)) = z12 at *
              have HBz12 : Hid (Below w7.heap.size w7 z12 ∧ (Blk z12 w.heap.size #[.slice pa0 na0 ca0, .slice pa1 na1 ca1, .slice pa2 na2 ca2] 25 ∧ Blk z12 (w.heap.size + 1) #[.slice pb0 nb0 cb0, .slice pb1 nb1 cb1, .slice pb2 nb2 cb2] 25)) := ⟨HBz2.out.1.trans ((hbz12).mono HBz2.out.1.size), HBz2.out.2.1.on (hbz12), HBz2.out.2.2.on (hbz12)⟩
              have X0z12 : Hid (OwnP z12 w7.heap.size x0z2 (a.P ++ b.P)) := X0z2.out.kept (hbz12)
              clear HBz2 X0z2
              have B2z12 : Hid (Blk z12 z2.heap.size #[.slice pa2 na2 ca2, .slice pb2 nb2 cb2] 22) := hkz12
              clear hbz12 hkz12
              refine hK.out _ _ (fun _ => HBz12.out.2) ?_
              clear hK K
              try simp only [Act.put, List.setIfInBounds_toArray, List.set_cons_zero, List.set_cons_succ]
              refine wpL_one 10 rfl (by kernel_rfl) (by rfl) ?_
              intro K hK
              go_simp
              have hbz13 : Below z12.heap.size z12 (z12.alloc (.cells #[.slice pa1 na1 ca1, .slice pb1 nb1 cb1] 23)) := (Below.refl _ _).alloc (Nat.le_refl _) _
              have hkz13 : Blk (z12.alloc (.cells #[.slice pa1 na1 ca1, .slice pb1 nb1 cb1] 23)) z12.heap.size #[.slice pa1 na1 ca1, .slice pb1 nb1 cb1] 23 := Blk.new z12 _ _
              generalize (z12.alloc (.cells #[.slice pa1 na1 ca1, .slice pb1 nb1 cb1] 23)) = z13 at *
              have HBz13 : Hid (Below w7.heap.size w7 z13 ∧ (Blk z13 w.heap.size #[.slice pa0 na0 ca0, .slice pa1 na1 ca1, .slice pa2 na2 ca2] 25 ∧ Blk z13 (w.heap.size + 1) #[.slice pb0 nb0 cb0, .slice pb1 nb1 cb1, .slice pb2 nb2 cb2] 25)) := ⟨HBz12.out.1.trans ((hbz13).mono HBz12.out.1.size), HBz12.out.2.1.on (hbz13), HBz12.out.2.2.on (hbz13)⟩
              have X0z13 : Hid (OwnP z13 w7.heap.size x0z2 (a.P ++ b.P)) := X0z12.out.kept (hbz13)
              have B2z13 : Hid (Blk z13 (z2.heap.size) #[.slice pa2 na2 ca2, .slice pb2 nb2 cb2] 22) := B2z12.out.on (hbz13)
              clear HBz12 X0z12 B2z12
              have B1z13 : Hid (Blk z13 z12.heap.size #[.slice pa1 na1 ca1, .slice pb1 nb1 cb1] 23) := hkz13
              clear hbz13 hkz13
              refine hK.out _ _ (fun _ => HBz13.out.2) ?_
              clear hK K
              try simp only [Act.put, List.setIfInBounds_toArray, List.set_cons_zero, List.set_cons_succ]
              refine wpL_one 11 rfl (by kernel_rfl) (by rfl) ?_
              intro K hK
              go_simp
              have Cz14 : Hid (Calls Try.prog 41 #[.slice (some ⟨z12.heap.size, 0, none⟩) 2 2] z13 fun e w' => (∃ v, e = .returned v ∧ OwnS w' z13.heap.size v [a.S, b.S].flatten) ∧ Below z13.heap.size z13 w') := concatS_any [a.S, b.S] (z12.heap.size) z13 B1z13.out.lt (pair17 B1z13.out (HRa.out.s.on HBz13.out.1) (HRb.out.s.on HBz13.out.1)) (by simp) (len17 HLa.out.2.1 HLb.out.2.1)
              refine Cz14.out.mono ?_
              rintro e z14 ⟨⟨x1z14, rfl, hoz14⟩, hbz14⟩
              dsimp only
              have HZz14 : Hid (w7.heap.size ≤ z13.heap.size) := HBz13.out.1.size
              have HBz14 : Hid (Below w7.heap.size w7 z14 ∧ (Blk z14 w.heap.size #[.slice pa0 na0 ca0, .slice pa1 na1 ca1, .slice pa2 na2 ca2] 25 ∧ Blk z14 (w.heap.size + 1) #[.slice pb0 nb0 cb0, .slice pb1 nb1 cb1, .slice pb2 nb2 cb2] 25)) := ⟨HBz13.out.1.trans ((hbz14).mono HBz13.out.1.size), HBz13.out.2.1.on (hbz14), HBz13.out.2.2.on (hbz14)⟩
              have X0z14 : Hid (OwnP z14 w7.heap.size x0z2 (a.P ++ b.P)) := X0z13.out.kept (hbz14)
              have B2z14 : Hid (Blk z14 (z2.heap.size) #[.slice pa2 na2 ca2, .slice pb2 nb2 cb2] 22) := B2z13.out.on (hbz14)
              clear HBz13 X0z13 B2z13
              have X1z14 : Hid (OwnS z14 w7.heap.size x1z14 (a.S ++ b.S)) := (show OwnS _ _ _ _ by have h := hoz14; rw [flat_two] at h; exact h.mono HZz14.out)
              clear Cz14 hoz14 hbz14 B1z13
              refine hK.out _ _ (fun _ => HBz14.out.2) ?_
              clear hK K
              try simp only [Act.put, List.setIfInBounds_toArray, List.set_cons_zero, List.set_cons_succ]
              refine wpL_one 17 rfl (by kernel_rfl) (by rfl) ?_
              intro K hK
              go_simp
              have Cz15 : Hid (Calls Try.prog 40 #[.slice (some ⟨z2.heap.size, 0, none⟩) 2 2] z14 fun e w' => (∃ v, e = .returned v ∧ OwnP w' z14.heap.size v [a.W, b.W].flatten) ∧ Below z14.heap.size z14 w') := concatP_any [a.W, b.W] (z2.heap.size) z14 B2z14.out.lt (pair17 B2z14.out (HRa.out.w.on HBz14.out.1) (HRb.out.w.on HBz14.out.1)) (by simp) (len17 HLa.out.2.2 HLb.out.2.2)
              refine Cz15.out.mono ?_
              rintro e z15 ⟨⟨x2z15, rfl, hoz15⟩, hbz15⟩
              dsimp only
              have HZz15 : Hid (w7.heap.size ≤ z14.heap.size) := HBz14.out.1.size
              have HBz15 : Hid (Below w7.heap.size w7 z15 ∧ (Blk z15 w.heap.size #[.slice pa0 na0 ca0, .slice pa1 na1 ca1, .slice pa2 na2 ca2] 25 ∧ Blk z15 (w.heap.size + 1) #[.slice pb0 nb0 cb0, .slice pb1 nb1 cb1, .slice pb2 nb2 cb2] 25)) := ⟨HBz14.out.1.trans ((hbz15).mono HBz14.out.1.size), HBz14.out.2.1.on (hbz15), HBz14.out.2.2.on (hbz15)⟩
              have X0z15 : Hid (OwnP z15 w7.heap.size x0z2 (a.P ++ b.P)) := X0z14.out.kept (hbz15)
              have X1z15 : Hid (OwnS z15 w7.heap.size x1z14 (a.S ++ b.S)) := X1z14.out.kept (hbz15)
              clear HBz14 X0z14 X1z14
              have X2z15 : Hid (OwnP z15 w7.heap.size x2z15 (a.W ++ b.W)) := (show OwnP _ _ _ _ by have h := hoz15; rw [flat_two] at h; exact h.mono HZz15.out)
              clear Cz15 hoz15 hbz15 B2z14
              refine hK.out _ _ (fun _ => HBz15.out.2) ?_
              clear hK K
              try simp only [Act.put, List.setIfInBounds_toArray, List.set_cons_zero, List.set_cons_succ]
              obtain ⟨px0, nx0, cx0, ex0⟩ : ∃ p n c, x0z2 = .slice p n c := by
                obtain ⟨p, c, e, _⟩ := X0z15.out.row
                exact ⟨_, _, _, e⟩
              obtain ⟨px1, nx1, cx1, ex1⟩ : ∃ p n c, x1z14 = .slice p n c := by
                obtain ⟨p, c, e, _⟩ := X1z15.out.row
                exact ⟨_, _, _, e⟩
              obtain ⟨px2, nx2, cx2, ex2⟩ : ∃ p n c, x2z15 = .slice p n c := by
                obtain ⟨p, c, e, _⟩ := X2z15.out.row
                exact ⟨_, _, _, e⟩
              subst ex0 ex1 ex2
              have HRf : Hid (RdF z15 (.slice px0 nx0 cx0) (.slice px1 nx1 cx1) (.slice px2 nx2 cx2) (a.bth b)) := bth_rd X0z15.out X1z15.out X2z15.out HLa.out HLb.out
              have HSN : Hid (Blk z15 w.heap.size #[.slice pa0 na0 ca0, .slice pa1 na1 ca1, .slice pa2 na2 ca2] 25 ∧ Blk z15 (w.heap.size + 1) #[.slice pb0 nb0 cb0, .slice pb1 nb1 cb1, .slice pb2 nb2 cb2] 25) := HBz15.out.2
              refine wpL_take (v := ?_) 18 rfl (by kernel_rfl) (fun _ _ _ h => h) (by rfl) ?_ HSN.out ?_
              rotate_left
              focus
                intro w9 hw9
                have k0 := Blk.cell hw9.1 (i := 0) rfl
                have k1 := Blk.cell hw9.1 (i := 1) rfl
                have k2 := Blk.cell hw9.1 (i := 2) rfl
                have k3 := Blk.cell hw9.2 (i := 0) rfl
                have k4 := Blk.cell hw9.2 (i := 1) rfl
                have k5 := Blk.cell hw9.2 (i := 2) rfl
                go_simp
                try with_reducible rfl
              try simp only [Act.put, List.setIfInBounds_toArray, List.set_cons_zero, List.set_cons_succ]
              refine wpL_one 19 rfl (by kernel_rfl) (by rfl) ?_
              intro K hK
              go_simp
              have CN : Hid (Calls _ _ _ _ _) := normal_any (a.bth b) (.slice px0 nx0 cx0) (.slice px1 nx1 cx1) (.slice px2 nx2 cx2) z15 HRf.out HLs.out
              refine CN.out.mono ?_
              rintro e wN ⟨y0, y1, y2, g, rfl, h0, h1, h2, hN, hbN⟩
              dsimp only
              refine hK.out _ _ (fun _ => ⟨HSN.out.1.on hbN, HSN.out.2.on hbN⟩) ?_
              clear hK K CN
              try simp only [Act.put, List.setIfInBounds_toArray, List.set_cons_zero, List.set_cons_succ]
              obtain ⟨q0, m0, d0, ey0⟩ : ∃ p n c, y0 = .slice p n c := by
                obtain ⟨p, c, e, _⟩ := h0.row
                exact ⟨_, _, _, e⟩
              obtain ⟨q1, m1, d1, ey1⟩ : ∃ p n c, y1 = .slice p n c := by
                obtain ⟨p, c, e, _⟩ := h1.row
                exact ⟨_, _, _, e⟩
              obtain ⟨q2, m2, d2, ey2⟩ : ∃ p n c, y2 = .slice p n c := by
                obtain ⟨p, c, e, _⟩ := h2.row
                exact ⟨_, _, _, e⟩
              subst ey0 ey1 ey2
              have HO : Hid (OwnP wN z15.heap.size (.slice q0 m0 d0) g.P ∧ OwnS wN z15.heap.size (.slice q1 m1 d1) g.S ∧ OwnP wN z15.heap.size (.slice q2 m2 d2) g.W ∧ NrmF (a.bth b) g) := ⟨h0, h1, h2, hN⟩
              have HBN : Hid (Below w7.heap.size w7 wN) := HBz15.out.1.trans (hbN.mono HBz15.out.1.size)
              have HZN : Hid (w7.heap.size ≤ z15.heap.size) := HBz15.out.1.size
              have HRs : Hid (Blk wN (w.heap.size + 1 + 1) #[.slice none 0 0, .slice none 0 0, .slice none 0 0] 25) := HRes.out.on HBN.out
              have HSM : Hid (Blk wN w.heap.size #[.slice pa0 na0 ca0, .slice pa1 na1 ca1, .slice pa2 na2 ca2] 25 ∧ Blk wN (w.heap.size + 1) #[.slice pb0 nb0 cb0, .slice pb1 nb1 cb1, .slice pb2 nb2 cb2] 25) := ⟨HSN.out.1.on hbN, HSN.out.2.on hbN⟩
              clear h0 h1 h2 hN hbN HRf HSN HBz15 X0z15 X1z15 X2z15 HLa HLb HLs HRa HRb HSz HEn
              have c0 := HRs.out.cell (i := 0) rfl
              have c1 := HRs.out.cell (i := 1) rfl
              have c2 := HRs.out.cell (i := 2) rfl
              have f0 := HRs.out.frozen 0
              have f1 := HRs.out.frozen 1
              have f2 := HRs.out.frozen 2
              have HF : Hid (Frm wN (((wN.setCell ⟨w.heap.size + 1 + 1, 0, none⟩ (.slice q0 m0 d0)).setCell ⟨w.heap.size + 1 + 1, 1, none⟩ (.slice q1 m1 d1)).setCell ⟨w.heap.size + 1 + 1, 2, none⟩ (.slice q2 m2 d2)) (fun k => k = w.heap.size + 1 + 1)) := ((frm_set _ _ _ _ (F := fun k => k = w.heap.size + 1 + 1) (.inl rfl)).trans (frm_set _ _ _ _ (F := fun k => k = w.heap.size + 1 + 1) (.inl rfl)) (fun k hk => .inl hk)).trans (frm_set _ _ _ _ (F := fun k => k = w.heap.size + 1 + 1) (.inl rfl)) (fun k hk => .inl hk)
              have HR : Hid (Blk (((wN.setCell ⟨w.heap.size + 1 + 1, 0, none⟩ (.slice q0 m0 d0)).setCell ⟨w.heap.size + 1 + 1, 1, none⟩ (.slice q1 m1 d1)).setCell ⟨w.heap.size + 1 + 1, 2, none⟩ (.slice q2 m2 d2)) (w.heap.size + 1 + 1) #[.slice q0 m0 d0, .slice q1 m1 d1, .slice q2 m2 d2] 25) := ((HRs.out.set 0 _).set 1 _).set 2 _
              refine wpL_one 20 rfl (by kernel_rfl) (by rfl) ?_
              intro K hK
              go_simp
              refine hK.out _ _ (fun h => absurd rfl h) ?_
              clear hK K
              try simp only [Act.put, List.setIfInBounds_toArray, List.set_cons_zero, List.set_cons_succ]
              clear c0 c1 c2 f0 f1 f2
              generalize ((wN.setCell ⟨w.heap.size + 1 + 1, 0, none⟩ (.slice q0 m0 d0)).setCell ⟨w.heap.size + 1 + 1, 1, none⟩ (.slice q1 m1 d1)).setCell ⟨w.heap.size + 1 + 1, 2, none⟩ (.slice q2 m2 d2) = we at *
              have HSE : Hid (Blk we w.heap.size #[.slice pa0 na0 ca0, .slice pa1 na1 ca1, .slice pa2 na2 ca2] 25 ∧ Blk we (w.heap.size + 1) #[.slice pb0 nb0 cb0, .slice pb1 nb1 cb1, .slice pb2 nb2 cb2] 25) := ⟨HSM.out.1.frm HF.out (by omega), HSM.out.2.frm HF.out (by omega)⟩
              refine wpL_one 21 rfl (by kernel_rfl) (by rfl) ?_
              intro K hK
              go_simp
              refine hK.out _ _ (fun _ => HSE.out) ?_
              clear hK K
              try simp only [Act.put, List.setIfInBounds_toArray, List.set_cons_zero, List.set_cons_succ]
              refine wpL_done (by kernel_rfl) ?_ _
              try simp only [NoPanic]
              have r0 := HR.out.cell (i := 0) rfl
              have r1 := HR.out.cell (i := 1) rfl
              have r2 := HR.out.cell (i := 2) rfl
              go_wp2_with fail
              refine bodyPost_ret (v := .tuple #[.agg #[.slice q0 m0 d0, .slice q1 m1 d1, .slice q2 m2 d2], .int .i64 0]) (by simp [results, Try.results18, go_sem, r0, r1, r2]) rfl ?_
              exact mg_end HCM.out HO.out HF.out HZN.out HBw7.out HBN.out hz7
          · intro K hK
            go_simp
            have hbz17 : Below z1.heap.size z1 (z1.alloc (.cells #[.slice pa1 na1 ca1, .slice pb1 nb1 cb1] 23)) := (Below.refl _ _).alloc (Nat.le_refl _) _
            have hkz17 : Blk (z1.alloc (.cells #[.slice pa1 na1 ca1, .slice pb1 nb1 cb1] 23)) z1.heap.size #[.slice pa1 na1 ca1, .slice pb1 nb1 cb1] 23 := Blk.new z1 _ _
            generalize (z1.alloc (.cells #[.slice pa1 na1 ca1, .slice pb1 nb1 cb1] 23)) = z17 at *
            have HBz17 : Hid (Below w7.heap.size w7 z17 ∧ (Blk z17 w.heap.size #[.slice pa0 na0 ca0, .slice pa1 na1 ca1, .slice pa2 na2 ca2] 25 ∧ Blk z17 (w.heap.size + 1) #[.slice pb0 nb0 cb0, .slice pb1 nb1 cb1, .slice pb2 nb2 cb2] 25)) := ⟨HBz1.out.1.trans ((hbz17).mono HBz1.out.1.size), HBz1.out.2.1.on (hbz17), HBz1.out.2.2.on (hbz17)⟩
            have B0z17 : Hid (Blk z17 (w7.heap.size) #[.slice pa0 na0 ca0, .slice pb0 nb0 cb0] 22) := B0z1.out.on (hbz17)
            clear HBz1 B0z1
            have B1z17 : Hid (Blk z17 z1.heap.size #[.slice pa1 na1 ca1, .slice pb1 nb1 cb1] 23) := hkz17
            clear hbz17 hkz17
            refine hK.out _ _ (fun _ => HBz17.out.2) ?_
            clear hK K
            try simp only [Act.put, List.setIfInBounds_toArray, List.set_cons_zero, List.set_cons_succ]
            refine wpL_two17 5 16 rfl rfl (by kernel_rfl) (by rfl) (by rfl) ?_ ?_
            · intro K hK
              go_simp
              have Cz18 : Hid (Calls Try.prog 40 #[.slice (some ⟨w7.heap.size, 0, none⟩) 2 2] z17 fun e w' => (∃ v, e = .returned v ∧ OwnP w' z17.heap.size v [a.P, b.P].flatten) ∧ Below z17.heap.size z17 w') := concatP_any [a.P, b.P] (w7.heap.size) z17 B0z17.out.lt (pair17 B0z17.out (HRa.out.p.on HBz17.out.1) (HRb.out.p.on HBz17.out.1)) (by simp) (len17 HLa.out.1 HLb.out.1)
              refine Cz18.out.mono ?_
              rintro e z18 ⟨⟨x0z18, rfl, hoz18⟩, hbz18⟩
              dsimp only
              have HZz18 : Hid (w7.heap.size ≤ z17.heap.size) := HBz17.out.1.size
              have HBz18 : Hid (Below w7.heap.size w7 z18 ∧ (Blk z18 w.heap.size #[.slice pa0 na0 ca0, .slice pa1 na1 ca1, .slice pa2 na2 ca2] 25 ∧ Blk z18 (w.heap.size + 1) #[.slice pb0 nb0 cb0, .slice pb1 nb1 cb1, .slice pb2 nb2 cb2] 25)) := ⟨HBz17.out.1.trans ((hbz18).mono HBz17.out.1.size), HBz17.out.2.1.on (hbz18), HBz17.out.2.2.on (hbz18)⟩
              have B1z18 : Hid (Blk z18 (z1.heap.size) #[.slice pa1 na1 ca1, .slice pb1 nb1 cb1] 23) := B1z17.out.on (hbz18)
              clear HBz17 B1z17
              have X0z18 : Hid (OwnP z18 w7.heap.size x0z18 (a.P ++ b.P)) := (show OwnP _ _ _ _ by have h := hoz18; rw [flat_two] at h; exact h.mono HZz18.out)
              clear Cz18 hoz18 hbz18 B0z17
              refine hK.out _ _ (fun _ => HBz18.out.2) ?_
              clear hK K
              try simp only [Act.put, List.setIfInBounds_toArray, List.set_cons_zero, List.set_cons_succ]
              refine wpL_two17 11 16 rfl rfl (by kernel_rfl) (by rfl) (by rfl) ?_ ?_
              · intro K hK
                go_simp
                have Cz19 : Hid (Calls Try.prog 41 #[.slice (some ⟨z1.heap.size, 0, none⟩) 2 2] z18 fun e w' => (∃ v, e = .returned v ∧ OwnS w' z18.heap.size v [a.S, b.S].flatten) ∧ Below z18.heap.size z18 w') := concatS_any [a.S, b.S] (z1.heap.size) z18 B1z18.out.lt (pair17 B1z18.out (HRa.out.s.on HBz18.out.1) (HRb.out.s.on HBz18.out.1)) (by simp) (len17 HLa.out.2.1 HLb.out.2.1)
                refine Cz19.out.mono ?_
                rintro e z19 ⟨⟨x1z19, rfl, hoz19⟩, hbz19⟩
                dsimp only
                have HZz19 : Hid (w7.heap.size ≤ z18.heap.size) := HBz18.out.1.size
                have HBz19 : Hid (Below w7.heap.size w7 z19 ∧ (Blk z19 w.heap.size #[.slice pa0 na0 ca0, .slice pa1 na1 ca1, .slice pa2 na2 ca2] 25 ∧ Blk z19 (w.heap.size + 1) #[.slice pb0 nb0 cb0, .slice pb1 nb1 cb1, .slice pb2 nb2 cb2] 25)) := ⟨HBz18.out.1.trans ((hbz19).mono HBz18.out.1.size), HBz18.out.2.1.on (hbz19), HBz18.out.2.2.on (hbz19)⟩
                have X0z19 : Hid (OwnP z19 w7.heap.size x0z18 (a.P ++ b.P)) := X0z18.out.kept (hbz19)
                clear HBz18 X0z18
                have X1z19 : Hid (OwnS z19 w7.heap.size x1z19 (a.S ++ b.S)) := (show OwnS _ _ _ _ by have h := hoz19; rw [flat_two] at h; exact h.mono HZz19.out)
                clear Cz19 hoz19 hbz19 B1z18
                refine hK.out _ _ (fun _ => HBz19.out.2) ?_
                clear hK K
                try simp only [Act.put, List.setIfInBounds_toArray, List.set_cons_zero, List.set_cons_succ]
                refine wpL_one 16 rfl (by kernel_rfl) (by rfl) ?_
                intro K hK
                go_simp
                have hbz20 : Below z19.heap.size z19 (z19.alloc (.cells #[.slice pa2 na2 ca2, .slice pb2 nb2 cb2] 22)) := (Below.refl _ _).alloc (Nat.le_refl _) _
                have hkz20 : Blk (z19.alloc (.cells #[.slice pa2 na2 ca2, .slice pb2 nb2 cb2] 22)) z19.heap.size #[.slice pa2 na2 ca2, .slice pb2 nb2 cb2] 22 := Blk.new z19 _ _
                generalize (z19.alloc (.cells #[.slice pa2 na2 ca2, .slice pb2 nb2 cb2] 22)) = z20 at *
                have HBz20 : Hid (Below w7.heap.size w7 z20 ∧ (Blk z20 w.heap.size #[.slice pa0 na0 ca0, .slice pa1 na1 ca1, .slice pa2 na2 ca2] 25 ∧ Blk z20 (w.heap.size + 1) #[.slice pb0 nb0 cb0, .slice pb1 nb1 cb1, .slice pb2 nb2 cb2] 25)) := ⟨HBz19.out.1.trans ((hbz20).mono HBz19.out.1.size), HBz19.out.2.1.on (hbz20), HBz19.out.2.2.on (hbz20)⟩
                have X0z20 : Hid (OwnP z20 w7.heap.size x0z18 (a.P ++ b.P)) := X0z19.out.kept (hbz20)
                have X1z20 : Hid (OwnS z20 w7.heap.size x1z19 (a.S ++ b.S)) := X1z19.out.kept (hbz20)
                clear HBz19 X0z19 X1z19
                have B2z20 : Hid (Blk z20 z19.heap.size #[.slice pa2 na2 ca2, .slice pb2 nb2 cb2] 22) := hkz20
                clear hbz20 hkz20
                refine hK.out _ _ (fun _ => HBz20.out.2) ?_
                clear hK K
                try simp only [Act.put, List.setIfInBounds_toArray, List.set_cons_zero, List.set_cons_succ]
                refine wpL_one 17 rfl (by kernel_rfl) (by rfl) ?_
                intro K hK
                go_simp
                have Cz21 : Hid (Calls Try.prog 40 #[.slice (some ⟨z19.heap.size, 0, none⟩) 2 2] z20 fun e w' => (∃ v, e = .returned v ∧ OwnP w' z20.heap.size v [a.W, b.W].flatten) ∧ Below z20.heap.size z20 w') := concatP_any [a.W, b.W] (z19.heap.size) z20 B2z20.out.lt (pair17 B2z20.out (HRa.out.w.on HBz20.out.1) (HRb.out.w.on HBz20.out.1)) (by simp) (len17 HLa.out.2.2 HLb.out.2.2)
                refine Cz21.out.mono ?_
                rintro e z21 ⟨⟨x2z21, rfl, hoz21⟩, hbz21⟩
                dsimp only
                have HZz21 : Hid (w7.heap.size ≤ z20.heap.size) := HBz20.out.1.size
                have HBz21 : Hid (Below w7.heap.size w7 z21 ∧ (Blk z21 w.heap.size #[.slice pa0 na0 ca0, .slice pa1 na1 ca1, .slice pa2 na2 ca2] 25 ∧ Blk z21 (w.heap.size + 1) #[.slice pb0 nb0 cb0, .slice pb1 nb1 cb1, .slice pb2 nb2 cb2] 25)) := ⟨HBz20.out.1.trans ((hbz21).mono HBz20.out.1.size), HBz20.out.2.1.on (hbz21), HBz20.out.2.2.on (hbz21)⟩
                have X0z21 : Hid (OwnP z21 w7.heap.size x0z18 (a.P ++ b.P)) := X0z20.out.kept (hbz21)
                have X1z21 : Hid (OwnS z21 w7.heap.size x1z19 (a.S ++ b.S)) := X1z20.out.kept (hbz21)
                clear HBz20 X0z20 X1z20
                have X2z21 : Hid (OwnP z21 w7.heap.size x2z21 (a.W ++ b.W)) := (show OwnP _ _ _ _ by have h := hoz21; rw [flat_two] at h; exact h.mono HZz21.out)
                clear Cz21 hoz21 hbz21 B2z20
                refine hK.out _ _ (fun _ => HBz21.out.2) ?_
                clear hK K
                try simp only [Act.put, List.setIfInBounds_toArray, List.set_cons_zero, List.set_cons_succ]
                obtain ⟨px0, nx0, cx0, ex0⟩ : ∃ p n c, x0z18 = .slice p n c := by
                  obtain ⟨p, c, e, _⟩ := X0z21.out.row
                  exact ⟨_, _, _, e⟩
                obtain ⟨px1, nx1, cx1, ex1⟩ : ∃ p n c, x1z19 = .slice p n c := by
                  obtain ⟨p, c, e, _⟩ := X1z21.out.row
                  exact ⟨_, _, _, e⟩
                obtain ⟨px2, nx2, cx2, ex2⟩ : ∃ p n c, x2z21 = .slice p n c := by
                  obtain ⟨p, c, e, _⟩ := X2z21.out.row
                  exact ⟨_, _, _, e⟩
                subst ex0 ex1 ex2
                have HRf : Hid (RdF z21 (.slice px0 nx0 cx0) (.slice px1 nx1 cx1) (.slice px2 nx2 cx2) (a.bth b)) := bth_rd X0z21.out X1z21.out X2z21.out HLa.out HLb.out
                have HSN : Hid (Blk z21 w.heap.size #[.slice pa0 na0 ca0, .slice pa1 na1 ca1, .slice pa2 na2 ca2] 25 ∧ Blk z21 (w.heap.size + 1) #[.slice pb0 nb0 cb0, .slice pb1 nb1 cb1, .slice pb2 nb2 cb2] 25) := HBz21.out.2
                refine wpL_take (v := ?_) 18 rfl (by kernel_rfl) (fun _ _ _ h => h) (by rfl) ?_ HSN.out ?_
                rotate_left
                focus
                  intro w9 hw9
                  have k0 := Blk.cell hw9.1 (i := 0) rfl
                  have k1 := Blk.cell hw9.1 (i := 1) rfl
                  have k2 := Blk.cell hw9.1 (i := 2) rfl
                  have k3 := Blk.cell hw9.2 (i := 0) rfl
                  have k4 := Blk.cell hw9.2 (i := 1) rfl
                  have k5 := Blk.cell hw9.2 (i := 2) rfl
                  go_simp
                  try with_reducible rfl
                try simp only [Act.put, List.setIfInBounds_toArray, List.set_cons_zero, List.set_cons_succ]
                refine wpL_one 19 rfl (by kernel_rfl) (by rfl) ?_
                intro K hK
                go_simp
                have CN : Hid (Calls _ _ _ _ _) := normal_any (a.bth b) (.slice px0 nx0 cx0) (.slice px1 nx1 cx1) (.slice px2 nx2 cx2) z21 HRf.out HLs.out
                refine CN.out.mono ?_
                rintro e wN ⟨y0, y1, y2, g, rfl, h0, h1, h2, hN, hbN⟩
                dsimp only
                refine hK.out _ _ (fun _ => ⟨HSN.out.1.on hbN, HSN.out.2.on hbN⟩) ?_
                clear hK K CN
                try simp only [Act.put, List.setIfInBounds_toArray, List.set_cons_zero, List.set_cons_succ]
                obtain ⟨q0, m0, d0, ey0⟩ : ∃ p n c, y0 = .slice p n c := by
                  obtain ⟨p, c, e, _⟩ := h0.row
                  exact ⟨_, _, _, e⟩
                obtain ⟨q1, m1, d1, ey1⟩ : ∃ p n c, y1 = .slice p n c := by
                  obtain ⟨p, c, e, _⟩ := h1.row
                  exact ⟨_, _, _, e⟩
                obtain ⟨q2, m2, d2, ey2⟩ : ∃ p n c, y2 = .slice p n c := by
                  obtain ⟨p, c, e, _⟩ := h2.row
                  exact ⟨_, _, _, e⟩
                subst ey0 ey1 ey2
                have HO : Hid (OwnP wN z21.heap.size (.slice q0 m0 d0) g.P ∧ OwnS wN z21.heap.size (.slice q1 m1 d1) g.S ∧ OwnP wN z21.heap.size (.slice q2 m2 d2) g.W ∧ NrmF (a.bth b) g) := ⟨h0, h1, h2, hN⟩
                have HBN : Hid (Below w7.heap.size w7 wN) := HBz21.out.1.trans (hbN.mono HBz21.out.1.size)
                have HZN : Hid (w7.heap.size ≤ z21.heap.size) := HBz21.out.1.size
                have HRs : Hid (Blk wN (w.heap.size + 1 + 1) #[.slice none 0 0, .slice none 0 0, .slice none 0 0] 25) := HRes.out.on HBN.out
                have HSM : Hid (Blk wN w.heap.size #[.slice pa0 na0 ca0, .slice pa1 na1 ca1, .slice pa2 na2 ca2] 25 ∧ Blk wN (w.heap.size + 1) #[.slice pb0 nb0 cb0, .slice pb1 nb1 cb1, .slice pb2 nb2 cb2] 25) := ⟨HSN.out.1.on hbN, HSN.out.2.on hbN⟩
                clear h0 h1 h2 hN hbN HRf HSN HBz21 X0z21 X1z21 X2z21 HLa HLb HLs HRa HRb HSz HEn
                have c0 := HRs.out.cell (i := 0) rfl
                have c1 := HRs.out.cell (i := 1) rfl
                have c2 := HRs.out.cell (i := 2) rfl
                have f0 := HRs.out.frozen 0
                have f1 := HRs.out.frozen 1
                have f2 := HRs.out.frozen 2
                have HF : Hid (Frm wN (((wN.setCell ⟨w.heap.size + 1 + 1, 0, none⟩ (.slice q0 m0 d0)).setCell ⟨w.heap.size + 1 + 1, 1, none⟩ (.slice q1 m1 d1)).setCell ⟨w.heap.size + 1 + 1, 2, none⟩ (.slice q2 m2 d2)) (fun k => k = w.heap.size + 1 + 1)) := ((frm_set _ _ _ _ (F := fun k => k = w.heap.size + 1 + 1) (.inl rfl)).trans (frm_set _ _ _ _ (F := fun k => k = w.heap.size + 1 + 1) (.inl rfl)) (fun k hk => .inl hk)).trans (frm_set _ _ _ _ (F := fun k => k = w.heap.size + 1 + 1) (.inl rfl)) (fun k hk => .inl hk)
                have HR : Hid (Blk (((wN.setCell ⟨w.heap.size + 1 + 1, 0, none⟩ (.slice q0 m0 d0)).setCell ⟨w.heap.size + 1 + 1, 1, none⟩ (.slice q1 m1 d1)).setCell ⟨w.heap.size + 1 + 1, 2, none⟩ (.slice q2 m2 d2)) (w.heap.size + 1 + 1) #[.slice q0 m0 d0, .slice q1 m1 d1, .slice q2 m2 d2] 25) := ((HRs.out.set 0 _).set 1 _).set 2 _
                refine wpL_one 20 rfl (by kernel_rfl) (by rfl) ?_
                intro K hK
                go_simp
                refine hK.out _ _ (fun h => absurd rfl h) ?_
                clear hK K
                try simp only [Act.put, List.setIfInBounds_toArray, List.set_cons_zero, List.set_cons_succ]
                clear c0 c1 c2 f0 f1 f2
                generalize ((wN.setCell ⟨w.heap.size + 1 + 1, 0, none⟩ (.slice q0 m0 d0)).setCell ⟨w.heap.size + 1 + 1, 1, none⟩ (.slice q1 m1 d1)).setCell ⟨w.heap.size + 1 + 1, 2, none⟩ (.slice q2 m2 d2) = we at *
                have HSE : Hid (Blk we w.heap.size #[.slice pa0 na0 ca0, .slice pa1 na1 ca1, .slice pa2 na2 ca2] 25 ∧ Blk we (w.heap.size + 1) #[.slice pb0 nb0 cb0, .slice pb1 nb1 cb1, .slice pb2 nb2 cb2] 25) := ⟨HSM.out.1.frm HF.out (by omega), HSM.out.2.frm HF.out (by omega)⟩
                refine wpL_one 21 rfl (by kernel_rfl) (by rfl) ?_
                intro K hK
                go_simp
                refine hK.out _ _ (fun _ => HSE.out) ?_
                clear hK K
                try simp only [Act.put, List.setIfInBounds_toArray, List.set_cons_zero, List.set_cons_succ]
                refine wpL_done (by kernel_rfl) ?_ _
                try simp only [NoPanic]
                have r0 := HR.out.cell (i := 0) rfl
                have r1 := HR.out.cell (i := 1) rfl
                have r2 := HR.out.cell (i := 2) rfl
                go_wp2_with fail
                refine bodyPost_ret (v := .tuple #[.agg #[.slice q0 m0 d0, .slice q1 m1 d1, .slice q2 m2 d2], .int .i64 0]) (by simp [results, Try.results18, go_sem, r0, r1, r2]) rfl ?_
                exact mg_end HCM.out HO.out HF.out HZN.out HBw7.out HBN.out hz7
              · intro K hK
                go_simp
                have hbz23 : Below z18.heap.size z18 (z18.alloc (.cells #[.slice pa2 na2 ca2, .slice pb2 nb2 cb2] 22)) := (Below.refl _ _).alloc (Nat.le_refl _) _
                have hkz23 : Blk (z18.alloc (.cells #[.slice pa2 na2 ca2, .slice pb2 nb2 cb2] 22)) z18.heap.size #[.slice pa2 na2 ca2, .slice pb2 nb2 cb2] 22 := Blk.new z18 _ _
                generalize (z18.alloc (.cells #[.slice pa2 na2 ca2, .slice pb2 nb2 cb2] 22)) = z23 at *
                have HBz23 : Hid (Below w7.heap.size w7 z23 ∧ (Blk z23 w.heap.size #[.slice pa0 na0 ca0, .slice pa1 na1 ca1, .slice pa2 na2 ca2] 25 ∧ Blk z23 (w.heap.size + 1) #[.slice pb0 nb0 cb0, .slice pb1 nb1 cb1, .slice pb2 nb2 cb2] 25)) := ⟨HBz18.out.1.trans ((hbz23).mono HBz18.out.1.size), HBz18.out.2.1.on (hbz23), HBz18.out.2.2.on (hbz23)⟩
                have B1z23 : Hid (Blk z23 (z1.heap.size) #[.slice pa1 na1 ca1, .slice pb1 nb1 cb1] 23) := B1z18.out.on (hbz23)
                have X0z23 : Hid (OwnP z23 w7.heap.size x0z18 (a.P ++ b.P)) := X0z18.out.kept (hbz23)
                clear HBz18 B1z18 X0z18
                have B2z23 : Hid (Blk z23 z18.heap.size #[.slice pa2 na2 ca2, .slice pb2 nb2 cb2] 22) := hkz23
                clear hbz23 hkz23
                refine hK.out _ _ (fun _ => HBz23.out.2) ?_
                clear hK K
                try simp only [Act.put, List.setIfInBounds_toArray, List.set_cons_zero, List.set_cons_succ]
                refine wpL_one 11 rfl (by kernel_rfl) (by rfl) ?_
                intro K hK
                go_simp
                have Cz24 : Hid (Calls Try.prog 41 #[.slice (some ⟨z1.heap.size, 0, none⟩) 2 2] z23 fun e w' => (∃ v, e = .returned v ∧ OwnS w' z23.heap.size v [a.S, b.S].flatten) ∧ Below z23.heap.size z23 w') := concatS_any [a.S, b.S] (z1.heap.size) z23 B1z23.out.lt (pair17 B1z23.out (HRa.out.s.on HBz23.out.1) (HRb.out.s.on HBz23.out.1)) (by simp) (len17 HLa.out.2.1 HLb.out.2.1)
                refine Cz24.out.mono ?_
                rintro e z24 ⟨⟨x1z24, rfl, hoz24⟩, hbz24⟩
                dsimp only
                have HZz24 : Hid (w7.heap.size ≤ z23.heap.size) := HBz23.out.1.size
                have HBz24 : Hid (Below w7.heap.size w7 z24 ∧ (Blk z24 w.heap.size #[.slice pa0 na0 ca0, .slice pa1 na1 ca1, .slice pa2 na2 ca2] 25 ∧ Blk z24 (w.heap.size + 1) #[.slice pb0 nb0 cb0, .slice pb1 nb1 cb1, .slice pb2 nb2 cb2] 25)) := ⟨HBz23.out.1.trans ((hbz24).mono HBz23.out.1.size), HBz23.out.2.1.on (hbz24), HBz23.out.2.2.on (hbz24)⟩
                have X0z24 : Hid (OwnP z24 w7.heap.size x0z18 (a.P ++ b.P)) := X0z23.out.kept (hbz24)
                have B2z24 : Hid (Blk z24 (z18.heap.size) #[.slice pa2 na2 ca2, .slice pb2 nb2 cb2] 22) := B2z23.out.on (hbz24)
                clear HBz23 X0z23 B2z23
                have X1z24 : Hid (OwnS z24 w7.heap.size x1z24 (a.S ++ b.S)) := (show OwnS _ _ _ _ by have h := hoz24; rw [flat_two] at h; exact h.mono HZz24.out)
                clear Cz24 hoz24 hbz24 B1z23
                refine hK.out _ _ (fun _ => HBz24.out.2) ?_
                clear hK K
                try simp only [Act.put, List.setIfInBounds_toArray, List.set_cons_zero, List.set_cons_succ]
                refine wpL_one 17 rfl (by kernel_rfl) (by rfl) ?_
                intro K hK
                go_simp
                have Cz25 : Hid (Calls Try.prog 40 #[.slice (some ⟨z18.heap.size, 0, none⟩) 2 2] z24 fun e w' => (∃ v, e = .returned v ∧ OwnP w' z24.heap.size v [a.W, b.W].flatten) ∧ Below z24.heap.size z24 w') := concatP_any [a.W, b.W] (z18.heap.size) z24 B2z24.out.lt (pair17 B2z24.out (HRa.out.w.on HBz24.out.1) (HRb.out.w.on HBz24.out.1)) (by simp) (len17 HLa.out.2.2 HLb.out.2.2)
                refine Cz25.out.mono ?_
                rintro e z25 ⟨⟨x2z25, rfl, hoz25⟩, hbz25⟩
                dsimp only
                have HZz25 : Hid (w7.heap.size ≤ z24.heap.size) := HBz24.out.1.size
                have HBz25 : Hid (Below w7.heap.size w7 z25 ∧ (Blk z25 w.heap.size #[.slice pa0 na0 ca0, .slice pa1 na1 ca1, .slice pa2 na2 ca2] 25 ∧ Blk z25 (w.heap.size + 1) #[.slice pb0 nb0 cb0, .slice pb1 nb1 cb1, .slice pb2 nb2 cb2] 25)) := ⟨HBz24.out.1.trans ((hbz25).mono HBz24.out.1.size), HBz24.out.2.1.on (hbz25), HBz24.out.2.2.on (hbz25)⟩
                have X0z25 : Hid (OwnP z25 w7.heap.size x0z18 (a.P ++ b.P)) := X0z24.out.kept (hbz25)
                have X1z25 : Hid (OwnS z25 w7.heap.size x1z24 (a.S ++ b.S)) := X1z24.out.kept (hbz25)
                clear HBz24 X0z24 X1z24
                have X2z25 : Hid (OwnP z25 w7.heap.size x2z25 (a.W ++ b.W)) := (show OwnP _ _ _ _ by have h := hoz25; rw [flat_two] at h; exact h.mono HZz25.out)
                clear Cz25 hoz25 hbz25 B2z24
                refine hK.out _ _ (fun _ => HBz25.out.2) ?_
                clear hK K
                try simp only [Act.put, List.setIfInBounds_toArray, List.set_cons_zero, List.set_cons_succ]
                obtain ⟨px0, nx0, cx0, ex0⟩ : ∃ p n c, x0z18 = .slice p n c := by
                  obtain ⟨p, c, e, _⟩ := X0z25.out.row
                  exact ⟨_, _, _, e⟩
                obtain ⟨px1, nx1, cx1, ex1⟩ : ∃ p n c, x1z24 = .slice p n c := by
                  obtain ⟨p, c, e, _⟩ := X1z25.out.row
                  exact ⟨_, _, _, e⟩
                obtain ⟨px2, nx2, cx2, ex2⟩ : ∃ p n c, x2z25 = .slice p n c := by
                  obtain ⟨p, c, e, _⟩ := X2z25.out.row
                  exact ⟨_, _, _, e⟩
                subst ex0 ex1 ex2
                have HRf : Hid (RdF z25 (.slice px0 nx0 cx0) (.slice px1 nx1 cx1) (.slice px2 nx2 cx2) (a.bth b)) := bth_rd X0z25.out X1z25.out X2z25.out HLa.out HLb.out
                have HSN : Hid (Blk z25 w.heap.size #[.slice pa0 na0 ca0, .slice pa1 na1 ca1, .slice pa2 na2 ca2] 25 ∧ Blk z25 (w.heap.size + 1) #[.slice pb0 nb0 cb0, .slice pb1 nb1 cb1, .slice pb2 nb2 cb2] 25) := HBz25.out.2
                refine wpL_take (v := ?_) 18 rfl (by kernel_rfl) (fun _ _ _ h => h) (by rfl) ?_ HSN.out ?_
                rotate_left
                focus
                  intro w9 hw9
                  have k0 := Blk.cell hw9.1 (i := 0) rfl
                  have k1 := Blk.cell hw9.1 (i := 1) rfl
                  have k2 := Blk.cell hw9.1 (i := 2) rfl
                  have k3 := Blk.cell hw9.2 (i := 0) rfl
                  have k4 := Blk.cell hw9.2 (i := 1) rfl
                  have k5 := Blk.cell hw9.2 (i := 2) rfl
                  go_simp
                  try with_reducible rfl
                try simp only [Act.put, List.setIfInBounds_toArray, List.set_cons_zero, List.set_cons_succ]
                refine wpL_one 19 rfl (by kernel_rfl) (by rfl) ?_
                intro K hK
                go_simp
                have CN : Hid (Calls _ _ _ _ _) := normal_any (a.bth b) (.slice px0 nx0 cx0) (.slice px1 nx1 cx1) (.slice px2 nx2 cx2) z25 HRf.out HLs.out
                refine CN.out.mono ?_
                rintro e wN ⟨y0, y1, y2, g, rfl, h0, h1, h2, hN, hbN⟩
                dsimp only
                refine hK.out _ _ (fun _ => ⟨HSN.out.1.on hbN, HSN.out.2.on hbN⟩) ?_
                clear hK K CN
                try simp only [Act.put, List.setIfInBounds_toArray, List.set_cons_zero, List.set_cons_succ]
                obtain ⟨q0, m0, d0, ey0⟩ : ∃ p n c, y0 = .slice p n c := by
                  obtain ⟨p, c, e, _⟩ := h0.row
                  exact ⟨_, _, _, e⟩
                obtain ⟨q1, m1, d1, ey1⟩ : ∃ p n c, y1 = .slice p n c := by
                  obtain ⟨p, c, e, _⟩ := h1.row
                  exact ⟨_, _, _, e⟩
                obtain ⟨q2, m2, d2, ey2⟩ : ∃ p n c, y2 = .slice p n c := by
                  obtain ⟨p, c, e, _⟩ := h2.row
                  exact ⟨_, _, _, e⟩
                subst ey0 ey1 ey2
                have HO : Hid (OwnP wN z25.heap.size (.slice q0 m0 d0) g.P ∧ OwnS wN z25.heap.size (.slice q1 m1 d1) g.S ∧ OwnP wN z25.heap.size (.slice q2 m2 d2) g.W ∧ NrmF (a.bth b) g) := ⟨h0, h1, h2, hN⟩
                have HBN : Hid (Below w7.heap.size w7 wN) := HBz25.out.1.trans (hbN.mono HBz25.out.1.size)
                have HZN : Hid (w7.heap.size ≤ z25.heap.size) := HBz25.out.1.size
                have HRs : Hid (Blk wN (w.heap.size + 1 + 1) #[.slice none 0 0, .slice none 0 0, .slice none 0 0] 25) := HRes.out.on HBN.out
                have HSM : Hid (Blk wN w.heap.size #[.slice pa0 na0 ca0, .slice pa1 na1 ca1, .slice pa2 na2 ca2] 25 ∧ Blk wN (w.heap.size + 1) #[.slice pb0 nb0 cb0, .slice pb1 nb1 cb1, .slice pb2 nb2 cb2] 25) := ⟨HSN.out.1.on hbN, HSN.out.2.on hbN⟩
                clear h0 h1 h2 hN hbN HRf HSN HBz25 X0z25 X1z25 X2z25 HLa HLb HLs HRa HRb HSz HEn
                have c0 := HRs.out.cell (i := 0) rfl
                have c1 := HRs.out.cell (i := 1) rfl
                have c2 := HRs.out.cell (i := 2) rfl
                have f0 := HRs.out.frozen 0
                have f1 := HRs.out.frozen 1
                have f2 := HRs.out.frozen 2
                have HF : Hid (Frm wN (((wN.setCell ⟨w.heap.size + 1 + 1, 0, none⟩ (.slice q0 m0 d0)).setCell ⟨w.heap.size + 1 + 1, 1, none⟩ (.slice q1 m1 d1)).setCell ⟨w.heap.size + 1 + 1, 2, none⟩ (.slice q2 m2 d2)) (fun k => k = w.heap.size + 1 + 1)) := ((frm_set _ _ _ _ (F := fun k => k = w.heap.size + 1 + 1) (.inl rfl)).trans (frm_set _ _ _ _ (F := fun k => k = w.heap.size + 1 + 1) (.inl rfl)) (fun k hk => .inl hk)).trans (frm_set _ _ _ _ (F := fun k => k = w.heap.size + 1 + 1) (.inl rfl)) (fun k hk => .inl hk)
                have HR : Hid (Blk (((wN.setCell ⟨w.heap.size + 1 + 1, 0, none⟩ (.slice q0 m0 d0)).setCell ⟨w.heap.size + 1 + 1, 1, none⟩ (.slice q1 m1 d1)).setCell ⟨w.heap.size + 1 + 1, 2, none⟩ (.slice q2 m2 d2)) (w.heap.size + 1 + 1) #[.slice q0 m0 d0, .slice q1 m1 d1, .slice q2 m2 d2] 25) := ((HRs.out.set 0 _).set 1 _).set 2 _
                refine wpL_one 20 rfl (by kernel_rfl) (by rfl) ?_
                intro K hK
                go_simp
                refine hK.out _ _ (fun h => absurd rfl h) ?_
                clear hK K
                try simp only [Act.put, List.setIfInBounds_toArray, List.set_cons_zero, List.set_cons_succ]
                clear c0 c1 c2 f0 f1 f2
                generalize ((wN.setCell ⟨w.heap.size + 1 + 1, 0, none⟩ (.slice q0 m0 d0)).setCell ⟨w.heap.size + 1 + 1, 1, none⟩ (.slice q1 m1 d1)).setCell ⟨w.heap.size + 1 + 1, 2, none⟩ (.slice q2 m2 d2) = we at *
                have HSE : Hid (Blk we w.heap.size #[.slice pa0 na0 ca0, .slice pa1 na1 ca1, .slice pa2 na2 ca2] 25 ∧ Blk we (w.heap.size + 1) #[.slice pb0 nb0 cb0, .slice pb1 nb1 cb1, .slice pb2 nb2 cb2] 25) := ⟨HSM.out.1.frm HF.out (by omega), HSM.out.2.frm HF.out (by omega)⟩
                refine wpL_one 21 rfl (by kernel_rfl) (by rfl) ?_
                intro K hK
                go_simp
                refine hK.out _ _ (fun _ => HSE.out) ?_
                clear hK K
                try simp only [Act.put, List.setIfInBounds_toArray, List.set_cons_zero, List.set_cons_succ]
                refine wpL_done (by kernel_rfl) ?_ _
                try simp only [NoPanic]
                have r0 := HR.out.cell (i := 0) rfl
                have r1 := HR.out.cell (i := 1) rfl
                have r2 := HR.out.cell (i := 2) rfl
                go_wp2_with fail
                refine bodyPost_ret (v := .tuple #[.agg #[.slice q0 m0 d0, .slice q1 m1 d1, .slice q2 m2 d2], .int .i64 0]) (by simp [results, Try.results18, go_sem, r0, r1, r2]) rfl ?_
                exact mg_end HCM.out HO.out HF.out HZN.out HBw7.out HBN.out hz7
            · intro K hK
              go_simp
              have hbz27 : Below z17.heap.size z17 (z17.alloc (.cells #[.slice pa2 na2 ca2, .slice pb2 nb2 cb2] 22)) := (Below.refl _ _).alloc (Nat.le_refl _) _
              have hkz27 : Blk (z17.alloc (.cells #[.slice pa2 na2 ca2, .slice pb2 nb2 cb2] 22)) z17.heap.size #[.slice pa2 na2 ca2, .slice pb2 nb2 cb2] 22 := Blk.new z17 _ _
              generalize (z17.alloc (.cells #[.slice pa2 na2 ca2, .slice pb2 nb2 cb2] 22)) = z27 at *
              have HBz27 : Hid (Below w7.heap.size w7 z27 ∧ (Blk z27 w.heap.size #[.slice pa0 na0 ca0, .slice pa1 na1 ca1, .slice pa2 na2 ca2] 25 ∧ Blk z27 (w.heap.size + 1) #[.slice pb0 nb0 cb0, .slice pb1 nb1 cb1, .slice pb2 nb2 cb2] 25)) := ⟨HBz17.out.1.trans ((hbz27).mono HBz17.out.1.size), HBz17.out.2.1.on (hbz27), HBz17.out.2.2.on (hbz27)⟩
              have B0z27 : Hid (Blk z27 (w7.heap.size) #[.slice pa0 na0 ca0, .slice pb0 nb0 cb0] 22) := B0z17.out.on (hbz27)
              have B1z27 : Hid (Blk z27 (z1.heap.size) #[.slice pa1 na1 ca1, .slice pb1 nb1 cb1] 23) := B1z17.out.on (hbz27)
              clear HBz17 B0z17 B1z17
              have B2z27 : Hid (Blk z27 z17.heap.size #[.slice pa2 na2 ca2, .slice pb2 nb2 cb2] 22) := hkz27
              clear hbz27 hkz27
              refine hK.out _ _ (fun _ => HBz27.out.2) ?_
              clear hK K
              try simp only [Act.put, List.setIfInBounds_toArray, List.set_cons_zero, List.set_cons_succ]
              refine wpL_one 5 rfl (by kernel_rfl) (by rfl) ?_
              intro K hK
              go_simp
              have Cz28 : Hid (Calls Try.prog 40 #[.slice (some ⟨w7.heap.size, 0, none⟩) 2 2] z27 fun e w' => (∃ v, e = .returned v ∧ OwnP w' z27.heap.size v [a.P, b.P].flatten) ∧ Below z27.heap.size z27 w') := concatP_any [a.P, b.P] (w7.heap.size) z27 B0z27.out.lt (pair17 B0z27.out (HRa.out.p.on HBz27.out.1) (HRb.out.p.on HBz27.out.1)) (by simp) (len17 HLa.out.1 HLb.out.1)
              refine Cz28.out.mono ?_
              rintro e z28 ⟨⟨x0z28, rfl, hoz28⟩, hbz28⟩
              dsimp only
              have HZz28 : Hid (w7.heap.size ≤ z27.heap.size) := HBz27.out.1.size
              have HBz28 : Hid (Below w7.heap.size w7 z28 ∧ (Blk z28 w.heap.size #[.slice pa0 na0 ca0, .slice pa1 na1 ca1, .slice pa2 na2 ca2] 25 ∧ Blk z28 (w.heap.size + 1) #[.slice pb0 nb0 cb0, .slice pb1 nb1 cb1, .slice pb2 nb2 cb2] 25)) := ⟨HBz27.out.1.trans ((hbz28).mono HBz27.out.1.size), HBz27.out.2.1.on (hbz28), HBz27.out.2.2.on (hbz28)⟩
              have B1z28 : Hid (Blk z28 (z1.heap.size) #[.slice pa1 na1 ca1, .slice pb1 nb1 cb1] 23) := B1z27.out.on (hbz28)
              have B2z28 : Hid (Blk z28 (z17.heap.size) #[.slice pa2 na2 ca2, .slice pb2 nb2 cb2] 22) := B2z27.out.on (hbz28)
              clear HBz27 B1z27 B2z27
              have X0z28 : Hid (OwnP z28 w7.heap.size x0z28 (a.P ++ b.P)) := (show OwnP _ _ _ _ by have h := hoz28; rw [flat_two] at h; exact h.mono HZz28.out)
              clear Cz28 hoz28 hbz28 B0z27
              refine hK.out _ _ (fun _ => HBz28.out.2) ?_
              clear hK K
              try simp only [Act.put, List.setIfInBounds_toArray, List.set_cons_zero, List.set_cons_succ]
              refine wpL_one 11 rfl (by kernel_rfl) (by rfl) ?_
              intro K hK
              go_simp
              have Cz29 : Hid (Calls Try.prog 41 #[.slice (some ⟨z1.heap.size, 0, none⟩) 2 2] z28 fun e w' => (∃ v, e = .returned v ∧ OwnS w' z28.heap.size v [a.S, b.S].flatten) ∧ Below z28.heap.size z28 w') := concatS_any [a.S, b.S] (z1.heap.size) z28 B1z28.out.lt (pair17 B1z28.out (HRa.out.s.on HBz28.out.1) (HRb.out.s.on HBz28.out.1)) (by simp) (len17 HLa.out.2.1 HLb.out.2.1)
              refine Cz29.out.mono ?_
              rintro e z29 ⟨⟨x1z29, rfl, hoz29⟩, hbz29⟩
              dsimp only
              have HZz29 : Hid (w7.heap.size ≤ z28.heap.size) := HBz28.out.1.size
              have HBz29 : Hid (Below w7.heap.size w7 z29 ∧ (Blk z29 w.heap.size #[.slice pa0 na0 ca0, .slice pa1 na1 ca1, .slice pa2 na2 ca2] 25 ∧ Blk z29 (w.heap.size + 1) #[.slice pb0 nb0 cb0, .slice pb1 nb1 cb1, .slice pb2 nb2 cb2] 25)) := ⟨HBz28.out.1.trans ((hbz29).mono HBz28.out.1.size), HBz28.out.2.1.on (hbz29), HBz28.out.2.2.on (hbz29)⟩
              have B2z29 : Hid (Blk z29 (z17.heap.size) #[.slice pa2 na2 ca2, .slice pb2 nb2 cb2] 22) := B2z28.out.on (hbz29)
              have X0z29 : Hid (OwnP z29 w7.heap.size x0z28 (a.P ++ b.P)) := X0z28.out.kept (hbz29)
              clear HBz28 B2z28 X0z28
              have X1z29 : Hid (OwnS z29 w7.heap.size x1z29 (a.S ++ b.S)) := (show OwnS _ _ _ _ by have h := hoz29; rw [flat_two] at h; exact h.mono HZz29.out)
              clear Cz29 hoz29 hbz29 B1z28
              refine hK.out _ _ (fun _ => HBz29.out.2) ?_
              clear hK K
              try simp only [Act.put, List.setIfInBounds_toArray, List.set_cons_zero, List.set_cons_succ]
              refine wpL_one 17 rfl (by kernel_rfl) (by rfl) ?_
              intro K hK
              go_simp
              have Cz30 : Hid (Calls Try.prog 40 #[.slice (some ⟨z17.heap.size, 0, none⟩) 2 2] z29 fun e w' => (∃ v, e = .returned v ∧ OwnP w' z29.heap.size v [a.W, b.W].flatten) ∧ Below z29.heap.size z29 w') := concatP_any [a.W, b.W] (z17.heap.size) z29 B2z29.out.lt (pair17 B2z29.out (HRa.out.w.on HBz29.out.1) (HRb.out.w.on HBz29.out.1)) (by simp) (len17 HLa.out.2.2 HLb.out.2.2)
              refine Cz30.out.mono ?_
              rintro e z30 ⟨⟨x2z30, rfl, hoz30⟩, hbz30⟩
              dsimp only
              have HZz30 : Hid (w7.heap.size ≤ z29.heap.size) := HBz29.out.1.size
              have HBz30 : Hid (Below w7.heap.size w7 z30 ∧ (Blk z30 w.heap.size #[.slice pa0 na0 ca0, .slice pa1 na1 ca1, .slice pa2 na2 ca2] 25 ∧ Blk z30 (w.heap.size + 1) #[.slice pb0 nb0 cb0, .slice pb1 nb1 cb1, .slice pb2 nb2 cb2] 25)) := ⟨HBz29.out.1.trans ((hbz30).mono HBz29.out.1.size), HBz29.out.2.1.on (hbz30), HBz29.out.2.2.on (hbz30)⟩
              have X0z30 : Hid (OwnP z30 w7.heap.size x0z28 (a.P ++ b.P)) := X0z29.out.kept (hbz30)
              have X1z30 : Hid (OwnS z30 w7.heap.size x1z29 (a.S ++ b.S)) := X1z29.out.kept (hbz30)
              clear HBz29 X0z29 X1z29
              have X2z30 : Hid (OwnP z30 w7.heap.size x2z30 (a.W ++ b.W)) := (show OwnP _ _ _ _ by have h := hoz30; rw [flat_two] at h; exact h.mono HZz30.out)
              clear Cz30 hoz30 hbz30 B2z29
              refine hK.out _ _ (fun _ => HBz30.out.2) ?_
              clear hK K
              try simp only [Act.put, List.setIfInBounds_toArray, List.set_cons_zero, List.set_cons_succ]
              obtain ⟨px0, nx0, cx0, ex0⟩ : ∃ p n c, x0z28 = .slice p n c := by
                obtain ⟨p, c, e, _⟩ := X0z30.out.row
                exact ⟨_, _, _, e⟩
              obtain ⟨px1, nx1, cx1, ex1⟩ : ∃ p n c, x1z29 = .slice p n c := by
                obtain ⟨p, c, e, _⟩ := X1z30.out.row
                exact ⟨_, _, _, e⟩
              obtain ⟨px2, nx2, cx2, ex2⟩ : ∃ p n c, x2z30 = .slice p n c := by
                obtain ⟨p, c, e, _⟩ := X2z30.out.row
                exact ⟨_, _, _, e⟩
              subst ex0 ex1 ex2
              have HRf : Hid (RdF z30 (.slice px0 nx0 cx0) (.slice px1 nx1 cx1) (.slice px2 nx2 cx2) (a.bth b)) := bth_rd X0z30.out X1z30.out X2z30.out HLa.out HLb.out
              have HSN : Hid (Blk z30 w.heap.size #[.slice pa0 na0 ca0, .slice pa1 na1 ca1, .slice pa2 na2 ca2] 25 ∧ Blk z30 (w.heap.size + 1) #[.slice pb0 nb0 cb0, .slice pb1 nb1 cb1, .slice pb2 nb2 cb2] 25) := HBz30.out.2
              refine wpL_take (v := ?_) 18 rfl (by kernel_rfl) (fun _ _ _ h => h) (by rfl) ?_ HSN.out ?_
              rotate_left
              focus
                intro w9 hw9
                have k0 := Blk.cell hw9.1 (i := 0) rfl
                have k1 := Blk.cell hw9.1 (i := 1) rfl
                have k2 := Blk.cell hw9.1 (i := 2) rfl
                have k3 := Blk.cell hw9.2 (i := 0) rfl
                have k4 := Blk.cell hw9.2 (i := 1) rfl
                have k5 := Blk.cell hw9.2 (i := 2) rfl
                go_simp
                try with_reducible rfl
              try simp only [Act.put, List.setIfInBounds_toArray, List.set_cons_zero, List.set_cons_succ]
              refine wpL_one 19 rfl (by kernel_rfl) (by rfl) ?_
              intro K hK
              go_simp
              have CN : Hid (Calls _ _ _ _ _) := normal_any (a.bth b) (.slice px0 nx0 cx0) (.slice px1 nx1 cx1) (.slice px2 nx2 cx2) z30 HRf.out HLs.out
              refine CN.out.mono ?_
              rintro e wN ⟨y0, y1, y2, g, rfl, h0, h1, h2, hN, hbN⟩
              dsimp only
              refine hK.out _ _ (fun _ => ⟨HSN.out.1.on hbN, HSN.out.2.on hbN⟩) ?_
              clear hK K CN
              try simp only [Act.put, List.setIfInBounds_toArray, List.set_cons_zero, List.set_cons_succ]
              obtain ⟨q0, m0, d0, ey0⟩ : ∃ p n c, y0 = .slice p n c := by
                obtain ⟨p, c, e, _⟩ := h0.row
                exact ⟨_, _, _, e⟩
              obtain ⟨q1, m1, d1, ey1⟩ : ∃ p n c, y1 = .slice p n c := by
                obtain ⟨p, c, e, _⟩ := h1.row
                exact ⟨_, _, _, e⟩
              obtain ⟨q2, m2, d2, ey2⟩ : ∃ p n c, y2 = .slice p n c := by
                obtain ⟨p, c, e, _⟩ := h2.row
                exact ⟨_, _, _, e⟩
              subst ey0 ey1 ey2
              have HO : Hid (OwnP wN z30.heap.size (.slice q0 m0 d0) g.P ∧ OwnS wN z30.heap.size (.slice q1 m1 d1) g.S ∧ OwnP wN z30.heap.size (.slice q2 m2 d2) g.W ∧ NrmF (a.bth b) g) := ⟨h0, h1, h2, hN⟩
              have HBN : Hid (Below w7.heap.size w7 wN) := HBz30.out.1.trans (hbN.mono HBz30.out.1.size)
              have HZN : Hid (w7.heap.size ≤ z30.heap.size) := HBz30.out.1.size
              have HRs : Hid (Blk wN (w.heap.size + 1 + 1) #[.slice none 0 0, .slice none 0 0, .slice none 0 0] 25) := HRes.out.on HBN.out
              have HSM : Hid (Blk wN w.heap.size #[.slice pa0 na0 ca0, .slice pa1 na1 ca1, .slice pa2 na2 ca2] 25 ∧ Blk wN (w.heap.size + 1) #[.slice pb0 nb0 cb0, .slice pb1 nb1 cb1, .slice pb2 nb2 cb2] 25) := ⟨HSN.out.1.on hbN, HSN.out.2.on hbN⟩
              clear h0 h1 h2 hN hbN HRf HSN HBz30 X0z30 X1z30 X2z30 HLa HLb HLs HRa HRb HSz HEn
              have c0 := HRs.out.cell (i := 0) rfl
              have c1 := HRs.out.cell (i := 1) rfl
              have c2 := HRs.out.cell (i := 2) rfl
              have f0 := HRs.out.frozen 0
              have f1 := HRs.out.frozen 1
              have f2 := HRs.out.frozen 2
              have HF : Hid (Frm wN (((wN.setCell ⟨w.heap.size + 1 + 1, 0, none⟩ (.slice q0 m0 d0)).setCell ⟨w.heap.size + 1 + 1, 1, none⟩ (.slice q1 m1 d1)).setCell ⟨w.heap.size + 1 + 1, 2, none⟩ (.slice q2 m2 d2)) (fun k => k = w.heap.size + 1 + 1)) := ((frm_set _ _ _ _ (F := fun k => k = w.heap.size + 1 + 1) (.inl rfl)).trans (frm_set _ _ _ _ (F := fun k => k = w.heap.size + 1 + 1) (.inl rfl)) (fun k hk => .inl hk)).trans (frm_set _ _ _ _ (F := fun k => k = w.heap.size + 1 + 1) (.inl rfl)) (fun k hk => .inl hk)
              have HR : Hid (Blk (((wN.setCell ⟨w.heap.size + 1 + 1, 0, none⟩ (.slice q0 m0 d0)).setCell ⟨w.heap.size + 1 + 1, 1, none⟩ (.slice q1 m1 d1)).setCell ⟨w.heap.size + 1 + 1, 2, none⟩ (.slice q2 m2 d2)) (w.heap.size + 1 + 1) #[.slice q0 m0 d0, .slice q1 m1 d1, .slice q2 m2 d2] 25) := ((HRs.out.set 0 _).set 1 _).set 2 _
              refine wpL_one 20 rfl (by kernel_rfl) (by rfl) ?_
              intro K hK
              go_simp
              refine hK.out _ _ (fun h => absurd rfl h) ?_
              clear hK K
              try simp only [Act.put, List.setIfInBounds_toArray, List.set_cons_zero, List.set_cons_succ]
              clear c0 c1 c2 f0 f1 f2
              generalize ((wN.setCell ⟨w.heap.size + 1 + 1, 0, none⟩ (.slice q0 m0 d0)).setCell ⟨w.heap.size + 1 + 1, 1, none⟩ (.slice q1 m1 d1)).setCell ⟨w.heap.size + 1 + 1, 2, none⟩ (.slice q2 m2 d2) = we at *
              have HSE : Hid (Blk we w.heap.size #[.slice pa0 na0 ca0, .slice pa1 na1 ca1, .slice pa2 na2 ca2] 25 ∧ Blk we (w.heap.size + 1) #[.slice pb0 nb0 cb0, .slice pb1 nb1 cb1, .slice pb2 nb2 cb2] 25) := ⟨HSM.out.1.frm HF.out (by omega), HSM.out.2.frm HF.out (by omega)⟩
              refine wpL_one 21 rfl (by kernel_rfl) (by rfl) ?_
              intro K hK
              go_simp
              refine hK.out _ _ (fun _ => HSE.out) ?_
              clear hK K
              try simp only [Act.put, List.setIfInBounds_toArray, List.set_cons_zero, List.set_cons_succ]
              refine wpL_done (by kernel_rfl) ?_ _
              try simp only [NoPanic]
              have r0 := HR.out.cell (i := 0) rfl
              have r1 := HR.out.cell (i := 1) rfl
              have r2 := HR.out.cell (i := 2) rfl
              go_wp2_with fail
              refine bodyPost_ret (v := .tuple #[.agg #[.slice q0 m0 d0, .slice q1 m1 d1, .slice q2 m2 d2], .int .i64 0]) (by simp [results, Try.results18, go_sem, r0, r1, r2]) rfl ?_
              exact mg_end HCM.out HO.out HF.out HZN.out HBw7.out HBN.out hz7
          · intro K hK
            go_simp
            have hbz32 : Below z1.heap.size z1 (z1.alloc (.cells #[.slice pa2 na2 ca2, .slice pb2 nb2 cb2] 22)) := (Below.refl _ _).alloc (Nat.le_refl _) _
            have hkz32 : Blk (z1.alloc (.cells #[.slice pa2 na2 ca2, .slice pb2 nb2 cb2] 22)) z1.heap.size #[.slice pa2 na2 ca2, .slice pb2 nb2 cb2] 22 := Blk.new z1 _ _
            generalize (z1.alloc (.cells #[.slice pa2 na2 ca2, .slice pb2 nb2 cb2] 22)) = z32 at *
            have HBz32 : Hid (Below w7.heap.size w7 z32 ∧ (Blk z32 w.heap.size #[.slice pa0 na0 ca0, .slice pa1 na1 ca1, .slice pa2 na2 ca2] 25 ∧ Blk z32 (w.heap.size + 1) #[.slice pb0 nb0 cb0, .slice pb1 nb1 cb1, .slice pb2 nb2 cb2] 25)) := ⟨HBz1.out.1.trans ((hbz32).mono HBz1.out.1.size), HBz1.out.2.1.on (hbz32), HBz1.out.2.2.on (hbz32)⟩
            have B0z32 : Hid (Blk z32 (w7.heap.size) #[.slice pa0 na0 ca0, .slice pb0 nb0 cb0] 22) := B0z1.out.on (hbz32)
            clear HBz1 B0z1
            have B2z32 : Hid (Blk z32 z1.heap.size #[.slice pa2 na2 ca2, .slice pb2 nb2 cb2] 22) := hkz32
            clear hbz32 hkz32
            refine hK.out _ _ (fun _ => HBz32.out.2) ?_
            clear hK K
            try simp only [Act.put, List.setIfInBounds_toArray, List.set_cons_zero, List.set_cons_succ]
            refine wpL_two17 5 10 rfl rfl (by kernel_rfl) (by rfl) (by rfl) ?_ ?_
            · intro K hK
              go_simp
              have Cz33 : Hid (Calls Try.prog 40 #[.slice (some ⟨w7.heap.size, 0, none⟩) 2 2] z32 fun e w' => (∃ v, e = .returned v ∧ OwnP w' z32.heap.size v [a.P, b.P].flatten) ∧ Below z32.heap.size z32 w') := concatP_any [a.P, b.P] (w7.heap.size) z32 B0z32.out.lt (pair17 B0z32.out (HRa.out.p.on HBz32.out.1) (HRb.out.p.on HBz32.out.1)) (by simp) (len17 HLa.out.1 HLb.out.1)
              refine Cz33.out.mono ?_
              rintro e z33 ⟨⟨x0z33, rfl, hoz33⟩, hbz33⟩
              dsimp only
              have HZz33 : Hid (w7.heap.size ≤ z32.heap.size) := HBz32.out.1.size
              have HBz33 : Hid (Below w7.heap.size w7 z33 ∧ (Blk z33 w.heap.size #[.slice pa0 na0 ca0, .slice pa1 na1 ca1, .slice pa2 na2 ca2] 25 ∧ Blk z33 (w.heap.size + 1) #[.slice pb0 nb0 cb0, .slice pb1 nb1 cb1, .slice pb2 nb2 cb2] 25)) := ⟨HBz32.out.1.trans ((hbz33).mono HBz32.out.1.size), HBz32.out.2.1.on (hbz33), HBz32.out.2.2.on (hbz33)⟩
              have B2z33 : Hid (Blk z33 (z1.heap.size) #[.slice pa2 na2 ca2, .slice pb2 nb2 cb2] 22) := B2z32.out.on (hbz33)
              clear HBz32 B2z32
              have X0z33 : Hid (OwnP z33 w7.heap.size x0z33 (a.P ++ b.P)) := (show OwnP _ _ _ _ by have h := hoz33; rw [flat_two] at h; exact h.mono HZz33.out)
              clear Cz33 hoz33 hbz33 B0z32
              refine hK.out _ _ (fun _ => HBz33.out.2) ?_
              clear hK K
              try simp only [Act.put, List.setIfInBounds_toArray, List.set_cons_zero, List.set_cons_succ]
              refine wpL_one 10 rfl (by kernel_rfl) (by rfl) ?_
              intro K hK
              go_simp
              have hbz34 : Below z33.heap.size z33 (z33.alloc (.cells #[.slice pa1 na1 ca1, .slice pb1 nb1 cb1] 23)) := (Below.refl _ _).alloc (Nat.le_refl _) _
              have hkz34 : Blk (z33.alloc (.cells #[.slice pa1 na1 ca1, .slice pb1 nb1 cb1] 23)) z33.heap.size #[.slice pa1 na1 ca1, .slice pb1 nb1 cb1] 23 := Blk.new z33 _ _
              generalize (z33.alloc (.cells #[.slice pa1 na1 ca1, .slice pb1 nb1 cb1] 23)) = z34 at *
              have HBz34 : Hid (Below w7.heap.size w7 z34 ∧ (Blk z34 w.heap.size #[.slice pa0 na0 ca0, .slice pa1 na1 ca1, .slice pa2 na2 ca2] 25 ∧ Blk z34 (w.heap.size + 1) #[.slice pb0 nb0 cb0, .slice pb1 nb1 cb1, .slice pb2 nb2 cb2] 25)) := ⟨HBz33.out.1.trans ((hbz34).mono HBz33.out.1.size), HBz33.out.2.1.on (hbz34), HBz33.out.2.2.on (hbz34)⟩
              have B2z34 : Hid (Blk z34 (z1.heap.size) #[.slice pa2 na2 ca2, .slice pb2 nb2 cb2] 22) := B2z33.out.on (hbz34)
              have X0z34 : Hid (OwnP z34 w7.heap.size x0z33 (a.P ++ b.P)) := X0z33.out.kept (hbz34)
              clear HBz33 B2z33 X0z33
              have B1z34 : Hid (Blk z34 z33.heap.size #[.slice pa1 na1 ca1, .slice pb1 nb1 cb1] 23) := hkz34
              clear hbz34 hkz34
              refine hK.out _ _ (fun _ => HBz34.out.2) ?_
              clear hK K
              try simp only [Act.put, List.setIfInBounds_toArray, List.set_cons_zero, List.set_cons_succ]
              refine wpL_one 11 rfl (by kernel_rfl) (by rfl) ?_
              intro K hK
              go_simp
              have Cz35 : Hid (Calls Try.prog 41 #[.slice (some ⟨z33.heap.size, 0, none⟩) 2 2] z34 fun e w' => (∃ v, e = .returned v ∧ OwnS w' z34.heap.size v [a.S, b.S].flatten) ∧ Below z34.heap.size z34 w') := concatS_any [a.S, b.S] (z33.heap.size) z34 B1z34.out.lt (pair17 B1z34.out (HRa.out.s.on HBz34.out.1) (HRb.out.s.on HBz34.out.1)) (by simp) (len17 HLa.out.2.1 HLb.out.2.1)
              refine Cz35.out.mono ?_
              rintro e z35 ⟨⟨x1z35, rfl, hoz35⟩, hbz35⟩
              dsimp only
              have HZz35 : Hid (w7.heap.size ≤ z34.heap.size) := HBz34.out.1.size
              have HBz35 : Hid (Below w7.heap.size w7 z35 ∧ (Blk z35 w.heap.size #[.slice pa0 na0 ca0, .slice pa1 na1 ca1, .slice pa2 na2 ca2] 25 ∧ Blk z35 (w.heap.size + 1) #[.slice pb0 nb0 cb0, .slice pb1 nb1 cb1, .slice pb2 nb2 cb2] 25)) := ⟨HBz34.out.1.trans ((hbz35).mono HBz34.out.1.size), HBz34.out.2.1.on (hbz35), HBz34.out.2.2.on (hbz35)⟩
              have B2z35 : Hid (Blk z35 (z1.heap.size) #[.slice pa2 na2 ca2, .slice pb2 nb2 cb2] 22) := B2z34.out.on (hbz35)
              have X0z35 : Hid (OwnP z35 w7.heap.size x0z33 (a.P ++ b.P)) := X0z34.out.kept (hbz35)
              clear HBz34 B2z34 X0z34
              have X1z35 : Hid (OwnS z35 w7.heap.size x1z35 (a.S ++ b.S)) := (show OwnS _ _ _ _ by have h := hoz35; rw [flat_two] at h; exact h.mono HZz35.out)
              clear Cz35 hoz35 hbz35 B1z34
              refine hK.out _ _ (fun _ => HBz35.out.2) ?_
              clear hK K
              try simp only [Act.put, List.setIfInBounds_toArray, List.set_cons_zero, List.set_cons_succ]
              refine wpL_one 17 rfl (by kernel_rfl) (by rfl) ?_
              intro K hK
              go_simp
              have Cz36 : Hid (Calls Try.prog 40 #[.slice (some ⟨z1.heap.size, 0, none⟩) 2 2] z35 fun e w' => (∃ v, e = .returned v ∧ OwnP w' z35.heap.size v [a.W, b.W].flatten) ∧ Below z35.heap.size z35 w') := concatP_any [a.W, b.W] (z1.heap.size) z35 B2z35.out.lt (pair17 B2z35.out (HRa.out.w.on HBz35.out.1) (HRb.out.w.on HBz35.out.1)) (by simp) (len17 HLa.out.2.2 HLb.out.2.2)
              refine Cz36.out.mono ?_
              rintro e z36 ⟨⟨x2z36, rfl, hoz36⟩, hbz36⟩
              dsimp only
              have HZz36 : Hid (w7.heap.size ≤ z35.heap.size) := HBz35.out.1.size
              have HBz36 : Hid (Below w7.heap.size w7 z36 ∧ (Blk z36 w.heap.size #[.slice pa0 na0 ca0, .slice pa1 na1 ca1, .slice pa2 na2 ca2] 25 ∧ Blk z36 (w.heap.size + 1) #[.slice pb0 nb0 cb0, .slice pb1 nb1 cb1, .slice pb2 nb2 cb2] 25)) := ⟨HBz35.out.1.trans ((hbz36).mono HBz35.out.1.size), HBz35.out.2.1.on (hbz36), HBz35.out.2.2.on (hbz36)⟩
              have X0z36 : Hid (OwnP z36 w7.heap.size x0z33 (a.P ++ b.P)) := X0z35.out.kept (hbz36)
              have X1z36 : Hid (OwnS z36 w7.heap.size x1z35 (a.S ++ b.S)) := X1z35.out.kept (hbz36)
              clear HBz35 X0z35 X1z35
              have X2z36 : Hid (OwnP z36 w7.heap.size x2z36 (a.W ++ b.W)) := (show OwnP _ _ _ _ by have h := hoz36; rw [flat_two] at h; exact h.mono HZz36.out)
              clear Cz36 hoz36 hbz36 B2z35
              refine hK.out _ _ (fun _ => HBz36.out.2) ?_
              clear hK K
              try simp only [Act.put, List.setIfInBounds_toArray, List.set_cons_zero, List.set_cons_succ]
              obtain ⟨px0, nx0, cx0, ex0⟩ : ∃ p n c, x0z33 = .slice p n c := by
                obtain ⟨p, c, e, _⟩ := X0z36.out.row
                exact ⟨_, _, _, e⟩
              obtain ⟨px1, nx1, cx1, ex1⟩ : ∃ p n c, x1z35 = .slice p n c := by
                obtain ⟨p, c, e, _⟩ := X1z36.out.row
                exact ⟨_, _, _, e⟩
              obtain ⟨px2, nx2, cx2, ex2⟩ : ∃ p n c, x2z36 = .slice p n c := by
                obtain ⟨p, c, e, _⟩ := X2z36.out.row
                exact ⟨_, _, _, e⟩
              subst ex0 ex1 ex2
              have HRf : Hid (RdF z36 (.slice px0 nx0 cx0) (.slice px1 nx1 cx1) (.slice px2 nx2 cx2) (a.bth b)) := bth_rd X0z36.out X1z36.out X2z36.out HLa.out HLb.out
              have HSN : Hid (Blk z36 w.heap.size #[.slice pa0 na0 ca0, .slice pa1 na1 ca1, .slice pa2 na2 ca2] 25 ∧ Blk z36 (w.heap.size + 1) #[.slice pb0 nb0 cb0, .slice pb1 nb1 cb1, .slice pb2 nb2 cb2] 25) := HBz36.out.2
              refine wpL_take (v := ?_) 18 rfl (by kernel_rfl) (fun _ _ _ h => h) (by rfl) ?_ HSN.out ?_
              rotate_left
              focus
                intro w9 hw9
                have k0 := Blk.cell hw9.1 (i := 0) rfl
                have k1 := Blk.cell hw9.1 (i := 1) rfl
                have k2 := Blk.cell hw9.1 (i := 2) rfl
                have k3 := Blk.cell hw9.2 (i := 0) rfl
                have k4 := Blk.cell hw9.2 (i := 1) rfl
                have k5 := Blk.cell hw9.2 (i := 2) rfl
                go_simp
                try with_reducible rfl
              try simp only [Act.put, List.setIfInBounds_toArray, List.set_cons_zero, List.set_cons_succ]
              refine wpL_one 19 rfl (by kernel_rfl) (by rfl) ?_
              intro K hK
              go_simp
              have CN : Hid (Calls _ _ _ _ _) := normal_any (a.bth b) (.slice px0 nx0 cx0) (.slice px1 nx1 cx1) (.slice px2 nx2 cx2) z36 HRf.out HLs.out
              refine CN.out.mono ?_
              rintro e wN ⟨y0, y1, y2, g, rfl, h0, h1, h2, hN, hbN⟩
              dsimp only
              refine hK.out _ _ (fun _ => ⟨HSN.out.1.on hbN, HSN.out.2.on hbN⟩) ?_
              clear hK K CN
              try simp only [Act.put, List.setIfInBounds_toArray, List.set_cons_zero, List.set_cons_succ]
              obtain ⟨q0, m0, d0, ey0⟩ : ∃ p n c, y0 = .slice p n c := by
                obtain ⟨p, c, e, _⟩ := h0.row
                exact ⟨_, _, _, e⟩
              obtain ⟨q1, m1, d1, ey1⟩ : ∃ p n c, y1 = .slice p n c := by
                obtain ⟨p, c, e, _⟩ := h1.row
                exact ⟨_, _, _, e⟩
              obtain ⟨q2, m2, d2, ey2⟩ : ∃ p n c, y2 = .slice p n c := by
                obtain ⟨p, c, e, _⟩ := h2.row
                exact ⟨_, _, _, e⟩
              subst ey0 ey1 ey2
              have HO : Hid (OwnP wN z36.heap.size (.slice q0 m0 d0) g.P ∧ OwnS wN z36.heap.size (.slice q1 m1 d1) g.S ∧ OwnP wN z36.heap.size (.slice q2 m2 d2) g.W ∧ NrmF (a.bth b) g) := ⟨h0, h1, h2, hN⟩
              have HBN : Hid (Below w7.heap.size w7 wN) := HBz36.out.1.trans (hbN.mono HBz36.out.1.size)
              have HZN : Hid (w7.heap.size ≤ z36.heap.size) := HBz36.out.1.size
              have HRs : Hid (Blk wN (w.heap.size + 1 + 1) #[.slice none 0 0, .slice none 0 0, .slice none 0 0] 25) := HRes.out.on HBN.out
              have HSM : Hid (Blk wN w.heap.size #[.slice pa0 na0 ca0, .slice pa1 na1 ca1, .slice pa2 na2 ca2] 25 ∧ Blk wN (w.heap.size + 1) #[.slice pb0 nb0 cb0, .slice pb1 nb1 cb1, .slice pb2 nb2 cb2] 25) := ⟨HSN.out.1.on hbN, HSN.out.2.on hbN⟩
              clear h0 h1 h2 hN hbN HRf HSN HBz36 X0z36 X1z36 X2z36 HLa HLb HLs HRa HRb HSz HEn
              have c0 := HRs.out.cell (i := 0) rfl
              have c1 := HRs.out.cell (i := 1) rfl
              have c2 := HRs.out.cell (i := 2) rfl
              have f0 := HRs.out.frozen 0
              have f1 := HRs.out.frozen 1
              have f2 := HRs.out.frozen 2
              have HF : Hid (Frm wN (((wN.setCell ⟨w.heap.size + 1 + 1, 0, none⟩ (.slice q0 m0 d0)).setCell ⟨w.heap.size + 1 + 1, 1, none⟩ (.slice q1 m1 d1)).setCell ⟨w.heap.size + 1 + 1, 2, none⟩ (.slice q2 m2 d2)) (fun k => k = w.heap.size + 1 + 1)) := ((frm_set _ _ _ _ (F := fun k => k = w.heap.size + 1 + 1) (.inl rfl)).trans (frm_set _ _ _ _ (F := fun k => k = w.heap.size + 1 + 1) (.inl rfl)) (fun k hk => .inl hk)).trans (frm_set _ _ _ _ (F := fun k => k = w.heap.size + 1 + 1) (.inl rfl)) (fun k hk => .inl hk)
              have HR : Hid (Blk (((wN.setCell ⟨w.heap.size + 1 + 1, 0, none⟩ (.slice q0 m0 d0)).setCell ⟨w.heap.size + 1 + 1, 1, none⟩ (.slice q1 m1 d1)).setCell ⟨w.heap.size + 1 + 1, 2, none⟩ (.slice q2 m2 d2)) (w.heap.size + 1 + 1) #[.slice q0 m0 d0, .slice q1 m1 d1, .slice q2 m2 d2] 25) := ((HRs.out.set 0 _).set 1 _).set 2 _
              refine wpL_one 20 rfl (by kernel_rfl) (by rfl) ?_
              intro K hK
              go_simp
              refine hK.out _ _ (fun h => absurd rfl h) ?_
              clear hK K
              try simp only [Act.put, List.setIfInBounds_toArray, List.set_cons_zero, List.set_cons_succ]
              clear c0 c1 c2 f0 f1 f2
              generalize ((wN.setCell ⟨w.heap.size + 1 + 1, 0, none⟩ (.slice q0 m0 d0)).setCell ⟨w.heap.size + 1 + 1, 1, none⟩ (.slice q1 m1 d1)).setCell ⟨w.heap.size + 1 + 1, 2, none⟩ (.slice q2 m2 d2) = we at *
              have HSE : Hid (Blk we w.heap.size #[.slice pa0 na0 ca0, .slice pa1 na1 ca1, .slice pa2 na2 ca2] 25 ∧ Blk we (w.heap.size + 1) #[.slice pb0 nb0 cb0, .slice pb1 nb1 cb1, .slice pb2 nb2 cb2] 25) := ⟨HSM.out.1.frm HF.out (by omega), HSM.out.2.frm HF.out (by omega)⟩
              refine wpL_one 21 rfl (by kernel_rfl) (by rfl) ?_
              intro K hK
              go_simp
              refine hK.out _ _ (fun _ => HSE.out) ?_
              clear hK K
              try simp only [Act.put, List.setIfInBounds_toArray, List.set_cons_zero, List.set_cons_succ]
              refine wpL_done (by kernel_rfl) ?_ _
              try simp only [NoPanic]
              have r0 := HR.out.cell (i := 0) rfl
              have r1 := HR.out.cell (i := 1) rfl
              have r2 := HR.out.cell (i := 2) rfl
              go_wp2_with fail
              refine bodyPost_ret (v := .tuple #[.agg #[.slice q0 m0 d0, .slice q1 m1 d1, .slice q2 m2 d2], .int .i64 0]) (by simp [results, Try.results18, go_sem, r0, r1, r2]) rfl ?_
              exact mg_end HCM.out HO.out HF.out HZN.out HBw7.out HBN.out hz7
            · intro K hK
              go_simp
              have hbz38 : Below z32.heap.size z32 (z32.alloc (.cells #[.slice pa1 na1 ca1, .slice pb1 nb1 cb1] 23)) := (Below.refl _ _).alloc (Nat.le_refl _) _
              have hkz38 : Blk (z32.alloc (.cells #[.slice pa1 na1 ca1, .slice pb1 nb1 cb1] 23)) z32.heap.size #[.slice pa1 na1 ca1, .slice pb1 nb1 cb1] 23 := Blk.new z32 _ _
              generalize (z32.alloc (.cells #[.slice pa1 na1 ca1, .slice pb1 nb1 cb1] 23)) = z38 at *
              have HBz38 : Hid (Below w7.heap.size w7 z38 ∧ (Blk z38 w.heap.size #[.slice pa0 na0 ca0, .slice pa1 na1 ca1, .slice pa2 na2 ca2] 25 ∧ Blk z38 (w.heap.size + 1) #[.slice pb0 nb0 cb0, .slice pb1 nb1 cb1, .slice pb2 nb2 cb2] 25)) := ⟨HBz32.out.1.trans ((hbz38).mono HBz32.out.1.size), HBz32.out.2.1.on (hbz38), HBz32.out.2.2.on (hbz38)⟩
              have B0z38 : Hid (Blk z38 (w7.heap.size) #[.slice pa0 na0 ca0, .slice pb0 nb0 cb0] 22) := B0z32.out.on (hbz38)
              have B2z38 : Hid (Blk z38 (z1.heap.size) #[.slice pa2 na2 ca2, .slice pb2 nb2 cb2] 22) := B2z32.out.on (hbz38)
              clear HBz32 B0z32 B2z32
              have B1z38 : Hid (Blk z38 z32.heap.size #[.slice pa1 na1 ca1, .slice pb1 nb1 cb1] 23) := hkz38
              clear hbz38 hkz38
              refine hK.out _ _ (fun _ => HBz38.out.2) ?_
              clear hK K
              try simp only [Act.put, List.setIfInBounds_toArray, List.set_cons_zero, List.set_cons_succ]
              refine wpL_one 5 rfl (by kernel_rfl) (by rfl) ?_
              intro K hK
              go_simp
              have Cz39 : Hid (Calls Try.prog 40 #[.slice (some ⟨w7.heap.size, 0, none⟩) 2 2] z38 fun e w' => (∃ v, e = .returned v ∧ OwnP w' z38.heap.size v [a.P, b.P].flatten) ∧ Below z38.heap.size z38 w') := concatP_any [a.P, b.P] (w7.heap.size) z38 B0z38.out.lt (pair17 B0z38.out (HRa.out.p.on HBz38.out.1) (HRb.out.p.on HBz38.out.1)) (by simp) (len17 HLa.out.1 HLb.out.1)
              refine Cz39.out.mono ?_
              rintro e z39 ⟨⟨x0z39, rfl, hoz39⟩, hbz39⟩
              dsimp only
              have HZz39 : Hid (w7.heap.size ≤ z38.heap.size) := HBz38.out.1.size
              have HBz39 : Hid (Below w7.heap.size w7 z39 ∧ (Blk z39 w.heap.size #[.slice pa0 na0 ca0, .slice pa1 na1 ca1, .slice pa2 na2 ca2] 25 ∧ Blk z39 (w.heap.size + 1) #[.slice pb0 nb0 cb0, .slice pb1 nb1 cb1, .slice pb2 nb2 cb2] 25)) := ⟨HBz38.out.1.trans ((hbz39).mono HBz38.out.1.size), HBz38.out.2.1.on (hbz39), HBz38.out.2.2.on (hbz39)⟩
              have B2z39 : Hid (Blk z39 (z1.heap.size) #[.slice pa2 na2 ca2, .slice pb2 nb2 cb2] 22) := B2z38.out.on (hbz39)
              have B1z39 : Hid (Blk z39 (z32.heap.size) #[.slice pa1 na1 ca1, .slice pb1 nb1 cb1] 23) := B1z38.out.on (hbz39)
              clear HBz38 B2z38 B1z38
              have X0z39 : Hid (OwnP z39 w7.heap.size x0z39 (a.P ++ b.P)) := (show OwnP _ _ _ _ by have h := hoz39; rw [flat_two] at h; exact h.mono HZz39.out)
              clear Cz39 hoz39 hbz39 B0z38
              refine hK.out _ _ (fun _ => HBz39.out.2) ?_
              clear hK K
              try simp only [Act.put, List.setIfInBounds_toArray, List.set_cons_zero, List.set_cons_succ]
              refine wpL_one 11 rfl (by kernel_rfl) (by rfl) ?_
              intro K hK
              go_simp
              have Cz40 : Hid (Calls Try.prog 41 #[.slice (some ⟨z32.heap.size, 0, none⟩) 2 2] z39 fun e w' => (∃ v, e = .returned v ∧ OwnS w' z39.heap.size v [a.S, b.S].flatten) ∧ Below z39.heap.size z39 w') := concatS_any [a.S, b.S] (z32.heap.size) z39 B1z39.out.lt (pair17 B1z39.out (HRa.out.s.on HBz39.out.1) (HRb.out.s.on HBz39.out.1)) (by simp) (len17 HLa.out.2.1 HLb.out.2.1)
              refine Cz40.out.mono ?_
              rintro e z40 ⟨⟨x1z40, rfl, hoz40⟩, hbz40⟩
              dsimp only
              have HZz40 : Hid (w7.heap.size ≤ z39.heap.size) := HBz39.out.1.size
              have HBz40 : Hid (Below w7.heap.size w7 z40 ∧ (Blk z40 w.heap.size #[.slice pa0 na0 ca0, .slice pa1 na1 ca1, .slice pa2 na2 ca2] 25 ∧ Blk z40 (w.heap.size + 1) #[.slice pb0 nb0 cb0, .slice pb1 nb1 cb1, .slice pb2 nb2 cb2] 25)) := ⟨HBz39.out.1.trans ((hbz40).mono HBz39.out.1.size), HBz39.out.2.1.on (hbz40), HBz39.out.2.2.on (hbz40)⟩
              have B2z40 : Hid (Blk z40 (z1.heap.size) #[.slice pa2 na2 ca2, .slice pb2 nb2 cb2] 22) := B2z39.out.on (hbz40)
              have X0z40 : Hid (OwnP z40 w7.heap.size x0z39 (a.P ++ b.P)) := X0z39.out.kept (hbz40)
              clear HBz39 B2z39 X0z39
              have X1z40 : Hid (OwnS z40 w7.heap.size x1z40 (a.S ++ b.S)) := (show OwnS _ _ _ _ by have h := hoz40; rw [flat_two] at h; exact h.mono HZz40.out)
              clear Cz40 hoz40 hbz40 B1z39
              refine hK.out _ _ (fun _ => HBz40.out.2) ?_
              clear hK K
              try simp only [Act.put, List.setIfInBounds_toArray, List.set_cons_zero, List.set_cons_succ]
              refine wpL_one 17 rfl (by kernel_rfl) (by rfl) ?_
              intro K hK
              go_simp
              have Cz41 : Hid (Calls Try.prog 40 #[.slice (some ⟨z1.heap.size, 0, none⟩) 2 2] z40 fun e w' => (∃ v, e = .returned v ∧ OwnP w' z40.heap.size v [a.W, b.W].flatten) ∧ Below z40.heap.size z40 w') := concatP_any [a.W, b.W] (z1.heap.size) z40 B2z40.out.lt (pair17 B2z40.out (HRa.out.w.on HBz40.out.1) (HRb.out.w.on HBz40.out.1)) (by simp) (len17 HLa.out.2.2 HLb.out.2.2)
              refine Cz41.out.mono ?_
              rintro e z41 ⟨⟨x2z41, rfl, hoz41⟩, hbz41⟩
              dsimp only
              have HZz41 : Hid (w7.heap.size ≤ z40.heap.size) := HBz40.out.1.size
              have HBz41 : Hid (Below w7.heap.size w7 z41 ∧ (Blk z41 w.heap.size #[.slice pa0 na0 ca0, .slice pa1 na1 ca1, .slice pa2 na2 ca2] 25 ∧ Blk z41 (w.heap.size + 1) #[.slice pb0 nb0 cb0, .slice pb1 nb1 cb1, .slice pb2 nb2 cb2] 25)) := ⟨HBz40.out.1.trans ((hbz41).mono HBz40.out.1.size), HBz40.out.2.1.on (hbz41), HBz40.out.2.2.on (hbz41)⟩
              have X0z41 : Hid (OwnP z41 w7.heap.size x0z39 (a.P ++ b.P)) := X0z40.out.kept (hbz41)
              have X1z41 : Hid (OwnS z41 w7.heap.size x1z40 (a.S ++ b.S)) := X1z40.out.kept (hbz41)
              clear HBz40 X0z40 X1z40
              have X2z41 : Hid (OwnP z41 w7.heap.size x2z41 (a.W ++ b.W)) := (show OwnP _ _ _ _ by have h := hoz41; rw [flat_two] at h; exact h.mono HZz41.out)
              clear Cz41 hoz41 hbz41 B2z40
              refine hK.out _ _ (fun _ => HBz41.out.2) ?_
              clear hK K
              try simp only [Act.put, List.setIfInBounds_toArray, List.set_cons_zero, List.set_cons_succ]
              obtain ⟨px0, nx0, cx0, ex0⟩ : ∃ p n c, x0z39 = .slice p n c := by
                obtain ⟨p, c, e, _⟩ := X0z41.out.row
                exact ⟨_, _, _, e⟩
              obtain ⟨px1, nx1, cx1, ex1⟩ : ∃ p n c, x1z40 = .slice p n c := by
                obtain ⟨p, c, e, _⟩ := X1z41.out.row
                exact ⟨_, _, _, e⟩
              obtain ⟨px2, nx2, cx2, ex2⟩ : ∃ p n c, x2z41 = .slice p n c := by
                obtain ⟨p, c, e, _⟩ := X2z41.out.row
                exact ⟨_, _, _, e⟩
              subst ex0 ex1 ex2
              have HRf : Hid (RdF z41 (.slice px0 nx0 cx0) (.slice px1 nx1 cx1) (.slice px2 nx2 cx2) (a.bth b)) := bth_rd X0z41.out X1z41.out X2z41.out HLa.out HLb.out
              have HSN : Hid (Blk z41 w.heap.size #[.slice pa0 na0 ca0, .slice pa1 na1 ca1, .slice pa2 na2 ca2] 25 ∧ Blk z41 (w.heap.size + 1) #[.slice pb0 nb0 cb0, .slice pb1 nb1 cb1, .slice pb2 nb2 cb2] 25) := HBz41.out.2
              refine wpL_take (v := ?_) 18 rfl (by kernel_rfl) (fun _ _ _ h => h) (by rfl) ?_ HSN.out ?_
              rotate_left
              focus
                intro w9 hw9
                have k0 := Blk.cell hw9.1 (i := 0) rfl
                have k1 := Blk.cell hw9.1 (i := 1) rfl
                have k2 := Blk.cell hw9.1 (i := 2) rfl
                have k3 := Blk.cell hw9.2 (i := 0) rfl
                have k4 := Blk.cell hw9.2 (i := 1) rfl
                have k5 := Blk.cell hw9.2 (i := 2) rfl
                go_simp
                try with_reducible rfl
              try simp only [Act.put, List.setIfInBounds_toArray, List.set_cons_zero, List.set_cons_succ]
              refine wpL_one 19 rfl (by kernel_rfl) (by rfl) ?_
              intro K hK
              go_simp
              have CN : Hid (Calls _ _ _ _ _) := normal_any (a.bth b) (.slice px0 nx0 cx0) (.slice px1 nx1 cx1) (.slice px2 nx2 cx2) z41 HRf.out HLs.out
              refine CN.out.mono ?_
              rintro e wN ⟨y0, y1, y2, g, rfl, h0, h1, h2, hN, hbN⟩
              dsimp only
              refine hK.out _ _ (fun _ => ⟨HSN.out.1.on hbN, HSN.out.2.on hbN⟩) ?_
              clear hK K CN
              try simp only [Act.put, List.setIfInBounds_toArray, List.set_cons_zero, List.set_cons_succ]
              obtain ⟨q0, m0, d0, ey0⟩ : ∃ p n c, y0 = .slice p n c := by
                obtain ⟨p, c, e, _⟩ := h0.row
                exact ⟨_, _, _, e⟩
              obtain ⟨q1, m1, d1, ey1⟩ : ∃ p n c, y1 = .slice p n c := by
                obtain ⟨p, c, e, _⟩ := h1.row
                exact ⟨_, _, _, e⟩
              obtain ⟨q2, m2, d2, ey2⟩ : ∃ p n c, y2 = .slice p n c := by
                obtain ⟨p, c, e, _⟩ := h2.row
                exact ⟨_, _, _, e⟩
              subst ey0 ey1 ey2
              have HO : Hid (OwnP wN z41.heap.size (.slice q0 m0 d0) g.P ∧ OwnS wN z41.heap.size (.slice q1 m1 d1) g.S ∧ OwnP wN z41.heap.size (.slice q2 m2 d2) g.W ∧ NrmF (a.bth b) g) := ⟨h0, h1, h2, hN⟩
              have HBN : Hid (Below w7.heap.size w7 wN) := HBz41.out.1.trans (hbN.mono HBz41.out.1.size)
              have HZN : Hid (w7.heap.size ≤ z41.heap.size) := HBz41.out.1.size
              have HRs : Hid (Blk wN (w.heap.size + 1 + 1) #[.slice none 0 0, .slice none 0 0, .slice none 0 0] 25) := HRes.out.on HBN.out
              have HSM : Hid (Blk wN w.heap.size #[.slice pa0 na0 ca0, .slice pa1 na1 ca1, .slice pa2 na2 ca2] 25 ∧ Blk wN (w.heap.size + 1) #[.slice pb0 nb0 cb0, .slice pb1 nb1 cb1, .slice pb2 nb2 cb2] 25) := ⟨HSN.out.1.on hbN, HSN.out.2.on hbN⟩
              clear h0 h1 h2 hN hbN HRf HSN HBz41 X0z41 X1z41 X2z41 HLa HLb HLs HRa HRb HSz HEn
              have c0 := HRs.out.cell (i := 0) rfl
              have c1 := HRs.out.cell (i := 1) rfl
              have c2 := HRs.out.cell (i := 2) rfl
              have f0 := HRs.out.frozen 0
              have f1 := HRs.out.frozen 1
              have f2 := HRs.out.frozen 2
              have HF : Hid (Frm wN (((wN.setCell ⟨w.heap.size + 1 + 1, 0, none⟩ (.slice q0 m0 d0)).setCell ⟨w.heap.size + 1 + 1, 1, none⟩ (.slice q1 m1 d1)).setCell ⟨w.heap.size + 1 + 1, 2, none⟩ (.slice q2 m2 d2)) (fun k => k = w.heap.size + 1 + 1)) := ((frm_set _ _ _ _ (F := fun k => k = w.heap.size + 1 + 1) (.inl rfl)).trans (frm_set _ _ _ _ (F := fun k => k = w.heap.size + 1 + 1) (.inl rfl)) (fun k hk => .inl hk)).trans (frm_set _ _ _ _ (F := fun k => k = w.heap.size + 1 + 1) (.inl rfl)) (fun k hk => .inl hk)
              have HR : Hid (Blk (((wN.setCell ⟨w.heap.size + 1 + 1, 0, none⟩ (.slice q0 m0 d0)).setCell ⟨w.heap.size + 1 + 1, 1, none⟩ (.slice q1 m1 d1)).setCell ⟨w.heap.size + 1 + 1, 2, none⟩ (.slice q2 m2 d2)) (w.heap.size + 1 + 1) #[.slice q0 m0 d0, .slice q1 m1 d1, .slice q2 m2 d2] 25) := ((HRs.out.set 0 _).set 1 _).set 2 _
              refine wpL_one 20 rfl (by kernel_rfl) (by rfl) ?_
              intro K hK
              go_simp
              refine hK.out _ _ (fun h => absurd rfl h) ?_
              clear hK K
              try simp only [Act.put, List.setIfInBounds_toArray, List.set_cons_zero, List.set_cons_succ]
              clear c0 c1 c2 f0 f1 f2
              generalize ((wN.setCell ⟨w.heap.size + 1 + 1, 0, none⟩ (.slice q0 m0 d0)).setCell ⟨w.heap.size + 1 + 1, 1, none⟩ (.slice q1 m1 d1)).setCell ⟨w.heap.size + 1 + 1, 2, none⟩ (.slice q2 m2 d2) = we at *
              have HSE : Hid (Blk we w.heap.size #[.slice pa0 na0 ca0, .slice pa1 na1 ca1, .slice pa2 na2 ca2] 25 ∧ Blk we (w.heap.size + 1) #[.slice pb0 nb0 cb0, .slice pb1 nb1 cb1, .slice pb2 nb2 cb2] 25) := ⟨HSM.out.1.frm HF.out (by omega), HSM.out.2.frm HF.out (by omega)⟩
              refine wpL_one 21 rfl (by kernel_rfl) (by rfl) ?_
              intro K hK
              go_simp
              refine hK.out _ _ (fun _ => HSE.out) ?_
              clear hK K
              try simp only [Act.put, List.setIfInBounds_toArray, List.set_cons_zero, List.set_cons_succ]
              refine wpL_done (by kernel_rfl) ?_ _
              try simp only [NoPanic]
              have r0 := HR.out.cell (i := 0) rfl
              have r1 := HR.out.cell (i := 1) rfl
              have r2 := HR.out.cell (i := 2) rfl
              go_wp2_with fail
              refine bodyPost_ret (v := .tuple #[.agg #[.slice q0 m0 d0, .slice q1 m1 d1, .slice q2 m2 d2], .int .i64 0]) (by simp [results, Try.results18, go_sem, r0, r1, r2]) rfl ?_
              exact mg_end HCM.out HO.out HF.out HZN.out HBw7.out HBN.out hz7
        · intro K hK
          go_simp
          have hbz43 : Below w7.heap.size w7 (w7.alloc (.cells #[.slice pa1 na1 ca1, .slice pb1 nb1 cb1] 23)) := (Below.refl _ _).alloc (Nat.le_refl _) _
          have hkz43 : Blk (w7.alloc (.cells #[.slice pa1 na1 ca1, .slice pb1 nb1 cb1] 23)) w7.heap.size #[.slice pa1 na1 ca1, .slice pb1 nb1 cb1] 23 := Blk.new w7 _ _
          generalize (w7.alloc (.cells #[.slice pa1 na1 ca1, .slice pb1 nb1 cb1] 23)) = z43 at *
          have HBz43 : Hid (Below w7.heap.size w7 z43 ∧ (Blk z43 w.heap.size #[.slice pa0 na0 ca0, .slice pa1 na1 ca1, .slice pa2 na2 ca2] 25 ∧ Blk z43 (w.heap.size + 1) #[.slice pb0 nb0 cb0, .slice pb1 nb1 cb1, .slice pb2 nb2 cb2] 25)) := ⟨HBwd.out.1.trans ((hbz43).mono HBwd.out.1.size), HBwd.out.2.1.on (hbz43), HBwd.out.2.2.on (hbz43)⟩
          clear HBwd
          have B1z43 : Hid (Blk z43 w7.heap.size #[.slice pa1 na1 ca1, .slice pb1 nb1 cb1] 23) := hkz43
          clear hbz43 hkz43
          refine hK.out _ _ (fun _ => HBz43.out.2) ?_
          clear hK K
          try simp only [Act.put, List.setIfInBounds_toArray, List.set_cons_zero, List.set_cons_succ]
          refine wpL_two17 4 16 rfl rfl (by kernel_rfl) (by rfl) (by rfl) ?_ ?_
          · intro K hK
            go_simp
            have hbz44 : Below z43.heap.size z43 (z43.alloc (.cells #[.slice pa0 na0 ca0, .slice pb0 nb0 cb0] 22)) := (Below.refl _ _).alloc (Nat.le_refl _) _
            have hkz44 : Blk (z43.alloc (.cells #[.slice pa0 na0 ca0, .slice pb0 nb0 cb0] 22)) z43.heap.size #[.slice pa0 na0 ca0, .slice pb0 nb0 cb0] 22 := Blk.new z43 _ _
            generalize (z43.alloc (.cells #[.slice pa0 na0 ca0, .slice pb0 nb0 cb0] 22)) = z44 at *
            have HBz44 : Hid (Below w7.heap.size w7 z44 ∧ (Blk z44 w.heap.size #[.slice pa0 na0 ca0, .slice pa1 na1 ca1, .slice pa2 na2 ca2] 25 ∧ Blk z44 (w.heap.size + 1) #[.slice pb0 nb0 cb0, .slice pb1 nb1 cb1, .slice pb2 nb2 cb2] 25)) := ⟨HBz43.out.1.trans ((hbz44).mono HBz43.out.1.size), HBz43.out.2.1.on (hbz44), HBz43.out.2.2.on (hbz44)⟩
            have B1z44 : Hid (Blk z44 (w7.heap.size) #[.slice pa1 na1 ca1, .slice pb1 nb1 cb1] 23) := B1z43.out.on (hbz44)
            clear HBz43 B1z43
            have B0z44 : Hid (Blk z44 z43.heap.size #[.slice pa0 na0 ca0, .slice pb0 nb0 cb0] 22) := hkz44
            clear hbz44 hkz44
            refine hK.out _ _ (fun _ => HBz44.out.2) ?_
            clear hK K
            try simp only [Act.put, List.setIfInBounds_toArray, List.set_cons_zero, List.set_cons_succ]
            refine wpL_two17 5 16 rfl rfl (by kernel_rfl) (by rfl) (by rfl) ?_ ?_
            · intro K hK
              go_simp
              have Cz45 : Hid (Calls Try.prog 40 #[.slice (some ⟨z43.heap.size, 0, none⟩) 2 2] z44 fun e w' => (∃ v, e = .returned v ∧ OwnP w' z44.heap.size v [a.P, b.P].flatten) ∧ Below z44.heap.size z44 w') := concatP_any [a.P, b.P] (z43.heap.size) z44 B0z44.out.lt (pair17 B0z44.out (HRa.out.p.on HBz44.out.1) (HRb.out.p.on HBz44.out.1)) (by simp) (len17 HLa.out.1 HLb.out.1)
              refine Cz45.out.mono ?_
              rintro e z45 ⟨⟨x0z45, rfl, hoz45⟩, hbz45⟩
              dsimp only
              have HZz45 : Hid (w7.heap.size ≤ z44.heap.size) := HBz44.out.1.size
              have HBz45 : Hid (Below w7.heap.size w7 z45 ∧ (Blk z45 w.heap.size #[.slice pa0 na0 ca0, .slice pa1 na1 ca1, .slice pa2 na2 ca2] 25 ∧ Blk z45 (w.heap.size + 1) #[.slice pb0 nb0 cb0, .slice pb1 nb1 cb1, .slice pb2 nb2 cb2] 25)) := ⟨HBz44.out.1.trans ((hbz45).mono HBz44.out.1.size), HBz44.out.2.1.on (hbz45), HBz44.out.2.2.on (hbz45)⟩
              have B1z45 : Hid (Blk z45 (w7.heap.size) #[.slice pa1 na1 ca1, .slice pb1 nb1 cb1] 23) := B1z44.out.on (hbz45)
              clear HBz44 B1z44
              have X0z45 : Hid (OwnP z45 w7.heap.size x0z45 (a.P ++ b.P)) := (show OwnP _ _ _ _ by have h := hoz45; rw [flat_two] at h; exact h.mono HZz45.out)
              clear Cz45 hoz45 hbz45 B0z44
              refine hK.out _ _ (fun _ => HBz45.out.2) ?_
              clear hK K
              try simp only [Act.put, List.setIfInBounds_toArray, List.set_cons_zero, List.set_cons_succ]
              refine wpL_two17 11 16 rfl rfl (by kernel_rfl) (by rfl) (by rfl) ?_ ?_
              · intro K hK
                go_simp
                have Cz46 : Hid (Calls Try.prog 41 #[.slice (some ⟨w7.heap.size, 0, none⟩) 2 2] z45 fun e w' => (∃ v, e = .returned v ∧ OwnS w' z45.heap.size v [a.S, b.S].flatten) ∧ Below z45.heap.size z45 w') := concatS_any [a.S, b.S] (w7.heap.size) z45 B1z45.out.lt (pair17 B1z45.out (HRa.out.s.on HBz45.out.1) (HRb.out.s.on HBz45.out.1)) (by simp) (len17 HLa.out.2.1 HLb.out.2.1)
                refine Cz46.out.mono ?_
                rintro e z46 ⟨⟨x1z46, rfl, hoz46⟩, hbz46⟩
                dsimp only
                have HZz46 : Hid (w7.heap.size ≤ z45.heap.size) := HBz45.out.1.size
                have HBz46 : Hid (Below w7.heap.size w7 z46 ∧ (Blk z46 w.heap.size #[.slice pa0 na0 ca0, .slice pa1 na1 ca1, .slice pa2 na2 ca2] 25 ∧ Blk z46 (w.heap.size + 1) #[.slice pb0 nb0 cb0, .slice pb1 nb1 cb1, .slice pb2 nb2 cb2] 25)) := ⟨HBz45.out.1.trans ((hbz46).mono HBz45.out.1.size), HBz45.out.2.1.on (hbz46), HBz45.out.2.2.on (hbz46)⟩
                have X0z46 : Hid (OwnP z46 w7.heap.size x0z45 (a.P ++ b.P)) := X0z45.out.kept (hbz46)
                clear HBz45 X0z45
                have X1z46 : Hid (OwnS z46 w7.heap.size x1z46 (a.S ++ b.S)) := (show OwnS _ _ _ _ by have h := hoz46; rw [flat_two] at h; exact h.mono HZz46.out)
                clear Cz46 hoz46 hbz46 B1z45
                refine hK.out _ _ (fun _ => HBz46.out.2) ?_
                clear hK K
                try simp only [Act.put, List.setIfInBounds_toArray, List.set_cons_zero, List.set_cons_succ]
                refine wpL_one 16 rfl (by kernel_rfl) (by rfl) ?_
                intro K hK
                go_simp
                have hbz47 : Below z46.heap.size z46 (z46.alloc (.cells #[.slice pa2 na2 ca2, .slice pb2 nb2 cb2] 22)) := (Below.refl _ _).alloc (Nat.le_refl _) _
                have hkz47 : Blk (z46.alloc (.cells #[.slice pa2 na2 ca2, .slice pb2 nb2 cb2] 22)) z46.heap.size #[.slice pa2 na2 ca2, .slice pb2 nb2 cb2] 22 := Blk.new z46 _ _
                generalize (z46.alloc (.cells #[.slice pa2 na2 ca2, .slice pb2 nb2 cb2] 22)) = z47 at *
                have HBz47 : Hid (Below w7.heap.size w7 z47 ∧ (Blk z47 w.heap.size #[.slice pa0 na0 ca0, .slice pa1 na1 ca1, .slice pa2 na2 ca2] 25 ∧ Blk z47 (w.heap.size + 1) #[.slice pb0 nb0 cb0, .slice pb1 nb1 cb1, .slice pb2 nb2 cb2] 25)) := ⟨HBz46.out.1.trans ((hbz47).mono HBz46.out.1.size), HBz46.out.2.1.on (hbz47), HBz46.out.2.2.on (hbz47)⟩
                have X0z47 : Hid (OwnP z47 w7.heap.size x0z45 (a.P ++ b.P)) := X0z46.out.kept (hbz47)
                have X1z47 : Hid (OwnS z47 w7.heap.size x1z46 (a.S ++ b.S)) := X1z46.out.kept (hbz47)
                clear HBz46 X0z46 X1z46
                have B2z47 : Hid (Blk z47 z46.heap.size #[.slice pa2 na2 ca2, .slice pb2 nb2 cb2] 22) := hkz47
                clear hbz47 hkz47
                refine hK.out _ _ (fun _ => HBz47.out.2) ?_
                clear hK K
                try simp only [Act.put, List.setIfInBounds_toArray, List.set_cons_zero, List.set_cons_succ]
                refine wpL_one 17 rfl (by kernel_rfl) (by rfl) ?_
                intro K hK
                go_simp
                have Cz48 : Hid (Calls Try.prog 40 #[.slice (some ⟨z46.heap.size, 0, none⟩) 2 2] z47 fun e w' => (∃ v, e = .returned v ∧ OwnP w' z47.heap.size v [a.W, b.W].flatten) ∧ Below z47.heap.size z47 w') := concatP_any [a.W, b.W] (z46.heap.size) z47 B2z47.out.lt (pair17 B2z47.out (HRa.out.w.on HBz47.out.1) (HRb.out.w.on HBz47.out.1)) (by simp) (len17 HLa.out.2.2 HLb.out.2.2)
                refine Cz48.out.mono ?_
                rintro e z48 ⟨⟨x2z48, rfl, hoz48⟩, hbz48⟩
                dsimp only
                have HZz48 : Hid (w7.heap.size ≤ z47.heap.size) := HBz47.out.1.size
                have HBz48 : Hid (Below w7.heap.size w7 z48 ∧ (Blk z48 w.heap.size #[.slice pa0 na0 ca0, .slice pa1 na1 ca1, .slice pa2 na2 ca2] 25 ∧ Blk z48 (w.heap.size + 1) #[.slice pb0 nb0 cb0, .slice pb1 nb1 cb1, .slice pb2 nb2 cb2] 25)) := ⟨HBz47.out.1.trans ((hbz48).mono HBz47.out.1.size), HBz47.out.2.1.on (hbz48), HBz47.out.2.2.on (hbz48)⟩
                have X0z48 : Hid (OwnP z48 w7.heap.size x0z45 (a.P ++ b.P)) := X0z47.out.kept (hbz48)
                have X1z48 : Hid (OwnS z48 w7.heap.size x1z46 (a.S ++ b.S)) := X1z47.out.kept (hbz48)
                clear HBz47 X0z47 X1z47
                have X2z48 : Hid (OwnP z48 w7.heap.size x2z48 (a.W ++ b.W)) := (show OwnP _ _ _ _ by have h := hoz48; rw [flat_two] at h; exact h.mono HZz48.out)
                clear Cz48 hoz48 hbz48 B2z47
                refine hK.out _ _ (fun _ => HBz48.out.2) ?_
                clear hK K
                try simp only [Act.put, List.setIfInBounds_toArray, List.set_cons_zero, List.set_cons_succ]
                obtain ⟨px0, nx0, cx0, ex0⟩ : ∃ p n c, x0z45 = .slice p n c := by
                  obtain ⟨p, c, e, _⟩ := X0z48.out.row
                  exact ⟨_, _, _, e⟩
                obtain ⟨px1, nx1, cx1, ex1⟩ : ∃ p n c, x1z46 = .slice p n c := by
                  obtain ⟨p, c, e, _⟩ := X1z48.out.row
                  exact ⟨_, _, _, e⟩
                obtain ⟨px2, nx2, cx2, ex2⟩ : ∃ p n c, x2z48 = .slice p n c := by
                  obtain ⟨p, c, e, _⟩ := X2z48.out.row
                  exact ⟨_, _, _, e⟩
                subst ex0 ex1 ex2
                have HRf : Hid (RdF z48 (.slice px0 nx0 cx0) (.slice px1 nx1 cx1) (.slice px2 nx2 cx2) (a.bth b)) := bth_rd X0z48.out X1z48.out X2z48.out HLa.out HLb.out
                have HSN : Hid (Blk z48 w.heap.size #[.slice pa0 na0 ca0, .slice pa1 na1 ca1, .slice pa2 na2 ca2] 25 ∧ Blk z48 (w.heap.size + 1) #[.slice pb0 nb0 cb0, .slice pb1 nb1 cb1, .slice pb2 nb2 cb2] 25) := HBz48.out.2
                refine wpL_take (v := ?_) 18 rfl (by kernel_rfl) (fun _ _ _ h => h) (by rfl) ?_ HSN.out ?_
                rotate_left
                focus
                  intro w9 hw9
                  have k0 := Blk.cell hw9.1 (i := 0) rfl
                  have k1 := Blk.cell hw9.1 (i := 1) rfl
                  have k2 := Blk.cell hw9.1 (i := 2) rfl
                  have k3 := Blk.cell hw9.2 (i := 0) rfl
                  have k4 := Blk.cell hw9.2 (i := 1) rfl
                  have k5 := Blk.cell hw9.2 (i := 2) rfl
                  go_simp
                  try with_reducible rfl
                try simp only [Act.put, List.setIfInBounds_toArray, List.set_cons_zero, List.set_cons_succ]
                refine wpL_one 19 rfl (by kernel_rfl) (by rfl) ?_
                intro K hK
                go_simp
                have CN : Hid (Calls _ _ _ _ _) := normal_any (a.bth b) (.slice px0 nx0 cx0) (.slice px1 nx1 cx1) (.slice px2 nx2 cx2) z48 HRf.out HLs.out
                refine CN.out.mono ?_
                rintro e wN ⟨y0, y1, y2, g, rfl, h0, h1, h2, hN, hbN⟩
                dsimp only
                refine hK.out _ _ (fun _ => ⟨HSN.out.1.on hbN, HSN.out.2.on hbN⟩) ?_
                clear hK K CN
                try simp only [Act.put, List.setIfInBounds_toArray, List.set_cons_zero, List.set_cons_succ]
                obtain ⟨q0, m0, d0, ey0⟩ : ∃ p n c, y0 = .slice p n c := by
                  obtain ⟨p, c, e, _⟩ := h0.row
                  exact ⟨_, _, _, e⟩
                obtain ⟨q1, m1, d1, ey1⟩ : ∃ p n c, y1 = .slice p n c := by
                  obtain ⟨p, c, e, _⟩ := h1.row
                  exact ⟨_, _, _, e⟩
                obtain ⟨q2, m2, d2, ey2⟩ : ∃ p n c, y2 = .slice p n c := by
                  obtain ⟨p, c, e, _⟩ := h2.row
                  exact ⟨_, _, _, e⟩
                subst ey0 ey1 ey2
                have HO : Hid (OwnP wN z48.heap.size (.slice q0 m0 d0) g.P ∧ OwnS wN z48.heap.size (.slice q1 m1 d1) g.S ∧ OwnP wN z48.heap.size (.slice q2 m2 d2) g.W ∧ NrmF (a.bth b) g) := ⟨h0, h1, h2, hN⟩
                have HBN : Hid (Below w7.heap.size w7 wN) := HBz48.out.1.trans (hbN.mono HBz48.out.1.size)
                have HZN : Hid (w7.heap.size ≤ z48.heap.size) := HBz48.out.1.size
                have HRs : Hid (Blk wN (w.heap.size + 1 + 1) #[.slice none 0 0, .slice none 0 0, .slice none 0 0] 25) := HRes.out.on HBN.out
                have HSM : Hid (Blk wN w.heap.size #[.slice pa0 na0 ca0, .slice pa1 na1 ca1, .slice pa2 na2 ca2] 25 ∧ Blk wN (w.heap.size + 1) #[.slice pb0 nb0 cb0, .slice pb1 nb1 cb1, .slice pb2 nb2 cb2] 25) := ⟨HSN.out.1.on hbN, HSN.out.2.on hbN⟩
                clear h0 h1 h2 hN hbN HRf HSN HBz48 X0z48 X1z48 X2z48 HLa HLb HLs HRa HRb HSz HEn
                have c0 := HRs.out.cell (i := 0) rfl
                have c1 := HRs.out.cell (i := 1) rfl
                have c2 := HRs.out.cell (i := 2) rfl
                have f0 := HRs.out.frozen 0
                have f1 := HRs.out.frozen 1
                have f2 := HRs.out.frozen 2
                have HF : Hid (Frm wN (((wN.setCell ⟨w.heap.size + 1 + 1, 0, none⟩ (.slice q0 m0 d0)).setCell ⟨w.heap.size + 1 + 1, 1, none⟩ (.slice q1 m1 d1)).setCell ⟨w.heap.size + 1 + 1, 2, none⟩ (.slice q2 m2 d2)) (fun k => k = w.heap.size + 1 + 1)) := ((frm_set _ _ _ _ (F := fun k => k = w.heap.size + 1 + 1) (.inl rfl)).trans (frm_set _ _ _ _ (F := fun k => k = w.heap.size + 1 + 1) (.inl rfl)) (fun k hk => .inl hk)).trans (frm_set _ _ _ _ (F := fun k => k = w.heap.size + 1 + 1) (.inl rfl)) (fun k hk => .inl hk)
                have HR : Hid (Blk (((wN.setCell ⟨w.heap.size + 1 + 1, 0, none⟩ (.slice q0 m0 d0)).setCell ⟨w.heap.size + 1 + 1, 1, none⟩ (.slice q1 m1 d1)).setCell ⟨w.heap.size + 1 + 1, 2, none⟩ (.slice q2 m2 d2)) (w.heap.size + 1 + 1) #[.slice q0 m0 d0, .slice q1 m1 d1, .slice q2 m2 d2] 25) := ((HRs.out.set 0 _).set 1 _).set 2 _
                refine wpL_one 20 rfl (by kernel_rfl) (by rfl) ?_
                intro K hK
                go_simp
                refine hK.out _ _ (fun h => absurd rfl h) ?_
                clear hK K
                try simp only [Act.put, List.setIfInBounds_toArray, List.set_cons_zero, List.set_cons_succ]
                clear c0 c1 c2 f0 f1 f2
                generalize ((wN.setCell ⟨w.heap.size + 1 + 1, 0, none⟩ (.slice q0 m0 d0)).setCell ⟨w.heap.size + 1 + 1, 1, none⟩ (.slice q1 m1 d1)).setCell ⟨w.heap.size + 1 + 1, 2, none⟩ (.slice q2 m2 d2) = we at *
                have HSE : Hid (Blk we w.heap.size #[.slice pa0 na0 ca0, .slice pa1 na1 ca1, .slice pa2 na2 ca2] 25 ∧ Blk we (w.heap.size + 1) #[.slice pb0 nb0 cb0, .slice pb1 nb1 cb1, .slice pb2 nb2 cb2] 25) := ⟨HSM.out.1.frm HF.out (by omega), HSM.out.2.frm HF.out (by omega)⟩
                refine wpL_one 21 rfl (by kernel_rfl) (by rfl) ?_
                intro K hK
                go_simp
                refine hK.out _ _ (fun _ => HSE.out) ?_
                clear hK K
                try simp only [Act.put, List.setIfInBounds_toArray, List.set_cons_zero, List.set_cons_succ]
                refine wpL_done (by kernel_rfl) ?_ _
                try simp only [NoPanic]
                have r0 := HR.out.cell (i := 0) rfl
                have r1 := HR.out.cell (i := 1) rfl
                have r2 := HR.out.cell (i := 2) rfl
                go_wp2_with fail
                refine bodyPost_ret (v := .tuple #[.agg #[.slice q0 m0 d0, .slice q1 m1 d1, .slice q2 m2 d2], .int .i64 0]) (by simp [results, Try.results18, go_sem, r0, r1, r2]) rfl ?_
                exact mg_end HCM.out HO.out HF.out HZN.out HBw7.out HBN.out hz7
              · intro K hK
                go_simp
                have hbz50 : Below z45.heap.size z45 (z45.alloc (.cells #[.slice pa2 na2 ca2, .slice pb2 nb2 cb2] 22)) := (Below.refl _ _).alloc (Nat.le_refl _) _
                have hkz50 : Blk (z45.alloc (.cells #[.slice pa2 na2 ca2, .slice pb2 nb2 cb2] 22)) z45.heap.size #[.slice pa2 na2 ca2, .slice pb2 nb2 cb2] 22 := Blk.new z45 _ _
                generalize (z45.alloc (.cells #[.slice pa2 na2 ca2, .slice pb2 nb2 cb2] 22)) = z50 at *
                have HBz50 : Hid (Below w7.heap.size w7 z50 ∧ (Blk z50 w.heap.size #[.slice pa0 na0 ca0, .slice pa1 na1 ca1, .slice pa2 na2 ca2] 25 ∧ Blk z50 (w.heap.size + 1) #[.slice pb0 nb0 cb0, .slice pb1 nb1 cb1, .slice pb2 nb2 cb2] 25)) := ⟨HBz45.out.1.trans ((hbz50).mono HBz45.out.1.size), HBz45.out.2.1.on (hbz50), HBz45.out.2.2.on (hbz50)⟩
                have B1z50 : Hid (Blk z50 (w7.heap.size) #[.slice pa1 na1 ca1, .slice pb1 nb1 cb1] 23) := B1z45.out.on (hbz50)
                have X0z50 : Hid (OwnP z50 w7.heap.size x0z45 (a.P ++ b.P)) := X0z45.out.kept (hbz50)
                clear HBz45 B1z45 X0z45
                have B2z50 : Hid (Blk z50 z45.heap.size #[.slice pa2 na2 ca2, .slice pb2 nb2 cb2] 22) := hkz50
                clear hbz50 hkz50
                refine hK.out _ _ (fun _ => HBz50.out.2) ?_
                clear hK K
                try simp only [Act.put, List.setIfInBounds_toArray, List.set_cons_zero, List.set_cons_succ]
                refine wpL_one 11 rfl (by kernel_rfl) (by rfl) ?_
                intro K hK
                go_simp
                have Cz51 : Hid (Calls Try.prog 41 #[.slice (some ⟨w7.heap.size, 0, none⟩) 2 2] z50 fun e w' => (∃ v, e = .returned v ∧ OwnS w' z50.heap.size v [a.S, b.S].flatten) ∧ Below z50.heap.size z50 w') := concatS_any [a.S, b.S] (w7.heap.size) z50 B1z50.out.lt (pair17 B1z50.out (HRa.out.s.on HBz50.out.1) (HRb.out.s.on HBz50.out.1)) (by simp) (len17 HLa.out.2.1 HLb.out.2.1)
                refine Cz51.out.mono ?_
                rintro e z51 ⟨⟨x1z51, rfl, hoz51⟩, hbz51⟩
                dsimp only
                have HZz51 : Hid (w7.heap.size ≤ z50.heap.size) := HBz50.out.1.size
                have HBz51 : Hid (Below w7.heap.size w7 z51 ∧ (Blk z51 w.heap.size #[.slice pa0 na0 ca0, .slice pa1 na1 ca1, .slice pa2 na2 ca2] 25 ∧ Blk z51 (w.heap.size + 1) #[.slice pb0 nb0 cb0, .slice pb1 nb1 cb1, .slice pb2 nb2 cb2] 25)) := ⟨HBz50.out.1.trans ((hbz51).mono HBz50.out.1.size), HBz50.out.2.1.on (hbz51), HBz50.out.2.2.on (hbz51)⟩
                have X0z51 : Hid (OwnP z51 w7.heap.size x0z45 (a.P ++ b.P)) := X0z50.out.kept (hbz51)
                have B2z51 : Hid (Blk z51 (z45.heap.size) #[.slice pa2 na2 ca2, .slice pb2 nb2 cb2] 22) := B2z50.out.on (hbz51)
                clear HBz50 X0z50 B2z50
                have X1z51 : Hid (OwnS z51 w7.heap.size x1z51 (a.S ++ b.S)) := (show OwnS _ _ _ _ by have h := hoz51; rw [flat_two] at h; exact h.mono HZz51.out)
                clear Cz51 hoz51 hbz51 B1z50
                refine hK.out _ _ (fun _ => HBz51.out.2) ?_
                clear hK K
                try simp only [Act.put, List.setIfInBounds_toArray, List.set_cons_zero, List.set_cons_succ]
                refine wpL_one 17 rfl (by kernel_rfl) (by rfl) ?_
                intro K hK
                go_simp
                have Cz52 : Hid (Calls Try.prog 40 #[.slice (some ⟨z45.heap.size, 0, none⟩) 2 2] z51 fun e w' => (∃ v, e = .returned v ∧ OwnP w' z51.heap.size v [a.W, b.W].flatten) ∧ Below z51.heap.size z51 w') := concatP_any [a.W, b.W] (z45.heap.size) z51 B2z51.out.lt (pair17 B2z51.out (HRa.out.w.on HBz51.out.1) (HRb.out.w.on HBz51.out.1)) (by simp) (len17 HLa.out.2.2 HLb.out.2.2)
                refine Cz52.out.mono ?_
                rintro e z52 ⟨⟨x2z52, rfl, hoz52⟩, hbz52⟩
                dsimp only
                have HZz52 : Hid (w7.heap.size ≤ z51.heap.size) := HBz51.out.1.size
                have HBz52 : Hid (Below w7.heap.size w7 z52 ∧ (Blk z52 w.heap.size #[.slice pa0 na0 ca0, .slice pa1 na1 ca1, .slice pa2 na2 ca2] 25 ∧ Blk z52 (w.heap.size + 1) #[.slice pb0 nb0 cb0, .slice pb1 nb1 cb1, .slice pb2 nb2 cb2] 25)) := ⟨HBz51.out.1.trans ((hbz52).mono HBz51.out.1.size), HBz51.out.2.1.on (hbz52), HBz51.out.2.2.on (hbz52)⟩
                have X0z52 : Hid (OwnP z52 w7.heap.size x0z45 (a.P ++ b.P)) := X0z51.out.kept (hbz52)
                have X1z52 : Hid (OwnS z52 w7.heap.size x1z51 (a.S ++ b.S)) := X1z51.out.kept (hbz52)
                clear HBz51 X0z51 X1z51
                have X2z52 : Hid (OwnP z52 w7.heap.size x2z52 (a.W ++ b.W)) := (show OwnP _ _ _ _ by have h := hoz52; rw [flat_two] at h; exact h.mono HZz52.out)
                clear Cz52 hoz52 hbz52 B2z51
                refine hK.out _ _ (fun _ => HBz52.out.2) ?_
                clear hK K
                try simp only [Act.put, List.setIfInBounds_toArray, List.set_cons_zero, List.set_cons_succ]
                obtain ⟨px0, nx0, cx0, ex0⟩ : ∃ p n c, x0z45 = .slice p n c := by
                  obtain ⟨p, c, e, _⟩ := X0z52.out.row
                  exact ⟨_, _, _, e⟩
                obtain ⟨px1, nx1, cx1, ex1⟩ : ∃ p n c, x1z51 = .slice p n c := by
                  obtain ⟨p, c, e, _⟩ := X1z52.out.row
                  exact ⟨_, _, _, e⟩
                obtain ⟨px2, nx2, cx2, ex2⟩ : ∃ p n c, x2z52 = .slice p n c := by
                  obtain ⟨p, c, e, _⟩ := X2z52.out.row
                  exact ⟨_, _, _, e⟩
                subst ex0 ex1 ex2
                have HRf : Hid (RdF z52 (.slice px0 nx0 cx0) (.slice px1 nx1 cx1) (.slice px2 nx2 cx2) (a.bth b)) := bth_rd X0z52.out X1z52.out X2z52.out HLa.out HLb.out
                have HSN : Hid (Blk z52 w.heap.size #[.slice pa0 na0 ca0, .slice pa1 na1 ca1, .slice pa2 na2 ca2] 25 ∧ Blk z52 (w.heap.size + 1) #[.slice pb0 nb0 cb0, .slice pb1 nb1 cb1, .slice pb2 nb2 cb2] 25) := HBz52.out.2
                refine wpL_take (v := ?_) 18 rfl (by kernel_rfl) (fun _ _ _ h => h) (by rfl) ?_ HSN.out ?_
                rotate_left
                focus
                  intro w9 hw9
                  have k0 := Blk.cell hw9.1 (i := 0) rfl
                  have k1 := Blk.cell hw9.1 (i := 1) rfl
                  have k2 := Blk.cell hw9.1 (i := 2) rfl
                  have k3 := Blk.cell hw9.2 (i := 0) rfl
                  have k4 := Blk.cell hw9.2 (i := 1) rfl
                  have k5 := Blk.cell hw9.2 (i := 2) rfl
                  go_simp
                  try with_reducible rfl
                try simp only [Act.put, List.setIfInBounds_toArray, List.set_cons_zero, List.set_cons_succ]
                refine wpL_one 19 rfl (by kernel_rfl) (by rfl) ?_
                intro K hK
                go_simp
                have CN : Hid (Calls _ _ _ _ _) := normal_any (a.bth b) (.slice px0 nx0 cx0) (.slice px1 nx1 cx1) (.slice px2 nx2 cx2) z52 HRf.out HLs.out
                refine CN.out.mono ?_
                rintro e wN ⟨y0, y1, y2, g, rfl, h0, h1, h2, hN, hbN⟩
                dsimp only
                refine hK.out _ _ (fun _ => ⟨HSN.out.1.on hbN, HSN.out.2.on hbN⟩) ?_
                clear hK K CN
                try simp only [Act.put, List.setIfInBounds_toArray, List.set_cons_zero, List.set_cons_succ]
                obtain ⟨q0, m0, d0, ey0⟩ : ∃ p n c, y0 = .slice p n c := by
                  obtain ⟨p, c, e, _⟩ := h0.row
                  exact ⟨_, _, _, e⟩
                obtain ⟨q1, m1, d1, ey1⟩ : ∃ p n c, y1 = .slice p n c := by
                  obtain ⟨p, c, e, _⟩ := h1.row
                  exact ⟨_, _, _, e⟩
                obtain ⟨q2, m2, d2, ey2⟩ : ∃ p n c, y2 = .slice p n c := by
                  obtain ⟨p, c, e, _⟩ := h2.row
                  exact ⟨_, _, _, e⟩
                subst ey0 ey1 ey2
                have HO : Hid (OwnP wN z52.heap.size (.slice q0 m0 d0) g.P ∧ OwnS wN z52.heap.size (.slice q1 m1 d1) g.S ∧ OwnP wN z52.heap.size (.slice q2 m2 d2) g.W ∧ NrmF (a.bth b) g) := ⟨h0, h1, h2, hN⟩
                have HBN : Hid (Below w7.heap.size w7 wN) := HBz52.out.1.trans (hbN.mono HBz52.out.1.size)
                have HZN : Hid (w7.heap.size ≤ z52.heap.size) := HBz52.out.1.size
                have HRs : Hid (Blk wN (w.heap.size + 1 + 1) #[.slice none 0 0, .slice none 0 0, .slice none 0 0] 25) := HRes.out.on HBN.out
                have HSM : Hid (Blk wN w.heap.size #[.slice pa0 na0 ca0, .slice pa1 na1 ca1, .slice pa2 na2 ca2] 25 ∧ Blk wN (w.heap.size + 1) #[.slice pb0 nb0 cb0, .slice pb1 nb1 cb1, .slice pb2 nb2 cb2] 25) := ⟨HSN.out.1.on hbN, HSN.out.2.on hbN⟩
                clear h0 h1 h2 hN hbN HRf HSN HBz52 X0z52 X1z52 X2z52 HLa HLb HLs HRa HRb HSz HEn
                have c0 := HRs.out.cell (i := 0) rfl
                have c1 := HRs.out.cell (i := 1) rfl
                have c2 := HRs.out.cell (i := 2) rfl
                have f0 := HRs.out.frozen 0
                have f1 := HRs.out.frozen 1
                have f2 := HRs.out.frozen 2
                have HF : Hid (Frm wN (((wN.setCell ⟨w.heap.size + 1 + 1, 0, none⟩ (.slice q0 m0 d0)).setCell ⟨w.heap.size + 1 + 1, 1, none⟩ (.slice q1 m1 d1)).setCell ⟨w.heap.size + 1 + 1, 2, none⟩ (.slice q2 m2 d2)) (fun k => k = w.heap.size + 1 + 1)) := ((frm_set _ _ _ _ (F := fun k => k = w.heap.size + 1 + 1) (.inl rfl)).trans (frm_set _ _ _ _ (F := fun k => k = w.heap.size + 1 + 1) (.inl rfl)) (fun k hk => .inl hk)).trans (frm_set _ _ _ _ (F := fun k => k = w.heap.size + 1 + 1) (.inl rfl)) (fun k hk => .inl hk)
                have HR : Hid (Blk (((wN.setCell ⟨w.heap.size + 1 + 1, 0, none⟩ (.slice q0 m0 d0)).setCell ⟨w.heap.size + 1 + 1, 1, none⟩ (.slice q1 m1 d1)).setCell ⟨w.heap.size + 1 + 1, 2, none⟩ (.slice q2 m2 d2)) (w.heap.size + 1 + 1) #[.slice q0 m0 d0, .slice q1 m1 d1, .slice q2 m2 d2] 25) := ((HRs.out.set 0 _).set 1 _).set 2 _
                refine wpL_one 20 rfl (by kernel_rfl) (by rfl) ?_
                intro K hK
                go_simp
                refine hK.out _ _ (fun h => absurd rfl h) ?_
                clear hK K
                try simp only [Act.put, List.setIfInBounds_toArray, List.set_cons_zero, List.set_cons_succ]
                clear c0 c1 c2 f0 f1 f2
                generalize ((wN.setCell ⟨w.heap.size + 1 + 1, 0, none⟩ (.slice q0 m0 d0)).setCell ⟨w.heap.size + 1 + 1, 1, none⟩ (.slice q1 m1 d1)).setCell ⟨w.heap.size + 1 + 1, 2, none⟩ (.slice q2 m2 d2) = we at *
                have HSE : Hid (Blk we w.heap.size #[.slice pa0 na0 ca0, .slice pa1 na1 ca1, .slice pa2 na2 ca2] 25 ∧ Blk we (w.heap.size + 1) #[.slice pb0 nb0 cb0, .slice pb1 nb1 cb1, .slice pb2 nb2 cb2] 25) := ⟨HSM.out.1.frm HF.out (by omega), HSM.out.2.frm HF.out (by omega)⟩
                refine wpL_one 21 rfl (by kernel_rfl) (by rfl) ?_
                intro K hK
                go_simp
                refine hK.out _ _ (fun _ => HSE.out) ?_
                clear hK K
                try simp only [Act.put, List.setIfInBounds_toArray, List.set_cons_zero, List.set_cons_succ]
                refine wpL_done (by kernel_rfl) ?_ _
                try simp only [NoPanic]
                have r0 := HR.out.cell (i := 0) rfl
                have r1 := HR.out.cell (i := 1) rfl
                have r2 := HR.out.cell (i := 2) rfl
                go_wp2_with fail
                refine bodyPost_ret (v := .tuple #[.agg #[.slice q0 m0 d0, .slice q1 m1 d1, .slice q2 m2 d2], .int .i64 0]) (by simp [results, Try.results18, go_sem, r0, r1, r2]) rfl ?_
                exact mg_end HCM.out HO.out HF.out HZN.out HBw7.out HBN.out hz7
            · intro K hK
              go_simp
              have hbz54 : Below z44.heap.size z44 (z44.alloc (.cells #[.slice pa2 na2 ca2, .slice pb2 nb2 cb2] 22)) := (Below.refl _ _).alloc (Nat.le_refl _) _
              have hkz54 : Blk (z44.alloc (.cells #[.slice pa2 na2 ca2, .slice pb2 nb2 cb2] 22)) z44.heap.size #[.slice pa2 na2 ca2, .slice pb2 nb2 cb2] 22 := Blk.new z44 _ _
              generalize (z44.alloc (.cells #[.slice pa2 na2 ca2, .slice pb2 nb2 cb2] 22)) = z54 at *
              have HBz54 : Hid (Below w7.heap.size w7 z54 ∧ (Blk z54 w.heap.size #[.slice pa0 na0 ca0, .slice pa1 na1 ca1, .slice pa2 na2 ca2] 25 ∧ Blk z54 (w.heap.size + 1) #[.slice pb0 nb0 cb0, .slice pb1 nb1 cb1, .slice pb2 nb2 cb2] 25)) := ⟨HBz44.out.1.trans ((hbz54).mono HBz44.out.1.size), HBz44.out.2.1.on (hbz54), HBz44.out.2.2.on (hbz54)⟩
              have B1z54 : Hid (Blk z54 (w7.heap.size) #[.slice pa1 na1 ca1, .slice pb1 nb1 cb1] 23) := B1z44.out.on (hbz54)
              have B0z54 : Hid (Blk z54 (z43.heap.size) #[.slice pa0 na0 ca0, .slice pb0 nb0 cb0] 22) := B0z44.out.on (hbz54)
              clear HBz44 B1z44 B0z44
              have B2z54 : Hid (Blk z54 z44.heap.size #[.slice pa2 na2 ca2, .slice pb2 nb2 cb2] 22) := hkz54
              clear hbz54 hkz54
              refine hK.out _ _ (fun _ => HBz54.out.2) ?_
              clear hK K
              try simp only [Act.put, List.setIfInBounds_toArray, List.set_cons_zero, List.set_cons_succ]
              refine wpL_one 5 rfl (by kernel_rfl) (by rfl) ?_
              intro K hK
              go_simp
              have Cz55 : Hid (Calls Try.prog 40 #[.slice (some ⟨z43.heap.size, 0, none⟩) 2 2] z54 fun e w' => (∃ v, e = .returned v ∧ OwnP w' z54.heap.size v [a.P, b.P].flatten) ∧ Below z54.heap.size z54 w') := concatP_any [a.P, b.P] (z43.heap.size) z54 B0z54.out.lt (pair17 B0z54.out (HRa.out.p.on HBz54.out.1) (HRb.out.p.on HBz54.out.1)) (by simp) (len17 HLa.out.1 HLb.out.1)
              refine Cz55.out.mono ?_
              rintro e z55 ⟨⟨x0z55, rfl, hoz55⟩, hbz55⟩
              dsimp only
              have HZz55 : Hid (w7.heap.size ≤ z54.heap.size) := HBz54.out.1.size
              have HBz55 : Hid (Below w7.heap.size w7 z55 ∧ (Blk z55 w.heap.size #[.slice pa0 na0 ca0, .slice pa1 na1 ca1, .slice pa2 na2 ca2] 25 ∧ Blk z55 (w.heap.size + 1) #[.slice pb0 nb0 cb0, .slice pb1 nb1 cb1, .slice pb2 nb2 cb2] 25)) := ⟨HBz54.out.1.trans ((hbz55).mono HBz54.out.1.size), HBz54.out.2.1.on (hbz55), HBz54.out.2.2.on (hbz55)⟩
              have B1z55 : Hid (Blk z55 (w7.heap.size) #[.slice pa1 na1 ca1, .slice pb1 nb1 cb1] 23) := B1z54.out.on (hbz55)
              have B2z55 : Hid (Blk z55 (z44.heap.size) #[.slice pa2 na2 ca2, .slice pb2 nb2 cb2] 22) := B2z54.out.on (hbz55)
              clear HBz54 B1z54 B2z54
              have X0z55 : Hid (OwnP z55 w7.heap.size x0z55 (a.P ++ b.P)) := (show OwnP _ _ _ _ by have h := hoz55; rw [flat_two] at h; exact h.mono HZz55.out)
              clear Cz55 hoz55 hbz55 B0z54
              refine hK.out _ _ (fun _ => HBz55.out.2) ?_
              clear hK K
              try simp only [Act.put, List.setIfInBounds_toArray, List.set_cons_zero, List.set_cons_succ]
              refine wpL_one 11 rfl (by kernel_rfl) (by rfl) ?_
              intro K hK
              go_simp
              have Cz56 : Hid (Calls Try.prog 41 #[.slice (some ⟨w7.heap.size, 0, none⟩) 2 2] z55 fun e w' => (∃ v, e = .returned v ∧ OwnS w' z55.heap.size v [a.S, b.S].flatten) ∧ Below z55.heap.size z55 w') := concatS_any [a.S, b.S] (w7.heap.size) z55 B1z55.out.lt (pair17 B1z55.out (HRa.out.s.on HBz55.out.1) (HRb.out.s.on HBz55.out.1)) (by simp) (len17 HLa.out.2.1 HLb.out.2.1)
              refine Cz56.out.mono ?_
              rintro e z56 ⟨⟨x1z56, rfl, hoz56⟩, hbz56⟩
              dsimp only
              have HZz56 : Hid (w7.heap.size ≤ z55.heap.size) := HBz55.out.1.size
              have HBz56 : Hid (Below w7.heap.size w7 z56 ∧ (Blk z56 w.heap.size #[.slice pa0 na0 ca0, .slice pa1 na1 ca1, .slice pa2 na2 ca2] 25 ∧ Blk z56 (w.heap.size + 1) #[.slice pb0 nb0 cb0, .slice pb1 nb1 cb1, .slice pb2 nb2 cb2] 25)) := ⟨HBz55.out.1.trans ((hbz56).mono HBz55.out.1.size), HBz55.out.2.1.on (hbz56), HBz55.out.2.2.on (hbz56)⟩
              have B2z56 : Hid (Blk z56 (z44.heap.size) #[.slice pa2 na2 ca2, .slice pb2 nb2 cb2] 22) := B2z55.out.on (hbz56)
              have X0z56 : Hid (OwnP z56 w7.heap.size x0z55 (a.P ++ b.P)) := X0z55.out.kept (hbz56)
              clear HBz55 B2z55 X0z55
              have X1z56 : Hid (OwnS z56 w7.heap.size x1z56 (a.S ++ b.S)) := (show OwnS _ _ _ _ by have h := hoz56; rw [flat_two] at h; exact h.mono HZz56.out)
              clear Cz56 hoz56 hbz56 B1z55
              refine hK.out _ _ (fun _ => HBz56.out.2) ?_
              clear hK K
              try simp only [Act.put, List.setIfInBounds_toArray, List.set_cons_zero, List.set_cons_succ]
              refine wpL_one 17 rfl (by kernel_rfl) (by rfl) ?_
              intro K hK
              go_simp
              have Cz57 : Hid (Calls Try.prog 40 #[.slice (some ⟨z44.heap.size, 0, none⟩) 2 2] z56 fun e w' => (∃ v, e = .returned v ∧ OwnP w' z56.heap.size v [a.W, b.W].flatten) ∧ Below z56.heap.size z56 w') := concatP_any [a.W, b.W] (z44.heap.size) z56 B2z56.out.lt (pair17 B2z56.out (HRa.out.w.on HBz56.out.1) (HRb.out.w.on HBz56.out.1)) (by simp) (len17 HLa.out.2.2 HLb.out.2.2)
              refine Cz57.out.mono ?_
              rintro e z57 ⟨⟨x2z57, rfl, hoz57⟩, hbz57⟩
              dsimp only
              have HZz57 : Hid (w7.heap.size ≤ z56.heap.size) := HBz56.out.1.size
              have HBz57 : Hid (Below w7.heap.size w7 z57 ∧ (Blk z57 w.heap.size #[.slice pa0 na0 ca0, .slice pa1 na1 ca1, .slice pa2 na2 ca2] 25 ∧ Blk z57 (w.heap.size + 1) #[.slice pb0 nb0 cb0, .slice pb1 nb1 cb1, .slice pb2 nb2 cb2] 25)) := ⟨HBz56.out.1.trans ((hbz57).mono HBz56.out.1.size), HBz56.out.2.1.on (hbz57), HBz56.out.2.2.on (hbz57)⟩
              have X0z57 : Hid (OwnP z57 w7.heap.size x0z55 (a.P ++ b.P)) := X0z56.out.kept (hbz57)
              have X1z57 : Hid (OwnS z57 w7.heap.size x1z56 (a.S ++ b.S)) := X1z56.out.kept (hbz57)
              clear HBz56 X0z56 X1z56
              have X2z57 : Hid (OwnP z57 w7.heap.size x2z57 (a.W ++ b.W)) := (show OwnP _ _ _ _ by have h := hoz57; rw [flat_two] at h; exact h.mono HZz57.out)
              clear Cz57 hoz57 hbz57 B2z56
              refine hK.out _ _ (fun _ => HBz57.out.2) ?_
              clear hK K
              try simp only [Act.put, List.setIfInBounds_toArray, List.set_cons_zero, List.set_cons_succ]
              obtain ⟨px0, nx0, cx0, ex0⟩ : ∃ p n c, x0z55 = .slice p n c := by
                obtain ⟨p, c, e, _⟩ := X0z57.out.row
                exact ⟨_, _, _, e⟩
              obtain ⟨px1, nx1, cx1, ex1⟩ : ∃ p n c, x1z56 = .slice p n c := by
                obtain ⟨p, c, e, _⟩ := X1z57.out.row
                exact ⟨_, _, _, e⟩
              obtain ⟨px2, nx2, cx2, ex2⟩ : ∃ p n c, x2z57 = .slice p n c := by
                obtain ⟨p, c, e, _⟩ := X2z57.out.row
                exact ⟨_, _, _, e⟩
              subst ex0 ex1 ex2
              have HRf : Hid (RdF z57 (.slice px0 nx0 cx0) (.slice px1 nx1 cx1) (.slice px2 nx2 cx2) (a.bth b)) := bth_rd X0z57.out X1z57.out X2z57.out HLa.out HLb.out
              have HSN : Hid (Blk z57 w.heap.size #[.slice pa0 na0 ca0, .slice pa1 na1 ca1, .slice pa2 na2 ca2] 25 ∧ Blk z57 (w.heap.size + 1) #[.slice pb0 nb0 cb0, .slice pb1 nb1 cb1, .slice pb2 nb2 cb2] 25) := HBz57.out.2
              refine wpL_take (v := ?_) 18 rfl (by kernel_rfl) (fun _ _ _ h => h) (by rfl) ?_ HSN.out ?_
              rotate_left
              focus
                intro w9 hw9
                have k0 := Blk.cell hw9.1 (i := 0) rfl
                have k1 := Blk.cell hw9.1 (i := 1) rfl
                have k2 := Blk.cell hw9.1 (i := 2) rfl
                have k3 := Blk.cell hw9.2 (i := 0) rfl
                have k4 := Blk.cell hw9.2 (i := 1) rfl
                have k5 := Blk.cell hw9.2 (i := 2) rfl
                go_simp
                try with_reducible rfl
              try simp only [Act.put, List.setIfInBounds_toArray, List.set_cons_zero, List.set_cons_succ]
              refine wpL_one 19 rfl (by kernel_rfl) (by rfl) ?_
              intro K hK
              go_simp
              have CN : Hid (Calls _ _ _ _ _) := normal_any (a.bth b) (.slice px0 nx0 cx0) (.slice px1 nx1 cx1) (.slice px2 nx2 cx2) z57 HRf.out HLs.out
              refine CN.out.mono ?_
              rintro e wN ⟨y0, y1, y2, g, rfl, h0, h1, h2, hN, hbN⟩
              dsimp only
              refine hK.out _ _ (fun _ => ⟨HSN.out.1.on hbN, HSN.out.2.on hbN⟩) ?_
              clear hK K CN
              try simp only [Act.put, List.setIfInBounds_toArray, List.set_cons_zero, List.set_cons_succ]
              obtain ⟨q0, m0, d0, ey0⟩ : ∃ p n c, y0 = .slice p n c := by
                obtain ⟨p, c, e, _⟩ := h0.row
                exact ⟨_, _, _, e⟩
              obtain ⟨q1, m1, d1, ey1⟩ : ∃ p n c, y1 = .slice p n c := by
                obtain ⟨p, c, e, _⟩ := h1.row
                exact ⟨_, _, _, e⟩
              obtain ⟨q2, m2, d2, ey2⟩ : ∃ p n c, y2 = .slice p n c := by
                obtain ⟨p, c, e, _⟩ := h2.row
                exact ⟨_, _, _, e⟩
              subst ey0 ey1 ey2
              have HO : Hid (OwnP wN z57.heap.size (.slice q0 m0 d0) g.P ∧ OwnS wN z57.heap.size (.slice q1 m1 d1) g.S ∧ OwnP wN z57.heap.size (.slice q2 m2 d2) g.W ∧ NrmF (a.bth b) g) := ⟨h0, h1, h2, hN⟩
              have HBN : Hid (Below w7.heap.size w7 wN) := HBz57.out.1.trans (hbN.mono HBz57.out.1.size)
              have HZN : Hid (w7.heap.size ≤ z57.heap.size) := HBz57.out.1.size
              have HRs : Hid (Blk wN (w.heap.size + 1 + 1) #[.slice none 0 0, .slice none 0 0, .slice none 0 0] 25) := HRes.out.on HBN.out
              have HSM : Hid (Blk wN w.heap.size #[.slice pa0 na0 ca0, .slice pa1 na1 ca1, .slice pa2 na2 ca2] 25 ∧ Blk wN (w.heap.size + 1) #[.slice pb0 nb0 cb0, .slice pb1 nb1 cb1, .slice pb2 nb2 cb2] 25) := ⟨HSN.out.1.on hbN, HSN.out.2.on hbN⟩
              clear h0 h1 h2 hN hbN HRf HSN HBz57 X0z57 X1z57 X2z57 HLa HLb HLs HRa HRb HSz HEn
              have c0 := HRs.out.cell (i := 0) rfl
              have c1 := HRs.out.cell (i := 1) rfl
              have c2 := HRs.out.cell (i := 2) rfl
              have f0 := HRs.out.frozen 0
              have f1 := HRs.out.frozen 1
              have f2 := HRs.out.frozen 2
              have HF : Hid (Frm wN (((wN.setCell ⟨w.heap.size + 1 + 1, 0, none⟩ (.slice q0 m0 d0)).setCell ⟨w.heap.size + 1 + 1, 1, none⟩ (.slice q1 m1 d1)).setCell ⟨w.heap.size + 1 + 1, 2, none⟩ (.slice q2 m2 d2)) (fun k => k = w.heap.size + 1 + 1)) := ((frm_set _ _ _ _ (F := fun k => k = w.heap.size + 1 + 1) (.inl rfl)).trans (frm_set _ _ _ _ (F := fun k => k = w.heap.size + 1 + 1) (.inl rfl)) (fun k hk => .inl hk)).trans (frm_set _ _ _ _ (F := fun k => k = w.heap.size + 1 + 1) (.inl rfl)) (fun k hk => .inl hk)
              have HR : Hid (Blk (((wN.setCell ⟨w.heap.size + 1 + 1, 0, none⟩ (.slice q0 m0 d0)).setCell ⟨w.heap.size + 1 + 1, 1, none⟩ (.slice q1 m1 d1)).setCell ⟨w.heap.size + 1 + 1, 2, none⟩ (.slice q2 m2 d2)) (w.heap.size + 1 + 1) #[.slice q0 m0 d0, .slice q1 m1 d1, .slice q2 m2 d2] 25) := ((HRs.out.set 0 _).set 1 _).set 2 _
              refine wpL_one 20 rfl (by kernel_rfl) (by rfl) ?_
              intro K hK
              go_simp
              refine hK.out _ _ (fun h => absurd rfl h) ?_
              clear hK K
              try simp only [Act.put, List.setIfInBounds_toArray, List.set_cons_zero, List.set_cons_succ]
              clear c0 c1 c2 f0 f1 f2
              generalize ((wN.setCell ⟨w.heap.size + 1 + 1, 0, none⟩ (.slice q0 m0 d0)).setCell ⟨w.heap.size + 1 + 1, 1, none⟩ (.slice q1 m1 d1)).setCell ⟨w.heap.size + 1 + 1, 2, none⟩ (.slice q2 m2 d2) = we at *
              have HSE : Hid (Blk we w.heap.size #[.slice pa0 na0 ca0, .slice pa1 na1 ca1, .slice pa2 na2 ca2] 25 ∧ Blk we (w.heap.size + 1) #[.slice pb0 nb0 cb0, .slice pb1 nb1 cb1, .slice pb2 nb2 cb2] 25) := ⟨HSM.out.1.frm HF.out (by omega), HSM.out.2.frm HF.out (by omega)⟩
              refine wpL_one 21 rfl (by kernel_rfl) (by rfl) ?_
              intro K hK
              go_simp
              refine hK.out _ _ (fun _ => HSE.out) ?_
              clear hK K
              try simp only [Act.put, List.setIfInBounds_toArray, List.set_cons_zero, List.set_cons_succ]
              refine wpL_done (by kernel_rfl) ?_ _
              try simp only [NoPanic]
              have r0 := HR.out.cell (i := 0) rfl
              have r1 := HR.out.cell (i := 1) rfl
              have r2 := HR.out.cell (i := 2) rfl
              go_wp2_with fail
              refine bodyPost_ret (v := .tuple #[.agg #[.slice q0 m0 d0, .slice q1 m1 d1, .slice q2 m2 d2], .int .i64 0]) (by simp [results, Try.results18, go_sem, r0, r1, r2]) rfl ?_
              exact mg_end HCM.out HO.out HF.out HZN.out HBw7.out HBN.out hz7
          · intro K hK
            go_simp
            have hbz59 : Below z43.heap.size z43 (z43.alloc (.cells #[.slice pa2 na2 ca2, .slice pb2 nb2 cb2] 22)) := (Below.refl _ _).alloc (Nat.le_refl _) _
            have hkz59 : Blk (z43.alloc (.cells #[.slice pa2 na2 ca2, .slice pb2 nb2 cb2] 22)) z43.heap.size #[.slice pa2 na2 ca2, .slice pb2 nb2 cb2] 22 := Blk.new z43 _ _
            generalize (z43.alloc (.cells #[.slice pa2 na2 ca2, .slice pb2 nb2 cb2] 22)) = z59 at *
            have HBz59 : Hid (Below w7.heap.size w7 z59 ∧ (Blk z59 w.heap.size #[.slice pa0 na0 ca0, .slice pa1 na1 ca1, .slice pa2 na2 ca2] 25 ∧ Blk z59 (w.heap.size + 1) #[.slice pb0 nb0 cb0, .slice pb1 nb1 cb1, .slice pb2 nb2 cb2] 25)) := ⟨HBz43.out.1.trans ((hbz59).mono HBz43.out.1.size), HBz43.out.2.1.on (hbz59), HBz43.out.2.2.on (hbz59)⟩
            have B1z59 : Hid (Blk z59 (w7.heap.size) #[.slice pa1 na1 ca1, .slice pb1 nb1 cb1] 23) := B1z43.out.on (hbz59)
            clear HBz43 B1z43
            have B2z59 : Hid (Blk z59 z43.heap.size #[.slice pa2 na2 ca2, .slice pb2 nb2 cb2] 22) := hkz59
            clear hbz59 hkz59
            refine hK.out _ _ (fun _ => HBz59.out.2) ?_
            clear hK K
            try simp only [Act.put, List.setIfInBounds_toArray, List.set_cons_zero, List.set_cons_succ]
            refine wpL_one 4 rfl (by kernel_rfl) (by rfl) ?_
            intro K hK
            go_simp
            have hbz60 : Below z59.heap.size z59 (z59.alloc (.cells #[.slice pa0 na0 ca0, .slice pb0 nb0 cb0] 22)) := (Below.refl _ _).alloc (Nat.le_refl _) _
            have hkz60 : Blk (z59.alloc (.cells #[.slice pa0 na0 ca0, .slice pb0 nb0 cb0] 22)) z59.heap.size #[.slice pa0 na0 ca0, .slice pb0 nb0 cb0] 22 := Blk.new z59 _ _
            generalize (z59.alloc (.cells #[.slice pa0 na0 ca0, .slice pb0 nb0 cb0] 22)) = z60 at *
            have HBz60 : Hid (Below w7.heap.size w7 z60 ∧ (Blk z60 w.heap.size #[.slice pa0 na0 ca0, .slice pa1 na1 ca1, .slice pa2 na2 ca2] 25 ∧ Blk z60 (w.heap.size + 1) #[.slice pb0 nb0 cb0, .slice pb1 nb1 cb1, .slice pb2 nb2 cb2] 25)) := ⟨HBz59.out.1.trans ((hbz60).mono HBz59.out.1.size), HBz59.out.2.1.on (hbz60), HBz59.out.2.2.on (hbz60)⟩
            have B1z60 : Hid (Blk z60 (w7.heap.size) #[.slice pa1 na1 ca1, .slice pb1 nb1 cb1] 23) := B1z59.out.on (hbz60)
            have B2z60 : Hid (Blk z60 (z43.heap.size) #[.slice pa2 na2 ca2, .slice pb2 nb2 cb2] 22) := B2z59.out.on (hbz60)
            clear HBz59 B1z59 B2z59
            have B0z60 : Hid (Blk z60 z59.heap.size #[.slice pa0 na0 ca0, .slice pb0 nb0 cb0] 22) := hkz60
            clear hbz60 hkz60
            refine hK.out _ _ (fun _ => HBz60.out.2) ?_
            clear hK K
            try simp only [Act.put, List.setIfInBounds_toArray, List.set_cons_zero, List.set_cons_succ]
            refine wpL_one 5 rfl (by kernel_rfl) (by rfl) ?_
            intro K hK
            go_simp
            have Cz61 : Hid (Calls Try.prog 40 #[.slice (some ⟨z59.heap.size, 0, none⟩) 2 2] z60 fun e w' => (∃ v, e = .returned v ∧ OwnP w' z60.heap.size v [a.P, b.P].flatten) ∧ Below z60.heap.size z60 w') := concatP_any [a.P, b.P] (z59.heap.size) z60 B0z60.out.lt (pair17 B0z60.out (HRa.out.p.on HBz60.out.1) (HRb.out.p.on HBz60.out.1)) (by simp) (len17 HLa.out.1 HLb.out.1)
            refine Cz61.out.mono ?_
            rintro e z61 ⟨⟨x0z61, rfl, hoz61⟩, hbz61⟩
            dsimp only
            have HZz61 : Hid (w7.heap.size ≤ z60.heap.size) := HBz60.out.1.size
            have HBz61 : Hid (Below w7.heap.size w7 z61 ∧ (Blk z61 w.heap.size #[.slice pa0 na0 ca0, .slice pa1 na1 ca1, .slice pa2 na2 ca2] 25 ∧ Blk z61 (w.heap.size + 1) #[.slice pb0 nb0 cb0, .slice pb1 nb1 cb1, .slice pb2 nb2 cb2] 25)) := ⟨HBz60.out.1.trans ((hbz61).mono HBz60.out.1.size), HBz60.out.2.1.on (hbz61), HBz60.out.2.2.on (hbz61)⟩
            have B1z61 : Hid (Blk z61 (w7.heap.size) #[.slice pa1 na1 ca1, .slice pb1 nb1 cb1] 23) := B1z60.out.on (hbz61)
            have B2z61 : Hid (Blk z61 (z43.heap.size) #[.slice pa2 na2 ca2, .slice pb2 nb2 cb2] 22) := B2z60.out.on (hbz61)
            clear HBz60 B1z60 B2z60
            have X0z61 : Hid (OwnP z61 w7.heap.size x0z61 (a.P ++ b.P)) := (show OwnP _ _ _ _ by have h := hoz61; rw [flat_two] at h; exact h.mono HZz61.out)
            clear Cz61 hoz61 hbz61 B0z60
            refine hK.out _ _ (fun _ => HBz61.out.2) ?_
            clear hK K
            try simp only [Act.put, List.setIfInBounds_toArray, List.set_cons_zero, List.set_cons_succ]
            refine wpL_one 11 rfl (by kernel_rfl) (by rfl) ?_
            intro K hK
            go_simp
            have Cz62 : Hid (Calls Try.prog 41 #[.slice (some ⟨w7.heap.size, 0, none⟩) 2 2] z61 fun e w' => (∃ v, e = .returned v ∧ OwnS w' z61.heap.size v [a.S, b.S].flatten) ∧ Below z61.heap.size z61 w') := concatS_any [a.S, b.S] (w7.heap.size) z61 B1z61.out.lt (pair17 B1z61.out (HRa.out.s.on HBz61.out.1) (HRb.out.s.on HBz61.out.1)) (by simp) (len17 HLa.out.2.1 HLb.out.2.1)
            refine Cz62.out.mono ?_
            rintro e z62 ⟨⟨x1z62, rfl, hoz62⟩, hbz62⟩
            dsimp only
            have HZz62 : Hid (w7.heap.size ≤ z61.heap.size) := HBz61.out.1.size
            have HBz62 : Hid (Below w7.heap.size w7 z62 ∧ (Blk z62 w.heap.size #[.slice pa0 na0 ca0, .slice pa1 na1 ca1, .slice pa2 na2 ca2] 25 ∧ Blk z62 (w.heap.size + 1) #[.slice pb0 nb0 cb0, .slice pb1 nb1 cb1, .slice pb2 nb2 cb2] 25)) := ⟨HBz61.out.1.trans ((hbz62).mono HBz61.out.1.size), HBz61.out.2.1.on (hbz62), HBz61.out.2.2.on (hbz62)⟩
            have B2z62 : Hid (Blk z62 (z43.heap.size) #[.slice pa2 na2 ca2, .slice pb2 nb2 cb2] 22) := B2z61.out.on (hbz62)
            have X0z62 : Hid (OwnP z62 w7.heap.size x0z61 (a.P ++ b.P)) := X0z61.out.kept (hbz62)
            clear HBz61 B2z61 X0z61
            have X1z62 : Hid (OwnS z62 w7.heap.size x1z62 (a.S ++ b.S)) := (show OwnS _ _ _ _ by have h := hoz62; rw [flat_two] at h; exact h.mono HZz62.out)
            clear Cz62 hoz62 hbz62 B1z61
            refine hK.out _ _ (fun _ => HBz62.out.2) ?_
            clear hK K
            try simp only [Act.put, List.setIfInBounds_toArray, List.set_cons_zero, List.set_cons_succ]
            refine wpL_one 17 rfl (by kernel_rfl) (by rfl) ?_
            intro K hK
            go_simp
            have Cz63 : Hid (Calls Try.prog 40 #[.slice (some ⟨z43.heap.size, 0, none⟩) 2 2] z62 fun e w' => (∃ v, e = .returned v ∧ OwnP w' z62.heap.size v [a.W, b.W].flatten) ∧ Below z62.heap.size z62 w') := concatP_any [a.W, b.W] (z43.heap.size) z62 B2z62.out.lt (pair17 B2z62.out (HRa.out.w.on HBz62.out.1) (HRb.out.w.on HBz62.out.1)) (by simp) (len17 HLa.out.2.2 HLb.out.2.2)
            refine Cz63.out.mono ?_
            rintro e z63 ⟨⟨x2z63, rfl, hoz63⟩, hbz63⟩
            dsimp only
            have HZz63 : Hid (w7.heap.size ≤ z62.heap.size) := HBz62.out.1.size
            have HBz63 : Hid (Below w7.heap.size w7 z63 ∧ (Blk z63 w.heap.size #[.slice pa0 na0 ca0, .slice pa1 na1 ca1, .slice pa2 na2 ca2] 25 ∧ Blk z63 (w.heap.size + 1) #[.slice pb0 nb0 cb0, .slice pb1 nb1 cb1, .slice pb2 nb2 cb2] 25)) := ⟨HBz62.out.1.trans ((hbz63).mono HBz62.out.1.size), HBz62.out.2.1.on (hbz63), HBz62.out.2.2.on (hbz63)⟩
            have X0z63 : Hid (OwnP z63 w7.heap.size x0z61 (a.P ++ b.P)) := X0z62.out.kept (hbz63)
            have X1z63 : Hid (OwnS z63 w7.heap.size x1z62 (a.S ++ b.S)) := X1z62.out.kept (hbz63)
            clear HBz62 X0z62 X1z62
            have X2z63 : Hid (OwnP z63 w7.heap.size x2z63 (a.W ++ b.W)) := (show OwnP _ _ _ _ by have h := hoz63; rw [flat_two] at h; exact h.mono HZz63.out)
            clear Cz63 hoz63 hbz63 B2z62
            refine hK.out _ _ (fun _ => HBz63.out.2) ?_
            clear hK K
            try simp only [Act.put, List.setIfInBounds_toArray, List.set_cons_zero, List.set_cons_succ]
            obtain ⟨px0, nx0, cx0, ex0⟩ : ∃ p n c, x0z61 = .slice p n c := by
              obtain ⟨p, c, e, _⟩ := X0z63.out.row
              exact ⟨_, _, _, e⟩
            obtain ⟨px1, nx1, cx1, ex1⟩ : ∃ p n c, x1z62 = .slice p n c := by
              obtain ⟨p, c, e, _⟩ := X1z63.out.row
              exact ⟨_, _, _, e⟩
            obtain ⟨px2, nx2, cx2, ex2⟩ : ∃ p n c, x2z63 = .slice p n c := by
              obtain ⟨p, c, e, _⟩ := X2z63.out.row
              exact ⟨_, _, _, e⟩
            subst ex0 ex1 ex2
            have HRf : Hid (RdF z63 (.slice px0 nx0 cx0) (.slice px1 nx1 cx1) (.slice px2 nx2 cx2) (a.bth b)) := bth_rd X0z63.out X1z63.out X2z63.out HLa.out HLb.out
            have HSN : Hid (Blk z63 w.heap.size #[.slice pa0 na0 ca0, .slice pa1 na1 ca1, .slice pa2 na2 ca2] 25 ∧ Blk z63 (w.heap.size + 1) #[.slice pb0 nb0 cb0, .slice pb1 nb1 cb1, .slice pb2 nb2 cb2] 25) := HBz63.out.2
            refine wpL_take (v := ?_) 18 rfl (by kernel_rfl) (fun _ _ _ h => h) (by rfl) ?_ HSN.out ?_
            rotate_left
            focus
              intro w9 hw9
              have k0 := Blk.cell hw9.1 (i := 0) rfl
              have k1 := Blk.cell hw9.1 (i := 1) rfl
              have k2 := Blk.cell hw9.1 (i := 2) rfl
              have k3 := Blk.cell hw9.2 (i := 0) rfl
              have k4 := Blk.cell hw9.2 (i := 1) rfl
              have k5 := Blk.cell hw9.2 (i := 2) rfl
              go_simp
              try with_reducible rfl
            try simp only [Act.put, List.setIfInBounds_toArray, List.set_cons_zero, List.set_cons_succ]
            refine wpL_one 19 rfl (by kernel_rfl) (by rfl) ?_
            intro K hK
            go_simp
            have CN : Hid (Calls _ _ _ _ _) := normal_any (a.bth b) (.slice px0 nx0 cx0) (.slice px1 nx1 cx1) (.slice px2 nx2 cx2) z63 HRf.out HLs.out
            refine CN.out.mono ?_
            rintro e wN ⟨y0, y1, y2, g, rfl, h0, h1, h2, hN, hbN⟩
            dsimp only
            refine hK.out _ _ (fun _ => ⟨HSN.out.1.on hbN, HSN.out.2.on hbN⟩) ?_
            clear hK K CN
            try simp only [Act.put, List.setIfInBounds_toArray, List.set_cons_zero, List.set_cons_succ]
            obtain ⟨q0, m0, d0, ey0⟩ : ∃ p n c, y0 = .slice p n c := by
              obtain ⟨p, c, e, _⟩ := h0.row
              exact ⟨_, _, _, e⟩
            obtain ⟨q1, m1, d1, ey1⟩ : ∃ p n c, y1 = .slice p n c := by
              obtain ⟨p, c, e, _⟩ := h1.row
              exact ⟨_, _, _, e⟩
            obtain ⟨q2, m2, d2, ey2⟩ : ∃ p n c, y2 = .slice p n c := by
              obtain ⟨p, c, e, _⟩ := h2.row
              exact ⟨_, _, _, e⟩
            subst ey0 ey1 ey2
            have HO : Hid (OwnP wN z63.heap.size (.slice q0 m0 d0) g.P ∧ OwnS wN z63.heap.size (.slice q1 m1 d1) g.S ∧ OwnP wN z63.heap.size (.slice q2 m2 d2) g.W ∧ NrmF (a.bth b) g) := ⟨h0, h1, h2, hN⟩
            have HBN : Hid (Below w7.heap.size w7 wN) := HBz63.out.1.trans (hbN.mono HBz63.out.1.size)
            have HZN : Hid (w7.heap.size ≤ z63.heap.size) := HBz63.out.1.size
            have HRs : Hid (Blk wN (w.heap.size + 1 + 1) #[.slice none 0 0, .slice none 0 0, .slice none 0 0] 25) := HRes.out.on HBN.out
            have HSM : Hid (Blk wN w.heap.size #[.slice pa0 na0 ca0, .slice pa1 na1 ca1, .slice pa2 na2 ca2] 25 ∧ Blk wN (w.heap.size + 1) #[.slice pb0 nb0 cb0, .slice pb1 nb1 cb1, .slice pb2 nb2 cb2] 25) := ⟨HSN.out.1.on hbN, HSN.out.2.on hbN⟩
            clear h0 h1 h2 hN hbN HRf HSN HBz63 X0z63 X1z63 X2z63 HLa HLb HLs HRa HRb HSz HEn
            have c0 := HRs.out.cell (i := 0) rfl
            have c1 := HRs.out.cell (i := 1) rfl
            have c2 := HRs.out.cell (i := 2) rfl
            have f0 := HRs.out.frozen 0
            have f1 := HRs.out.frozen 1
            have f2 := HRs.out.frozen 2
            have HF : Hid (Frm wN (((wN.setCell ⟨w.heap.size + 1 + 1, 0, none⟩ (.slice q0 m0 d0)).setCell ⟨w.heap.size + 1 + 1, 1, none⟩ (.slice q1 m1 d1)).setCell ⟨w.heap.size + 1 + 1, 2, none⟩ (.slice q2 m2 d2)) (fun k => k = w.heap.size + 1 + 1)) := ((frm_set _ _ _ _ (F := fun k => k = w.heap.size + 1 + 1) (.inl rfl)).trans (frm_set _ _ _ _ (F := fun k => k = w.heap.size + 1 + 1) (.inl rfl)) (fun k hk => .inl hk)).trans (frm_set _ _ _ _ (F := fun k => k = w.heap.size + 1 + 1) (.inl rfl)) (fun k hk => .inl hk)
            have HR : Hid (Blk (((wN.setCell ⟨w.heap.size + 1 + 1, 0, none⟩ (.slice q0 m0 d0)).setCell ⟨w.heap.size + 1 + 1, 1, none⟩ (.slice q1 m1 d1)).setCell ⟨w.heap.size + 1 + 1, 2, none⟩ (.slice q2 m2 d2)) (w.heap.size + 1 + 1) #[.slice q0 m0 d0, .slice q1 m1 d1, .slice q2 m2 d2] 25) := ((HRs.out.set 0 _).set 1 _).set 2 _
            refine wpL_one 20 rfl (by kernel_rfl) (by rfl) ?_
            intro K hK
            go_simp
            refine hK.out _ _ (fun h => absurd rfl h) ?_
            clear hK K
            try simp only [Act.put, List.setIfInBounds_toArray, List.set_cons_zero, List.set_cons_succ]
            clear c0 c1 c2 f0 f1 f2
            generalize ((wN.setCell ⟨w.heap.size + 1 + 1, 0, none⟩ (.slice q0 m0 d0)).setCell ⟨w.heap.size + 1 + 1, 1, none⟩ (.slice q1 m1 d1)).setCell ⟨w.heap.size + 1 + 1, 2, none⟩ (.slice q2 m2 d2) = we at *
            have HSE : Hid (Blk we w.heap.size #[.slice pa0 na0 ca0, .slice pa1 na1 ca1, .slice pa2 na2 ca2] 25 ∧ Blk we (w.heap.size + 1) #[.slice pb0 nb0 cb0, .slice pb1 nb1 cb1, .slice pb2 nb2 cb2] 25) := ⟨HSM.out.1.frm HF.out (by omega), HSM.out.2.frm HF.out (by omega)⟩
            refine wpL_one 21 rfl (by kernel_rfl) (by rfl) ?_
            intro K hK
            go_simp
            refine hK.out _ _ (fun _ => HSE.out) ?_
            clear hK K
            try simp only [Act.put, List.setIfInBounds_toArray, List.set_cons_zero, List.set_cons_succ]
            refine wpL_done (by kernel_rfl) ?_ _
            try simp only [NoPanic]
            have r0 := HR.out.cell (i := 0) rfl
            have r1 := HR.out.cell (i := 1) rfl
            have r2 := HR.out.cell (i := 2) rfl
            go_wp2_with fail
            refine bodyPost_ret (v := .tuple #[.agg #[.slice q0 m0 d0, .slice q1 m1 d1, .slice q2 m2 d2], .int .i64 0]) (by simp [results, Try.results18, go_sem, r0, r1, r2]) rfl ?_
            exact mg_end HCM.out HO.out HF.out HZN.out HBw7.out HBN.out hz7
        · intro K hK
          go_simp
          have hbz65 : Below w7.heap.size w7 (w7.alloc (.cells #[.slice pa2 na2 ca2, .slice pb2 nb2 cb2] 22)) := (Below.refl _ _).alloc (Nat.le_refl _) _
          have hkz65 : Blk (w7.alloc (.cells #[.slice pa2 na2 ca2, .slice pb2 nb2 cb2] 22)) w7.heap.size #[.slice pa2 na2 ca2, .slice pb2 nb2 cb2] 22 := Blk.new w7 _ _
          generalize (w7.alloc (.cells #[.slice pa2 na2 ca2, .slice pb2 nb2 cb2] 22)) = z65 at *
          have HBz65 : Hid (Below w7.heap.size w7 z65 ∧ (Blk z65 w.heap.size #[.slice pa0 na0 ca0, .slice pa1 na1 ca1, .slice pa2 na2 ca2] 25 ∧ Blk z65 (w.heap.size + 1) #[.slice pb0 nb0 cb0, .slice pb1 nb1 cb1, .slice pb2 nb2 cb2] 25)) := ⟨HBwd.out.1.trans ((hbz65).mono HBwd.out.1.size), HBwd.out.2.1.on (hbz65), HBwd.out.2.2.on (hbz65)⟩
          clear HBwd
          have B2z65 : Hid (Blk z65 w7.heap.size #[.slice pa2 na2 ca2, .slice pb2 nb2 cb2] 22) := hkz65
          clear hbz65 hkz65
          refine hK.out _ _ (fun _ => HBz65.out.2) ?_
          clear hK K
          try simp only [Act.put, List.setIfInBounds_toArray, List.set_cons_zero, List.set_cons_succ]
          refine wpL_two17 4 10 rfl rfl (by kernel_rfl) (by rfl) (by rfl) ?_ ?_
          · intro K hK
            go_simp
            have hbz66 : Below z65.heap.size z65 (z65.alloc (.cells #[.slice pa0 na0 ca0, .slice pb0 nb0 cb0] 22)) := (Below.refl _ _).alloc (Nat.le_refl _) _
            have hkz66 : Blk (z65.alloc (.cells #[.slice pa0 na0 ca0, .slice pb0 nb0 cb0] 22)) z65.heap.size #[.slice pa0 na0 ca0, .slice pb0 nb0 cb0] 22 := Blk.new z65 _ _
            generalize (z65.alloc (.cells #[.slice pa0 na0 ca0, .slice pb0 nb0 cb0] 22)) = z66 at *
            have HBz66 : Hid (Below w7.heap.size w7 z66 ∧ (Blk z66 w.heap.size #[.slice pa0 na0 ca0, .slice pa1 na1 ca1, .slice pa2 na2 ca2] 25 ∧ Blk z66 (w.heap.size + 1) #[.slice pb0 nb0 cb0, .slice pb1 nb1 cb1, .slice pb2 nb2 cb2] 25)) := ⟨HBz65.out.1.trans ((hbz66).mono HBz65.out.1.size), HBz65.out.2.1.on (hbz66), HBz65.out.2.2.on (hbz66)⟩
            have B2z66 : Hid (Blk z66 (w7.heap.size) #[.slice pa2 na2 ca2, .slice pb2 nb2 cb2] 22) := B2z65.out.on (hbz66)
            clear HBz65 B2z65
            have B0z66 : Hid (Blk z66 z65.heap.size #[.slice pa0 na0 ca0, .slice pb0 nb0 cb0] 22) := hkz66
            clear hbz66 hkz66
            refine hK.out _ _ (fun _ => HBz66.out.2) ?_
            clear hK K
            try simp only [Act.put, List.setIfInBounds_toArray, List.set_cons_zero, List.set_cons_succ]
            refine wpL_two17 5 10 rfl rfl (by kernel_rfl) (by rfl) (by rfl) ?_ ?_
            · intro K hK
              go_simp
              have Cz67 : Hid (Calls Try.prog 40 #[.slice (some ⟨z65.heap.size, 0, none⟩) 2 2] z66 fun e w' => (∃ v, e = .returned v ∧ OwnP w' z66.heap.size v [a.P, b.P].flatten) ∧ Below z66.heap.size z66 w') := concatP_any [a.P, b.P] (z65.heap.size) z66 B0z66.out.lt (pair17 B0z66.out (HRa.out.p.on HBz66.out.1) (HRb.out.p.on HBz66.out.1)) (by simp) (len17 HLa.out.1 HLb.out.1)
              refine Cz67.out.mono ?_
              rintro e z67 ⟨⟨x0z67, rfl, hoz67⟩, hbz67⟩
              dsimp only
              have HZz67 : Hid (w7.heap.size ≤ z66.heap.size) := HBz66.out.1.size
              have HBz67 : Hid (Below w7.heap.size w7 z67 ∧ (Blk z67 w.heap.size #[.slice pa0 na0 ca0, .slice pa1 na1 ca1, .slice pa2 na2 ca2] 25 ∧ Blk z67 (w.heap.size + 1) #[.slice pb0 nb0 cb0, .slice pb1 nb1 cb1, .slice pb2 nb2 cb2] 25)) := ⟨HBz66.out.1.trans ((hbz67).mono HBz66.out.1.size), HBz66.out.2.1.on (hbz67), HBz66.out.2.2.on (hbz67)⟩
              have B2z67 : Hid (Blk z67 (w7.heap.size) #[.slice pa2 na2 ca2, .slice pb2 nb2 cb2] 22) := B2z66.out.on (hbz67)
              clear HBz66 B2z66
              have X0z67 : Hid (OwnP z67 w7.heap.size x0z67 (a.P ++ b.P)) := (show OwnP _ _ _ _ by have h := hoz67; rw [flat_two] at h; exact h.mono HZz67.out)
              clear Cz67 hoz67 hbz67 B0z66
              refine hK.out _ _ (fun _ => HBz67.out.2) ?_
              clear hK K
              try simp only [Act.put, List.setIfInBounds_toArray, List.set_cons_zero, List.set_cons_succ]
              refine wpL_one 10 rfl (by kernel_rfl) (by rfl) ?_
              intro K hK
              go_simp
              have hbz68 : Below z67.heap.size z67 (z67.alloc (.cells #[.slice pa1 na1 ca1, .slice pb1 nb1 cb1] 23)) := (Below.refl _ _).alloc (Nat.le_refl _) _
              have hkz68 : Blk (z67.alloc (.cells #[.slice pa1 na1 ca1, .slice pb1 nb1 cb1] 23)) z67.heap.size #[.slice pa1 na1 ca1, .slice pb1 nb1 cb1] 23 := Blk.new z67 _ _
              generalize (z67.alloc (.cells #[.slice pa1 na1 ca1, .slice pb1 nb1 cb1] 23)) = z68 at *
              have HBz68 : Hid (Below w7.heap.size w7 z68 ∧ (Blk z68 w.heap.size #[.slice pa0 na0 ca0, .slice pa1 na1 ca1, .slice pa2 na2 ca2] 25 ∧ Blk z68 (w.heap.size + 1) #[.slice pb0 nb0 cb0, .slice pb1 nb1 cb1, .slice pb2 nb2 cb2] 25)) := ⟨HBz67.out.1.trans ((hbz68).mono HBz67.out.1.size), HBz67.out.2.1.on (hbz68), HBz67.out.2.2.on (hbz68)⟩
              have B2z68 : Hid (Blk z68 (w7.heap.size) #[.slice pa2 na2 ca2, .slice pb2 nb2 cb2] 22) := B2z67.out.on (hbz68)
              have X0z68 : Hid (OwnP z68 w7.heap.size x0z67 (a.P ++ b.P)) := X0z67.out.kept (hbz68)
              clear HBz67 B2z67 X0z67
              have B1z68 : Hid (Blk z68 z67.heap.size #[.slice pa1 na1 ca1, .slice pb1 nb1 cb1] 23) := hkz68
              clear hbz68 hkz68
              refine hK.out _ _ (fun _ => HBz68.out.2) ?_
              clear hK K
              try simp only [Act.put, List.setIfInBounds_toArray, List.set_cons_zero, List.set_cons_succ]
              refine wpL_one 11 rfl (by kernel_rfl) (by rfl) ?_
              intro K hK
              go_simp
              have Cz69 : Hid (Calls Try.prog 41 #[.slice (some ⟨z67.heap.size, 0, none⟩) 2 2] z68 fun e w' => (∃ v, e = .returned v ∧ OwnS w' z68.heap.size v [a.S, b.S].flatten) ∧ Below z68.heap.size z68 w') := concatS_any [a.S, b.S] (z67.heap.size) z68 B1z68.out.lt (pair17 B1z68.out (HRa.out.s.on HBz68.out.1) (HRb.out.s.on HBz68.out.1)) (by simp) (len17 HLa.out.2.1 HLb.out.2.1)
              refine Cz69.out.mono ?_
              rintro e z69 ⟨⟨x1z69, rfl, hoz69⟩, hbz69⟩
              dsimp only
              have HZz69 : Hid (w7.heap.size ≤ z68.heap.size) := HBz68.out.1.size
              have HBz69 : Hid (Below w7.heap.size w7 z69 ∧ (Blk z69 w.heap.size #[.slice pa0 na0 ca0, .slice pa1 na1 ca1, .slice pa2 na2 ca2] 25 ∧ Blk z69 (w.heap.size + 1) #[.slice pb0 nb0 cb0, .slice pb1 nb1 cb1, .slice pb2 nb2 cb2] 25)) := ⟨HBz68.out.1.trans ((hbz69).mono HBz68.out.1.size), HBz68.out.2.1.on (hbz69), HBz68.out.2.2.on (hbz69)⟩
              have B2z69 : Hid (Blk z69 (w7.heap.size) #[.slice pa2 na2 ca2, .slice pb2 nb2 cb2] 22) := B2z68.out.on (hbz69)
              have X0z69 : Hid (OwnP z69 w7.heap.size x0z67 (a.P ++ b.P)) := X0z68.out.kept (hbz69)
              clear HBz68 B2z68 X0z68
              have X1z69 : Hid (OwnS z69 w7.heap.size x1z69 (a.S ++ b.S)) := (show OwnS _ _ _ _ by have h := hoz69; rw [flat_two] at h; exact h.mono HZz69.out)
              clear Cz69 hoz69 hbz69 B1z68
              refine hK.out _ _ (fun _ => HBz69.out.2) ?_
              clear hK K
              try simp only [Act.put, List.setIfInBounds_toArray, List.set_cons_zero, List.set_cons_succ]
              refine wpL_one 17 rfl (by kernel_rfl) (by rfl) ?_
              intro K hK
              go_simp
              have Cz70 : Hid (Calls Try.prog 40 #[.slice (some ⟨w7.heap.size, 0, none⟩) 2 2] z69 fun e w' => (∃ v, e = .returned v ∧ OwnP w' z69.heap.size v [a.W, b.W].flatten) ∧ Below z69.heap.size z69 w') := concatP_any [a.W, b.W] (w7.heap.size) z69 B2z69.out.lt (pair17 B2z69.out (HRa.out.w.on HBz69.out.1) (HRb.out.w.on HBz69.out.1)) (by simp) (len17 HLa.out.2.2 HLb.out.2.2)
              refine Cz70.out.mono ?_
              rintro e z70 ⟨⟨x2z70, rfl, hoz70⟩, hbz70⟩
              dsimp only
              have HZz70 : Hid (w7.heap.size ≤ z69.heap.size) := HBz69.out.1.size
              have HBz70 : Hid (Below w7.heap.size w7 z70 ∧ (Blk z70 w.heap.size #[.slice pa0 na0 ca0, .slice pa1 na1 ca1, .slice pa2 na2 ca2] 25 ∧ Blk z70 (w.heap.size + 1) #[.slice pb0 nb0 cb0, .slice pb1 nb1 cb1, .slice pb2 nb2 cb2] 25)) := ⟨HBz69.out.1.trans ((hbz70).mono HBz69.out.1.size), HBz69.out.2.1.on (hbz70), HBz69.out.2.2.on (hbz70)⟩
              have X0z70 : Hid (OwnP z70 w7.heap.size x0z67 (a.P ++ b.P)) := X0z69.out.kept (hbz70)
              have X1z70 : Hid (OwnS z70 w7.heap.size x1z69 (a.S ++ b.S)) := X1z69.out.kept (hbz70)
              clear HBz69 X0z69 X1z69
              have X2z70 : Hid (OwnP z70 w7.heap.size x2z70 (a.W ++ b.W)) := (show OwnP _ _ _ _ by have h := hoz70; rw [flat_two] at h; exact h.mono HZz70.out)
              clear Cz70 hoz70 hbz70 B2z69
              refine hK.out _ _ (fun _ => HBz70.out.2) ?_
              clear hK K
              try simp only [Act.put, List.setIfInBounds_toArray, List.set_cons_zero, List.set_cons_succ]
              obtain ⟨px0, nx0, cx0, ex0⟩ : ∃ p n c, x0z67 = .slice p n c := by
                obtain ⟨p, c, e, _⟩ := X0z70.out.row
                exact ⟨_, _, _, e⟩
              obtain ⟨px1, nx1, cx1, ex1⟩ : ∃ p n c, x1z69 = .slice p n c := by
                obtain ⟨p, c, e, _⟩ := X1z70.out.row
                exact ⟨_, _, _, e⟩
              obtain ⟨px2, nx2, cx2, ex2⟩ : ∃ p n c, x2z70 = .slice p n c := by
                obtain ⟨p, c, e, _⟩ := X2z70.out.row
                exact ⟨_, _, _, e⟩
              subst ex0 ex1 ex2
              have HRf : Hid (RdF z70 (.slice px0 nx0 cx0) (.slice px1 nx1 cx1) (.slice px2 nx2 cx2) (a.bth b)) := bth_rd X0z70.out X1z70.out X2z70.out HLa.out HLb.out
              have HSN : Hid (Blk z70 w.heap.size #[.slice pa0 na0 ca0, .slice pa1 na1 ca1, .slice pa2 na2 ca2] 25 ∧ Blk z70 (w.heap.size + 1) #[.slice pb0 nb0 cb0, .slice pb1 nb1 cb1, .slice pb2 nb2 cb2] 25) := HBz70.out.2
              refine wpL_take (v := ?_) 18 rfl (by kernel_rfl) (fun _ _ _ h => h) (by rfl) ?_ HSN.out ?_
              rotate_left
              focus
                intro w9 hw9
                have k0 := Blk.cell hw9.1 (i := 0) rfl
                have k1 := Blk.cell hw9.1 (i := 1) rfl
                have k2 := Blk.cell hw9.1 (i := 2) rfl
                have k3 := Blk.cell hw9.2 (i := 0) rfl
                have k4 := Blk.cell hw9.2 (i := 1) rfl
                have k5 := Blk.cell hw9.2 (i := 2) rfl
                go_simp
                try with_reducible rfl
              try simp only [Act.put, List.setIfInBounds_toArray, List.set_cons_zero, List.set_cons_succ]
              refine wpL_one 19 rfl (by kernel_rfl) (by rfl) ?_
              intro K hK
              go_simp
              have CN : Hid (Calls _ _ _ _ _) := normal_any (a.bth b) (.slice px0 nx0 cx0) (.slice px1 nx1 cx1) (.slice px2 nx2 cx2) z70 HRf.out HLs.out
              refine CN.out.mono ?_
              rintro e wN ⟨y0, y1, y2, g, rfl, h0, h1, h2, hN, hbN⟩
              dsimp only
              refine hK.out _ _ (fun _ => ⟨HSN.out.1.on hbN, HSN.out.2.on hbN⟩) ?_
              clear hK K CN
              try simp only [Act.put, List.setIfInBounds_toArray, List.set_cons_zero, List.set_cons_succ]
              obtain ⟨q0, m0, d0, ey0⟩ : ∃ p n c, y0 = .slice p n c := by
                obtain ⟨p, c, e, _⟩ := h0.row
                exact ⟨_, _, _, e⟩
              obtain ⟨q1, m1, d1, ey1⟩ : ∃ p n c, y1 = .slice p n c := by
                obtain ⟨p, c, e, _⟩ := h1.row
                exact ⟨_, _, _, e⟩
              obtain ⟨q2, m2, d2, ey2⟩ : ∃ p n c, y2 = .slice p n c := by
                obtain ⟨p, c, e, _⟩ := h2.row
                exact ⟨_, _, _, e⟩
              subst ey0 ey1 ey2
              have HO : Hid (OwnP wN z70.heap.size (.slice q0 m0 d0) g.P ∧ OwnS wN z70.heap.size (.slice q1 m1 d1) g.S ∧ OwnP wN z70.heap.size (.slice q2 m2 d2) g.W ∧ NrmF (a.bth b) g) := ⟨h0, h1, h2, hN⟩
              have HBN : Hid (Below w7.heap.size w7 wN) := HBz70.out.1.trans (hbN.mono HBz70.out.1.size)
              have HZN : Hid (w7.heap.size ≤ z70.heap.size) := HBz70.out.1.size
              have HRs : Hid (Blk wN (w.heap.size + 1 + 1) #[.slice none 0 0, .slice none 0 0, .slice none 0 0] 25) := HRes.out.on HBN.out
              have HSM : Hid (Blk wN w.heap.size #[.slice pa0 na0 ca0, .slice pa1 na1 ca1, .slice pa2 na2 ca2] 25 ∧ Blk wN (w.heap.size + 1) #[.slice pb0 nb0 cb0, .slice pb1 nb1 cb1, .slice pb2 nb2 cb2] 25) := ⟨HSN.out.1.on hbN, HSN.out.2.on hbN⟩
              clear h0 h1 h2 hN hbN HRf HSN HBz70 X0z70 X1z70 X2z70 HLa HLb HLs HRa HRb HSz HEn
              have c0 := HRs.out.cell (i := 0) rfl
              have c1 := HRs.out.cell (i := 1) rfl
              have c2 := HRs.out.cell (i := 2) rfl
              have f0 := HRs.out.frozen 0
              have f1 := HRs.out.frozen 1
              have f2 := HRs.out.frozen 2
              have HF : Hid (Frm wN (((wN.setCell ⟨w.heap.size + 1 + 1, 0, none⟩ (.slice q0 m0 d0)).setCell ⟨w.heap.size + 1 + 1, 1, none⟩ (.slice q1 m1 d1)).setCell ⟨w.heap.size + 1 + 1, 2, none⟩ (.slice q2 m2 d2)) (fun k => k = w.heap.size + 1 + 1)) := ((frm_set _ _ _ _ (F := fun k => k = w.heap.size + 1 + 1) (.inl rfl)).trans (frm_set _ _ _ _ (F := fun k => k = w.heap.size + 1 + 1) (.inl rfl)) (fun k hk => .inl hk)).trans (frm_set _ _ _ _ (F := fun k => k = w.heap.size + 1 + 1) (.inl rfl)) (fun k hk => .inl hk)
              have HR : Hid (Blk (((wN.setCell ⟨w.heap.size + 1 + 1, 0, none⟩ (.slice q0 m0 d0)).setCell ⟨w.heap.size + 1 + 1, 1, none⟩ (.slice q1 m1 d1)).setCell ⟨w.heap.size + 1 + 1, 2, none⟩ (.slice q2 m2 d2)) (w.heap.size + 1 + 1) #[.slice q0 m0 d0, .slice q1 m1 d1, .slice q2 m2 d2] 25) := ((HRs.out.set 0 _).set 1 _).set 2 _
              refine wpL_one 20 rfl (by kernel_rfl) (by rfl) ?_
              intro K hK
              go_simp
              refine hK.out _ _ (fun h => absurd rfl h) ?_
              clear hK K
              try simp only [Act.put, List.setIfInBounds_toArray, List.set_cons_zero, List.set_cons_succ]
              clear c0 c1 c2 f0 f1 f2
              generalize ((wN.setCell ⟨w.heap.size + 1 + 1, 0, none⟩ (.slice q0 m0 d0)).setCell ⟨w.heap.size + 1 + 1, 1, none⟩ (.slice q1 m1 d1)).setCell ⟨w.heap.size + 1 + 1, 2, none⟩ (.slice q2 m2 d2) = we at *
              have HSE : Hid (Blk we w.heap.size #[.slice pa0 na0 ca0, .slice pa1 na1 ca1, .slice pa2 na2 ca2] 25 ∧ Blk we (w.heap.size + 1) #[.slice pb0 nb0 cb0, .slice pb1 nb1 cb1, .slice pb2 nb2 cb2] 25) := ⟨HSM.out.1.frm HF.out (by omega), HSM.out.2.frm HF.out (by omega)⟩
              refine wpL_one 21 rfl (by kernel_rfl) (by rfl) ?_
              intro K hK
              go_simp
              refine hK.out _ _ (fun _ => HSE.out) ?_
              clear hK K
              try simp only [Act.put, List.setIfInBounds_toArray, List.set_cons_zero, List.set_cons_succ]
              refine wpL_done (by kernel_rfl) ?_ _
              try simp only [NoPanic]
              have r0 := HR.out.cell (i := 0) rfl
              have r1 := HR.out.cell (i := 1) rfl
              have r2 := HR.out.cell (i := 2) rfl
              go_wp2_with fail
              refine bodyPost_ret (v := .tuple #[.agg #[.slice q0 m0 d0, .slice q1 m1 d1, .slice q2 m2 d2], .int .i64 0]) (by simp [results, Try.results18, go_sem, r0, r1, r2]) rfl ?_
              exact mg_end HCM.out HO.out HF.out HZN.out HBw7.out HBN.out hz7
            · intro K hK
              go_simp
              have hbz72 : Below z66.heap.size z66 (z66.alloc (.cells #[.slice pa1 na1 ca1, .slice pb1 nb1 cb1] 23)) := (Below.refl _ _).alloc (Nat.le_refl _) _
              have hkz72 : Blk (z66.alloc (.cells #[.slice pa1 na1 ca1, .slice pb1 nb1 cb1] 23)) z66.heap.size #[.slice pa1 na1 ca1, .slice pb1 nb1 cb1] 23 := Blk.new z66 _ _
              generalize (z66.alloc (.cells #[.slice pa1 na1 ca1, .slice pb1 nb1 cb1] 23)) = z72 at *
              have HBz72 : Hid (Below w7.heap.size w7 z72 ∧ (Blk z72 w.heap.size #[.slice pa0 na0 ca0, .slice pa1 na1 ca1, .slice pa2 na2 ca2] 25 ∧ Blk z72 (w.heap.size + 1) #[.slice pb0 nb0 cb0, .slice pb1 nb1 cb1, .slice pb2 nb2 cb2] 25)) := ⟨HBz66.out.1.trans ((hbz72).mono HBz66.out.1.size), HBz66.out.2.1.on (hbz72), HBz66.out.2.2.on (hbz72)⟩
              have B2z72 : Hid (Blk z72 (w7.heap.size) #[.slice pa2 na2 ca2, .slice pb2 nb2 cb2] 22) := B2z66.out.on (hbz72)
              have B0z72 : Hid (Blk z72 (z65.heap.size) #[.slice pa0 na0 ca0, .slice pb0 nb0 cb0] 22) := B0z66.out.on (hbz72)
              clear HBz66 B2z66 B0z66
              have B1z72 : Hid (Blk z72 z66.heap.size #[.slice pa1 na1 ca1, .slice pb1 nb1 cb1] 23) := hkz72
              clear hbz72 hkz72
              refine hK.out _ _ (fun _ => HBz72.out.2) ?_
              clear hK K
              try simp only [Act.put, List.setIfInBounds_toArray, List.set_cons_zero, List.set_cons_succ]
              refine wpL_one 5 rfl (by kernel_rfl) (by rfl) ?_
              intro K hK
              go_simp
              have Cz73 : Hid (Calls Try.prog 40 #[.slice (some ⟨z65.heap.size, 0, none⟩) 2 2] z72 fun e w' => (∃ v, e = .returned v ∧ OwnP w' z72.heap.size v [a.P, b.P].flatten) ∧ Below z72.heap.size z72 w') := concatP_any [a.P, b.P] (z65.heap.size) z72 B0z72.out.lt (pair17 B0z72.out (HRa.out.p.on HBz72.out.1) (HRb.out.p.on HBz72.out.1)) (by simp) (len17 HLa.out.1 HLb.out.1)
              refine Cz73.out.mono ?_
              rintro e z73 ⟨⟨x0z73, rfl, hoz73⟩, hbz73⟩
              dsimp only
              have HZz73 : Hid (w7.heap.size ≤ z72.heap.size) := HBz72.out.1.size
              have HBz73 : Hid (Below w7.heap.size w7 z73 ∧ (Blk z73 w.heap.size #[.slice pa0 na0 ca0, .slice pa1 na1 ca1, .slice pa2 na2 ca2] 25 ∧ Blk z73 (w.heap.size + 1) #[.slice pb0 nb0 cb0, .slice pb1 nb1 cb1, .slice pb2 nb2 cb2] 25)) := ⟨HBz72.out.1.trans ((hbz73).mono HBz72.out.1.size), HBz72.out.2.1.on (hbz73), HBz72.out.2.2.on (hbz73)⟩
              have B2z73 : Hid (Blk z73 (w7.heap.size) #[.slice pa2 na2 ca2, .slice pb2 nb2 cb2] 22) := B2z72.out.on (hbz73)
              have B1z73 : Hid (Blk z73 (z66.heap.size) #[.slice pa1 na1 ca1, .slice pb1 nb1 cb1] 23) := B1z72.out.on (hbz73)
              clear HBz72 B2z72 B1z72
              have X0z73 : Hid (OwnP z73 w7.heap.size x0z73 (a.P ++ b.P)) := (show OwnP _ _ _ _ by have h := hoz73; rw [flat_two] at h; exact h.mono HZz73.out)
              clear Cz73 hoz73 hbz73 B0z72
              refine hK.out _ _ (fun _ => HBz73.out.2) ?_
              clear hK K
              try simp only [Act.put, List.setIfInBounds_toArray, List.set_cons_zero, List.set_cons_succ]
              refine wpL_one 11 rfl (by kernel_rfl) (by rfl) ?_
              intro K hK
              go_simp
              have Cz74 : Hid (Calls Try.prog 41 #[.slice (some ⟨z66.heap.size, 0, none⟩) 2 2] z73 fun e w' => (∃ v, e = .returned v ∧ OwnS w' z73.heap.size v [a.S, b.S].flatten) ∧ Below z73.heap.size z73 w') := concatS_any [a.S, b.S] (z66.heap.size) z73 B1z73.out.lt (pair17 B1z73.out (HRa.out.s.on HBz73.out.1) (HRb.out.s.on HBz73.out.1)) (by simp) (len17 HLa.out.2.1 HLb.out.2.1)
              refine Cz74.out.mono ?_
              rintro e z74 ⟨⟨x1z74, rfl, hoz74⟩, hbz74⟩
              dsimp only
              have HZz74 : Hid (w7.heap.size ≤ z73.heap.size) := HBz73.out.1.size
              have HBz74 : Hid (Below w7.heap.size w7 z74 ∧ (Blk z74 w.heap.size #[.slice pa0 na0 ca0, .slice pa1 na1 ca1, .slice pa2 na2 ca2] 25 ∧ Blk z74 (w.heap.size + 1) #[.slice pb0 nb0 cb0, .slice pb1 nb1 cb1, .slice pb2 nb2 cb2] 25)) := ⟨HBz73.out.1.trans ((hbz74).mono HBz73.out.1.size), HBz73.out.2.1.on (hbz74), HBz73.out.2.2.on (hbz74)⟩
              have B2z74 : Hid (Blk z74 (w7.heap.size) #[.slice pa2 na2 ca2, .slice pb2 nb2 cb2] 22) := B2z73.out.on (hbz74)
              have X0z74 : Hid (OwnP z74 w7.heap.size x0z73 (a.P ++ b.P)) := X0z73.out.kept (hbz74)
              clear HBz73 B2z73 X0z73
              have X1z74 : Hid (OwnS z74 w7.heap.size x1z74 (a.S ++ b.S)) := (show OwnS _ _ _ _ by have h := hoz74; rw [flat_two] at h; exact h.mono HZz74.out)
              clear Cz74 hoz74 hbz74 B1z73
              refine hK.out _ _ (fun _ => HBz74.out.2) ?_
              clear hK K
              try simp only [Act.put, List.setIfInBounds_toArray, List.set_cons_zero, List.set_cons_succ]
              refine wpL_one 17 rfl (by kernel_rfl) (by rfl) ?_
              intro K hK
              go_simp
              have Cz75 : Hid (Calls Try.prog 40 #[.slice (some ⟨w7.heap.size, 0, none⟩) 2 2] z74 fun e w' => (∃ v, e = .returned v ∧ OwnP w' z74.heap.size v [a.W, b.W].flatten) ∧ Below z74.heap.size z74 w') := concatP_any [a.W, b.W] (w7.heap.size) z74 B2z74.out.lt (pair17 B2z74.out (HRa.out.w.on HBz74.out.1) (HRb.out.w.on HBz74.out.1)) (by simp) (len17 HLa.out.2.2 HLb.out.2.2)
              refine Cz75.out.mono ?_
              rintro e z75 ⟨⟨x2z75, rfl, hoz75⟩, hbz75⟩
              dsimp only
              have HZz75 : Hid (w7.heap.size ≤ z74.heap.size) := HBz74.out.1.size
              have HBz75 : Hid (Below w7.heap.size w7 z75 ∧ (Blk z75 w.heap.size #[.slice pa0 na0 ca0, .slice pa1 na1 ca1, .slice pa2 na2 ca2] 25 ∧ Blk z75 (w.heap.size + 1) #[.slice pb0 nb0 cb0, .slice pb1 nb1 cb1, .slice pb2 nb2 cb2] 25)) := ⟨HBz74.out.1.trans ((hbz75).mono HBz74.out.1.size), HBz74.out.2.1.on (hbz75), HBz74.out.2.2.on (hbz75)⟩
              have X0z75 : Hid (OwnP z75 w7.heap.size x0z73 (a.P ++ b.P)) := X0z74.out.kept (hbz75)
              have X1z75 : Hid (OwnS z75 w7.heap.size x1z74 (a.S ++ b.S)) := X1z74.out.kept (hbz75)
              clear HBz74 X0z74 X1z74
              have X2z75 : Hid (OwnP z75 w7.heap.size x2z75 (a.W ++ b.W)) := (show OwnP _ _ _ _ by have h := hoz75; rw [flat_two] at h; exact h.mono HZz75.out)
              clear Cz75 hoz75 hbz75 B2z74
              refine hK.out _ _ (fun _ => HBz75.out.2) ?_
              clear hK K
              try simp only [Act.put, List.setIfInBounds_toArray, List.set_cons_zero, List.set_cons_succ]
              obtain ⟨px0, nx0, cx0, ex0⟩ : ∃ p n c, x0z73 = .slice p n c := by
                obtain ⟨p, c, e, _⟩ := X0z75.out.row
                exact ⟨_, _, _, e⟩
              obtain ⟨px1, nx1, cx1, ex1⟩ : ∃ p n c, x1z74 = .slice p n c := by
                obtain ⟨p, c, e, _⟩ := X1z75.out.row
                exact ⟨_, _, _, e⟩
              obtain ⟨px2, nx2, cx2, ex2⟩ : ∃ p n c, x2z75 = .slice p n c := by
                obtain ⟨p, c, e, _⟩ := X2z75.out.row
                exact ⟨_, _, _, e⟩
              subst ex0 ex1 ex2
              have HRf : Hid (RdF z75 (.slice px0 nx0 cx0) (.slice px1 nx1 cx1) (.slice px2 nx2 cx2) (a.bth b)) := bth_rd X0z75.out X1z75.out X2z75.out HLa.out HLb.out
              have HSN : Hid (Blk z75 w.heap.size #[.slice pa0 na0 ca0, .slice pa1 na1 ca1, .slice pa2 na2 ca2] 25 ∧ Blk z75 (w.heap.size + 1) #[.slice pb0 nb0 cb0, .slice pb1 nb1 cb1, .slice pb2 nb2 cb2] 25) := HBz75.out.2
              refine wpL_take (v := ?_) 18 rfl (by kernel_rfl) (fun _ _ _ h => h) (by rfl) ?_ HSN.out ?_
              rotate_left
              focus
                intro w9 hw9
                have k0 := Blk.cell hw9.1 (i := 0) rfl
                have k1 := Blk.cell hw9.1 (i := 1) rfl
                have k2 := Blk.cell hw9.1 (i := 2) rfl
                have k3 := Blk.cell hw9.2 (i := 0) rfl
                have k4 := Blk.cell hw9.2 (i := 1) rfl
                have k5 := Blk.cell hw9.2 (i := 2) rfl
                go_simp
                try with_reducible rfl
              try simp only [Act.put, List.setIfInBounds_toArray, List.set_cons_zero, List.set_cons_succ]
              refine wpL_one 19 rfl (by kernel_rfl) (by rfl) ?_
              intro K hK
              go_simp
              have CN : Hid (Calls _ _ _ _ _) := normal_any (a.bth b) (.slice px0 nx0 cx0) (.slice px1 nx1 cx1) (.slice px2 nx2 cx2) z75 HRf.out HLs.out
              refine CN.out.mono ?_
              rintro e wN ⟨y0, y1, y2, g, rfl, h0, h1, h2, hN, hbN⟩
              dsimp only
              refine hK.out _ _ (fun _ => ⟨HSN.out.1.on hbN, HSN.out.2.on hbN⟩) ?_
              clear hK K CN
              try simp only [Act.put, List.setIfInBounds_toArray, List.set_cons_zero, List.set_cons_succ]
              obtain ⟨q0, m0, d0, ey0⟩ : ∃ p n c, y0 = .slice p n c := by
                obtain ⟨p, c, e, _⟩ := h0.row
                exact ⟨_, _, _, e⟩
              obtain ⟨q1, m1, d1, ey1⟩ : ∃ p n c, y1 = .slice p n c := by
                obtain ⟨p, c, e, _⟩ := h1.row
                exact ⟨_, _, _, e⟩
              obtain ⟨q2, m2, d2, ey2⟩ : ∃ p n c, y2 = .slice p n c := by
                obtain ⟨p, c, e, _⟩ := h2.row
                exact ⟨_, _, _, e⟩
              subst ey0 ey1 ey2
              have HO : Hid (OwnP wN z75.heap.size (.slice q0 m0 d0) g.P ∧ OwnS wN z75.heap.size (.slice q1 m1 d1) g.S ∧ OwnP wN z75.heap.size (.slice q2 m2 d2) g.W ∧ NrmF (a.bth b) g) := ⟨h0, h1, h2, hN⟩
              have HBN : Hid (Below w7.heap.size w7 wN) := HBz75.out.1.trans (hbN.mono HBz75.out.1.size)
              have HZN : Hid (w7.heap.size ≤ z75.heap.size) := HBz75.out.1.size
              have HRs : Hid (Blk wN (w.heap.size + 1 + 1) #[.slice none 0 0, .slice none 0 0, .slice none 0 0] 25) := HRes.out.on HBN.out
              have HSM : Hid (Blk wN w.heap.size #[.slice pa0 na0 ca0, .slice pa1 na1 ca1, .slice pa2 na2 ca2] 25 ∧ Blk wN (w.heap.size + 1) #[.slice pb0 nb0 cb0, .slice pb1 nb1 cb1, .slice pb2 nb2 cb2] 25) := ⟨HSN.out.1.on hbN, HSN.out.2.on hbN⟩
              clear h0 h1 h2 hN hbN HRf HSN HBz75 X0z75 X1z75 X2z75 HLa HLb HLs HRa HRb HSz HEn
              have c0 := HRs.out.cell (i := 0) rfl
              have c1 := HRs.out.cell (i := 1) rfl
              have c2 := HRs.out.cell (i := 2) rfl
              have f0 := HRs.out.frozen 0
              have f1 := HRs.out.frozen 1
              have f2 := HRs.out.frozen 2
              have HF : Hid (Frm wN (((wN.setCell ⟨w.heap.size + 1 + 1, 0, none⟩ (.slice q0 m0 d0)).setCell ⟨w.heap.size + 1 + 1, 1, none⟩ (.slice q1 m1 d1)).setCell ⟨w.heap.size + 1 + 1, 2, none⟩ (.slice q2 m2 d2)) (fun k => k = w.heap.size + 1 + 1)) := ((frm_set _ _ _ _ (F := fun k => k = w.heap.size + 1 + 1) (.inl rfl)).trans (frm_set _ _ _ _ (F := fun k => k = w.heap.size + 1 + 1) (.inl rfl)) (fun k hk => .inl hk)).trans (frm_set _ _ _ _ (F := fun k => k = w.heap.size + 1 + 1) (.inl rfl)) (fun k hk => .inl hk)
              have HR : Hid (Blk (((wN.setCell ⟨w.heap.size + 1 + 1, 0, none⟩ (.slice q0 m0 d0)).setCell ⟨w.heap.size + 1 + 1, 1, none⟩ (.slice q1 m1 d1)).setCell ⟨w.heap.size + 1 + 1, 2, none⟩ (.slice q2 m2 d2)) (w.heap.size + 1 + 1) #[.slice q0 m0 d0, .slice q1 m1 d1, .slice q2 m2 d2] 25) := ((HRs.out.set 0 _).set 1 _).set 2 _
              refine wpL_one 20 rfl (by kernel_rfl) (by rfl) ?_
              intro K hK
              go_simp
              refine hK.out _ _ (fun h => absurd rfl h) ?_
              clear hK K
              try simp only [Act.put, List.setIfInBounds_toArray, List.set_cons_zero, List.set_cons_succ]
              clear c0 c1 c2 f0 f1 f2
              generalize ((wN.setCell ⟨w.heap.size + 1 + 1, 0, none⟩ (.slice q0 m0 d0)).setCell ⟨w.heap.size + 1 + 1, 1, none⟩ (.slice q1 m1 d1)).setCell ⟨w.heap.size + 1 + 1, 2, none⟩ (.slice q2 m2 d2) = we at *
              have HSE : Hid (Blk we w.heap.size #[.slice pa0 na0 ca0, .slice pa1 na1 ca1, .slice pa2 na2 ca2] 25 ∧ Blk we (w.heap.size + 1) #[.slice pb0 nb0 cb0, .slice pb1 nb1 cb1, .slice pb2 nb2 cb2] 25) := ⟨HSM.out.1.frm HF.out (by omega), HSM.out.2.frm HF.out (by omega)⟩
              refine wpL_one 21 rfl (by kernel_rfl) (by rfl) ?_
              intro K hK
              go_simp
              refine hK.out _ _ (fun _ => HSE.out) ?_
              clear hK K
              try simp only [Act.put, List.setIfInBounds_toArray, List.set_cons_zero, List.set_cons_succ]
              refine wpL_done (by kernel_rfl) ?_ _
              try simp only [NoPanic]
              have r0 := HR.out.cell (i := 0) rfl
              have r1 := HR.out.cell (i := 1) rfl
              have r2 := HR.out.cell (i := 2) rfl
              go_wp2_with fail
              refine bodyPost_ret (v := .tuple #[.agg #[.slice q0 m0 d0, .slice q1 m1 d1, .slice q2 m2 d2], .int .i64 0]) (by simp [results, Try.results18, go_sem, r0, r1, r2]) rfl ?_
              exact mg_end HCM.out HO.out HF.out HZN.out HBw7.out HBN.out hz7
          · intro K hK
            go_simp
            have hbz77 : Below z65.heap.size z65 (z65.alloc (.cells #[.slice pa1 na1 ca1, .slice pb1 nb1 cb1] 23)) := (Below.refl _ _).alloc (Nat.le_refl _) _
            have hkz77 : Blk (z65.alloc (.cells #[.slice pa1 na1 ca1, .slice pb1 nb1 cb1] 23)) z65.heap.size #[.slice pa1 na1 ca1, .slice pb1 nb1 cb1] 23 := Blk.new z65 _ _
            generalize (z65.alloc (.cells #[.slice pa1 na1 ca1, .slice pb1 nb1 cb1] 23)) = z77 at *
            have HBz77 : Hid (Below w7.heap.size w7 z77 ∧ (Blk z77 w.heap.size #[.slice pa0 na0 ca0, .slice pa1 na1 ca1, .slice pa2 na2 ca2] 25 ∧ Blk z77 (w.heap.size + 1) #[.slice pb0 nb0 cb0, .slice pb1 nb1 cb1, .slice pb2 nb2 cb2] 25)) := ⟨HBz65.out.1.trans ((hbz77).mono HBz65.out.1.size), HBz65.out.2.1.on (hbz77), HBz65.out.2.2.on (hbz77)⟩
            have B2z77 : Hid (Blk z77 (w7.heap.size) #[.slice pa2 na2 ca2, .slice pb2 nb2 cb2] 22) := B2z65.out.on (hbz77)
            clear HBz65 B2z65
            have B1z77 : Hid (Blk z77 z65.heap.size #[.slice pa1 na1 ca1, .slice pb1 nb1 cb1] 23) := hkz77
            clear hbz77 hkz77
            refine hK.out _ _ (fun _ => HBz77.out.2) ?_
            clear hK K
            try simp only [Act.put, List.setIfInBounds_toArray, List.set_cons_zero, List.set_cons_succ]
            refine wpL_one 4 rfl (by kernel_rfl) (by rfl) ?_
            intro K hK
            go_simp
            have hbz78 : Below z77.heap.size z77 (z77.alloc (.cells #[.slice pa0 na0 ca0, .slice pb0 nb0 cb0] 22)) := (Below.refl _ _).alloc (Nat.le_refl _) _
            have hkz78 : Blk (z77.alloc (.cells #[.slice pa0 na0 ca0, .slice pb0 nb0 cb0] 22)) z77.heap.size #[.slice pa0 na0 ca0, .slice pb0 nb0 cb0] 22 := Blk.new z77 _ _
            generalize (z77.alloc (.cells #[.slice pa0 na0 ca0, .slice pb0 nb0 cb0] 22)) = z78 at *
            have HBz78 : Hid (Below w7.heap.size w7 z78 ∧ (Blk z78 w.heap.size #[.slice pa0 na0 ca0, .slice pa1 na1 ca1, .slice pa2 na2 ca2] 25 ∧ Blk z78 (w.heap.size + 1) #[.slice pb0 nb0 cb0, .slice pb1 nb1 cb1, .slice pb2 nb2 cb2] 25)) := ⟨HBz77.out.1.trans ((hbz78).mono HBz77.out.1.size), HBz77.out.2.1.on (hbz78), HBz77.out.2.2.on (hbz78)⟩
            have B2z78 : Hid (Blk z78 (w7.heap.size) #[.slice pa2 na2 ca2, .slice pb2 nb2 cb2] 22) := B2z77.out.on (hbz78)
            have B1z78 : Hid (Blk z78 (z65.heap.size) #[.slice pa1 na1 ca1, .slice pb1 nb1 cb1] 23) := B1z77.out.on (hbz78)
            clear HBz77 B2z77 B1z77
            have B0z78 : Hid (Blk z78 z77.heap.size #[.slice pa0 na0 ca0, .slice pb0 nb0 cb0] 22) := hkz78
            clear hbz78 hkz78
            refine hK.out _ _ (fun _ => HBz78.out.2) ?_
            clear hK K
            try simp only [Act.put, List.setIfInBounds_toArray, List.set_cons_zero, List.set_cons_succ]
            refine wpL_one 5 rfl (by kernel_rfl) (by rfl) ?_
            intro K hK
            go_simp
            have Cz79 : Hid (Calls Try.prog 40 #[.slice (some ⟨z77.heap.size, 0, none⟩) 2 2] z78 fun e w' => (∃ v, e = .returned v ∧ OwnP w' z78.heap.size v [a.P, b.P].flatten) ∧ Below z78.heap.size z78 w') := concatP_any [a.P, b.P] (z77.heap.size) z78 B0z78.out.lt (pair17 B0z78.out (HRa.out.p.on HBz78.out.1) (HRb.out.p.on HBz78.out.1)) (by simp) (len17 HLa.out.1 HLb.out.1)
            refine Cz79.out.mono ?_
            rintro e z79 ⟨⟨x0z79, rfl, hoz79⟩, hbz79⟩
            dsimp only
            have HZz79 : Hid (w7.heap.size ≤ z78.heap.size) := HBz78.out.1.size
            have HBz79 : Hid (Below w7.heap.size w7 z79 ∧ (Blk z79 w.heap.size #[.slice pa0 na0 ca0, .slice pa1 na1 ca1, .slice pa2 na2 ca2] 25 ∧ Blk z79 (w.heap.size + 1) #[.slice pb0 nb0 cb0, .slice pb1 nb1 cb1, .slice pb2 nb2 cb2] 25)) := ⟨HBz78.out.1.trans ((hbz79).mono HBz78.out.1.size), HBz78.out.2.1.on (hbz79), HBz78.out.2.2.on (hbz79)⟩
            have B2z79 : Hid (Blk z79 (w7.heap.size) #[.slice pa2 na2 ca2, .slice pb2 nb2 cb2] 22) := B2z78.out.on (hbz79)
            have B1z79 : Hid (Blk z79 (z65.heap.size) #[.slice pa1 na1 ca1, .slice pb1 nb1 cb1] 23) := B1z78.out.on (hbz79)
            clear HBz78 B2z78 B1z78
            have X0z79 : Hid (OwnP z79 w7.heap.size x0z79 (a.P ++ b.P)) := (show OwnP _ _ _ _ by have h := hoz79; rw [flat_two] at h; exact h.mono HZz79.out)
            clear Cz79 hoz79 hbz79 B0z78
            refine hK.out _ _ (fun _ => HBz79.out.2) ?_
            clear hK K
            try simp only [Act.put, List.setIfInBounds_toArray, List.set_cons_zero, List.set_cons_succ]
            refine wpL_one 11 rfl (by kernel_rfl) (by rfl) ?_
            intro K hK
            go_simp
            have Cz80 : Hid (Calls Try.prog 41 #[.slice (some ⟨z65.heap.size, 0, none⟩) 2 2] z79 fun e w' => (∃ v, e = .returned v ∧ OwnS w' z79.heap.size v [a.S, b.S].flatten) ∧ Below z79.heap.size z79 w') := concatS_any [a.S, b.S] (z65.heap.size) z79 B1z79.out.lt (pair17 B1z79.out (HRa.out.s.on HBz79.out.1) (HRb.out.s.on HBz79.out.1)) (by simp) (len17 HLa.out.2.1 HLb.out.2.1)
            refine Cz80.out.mono ?_
            rintro e z80 ⟨⟨x1z80, rfl, hoz80⟩, hbz80⟩
            dsimp only
            have HZz80 : Hid (w7.heap.size ≤ z79.heap.size) := HBz79.out.1.size
            have HBz80 : Hid (Below w7.heap.size w7 z80 ∧ (Blk z80 w.heap.size #[.slice pa0 na0 ca0, .slice pa1 na1 ca1, .slice pa2 na2 ca2] 25 ∧ Blk z80 (w.heap.size + 1) #[.slice pb0 nb0 cb0, .slice pb1 nb1 cb1, .slice pb2 nb2 cb2] 25)) := ⟨HBz79.out.1.trans ((hbz80).mono HBz79.out.1.size), HBz79.out.2.1.on (hbz80), HBz79.out.2.2.on (hbz80)⟩
            have B2z80 : Hid (Blk z80 (w7.heap.size) #[.slice pa2 na2 ca2, .slice pb2 nb2 cb2] 22) := B2z79.out.on (hbz80)
            have X0z80 : Hid (OwnP z80 w7.heap.size x0z79 (a.P ++ b.P)) := X0z79.out.kept (hbz80)
            clear HBz79 B2z79 X0z79
            have X1z80 : Hid (OwnS z80 w7.heap.size x1z80 (a.S ++ b.S)) := (show OwnS _ _ _ _ by have h := hoz80; rw [flat_two] at h; exact h.mono HZz80.out)
            clear Cz80 hoz80 hbz80 B1z79
            refine hK.out _ _ (fun _ => HBz80.out.2) ?_
            clear hK K
            try simp only [Act.put, List.setIfInBounds_toArray, List.set_cons_zero, List.set_cons_succ]
            refine wpL_one 17 rfl (by kernel_rfl) (by rfl) ?_
            intro K hK
            go_simp
            have Cz81 : Hid (Calls Try.prog 40 #[.slice (some ⟨w7.heap.size, 0, none⟩) 2 2] z80 fun e w' => (∃ v, e = .returned v ∧ OwnP w' z80.heap.size v [a.W, b.W].flatten) ∧ Below z80.heap.size z80 w') := concatP_any [a.W, b.W] (w7.heap.size) z80 B2z80.out.lt (pair17 B2z80.out (HRa.out.w.on HBz80.out.1) (HRb.out.w.on HBz80.out.1)) (by simp) (len17 HLa.out.2.2 HLb.out.2.2)
            refine Cz81.out.mono ?_
            rintro e z81 ⟨⟨x2z81, rfl, hoz81⟩, hbz81⟩
            dsimp only
            have HZz81 : Hid (w7.heap.size ≤ z80.heap.size) := HBz80.out.1.size
            have HBz81 : Hid (Below w7.heap.size w7 z81 ∧ (Blk z81 w.heap.size #[.slice pa0 na0 ca0, .slice pa1 na1 ca1, .slice pa2 na2 ca2] 25 ∧ Blk z81 (w.heap.size + 1) #[.slice pb0 nb0 cb0, .slice pb1 nb1 cb1, .slice pb2 nb2 cb2] 25)) := ⟨HBz80.out.1.trans ((hbz81).mono HBz80.out.1.size), HBz80.out.2.1.on (hbz81), HBz80.out.2.2.on (hbz81)⟩
            have X0z81 : Hid (OwnP z81 w7.heap.size x0z79 (a.P ++ b.P)) := X0z80.out.kept (hbz81)
            have X1z81 : Hid (OwnS z81 w7.heap.size x1z80 (a.S ++ b.S)) := X1z80.out.kept (hbz81)
            clear HBz80 X0z80 X1z80
            have X2z81 : Hid (OwnP z81 w7.heap.size x2z81 (a.W ++ b.W)) := (show OwnP _ _ _ _ by have h := hoz81; rw [flat_two] at h; exact h.mono HZz81.out)
            clear Cz81 hoz81 hbz81 B2z80
            refine hK.out _ _ (fun _ => HBz81.out.2) ?_
            clear hK K
            try simp only [Act.put, List.setIfInBounds_toArray, List.set_cons_zero, List.set_cons_succ]
            obtain ⟨px0, nx0, cx0, ex0⟩ : ∃ p n c, x0z79 = .slice p n c := by
              obtain ⟨p, c, e, _⟩ := X0z81.out.row
              exact ⟨_, _, _, e⟩
            obtain ⟨px1, nx1, cx1, ex1⟩ : ∃ p n c, x1z80 = .slice p n c := by
              obtain ⟨p, c, e, _⟩ := X1z81.out.row
              exact ⟨_, _, _, e⟩
            obtain ⟨px2, nx2, cx2, ex2⟩ : ∃ p n c, x2z81 = .slice p n c := by
              obtain ⟨p, c, e, _⟩ := X2z81.out.row
              exact ⟨_, _, _, e⟩
            subst ex0 ex1 ex2
            have HRf : Hid (RdF z81 (.slice px0 nx0 cx0) (.slice px1 nx1 cx1) (.slice px2 nx2 cx2) (a.bth b)) := bth_rd X0z81.out X1z81.out X2z81.out HLa.out HLb.out
            have HSN : Hid (Blk z81 w.heap.size #[.slice pa0 na0 ca0, .slice pa1 na1 ca1, .slice pa2 na2 ca2] 25 ∧ Blk z81 (w.heap.size + 1) #[.slice pb0 nb0 cb0, .slice pb1 nb1 cb1, .slice pb2 nb2 cb2] 25) := HBz81.out.2
            refine wpL_take (v := ?_) 18 rfl (by kernel_rfl) (fun _ _ _ h => h) (by rfl) ?_ HSN.out ?_
            rotate_left
            focus
              intro w9 hw9
              have k0 := Blk.cell hw9.1 (i := 0) rfl
              have k1 := Blk.cell hw9.1 (i := 1) rfl
              have k2 := Blk.cell hw9.1 (i := 2) rfl
              have k3 := Blk.cell hw9.2 (i := 0) rfl
              have k4 := Blk.cell hw9.2 (i := 1) rfl
              have k5 := Blk.cell hw9.2 (i := 2) rfl
              go_simp
              try with_reducible rfl
            try simp only [Act.put, List.setIfInBounds_toArray, List.set_cons_zero, List.set_cons_succ]
            refine wpL_one 19 rfl (by kernel_rfl) (by rfl) ?_
            intro K hK
            go_simp
            have CN : Hid (Calls _ _ _ _ _) := normal_any (a.bth b) (.slice px0 nx0 cx0) (.slice px1 nx1 cx1) (.slice px2 nx2 cx2) z81 HRf.out HLs.out
            refine CN.out.mono ?_
            rintro e wN ⟨y0, y1, y2, g, rfl, h0, h1, h2, hN, hbN⟩
            dsimp only
            refine hK.out _ _ (fun _ => ⟨HSN.out.1.on hbN, HSN.out.2.on hbN⟩) ?_
            clear hK K CN
            try simp only [Act.put, List.setIfInBounds_toArray, List.set_cons_zero, List.set_cons_succ]
            obtain ⟨q0, m0, d0, ey0⟩ : ∃ p n c, y0 = .slice p n c := by
              obtain ⟨p, c, e, _⟩ := h0.row
              exact ⟨_, _, _, e⟩
            obtain ⟨q1, m1, d1, ey1⟩ : ∃ p n c, y1 = .slice p n c := by
              obtain ⟨p, c, e, _⟩ := h1.row
              exact ⟨_, _, _, e⟩
            obtain ⟨q2, m2, d2, ey2⟩ : ∃ p n c, y2 = .slice p n c := by
              obtain ⟨p, c, e, _⟩ := h2.row
              exact ⟨_, _, _, e⟩
            subst ey0 ey1 ey2
            have HO : Hid (OwnP wN z81.heap.size (.slice q0 m0 d0) g.P ∧ OwnS wN z81.heap.size (.slice q1 m1 d1) g.S ∧ OwnP wN z81.heap.size (.slice q2 m2 d2) g.W ∧ NrmF (a.bth b) g) := ⟨h0, h1, h2, hN⟩
            have HBN : Hid (Below w7.heap.size w7 wN) := HBz81.out.1.trans (hbN.mono HBz81.out.1.size)
            have HZN : Hid (w7.heap.size ≤ z81.heap.size) := HBz81.out.1.size
            have HRs : Hid (Blk wN (w.heap.size + 1 + 1) #[.slice none 0 0, .slice none 0 0, .slice none 0 0] 25) := HRes.out.on HBN.out
            have HSM : Hid (Blk wN w.heap.size #[.slice pa0 na0 ca0, .slice pa1 na1 ca1, .slice pa2 na2 ca2] 25 ∧ Blk wN (w.heap.size + 1) #[.slice pb0 nb0 cb0, .slice pb1 nb1 cb1, .slice pb2 nb2 cb2] 25) := ⟨HSN.out.1.on hbN, HSN.out.2.on hbN⟩
            clear h0 h1 h2 hN hbN HRf HSN HBz81 X0z81 X1z81 X2z81 HLa HLb HLs HRa HRb HSz HEn
            have c0 := HRs.out.cell (i := 0) rfl
            have c1 := HRs.out.cell (i := 1) rfl
            have c2 := HRs.out.cell (i := 2) rfl
            have f0 := HRs.out.frozen 0
            have f1 := HRs.out.frozen 1
            have f2 := HRs.out.frozen 2
            have HF : Hid (Frm wN (((wN.setCell ⟨w.heap.size + 1 + 1, 0, none⟩ (.slice q0 m0 d0)).setCell ⟨w.heap.size + 1 + 1, 1, none⟩ (.slice q1 m1 d1)).setCell ⟨w.heap.size + 1 + 1, 2, none⟩ (.slice q2 m2 d2)) (fun k => k = w.heap.size + 1 + 1)) := ((frm_set _ _ _ _ (F := fun k => k = w.heap.size + 1 + 1) (.inl rfl)).trans (frm_set _ _ _ _ (F := fun k => k = w.heap.size + 1 + 1) (.inl rfl)) (fun k hk => .inl hk)).trans (frm_set _ _ _ _ (F := fun k => k = w.heap.size + 1 + 1) (.inl rfl)) (fun k hk => .inl hk)
            have HR : Hid (Blk (((wN.setCell ⟨w.heap.size + 1 + 1, 0, none⟩ (.slice q0 m0 d0)).setCell ⟨w.heap.size + 1 + 1, 1, none⟩ (.slice q1 m1 d1)).setCell ⟨w.heap.size + 1 + 1, 2, none⟩ (.slice q2 m2 d2)) (w.heap.size + 1 + 1) #[.slice q0 m0 d0, .slice q1 m1 d1, .slice q2 m2 d2] 25) := ((HRs.out.set 0 _).set 1 _).set 2 _
            refine wpL_one 20 rfl (by kernel_rfl) (by rfl) ?_
            intro K hK
            go_simp
            refine hK.out _ _ (fun h => absurd rfl h) ?_
            clear hK K
            try simp only [Act.put, List.setIfInBounds_toArray, List.set_cons_zero, List.set_cons_succ]
            clear c0 c1 c2 f0 f1 f2
            generalize ((wN.setCell ⟨w.heap.size + 1 + 1, 0, none⟩ (.slice q0 m0 d0)).setCell ⟨w.heap.size + 1 + 1, 1, none⟩ (.slice q1 m1 d1)).setCell ⟨w.heap.size + 1 + 1, 2, none⟩ (.slice q2 m2 d2) = we at *
            have HSE : Hid (Blk we w.heap.size #[.slice pa0 na0 ca0, .slice pa1 na1 ca1, .slice pa2 na2 ca2] 25 ∧ Blk we (w.heap.size + 1) #[.slice pb0 nb0 cb0, .slice pb1 nb1 cb1, .slice pb2 nb2 cb2] 25) := ⟨HSM.out.1.frm HF.out (by omega), HSM.out.2.frm HF.out (by omega)⟩
            refine wpL_one 21 rfl (by kernel_rfl) (by rfl) ?_
            intro K hK
            go_simp
            refine hK.out _ _ (fun _ => HSE.out) ?_
            clear hK K
            try simp only [Act.put, List.setIfInBounds_toArray, List.set_cons_zero, List.set_cons_succ]
            refine wpL_done (by kernel_rfl) ?_ _
            try simp only [NoPanic]
            have r0 := HR.out.cell (i := 0) rfl
            have r1 := HR.out.cell (i := 1) rfl
            have r2 := HR.out.cell (i := 2) rfl
            go_wp2_with fail
            refine bodyPost_ret (v := .tuple #[.agg #[.slice q0 m0 d0, .slice q1 m1 d1, .slice q2 m2 d2], .int .i64 0]) (by simp [results, Try.results18, go_sem, r0, r1, r2]) rfl ?_
            exact mg_end HCM.out HO.out HF.out HZN.out HBw7.out HBN.out hz7
    · have hne : (chkF b == 0) = false := by simpa using hcb
      obtain ⟨we, hwe⟩ : ∃ we, (((w5.setCell ⟨w.heap.size + 1 + 1, 0, none⟩ (.slice none 0 0)).setCell ⟨w.heap.size + 1 + 1, 1, none⟩ (.slice none 0 0)).setCell ⟨w.heap.size + 1 + 1, 2, none⟩ (.slice none 0 0)) = we := ⟨_, rfl⟩
      have HF : Hid (Frm w5 we (fun k => k = w.heap.size + 1 + 1)) := by rw [← hwe]; exact ((frm_set _ _ _ _ (F := fun k => k = w.heap.size + 1 + 1) (.inl rfl)).trans (frm_set _ _ _ _ (F := fun k => k = w.heap.size + 1 + 1) (.inl rfl)) (fun k hk => .inl hk)).trans (frm_set _ _ _ _ (F := fun k => k = w.heap.size + 1 + 1) (.inl rfl)) (fun k hk => .inl hk)
      have HR : Hid (Blk we (w.heap.size + 1 + 1) #[.slice none 0 0, .slice none 0 0, .slice none 0 0] 25) := by rw [← hwe]; exact ((HRes.out.set 0 _).set 1 _).set 2 _
      have c0 := HRes.out.cell (i := 0) rfl
      have c1 := HRes.out.cell (i := 1) rfl
      have c2 := HRes.out.cell (i := 2) rfl
      have f0 := HRes.out.frozen 0
      have f1 := HRes.out.frozen 1
      have f2 := HRes.out.frozen 2
      have r0 := HR.out.cell (i := 0) rfl
      have r1 := HR.out.cell (i := 1) rfl
      have r2 := HR.out.cell (i := 2) rfl
      go_wp2_with fail
      refine bodyPost_ret (v := .tuple #[.agg #[.slice none 0 0, .slice none 0 0, .slice none 0 0], .int .i64 (chkF b)]) (by simp [results, Try.results18, go_sem, r0, r1, r2]) rfl ?_
      obtain ⟨e9, n9⟩ : chkM a b = chkF b ∧ chkM a b ≠ 0 := by unfold chkM; rw [if_neg (by simpa using hca), if_pos hcb]; exact ⟨rfl, hcb⟩
      exact ⟨_, _, _, ⟨[], [], []⟩, by rw [e9], OwnP.nil _ _, OwnS.nil _ _, OwnP.nil _ _, .inl ⟨n9, rfl⟩, HB5.out.trans (HF.out.below HB5.out.size (fun k hk => by omega))⟩
  · have hne : (chkF a == 0) = false := by simpa using hca
    obtain ⟨we, hwe⟩ : ∃ we, (((w4.setCell ⟨w.heap.size + 1 + 1, 0, none⟩ (.slice none 0 0)).setCell ⟨w.heap.size + 1 + 1, 1, none⟩ (.slice none 0 0)).setCell ⟨w.heap.size + 1 + 1, 2, none⟩ (.slice none 0 0)) = we := ⟨_, rfl⟩
    have HF : Hid (Frm w4 we (fun k => k = w.heap.size + 1 + 1)) := by rw [← hwe]; exact ((frm_set _ _ _ _ (F := fun k => k = w.heap.size + 1 + 1) (.inl rfl)).trans (frm_set _ _ _ _ (F := fun k => k = w.heap.size + 1 + 1) (.inl rfl)) (fun k hk => .inl hk)).trans (frm_set _ _ _ _ (F := fun k => k = w.heap.size + 1 + 1) (.inl rfl)) (fun k hk => .inl hk)
    have HR : Hid (Blk we (w.heap.size + 1 + 1) #[.slice none 0 0, .slice none 0 0, .slice none 0 0] 25) := by rw [← hwe]; exact ((HRes.out.set 0 _).set 1 _).set 2 _
    have c0 := HRes.out.cell (i := 0) rfl
    have c1 := HRes.out.cell (i := 1) rfl
    have c2 := HRes.out.cell (i := 2) rfl
    have f0 := HRes.out.frozen 0
    have f1 := HRes.out.frozen 1
    have f2 := HRes.out.frozen 2
    have r0 := HR.out.cell (i := 0) rfl
    have r1 := HR.out.cell (i := 1) rfl
    have r2 := HR.out.cell (i := 2) rfl
    go_wp2_with fail
    refine bodyPost_ret (v := .tuple #[.agg #[.slice none 0 0, .slice none 0 0, .slice none 0 0], .int .i64 (chkF a)]) (by simp [results, Try.results18, go_sem, r0, r1, r2]) rfl ?_
    obtain ⟨e9, n9⟩ : chkM a b = chkF a ∧ chkM a b ≠ 0 := by unfold chkM; rw [if_pos hca]; exact ⟨rfl, hca⟩
    exact ⟨_, _, _, ⟨[], [], []⟩, by rw [e9], OwnP.nil _ _, OwnS.nil _ _, OwnP.nil _ _, .inl ⟨n9, rfl⟩, HB4.out.trans (HF.out.below HB4.out.size (fun k hk => by omega))⟩
end Go.Proofs.Ytjeidpgkgjljcaa
