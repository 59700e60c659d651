/- The walk of the document's Install. -/
import Derived.Test.YteddpogjpohacaaWIns8
namespace Go.Proofs.Yteddpogjpohacaa
open Go.RowKit
set_option maxRecDepth 100000

theorem rd_cells {k : IntKind} {w : World} {B : Nat} : ∀ {b o : Nat} {L : List Rw}, RdR k w B (some ⟨b, o, none⟩) L → ∃ Z : List (Rw × Value), Z.map Prod.fst = L ∧ (∀ z ∈ Z, SlV w B z.2 z.1.row) ∧ ∀ j u, (Z.flatMap (rcell k))[j]? = some u → w.cell? ((⟨b, o, none⟩ : Addr).add j) = some u
  | _, _, [], _ => ⟨[], rfl, fun z hz => by simp at hz, fun j u h => by simp at h⟩
  | b, o, r :: L, h => by
    have ht : RdR k w B (some ⟨b, o + 3, none⟩) L := by
      intro i hi
      obtain ⟨b', o', q, c, e, hb, c0, c1, c2, hr⟩ := h (i + 1) (by simpa using hi)
      injection e with e
      injection e with e1 e2
      subst e1 e2
      have e3 : o + (i + 1) * 3 = o + 3 + i * 3 := by omega
      rw [e3] at c0 c1 c2
      exact ⟨b, o + 3, q, c, rfl, hb, c0, c1, c2, hr⟩
    obtain ⟨Z, hZ, hs, hc⟩ := rd_cells ht
    obtain ⟨b', o', q, c, e, hb, c0, c1, c2, hr, hq⟩ := h 0 (by simp)
    injection e with e
    injection e with e1 e2
    subst e1 e2
    refine ⟨(r, .slice q r.row.length c) :: Z, by rw [List.map_cons, hZ], ?_, ?_⟩
    · intro z hz
      rcases List.mem_cons.1 hz with rfl | hz
      · exact ⟨q, c, rfl, hr, hq⟩
      · exact hs z hz
    · intro j u hj
      have ea : ∀ n, (⟨b, o, none⟩ : Addr).add n = ⟨b, o + n, none⟩ := fun n => by unfold Addr.add; split <;> simp_all
      have eb : ∀ n, (⟨b, o + 3, none⟩ : Addr).add n = ⟨b, o + 3 + n, none⟩ := fun n => by unfold Addr.add; split <;> simp_all
      rw [ea]
      rw [List.flatMap_cons] at hj
      match j, hj with
      | 0, hj => simp [rcell] at hj; subst hj; simpa using c0
      | 1, hj => simp [rcell] at hj; subst hj; simpa using c1
      | 2, hj => simp [rcell] at hj; subst hj; simpa using c2
      | j + 3, hj =>
        have := hc j u (by simpa [rcell] using hj)
        rw [eb] at this
        rw [show o + (j + 3) = o + 3 + j by omega]
        exact this
theorem rcells_one {k : IntKind} {w : World} {B : Nat} {Z : List (Rw × Value)} (h : ∀ z ∈ Z, SlV w B z.2 z.1.row) : ∀ u ∈ Z.flatMap (rcell k), u.oneCell' = true := by
  intro u hu
  obtain ⟨z, hz, hu⟩ := List.mem_flatMap.1 hu
  exact rcell_one k z (h z hz).one u hu
theorem rcells_len {k : IntKind} (Z : List (Rw × Value)) : (Z.flatMap (rcell k)).length = Z.length * 3 := by
  induction Z with
  | nil => rfl
  | cons z Z ih => rw [List.flatMap_cons, List.length_append, ih]; simp [rcell]; omega

set_option maxHeartbeats 4000000 in
theorem rinstall_any (L : List Rw) (p : Option Addr) (c : Nat) (n : Int) (g : Bool) (row : List Vl) (q : Option Addr) (d : Nat) (w : World) (hR : RdR .u64 w w.heap.size p L) (hpc : p = none → c = 0) (hV : SlV w w.heap.size (.slice q row.length d) row) (hlen : L.length ≤ 3518437208780) :
    Calls Try.prog 20 #[.slice p L.length c, .agg #[.int .u64 n, .bool g, .slice q row.length d]] w fun e w' => (∃ v Z, e = .returned (.tuple #[v, .int .i64 (insE L ⟨n, g, row⟩)]) ∧ Z.map Prod.fst = insL L ⟨n, g, row⟩ ∧ HasRs .u64 36 w' w.heap.size v Z) ∧ Below w.heap.size w w' := by
  have HR : Hid (∀ w1, Below w.heap.size w w1 → RdR .u64 w1 w1.heap.size p L) := fun w1 h => hR.on h
  have HRw : Hid (RdR .u64 w w.heap.size p L ∧ (p = none → c = 0)) := ⟨hR, hpc⟩
  have HVw : Hid (SlV w w.heap.size (.slice q row.length d) row) := hV
  have C1 : Hid (∀ w1, Below w.heap.size w w1 → Calls Try.prog 11 #[.slice p L.length c] w1 fun e w' => e = .returned (.bool (mayL L)) ∧ Below w1.heap.size w1 w') := fun w1 h => may_any L p c w1 (HR.out w1 h) (by omega)
  have C2 : Hid (∀ w1 v1, HasRs .u64 36 w1 w.heap.size v1 [(⟨n, g, row⟩, .slice q row.length d)] → w.heap.size ≤ w1.heap.size → Calls Try.prog 11 #[v1] w1 fun e w' => e = .returned (.bool (mayL [⟨n, g, row⟩])) ∧ Below w1.heap.size w1 w') := fun w1 v1 h hB => by
    obtain ⟨pa, ca, rfl, _, hr⟩ := h.rd hB rfl
    exact may_any [⟨n, g, row⟩] pa ca w1 hr (by simp)
  have HX0 : Hid (Box (w.alloc (.cells #[.int .u64 n, .bool g, .slice q row.length d] 36)) w.heap.size _ _) := Box.new w #[.int .u64 n, .bool g, .slice q row.length d] 36
  have HB0 : Hid (Below w.heap.size w (w.alloc (.cells #[.int .u64 n, .bool g, .slice q row.length d] 36))) := by
    show Below _ _ _
    go_grown
  have HBad : Hid ((mayL L && mayL [⟨n, g, row⟩]) = false → insE L ⟨n, g, row⟩ = 80 ∧ insL L ⟨n, g, row⟩ = []) := insE_bad
  have HOld : Hid ((mayL L && mayL [⟨n, g, row⟩]) = true → ∀ hl : 0 < L.length, n ≤ L[0].n → insE L ⟨n, g, row⟩ = 81 ∧ insL L ⟨n, g, row⟩ = []) := insE_old
  have HOk : Hid ((mayL L && mayL [⟨n, g, row⟩]) = true → (∀ hl : 0 < L.length, L[0].n < n) → insE L ⟨n, g, row⟩ = 0 ∧ insL L ⟨n, g, row⟩ = ⟨n, g, row⟩ :: L) := insE_ok
  have HC : Hid (∀ v, rcell .u64 (⟨n, g, row⟩, v) = [.int .u64 n, .bool g, v]) := fun v => rfl
  clear hR hV hpc
  generalize hll : row.length = rl at *
  clear hll
  generalize mayL L = m1 at *
  generalize mayL [⟨n, g, row⟩] = m2 at *
  obtain ⟨i, hi, hz0, hz1, hz2⟩ := info_parts info_ver
  obtain ⟨⟨x0, x1, x2⟩, _⟩ := box3 HX0.out
  have hsz0 := HB0.out.size
  go_enter Try.func20, Try.ntmps20
  go_wp2_with (first | (at_builtin; go_loud (refine wpList_app1 (w.alloc (.cells #[.int .u64 n, .bool g, .slice q rl d] 36)) rfl (.tmp 7) (.tmp 9) 36 22 _ 3 40 rfl Try.underlying22 info_ver rfl (by decide) w.heap.size _ _ _ (by rfl) (World.ownsRow_nil _ w.heap.size _ _) [.int .u64 n, .bool g, .slice q rl d] rfl (by simp [Value.oneCell']) _ rfl (by simp) (by simp) (by simp) hsz0 ?_); intro v1 w1 h6 h7 h8))
  have HO1 : Hid (HasRs .u64 36 w1 w.heap.size v1 [(⟨n, g, row⟩, .slice q rl d)]) := (HasRs.nil .u64 36 (w.alloc (.cells #[.int .u64 n, .bool g, .slice q rl d] 36)) w.heap.size).app (z := (⟨n, g, row⟩, .slice q rl d)) (HVw.out.keep HB0.out) (by rw [HC.out]; exact h6) h7
  have HB1 : Hid (Below w.heap.size w w1) := HB0.out.trans h7
  have HX1 : Hid (Box w1 w.heap.size _ _) := HX0.out.keep (((Below.refl _ _).alloc (Nat.le_refl _) _).grown h8 (by simp) (fun k hk => by simp [Value.ownBlock] at hk)) HX0.out.lt
  clear h6 h7 h8 HB0 HX0 x0 x1 x2 hsz0
  refine (C1.out _ HB1.out).mono ?_
  rintro e w2 ⟨rfl, hb2⟩
  have HB2 : Hid (Below w.heap.size w w2) := HB1.out.trans (hb2.mono HB1.out.size)
  have HX2 : Hid (Box w2 w.heap.size _ _) := HX1.out.on hb2
  have HO2 : Hid (HasRs .u64 36 w2 w.heap.size v1 [(⟨n, g, row⟩, .slice q rl d)]) := HO1.out.kept hb2 HB1.out.size
  clear hb2 HB1 HX1 HO1
  cases m1 with
  | false =>
    obtain ⟨e1, e2⟩ := HBad.out rfl
    have HE : Hid (insE L ⟨n, g, row⟩ = _ ∧ insL L ⟨n, g, row⟩ = _) := ⟨e1, e2⟩
    clear e1 e2
    go_wp2_with fail
    go_ret2
    exact ⟨⟨_, [], by rw [HE.out.1]; rfl, HE.out.2.symm, HasRs.nil _ _ _ _⟩, HB2.out⟩
  | true =>
    go_wp2_with fail
    refine (C2.out _ _ HO2.out HB2.out.size).mono ?_
    rintro e w3 ⟨rfl, hb3⟩
    have HB3 : Hid (Below w.heap.size w w3) := HB2.out.trans (hb3.mono HB2.out.size)
    have HX3 : Hid (Box w3 w.heap.size _ _) := HX2.out.on hb3
    have HO3 : Hid (HasRs .u64 36 w3 w.heap.size v1 [(⟨n, g, row⟩, .slice q rl d)]) := HO2.out.kept hb3 HB2.out.size
    clear hb3 HB2 HX2 HO2
    cases m2 with
    | false =>
      obtain ⟨e1, e2⟩ := HBad.out rfl
      have HE : Hid (insE L ⟨n, g, row⟩ = _ ∧ insL L ⟨n, g, row⟩ = _) := ⟨e1, e2⟩
      clear e1 e2
      go_wp2_with fail
      go_ret2
      exact ⟨⟨_, [], by rw [HE.out.1]; rfl, HE.out.2.symm, HasRs.nil _ _ _ _⟩, HB3.out⟩
    | true =>
      have HOld2 := HOld.out rfl
      have HOk2 := HOk.out rfl
      clear HBad HOld HOk C1 C2
      obtain ⟨⟨x0, x1, x2⟩, _⟩ := box3 HX3.out
      obtain ⟨p1, c1, rfl, _⟩ := owns_len HO3.out.1
      by_cases hl : 0 < L.length
      · obtain ⟨b, o, q1, d1, hp, hbB, c0, c1', c2, _⟩ := HRw.out.1 0 hl
        subst hp
        simp only [Nat.zero_mul, Nat.add_zero] at c0
        have a0 := (HB3.out.cell (p := ⟨b, o, none⟩) hbB).trans c0
        by_cases hnl : n ≤ L[0].n
        · obtain ⟨e1, e2⟩ := HOld2 hl hnl
          have HE : Hid (insE L ⟨n, g, row⟩ = _ ∧ insL L ⟨n, g, row⟩ = _) := ⟨e1, e2⟩
          clear e1 e2 HOld2 HOk2
          generalize L[0].n = xn at *
          obtain ⟨m, hm⟩ : ∃ m, L.length = m + 1 := ⟨L.length - 1, by omega⟩
          clear HR HRw
          rw [hm]
          go_wp2_with fail
          go_quiet (fail)
          go_wp2_with fail
          go_ret2
          exact ⟨⟨_, [], by rw [HE.out.1]; rfl, HE.out.2.symm, HasRs.nil _ _ _ _⟩, below_drewN HB3.out _⟩
        · obtain ⟨e1, e2⟩ := HOk2 (fun _ => Int.not_le.1 hnl)
          have HE : Hid (insE L ⟨n, g, row⟩ = _ ∧ insL L ⟨n, g, row⟩ = _) := ⟨e1, e2⟩
          obtain ⟨Z, hZ, hZs, hZc⟩ := rd_cells HRw.out.1
          have HZ : Hid (Z.map Prod.fst = L ∧ Z.length = L.length) := ⟨hZ, by have := congrArg List.length hZ; simpa using this⟩
          have HZs : Hid (∀ w1, Below w.heap.size w w1 → ∀ z ∈ Z, SlV w1 w.heap.size z.2 z.1.row) := fun w1 h z hz => (hZs z hz).keep h
          have HZc : Hid (∀ w1, Below w.heap.size w w1 → ∀ j u, (Z.flatMap (rcell .u64))[j]? = some u → w1.cell? ((⟨b, o, none⟩ : Addr).add j) = some u) := fun w1 h j u hj => by
            have h1 := hZc j u hj
            have ea : ∀ n, (⟨b, o, none⟩ : Addr).add n = ⟨b, o + n, none⟩ := fun n => by unfold Addr.add; split <;> simp_all
            rw [ea] at h1 ⊢
            exact (h.cell (p := ⟨b, o + j, none⟩) hbB).trans h1
          have hxn : L[0].n < n := Int.not_le.1 hnl
          clear e1 e2 HOld2 HOk2 hnl hZ hZs hZc
          generalize L[0].n = xn at *
          have HLm : Hid (L.length = L.length ∧ True) := ⟨rfl, trivial⟩
          go_wp2_with fail
          have hl' : decide ((0 : Int) < (L.length : Int)) = true := decide_eq_true (by omega)
          go_quiet (fail)
          have HB4 : Hid (Below w.heap.size w (w3.drewN nq)) := below_drewN HB3.out _
          have HO4 : Hid (HasRs .u64 36 (w3.drewN nq) w.heap.size (.slice p1 1 c1) [(⟨n, g, row⟩, .slice q rl d)]) := HO3.out.kept (below_drewN (Below.refl _ _) _) HB3.out.size
          clear HB3 HO3 HX3 x0 x1 x2
          generalize w3.drewN nq = wd at *
          have hszd := HB4.out.size
          go_wp2_with (first | (at_builtin; go_loud (refine wpList_append_own _ rfl (.tmp 31) (.tmp 32) 22 rfl w.heap.size 36 i _ 3 40 Try.underlying22 hi hz0 hz1 hz2 rfl (by decide) _ 1 _ rfl HO4.out.1 ⟨b, o, none⟩ L.length c (Z.flatMap (rcell .u64)) rfl (by rw [rcells_len, HZ.out.2]) (HZc.out wd HB4.out) (rcells_one (HZs.out wd HB4.out)) (by unfold maxLen; omega) (by omega) hszd ?_); intro v6 w6 h6 h7 h8))
          have HB6 : Hid (Below w.heap.size w w6) := HB4.out.grown h7 hszd (fun k hk => (HO4.out.1.lt k hk).1)
          have HB46 : Hid (Below w.heap.size wd w6) := (Below.refl _ _).grown h7 hszd (fun k hk => (HO4.out.1.lt k hk).1)
          have H6 : Hid (HasRs .u64 36 w6 w.heap.size v6 ((⟨n, g, row⟩, .slice q rl d) :: Z)) := by
            refine ⟨?_, ?_⟩
            · rw [List.length_cons, HZ.out.2, Nat.add_comm, List.flatMap_cons]
              simpa using h6
            · intro z hz
              rcases List.mem_cons.1 hz with rfl | hz
              · exact (HO4.out.2 _ (by simp)).keep HB46.out
              · exact HZs.out w6 HB6.out z hz
          clear h6 h7 h8
          go_ret2
          exact ⟨⟨_, (⟨n, g, row⟩, .slice q rl d) :: Z, by rw [HE.out.1]; rfl, by rw [HE.out.2, List.map_cons, HZ.out.1], H6.out⟩, HB6.out⟩
      · have hl0 : L = [] := List.eq_nil_of_length_eq_zero (by omega)
        subst hl0
        obtain ⟨e1, e2⟩ := HOk2 (fun h => absurd h (by simp))
        have HE : Hid (insE [] ⟨n, g, row⟩ = _ ∧ insL [] ⟨n, g, row⟩ = _) := ⟨e1, e2⟩
        clear e1 e2 HOld2 HOk2 hl HR
        have hc0 := HRw.out.2
        clear HRw
        simp only [List.length_nil]
        go_wp2_with fail
        go_quiet (fail)
        have HB4 : Hid (Below w.heap.size w (w3.drewN nq)) := below_drewN HB3.out _
        have HO4 : Hid (HasRs .u64 36 (w3.drewN nq) w.heap.size (.slice p1 1 c1) [(⟨n, g, row⟩, .slice q rl d)]) := HO3.out.kept (below_drewN (Below.refl _ _) _) HB3.out.size
        clear HB3 HO3 HX3 x0 x1 x2
        generalize w3.drewN nq = wd at *
        have hszd := HB4.out.size
        cases p with
        | none =>
          obtain rfl := hc0 rfl
          go_wp2_with (first | (at_builtin; go_loud (refine wpList_append_own_none rfl (.tmp 31) (.tmp 32) 22 rfl w.heap.size 36 i 3 Try.underlying22 hi _ 1 _ rfl HO4.out.1 rfl ?_)))
          go_ret2
          exact ⟨⟨_, by rw [HE.out.1]; rfl, ([(⟨n, g, row⟩, .slice q rl d)] : List (Rw × Value)), by rw [HE.out.2]; rfl, HO4.out⟩, HB4.out⟩
        | some ad =>
          clear hc0
          go_wp2_with (first | (at_builtin; go_loud (refine wpList_append_own _ rfl (.tmp 31) (.tmp 32) 22 rfl w.heap.size 36 i _ 3 40 Try.underlying22 hi hz0 hz1 hz2 rfl (by decide) _ 1 _ rfl HO4.out.1 ad 0 c [] rfl rfl (fun j y hj => by simp at hj) (fun y hy => by simp at hy) (by unfold maxLen; omega) (by omega) hszd ?_); intro v6 w6 h6 h7 h8))
          have HB6 : Hid (Below w.heap.size w w6) := HB4.out.grown h7 hszd (fun k hk => (HO4.out.1.lt k hk).1)
          have HB46 : Hid (Below w.heap.size wd w6) := (Below.refl _ _).grown h7 hszd (fun k hk => (HO4.out.1.lt k hk).1)
          have H6 : Hid (HasRs .u64 36 w6 w.heap.size v6 [(⟨n, g, row⟩, .slice q rl d)]) := ⟨by simpa using h6, fun z hz => (HO4.out.2 z hz).keep HB46.out⟩
          clear h6 h7 h8
          go_ret2
          exact ⟨⟨_, by rw [HE.out.1]; rfl, ([(⟨n, g, row⟩, .slice q rl d)] : List (Rw × Value)), by rw [HE.out.2]; rfl, H6.out⟩, HB6.out⟩
end Go.Proofs.Yteddpogjpohacaa
