/- The walks of Install, on both sides. -/
import Derived.Test.YteddpogjpohacabWPrn8
import Derived.Test.YteddpogjpohacabWChk8
import Derived.Test.YteddpogjpohacabWMay8
namespace Go.Proofs.Yteddpogjpohacab
open Go.RowKit
set_option maxRecDepth 100000

/-- what Install tells -/
def insE (L : List Rw) (v : Rw) : Int := if mayL L && mayL [v] then (match L with | [] => 0 | u :: _ => if v.n ≤ u.n then 81 else 0) else 80
def insL (L : List Rw) (v : Rw) : List Rw := if insE L v = 0 then v :: L else []
theorem insE_bad {L : List Rw} {v : Rw} (h : (mayL L && mayL [v]) = false) : insE L v = 80 ∧ insL L v = [] := by
  have e : insE L v = 80 := by unfold insE; rw [h]; rfl
  exact ⟨e, by unfold insL; rw [e]; rfl⟩
theorem insE_old {L : List Rw} {v : Rw} (h : (mayL L && mayL [v]) = true) (hl : 0 < L.length) (h2 : v.n ≤ L[0].n) : insE L v = 81 ∧ insL L v = [] := by
  cases L with
  | nil => simp at hl
  | cons u l =>
    have e : insE (u :: l) v = 81 := by unfold insE; rw [h]; exact if_pos h2
    exact ⟨e, by unfold insL; rw [e]; rfl⟩
theorem insE_ok {L : List Rw} {v : Rw} (h : (mayL L && mayL [v]) = true) (h2 : ∀ hl : 0 < L.length, L[0].n < v.n) : insE L v = 0 ∧ insL L v = v :: L := by
  have e : insE L v = 0 := by
    unfold insE
    rw [h]
    cases L with
    | nil => rfl
    | cons u l =>
      have := h2 (by simp)
      simp only [List.getElem_cons_zero] at this
      show (if v.n ≤ u.n then (81 : Int) else 0) = 0
      exact if_neg (by omega)
  exact ⟨e, by unfold insL; rw [e]; rfl⟩
/-- one version in a slice of one's own -/
theorem one_rd {w : World} {b : Nat} {n : Int} {g : Bool} {q : Option Addr} {l c : Nat} {row : List Vl} (hx : Box w b #[.int .u64 n, .bool g, .slice q l c] 31) (hl : row.length = l) (hr : SlV w w.heap.size (.slice q l c) row) : RdR .u64 w w.heap.size (some ⟨b, 0, none⟩) [⟨n, g, row⟩] := by
  intro i hi
  obtain rfl : i = 0 := by simpa using hi
  obtain ⟨q', c', e, hr1, hr2⟩ := hr
  injection e with e1 e2 e3
  subst e1 e3 hl
  obtain ⟨⟨x0, x1, x2⟩, _⟩ := box3 hx
  exact ⟨b, 0, q, c, rfl, hx.lt, x0, x1, x2, hr1, hr2⟩

set_option maxHeartbeats 4000000 in
theorem install_any (L : List Rw) (p : Option Addr) (c : Nat) (n : Int) (g : Bool) (row : List Vl) (q : Option Addr) (d : Nat) (w : World) (hR : RdR .u64 w w.heap.size p L) (hV : SlV w w.heap.size (.slice q row.length d) row) (hlen : L.length ≤ 3518437208780) (hsh : shortR L) (hrow : row.length ≤ 3518437208780) :
    Calls Try.prog 18 #[.slice p L.length c, .agg #[.int .u64 n, .bool g, .slice q row.length d]] w fun e w' => (∃ v Z, e = .returned (.tuple #[v, .int .i64 (insE L ⟨n, g, row⟩)]) ∧ Z.map Prod.fst = insL L ⟨n, g, row⟩ ∧ OwnRs .u64 31 w' w.heap.size v Z) ∧ Below w.heap.size w w' := by
  have HR : Hid (∀ w1, Below w.heap.size w w1 → RdR .u64 w1 w1.heap.size p L) := fun w1 h => hR.on h
  have HV : Hid (∀ w1, Below w.heap.size w w1 → SlV w1 w1.heap.size (.slice q row.length d) row) := fun w1 h => (hV.keep h).mono h.size
  have HS : Hid (shortR L) := hsh
  have C1 : Hid (∀ w1, Below w.heap.size w w1 → Calls Try.prog 29 #[.slice p L.length c] w1 fun e w' => e = .returned (.int .i64 (chkL L)) ∧ Below w1.heap.size w1 w') := fun w1 h => check_any L p c w1 (HR.out w1 h) (by omega)
  have C2 : Hid (∀ w1 b, Below w.heap.size w w1 → Box w1 b #[.int .u64 n, .bool g, .slice q row.length d] 31 → Calls Try.prog 29 #[.slice (some ⟨b, 0, none⟩) 1 1] w1 fun e w' => e = .returned (.int .i64 (chkL [⟨n, g, row⟩])) ∧ Below w1.heap.size w1 w') := fun w1 b h hx => check_any [⟨n, g, row⟩] _ 1 w1 (one_rd hx rfl (HV.out w1 h)) (by simp)
  have C3 : Hid (∀ w1, Below w.heap.size w w1 → Calls Try.prog 30 #[.agg #[.int .u64 n, .bool g, .slice q row.length d]] w1 fun e w' => (∃ v', e = .returned (.agg #[.int .u64 n, .bool g, v']) ∧ OwnV w' w1.heap.size v' row) ∧ Below w1.heap.size w1 w') := fun w1 h => ownVersion_any _ _ _ _ w1 (HV.out w1 h) hrow
  have HX0 : Hid (Box (w.alloc (.cells #[.int .u64 n, .bool g, .slice q row.length d] 31)) w.heap.size _ _) := Box.new w #[.int .u64 n, .bool g, .slice q row.length d] 31
  have HB0 : Hid (Below w.heap.size w (w.alloc (.cells #[.int .u64 n, .bool g, .slice q row.length d] 31))) := by
    show Below _ _ _
    go_grown
  have HK1 : Hid (chkL L = if mayL L then 0 else 80) := rfl
  have HK2 : Hid (chkL [⟨n, g, row⟩] = if mayL [⟨n, g, row⟩] then 0 else 80) := rfl
  have HBad : Hid ((mayL L && mayL [⟨n, g, row⟩]) = false → insE L ⟨n, g, row⟩ = 80 ∧ insL L ⟨n, g, row⟩ = []) := insE_bad
  have HOld : Hid ((mayL L && mayL [⟨n, g, row⟩]) = true → ∀ hl : 0 < L.length, n ≤ L[0].n → insE L ⟨n, g, row⟩ = 81 ∧ insL L ⟨n, g, row⟩ = []) := insE_old
  have HOk : Hid ((mayL L && mayL [⟨n, g, row⟩]) = true → (∀ hl : 0 < L.length, L[0].n < n) → insE L ⟨n, g, row⟩ = 0 ∧ insL L ⟨n, g, row⟩ = ⟨n, g, row⟩ :: L) := insE_ok
  have HC : Hid (∀ v, rcell .u64 (⟨n, g, row⟩, v) = [.int .u64 n, .bool g, v]) := fun v => rfl
  clear hR hV hsh
  generalize hll : row.length = rl at *
  clear hll
  generalize mayL L = m1 at *
  generalize mayL [⟨n, g, row⟩] = m2 at *
  generalize chkL L = k1 at *
  generalize chkL [⟨n, g, row⟩] = k2 at *
  cases m1 with
  | false =>
    obtain ⟨e1, e2⟩ := HBad.out rfl
    rw [e1, e2]
    have hk1 : k1 = 80 := HK1.out
    subst hk1
    clear e1 e2 HBad HOld HOk HK1 HK2
    go_enter Try.func18, Try.ntmps18
    go_wp2_with fail
    refine (C1.out _ HB0.out).mono ?_
    rintro e w1 ⟨rfl, hb1⟩
    have HB1 : Hid (Below w.heap.size w w1) := HB0.out.trans (hb1.mono HB0.out.size)
    clear hb1
    go_wp2_with fail
    go_ret2
    exact ⟨⟨_, [], rfl, rfl, OwnRs.nil _ _ _ _⟩, HB1.out⟩
  | true =>
    have hk1 : k1 = 0 := HK1.out
    subst hk1
    cases m2 with
    | false =>
      obtain ⟨e1, e2⟩ := HBad.out rfl
      rw [e1, e2]
      have hk2 : k2 = 80 := HK2.out
      subst hk2
      clear e1 e2 HBad HOld HOk HK1 HK2
      go_enter Try.func18, Try.ntmps18
      go_wp2_with fail
      refine (C1.out _ HB0.out).mono ?_
      rintro e w1 ⟨rfl, hb1⟩
      have HB1 : Hid (Below w.heap.size w w1) := HB0.out.trans (hb1.mono HB0.out.size)
      have HX1 : Hid (Box w1 w.heap.size _ _) := HX0.out.on hb1
      obtain ⟨⟨x0, x1, x2⟩, _⟩ := box3 HX1.out
      have HX1b : Hid (Box (w1.alloc (.cells #[.int .u64 n, .bool g, .slice q rl d] 31)) w1.heap.size _ _) := Box.new w1 #[.int .u64 n, .bool g, .slice q rl d] 31
      have HB1b : Hid (Below w1.heap.size w1 (w1.alloc (.cells #[.int .u64 n, .bool g, .slice q rl d] 31))) := (Below.refl _ _).alloc (Nat.le_refl _) _
      clear hb1
      go_wp2_with fail
      refine (C2.out _ _ (HB1.out.trans (HB1b.out.mono HB1.out.size)) HX1b.out).mono ?_
      rintro e w2 ⟨rfl, hb2⟩
      have HB2 : Hid (Below w.heap.size w w2) := (HB1.out.trans (HB1b.out.mono HB1.out.size)).trans (hb2.mono (HB1.out.trans (HB1b.out.mono HB1.out.size)).size)
      have HX2 : Hid (Box w2 w.heap.size _ _) := (HX1.out.on HB1b.out).on hb2
      clear hb2 HB1 HX1 HX1b HB1b x0 x1 x2
      go_wp2_with fail
      go_ret2
      exact ⟨⟨_, [], rfl, rfl, OwnRs.nil _ _ _ _⟩, HB2.out⟩
    | true =>
      have hk2 : k2 = 0 := HK2.out
      subst hk2
      have HOld2 := HOld.out rfl
      have HOk2 := HOk.out rfl
      clear HBad HOld HOk HK1 HK2
      by_cases hold : ∃ hl : 0 < L.length, n ≤ L[0].n
      · obtain ⟨hl, hnl⟩ := hold
        obtain ⟨e1, e2⟩ := HOld2 hl hnl
        rw [e1, e2]
        clear e1 e2 HOld2 HOk2
        obtain ⟨b, o, q1, d1, hp, hbB, c0, c1, c2, _⟩ := HR.out w (Below.refl _ _) 0 hl
        subst hp
        simp only [Nat.zero_mul, Nat.add_zero] at c0
        generalize L[0].n = xn at *
        obtain ⟨m, hm⟩ : ∃ m, L.length = m + 1 := ⟨L.length - 1, by omega⟩
        rw [hm] at C1 ⊢
        go_enter Try.func18, Try.ntmps18
        go_wp2_with fail
        refine (C1.out _ HB0.out).mono ?_
        rintro e w1 ⟨rfl, hb1⟩
        have HB1 : Hid (Below w.heap.size w w1) := HB0.out.trans (hb1.mono HB0.out.size)
        have HX1 : Hid (Box w1 w.heap.size _ _) := HX0.out.on hb1
        obtain ⟨⟨x0, x1, x2⟩, _⟩ := box3 HX1.out
        have HX1b : Hid (Box (w1.alloc (.cells #[.int .u64 n, .bool g, .slice q rl d] 31)) w1.heap.size _ _) := Box.new w1 #[.int .u64 n, .bool g, .slice q rl d] 31
        have HB1b : Hid (Below w1.heap.size w1 (w1.alloc (.cells #[.int .u64 n, .bool g, .slice q rl d] 31))) := (Below.refl _ _).alloc (Nat.le_refl _) _
        clear hb1
        go_wp2_with fail
        refine (C2.out _ _ (HB1.out.trans (HB1b.out.mono HB1.out.size)) HX1b.out).mono ?_
        rintro e w2 ⟨rfl, hb2⟩
        have HB2 : Hid (Below w.heap.size w w2) := (HB1.out.trans (HB1b.out.mono HB1.out.size)).trans (hb2.mono (HB1.out.trans (HB1b.out.mono HB1.out.size)).size)
        have HX2 : Hid (Box w2 w.heap.size _ _) := (HX1.out.on HB1b.out).on hb2
        clear hb2 HB1 HX1 HX1b HB1b x0 x1 x2
        have a0 := (HB2.out.cell (p := ⟨b, o, none⟩) hbB).trans c0
        obtain ⟨⟨x0, x1, x2⟩, _⟩ := box3 HX2.out
        go_wp2_with fail
        go_quiet (fail)
        go_wp2_with fail
        go_ret2
        exact ⟨⟨_, [], rfl, rfl, OwnRs.nil _ _ _ _⟩, below_drewN HB2.out _⟩
      · have hnew : ∀ hl : 0 < L.length, L[0].n < n := fun hl => Int.not_le.1 (fun h => hold ⟨hl, h⟩)
        obtain ⟨e1, e2⟩ := HOk2 hnew
        rw [e1, e2]
        clear e1 e2 HOld2 HOk2 hold
        by_cases hl : 0 < L.length
        · obtain ⟨b, o, q1, d1, hp, hbB, c0, c1, c2, _⟩ := HR.out w (Below.refl _ _) 0 hl
          have hxn := hnew hl
          simp only [Nat.zero_mul, Nat.add_zero] at c0
          generalize L[0].n = xn at *
          clear hnew
          subst hp
          go_enter Try.func18, Try.ntmps18
          go_wp2_with fail
          refine (C1.out _ HB0.out).mono ?_
          rintro e w1 ⟨rfl, hb1⟩
          have HB1 : Hid (Below w.heap.size w w1) := HB0.out.trans (hb1.mono HB0.out.size)
          have HX1 : Hid (Box w1 w.heap.size _ _) := HX0.out.on hb1
          obtain ⟨⟨x0, x1, x2⟩, _⟩ := box3 HX1.out
          have HX1b : Hid (Box (w1.alloc (.cells #[.int .u64 n, .bool g, .slice q rl d] 31)) w1.heap.size _ _) := Box.new w1 #[.int .u64 n, .bool g, .slice q rl d] 31
          have HB1b : Hid (Below w1.heap.size w1 (w1.alloc (.cells #[.int .u64 n, .bool g, .slice q rl d] 31))) := (Below.refl _ _).alloc (Nat.le_refl _) _
          clear hb1
          go_wp2_with fail
          refine (C2.out _ _ (HB1.out.trans (HB1b.out.mono HB1.out.size)) HX1b.out).mono ?_
          rintro e w2 ⟨rfl, hb2⟩
          have HB2 : Hid (Below w.heap.size w w2) := (HB1.out.trans (HB1b.out.mono HB1.out.size)).trans (hb2.mono (HB1.out.trans (HB1b.out.mono HB1.out.size)).size)
          have HX2 : Hid (Box w2 w.heap.size _ _) := (HX1.out.on HB1b.out).on hb2
          clear hb2 HB1 HX1 HX1b HB1b x0 x1 x2
          have a0 := (HB2.out.cell (p := ⟨b, o, none⟩) hbB).trans c0
          obtain ⟨⟨x0, x1, x2⟩, _⟩ := box3 HX2.out
          go_wp2_with fail
          have hl' : decide ((0 : Int) < (L.length : Int)) = true := decide_eq_true (by omega)
          go_quiet (fail)
          obtain ⟨i, hi, hz0, hz1, hz2⟩ := info_parts info_ver
          have HB2d : Hid (Below w.heap.size w (w2.drewN nq)) := below_drewN HB2.out _
          have HX2d : Hid (Box (w2.drewN nq) w.heap.size _ _) := HX2.out.on (below_drewN (Below.refl _ _) _)
          clear HB2 HX2 x0 x1 x2
          generalize w2.drewN nq = wd at *
          have hszd := HB2d.out.size
          go_wp2_with (refine wpList_make_own _ rfl _ _ _ rfl w.heap.size 31 i _ 3 Try.underlying22 hi hz0 hz1 .i64 .i64 _ (L.length + 1) rfl rfl (by omega) (by rw [hz2]; omega) (by unfold maxLen; omega) hszd ?_; intro w3 hown3 hgr3; have HX3 : Hid (Box w3 w.heap.size _ _) := HX2d.out.on ((Below.refl _ _).grown hgr3 (Nat.le_refl _) (fun k hk => by simp at hk)); obtain ⟨⟨x0, x1, x2⟩, _⟩ := box3 HX3.out)
          have HB3 : Hid (Below w.heap.size w w3) := HB2d.out.grown hgr3 hszd (fun k hk => by simp at hk)
          have HO3 : Hid (OwnRs .u64 31 w3 w.heap.size (.slice (some ⟨wd.heap.size, 0, none⟩) 0 (L.length + 1)) []) := ⟨hown3, fun z hz => by simp at hz⟩
          clear hown3 hgr3 HB2d HX2d
          refine (C3.out _ HB3.out).mono ?_
          rintro e w4 ⟨⟨v4, rfl, ho4⟩, hb4⟩
          have HB4 : Hid (Below w.heap.size w w4) := HB3.out.trans (hb4.mono HB3.out.size)
          have HO4 : Hid (OwnRs .u64 31 w4 w.heap.size (.slice (some ⟨wd.heap.size, 0, none⟩) 0 (L.length + 1)) []) := HO3.out.kept hb4
          have HV4 : Hid (OwnV w4 w.heap.size v4 row) := ho4.base HB3.out.size
          have hsz4 := HB4.out.size
          have h1c := HV4.out.sl.one
          clear ho4 hb4 HB3 HX3 HO3 x0 x1 x2
          go_wp2_with (first | (at_builtin; go_loud (refine wpList_app1 w4 rfl (.tmp 34) (.tmp 37) 31 22 _ 3 40 rfl Try.underlying22 info_ver rfl (by decide) w.heap.size _ _ _ (by rfl) HO4.out.1 [.int .u64 n, .bool g, v4] rfl (by intro u hu; simp only [List.mem_cons, List.not_mem_nil, or_false] at hu; rcases hu with rfl | rfl | rfl; rfl; rfl; exact h1c) _ rfl (by simp) (by simp) (by simp) hsz4 ?_); intro v6 w6 h6 h7 h8))
          have HO6 : Hid (OwnRs .u64 31 w6 w.heap.size v6 ([] ++ [(⟨n, g, row⟩, v4)])) := HO4.out.app (z := (⟨n, g, row⟩, v4)) HV4.out (by decide) (by rw [HC.out]; exact h6) (by rw [HC.out]; exact h8)
          have HB6 : Hid (Below w.heap.size w w6) := HB4.out.trans h7
          clear h6 h7 h8 HB4 HO4 HV4 hsz4 h1c hszd hi hz0 hz1 hz2
          go_loopw [6, 41] (fun v i wr => ∃ (j : Nat) (Z : List (Rw × Value)), j ≤ L.length ∧ i = .int .i64 (j : Int) ∧ Hid (Z.map Prod.fst = ⟨n, g, row⟩ :: L.take j) ∧ Hid (OwnRs .u64 31 wr w.heap.size v Z) ∧ Below w.heap.size w wr) (fun _ i _ => L.length - (intOf i).toNat)
          case atStart => exact ⟨0, [] ++ [((⟨n, g, row⟩ : Rw), v4)], Nat.zero_le _, by go_num, (show List.map Prod.fst ([] ++ [((⟨n, g, row⟩ : Rw), v4)]) = _ from rfl), HO6, HB6.out⟩
          case round =>
            obtain ⟨j, Z, hj, rfl, hZ, hO, hn⟩ := hrel
            have hZl : Z.length ≤ j + 1 := by
              have := congrArg List.length hZ.out
              rw [List.length_map] at this
              rw [this]
              simp
              omega
            by_cases hj0 : j = L.length
            · subst hj0
              have HZ2 : Hid (Z.map Prod.fst = ⟨n, g, row⟩ :: L) := hZ.out.trans (by rw [List.take_length])
              obtain ⟨pv, cv, rfl, _⟩ := owns_len hO.out.1
              go_wp2
              go_ret2
              exact ⟨⟨_, Z, rfl, HZ2.out, hO.out⟩, hn⟩
            · have hj1 : j < L.length := by omega
              obtain ⟨b, o, q1, d1, e1, hbB, c0, c1, c2, hr, hq⟩ := HR.out w (Below.refl _ _) j hj1
              injection e1 with e1
              injection e1 with e2 e3
              subst e2 e3
              have a0 := (hn.cell (p := ⟨b, o + j * 3, none⟩) hbB).trans c0
              have a1 := (hn.cell (p := ⟨b, o + j * 3 + 1, none⟩) hbB).trans c1
              have a2 := (hn.cell (p := ⟨b, o + j * 3 + 2, none⟩) hbB).trans c2
              have HSl : Hid (SlV w w.heap.size (.slice q1 L[j].row.length d1) L[j].row) := ⟨q1, d1, rfl, hr, hq⟩
              have hshj := HS.out j hj1
              have CV : Hid (∀ w1 : World, Below w.heap.size w w1 → Calls Try.prog 30 #[.agg #[.int .u64 L[j].n, .bool L[j].gn, .slice q1 L[j].row.length d1]] w1 fun e w' => (∃ v', e = .returned (.agg #[.int .u64 L[j].n, .bool L[j].gn, v']) ∧ OwnV w' w1.heap.size v' L[j].row) ∧ Below w1.heap.size w1 w') := fun w1 h => ownVersion_any _ _ _ _ w1 ((HSl.out.keep h).mono h.size) hshj
              have HX : Hid (∀ v, rcell .u64 (L[j], v) = [.int .u64 L[j].n, .bool L[j].gn, v]) := fun v => rfl
              clear c0 c1 c2 hj0 hr hshj
              generalize L[j].n = yn at *
              generalize L[j].gn = yg at *
              generalize L[j].row.length = yl at *
              go_wp2_with fail
              have hbx : Below w.heap.size w (wr.alloc (.cells #[.int .u64 yn, .bool yg, .slice q1 yl d1] 31)) := by
                have hsz := hn.size
                go_grown
              refine (CV.out _ hbx).mono ?_
              rintro e w5 ⟨⟨v5, rfl, ho5⟩, hb5⟩
              have HB5 : Hid (Below w.heap.size w w5) := hbx.trans (hb5.mono hbx.size)
              have HO5 : Hid (OwnRs .u64 31 w5 w.heap.size u6 Z) := (hO.out.kept (w' := wr.alloc (.cells #[.int .u64 yn, .bool yg, .slice q1 yl d1] 31)) (by go_grown)).kept hb5
              have HV5 : Hid (OwnV w5 w.heap.size v5 L[j].row) := ho5.base hbx.size
              have hsz5 := HB5.out.size
              clear ho5 hb5 hbx hO
              obtain ⟨pv, cv, rfl, _⟩ := owns_len HO5.out.1
              have h1c := HV5.out.sl.one
              go_wp2_with (first | (at_builtin; go_loud (refine wpList_app1 w5 rfl (.tmp 45) (.tmp 48) 31 22 _ 3 40 rfl Try.underlying22 info_ver rfl (by decide) w.heap.size _ _ _ (by rfl) HO5.out.1 [.int .u64 yn, .bool yg, v5] rfl (by intro u hu; simp only [List.mem_cons, List.not_mem_nil, or_false] at hu; rcases hu with rfl | rfl | rfl; rfl; rfl; exact h1c) _ rfl (by simp) (by omega) (by omega) hsz5 ?_); intro v6 w6 h6 h7 h8))
              have H6 : Hid (OwnRs .u64 31 w6 w.heap.size v6 (Z ++ [(L[j], v5)])) := HO5.out.app (z := (L[j], v5)) HV5.out (by decide) (by rw [HX.out]; exact h6) (by rw [HX.out]; exact h8)
              have HB6 : Hid (Below w.heap.size w w6) := HB5.out.trans h7
              clear h6 h7 h8
              go_roundw
              case rel => exact ⟨j + 1, Z ++ [(L[j], v5)], hj1, by go_num, (show _ = _ by rw [List.map_append, hZ.out, List.take_add_one, List.getElem?_eq_getElem hj1]; rfl), H6, HB6.out⟩
              case measure => simp [intOf]; omega
        · have hl0 : L.length = 0 := by omega
          have hL0 : L = [] := List.eq_nil_of_length_eq_zero hl0
          subst hL0
          clear hnew hl0 hl
          change Calls _ _ #[.slice p 0 c, _] _ _
          change Hid (∀ w1, Below w.heap.size w w1 → Calls Try.prog 29 #[.slice p 0 c] w1 _) at C1
          go_enter Try.func18, Try.ntmps18
          go_wp2_with fail
          refine (C1.out _ HB0.out).mono ?_
          rintro e w1 ⟨rfl, hb1⟩
          have HB1 : Hid (Below w.heap.size w w1) := HB0.out.trans (hb1.mono HB0.out.size)
          have HX1 : Hid (Box w1 w.heap.size _ _) := HX0.out.on hb1
          obtain ⟨⟨x0, x1, x2⟩, _⟩ := box3 HX1.out
          have HX1b : Hid (Box (w1.alloc (.cells #[.int .u64 n, .bool g, .slice q rl d] 31)) w1.heap.size _ _) := Box.new w1 #[.int .u64 n, .bool g, .slice q rl d] 31
          have HB1b : Hid (Below w1.heap.size w1 (w1.alloc (.cells #[.int .u64 n, .bool g, .slice q rl d] 31))) := (Below.refl _ _).alloc (Nat.le_refl _) _
          clear hb1
          go_wp2_with fail
          refine (C2.out _ _ (HB1.out.trans (HB1b.out.mono HB1.out.size)) HX1b.out).mono ?_
          rintro e w2 ⟨rfl, hb2⟩
          have HB2 : Hid (Below w.heap.size w w2) := (HB1.out.trans (HB1b.out.mono HB1.out.size)).trans (hb2.mono (HB1.out.trans (HB1b.out.mono HB1.out.size)).size)
          have HX2 : Hid (Box w2 w.heap.size _ _) := (HX1.out.on HB1b.out).on hb2
          clear hb2 HB1 HX1 HX1b HB1b x0 x1 x2
          obtain ⟨⟨x0, x1, x2⟩, _⟩ := box3 HX2.out
          go_wp2_with fail
          go_quiet (fail)
          obtain ⟨i, hi, hz0, hz1, hz2⟩ := info_parts info_ver
          have HB2d : Hid (Below w.heap.size w (w2.drewN nq)) := below_drewN HB2.out _
          have HX2d : Hid (Box (w2.drewN nq) w.heap.size _ _) := HX2.out.on (below_drewN (Below.refl _ _) _)
          clear HB2 HX2 x0 x1 x2
          generalize w2.drewN nq = wd at *
          have hszd := HB2d.out.size
          go_wp2_with (refine wpList_make_own _ rfl _ _ _ rfl w.heap.size 31 i _ 3 Try.underlying22 hi hz0 hz1 .i64 .i64 _ 1 rfl rfl (by omega) (by rw [hz2]; omega) (by unfold maxLen; omega) hszd ?_; intro w3 hown3 hgr3; have HX3 : Hid (Box w3 w.heap.size _ _) := HX2d.out.on ((Below.refl _ _).grown hgr3 (Nat.le_refl _) (fun k hk => by simp at hk)); obtain ⟨⟨x0, x1, x2⟩, _⟩ := box3 HX3.out)
          have HB3 : Hid (Below w.heap.size w w3) := HB2d.out.grown hgr3 hszd (fun k hk => by simp at hk)
          have HO3 : Hid (OwnRs .u64 31 w3 w.heap.size (.slice (some ⟨wd.heap.size, 0, none⟩) 0 1) []) := ⟨hown3, fun z hz => by simp at hz⟩
          clear hown3 hgr3 HB2d HX2d
          refine (C3.out _ HB3.out).mono ?_
          rintro e w4 ⟨⟨v4, rfl, ho4⟩, hb4⟩
          have HB4 : Hid (Below w.heap.size w w4) := HB3.out.trans (hb4.mono HB3.out.size)
          have HO4 : Hid (OwnRs .u64 31 w4 w.heap.size (.slice (some ⟨wd.heap.size, 0, none⟩) 0 1) []) := HO3.out.kept hb4
          have HV4 : Hid (OwnV w4 w.heap.size v4 row) := ho4.base HB3.out.size
          have hsz4 := HB4.out.size
          have h1c := HV4.out.sl.one
          clear ho4 hb4 HB3 HX3 HO3 x0 x1 x2
          go_wp2_with (first | (at_builtin; go_loud (refine wpList_app1 w4 rfl (.tmp 34) (.tmp 37) 31 22 _ 3 40 rfl Try.underlying22 info_ver rfl (by decide) w.heap.size _ _ _ (by rfl) HO4.out.1 [.int .u64 n, .bool g, v4] rfl (by intro u hu; simp only [List.mem_cons, List.not_mem_nil, or_false] at hu; rcases hu with rfl | rfl | rfl; rfl; rfl; exact h1c) _ rfl (by simp) (by simp) (by simp) hsz4 ?_); intro v6 w6 h6 h7 h8))
          have HO6 : Hid (OwnRs .u64 31 w6 w.heap.size v6 ([] ++ [(⟨n, g, row⟩, v4)])) := HO4.out.app (z := (⟨n, g, row⟩, v4)) HV4.out (by decide) (by rw [HC.out]; exact h6) (by rw [HC.out]; exact h8)
          have HB6 : Hid (Below w.heap.size w w6) := HB4.out.trans h7
          clear h6 h7 h8 HB4 HO4 HV4 hsz4 h1c hszd hi hz0 hz1 hz2
          go_loopw [6, 41] (fun v i wr => ∃ (j : Nat) (Z : List (Rw × Value)), j ≤ 0 ∧ i = .int .i64 (j : Int) ∧ Hid (Z.map Prod.fst = ⟨n, g, row⟩ :: []) ∧ Hid (OwnRs .u64 31 wr w.heap.size v Z) ∧ Below w.heap.size w wr) (fun _ i _ => 0 - (intOf i).toNat)
          case atStart => exact ⟨0, [] ++ [((⟨n, g, row⟩ : Rw), v4)], Nat.zero_le _, by go_num, (show List.map Prod.fst ([] ++ [((⟨n, g, row⟩ : Rw), v4)]) = _ from rfl), HO6, HB6.out⟩
          case round =>
            obtain ⟨j, Z, hj, rfl, hZ, hO, hn⟩ := hrel
            have hZl : Z.length ≤ j + 1 := by
              have := congrArg List.length hZ.out
              rw [List.length_map] at this
              rw [this]
              simp
            by_cases hj0 : j = 0
            · subst hj0
              have HZ2 : Hid (Z.map Prod.fst = ⟨n, g, row⟩ :: []) := hZ.out
              obtain ⟨pv, cv, rfl, _⟩ := owns_len hO.out.1
              go_wp2
              go_ret2
              exact ⟨⟨_, Z, rfl, HZ2.out, hO.out⟩, hn⟩
            · exact absurd hj (by omega)
end Go.Proofs.Yteddpogjpohacab
