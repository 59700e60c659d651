/- The walk of the document's Fold. -/
import Derived.Test.YteddpogjpohacaaWRBk8
import Derived.Test.YteddpogjpohacaaWMyI8
namespace Go.Proofs.Yteddpogjpohacaa
open Go.RowKit
set_option maxRecDepth 100000

theorem mayW_inc {L : List Rw} (h : mayW L = true) : ∀ (d i : Nat) (hj : i + d < L.length), L[i].n ≤ L[i + d].n
  | 0, _, _ => Int.le_refl _
  | d + 1, i, hj => by
    have hj' : i + d + 1 < L.length := hj
    have h1 := mayW_at h (i := i + d + 1) hj'
    rw [okWt_succ hj', Bool.and_eq_true] at h1
    exact Int.le_trans (mayW_inc h d i (by omega)) (Int.le_of_lt (of_decide_eq_true h1.2))
theorem mayI_W {tx : Int} {L : List Rw} (h : mayI tx L = true) : mayW L = true := by
  unfold mayI at h
  rw [Bool.and_eq_true] at h
  exact h.2
theorem bel_id {L : List Rw} {s : Int} (h : ∀ i (hi : i < L.length), L[i].n < s) : belL L s = L := by
  unfold belL
  rw [List.filter_eq_self]
  intro r hr
  obtain ⟨i, hi, rfl⟩ := List.getElem_of_mem hr
  exact decide_eq_true (h i hi)
theorem fld_low {W : List Rw} {s : Int} (h1 : 1 ≤ s) (h : ∀ i (hi : i < W.length), W[i].n < s) : fldL W s = W := by
  unfold fldL
  rw [if_neg (by omega), abv_false (fun i hi => by have := h i hi; omega)]
  exact bel_id h
theorem fld_high {W : List Rw} {s : Int} {m : Nat} (h1 : 1 ≤ s) (hm : W.length = m + 1) (h : s ≤ (W[m]'(by omega)).n) : fldL W s = belL W (s - 1) ++ [⟨s - 1, (W[m]'(by omega)).gn, (W[m]'(by omega)).row⟩] := by
  unfold fldL
  rw [if_neg (by omega), abv_true (show m < W.length by omega) (by omega), if_pos rfl]
  have e : W[W.length - 1]? = some (W[m]'(by omega)) := by
    rw [show W.length - 1 = m by omega]
    exact List.getElem?_eq_getElem (by omega)
  rw [e]

theorem Box.grown {w w' : World} {g : Nat} {vs : Array Value} {T : TypeId} {r : Option Nat} (h : Box w g vs T) (hg : w.grownBy w' r) (hne : r ≠ some g) : Box w' g vs T := (hg.block g h.lt (fun e => hne e.symm)).trans h
theorem HasRb.offN {w : World} {B R j i : Nat} {v : Value} {Z : List (Rw × Value)} (h : HasRb w B R v Z) (x : Value) (hR : R ≤ j) (hj : v.ownBlock ≠ some j) : HasRb (w.setCell ⟨j, i, none⟩ x) B R v Z := by
  refine ⟨⟨h.1.1, ?_⟩, fun z hz => (h.2 z hz).off x hR⟩
  rcases h.1.2 with h1 | ⟨g, cap, cur, e, hb', hg, r⟩
  · exact .inl h1
  · refine .inr ⟨g, cap, cur, e, hb', (heap_setCell_other w _ g x ?_).trans hg, r⟩
    show g ≠ j
    intro e2
    subst e2
    exact hj (by rw [e]; rfl)

theorem HasRb.ne {w : World} {B R g : Nat} {v : Value} {Z : List (Rw × Value)} {vs : Array Value} {T : TypeId} (h : HasRb w B R v Z) (hx : Box w g vs T) (hT : T ≠ 48) : v.ownBlock ≠ some g := by
  intro he
  rcases h.1.2 with ⟨rfl, _⟩ | ⟨k, cap, cur, rfl, _, hg, _⟩
  · simp [Value.ownBlock] at he
  · simp only [Value.ownBlock, Option.some.injEq] at he
    subst he
    unfold Box at hx
    rw [hx] at hg
    injection hg with h1
    injection h1 with _ h2
    exact hT h2

set_option maxHeartbeats 8000000 in
theorem rfold_any (W : List Rw) (p : Option Addr) (c : Nat) (tx s : Int) (w : World) (hR : RdR .i64 w w.heap.size p W) (hlen : W.length ≤ 3518437208780) (hs : s ≤ 9223372036854775807) (hm : mayI tx W = true) :
    Calls Try.prog 29 #[.agg #[.int .i64 tx, .slice p W.length c], .int .i64 s] w fun e w' => (∃ p' c', e = .returned (.tuple #[.agg #[.int .i64 (fldT tx s), .slice p' (fldL W s).length c'], .int .i64 (fldE s)]) ∧ RdR .i64 w' w'.heap.size p' (fldL W s)) ∧ Below w.heap.size w w' := by
  have HR : Hid (∀ w1, Below w.heap.size w w1 → RdR .i64 w1 w1.heap.size p W) := fun w1 h => hR.on h
  have HRw : Hid (RdR .i64 w w.heap.size p W) := hR
  have HI : Hid (∀ (d i : Nat) (hj : i + d < W.length), W[i].n ≤ W[i + d].n) := mayW_inc (mayI_W hm)
  have CB : Hid (∀ w1, Below w.heap.size w w1 → Calls Try.prog 31 #[.agg #[.int .i64 tx, .slice p W.length c], .int .i64 (s - 1)] w1 fun e w' => (∃ v Z, e = .returned (.agg #[.int .i64 (bakT tx W (s - 1)), v]) ∧ Z.map Prod.fst = belL W (s - 1) ∧ HasRb w' w1.heap.size w.heap.size v Z) ∧ Below w1.heap.size w1 w') := fun w1 h => rback_any W p c tx (s - 1) w1 w.heap.size h.size (HRw.out.keep h) hlen
  clear hR hm
  have hx1 := (Box.new w #[.int .i64 tx, .slice p W.length c] 46).on ((Below.refl _ _).alloc (Nat.le_refl _) (.cells #[.int .i64 0, .slice none 0 0] 46))
  have hx3 := Box.new (w.alloc (.cells #[.int .i64 tx, .slice p W.length c] 46)) #[.int .i64 0, .slice none 0 0] 46
  have hs1 : (w.alloc (.cells #[.int .i64 tx, .slice p W.length c] 46)).heap.size = w.heap.size + 1 := by simp [go_sem]
  have hs3 : ((w.alloc (.cells #[.int .i64 tx, .slice p W.length c] 46)).alloc (.cells #[.int .i64 0, .slice none 0 0] 46)).heap.size = w.heap.size + 1 + 1 := by simp [go_sem]
  rw [hs1] at hx3
  have HB0 : Hid (Below w.heap.size w ((w.alloc (.cells #[.int .i64 tx, .slice p W.length c] 46)).alloc (.cells #[.int .i64 0, .slice none 0 0] 46)) ∧ ((w.alloc (.cells #[.int .i64 tx, .slice p W.length c] 46)).alloc (.cells #[.int .i64 0, .slice none 0 0] 46)).heap.size = w.heap.size + 1 + 1) := ⟨by go_grown, hs3⟩
  have HX0 : Hid (Box ((w.alloc (.cells #[.int .i64 tx, .slice p W.length c] 46)).alloc (.cells #[.int .i64 0, .slice none 0 0] 46)) w.heap.size #[.int .i64 tx, .slice p W.length c] 46 ∧ Box ((w.alloc (.cells #[.int .i64 tx, .slice p W.length c] 46)).alloc (.cells #[.int .i64 0, .slice none 0 0] 46)) (w.heap.size + 1) #[.int .i64 0, .slice none 0 0] 46) := ⟨hx1, hx3⟩
  clear hx1 hx3 hs1 hs3
  by_cases h1 : s < 1
  · have HF2 : fldL W s = [] := by unfold fldL; exact if_pos h1
    have HE2 : fldE s = 1 ∧ fldT tx s = 0 := ⟨if_pos h1, if_pos h1⟩
    rw [HF2, HE2.1, HE2.2]
    clear HF2 HE2
    go_enter Try.func29, Try.ntmps29
    go_wp2_with fail
    obtain ⟨y0, y1, _⟩ := box2 HX0.out.2
    (try simp only [Exit.inBlock, Exit.then])
    refine bodyPost_ret (v := .tuple #[.agg #[.int .i64 0, .slice none 0 0], .int .i64 1]) (by simp [results, Try.results29, go_sem, y0, y1]) rfl ?_
    exact ⟨⟨_, _, rfl, RdR.nil _ _ _⟩, HB0.out.1⟩
  · have HE2 : fldE s = 0 ∧ fldT tx s = tx := ⟨if_neg h1, if_neg h1⟩
    rw [HE2.1, HE2.2]
    have h1' : 1 ≤ s := by omega
    clear HE2 h1
    by_cases hW0 : W.length = 0
    · have hL : W = [] := List.eq_nil_of_length_eq_zero hW0
      subst hL
      rw [fld_low h1' (fun i hi => absurd hi (by simp))]
      clear hW0 HI CB
      simp only [List.length_nil] at HB0 HX0 ⊢
      go_enter Try.func29, Try.ntmps29
      go_wp2_with fail
      have hZ := Box.new (w.alloc (.cells #[.int .i64 tx, .slice p 0 c] 46)) #[.int .i64 tx, .slice p 0 c] 46
      rw [show (w.alloc (.cells #[.int .i64 tx, .slice p 0 c] 46)).heap.size = w.heap.size + 1 by simp [go_sem]] at hZ
      have hB : Below w.heap.size w ((w.alloc (.cells #[.int .i64 tx, .slice p 0 c] 46)).alloc (.cells #[.int .i64 tx, .slice p 0 c] 46)) := by go_grown
      generalize (w.alloc (.cells #[.int .i64 tx, .slice p 0 c] 46)).alloc (.cells #[.int .i64 tx, .slice p 0 c] 46) = w9 at *
      obtain ⟨y0, y1, _⟩ := box2 hZ
      (try simp only [Exit.inBlock, Exit.then])
      refine bodyPost_ret (v := .tuple #[.agg #[.int .i64 tx, .slice p 0 c], .int .i64 0]) (by simp [results, Try.results29, go_sem, y0, y1]) rfl ?_
      exact ⟨⟨_, _, rfl, fun i hi => absurd hi (by simp)⟩, hB⟩
    · obtain ⟨m, hm⟩ : ∃ m, W.length = m + 1 := ⟨W.length - 1, by omega⟩
      have hm1 : m < W.length := by omega
      obtain ⟨b, o, q, d, hp, hbB, c0, c1, c2, hr, hq⟩ := HR.out w (Below.refl _ _) m hm1
      subst hp
      have HSl : Hid (∀ w1, Below w.heap.size w w1 → SlV w1 w.heap.size (.slice q W[m].row.length d) W[m].row) := fun w1 h => SlV.keep ⟨q, d, rfl, hr, hq⟩ h
      by_cases hlo : W[m].n < s
      · rw [fld_low h1' (fun i hi => by
          have := HI.out (m - i) i (by omega)
          have e : W[i + (m - i)] = W[m] := by congr 1; omega
          rw [e] at this
          omega)]
        clear HI CB hr hq HSl hW0
        generalize W[m].n = xn at *
        generalize W[m].gn = xg at *
        generalize W[m].row.length = xl at *
        have Hm : Hid (W.length = m + 1) := hm
        rw [hm] at HX0 HB0 ⊢
        clear hm
        have hmb : (((m : Int) + 1) == 0) = false := beq_eq_false_iff_ne.2 (by omega)
        go_enter Try.func29, Try.ntmps29
        go_wp2_with fail
        have hZ := Box.new (w.alloc (.cells #[.int .i64 tx, .slice (some ⟨b, o, none⟩) (m + 1) c] 46)) #[.int .i64 tx, .slice (some ⟨b, o, none⟩) (m + 1) c] 46
        rw [show (w.alloc (.cells #[.int .i64 tx, .slice (some ⟨b, o, none⟩) (m + 1) c] 46)).heap.size = w.heap.size + 1 by simp [go_sem]] at hZ
        have hB : Below w.heap.size w ((w.alloc (.cells #[.int .i64 tx, .slice (some ⟨b, o, none⟩) (m + 1) c] 46)).alloc (.cells #[.int .i64 tx, .slice (some ⟨b, o, none⟩) (m + 1) c] 46)) := by go_grown
        generalize (w.alloc (.cells #[.int .i64 tx, .slice (some ⟨b, o, none⟩) (m + 1) c] 46)).alloc (.cells #[.int .i64 tx, .slice (some ⟨b, o, none⟩) (m + 1) c] 46) = w9 at *
        obtain ⟨y0, y1, _⟩ := box2 hZ
        (try simp only [Exit.inBlock, Exit.then])
        refine bodyPost_ret (v := .tuple #[.agg #[.int .i64 tx, .slice (some ⟨b, o, none⟩) (m + 1) c], .int .i64 0]) (by simp [results, Try.results29, go_sem, y0, y1]) rfl ?_
        exact ⟨⟨_, _, rfl, HR.out _ hB⟩, hB⟩
      · have hlo' : s ≤ W[m].n := by omega
        have HF : Hid (fldL W s = belL W (s - 1) ++ [⟨s - 1, W[m].gn, W[m].row⟩]) := fld_high h1' hm hlo'
        have HC : Hid (∀ v, rcell .i64 ((⟨s - 1, W[m].gn, W[m].row⟩ : Rw), v) = [.int .i64 (s - 1), .bool W[m].gn, v]) := fun v => rfl
        have HBl : Hid ((belL W (s - 1)).length ≤ W.length) := belL_len _ _
        rw [HF.out]
        generalize hM : belL W (s - 1) ++ [⟨s - 1, W[m].gn, W[m].row⟩] = M at *
        clear HI hr hq hW0 hlo HF
        generalize bakT tx W (s - 1) = bt at *
        generalize W[m].n = xn at *
        generalize hxg : W[m].gn = xg at *
        generalize hxl : W[m].row.length = xl at *
        have HM : Hid (belL W (s - 1) ++ [⟨s - 1, xg, W[m].row⟩] = M) := hM
        clear hM hxg hxl
        have Hm : Hid (W.length = m + 1) := hm
        rw [hm] at CB HX0 HB0 HBl hlen ⊢
        clear hm
        have hmb : (((m : Int) + 1) == 0) = false := beq_eq_false_iff_ne.2 (by omega)
        go_enter Try.func29, Try.ntmps29
        go_wp2_with fail
        have hs9 : ((w.alloc (.cells #[.int .i64 tx, .slice (some ⟨b, o, none⟩) (m + 1) c] 46)).alloc (.cells #[.int .i64 0, .slice none 0 0] 46)).heap.size = w.heap.size + 1 + 1 := HB0.out.2
        generalize (w.alloc (.cells #[.int .i64 tx, .slice (some ⟨b, o, none⟩) (m + 1) c] 46)).alloc (.cells #[.int .i64 0, .slice none 0 0] 46) = w3 at *
        have hba : Below w3.heap.size w3 (w3.alloc (.cells #[.int .i64 (s - 1), .bool xg, .slice q xl d] 48)) := (Below.refl _ _).alloc (Nat.le_refl _) _
        have hXw := Box.new w3 #[.int .i64 (s - 1), .bool xg, .slice q xl d] 48
        rw [hs9] at hXw
        have hBa := HB0.out.1.trans (hba.mono HB0.out.1.size)
        refine (CB.out _ hBa).mono ?_
        rintro e w4 ⟨⟨v4, Z4, rfl, hZ4, hO4⟩, hb4⟩
        obtain ⟨p4, c4, rfl, _⟩ := owns_len hO4.1
        have hXi4 := (HX0.out.1.on hba).on hb4
        have hXr4 := (HX0.out.2.on hba).on hb4
        have hXw4 := hXw.on hb4
        have hB4 := hBa.trans (hb4.mono hBa.size)
        have hsza : w.heap.size + 1 + 1 + 1 ≤ (w3.alloc (.cells #[.int .i64 (s - 1), .bool xg, .slice q xl d] 48)).heap.size := by simp [go_sem]; omega
        have HO4 : Hid (HasRb w4 (w.heap.size + 1 + 1 + 1) w.heap.size (.slice p4 Z4.length c4) Z4 ∧ Z4.map Prod.fst = belL W (s - 1)) := ⟨⟨owns_base hO4.1 hsza, hO4.2⟩, hZ4⟩
        have hZl : Z4.length ≤ m + 1 := by
          have := congrArg List.length hZ4
          rw [List.length_map] at this
          rw [this]
          exact HBl.out
        clear hO4 hZ4 CB
        obtain ⟨x0, x1, _, _⟩ := box2 hXi4
        obtain ⟨⟨u0, u1, u2⟩, _⟩ := box3 hXw4
        have hxl := hXi4.lt
        have hwl := hXw4.lt
        have hbo : Below w4.heap.size w4 (w4.alloc (.cells #[.int .i64 tx, .slice p4 Z4.length c4] 46)) := (Below.refl _ _).alloc (Nat.le_refl _) _
        have hXo := Box.new w4 #[.int .i64 tx, .slice p4 Z4.length c4] 46
        have hXr5 := hXr4.on hbo
        have hO5 := HO4.out.1.kept hbo hB4.size
        have hB5 := hB4.trans (hbo.mono hB4.size)
        have hne : (Value.slice p4 Z4.length c4).ownBlock ≠ some w4.heap.size := fun he => by
          have := (HO4.out.1.1.lt _ he).2
          omega
        have HSd : Hid (SlV (w4.alloc (.cells #[.int .i64 tx, .slice p4 Z4.length c4] 46)) w.heap.size (.slice q xl d) W[m].row) := HSl.out _ hB5
        have hsz5 : w.heap.size + 1 + 1 + 1 ≤ (w4.alloc (.cells #[.int .i64 tx, .slice p4 Z4.length c4] 46)).heap.size := Nat.le_trans (Nat.le_trans hsza hb4.size) hbo.size
        have HB5 : Hid (Below w.heap.size w (w4.alloc (.cells #[.int .i64 tx, .slice p4 Z4.length c4] 46))) := hB5
        clear hb4 hba hbo hXi4 hXw4 hXr4 hBa hXw hsza hB4 hB5
        have HZm : Hid ((Z4 ++ [((⟨s - 1, xg, W[m].row⟩ : Rw), Value.slice q xl d)]).map Prod.fst = M) := by
          show _ = _
          rw [List.map_append, HO4.out.2]
          exact HM.out
        have hZl2 : (Z4.length + 1) * 40 ≤ 140737488355328 := by omega
        go_wp2_with (first | (at_builtin; go_loud (refine wpList_app1 (w4.alloc (.cells #[.int .i64 tx, .slice p4 Z4.length c4] 46)) rfl (.tmp 46) (.tmp 48) 48 44 _ 3 40 rfl Try.underlying44 info_wri rfl (by decide) (w.heap.size + 1 + 1 + 1) _ _ _ (by rfl) hO5.1 [.int .i64 (s - 1), .bool xg, .slice q xl d] rfl (by simp [Value.oneCell']) _ rfl (by simp) hZl2 (by omega) hsz5 ?_); intro v6 w6 h6 h7 h8; have hXo6 : Box w6 w4.heap.size _ _ := (hXo.on ((Below.refl _ _).alloc (Nat.le_refl _) _)).grown h8 hne; have hXr6 := hXr5.keep h7 (show w.heap.size + 1 < w.heap.size + 1 + 1 + 1 by omega); obtain ⟨k0, k1, k2, k3⟩ := box2 hXo6; obtain ⟨m0, m1, m2, m3⟩ := box2 hXr6; obtain ⟨p6, c6, e6, _⟩ := owns_len h6; subst e6))
        have H6 : HasRb w6 (w.heap.size + 1 + 1 + 1) w.heap.size (.slice p6 (Z4.length + 1) c6) (Z4 ++ [((⟨s - 1, xg, W[m].row⟩ : Rw), Value.slice q xl d)]) := hO5.app (z := ((⟨s - 1, xg, W[m].row⟩ : Rw), Value.slice q xl d)) HSd.out (by rw [HC.out]; exact h6) (h7.mono (by omega))
        have hB6 : Below w.heap.size w w6 := HB5.out.trans (h7.mono (by omega))
        have hn6 := H6.ne hXo6 (by decide)
        have hN := ((H6.offN (i := 1) (j := w4.heap.size) (.slice p6 (Z4.length + 1) c6) (by omega) hn6).off (i := 0) (j := w.heap.size + 1) (.int .i64 tx) (by omega) (by omega)).off (i := 1) (j := w.heap.size + 1) (.slice p6 (Z4.length + 1) c6) (by omega) (by omega)
        have hB := ((hB6.setCell (p := ⟨w4.heap.size, 1, none⟩) (show w.heap.size ≤ w4.heap.size by omega) (.slice p6 (Z4.length + 1) c6)).setCell (p := ⟨w.heap.size + 1, 0, none⟩) (Nat.le_succ _) (.int .i64 tx)).setCell (p := ⟨w.heap.size + 1, 1, none⟩) (Nat.le_succ _) (.slice p6 (Z4.length + 1) c6)
        have hZZ := ((hXr6.off (i := 1) (j := w4.heap.size) (.slice p6 (Z4.length + 1) c6) (by omega)).set (i := 0) (.int .i64 tx)).set (i := 1) (.slice p6 (Z4.length + 1) c6)
        clear h6 h7 h8 k0 k1 k2 k3 m0 m1 m2 m3 hXo6 hXr6 H6 hB6 hn6 hXo hXr5 hO5 hne HB5 HSd
        generalize ((w6.setCell ⟨w4.heap.size, 1, none⟩ (.slice p6 (Z4.length + 1) c6)).setCell ⟨w.heap.size + 1, 0, none⟩ (.int .i64 tx)).setCell ⟨w.heap.size + 1, 1, none⟩ (.slice p6 (Z4.length + 1) c6) = w9 at *
        obtain ⟨k0, k1, _⟩ := box2 hZZ
        obtain ⟨p7, c7, e7, _, hr7⟩ := hN.rd hB.size HZm.out
        (try simp only [Exit.inBlock, Exit.then])
        refine bodyPost_ret (v := .tuple #[.agg #[.int .i64 tx, .slice p6 (Z4.length + 1) c6], .int .i64 0]) (by simp [results, Try.results29, go_sem, k0, k1]) rfl ?_
        exact ⟨⟨p7, c7, by rw [e7], hr7⟩, hB⟩
end Go.Proofs.Yteddpogjpohacaa
