/- The walks of the document's Back and Put. -/
import Derived.Test.YteddpogjpohacaaWPut8
namespace Go.Proofs.Yteddpogjpohacaa
open Go.RowKit
set_option maxRecDepth 100000

/-- writes that a call owns (from block B on), whose rows lie below block R -/
def HasRb (w : World) (B R : Nat) (v : Value) (Z : List (Rw × Value)) : Prop := w.ownsRow B 48 3 v Z.length (Z.flatMap (rcell .i64)) ∧ ∀ z ∈ Z, SlV w R z.2 z.1.row
theorem HasRb.rd {w : World} {B R : Nat} {v : Value} {Z : List (Rw × Value)} {L : List Rw} (h : HasRb w B R v Z) (hR : R ≤ w.heap.size) (hL : Z.map Prod.fst = L) : ∃ (p : Option Addr) (c : Nat), v = .slice p L.length c ∧ (p = none → c = 0) ∧ RdR .i64 w w.heap.size p L :=
  rcells_rd h.1 (fun z hz => (h.2 z hz).mono hR) hL
theorem HasRb.nil (w : World) (B R : Nat) : HasRb w B R (.slice none 0 0) [] := ⟨World.ownsRow_nil w B _ _, fun z hz => by simp at hz⟩
theorem HasRb.kept {w w' : World} {B R : Nat} {v : Value} {Z : List (Rw × Value)} (h : HasRb w B R v Z) (hb : Below w.heap.size w w') (hR : R ≤ w.heap.size) : HasRb w' B R v Z := ⟨owns_kept h.1 hb, fun z hz => (h.2 z hz).keep (hb.mono hR)⟩
theorem SlV.off {w : World} {R j i : Nat} {v : Value} {L : List Vl} (h : SlV w R v L) (x : Value) (hj : R ≤ j) : SlV (w.setCell ⟨j, i, none⟩ x) R v L := h.keep ((Below.refl _ _).setCell hj _)
theorem HasRb.off {w : World} {B R j i : Nat} {v : Value} {Z : List (Rw × Value)} (h : HasRb w B R v Z) (x : Value) (hR : R ≤ j) (hj : j < B) : HasRb (w.setCell ⟨j, i, none⟩ x) B R v Z := by
  refine ⟨⟨h.1.1, ?_⟩, fun z hz => (h.2 z hz).off x hR⟩
  rcases h.1.2 with h1 | ⟨g, cap, cur, e, hb', hg, r⟩
  · exact .inl h1
  · exact .inr ⟨g, cap, cur, e, hb', (heap_setCell_other w _ g x (by show g ≠ j; omega)).trans hg, r⟩
theorem HasRb.app {w w' : World} {B R : Nat} {v v' : Value} {Z : List (Rw × Value)} {z : Rw × Value} (h : HasRb w B R v Z) (hz : SlV w R z.2 z.1.row)
    (h1 : w'.ownsRow B 48 3 v' (Z.length + 1) (Z.flatMap (rcell .i64) ++ rcell .i64 z)) (hb : Below R w w') : HasRb w' B R v' (Z ++ [z]) := by
  refine ⟨by rw [List.length_append, List.flatMap_append]; simpa using h1, fun y hy => ?_⟩
  rcases List.mem_append.1 hy with hy | hy
  · exact (h.2 y hy).keep hb
  · rw [List.mem_singleton] at hy
    subst hy
    exact hz.keep hb

set_option maxHeartbeats 8000000 in
theorem rback_any (W : List Rw) (p : Option Addr) (c : Nat) (tx s : Int) (w : World) (R : Nat) (hRR : R ≤ w.heap.size) (hR : RdR .i64 w R p W) (hlen : W.length ≤ 3518437208780) :
    Calls Try.prog 31 #[.agg #[.int .i64 tx, .slice p W.length c], .int .i64 s] w fun e w' => (∃ v Z, e = .returned (.agg #[.int .i64 (bakT tx W s), v]) ∧ Z.map Prod.fst = belL W s ∧ HasRb w' w.heap.size R v Z) ∧ Below w.heap.size w w' := by
  have HR : Hid (RdR .i64 w R p W) := hR
  have HT : Hid (bakT tx W s = if (belL W s).length = 0 then 0 else tx) := rfl
  clear hR
  generalize bakT tx W s = bt at *
  have hx1 := ((Box.new w #[.int .i64 tx, .slice p W.length c] 46).on ((Below.refl _ _).alloc (Nat.le_refl _) (.cells #[.int .i64 0, .slice none 0 0] 46))).on ((Below.refl _ _).alloc (Nat.le_refl _) (.cells #[.int .i64 tx, .slice none 0 0] 46))
  have hx2 := (Box.new (w.alloc (.cells #[.int .i64 tx, .slice p W.length c] 46)) #[.int .i64 0, .slice none 0 0] 46).on ((Below.refl _ _).alloc (Nat.le_refl _) (.cells #[.int .i64 tx, .slice none 0 0] 46))
  have hx3 := Box.new ((w.alloc (.cells #[.int .i64 tx, .slice p W.length c] 46)).alloc (.cells #[.int .i64 0, .slice none 0 0] 46)) #[.int .i64 tx, .slice none 0 0] 46
  have hs1 : (w.alloc (.cells #[.int .i64 tx, .slice p W.length c] 46)).heap.size = w.heap.size + 1 := by simp [go_sem]
  have hs2 : ((w.alloc (.cells #[.int .i64 tx, .slice p W.length c] 46)).alloc (.cells #[.int .i64 0, .slice none 0 0] 46)).heap.size = w.heap.size + 1 + 1 := by simp [go_sem]
  have hs3 : (((w.alloc (.cells #[.int .i64 tx, .slice p W.length c] 46)).alloc (.cells #[.int .i64 0, .slice none 0 0] 46)).alloc (.cells #[.int .i64 tx, .slice none 0 0] 46)).heap.size = w.heap.size + 3 := by simp [go_sem]
  rw [hs1] at hx2
  rw [hs2] at hx3
  have HB0 : Hid (Below w.heap.size w (((w.alloc (.cells #[.int .i64 tx, .slice p W.length c] 46)).alloc (.cells #[.int .i64 0, .slice none 0 0] 46)).alloc (.cells #[.int .i64 tx, .slice none 0 0] 46)) ∧ w.heap.size + 3 ≤ (((w.alloc (.cells #[.int .i64 tx, .slice p W.length c] 46)).alloc (.cells #[.int .i64 0, .slice none 0 0] 46)).alloc (.cells #[.int .i64 tx, .slice none 0 0] 46)).heap.size) := ⟨by go_grown, by rw [hs3]; exact Nat.le_refl _⟩
  have HX0 : Hid (Box (((w.alloc (.cells #[.int .i64 tx, .slice p W.length c] 46)).alloc (.cells #[.int .i64 0, .slice none 0 0] 46)).alloc (.cells #[.int .i64 tx, .slice none 0 0] 46)) w.heap.size #[.int .i64 tx, .slice p W.length c] 46 ∧ Box (((w.alloc (.cells #[.int .i64 tx, .slice p W.length c] 46)).alloc (.cells #[.int .i64 0, .slice none 0 0] 46)).alloc (.cells #[.int .i64 tx, .slice none 0 0] 46)) (w.heap.size + 1) #[.int .i64 0, .slice none 0 0] 46 ∧ Box (((w.alloc (.cells #[.int .i64 tx, .slice p W.length c] 46)).alloc (.cells #[.int .i64 0, .slice none 0 0] 46)).alloc (.cells #[.int .i64 tx, .slice none 0 0] 46)) (w.heap.size + 1 + 1) #[.int .i64 tx, .slice none 0 0] 46) := ⟨hx1, hx2, hx3⟩
  clear hx1 hx2 hx3 hs1 hs2 hs3
  go_enter Try.func31, Try.ntmps31
  go_wp2_with fail
  generalize (((w.alloc (.cells #[.int .i64 tx, .slice p W.length c] 46)).alloc (.cells #[.int .i64 0, .slice none 0 0] 46)).alloc (.cells #[.int .i64 tx, .slice none 0 0] 46)) = w3 at *
  go_loopw [6] (fun i wr => ∃ (j : Nat) (Z : List (Rw × Value)) (v : Value), j ≤ W.length ∧ i = .int .i64 (j : Int) ∧ Hid (Z.map Prod.fst = belL (W.take j) s) ∧ Hid (HasRb wr (w.heap.size + 3) R v Z) ∧ Hid (Box wr w.heap.size #[.int .i64 tx, .slice p W.length c] 46 ∧ Box wr (w.heap.size + 1) #[.int .i64 0, .slice none 0 0] 46 ∧ Box wr (w.heap.size + 1 + 1) #[.int .i64 tx, v] 46) ∧ Hid (w.heap.size + 3 ≤ wr.heap.size) ∧ Below w.heap.size w wr) (fun i _ => W.length - (intOf i).toNat)
  case atStart => exact ⟨0, [], _, Nat.zero_le _, by go_num, rfl, HasRb.nil _ _ _, HX0, HB0.out.2, HB0.out.1⟩
  case round =>
    obtain ⟨j, Z, v, hj, rfl, hZ, hO, HX, HSz, hn⟩ := hrel
    clear HX0 HB0
    have hZl : Z.length ≤ j := by
      have := congrArg List.length hZ.out
      rw [List.length_map] at this
      rw [this]
      exact bel_len _ _ _
    obtain ⟨pv, cv, rfl, _⟩ := owns_len hO.out.1
    obtain ⟨x0, x1, x2, x3⟩ := box2 HX.out.1
    obtain ⟨r0, r1, r2, r3⟩ := box2 HX.out.2.1
    obtain ⟨y0, y1, y2, y3⟩ := box2 HX.out.2.2
    by_cases hj0 : j = W.length
    · subst hj0
      have HZ2 : Hid (Z.map Prod.fst = belL W s) := hZ.out.trans (bel_all W s)
      have hZn : (belL W s).length = Z.length := by rw [← HZ2.out, List.length_map]
      rw [hZn] at HT
      clear hZn
      obtain ⟨m, hm⟩ : ∃ m, Z.length = m := ⟨_, rfl⟩
      rw [hm] at HT hO HX y1
      by_cases h0 : m = 0
      · subst h0
        have hZ0 : Z = [] := List.eq_nil_of_length_eq_zero hm
        have HT2 : Hid (bt = 0) := HT.out
        have HZ3 : Hid ([] = belL W s) := by
          show [] = belL W s
          rw [← HZ2.out, hZ0]
          rfl
        clear hm hZ0
        go_wp2_with fail
        have hZZ := (HX.out.2.1.set (i := 0) (.int .i64 0)).set (i := 1) (.slice none 0 0)
        have hB := (hn.setCell (p := ⟨w.heap.size + 1, 0, none⟩) (Nat.le_succ _) (.int .i64 0)).setCell (p := ⟨w.heap.size + 1, 1, none⟩) (Nat.le_succ _) (.slice none 0 0)
        generalize (wr.setCell ⟨w.heap.size + 1, 0, none⟩ (.int .i64 0)).setCell ⟨w.heap.size + 1, 1, none⟩ (.slice none 0 0) = w9 at *
        obtain ⟨k0, k1, _⟩ := box2 hZZ
        (try simp only [Exit.inBlock, Exit.then])
        refine bodyPost_ret (v := .agg #[.int .i64 0, .slice none 0 0]) (by simp [results, Try.results31, go_sem, k0, k1]) rfl ?_
        exact ⟨⟨_, by rw [HT2.out], [], HZ3.out, HasRb.nil _ _ _⟩, hB⟩
      · have HT2 : Hid (bt = tx) := HT.out.trans (if_neg h0)
        have hmb : ((m : Int) == 0) = false := beq_eq_false_iff_ne.2 (by omega)
        have Hm : Hid (Z.length = m) := hm
        clear hm h0 hZl
        go_wp2_with fail
        have hZZ := (HX.out.2.1.set (i := 0) (.int .i64 tx)).set (i := 1) (.slice pv m cv)
        have hN := (hO.out.off (i := 0) (j := w.heap.size + 1) (.int .i64 tx) (by omega) (by omega)).off (i := 1) (j := w.heap.size + 1) (.slice pv m cv) (by omega) (by omega)
        have hB := (hn.setCell (p := ⟨w.heap.size + 1, 0, none⟩) (Nat.le_succ _) (.int .i64 tx)).setCell (p := ⟨w.heap.size + 1, 1, none⟩) (Nat.le_succ _) (.slice pv m cv)
        generalize (wr.setCell ⟨w.heap.size + 1, 0, none⟩ (.int .i64 tx)).setCell ⟨w.heap.size + 1, 1, none⟩ (.slice pv m cv) = w9 at *
        obtain ⟨k0, k1, _⟩ := box2 hZZ
        (try simp only [Exit.inBlock, Exit.then])
        refine bodyPost_ret (v := .agg #[.int .i64 tx, .slice pv m cv]) (by simp [results, Try.results31, go_sem, k0, k1]) rfl ?_
        exact ⟨⟨_, Z, by rw [HT2.out], HZ2.out, ⟨owns_base hN.1 (by omega), hN.2⟩⟩, hB⟩
    · have hj1 : j < W.length := by omega
      obtain ⟨b, o, q1, d1, rfl, hbB', c0, c1, c2, hr, hq⟩ := HR.out j hj1
      have hbB := Nat.lt_of_lt_of_le hbB' hRR
      have a0 := (hn.cell (p := ⟨b, o + j * 3, none⟩) hbB).trans c0
      have a1 := (hn.cell (p := ⟨b, o + j * 3 + 1, none⟩) hbB).trans c1
      have a2 := (hn.cell (p := ⟨b, o + j * 3 + 2, none⟩) hbB).trans c2
      have hbw : b < wr.drew.heap.size := Nat.lt_of_lt_of_le hbB hn.size
      have HSl : Hid (SlV w R (.slice q1 W[j].row.length d1) W[j].row) := ⟨q1, d1, rfl, hr, hq⟩
      have HC : Hid (∀ v, rcell .i64 (W[j], v) = [.int .i64 W[j].n, .bool W[j].gn, v]) := fun v => rfl
      have HY : Hid (W[j].n < s → ∀ v, (Z ++ [(W[j], v)]).map Prod.fst = belL (W.take (j + 1)) s) := fun h v => bel_yes hj1 h v hZ.out
      have HNo : Hid (¬ W[j].n < s → Z.map Prod.fst = belL (W.take (j + 1)) s) := fun h => bel_no hj1 h hZ.out
      clear c0 c1 c2 hj0 hr hq hZ
      generalize W[j].n = xn at *
      generalize W[j].gn = xg at *
      generalize W[j].row.length = xl at *
      by_cases hx : xn < s
      · have HY2 : Hid (∀ v, (Z ++ [(W[j], v)]).map Prod.fst = belL (W.take (j + 1)) s) := HY.out hx
        clear HY HNo
        go_wp2_with fail
        refine wp_region_L (fun w' => Box w' w.heap.size #[.int .i64 tx, .slice (some ⟨b, o, none⟩) W.length c] 46 ∧ Box w' (w.heap.size + 1 + 1) #[.int .i64 tx, (.slice pv Z.length cv)] 46 ∧ w'.cell? ⟨b, o + j * 3, none⟩ = some (.int .i64 xn) ∧ w'.cell? ⟨b, o + j * 3 + 1, none⟩ = some (.bool xg) ∧ w'.cell? ⟨b, o + j * 3 + 2, none⟩ = some (.slice q1 xl d1)) 10 (by kernel_rfl) ?_
        have hS0 : Box wr.drew w.heap.size #[.int .i64 tx, .slice (some ⟨b, o, none⟩) W.length c] 46 ∧ Box wr.drew (w.heap.size + 1 + 1) #[.int .i64 tx, (.slice pv Z.length cv)] 46 ∧ wr.drew.cell? ⟨b, o + j * 3, none⟩ = some (.int .i64 xn) ∧ wr.drew.cell? ⟨b, o + j * 3 + 1, none⟩ = some (.bool xg) ∧ wr.drew.cell? ⟨b, o + j * 3 + 2, none⟩ = some (.slice q1 xl d1) := ⟨HX.out.1, HX.out.2.2, a0, a1, a2⟩
        have hO0 : HasRb wr.drew (w.heap.size + 3) R (.slice pv Z.length cv) Z := hO.out
        have hBd : Below w.heap.size w wr.drew := hn.drew
        clear hO
        refine wpL_take (v := ?_) 0 rfl (by kernel_rfl) (fun _ _ _ h => h) (by rfl) ?_ hS0 ?_
        rotate_left
        focus
          intro w9 hw9
          obtain ⟨a0, a1, _, _⟩ := box2 hw9.1
          obtain ⟨e0, e1, _, _⟩ := box2 hw9.2.1
          obtain ⟨f0, f1, f2⟩ := hw9.2.2
          go_simp
          try with_reducible rfl
        try simp only [Act.put, List.setIfInBounds_toArray, List.set_cons_zero, List.set_cons_succ]
        refine wpL_take (v := ?_) 1 rfl (by kernel_rfl) (fun _ _ _ h => h) (by rfl) ?_ hS0 ?_
        rotate_left
        focus
          intro w9 hw9
          obtain ⟨a0, a1, _, _⟩ := box2 hw9.1
          obtain ⟨e0, e1, _, _⟩ := box2 hw9.2.1
          obtain ⟨f0, f1, f2⟩ := hw9.2.2
          go_simp
          try with_reducible rfl
        try simp only [Act.put, List.setIfInBounds_toArray, List.set_cons_zero, List.set_cons_succ]
        refine wpL_take (v := ?_) 2 rfl (by kernel_rfl) (fun _ _ _ h => h) (by rfl) ?_ hS0 ?_
        rotate_left
        focus
          intro w9 hw9
          obtain ⟨a0, a1, _, _⟩ := box2 hw9.1
          obtain ⟨e0, e1, _, _⟩ := box2 hw9.2.1
          obtain ⟨f0, f1, f2⟩ := hw9.2.2
          go_simp
          try with_reducible rfl
        try simp only [Act.put, List.setIfInBounds_toArray, List.set_cons_zero, List.set_cons_succ]
        refine wpL_take (v := ?_) 3 rfl (by kernel_rfl) (fun _ _ _ h => h) (by rfl) ?_ hS0 ?_
        rotate_left
        focus
          intro w9 hw9
          obtain ⟨a0, a1, _, _⟩ := box2 hw9.1
          obtain ⟨e0, e1, _, _⟩ := box2 hw9.2.1
          obtain ⟨f0, f1, f2⟩ := hw9.2.2
          go_simp
          try with_reducible rfl
        try simp only [Act.put, List.setIfInBounds_toArray, List.set_cons_zero, List.set_cons_succ]
        refine wpL_take (v := ?_) 4 rfl (by kernel_rfl) (fun _ _ _ h => h) (by rfl) ?_ hS0 ?_
        rotate_left
        focus
          intro w9 hw9
          obtain ⟨a0, a1, _, _⟩ := box2 hw9.1
          obtain ⟨e0, e1, _, _⟩ := box2 hw9.2.1
          obtain ⟨f0, f1, f2⟩ := hw9.2.2
          go_simp
          try with_reducible rfl
        try simp only [Act.put, List.setIfInBounds_toArray, List.set_cons_zero, List.set_cons_succ]
        refine wpL_take (v := ?_) 5 rfl (by kernel_rfl) (fun _ _ _ h => h) (by rfl) ?_ hS0 ?_
        rotate_left
        focus
          intro w9 hw9
          obtain ⟨a0, a1, _, _⟩ := box2 hw9.1
          obtain ⟨e0, e1, _, _⟩ := box2 hw9.2.1
          obtain ⟨f0, f1, f2⟩ := hw9.2.2
          go_simp
          try with_reducible rfl
        try simp only [Act.put, List.setIfInBounds_toArray, List.set_cons_zero, List.set_cons_succ]
        refine wpL_take (v := ?_) 6 rfl (by kernel_rfl) (fun _ _ _ h => h) (by rfl) ?_ hS0 ?_
        rotate_left
        focus
          intro w9 hw9
          obtain ⟨a0, a1, _, _⟩ := box2 hw9.1
          obtain ⟨e0, e1, _, _⟩ := box2 hw9.2.1
          obtain ⟨f0, f1, f2⟩ := hw9.2.2
          go_simp
          try with_reducible rfl
        try simp only [Act.put, List.setIfInBounds_toArray, List.set_cons_zero, List.set_cons_succ]
        refine wpL_one 7 rfl (by kernel_rfl) (by rfl) ?_
        intro K hK
        go_simp
        have hba : Below wr.drew.heap.size wr.drew (wr.drew.alloc (.cells #[.int .i64 xn, .bool xg, .slice q1 xl d1] 48)) := (Below.refl _ _).alloc (Nat.le_refl _) _
        have kp : ∀ {k : Nat} {u : Option Value}, wr.drew.cell? ⟨b, k, none⟩ = u → (wr.drew.alloc (.cells #[.int .i64 xn, .bool xg, .slice q1 xl d1] 48)).cell? ⟨b, k, none⟩ = u := fun {k u} h => (hba.cell (p := ⟨b, k, none⟩) hbw).trans h
        have hS7 : Box (wr.drew.alloc (.cells #[.int .i64 xn, .bool xg, .slice q1 xl d1] 48)) w.heap.size #[.int .i64 tx, .slice (some ⟨b, o, none⟩) W.length c] 46 ∧ Box (wr.drew.alloc (.cells #[.int .i64 xn, .bool xg, .slice q1 xl d1] 48)) (w.heap.size + 1 + 1) #[.int .i64 tx, (.slice pv Z.length cv)] 46 ∧ (wr.drew.alloc (.cells #[.int .i64 xn, .bool xg, .slice q1 xl d1] 48)).cell? ⟨b, o + j * 3, none⟩ = some (.int .i64 xn) ∧ (wr.drew.alloc (.cells #[.int .i64 xn, .bool xg, .slice q1 xl d1] 48)).cell? ⟨b, o + j * 3 + 1, none⟩ = some (.bool xg) ∧ (wr.drew.alloc (.cells #[.int .i64 xn, .bool xg, .slice q1 xl d1] 48)).cell? ⟨b, o + j * 3 + 2, none⟩ = some (.slice q1 xl d1) := ⟨hS0.1.on hba, hS0.2.1.on hba, kp hS0.2.2.1, kp hS0.2.2.2.1, kp hS0.2.2.2.2⟩
        refine hK.out _ _ (fun _ => hS7) ?_
        clear hK K kp
        try simp only [Act.put, List.setIfInBounds_toArray, List.set_cons_zero, List.set_cons_succ]
        refine wpL_one 8 rfl (by kernel_rfl) (by rfl) ?_
        intro K hK
        refine wp_app8 _ (.tmp 26) (.tmp 32) 48 44 _ 3 40 rfl Try.underlying44 info_wri rfl (by decide) (w.heap.size + 3) _ Z.length (Z.flatMap (rcell .i64)) (by rfl) (hO0.kept hba (Nat.le_trans hRR hBd.size)).1 [.int .i64 xn, .bool xg, .slice q1 xl d1] rfl (three_one rfl) wr.drew.heap.size (by rfl) (cell_new8 wr.drew _ _) (by omega) (by omega) (Nat.le_trans HSz.out hba.size) ?_
        intro v8 w8 h8 h9
        have hb78 : Below (w.heap.size + 3) (wr.drew.alloc (.cells #[.int .i64 xn, .bool xg, .slice q1 xl d1] 48)) w8 := (Below.refl _ _).grown h9 (Nat.le_trans HSz.out hba.size) (fun k hk => ((hO0.kept hba (Nat.le_trans hRR hBd.size)).1.lt k hk).1)
        have hbw8 : Below w.heap.size wr.drew w8 := (hba.mono hBd.size).trans (hb78.mono (by omega))
        have HO8 : Hid (HasRb w8 (w.heap.size + 3) R v8 (Z ++ [(W[j], .slice q1 xl d1)])) := hO0.app (z := (W[j], .slice q1 xl d1)) (HSl.out.keep (hBd.mono hRR)) (by rw [HC.out]; exact h8) (hbw8.mono hRR)
        have kp : ∀ {k : Nat} {u : Option Value}, wr.drew.cell? ⟨b, k, none⟩ = u → w8.cell? ⟨b, k, none⟩ = u := fun {k u} h => (hbw8.cell (p := ⟨b, k, none⟩) hbB).trans h
        have hS8 : Box w8 w.heap.size #[.int .i64 tx, .slice (some ⟨b, o, none⟩) W.length c] 46 ∧ Box w8 (w.heap.size + 1 + 1) #[.int .i64 tx, (.slice pv Z.length cv)] 46 ∧ w8.cell? ⟨b, o + j * 3, none⟩ = some (.int .i64 xn) ∧ w8.cell? ⟨b, o + j * 3 + 1, none⟩ = some (.bool xg) ∧ w8.cell? ⟨b, o + j * 3 + 2, none⟩ = some (.slice q1 xl d1) := ⟨hS7.1.keep hb78 (by omega), hS7.2.1.keep hb78 (by omega), kp hS0.2.2.1, kp hS0.2.2.2.1, kp hS0.2.2.2.2⟩
        have HXr : Hid (Box w8 (w.heap.size + 1) _ _) := (Box.on (w := wr.drew) HX.out.2.1 hba).keep hb78 (by omega)
        have HB8 : Hid (Below w.heap.size w w8) := hBd.trans hbw8
        have HSz8 : Hid ((w.heap.size + 3) ≤ w8.heap.size) := Nat.le_trans (Nat.le_trans HSz.out hba.size) hb78.size
        clear h8 h9 hb78 hbw8 kp
        obtain ⟨p8, c8, e8, _⟩ := owns_len HO8.out.1
        rw [show (Z ++ [(W[j], Value.slice q1 xl d1)]).length = Z.length + 1 by simp] at e8
        subst e8
        refine hK.out _ _ (fun _ => hS8) ?_
        clear hK K hba hS7 hS0
        try simp only [Act.put, List.setIfInBounds_toArray, List.set_cons_zero, List.set_cons_succ]
        refine wpL_take (v := ?_) 9 rfl (by kernel_rfl) (fun _ _ _ h => h) (by rfl) ?_ hS8 ?_
        rotate_left
        focus
          intro w9 hw9
          go_simp
          try with_reducible rfl
        try simp only [Act.put, List.setIfInBounds_toArray, List.set_cons_zero, List.set_cons_succ]
        refine wpL_one 10 rfl (by kernel_rfl) (by rfl) ?_
        intro K hK
        obtain ⟨z0, z1, z2, z3⟩ := box2 hS8.2.1
        go_simp
        refine hK.out _ _ (fun h => absurd rfl h) ?_
        clear hK K
        refine wpL_done (by kernel_rfl) ?_ _
        refine NoPanic.normal ?_
        have hZ := hS8.2.1.set (i := 1) (.slice p8 (Z.length + 1) c8)
        have hN := HO8.out.off (i := 1) (j := (w.heap.size + 1 + 1)) (.slice p8 (Z.length + 1) c8) (by omega) (by omega)
        have hB := HB8.out.setCell (p := ⟨(w.heap.size + 1 + 1), 1, none⟩) (show w.heap.size ≤ (w.heap.size + 1 + 1) by omega) (.slice p8 (Z.length + 1) c8)
        have hXr := HXr.out.off (i := 1) (j := (w.heap.size + 1 + 1)) (.slice p8 (Z.length + 1) c8) (by omega)
        have hXi := hS8.1.off (i := 1) (j := (w.heap.size + 1 + 1)) (.slice p8 (Z.length + 1) c8) (by omega)
        have hSz9 : w.heap.size + 3 ≤ (w8.setCell ⟨(w.heap.size + 1 + 1), 1, none⟩ (.slice p8 (Z.length + 1) c8)).heap.size := by simpa [World.setCell] using HSz8.out
        generalize w8.setCell ⟨(w.heap.size + 1 + 1), 1, none⟩ (.slice p8 (Z.length + 1) c8) = w9 at *
        go_wp2_with fail
        go_roundw
        case rel => exact ⟨j + 1, Z ++ [(W[j], Value.slice q1 xl d1)], .slice p8 (Z.length + 1) c8, hj1, by go_num, HY2.out _, hN, ⟨hXi, hXr, hZ⟩, hSz9, hB⟩
        case measure => simp [intOf]; omega
      · have HN2 : Hid (Z.map Prod.fst = belL (W.take (j + 1)) s) := HNo.out hx
        have hx' : s ≤ xn := by omega
        clear HY HNo hx
        go_wp2_with fail
        go_roundw
        case rel => exact ⟨j + 1, Z, _, hj1, by go_num, HN2, hO, HX, HSz, hn⟩
        case measure => simp [intOf]; omega
end Go.Proofs.Yteddpogjpohacaa
