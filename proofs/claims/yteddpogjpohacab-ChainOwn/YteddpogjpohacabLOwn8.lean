/- ChainOwn: the law's walk. -/
import Derived.Test.YteddpogjpohacabWAwk8
import Derived.Test.YteddpogjpohacabWMay8
import Derived.Test.YteddpogjpohacabWMyI8
import Derived.Test.YteddpogjpohacabWIns8
import Derived.Test.YteddpogjpohacabWSee8
import Derived.Test.YteddpogjpohacabWSmI8
import Derived.Test.YteddpogjpohacabWSpo8
namespace Go.Proofs.Yteddpogjpohacab
open Go.RowKit
set_option maxRecDepth 100000

theorem box6o {w : World} {g : Nat} {a b c d e f : Value} {T : TypeId} (h : Box w g #[a, b, c, d, e, f] T) : w.cell? ⟨g, 0, none⟩ = some a ∧ w.cell? ⟨g, 1, none⟩ = some b ∧ w.cell? ⟨g, 2, none⟩ = some c ∧ w.cell? ⟨g, 3, none⟩ = some d ∧ w.cell? ⟨g, 4, none⟩ = some e ∧ w.cell? ⟨g, 5, none⟩ = some f := by
  unfold Box at h
  refine ⟨?_, ?_, ?_, ?_, ?_, ?_⟩ <;> simp [World.cell?, h]
theorem sh_of {L M : List Rw} (h : shortR L) (hs : ∀ r ∈ M, r ∈ L ∨ r.row.length ≤ 3518437208780) : shortR M := by
  intro i hi
  rcases hs _ (List.getElem_mem hi) with h1 | h1
  · obtain ⟨j, hj, e⟩ := List.getElem_of_mem h1
    rw [← e]
    exact h j hj
  · exact h1
theorem bel_mem (L : List Rw) (s : Int) : ∀ r ∈ belL L s, r ∈ L := fun _r hr => (List.mem_filter.1 hr).1
theorem ins_sh {L : List Rw} {v : Rw} (h : shortR L) (hv : v.row.length ≤ 3518437208780) : shortR (insL L v) ∧ (insL L v).length ≤ L.length + 1 := by
  unfold insL
  split
  · exact ⟨sh_of h (fun r hr => by rcases List.mem_cons.1 hr with rfl | hr; exact Or.inr hv; exact Or.inl hr), by simp⟩
  · exact ⟨fun i hi => absurd hi (by simp), by simp⟩
theorem prn_sh {L : List Rw} {s : Int} (h : shortR L) : shortR (prnL L s) ∧ (prnL L s).length ≤ L.length := by
  refine ⟨sh_of h (fun r hr => Or.inl ?_), prnL_len L s⟩
  unfold prnL prnJ at hr
  rw [List.mem_map] at hr
  obtain ⟨z, hz, rfl⟩ := hr
  exact List.mem_of_mem_take (List.fst_mem_of_mem_zipIdx (List.mem_filter.1 hz).1)
theorem put_sh {tx : Int} {W : List Rw} {v : Rw} (h : shortR W) (hv : v.row.length ≤ 3518437208780) : shortR (putL tx W v) ∧ (putL tx W v).length ≤ W.length + 1 := by
  unfold putL
  split
  · exact ⟨fun i hi => absurd hi (by simp), by simp⟩
  · refine ⟨sh_of h (fun r hr => ?_), by have := belL_len W v.n; simp; omega⟩
    rcases List.mem_append.1 hr with h1 | h1
    · exact Or.inl (bel_mem _ _ r h1)
    · rw [List.mem_singleton] at h1
      exact Or.inr (by rw [h1]; exact hv)
theorem fol_sh {W : List Rw} {s : Int} (h : shortR W) : shortR (fldL W s) ∧ (fldL W s).length ≤ W.length + 1 := by
  unfold fldL
  split
  · exact ⟨fun i hi => absurd hi (by simp), by simp⟩
  split
  · cases hW : W[W.length - 1]? with
    | none => exact ⟨fun i hi => absurd hi (by simp), by simp⟩
    | some v =>
      have hv : v ∈ W := List.mem_of_getElem? hW
      refine ⟨sh_of h (fun r hr => ?_), by have := belL_len W (s - 1); simp; omega⟩
      rcases List.mem_append.1 hr with h1 | h1
      · exact Or.inl (bel_mem _ _ r h1)
      · rw [List.mem_singleton] at h1
        obtain ⟨j, hj, e⟩ := List.getElem_of_mem hv
        refine Or.inr ?_
        rw [h1, ← e]
        exact h j hj
  · exact ⟨sh_of h (fun r hr => Or.inl (bel_mem _ _ r hr)), by have := belL_len W s; omega⟩
theorem shw_len {L W : List Rw} {tx txn s : Int} (h1 : shortR L) (h2 : shortR W) : (shwL (seeR L W tx txn s)).length ≤ 3518437208780 := by
  have key : ∀ (M : List Rw) (j : Nat), shortR M → (shwL M[j]?).length ≤ 3518437208780 := by
    intro M j hM
    by_cases hj : j < M.length
    · rw [List.getElem?_eq_getElem hj]
      have := hM j hj
      simp only [shwL]
      split
      · simp
      · omega
    · rw [List.getElem?_eq_none (by omega)]
      simp [shwL]
  unfold seeR
  split
  · exact key _ _ h2
  · exact key _ _ h1
theorem HOk.off2 {w : World} {B gc : Nat} {T T' : TypeId} {v : Value} {vs : Array Value} (h : HOk w B T v) (hx : Box w gc vs T') (hT : T ≠ T' ∧ 69 ≠ T') (x y : Value) : HOk ((w.setCell ⟨gc, 0, none⟩ x).setCell ⟨gc, 1, none⟩ y) B T v := by
  have key : ∀ (k : Nat) (cs : Array Value) (U : TypeId), U ≠ T' → w.heap[k]? = some (.cells cs U (0, 0)) → ((w.setCell ⟨gc, 0, none⟩ x).setCell ⟨gc, 1, none⟩ y).heap[k]? = some (.cells cs U (0, 0)) := fun k cs U hU hk => by
    have hne : k ≠ gc := fun e => by
      subst e
      unfold Box at hx
      rw [hx] at hk
      injection hk with h1
      injection h1 with _ h2
      exact hU h2.symm
    exact (heap_setCell_other _ _ k _ hne).trans ((heap_setCell_other w _ k _ hne).trans hk)
  rcases h with h | ⟨g, n, cap, cs, e, hB, hg, hn, hr⟩
  · exact .inl h
  · refine .inr ⟨g, n, cap, cs, e, hB, key _ _ _ hT.1 hg, hn, fun i hi => ?_⟩
    obtain ⟨rv, h1, h2⟩ := hr i hi
    refine ⟨rv, h1, ?_⟩
    rcases h2 with h2 | ⟨g2, n2, cap2, cs2, e2, hB2, hg2, r2⟩
    · exact .inl h2
    · exact .inr ⟨g2, n2, cap2, cs2, e2, hB2, key _ _ _ hT.2 hg2, r2⟩
theorem wpL_two {P : Program} {ops : Array Oper} {Q : Exit → Act → World → Prop} {S : World → Prop} {m : Nat} (i j : Nat) {oi oj : Oper} {fuel : Nat} {listed : Array Bool} {a : Act} {w : World} (hi : nthO ops.toList i = some oi) (hj : nthO ops.toList j = some oj) (hr : Region.ready .any ops listed = [i, j]) (hwi : Region.wanted oi (yielded ops a.tmps) = true) (hwj : Region.wanted oj (yielded ops a.tmps) = true)
    (h1 : ∀ K : Act → World → Prop, Hid (∀ a' w', (i ≠ m → S w') → wpL P ops Q S m fuel (listed.setIfInBounds i true) a' w' → K a' w') → oi.wp P a w K Q)
    (h2 : ∀ K : Act → World → Prop, Hid (∀ a' w', (j ≠ m → S w') → wpL P ops Q S m fuel (listed.setIfInBounds j true) a' w' → K a' w') → oj.wp P a w K Q) : wpL P ops Q S m (fuel + 1) listed a w := by
  refine ⟨fun h0 => (by rw [hr] at h0; cases h0), fun k hk => ?_⟩
  rw [hr] at hk
  rcases List.mem_cons.1 hk with e | hk
  · subst e
    unfold wpOp
    simp only [nthO_at hi, hwi, if_true]
    exact .inl (h1 _ (show ∀ a' w', _ → _ → _ from fun a' w' h1 h2 => ⟨h1, h2⟩))
  · have e : k = j := by simpa using hk
    subst e
    unfold wpOp
    simp only [nthO_at hj, hwj, if_true]
    exact .inl (h2 _ (show ∀ a' w', _ → _ → _ from fun a' w' h1 h2 => ⟨h1, h2⟩))
theorem HOk.sl {w : World} {B : Nat} {T : TypeId} {v : Value} (h : HOk w B T v) : ∃ p n c, v = .slice p n c ∧ n ≤ 35184372088832 := by
  rcases h with rfl | ⟨g, n, cap, cs, rfl, _, _, hn, _⟩
  · exact ⟨none, 0, 0, rfl, by omega⟩
  · exact ⟨_, n, cap, rfl, hn.2⟩
theorem BoxT.grown {w w' : World} {g : Nat} {vs : Array Value} {T : TypeId} {r : Option Nat} (h : Box w g vs T) (hg : w.grownBy w' r) (hne : r ≠ some g) : Box w' g vs T := (hg.block g h.lt (fun e => hne e.symm)).trans h

set_option maxHeartbeats 16000000 in
theorem lawOwn (L : List Rw) (p : Option Addr) (c : Nat) (n : Int) (g : Bool) (row : List Vl) (q : Option Addr) (d : Nat) (tx : Int) (W : List Rw) (pi : Option Addr) (ci : Nat) (lv nw : Int) (gw : Bool) (roww : List Vl) (qw : Option Addr) (dw : Nat) (w : World)
    (hR : RdR .u64 w w.heap.size p L) (hsL : shortR L) (hlenL : L.length ≤ 3518437208780) (hV : SlV w w.heap.size (.slice q row.length d) row) (hrow : row.length ≤ 3518437208780) (hW : RdR .i64 w w.heap.size pi W) (hsW : shortR W) (hlenW : W.length ≤ 3518437208780) (hlw : lv ≤ 9223372036854775807) (hVw : SlV w w.heap.size (.slice qw roww.length dw) roww) (hroww : roww.length ≤ 3518437208780) :
    Calls Try.prog 5 #[.slice p L.length c, .agg #[.int .u64 n, .bool g, .slice q row.length d], .agg #[.int .i64 tx, .slice pi W.length ci, .int .i64 lv, .int .i64 nw, .bool gw, .slice qw roww.length dw]] w fun e w' => e = .returned (.bool true) ∧ Below w.heap.size w w' := by
  have HR : Hid (∀ w1, Below w.heap.size w w1 → RdR .u64 w1 w1.heap.size p L) := fun w1 h => hR.on h
  have HW : Hid (∀ w1, Below w.heap.size w w1 → RdR .i64 w1 w1.heap.size pi W) := fun w1 h => hW.on h
  have HV : Hid (∀ w1, Below w.heap.size w w1 → SlV w1 w1.heap.size (.slice q row.length d) row) := fun w1 h => (hV.keep h).mono h.size
  have HVw : Hid (∀ w1, Below w.heap.size w w1 → SlV w1 w1.heap.size (.slice qw roww.length dw) roww) := fun w1 h => (hVw.keep h).mono h.size
  have HRw : Hid (RdR .u64 w w.heap.size p L) := hR
  have HWw : Hid (RdR .i64 w w.heap.size pi W) := hW
  have HSL : Hid (shortR L) := hsL
  have HSW : Hid (shortR W) := hsW
  have HRl : Hid (row.length ≤ 3518437208780 ∧ roww.length ≤ 3518437208780) := ⟨hrow, hroww⟩
  have HIs : Hid (shortR (insL L ⟨n, g, row⟩) ∧ (insL L ⟨n, g, row⟩).length ≤ 3518437208790) := ⟨(ins_sh hsL hrow).1, by have := (ins_sh (v := ⟨n, g, row⟩) hsL hrow).2; omega⟩
  have HUs : Hid (shortR (putL tx W ⟨nw, gw, roww⟩) ∧ (putL tx W ⟨nw, gw, roww⟩).length ≤ 3518437208790) := ⟨(put_sh hsW hroww).1, by have := (put_sh (tx := tx) (v := ⟨nw, gw, roww⟩) hsW hroww).2; omega⟩
  have CAw : Hid (∀ w1 : World, Calls Try.prog 7 #[] w1 fun e w' => e = .returned (.bool true) ∧ Below w1.heap.size w1 w') := awake_any
  have CM1 : Hid (∀ w1, Below w.heap.size w w1 → Calls Try.prog 6 #[.slice p L.length c] w1 fun e w' => e = .returned (.bool (mayL L)) ∧ Below w1.heap.size w1 w') := fun w1 h => may_any L p c w1 (HR.out w1 h) (by omega)
  have CM2 : Hid (∀ w1, Below w.heap.size w w1 → Calls Try.prog 10 #[.agg #[.int .i64 tx, .slice pi W.length ci]] w1 fun e w' => e = .returned (.bool (mayI tx W)) ∧ Below w1.heap.size w1 w') := fun w1 h => mayI_any W pi ci tx w1 (HW.out w1 h) hlenW
  have CI : Hid (∀ po co w1, RdR .u64 w1 w1.heap.size po L → Below w.heap.size w w1 → Calls Try.prog 18 #[.slice po L.length co, .agg #[.int .u64 n, .bool g, .slice q row.length d]] w1 fun e w' => (∃ v Z, e = .returned (.tuple #[v, .int .i64 (insE L ⟨n, g, row⟩)]) ∧ Z.map Prod.fst = insL L ⟨n, g, row⟩ ∧ OwnRs .u64 31 w' w1.heap.size v Z) ∧ Below w1.heap.size w1 w') := fun po co w1 h1 h2 => install_any L po co n g row q d w1 h1 (HV.out w1 h2) hlenL HSL.out hrow
  have CCw : Hid (∀ w1, Below w.heap.size w w1 → Calls Try.prog 17 #[.slice qw roww.length dw] w1 fun e w' => (∃ v', e = .returned v' ∧ OwnV w' w1.heap.size v' roww) ∧ Below w1.heap.size w1 w') := fun w1 h => copied_any roww _ w1 (HVw.out w1 h) hroww
  have CU : Hid (∀ pn cn q5 c5 w1, RdR .i64 w1 w1.heap.size pn W → SlV w1 w1.heap.size (.slice q5 roww.length c5) roww → Calls Try.prog 12 #[.agg #[.int .i64 tx, .slice pn W.length cn], .agg #[.int .i64 nw, .bool gw, .slice q5 roww.length c5]] w1 fun e w' => (∃ v Z, e = .returned (.tuple #[.agg #[.int .i64 (putT tx W ⟨nw, gw, roww⟩), v], .int .i64 (putE tx W ⟨nw, gw, roww⟩)]) ∧ Z.map Prod.fst = putL tx W ⟨nw, gw, roww⟩ ∧ OwnRs .i64 40 w' w1.heap.size v Z) ∧ Below w1.heap.size w1 w') := fun pn cn q5 c5 w1 h1 h2 => put_any W pn cn tx nw gw roww q5 c5 w1 h1 h2 hlenW HSW.out hroww
  clear hR hW hV hVw hsL hsW hrow hroww HV HVw
  generalize row.length = rl at *
  generalize hrw : roww.length = rw at *
  generalize mayL L = m1 at *
  generalize mayI tx W = m2 at *
  have hx1 := (Box.new w #[.int .u64 n, .bool g, .slice q rl d] 31).on ((Below.refl _ _).alloc (Nat.le_refl _) (.cells #[.int .i64 tx, .slice pi W.length ci, .int .i64 lv, .int .i64 nw, .bool gw, .slice qw rw dw] 50))
  have hx2 := Box.new (w.alloc (.cells #[.int .u64 n, .bool g, .slice q rl d] 31)) #[.int .i64 tx, .slice pi W.length ci, .int .i64 lv, .int .i64 nw, .bool gw, .slice qw rw dw] 50
  have hs1 : (w.alloc (.cells #[.int .u64 n, .bool g, .slice q rl d] 31)).heap.size = w.heap.size + 1 := by simp [go_sem]
  rw [hs1] at hx2
  have HB0 : Hid (Below w.heap.size w ((w.alloc (.cells #[.int .u64 n, .bool g, .slice q rl d] 31)).alloc (.cells #[.int .i64 tx, .slice pi W.length ci, .int .i64 lv, .int .i64 nw, .bool gw, .slice qw rw dw] 50))) := by
    show Below _ _ _
    go_grown
  have HX0 : Hid (Box ((w.alloc (.cells #[.int .u64 n, .bool g, .slice q rl d] 31)).alloc (.cells #[.int .i64 tx, .slice pi W.length ci, .int .i64 lv, .int .i64 nw, .bool gw, .slice qw rw dw] 50)) w.heap.size #[.int .u64 n, .bool g, .slice q rl d] 31 ∧ Box ((w.alloc (.cells #[.int .u64 n, .bool g, .slice q rl d] 31)).alloc (.cells #[.int .i64 tx, .slice pi W.length ci, .int .i64 lv, .int .i64 nw, .bool gw, .slice qw rw dw] 50)) (w.heap.size + 1) #[.int .i64 tx, .slice pi W.length ci, .int .i64 lv, .int .i64 nw, .bool gw, .slice qw rw dw] 50) := ⟨hx1, hx2⟩
  clear hs1 hx1 hx2
  go_enter Try.func5, Try.ntmps5
  go_wp2_with fail
  generalize ((w.alloc (.cells #[.int .u64 n, .bool g, .slice q rl d] 31)).alloc (.cells #[.int .i64 tx, .slice pi W.length ci, .int .i64 lv, .int .i64 nw, .bool gw, .slice qw rw dw] 50)) = w0 at *
  refine (CM1.out _ HB0.out).mono ?_
  rintro e w1 ⟨rfl, hb1⟩
  have HB1 : Hid (Below w.heap.size w w1) := HB0.out.trans (hb1.mono HB0.out.size)
  have HX1 : Hid (Box w1 w.heap.size #[.int .u64 n, .bool g, .slice q rl d] 31 ∧ Box w1 (w.heap.size + 1) #[.int .i64 tx, .slice pi W.length ci, .int .i64 lv, .int .i64 nw, .bool gw, .slice qw rw dw] 50) := ⟨HX0.out.1.on hb1, HX0.out.2.on hb1⟩
  clear hb1 HB0 HX0 CM1
  cases m1
  · go_wp2_with fail
    refine (CAw.out _).mono ?_
    rintro e wz ⟨rfl, hbz⟩
    have HBz : Hid (Below w.heap.size w wz) := HB1.out.trans (hbz.mono HB1.out.size)
    clear hbz
    go_wp2_with fail
    go_ret
    exact ⟨rfl, HBz.out⟩
  obtain ⟨x0, x1, x2, x3, x4, x5⟩ := box6o HX1.out.2
  go_wp2_with fail
  refine (CM2.out _ HB1.out).mono ?_
  rintro e wB ⟨rfl, hb2⟩
  have HBB : Hid (Below w.heap.size w wB) := HB1.out.trans (hb2.mono HB1.out.size)
  have HXB : Hid (Box wB w.heap.size #[.int .u64 n, .bool g, .slice q rl d] 31 ∧ Box wB (w.heap.size + 1) #[.int .i64 tx, .slice pi W.length ci, .int .i64 lv, .int .i64 nw, .bool gw, .slice qw rw dw] 50) := ⟨HX1.out.1.on hb2, HX1.out.2.on hb2⟩
  clear hb2 HB1 HX1 x0 x1 x2 x3 x4 x5 CM2
  cases m2
  · go_wp2_with fail
    refine (CAw.out _).mono ?_
    rintro e wz ⟨rfl, hbz⟩
    have HBz : Hid (Below w.heap.size w wz) := HBB.out.trans (hbz.mono HBB.out.size)
    clear hbz
    go_wp2_with fail
    go_ret
    exact ⟨rfl, HBz.out⟩
  go_wp2_with fail
  go_loopw [7, 8] (fun v i wr => ∃ (j : Nat) (Z : List (Rw × Value)), j ≤ L.length ∧ i = .int .i64 (j : Int) ∧ Hid (Z.map Prod.fst = L.take j) ∧ Hid (OwnRs .u64 31 wr wB.heap.size v Z) ∧ Below wB.heap.size wB wr) (fun _ i _ => L.length - (intOf i).toNat)
  case atStart => exact ⟨0, [], Nat.zero_le _, by go_num, rfl, OwnRs.nil _ _ _ _, Below.refl _ _⟩
  case round =>
    obtain ⟨j, Z, hj, rfl, hZ, hO, hn⟩ := hrel
    have hB : Below w.heap.size w wr := HBB.out.trans (hn.mono HBB.out.size)
    by_cases hj0 : j = L.length
    · subst hj0
      have hZ2 : Z.map Prod.fst = L := hZ.out.trans (by rw [List.take_length])
      obtain ⟨po, co, e7, _, hro⟩ := hO.out.rd hZ2
      subst e7
      have HRo : Hid (RdR .u64 wr wr.heap.size po L) := hro
      have HBC : Hid (Below w.heap.size w wr) := hB
      have HXC : Hid (Box wr w.heap.size #[.int .u64 n, .bool g, .slice q rl d] 31 ∧ Box wr (w.heap.size + 1) #[.int .i64 tx, .slice pi W.length ci, .int .i64 lv, .int .i64 nw, .bool gw, .slice qw rw dw] 50) := ⟨HXB.out.1.on hn, HXB.out.2.on hn⟩
      clear hO hZ hZ2 hro hB hn HBB HXB
      generalize wr = wC at *
      have HKo : Hid (∀ w1, Below wC.heap.size wC w1 → RdR .u64 w1 w1.heap.size po L) := fun w1 h => HRo.out.on h
      have HKX : Hid (∀ w1, Below wC.heap.size wC w1 → Box w1 w.heap.size #[.int .u64 n, .bool g, .slice q rl d] 31 ∧ Box w1 (w.heap.size + 1) #[.int .i64 tx, .slice pi W.length ci, .int .i64 lv, .int .i64 nw, .bool gw, .slice qw rw dw] 50) := fun w1 h => ⟨HXC.out.1.on h, HXC.out.2.on h⟩
      have HI0 : Hid (Box (wC.alloc (.cells #[.int .i64 tx, .slice none 0 0] 36)) wC.heap.size #[.int .i64 tx, .slice none 0 0] 36) := Box.new wC _ _
      have HB0 : Hid (Below wC.heap.size wC (wC.alloc (.cells #[.int .i64 tx, .slice none 0 0] 36)) ∧ wC.heap.size + 1 ≤ (wC.alloc (.cells #[.int .i64 tx, .slice none 0 0] 36)).heap.size) := ⟨by go_grown, by simp [go_sem]⟩
      obtain ⟨x0, x1, x2, x3, x4, x5⟩ := box6o HXC.out.2
      clear HRo HRw
      go_wp2_with fail
      generalize (wC.alloc (.cells #[.int .i64 tx, .slice none 0 0] 36)) = wD at *
      clear x0 x1 x2 x3 x4 x5 HXC
      go_loopw [10] (fun i wr => ∃ (j : Nat) (Z : List (Rw × Value)) (v : Value), j ≤ W.length ∧ i = .int .i64 (j : Int) ∧ Hid (Z.map Prod.fst = W.take j) ∧ Hid (OwnRs .i64 40 wr (wC.heap.size + 1) v Z) ∧ Hid (Box wr wC.heap.size #[.int .i64 tx, v] 36) ∧ Hid (wC.heap.size + 1 ≤ wr.heap.size) ∧ Below wC.heap.size wC wr) (fun i _ => W.length - (intOf i).toNat)
      case atStart => exact ⟨0, [], _, Nat.zero_le _, by go_num, rfl, OwnRs.nil _ _ _ _, HI0, HB0.out.2, HB0.out.1⟩
      case round =>
        obtain ⟨j, Z, v, hj, rfl, hZ, hO, HI, HSz, hn⟩ := hrel
        have hB : Below w.heap.size w wr := HBC.out.trans (hn.mono HBC.out.size)
        obtain ⟨x0, x1, x2, x3, x4, x5⟩ := box6o (HKX.out _ hn).2
        by_cases hj0 : j = W.length
        · subst hj0
          have hZ2 : Z.map Prod.fst = W := hZ.out.trans (by rw [List.take_length])
          obtain ⟨pn, cn, e7, _, hrn⟩ := hO.out.rd hZ2
          subst e7
          have HKP : Hid (∀ w1, Below wr.heap.size wr w1 → Below w.heap.size w w1 ∧ (Box w1 w.heap.size #[.int .u64 n, .bool g, .slice q rl d] 31 ∧ Box w1 (w.heap.size + 1) #[.int .i64 tx, .slice pi W.length ci, .int .i64 lv, .int .i64 nw, .bool gw, .slice qw rw dw] 50) ∧ Box w1 wC.heap.size #[.int .i64 tx, .slice pn W.length cn] 36 ∧ RdR .u64 w1 w1.heap.size po L ∧ RdR .i64 w1 w1.heap.size pn W ∧ Below wC.heap.size wC w1) := fun w1 h => ⟨hB.trans (h.mono hB.size), HKX.out _ (hn.trans (h.mono hn.size)), HI.out.on h, HKo.out _ (hn.trans (h.mono hn.size)), hrn.on h, hn.trans (h.mono hn.size)⟩
          clear x0 x1 x2 x3 x4 x5 hZ hO hZ2 hrn HI HSz hB hn HI0 HB0 HKo HKX HBC HWw
          generalize wr = wE at *
          have HPs : Hid (shortR (prnL L n) ∧ (prnL L n).length ≤ 3518437208790) := ⟨(prn_sh HSL.out).1, by have := (prn_sh (s := n) HSL.out).2; omega⟩
          have CPr : Hid (∀ w1, Below wE.heap.size wE w1 → Calls Try.prog 19 #[.slice po L.length co, .int .u64 n] w1 fun e w' => (∃ v Z, e = .returned (.tuple #[v, .int .i64 ((L.length - (prnL L n).length : Nat) : Int)]) ∧ Z.map Prod.fst = prnL L n ∧ OwnRs .u64 31 w' w1.heap.size v Z) ∧ Below w1.heap.size w1 w') := fun w1 h => prune_any L po co n w1 (HKP.out w1 h).2.2.2.1 (by omega) HSL.out
          have CI2 : Hid (∀ w1, Below wE.heap.size wE w1 → Calls Try.prog 18 #[.slice po L.length co, .agg #[.int .u64 n, .bool g, .slice q rl d]] w1 fun e w' => (∃ v Z, e = .returned (.tuple #[v, .int .i64 (insE L ⟨n, g, row⟩)]) ∧ Z.map Prod.fst = insL L ⟨n, g, row⟩ ∧ OwnRs .u64 31 w' w1.heap.size v Z) ∧ Below w1.heap.size w1 w') := fun w1 h => CI.out po co w1 (HKP.out w1 h).2.2.2.1 (HKP.out w1 h).1
          clear CI
          generalize insE L ⟨n, g, row⟩ = ie at *
          generalize insL L ⟨n, g, row⟩ = IL at *
          generalize ((L.length - (prnL L n).length : Nat) : Int) = pe at *
          generalize prnL L n = PL at *
          obtain ⟨⟨v0, v1, v2⟩, _⟩ := box3 (HKP.out wE (Below.refl _ _)).2.1.1
          obtain ⟨x0, x1, x2, x3, x4, x5⟩ := box6o (HKP.out wE (Below.refl _ _)).2.1.2
          go_wp2_with fail
          refine (CI2.out _ (Below.refl _ _)).mono ?_
          rintro e w2 ⟨⟨va, Za, rfl, hZa, hOa⟩, hb2⟩
          have hHa : HOk w2 wE.heap.size 31 va := hOa.hok (by have := congrArg List.length hZa; rw [List.length_map] at this; rw [this]; exact HIs.out.2) (by rw [hZa]; exact HIs.out.1)
          have HB2 : Hid (Below wE.heap.size wE w2) := hb2
          have HHa : Hid (HOk w2 wE.heap.size 31 va) := hHa
          clear x0 x1 x2 x3 x4 x5 v0 v1 v2 hZa hOa hb2 hHa CI2 HIs
          obtain ⟨⟨v0, v1, v2⟩, _⟩ := box3 (HKP.out w2 HB2.out).2.1.1
          go_wp2_with fail
          refine (CPr.out _ HB2.out).mono ?_
          rintro e w3 ⟨⟨vb, Zb, rfl, hZb, hOb⟩, hb3⟩
          have hHb : HOk w3 w2.heap.size 31 vb := hOb.hok (by have := congrArg List.length hZb; rw [List.length_map] at this; rw [this]; exact HPs.out.2) (by rw [hZb]; exact HPs.out.1)
          have HHb : Hid (HOk w3 wE.heap.size 31 vb) := hHb.mono HB2.out.size
          have HHa3 : Hid (HOk w3 wE.heap.size 31 va) := HHa.out.kept hb3 (by decide)
          have HB3 : Hid (Below wE.heap.size wE w3) := HB2.out.trans (hb3.mono HB2.out.size)
          clear v0 v1 v2 hZb hOb hb3 hHb CPr HPs HHa HB2
          obtain ⟨pa, na, ca, rfl, hna⟩ := HHa3.out.sl
          obtain ⟨pb, nb, cb, rfl, hnb⟩ := HHb.out.sl
          go_wp2_with fail
          go_loopw [16] (fun i wr => ∃ j : Nat, j ≤ na ∧ i = .int .i64 (j : Int) ∧ Hid (HOk wr wE.heap.size 31 (.slice pa na ca)) ∧ Hid (HOk wr wE.heap.size 31 (.slice pb nb cb)) ∧ Hid (Below wE.heap.size wE wr)) (fun i _ => na - (intOf i).toNat)
          case atStart => exact ⟨0, Nat.zero_le _, by go_num, HHa3, HHb, HB3⟩
          case round =>
            obtain ⟨j, hj, rfl, HAA, HOA, HNA⟩ := hrel
            by_cases hj0 : j = na
            · have hj9 := hj0.symm
              clear hj0
              subst hj9
              clear HHa3 HHb HB3
              generalize wr = w4 at *
              go_wp2_with fail
              go_loopw [17] (fun i wr => ∃ j : Nat, j ≤ nb ∧ i = .int .i64 (j : Int) ∧ Hid (HOk wr wE.heap.size 31 (.slice pb nb cb)) ∧ Hid (HOk wr wE.heap.size 31 (.slice pa na ca)) ∧ Hid (Below wE.heap.size wE wr)) (fun i _ => nb - (intOf i).toNat)
              case atStart => exact ⟨0, Nat.zero_le _, by go_num, HOA, HAA, HNA⟩
              case round =>
                obtain ⟨j, hj, rfl, HAB, HOB, HNB⟩ := hrel
                by_cases hj0 : j = nb
                · have hj9 := hj0.symm
                  clear hj0
                  subst hj9
                  clear HAB HOB
                  generalize wr = wF at *
                  go_wp2_with fail
                  have HFs : Hid (shortR (fldL W lv) ∧ (fldL W lv).length ≤ 3518437208790) := ⟨(fol_sh HSW.out).1, by have := (fol_sh (s := lv) HSW.out).2; omega⟩
                  have HBs : Hid (shortR (belL W lv) ∧ (belL W lv).length ≤ 3518437208790) := ⟨sh_of HSW.out (fun r hr => Or.inl (bel_mem _ _ r hr)), by have := belL_len W lv; omega⟩
                  have HSs : Hid ((shwL (seeR L W tx tx n)).length ≤ 3518437208780) := shw_len HSL.out HSW.out
                  have CF : Hid (∀ w1, Below wE.heap.size wE w1 → Calls Try.prog 13 #[.agg #[.int .i64 tx, .slice pn W.length cn], .int .i64 lv] w1 fun e w' => (∃ v Z, e = .returned (.tuple #[.agg #[.int .i64 (fldT tx lv), v], .int .i64 (fldE lv)]) ∧ Z.map Prod.fst = fldL W lv ∧ OwnRs .i64 40 w' w1.heap.size v Z) ∧ Below w1.heap.size w1 w') := fun w1 h => fold_any W pn cn tx lv w1 (HKP.out w1 h).2.2.2.2.1 hlenW HSW.out hlw
                  have CB : Hid (∀ w1, Below wE.heap.size wE w1 → Calls Try.prog 11 #[.agg #[.int .i64 tx, .slice pn W.length cn], .int .i64 lv] w1 fun e w' => (∃ v Z, e = .returned (.agg #[.int .i64 (bakT tx W lv), v]) ∧ Z.map Prod.fst = belL W lv ∧ OwnRs .i64 40 w' w1.heap.size v Z) ∧ Below w1.heap.size w1 w') := fun w1 h => back_any W pn cn tx lv w1 (HKP.out w1 h).2.2.2.2.1 hlenW HSW.out
                  have CE : Hid (∀ w1, Below wE.heap.size wE w1 → Calls Try.prog 14 #[.slice po L.length co, .agg #[.int .i64 tx, .slice pn W.length cn], .int .i64 tx, .int .u64 n] w1 fun e w' => (∃ v', e = .returned (.tuple #[v', .bool (shwB (seeR L W tx tx n))]) ∧ OwnV w' w1.heap.size v' (shwL (seeR L W tx tx n))) ∧ Below w1.heap.size w1 w') := fun w1 h => see_any L W po pn co cn tx tx n w1 (HKP.out w1 h).2.2.2.1 (HKP.out w1 h).2.2.2.2.1 hlenL hlenW HSL.out HSW.out
                  have CSc : Hid (∀ w1, Below wE.heap.size wE w1 → Calls Try.prog 22 #[.slice po L.length co, .slice p L.length c] w1 fun e w' => e = .returned (.bool true) ∧ Below w1.heap.size w1 w') := fun w1 h => sameChain_eq L po p co c w1 (HKP.out w1 h).2.2.2.1 (HR.out w1 (HKP.out w1 h).1) (by omega) HSL.out
                  have CSi : Hid (∀ w1, Below wE.heap.size wE w1 → Calls Try.prog 16 #[.agg #[.int .i64 tx, .slice pn W.length cn], .agg #[.int .i64 tx, .slice pi W.length ci]] w1 fun e w' => e = .returned (.bool true) ∧ Below w1.heap.size w1 w') := fun w1 h => sameIntent_eq W pn pi cn ci tx w1 (HKP.out w1 h).2.2.2.2.1 (HW.out w1 (HKP.out w1 h).1) (by omega) HSW.out
                  clear HR HW HSL HSW HRl
                  generalize fldT tx lv = ft at *
                  generalize fldE lv = fe at *
                  generalize fldL W lv = FL at *
                  generalize bakT tx W lv = bt at *
                  generalize belL W lv = BL at *
                  generalize shwB (seeR L W tx tx n) = sb at *
                  generalize shwL (seeR L W tx tx n) = sl at *
                  generalize putT tx W ⟨nw, gw, roww⟩ = ut at *
                  generalize putE tx W ⟨nw, gw, roww⟩ = ue at *
                  generalize putL tx W ⟨nw, gw, roww⟩ = UL at *
                  refine wp_region_L (fun w' => (Box w' w.heap.size #[.int .u64 n, .bool g, .slice q rl d] 31 ∧ Box w' (w.heap.size + 1) #[.int .i64 tx, .slice pi W.length ci, .int .i64 lv, .int .i64 nw, .bool gw, .slice qw rw dw] 50) ∧ Box w' wC.heap.size #[.int .i64 tx, .slice pn W.length cn] 36) 18 (by kernel_rfl) ?_
                  have HN0 : Hid (Below wE.heap.size wE wF.drew) := HNB.out.drew
                  have hS0 : (Box wF.drew w.heap.size #[.int .u64 n, .bool g, .slice q rl d] 31 ∧ Box wF.drew (w.heap.size + 1) #[.int .i64 tx, .slice pi W.length ci, .int .i64 lv, .int .i64 nw, .bool gw, .slice qw rw dw] 50) ∧ Box wF.drew wC.heap.size #[.int .i64 tx, .slice pn W.length cn] 36 := ⟨(HKP.out _ HN0.out).2.1, (HKP.out _ HN0.out).2.2.1⟩
                  generalize wF.drew = wX0 at *
                  refine wpL_take (v := ?_) 0 rfl (by kernel_rfl) (fun _ _ _ h => h) (by rfl) ?_ hS0 ?_
                  rotate_left
                  focus
                    intro w9 hw9
                    obtain ⟨x0, x1, x2, x3, x4, x5⟩ := box6o hw9.1.2
                    obtain ⟨a0, a1, _, _⟩ := box2 hw9.2
                    go_simp
                    try with_reducible rfl
                  try simp only [Act.put, List.setIfInBounds_toArray, List.set_cons_zero, List.set_cons_succ]
                  refine wpL_take (v := ?_) 1 rfl (by kernel_rfl) (fun _ _ _ h => h) (by rfl) ?_ hS0 ?_
                  rotate_left
                  focus
                    intro w9 hw9
                    obtain ⟨x0, x1, x2, x3, x4, x5⟩ := box6o hw9.1.2
                    obtain ⟨a0, a1, _, _⟩ := box2 hw9.2
                    go_simp
                    try with_reducible rfl
                  try simp only [Act.put, List.setIfInBounds_toArray, List.set_cons_zero, List.set_cons_succ]
                  refine wpL_take (v := ?_) 2 rfl (by kernel_rfl) (fun _ _ _ h => h) (by rfl) ?_ hS0 ?_
                  rotate_left
                  focus
                    intro w9 hw9
                    obtain ⟨x0, x1, x2, x3, x4, x5⟩ := box6o hw9.1.2
                    obtain ⟨a0, a1, _, _⟩ := box2 hw9.2
                    go_simp
                    try with_reducible rfl
                  try simp only [Act.put, List.setIfInBounds_toArray, List.set_cons_zero, List.set_cons_succ]
                  refine wpL_take (v := ?_) 3 rfl (by kernel_rfl) (fun _ _ _ h => h) (by rfl) ?_ hS0 ?_
                  rotate_left
                  focus
                    intro w9 hw9
                    obtain ⟨x0, x1, x2, x3, x4, x5⟩ := box6o hw9.1.2
                    obtain ⟨a0, a1, _, _⟩ := box2 hw9.2
                    go_simp
                    try with_reducible rfl
                  try simp only [Act.put, List.setIfInBounds_toArray, List.set_cons_zero, List.set_cons_succ]
                  refine wpL_take (v := ?_) 4 rfl (by kernel_rfl) (fun _ _ _ h => h) (by rfl) ?_ hS0 ?_
                  rotate_left
                  focus
                    intro w9 hw9
                    obtain ⟨x0, x1, x2, x3, x4, x5⟩ := box6o hw9.1.2
                    obtain ⟨a0, a1, _, _⟩ := box2 hw9.2
                    go_simp
                    try with_reducible rfl
                  try simp only [Act.put, List.setIfInBounds_toArray, List.set_cons_zero, List.set_cons_succ]
                  refine wpL_take (v := ?_) 5 rfl (by kernel_rfl) (fun _ _ _ h => h) (by rfl) ?_ hS0 ?_
                  rotate_left
                  focus
                    intro w9 hw9
                    obtain ⟨x0, x1, x2, x3, x4, x5⟩ := box6o hw9.1.2
                    obtain ⟨a0, a1, _, _⟩ := box2 hw9.2
                    go_simp
                    try with_reducible rfl
                  try simp only [Act.put, List.setIfInBounds_toArray, List.set_cons_zero, List.set_cons_succ]
                  refine wpL_take (v := ?_) 6 rfl (by kernel_rfl) (fun _ _ _ h => h) (by rfl) ?_ hS0 ?_
                  rotate_left
                  focus
                    intro w9 hw9
                    obtain ⟨x0, x1, x2, x3, x4, x5⟩ := box6o hw9.1.2
                    obtain ⟨a0, a1, _, _⟩ := box2 hw9.2
                    go_simp
                    try with_reducible rfl
                  try simp only [Act.put, List.setIfInBounds_toArray, List.set_cons_zero, List.set_cons_succ]
                  refine wpL_take (v := ?_) 7 rfl (by kernel_rfl) (fun _ _ _ h => h) (by rfl) ?_ hS0 ?_
                  rotate_left
                  focus
                    intro w9 hw9
                    obtain ⟨x0, x1, x2, x3, x4, x5⟩ := box6o hw9.1.2
                    obtain ⟨a0, a1, _, _⟩ := box2 hw9.2
                    go_simp
                    try with_reducible rfl
                  try simp only [Act.put, List.setIfInBounds_toArray, List.set_cons_zero, List.set_cons_succ]
                  refine wpL_take (v := ?_) 8 rfl (by kernel_rfl) (fun _ _ _ h => h) (by rfl) ?_ hS0 ?_
                  rotate_left
                  focus
                    intro w9 hw9
                    obtain ⟨x0, x1, x2, x3, x4, x5⟩ := box6o hw9.1.2
                    obtain ⟨a0, a1, _, _⟩ := box2 hw9.2
                    go_simp
                    try with_reducible rfl
                  try simp only [Act.put, List.setIfInBounds_toArray, List.set_cons_zero, List.set_cons_succ]
                  refine wpL_take (v := ?_) 9 rfl (by kernel_rfl) (fun _ _ _ h => h) (by rfl) ?_ hS0 ?_
                  rotate_left
                  focus
                    intro w9 hw9
                    obtain ⟨x0, x1, x2, x3, x4, x5⟩ := box6o hw9.1.2
                    obtain ⟨a0, a1, _, _⟩ := box2 hw9.2
                    go_simp
                    try with_reducible rfl
                  try simp only [Act.put, List.setIfInBounds_toArray, List.set_cons_zero, List.set_cons_succ]
                  refine wpL_two 10 16 rfl rfl (by kernel_rfl) (by rfl) (by rfl) ?_ ?_
                  · intro K hK
                    go_simp
                    refine (CCw.out _ (HKP.out _ HN0.out).1).mono ?_
                    rintro e w5 ⟨⟨v5, rfl, ho5⟩, hb5⟩
                    dsimp only
                    obtain ⟨q5, c5, e5, _⟩ := ho5.sl
                    rw [hrw] at e5
                    subst e5
                    have HN5 : Hid (Below wE.heap.size wE w5) := HN0.out.trans (hb5.mono HN0.out.size)
                    have hS5 : (Box w5 w.heap.size #[.int .u64 n, .bool g, .slice q rl d] 31 ∧ Box w5 (w.heap.size + 1) #[.int .i64 tx, .slice pi W.length ci, .int .i64 lv, .int .i64 nw, .bool gw, .slice qw rw dw] 50) ∧ Box w5 wC.heap.size #[.int .i64 tx, .slice pn W.length cn] 36 := ⟨(HKP.out _ HN5.out).2.1, (HKP.out _ HN5.out).2.2.1⟩
                    have hv5 : Hid (SlV w5 w5.heap.size (.slice q5 rw c5) roww) := ho5.sl
                    clear hb5 ho5
                    refine hK.out _ _ (fun _ => hS5) ?_
                    clear hK K
                    try simp only [Act.put, List.setIfInBounds_toArray, List.set_cons_zero, List.set_cons_succ]
                    refine wpL_take (v := ?_) 11 rfl (by kernel_rfl) (fun _ _ _ h => h) (by rfl) ?_ hS5 ?_
                    rotate_left
                    focus
                      intro w9 hw9
                      go_simp
                      try with_reducible rfl
                    try simp only [Act.put, List.setIfInBounds_toArray, List.set_cons_zero, List.set_cons_succ]
                    refine wpL_two 12 16 rfl rfl (by kernel_rfl) (by rfl) (by rfl) ?_ ?_
                    · intro K hK
                      go_simp
                      refine (CU.out pn cn q5 c5 w5 (HKP.out _ HN5.out).2.2.2.2.1 hv5.out).mono ?_
                      rintro e w6 ⟨⟨v6, Z6, rfl, hZ6, hO6⟩, hb6⟩
                      dsimp only
                      have HN6 : Hid (Below wE.heap.size wE w6) := HN5.out.trans (hb6.mono HN5.out.size)
                      have HH6 : Hid (HOk w6 wE.heap.size 40 v6) := (hO6.hok (by have := congrArg List.length hZ6; rw [List.length_map] at this; rw [this]; exact HUs.out.2) (by rw [hZ6]; exact HUs.out.1)).mono HN5.out.size
                      have hS6 : (Box w6 w.heap.size #[.int .u64 n, .bool g, .slice q rl d] 31 ∧ Box w6 (w.heap.size + 1) #[.int .i64 tx, .slice pi W.length ci, .int .i64 lv, .int .i64 nw, .bool gw, .slice qw rw dw] 50) ∧ Box w6 wC.heap.size #[.int .i64 tx, .slice pn W.length cn] 36 := ⟨(HKP.out _ HN6.out).2.1, (HKP.out _ HN6.out).2.2.1⟩
                      obtain ⟨p6, n6, c6, rfl, _⟩ := HH6.out.sl
                      clear hZ6 hO6 hb6
                      refine hK.out _ _ (fun _ => hS6) ?_
                      clear hK K
                      try simp only [Act.put, List.setIfInBounds_toArray, List.set_cons_zero, List.set_cons_succ]
                      refine wpL_take (v := ?_) 13 rfl (by kernel_rfl) (fun _ _ _ h => h) (by rfl) ?_ hS6 ?_
                      rotate_left
                      focus
                        intro w9 hw9
                        go_simp
                        try with_reducible rfl
                      try simp only [Act.put, List.setIfInBounds_toArray, List.set_cons_zero, List.set_cons_succ]
                      refine wpL_take (v := ?_) 14 rfl (by kernel_rfl) (fun _ _ _ h => h) (by rfl) ?_ hS6 ?_
                      rotate_left
                      focus
                        intro w9 hw9
                        go_simp
                        try with_reducible rfl
                      try simp only [Act.put, List.setIfInBounds_toArray, List.set_cons_zero, List.set_cons_succ]
                      refine wpL_take (v := ?_) 15 rfl (by kernel_rfl) (fun _ _ _ h => h) (by rfl) ?_ hS6 ?_
                      rotate_left
                      focus
                        intro w9 hw9
                        go_simp
                        try with_reducible rfl
                      try simp only [Act.put, List.setIfInBounds_toArray, List.set_cons_zero, List.set_cons_succ]
                      refine wpL_one 16 rfl (by kernel_rfl) (by rfl) ?_
                      intro K hK
                      go_simp
                      have hba : Below w6.heap.size w6 (w6.alloc (.cells #[.int .i64 0, .slice none 0 0] 36)) := (Below.refl _ _).alloc (Nat.le_refl _) _
                      have HX7 : Hid (Box (w6.alloc (.cells #[.int .i64 0, .slice none 0 0] 36)) w6.heap.size #[.int .i64 0, .slice none 0 0] 36) := Box.new w6 _ _
                      have HN7 : Hid (Below wE.heap.size wE (w6.alloc (.cells #[.int .i64 0, .slice none 0 0] 36))) := HN6.out.trans (hba.mono HN6.out.size)
                      have HH7 : Hid (HOk (w6.alloc (.cells #[.int .i64 0, .slice none 0 0] 36)) wE.heap.size 40 (.slice p6 n6 c6)) := HH6.out.kept hba (by decide)
                      have hS7 : (Box (w6.alloc (.cells #[.int .i64 0, .slice none 0 0] 36)) w.heap.size #[.int .u64 n, .bool g, .slice q rl d] 31 ∧ Box (w6.alloc (.cells #[.int .i64 0, .slice none 0 0] 36)) (w.heap.size + 1) #[.int .i64 tx, .slice pi W.length ci, .int .i64 lv, .int .i64 nw, .bool gw, .slice qw rw dw] 50) ∧ Box (w6.alloc (.cells #[.int .i64 0, .slice none 0 0] 36)) wC.heap.size #[.int .i64 tx, .slice pn W.length cn] 36 := ⟨(HKP.out _ HN7.out).2.1, (HKP.out _ HN7.out).2.2.1⟩
                      have HG6 : Hid (wE.heap.size ≤ w6.heap.size) := HN6.out.size
                      refine hK.out _ _ (fun _ => hS7) ?_
                      clear hK K hba
                      try simp only [Act.put, List.setIfInBounds_toArray, List.set_cons_zero, List.set_cons_succ]
                      generalize (w6.alloc (.cells #[.int .i64 0, .slice none 0 0] 36)) = w7 at *
                      generalize w6.heap.size = gc at *
                      clear hS5 hS6 hS7 HN5 HN6 HH6 hv5
                      obtain ⟨z0, z1, z2, z3⟩ := box2 HX7.out
                      refine wpL_one 17 rfl (by kernel_rfl) (by rfl) ?_
                      intro K hK
                      go_simp
                      have HN8 : Hid (Below wE.heap.size wE ((w7.setCell ⟨gc, 0, none⟩ (.int .i64 ut)).setCell ⟨gc, 1, none⟩ (.slice p6 n6 c6))) := (HN7.out.setCell (p := ⟨gc, 0, none⟩) HG6.out (.int .i64 ut)).setCell (p := ⟨gc, 1, none⟩) HG6.out (.slice p6 n6 c6)
                      have hS8 : (Box ((w7.setCell ⟨gc, 0, none⟩ (.int .i64 ut)).setCell ⟨gc, 1, none⟩ (.slice p6 n6 c6)) w.heap.size #[.int .u64 n, .bool g, .slice q rl d] 31 ∧ Box ((w7.setCell ⟨gc, 0, none⟩ (.int .i64 ut)).setCell ⟨gc, 1, none⟩ (.slice p6 n6 c6)) (w.heap.size + 1) #[.int .i64 tx, .slice pi W.length ci, .int .i64 lv, .int .i64 nw, .bool gw, .slice qw rw dw] 50) ∧ Box ((w7.setCell ⟨gc, 0, none⟩ (.int .i64 ut)).setCell ⟨gc, 1, none⟩ (.slice p6 n6 c6)) wC.heap.size #[.int .i64 tx, .slice pn W.length cn] 36 := ⟨(HKP.out _ HN8.out).2.1, (HKP.out _ HN8.out).2.2.1⟩
                      have HX8 : Hid (Box ((w7.setCell ⟨gc, 0, none⟩ (.int .i64 ut)).setCell ⟨gc, 1, none⟩ (.slice p6 n6 c6)) gc #[.int .i64 ut, .slice p6 n6 c6] 36) := (HX7.out.set (i := 0) (.int .i64 ut)).set (i := 1) (.slice p6 n6 c6)
                      have HH8 : Hid (HOk ((w7.setCell ⟨gc, 0, none⟩ (.int .i64 ut)).setCell ⟨gc, 1, none⟩ (.slice p6 n6 c6)) wE.heap.size 40 (.slice p6 n6 c6)) := HH7.out.off2 HX7.out (by decide) _ _
                      refine hK.out _ _ (fun _ => hS8) ?_
                      clear hK K z0 z1 z2 z3 HN7 HX7 HH7
                      try simp only [Act.put, List.setIfInBounds_toArray, List.set_cons_zero, List.set_cons_succ]
                      generalize ((w7.setCell ⟨gc, 0, none⟩ (.int .i64 ut)).setCell ⟨gc, 1, none⟩ (.slice p6 n6 c6)) = w8 at *
                      refine wpL_one 18 rfl (by kernel_rfl) (by rfl) ?_
                      intro K hK
                      go_simp
                      refine hK.out _ _ (fun h => absurd rfl h) ?_
                      clear hK K hS8 HG6 CU CCw HUs HNB HN0 hS0
                      refine wpL_done (by kernel_rfl) ?_ _
                      refine NoPanic.normal ?_
                      obtain ⟨x0, x1, x2, x3, x4, x5⟩ := box6o (HKP.out w8 HN8.out).2.1.2
                      obtain ⟨a0, a1, _, _⟩ := box2 (HKP.out w8 HN8.out).2.2.1
                      go_wp2_with fail
                      refine (CF.out _ HN8.out).mono ?_
                      rintro e w9 ⟨⟨v9, Z9, rfl, hZ9, hO9⟩, hb9⟩
                      have hH9 : HOk w9 wE.heap.size 40 v9 := (hO9.hok (by have := congrArg List.length hZ9; rw [List.length_map] at this; rw [this]; exact HFs.out.2) (by rw [hZ9]; exact HFs.out.1)).mono HN8.out.size
                      obtain ⟨p9, n9, c9, rfl, _⟩ := hH9.sl
                      have hba : Below w9.heap.size w9 (w9.alloc (.cells #[.int .i64 ft, .slice p9 n9 c9] 36)) := (Below.refl _ _).alloc (Nat.le_refl _) _
                      have HN9 : Hid (Below wE.heap.size wE (w9.alloc (.cells #[.int .i64 ft, .slice p9 n9 c9] 36))) := (HN8.out.trans (hb9.mono HN8.out.size)).trans (hba.mono (HN8.out.trans (hb9.mono HN8.out.size)).size)
                      have HXc : Hid (Box (w9.alloc (.cells #[.int .i64 ft, .slice p9 n9 c9] 36)) gc #[.int .i64 ut, .slice p6 n6 c6] 36) := (HX8.out.on hb9).on hba
                      have HXf : Hid (Box (w9.alloc (.cells #[.int .i64 ft, .slice p9 n9 c9] 36)) w9.heap.size #[.int .i64 ft, .slice p9 n9 c9] 36) := Box.new w9 _ _
                      have HH9 : Hid (HOk (w9.alloc (.cells #[.int .i64 ft, .slice p9 n9 c9] 36)) wE.heap.size 40 (.slice p9 n9 c9)) := hH9.kept hba (by decide)
                      have CS1 : Hid (Calls _ _ _ _ _) := spoil8 ut (.slice p6 n6 c6) (w9.alloc (.cells #[.int .i64 ft, .slice p9 n9 c9] 36)) wE.heap.size HN9.out.size ((HH8.out.kept hb9 (by decide)).kept hba (by decide))
                      clear x0 x1 x2 x3 x4 x5 a0 a1
                      clear hb9 hO9 hZ9 hH9 hba HX8 HH8 HN8 CF HFs
                      obtain ⟨z0, z1, _, _⟩ := box2 HXc.out
                      go_wp2_with fail
                      generalize (w9.alloc (.cells #[.int .i64 ft, .slice p9 n9 c9] 36)) = wG at *
                      generalize w9.heap.size = gf at *
                      refine CS1.out.mono ?_
                      rintro e wH ⟨rfl, hst, hbH⟩
                      have HNH : Hid (Below wE.heap.size wE wH) := HN9.out.trans hbH
                      have HXh : Hid (Box wH gf #[.int .i64 ft, .slice p9 n9 c9] 36) := hst.2 _ _ HXf.out
                      have HHh : Hid (HOk wH wE.heap.size 40 (.slice p9 n9 c9)) := hst.1 _ _ HH9.out
                      clear z0 z1 hst hbH HXc HXf HH9 HN9 CS1
                      obtain ⟨x0, x1, x2, x3, x4, x5⟩ := box6o (HKP.out wH HNH.out).2.1.2
                      obtain ⟨a0, a1, _, _⟩ := box2 (HKP.out wH HNH.out).2.2.1
                      go_wp2_with fail
                      refine (CB.out _ HNH.out).mono ?_
                      rintro e wI ⟨⟨vI, ZI, rfl, hZI, hOI⟩, hbI⟩
                      have hHI : HOk wI wE.heap.size 40 vI := (hOI.hok (by have := congrArg List.length hZI; rw [List.length_map] at this; rw [this]; exact HBs.out.2) (by rw [hZI]; exact HBs.out.1)).mono HNH.out.size
                      obtain ⟨pI, nI, cI, rfl, _⟩ := hHI.sl
                      have HNI : Hid (Below wE.heap.size wE wI) := HNH.out.trans (hbI.mono HNH.out.size)
                      have HXI : Hid (Box wI gf #[.int .i64 ft, .slice p9 n9 c9] 36) := HXh.out.on hbI
                      have HHI : Hid (HOk wI wE.heap.size 40 (.slice p9 n9 c9)) := HHh.out.kept hbI (by decide)
                      have CS2 : Hid (Calls _ _ _ _ _) := spoil8 bt (.slice pI nI cI) wI wE.heap.size HNI.out.size hHI
                      clear x0 x1 x2 x3 x4 x5 a0 a1
                      clear hbI hOI hZI hHI HNH HXh HHh CB HBs
                      go_wp2_with fail
                      refine CS2.out.mono ?_
                      rintro e wJ ⟨rfl, hst, hbJ⟩
                      have HNJ : Hid (Below wE.heap.size wE wJ) := HNI.out.trans hbJ
                      have HXJ : Hid (Box wJ gf #[.int .i64 ft, .slice p9 n9 c9] 36) := hst.2 _ _ HXI.out
                      have CS3 : Hid (Calls _ _ _ _ _) := spoil8 ft (.slice p9 n9 c9) wJ wE.heap.size HNJ.out.size (hst.1 _ _ HHI.out)
                      clear hst hbJ HNI HXI HHI CS2
                      obtain ⟨z0, z1, _, _⟩ := box2 HXJ.out
                      go_wp2_with fail
                      refine CS3.out.mono ?_
                      rintro e wK ⟨rfl, _, hbK⟩
                      have HNK : Hid (Below wE.heap.size wE wK) := HNJ.out.trans hbK
                      clear z0 z1 hbK HNJ HXJ CS3
                      obtain ⟨x0, x1, x2, x3, x4, x5⟩ := box6o (HKP.out wK HNK.out).2.1.2
                      obtain ⟨a0, a1, _, _⟩ := box2 (HKP.out wK HNK.out).2.2.1
                      obtain ⟨⟨v0, v1, v2⟩, _⟩ := box3 (HKP.out wK HNK.out).2.1.1
                      go_wp2_with fail
                      refine (CE.out _ HNK.out).mono ?_
                      rintro e wL ⟨⟨vL, rfl, hoL⟩, hbL⟩
                      have HNL : Hid (Below wE.heap.size wE wL) := HNK.out.trans (hbL.mono HNK.out.size)
                      have CW : Hid (Calls _ _ _ _ _) := wipe8 vL wL wK.heap.size (hoL.wok HSs.out)
                      clear x0 x1 x2 x3 x4 x5 a0 a1
                      clear v0 v1 v2 hbL hoL CE HSs
                      go_wp2_with fail
                      refine CW.out.mono ?_
                      rintro e wM ⟨rfl, hsM⟩
                      have HNM : Hid (Below wE.heap.size wE wM) := HNL.out.trans (hsM.bel.mono HNK.out.size)
                      clear hsM HNL HNK CW
                      go_wp2_with fail
                      refine (CSc.out _ HNM.out).mono ?_
                      rintro e wN ⟨rfl, hbN⟩
                      have HNN : Hid (Below wE.heap.size wE wN) := HNM.out.trans (hbN.mono HNM.out.size)
                      clear hbN HNM CSc
                      obtain ⟨x0, x1, x2, x3, x4, x5⟩ := box6o (HKP.out wN HNN.out).2.1.2
                      obtain ⟨a0, a1, _, _⟩ := box2 (HKP.out wN HNN.out).2.2.1
                      go_wp2_with fail
                      refine (CSi.out _ HNN.out).mono ?_
                      rintro e wO ⟨rfl, hbO⟩
                      have HNO : Hid (Below wE.heap.size wE wO) := HNN.out.trans (hbO.mono HNN.out.size)
                      clear x0 x1 x2 x3 x4 x5 a0 a1
                      clear hbO HNN CSi
                      go_wp2_with fail
                      refine (CAw.out _).mono ?_
                      rintro e wz ⟨rfl, hbz⟩
                      have HBz : Hid (Below w.heap.size w wz) := (HKP.out _ HNO.out).1.trans (hbz.mono (HKP.out _ HNO.out).1.size)
                      clear hbz
                      go_wp2_with fail
                      go_ret
                      exact ⟨rfl, HBz.out⟩
                    · intro K hK
                      go_simp
                      have hba : Below w5.heap.size w5 (w5.alloc (.cells #[.int .i64 0, .slice none 0 0] 36)) := (Below.refl _ _).alloc (Nat.le_refl _) _
                      have HX7 : Hid (Box (w5.alloc (.cells #[.int .i64 0, .slice none 0 0] 36)) w5.heap.size #[.int .i64 0, .slice none 0 0] 36) := Box.new w5 _ _
                      have HN7 : Hid (Below wE.heap.size wE (w5.alloc (.cells #[.int .i64 0, .slice none 0 0] 36))) := HN5.out.trans (hba.mono HN5.out.size)
                      have hS7 : (Box (w5.alloc (.cells #[.int .i64 0, .slice none 0 0] 36)) w.heap.size #[.int .u64 n, .bool g, .slice q rl d] 31 ∧ Box (w5.alloc (.cells #[.int .i64 0, .slice none 0 0] 36)) (w.heap.size + 1) #[.int .i64 tx, .slice pi W.length ci, .int .i64 lv, .int .i64 nw, .bool gw, .slice qw rw dw] 50) ∧ Box (w5.alloc (.cells #[.int .i64 0, .slice none 0 0] 36)) wC.heap.size #[.int .i64 tx, .slice pn W.length cn] 36 := ⟨(HKP.out _ HN7.out).2.1, (HKP.out _ HN7.out).2.2.1⟩
                      have HG6 : Hid (wE.heap.size ≤ w5.heap.size) := HN5.out.size
                      have CU5 : Hid (Calls _ _ _ _ _) := CU.out pn cn q5 c5 (w5.alloc (.cells #[.int .i64 0, .slice none 0 0] 36)) (HKP.out _ HN7.out).2.2.2.2.1 (hv5.out.keep hba |>.mono hba.size)
                      refine hK.out _ _ (fun _ => hS7) ?_
                      clear hK K hba
                      try simp only [Act.put, List.setIfInBounds_toArray, List.set_cons_zero, List.set_cons_succ]
                      generalize (w5.alloc (.cells #[.int .i64 0, .slice none 0 0] 36)) = w7 at *
                      generalize w5.heap.size = gc at *
                      refine wpL_one 12 rfl (by kernel_rfl) (by rfl) ?_
                      intro K hK
                      go_simp
                      refine CU5.out.mono ?_
                      rintro e w6 ⟨⟨v6, Z6, rfl, hZ6, hO6⟩, hb6⟩
                      dsimp only
                      have HN6 : Hid (Below wE.heap.size wE w6) := HN7.out.trans (hb6.mono HN7.out.size)
                      have HH6 : Hid (HOk w6 wE.heap.size 40 v6) := (hO6.hok (by have := congrArg List.length hZ6; rw [List.length_map] at this; rw [this]; exact HUs.out.2) (by rw [hZ6]; exact HUs.out.1)).mono HN7.out.size
                      have hS6 : (Box w6 w.heap.size #[.int .u64 n, .bool g, .slice q rl d] 31 ∧ Box w6 (w.heap.size + 1) #[.int .i64 tx, .slice pi W.length ci, .int .i64 lv, .int .i64 nw, .bool gw, .slice qw rw dw] 50) ∧ Box w6 wC.heap.size #[.int .i64 tx, .slice pn W.length cn] 36 := ⟨(HKP.out _ HN6.out).2.1, (HKP.out _ HN6.out).2.2.1⟩
                      obtain ⟨p6, n6, c6, rfl, _⟩ := HH6.out.sl
                      have HX6 : Hid (Box w6 gc #[.int .i64 0, .slice none 0 0] 36) := HX7.out.on hb6
                      clear hZ6 hO6 hb6
                      refine hK.out _ _ (fun _ => hS6) ?_
                      clear hK K
                      try simp only [Act.put, List.setIfInBounds_toArray, List.set_cons_zero, List.set_cons_succ]
                      refine wpL_take (v := ?_) 13 rfl (by kernel_rfl) (fun _ _ _ h => h) (by rfl) ?_ hS6 ?_
                      rotate_left
                      focus
                        intro w9 hw9
                        go_simp
                        try with_reducible rfl
                      try simp only [Act.put, List.setIfInBounds_toArray, List.set_cons_zero, List.set_cons_succ]
                      refine wpL_take (v := ?_) 14 rfl (by kernel_rfl) (fun _ _ _ h => h) (by rfl) ?_ hS6 ?_
                      rotate_left
                      focus
                        intro w9 hw9
                        go_simp
                        try with_reducible rfl
                      try simp only [Act.put, List.setIfInBounds_toArray, List.set_cons_zero, List.set_cons_succ]
                      refine wpL_take (v := ?_) 15 rfl (by kernel_rfl) (fun _ _ _ h => h) (by rfl) ?_ hS6 ?_
                      rotate_left
                      focus
                        intro w9 hw9
                        go_simp
                        try with_reducible rfl
                      try simp only [Act.put, List.setIfInBounds_toArray, List.set_cons_zero, List.set_cons_succ]
                      clear hS5 hS6 hS7 HN5 HN7 HX7 hv5 CU5
                      obtain ⟨z0, z1, z2, z3⟩ := box2 HX6.out
                      refine wpL_one 17 rfl (by kernel_rfl) (by rfl) ?_
                      intro K hK
                      go_simp
                      have HN8 : Hid (Below wE.heap.size wE ((w6.setCell ⟨gc, 0, none⟩ (.int .i64 ut)).setCell ⟨gc, 1, none⟩ (.slice p6 n6 c6))) := (HN6.out.setCell (p := ⟨gc, 0, none⟩) HG6.out (.int .i64 ut)).setCell (p := ⟨gc, 1, none⟩) HG6.out (.slice p6 n6 c6)
                      have hS8 : (Box ((w6.setCell ⟨gc, 0, none⟩ (.int .i64 ut)).setCell ⟨gc, 1, none⟩ (.slice p6 n6 c6)) w.heap.size #[.int .u64 n, .bool g, .slice q rl d] 31 ∧ Box ((w6.setCell ⟨gc, 0, none⟩ (.int .i64 ut)).setCell ⟨gc, 1, none⟩ (.slice p6 n6 c6)) (w.heap.size + 1) #[.int .i64 tx, .slice pi W.length ci, .int .i64 lv, .int .i64 nw, .bool gw, .slice qw rw dw] 50) ∧ Box ((w6.setCell ⟨gc, 0, none⟩ (.int .i64 ut)).setCell ⟨gc, 1, none⟩ (.slice p6 n6 c6)) wC.heap.size #[.int .i64 tx, .slice pn W.length cn] 36 := ⟨(HKP.out _ HN8.out).2.1, (HKP.out _ HN8.out).2.2.1⟩
                      have HX8 : Hid (Box ((w6.setCell ⟨gc, 0, none⟩ (.int .i64 ut)).setCell ⟨gc, 1, none⟩ (.slice p6 n6 c6)) gc #[.int .i64 ut, .slice p6 n6 c6] 36) := (HX6.out.set (i := 0) (.int .i64 ut)).set (i := 1) (.slice p6 n6 c6)
                      have HH8 : Hid (HOk ((w6.setCell ⟨gc, 0, none⟩ (.int .i64 ut)).setCell ⟨gc, 1, none⟩ (.slice p6 n6 c6)) wE.heap.size 40 (.slice p6 n6 c6)) := HH6.out.off2 HX6.out (by decide) _ _
                      refine hK.out _ _ (fun _ => hS8) ?_
                      clear hK K z0 z1 z2 z3 HN6 HX6 HH6
                      try simp only [Act.put, List.setIfInBounds_toArray, List.set_cons_zero, List.set_cons_succ]
                      generalize ((w6.setCell ⟨gc, 0, none⟩ (.int .i64 ut)).setCell ⟨gc, 1, none⟩ (.slice p6 n6 c6)) = w8 at *
                      refine wpL_one 18 rfl (by kernel_rfl) (by rfl) ?_
                      intro K hK
                      go_simp
                      refine hK.out _ _ (fun h => absurd rfl h) ?_
                      clear hK K hS8 HG6 CU CCw HUs HNB HN0 hS0
                      refine wpL_done (by kernel_rfl) ?_ _
                      refine NoPanic.normal ?_
                      obtain ⟨x0, x1, x2, x3, x4, x5⟩ := box6o (HKP.out w8 HN8.out).2.1.2
                      obtain ⟨a0, a1, _, _⟩ := box2 (HKP.out w8 HN8.out).2.2.1
                      go_wp2_with fail
                      refine (CF.out _ HN8.out).mono ?_
                      rintro e w9 ⟨⟨v9, Z9, rfl, hZ9, hO9⟩, hb9⟩
                      have hH9 : HOk w9 wE.heap.size 40 v9 := (hO9.hok (by have := congrArg List.length hZ9; rw [List.length_map] at this; rw [this]; exact HFs.out.2) (by rw [hZ9]; exact HFs.out.1)).mono HN8.out.size
                      obtain ⟨p9, n9, c9, rfl, _⟩ := hH9.sl
                      have hba : Below w9.heap.size w9 (w9.alloc (.cells #[.int .i64 ft, .slice p9 n9 c9] 36)) := (Below.refl _ _).alloc (Nat.le_refl _) _
                      have HN9 : Hid (Below wE.heap.size wE (w9.alloc (.cells #[.int .i64 ft, .slice p9 n9 c9] 36))) := (HN8.out.trans (hb9.mono HN8.out.size)).trans (hba.mono (HN8.out.trans (hb9.mono HN8.out.size)).size)
                      have HXc : Hid (Box (w9.alloc (.cells #[.int .i64 ft, .slice p9 n9 c9] 36)) gc #[.int .i64 ut, .slice p6 n6 c6] 36) := (HX8.out.on hb9).on hba
                      have HXf : Hid (Box (w9.alloc (.cells #[.int .i64 ft, .slice p9 n9 c9] 36)) w9.heap.size #[.int .i64 ft, .slice p9 n9 c9] 36) := Box.new w9 _ _
                      have HH9 : Hid (HOk (w9.alloc (.cells #[.int .i64 ft, .slice p9 n9 c9] 36)) wE.heap.size 40 (.slice p9 n9 c9)) := hH9.kept hba (by decide)
                      have CS1 : Hid (Calls _ _ _ _ _) := spoil8 ut (.slice p6 n6 c6) (w9.alloc (.cells #[.int .i64 ft, .slice p9 n9 c9] 36)) wE.heap.size HN9.out.size ((HH8.out.kept hb9 (by decide)).kept hba (by decide))
                      clear x0 x1 x2 x3 x4 x5 a0 a1
                      clear hb9 hO9 hZ9 hH9 hba HX8 HH8 HN8 CF HFs
                      obtain ⟨z0, z1, _, _⟩ := box2 HXc.out
                      go_wp2_with fail
                      generalize (w9.alloc (.cells #[.int .i64 ft, .slice p9 n9 c9] 36)) = wG at *
                      generalize w9.heap.size = gf at *
                      refine CS1.out.mono ?_
                      rintro e wH ⟨rfl, hst, hbH⟩
                      have HNH : Hid (Below wE.heap.size wE wH) := HN9.out.trans hbH
                      have HXh : Hid (Box wH gf #[.int .i64 ft, .slice p9 n9 c9] 36) := hst.2 _ _ HXf.out
                      have HHh : Hid (HOk wH wE.heap.size 40 (.slice p9 n9 c9)) := hst.1 _ _ HH9.out
                      clear z0 z1 hst hbH HXc HXf HH9 HN9 CS1
                      obtain ⟨x0, x1, x2, x3, x4, x5⟩ := box6o (HKP.out wH HNH.out).2.1.2
                      obtain ⟨a0, a1, _, _⟩ := box2 (HKP.out wH HNH.out).2.2.1
                      go_wp2_with fail
                      refine (CB.out _ HNH.out).mono ?_
                      rintro e wI ⟨⟨vI, ZI, rfl, hZI, hOI⟩, hbI⟩
                      have hHI : HOk wI wE.heap.size 40 vI := (hOI.hok (by have := congrArg List.length hZI; rw [List.length_map] at this; rw [this]; exact HBs.out.2) (by rw [hZI]; exact HBs.out.1)).mono HNH.out.size
                      obtain ⟨pI, nI, cI, rfl, _⟩ := hHI.sl
                      have HNI : Hid (Below wE.heap.size wE wI) := HNH.out.trans (hbI.mono HNH.out.size)
                      have HXI : Hid (Box wI gf #[.int .i64 ft, .slice p9 n9 c9] 36) := HXh.out.on hbI
                      have HHI : Hid (HOk wI wE.heap.size 40 (.slice p9 n9 c9)) := HHh.out.kept hbI (by decide)
                      have CS2 : Hid (Calls _ _ _ _ _) := spoil8 bt (.slice pI nI cI) wI wE.heap.size HNI.out.size hHI
                      clear x0 x1 x2 x3 x4 x5 a0 a1
                      clear hbI hOI hZI hHI HNH HXh HHh CB HBs
                      go_wp2_with fail
                      refine CS2.out.mono ?_
                      rintro e wJ ⟨rfl, hst, hbJ⟩
                      have HNJ : Hid (Below wE.heap.size wE wJ) := HNI.out.trans hbJ
                      have HXJ : Hid (Box wJ gf #[.int .i64 ft, .slice p9 n9 c9] 36) := hst.2 _ _ HXI.out
                      have CS3 : Hid (Calls _ _ _ _ _) := spoil8 ft (.slice p9 n9 c9) wJ wE.heap.size HNJ.out.size (hst.1 _ _ HHI.out)
                      clear hst hbJ HNI HXI HHI CS2
                      obtain ⟨z0, z1, _, _⟩ := box2 HXJ.out
                      go_wp2_with fail
                      refine CS3.out.mono ?_
                      rintro e wK ⟨rfl, _, hbK⟩
                      have HNK : Hid (Below wE.heap.size wE wK) := HNJ.out.trans hbK
                      clear z0 z1 hbK HNJ HXJ CS3
                      obtain ⟨x0, x1, x2, x3, x4, x5⟩ := box6o (HKP.out wK HNK.out).2.1.2
                      obtain ⟨a0, a1, _, _⟩ := box2 (HKP.out wK HNK.out).2.2.1
                      obtain ⟨⟨v0, v1, v2⟩, _⟩ := box3 (HKP.out wK HNK.out).2.1.1
                      go_wp2_with fail
                      refine (CE.out _ HNK.out).mono ?_
                      rintro e wL ⟨⟨vL, rfl, hoL⟩, hbL⟩
                      have HNL : Hid (Below wE.heap.size wE wL) := HNK.out.trans (hbL.mono HNK.out.size)
                      have CW : Hid (Calls _ _ _ _ _) := wipe8 vL wL wK.heap.size (hoL.wok HSs.out)
                      clear x0 x1 x2 x3 x4 x5 a0 a1
                      clear v0 v1 v2 hbL hoL CE HSs
                      go_wp2_with fail
                      refine CW.out.mono ?_
                      rintro e wM ⟨rfl, hsM⟩
                      have HNM : Hid (Below wE.heap.size wE wM) := HNL.out.trans (hsM.bel.mono HNK.out.size)
                      clear hsM HNL HNK CW
                      go_wp2_with fail
                      refine (CSc.out _ HNM.out).mono ?_
                      rintro e wN ⟨rfl, hbN⟩
                      have HNN : Hid (Below wE.heap.size wE wN) := HNM.out.trans (hbN.mono HNM.out.size)
                      clear hbN HNM CSc
                      obtain ⟨x0, x1, x2, x3, x4, x5⟩ := box6o (HKP.out wN HNN.out).2.1.2
                      obtain ⟨a0, a1, _, _⟩ := box2 (HKP.out wN HNN.out).2.2.1
                      go_wp2_with fail
                      refine (CSi.out _ HNN.out).mono ?_
                      rintro e wO ⟨rfl, hbO⟩
                      have HNO : Hid (Below wE.heap.size wE wO) := HNN.out.trans (hbO.mono HNN.out.size)
                      clear x0 x1 x2 x3 x4 x5 a0 a1
                      clear hbO HNN CSi
                      go_wp2_with fail
                      refine (CAw.out _).mono ?_
                      rintro e wz ⟨rfl, hbz⟩
                      have HBz : Hid (Below w.heap.size w wz) := (HKP.out _ HNO.out).1.trans (hbz.mono (HKP.out _ HNO.out).1.size)
                      clear hbz
                      go_wp2_with fail
                      go_ret
                      exact ⟨rfl, HBz.out⟩
                  · intro K hK
                    go_simp
                    have hba : Below wX0.heap.size wX0 (wX0.alloc (.cells #[.int .i64 0, .slice none 0 0] 36)) := (Below.refl _ _).alloc (Nat.le_refl _) _
                    have HX7 : Hid (Box (wX0.alloc (.cells #[.int .i64 0, .slice none 0 0] 36)) wX0.heap.size #[.int .i64 0, .slice none 0 0] 36) := Box.new wX0 _ _
                    have HN7 : Hid (Below wE.heap.size wE (wX0.alloc (.cells #[.int .i64 0, .slice none 0 0] 36))) := HN0.out.trans (hba.mono HN0.out.size)
                    have hS7 : (Box (wX0.alloc (.cells #[.int .i64 0, .slice none 0 0] 36)) w.heap.size #[.int .u64 n, .bool g, .slice q rl d] 31 ∧ Box (wX0.alloc (.cells #[.int .i64 0, .slice none 0 0] 36)) (w.heap.size + 1) #[.int .i64 tx, .slice pi W.length ci, .int .i64 lv, .int .i64 nw, .bool gw, .slice qw rw dw] 50) ∧ Box (wX0.alloc (.cells #[.int .i64 0, .slice none 0 0] 36)) wC.heap.size #[.int .i64 tx, .slice pn W.length cn] 36 := ⟨(HKP.out _ HN7.out).2.1, (HKP.out _ HN7.out).2.2.1⟩
                    have HG6 : Hid (wE.heap.size ≤ wX0.heap.size) := HN0.out.size
                    refine hK.out _ _ (fun _ => hS7) ?_
                    clear hK K hba
                    try simp only [Act.put, List.setIfInBounds_toArray, List.set_cons_zero, List.set_cons_succ]
                    generalize (wX0.alloc (.cells #[.int .i64 0, .slice none 0 0] 36)) = w7 at *
                    generalize wX0.heap.size = gc at *
                    refine wpL_one 10 rfl (by kernel_rfl) (by rfl) ?_
                    intro K hK
                    go_simp
                    refine (CCw.out _ (HKP.out _ HN7.out).1).mono ?_
                    rintro e w5 ⟨⟨v5, rfl, ho5⟩, hb5⟩
                    dsimp only
                    obtain ⟨q5, c5, e5, _⟩ := ho5.sl
                    rw [hrw] at e5
                    subst e5
                    have HN5 : Hid (Below wE.heap.size wE w5) := HN7.out.trans (hb5.mono HN7.out.size)
                    have hS5 : (Box w5 w.heap.size #[.int .u64 n, .bool g, .slice q rl d] 31 ∧ Box w5 (w.heap.size + 1) #[.int .i64 tx, .slice pi W.length ci, .int .i64 lv, .int .i64 nw, .bool gw, .slice qw rw dw] 50) ∧ Box w5 wC.heap.size #[.int .i64 tx, .slice pn W.length cn] 36 := ⟨(HKP.out _ HN5.out).2.1, (HKP.out _ HN5.out).2.2.1⟩
                    have hv5 : Hid (SlV w5 w5.heap.size (.slice q5 rw c5) roww) := ho5.sl
                    have HX5 : Hid (Box w5 gc #[.int .i64 0, .slice none 0 0] 36) := HX7.out.on hb5
                    clear hb5 ho5
                    refine hK.out _ _ (fun _ => hS5) ?_
                    clear hK K
                    try simp only [Act.put, List.setIfInBounds_toArray, List.set_cons_zero, List.set_cons_succ]
                    refine wpL_take (v := ?_) 11 rfl (by kernel_rfl) (fun _ _ _ h => h) (by rfl) ?_ hS5 ?_
                    rotate_left
                    focus
                      intro w9 hw9
                      go_simp
                      try with_reducible rfl
                    try simp only [Act.put, List.setIfInBounds_toArray, List.set_cons_zero, List.set_cons_succ]
                    refine wpL_one 12 rfl (by kernel_rfl) (by rfl) ?_
                    intro K hK
                    go_simp
                    refine (CU.out pn cn q5 c5 w5 (HKP.out _ HN5.out).2.2.2.2.1 hv5.out).mono ?_
                    rintro e w6 ⟨⟨v6, Z6, rfl, hZ6, hO6⟩, hb6⟩
                    dsimp only
                    have HN6 : Hid (Below wE.heap.size wE w6) := HN5.out.trans (hb6.mono HN5.out.size)
                    have HH6 : Hid (HOk w6 wE.heap.size 40 v6) := (hO6.hok (by have := congrArg List.length hZ6; rw [List.length_map] at this; rw [this]; exact HUs.out.2) (by rw [hZ6]; exact HUs.out.1)).mono HN5.out.size
                    have hS6 : (Box w6 w.heap.size #[.int .u64 n, .bool g, .slice q rl d] 31 ∧ Box w6 (w.heap.size + 1) #[.int .i64 tx, .slice pi W.length ci, .int .i64 lv, .int .i64 nw, .bool gw, .slice qw rw dw] 50) ∧ Box w6 wC.heap.size #[.int .i64 tx, .slice pn W.length cn] 36 := ⟨(HKP.out _ HN6.out).2.1, (HKP.out _ HN6.out).2.2.1⟩
                    obtain ⟨p6, n6, c6, rfl, _⟩ := HH6.out.sl
                    have HX6 : Hid (Box w6 gc #[.int .i64 0, .slice none 0 0] 36) := HX5.out.on hb6
                    clear hZ6 hO6 hb6
                    refine hK.out _ _ (fun _ => hS6) ?_
                    clear hK K
                    try simp only [Act.put, List.setIfInBounds_toArray, List.set_cons_zero, List.set_cons_succ]
                    refine wpL_take (v := ?_) 13 rfl (by kernel_rfl) (fun _ _ _ h => h) (by rfl) ?_ hS6 ?_
                    rotate_left
                    focus
                      intro w9 hw9
                      go_simp
                      try with_reducible rfl
                    try simp only [Act.put, List.setIfInBounds_toArray, List.set_cons_zero, List.set_cons_succ]
                    refine wpL_take (v := ?_) 14 rfl (by kernel_rfl) (fun _ _ _ h => h) (by rfl) ?_ hS6 ?_
                    rotate_left
                    focus
                      intro w9 hw9
                      go_simp
                      try with_reducible rfl
                    try simp only [Act.put, List.setIfInBounds_toArray, List.set_cons_zero, List.set_cons_succ]
                    refine wpL_take (v := ?_) 15 rfl (by kernel_rfl) (fun _ _ _ h => h) (by rfl) ?_ hS6 ?_
                    rotate_left
                    focus
                      intro w9 hw9
                      go_simp
                      try with_reducible rfl
                    try simp only [Act.put, List.setIfInBounds_toArray, List.set_cons_zero, List.set_cons_succ]
                    clear hS5 hS6 hS7 HN5 HN7 HX5 HX7 hv5
                    obtain ⟨z0, z1, z2, z3⟩ := box2 HX6.out
                    refine wpL_one 17 rfl (by kernel_rfl) (by rfl) ?_
                    intro K hK
                    go_simp
                    have HN8 : Hid (Below wE.heap.size wE ((w6.setCell ⟨gc, 0, none⟩ (.int .i64 ut)).setCell ⟨gc, 1, none⟩ (.slice p6 n6 c6))) := (HN6.out.setCell (p := ⟨gc, 0, none⟩) HG6.out (.int .i64 ut)).setCell (p := ⟨gc, 1, none⟩) HG6.out (.slice p6 n6 c6)
                    have hS8 : (Box ((w6.setCell ⟨gc, 0, none⟩ (.int .i64 ut)).setCell ⟨gc, 1, none⟩ (.slice p6 n6 c6)) w.heap.size #[.int .u64 n, .bool g, .slice q rl d] 31 ∧ Box ((w6.setCell ⟨gc, 0, none⟩ (.int .i64 ut)).setCell ⟨gc, 1, none⟩ (.slice p6 n6 c6)) (w.heap.size + 1) #[.int .i64 tx, .slice pi W.length ci, .int .i64 lv, .int .i64 nw, .bool gw, .slice qw rw dw] 50) ∧ Box ((w6.setCell ⟨gc, 0, none⟩ (.int .i64 ut)).setCell ⟨gc, 1, none⟩ (.slice p6 n6 c6)) wC.heap.size #[.int .i64 tx, .slice pn W.length cn] 36 := ⟨(HKP.out _ HN8.out).2.1, (HKP.out _ HN8.out).2.2.1⟩
                    have HX8 : Hid (Box ((w6.setCell ⟨gc, 0, none⟩ (.int .i64 ut)).setCell ⟨gc, 1, none⟩ (.slice p6 n6 c6)) gc #[.int .i64 ut, .slice p6 n6 c6] 36) := (HX6.out.set (i := 0) (.int .i64 ut)).set (i := 1) (.slice p6 n6 c6)
                    have HH8 : Hid (HOk ((w6.setCell ⟨gc, 0, none⟩ (.int .i64 ut)).setCell ⟨gc, 1, none⟩ (.slice p6 n6 c6)) wE.heap.size 40 (.slice p6 n6 c6)) := HH6.out.off2 HX6.out (by decide) _ _
                    refine hK.out _ _ (fun _ => hS8) ?_
                    clear hK K z0 z1 z2 z3 HN6 HX6 HH6
                    try simp only [Act.put, List.setIfInBounds_toArray, List.set_cons_zero, List.set_cons_succ]
                    generalize ((w6.setCell ⟨gc, 0, none⟩ (.int .i64 ut)).setCell ⟨gc, 1, none⟩ (.slice p6 n6 c6)) = w8 at *
                    refine wpL_one 18 rfl (by kernel_rfl) (by rfl) ?_
                    intro K hK
                    go_simp
                    refine hK.out _ _ (fun h => absurd rfl h) ?_
                    clear hK K hS8 HG6 CU CCw HUs HNB HN0 hS0
                    refine wpL_done (by kernel_rfl) ?_ _
                    refine NoPanic.normal ?_
                    obtain ⟨x0, x1, x2, x3, x4, x5⟩ := box6o (HKP.out w8 HN8.out).2.1.2
                    obtain ⟨a0, a1, _, _⟩ := box2 (HKP.out w8 HN8.out).2.2.1
                    go_wp2_with fail
                    refine (CF.out _ HN8.out).mono ?_
                    rintro e w9 ⟨⟨v9, Z9, rfl, hZ9, hO9⟩, hb9⟩
                    have hH9 : HOk w9 wE.heap.size 40 v9 := (hO9.hok (by have := congrArg List.length hZ9; rw [List.length_map] at this; rw [this]; exact HFs.out.2) (by rw [hZ9]; exact HFs.out.1)).mono HN8.out.size
                    obtain ⟨p9, n9, c9, rfl, _⟩ := hH9.sl
                    have hba : Below w9.heap.size w9 (w9.alloc (.cells #[.int .i64 ft, .slice p9 n9 c9] 36)) := (Below.refl _ _).alloc (Nat.le_refl _) _
                    have HN9 : Hid (Below wE.heap.size wE (w9.alloc (.cells #[.int .i64 ft, .slice p9 n9 c9] 36))) := (HN8.out.trans (hb9.mono HN8.out.size)).trans (hba.mono (HN8.out.trans (hb9.mono HN8.out.size)).size)
                    have HXc : Hid (Box (w9.alloc (.cells #[.int .i64 ft, .slice p9 n9 c9] 36)) gc #[.int .i64 ut, .slice p6 n6 c6] 36) := (HX8.out.on hb9).on hba
                    have HXf : Hid (Box (w9.alloc (.cells #[.int .i64 ft, .slice p9 n9 c9] 36)) w9.heap.size #[.int .i64 ft, .slice p9 n9 c9] 36) := Box.new w9 _ _
                    have HH9 : Hid (HOk (w9.alloc (.cells #[.int .i64 ft, .slice p9 n9 c9] 36)) wE.heap.size 40 (.slice p9 n9 c9)) := hH9.kept hba (by decide)
                    have CS1 : Hid (Calls _ _ _ _ _) := spoil8 ut (.slice p6 n6 c6) (w9.alloc (.cells #[.int .i64 ft, .slice p9 n9 c9] 36)) wE.heap.size HN9.out.size ((HH8.out.kept hb9 (by decide)).kept hba (by decide))
                    clear x0 x1 x2 x3 x4 x5 a0 a1
                    clear hb9 hO9 hZ9 hH9 hba HX8 HH8 HN8 CF HFs
                    obtain ⟨z0, z1, _, _⟩ := box2 HXc.out
                    go_wp2_with fail
                    generalize (w9.alloc (.cells #[.int .i64 ft, .slice p9 n9 c9] 36)) = wG at *
                    generalize w9.heap.size = gf at *
                    refine CS1.out.mono ?_
                    rintro e wH ⟨rfl, hst, hbH⟩
                    have HNH : Hid (Below wE.heap.size wE wH) := HN9.out.trans hbH
                    have HXh : Hid (Box wH gf #[.int .i64 ft, .slice p9 n9 c9] 36) := hst.2 _ _ HXf.out
                    have HHh : Hid (HOk wH wE.heap.size 40 (.slice p9 n9 c9)) := hst.1 _ _ HH9.out
                    clear z0 z1 hst hbH HXc HXf HH9 HN9 CS1
                    obtain ⟨x0, x1, x2, x3, x4, x5⟩ := box6o (HKP.out wH HNH.out).2.1.2
                    obtain ⟨a0, a1, _, _⟩ := box2 (HKP.out wH HNH.out).2.2.1
                    go_wp2_with fail
                    refine (CB.out _ HNH.out).mono ?_
                    rintro e wI ⟨⟨vI, ZI, rfl, hZI, hOI⟩, hbI⟩
                    have hHI : HOk wI wE.heap.size 40 vI := (hOI.hok (by have := congrArg List.length hZI; rw [List.length_map] at this; rw [this]; exact HBs.out.2) (by rw [hZI]; exact HBs.out.1)).mono HNH.out.size
                    obtain ⟨pI, nI, cI, rfl, _⟩ := hHI.sl
                    have HNI : Hid (Below wE.heap.size wE wI) := HNH.out.trans (hbI.mono HNH.out.size)
                    have HXI : Hid (Box wI gf #[.int .i64 ft, .slice p9 n9 c9] 36) := HXh.out.on hbI
                    have HHI : Hid (HOk wI wE.heap.size 40 (.slice p9 n9 c9)) := HHh.out.kept hbI (by decide)
                    have CS2 : Hid (Calls _ _ _ _ _) := spoil8 bt (.slice pI nI cI) wI wE.heap.size HNI.out.size hHI
                    clear x0 x1 x2 x3 x4 x5 a0 a1
                    clear hbI hOI hZI hHI HNH HXh HHh CB HBs
                    go_wp2_with fail
                    refine CS2.out.mono ?_
                    rintro e wJ ⟨rfl, hst, hbJ⟩
                    have HNJ : Hid (Below wE.heap.size wE wJ) := HNI.out.trans hbJ
                    have HXJ : Hid (Box wJ gf #[.int .i64 ft, .slice p9 n9 c9] 36) := hst.2 _ _ HXI.out
                    have CS3 : Hid (Calls _ _ _ _ _) := spoil8 ft (.slice p9 n9 c9) wJ wE.heap.size HNJ.out.size (hst.1 _ _ HHI.out)
                    clear hst hbJ HNI HXI HHI CS2
                    obtain ⟨z0, z1, _, _⟩ := box2 HXJ.out
                    go_wp2_with fail
                    refine CS3.out.mono ?_
                    rintro e wK ⟨rfl, _, hbK⟩
                    have HNK : Hid (Below wE.heap.size wE wK) := HNJ.out.trans hbK
                    clear z0 z1 hbK HNJ HXJ CS3
                    obtain ⟨x0, x1, x2, x3, x4, x5⟩ := box6o (HKP.out wK HNK.out).2.1.2
                    obtain ⟨a0, a1, _, _⟩ := box2 (HKP.out wK HNK.out).2.2.1
                    obtain ⟨⟨v0, v1, v2⟩, _⟩ := box3 (HKP.out wK HNK.out).2.1.1
                    go_wp2_with fail
                    refine (CE.out _ HNK.out).mono ?_
                    rintro e wL ⟨⟨vL, rfl, hoL⟩, hbL⟩
                    have HNL : Hid (Below wE.heap.size wE wL) := HNK.out.trans (hbL.mono HNK.out.size)
                    have CW : Hid (Calls _ _ _ _ _) := wipe8 vL wL wK.heap.size (hoL.wok HSs.out)
                    clear x0 x1 x2 x3 x4 x5 a0 a1
                    clear v0 v1 v2 hbL hoL CE HSs
                    go_wp2_with fail
                    refine CW.out.mono ?_
                    rintro e wM ⟨rfl, hsM⟩
                    have HNM : Hid (Below wE.heap.size wE wM) := HNL.out.trans (hsM.bel.mono HNK.out.size)
                    clear hsM HNL HNK CW
                    go_wp2_with fail
                    refine (CSc.out _ HNM.out).mono ?_
                    rintro e wN ⟨rfl, hbN⟩
                    have HNN : Hid (Below wE.heap.size wE wN) := HNM.out.trans (hbN.mono HNM.out.size)
                    clear hbN HNM CSc
                    obtain ⟨x0, x1, x2, x3, x4, x5⟩ := box6o (HKP.out wN HNN.out).2.1.2
                    obtain ⟨a0, a1, _, _⟩ := box2 (HKP.out wN HNN.out).2.2.1
                    go_wp2_with fail
                    refine (CSi.out _ HNN.out).mono ?_
                    rintro e wO ⟨rfl, hbO⟩
                    have HNO : Hid (Below wE.heap.size wE wO) := HNN.out.trans (hbO.mono HNN.out.size)
                    clear x0 x1 x2 x3 x4 x5 a0 a1
                    clear hbO HNN CSi
                    go_wp2_with fail
                    refine (CAw.out _).mono ?_
                    rintro e wz ⟨rfl, hbz⟩
                    have HBz : Hid (Below w.heap.size w wz) := (HKP.out _ HNO.out).1.trans (hbz.mono (HKP.out _ HNO.out).1.size)
                    clear hbz
                    go_wp2_with fail
                    go_ret
                    exact ⟨rfl, HBz.out⟩
                · have hj1 : j < nb := by omega
                  rcases HAB.out with h | ⟨g1, n', cap, cs, e, hBg, hg, hsz, hr⟩
                  · injection h with _ h2; omega
                  injection e with e1 e2 e3
                  subst e1 e2 e3
                  obtain ⟨rv, hrv, hw⟩ := hr j hj1
                  have a2 : wr.cell? ⟨g1, j * 3 + 2, none⟩ = some rv := by simp only [World.cell?, hg]; exact hrv
                  have CW : Hid (Calls _ _ _ _ _) := wipe8 rv wr wE.heap.size hw
                  have HG : Hid (wr.heap[g1]? = some (.cells cs 31 (0, 0)) ∧ nb * 3 ≤ cs.size) := ⟨hg, hsz.1⟩
                  clear hr hw hg hsz hj0
                  go_wp2_with fail
                  refine CW.out.mono ?_
                  rintro e w5 ⟨rfl, hs2⟩
                  have hA2 : HOk w5 wE.heap.size 31 (.slice (some ⟨g1, 0, none⟩) nb cb) := HAB.out.spo hs2 (by decide)
                  have hO2 : HOk w5 wE.heap.size 31 (.slice pa na ca) := HOB.out.spo hs2 (by decide)
                  have hn2 : Below wE.heap.size wE w5 := HNB.out.trans hs2.bel
                  obtain ⟨c2, e2, s2, _⟩ := hs2.blk g1 cs _ HG.out.1
                  have hsz2 : nb * 3 ≤ c2.size := by have := HG.out.2; omega
                  clear HAB HOB HNB CW hs2 HG a2
                  have cf : ∀ k, k < 3 → ∃ u, w5.cell? ⟨g1, j * 3 + k, none⟩ = some u := fun k hk => ⟨c2[j * 3 + k]'(by omega), by simp only [World.cell?, e2]; simp⟩
                  have ff : ∀ k, w5.frozen? ⟨g1, k, none⟩ = false := fun k => by simp [World.frozen?, e2]
                  obtain ⟨u0, y0⟩ := cf 0 (by omega)
                  obtain ⟨u1, y1⟩ := cf 1 (by omega)
                  obtain ⟨u2, y2⟩ := cf 2 (by omega)
                  rw [Nat.add_zero] at y0
                  have f0 := ff (j * 3)
                  have f1 := ff (j * 3 + 1)
                  have f2 := ff (j * 3 + 2)
                  have HA3 : Hid (HOk (((w5.setCell ⟨g1, j * 3, none⟩ (.int .u64 78)).setCell ⟨g1, j * 3 + 1, none⟩ (.bool false)).setCell ⟨g1, j * 3 + 2, none⟩ (.slice none 0 0)) wE.heap.size 31 (.slice (some ⟨g1, 0, none⟩) nb cb)) := hA2.st g1 j (.int .u64 78) (.bool false)
                  have HO3 : Hid (HOk (((w5.setCell ⟨g1, j * 3, none⟩ (.int .u64 78)).setCell ⟨g1, j * 3 + 1, none⟩ (.bool false)).setCell ⟨g1, j * 3 + 2, none⟩ (.slice none 0 0)) wE.heap.size 31 (.slice pa na ca)) := hO2.st g1 j (.int .u64 78) (.bool false)
                  have HN3 : Hid (Below wE.heap.size wE (((w5.setCell ⟨g1, j * 3, none⟩ (.int .u64 78)).setCell ⟨g1, j * 3 + 1, none⟩ (.bool false)).setCell ⟨g1, j * 3 + 2, none⟩ (.slice none 0 0))) := ((hn2.setCell (p := ⟨g1, j * 3, none⟩) hBg (.int .u64 78)).setCell (p := ⟨g1, j * 3 + 1, none⟩) hBg (.bool false)).setCell (p := ⟨g1, j * 3 + 2, none⟩) hBg (.slice none 0 0)
                  clear cf ff hA2 hO2 hn2 e2 s2 hsz2
                  go_wp2_with fail
                  go_roundw
                  case rel => exact ⟨j + 1, hj1, by go_num, HA3, HO3, HN3⟩
                  case measure => simp [intOf]; omega
            · have hj1 : j < na := by omega
              rcases HAA.out with h | ⟨g1, n', cap, cs, e, hBg, hg, hsz, hr⟩
              · injection h with _ h2; omega
              injection e with e1 e2 e3
              subst e1 e2 e3
              obtain ⟨rv, hrv, hw⟩ := hr j hj1
              have a2 : wr.cell? ⟨g1, j * 3 + 2, none⟩ = some rv := by simp only [World.cell?, hg]; exact hrv
              have CW : Hid (Calls _ _ _ _ _) := wipe8 rv wr wE.heap.size hw
              have HG : Hid (wr.heap[g1]? = some (.cells cs 31 (0, 0)) ∧ na * 3 ≤ cs.size) := ⟨hg, hsz.1⟩
              clear hr hw hg hsz hj0
              go_wp2_with fail
              refine CW.out.mono ?_
              rintro e w5 ⟨rfl, hs2⟩
              have hA2 : HOk w5 wE.heap.size 31 (.slice (some ⟨g1, 0, none⟩) na ca) := HAA.out.spo hs2 (by decide)
              have hO2 : HOk w5 wE.heap.size 31 (.slice pb nb cb) := HOA.out.spo hs2 (by decide)
              have hn2 : Below wE.heap.size wE w5 := HNA.out.trans hs2.bel
              obtain ⟨c2, e2, s2, _⟩ := hs2.blk g1 cs _ HG.out.1
              have hsz2 : na * 3 ≤ c2.size := by have := HG.out.2; omega
              clear HAA HOA HNA CW hs2 HG a2
              have cf : ∀ k, k < 3 → ∃ u, w5.cell? ⟨g1, j * 3 + k, none⟩ = some u := fun k hk => ⟨c2[j * 3 + k]'(by omega), by simp only [World.cell?, e2]; simp⟩
              have ff : ∀ k, w5.frozen? ⟨g1, k, none⟩ = false := fun k => by simp [World.frozen?, e2]
              obtain ⟨u0, y0⟩ := cf 0 (by omega)
              obtain ⟨u1, y1⟩ := cf 1 (by omega)
              obtain ⟨u2, y2⟩ := cf 2 (by omega)
              rw [Nat.add_zero] at y0
              have f0 := ff (j * 3)
              have f1 := ff (j * 3 + 1)
              have f2 := ff (j * 3 + 2)
              have HA3 : Hid (HOk (((w5.setCell ⟨g1, j * 3, none⟩ (.int .u64 77)).setCell ⟨g1, j * 3 + 1, none⟩ (.bool false)).setCell ⟨g1, j * 3 + 2, none⟩ (.slice none 0 0)) wE.heap.size 31 (.slice (some ⟨g1, 0, none⟩) na ca)) := hA2.st g1 j (.int .u64 77) (.bool false)
              have HO3 : Hid (HOk (((w5.setCell ⟨g1, j * 3, none⟩ (.int .u64 77)).setCell ⟨g1, j * 3 + 1, none⟩ (.bool false)).setCell ⟨g1, j * 3 + 2, none⟩ (.slice none 0 0)) wE.heap.size 31 (.slice pb nb cb)) := hO2.st g1 j (.int .u64 77) (.bool false)
              have HN3 : Hid (Below wE.heap.size wE (((w5.setCell ⟨g1, j * 3, none⟩ (.int .u64 77)).setCell ⟨g1, j * 3 + 1, none⟩ (.bool false)).setCell ⟨g1, j * 3 + 2, none⟩ (.slice none 0 0))) := ((hn2.setCell (p := ⟨g1, j * 3, none⟩) hBg (.int .u64 77)).setCell (p := ⟨g1, j * 3 + 1, none⟩) hBg (.bool false)).setCell (p := ⟨g1, j * 3 + 2, none⟩) hBg (.slice none 0 0)
              clear cf ff hA2 hO2 hn2 e2 s2 hsz2
              go_wp2_with fail
              go_roundw
              case rel => exact ⟨j + 1, hj1, by go_num, HA3, HO3, HN3⟩
              case measure => simp [intOf]; omega
        · have hj1 : j < W.length := by omega
          have hZl : Z.length ≤ j := by
            have := congrArg List.length hZ.out
            rw [List.length_map] at this
            rw [this]
            simp
            omega
          obtain ⟨b, o, q1, d1, rfl, hbB0, c0, c1, c2, hr, hq⟩ := HWw.out j hj1
          have c0 := (hB.cell (p := ⟨b, o + j * 3, none⟩) hbB0).trans c0
          have c1 := (hB.cell (p := ⟨b, o + j * 3 + 1, none⟩) hbB0).trans c1
          have c2 := (hB.cell (p := ⟨b, o + j * 3 + 2, none⟩) hbB0).trans c2
          have hr := hr.on hB
          have CC : Hid (∀ w1 : World, Below wr.heap.size wr w1 → Calls Try.prog 17 #[.slice q1 W[j].row.length d1] w1 fun e w' => (∃ v', e = .returned v' ∧ OwnV w' w1.heap.size v' W[j].row) ∧ Below w1.heap.size w1 w') := fun w1 h => copied_any W[j].row _ w1 ((SlV.keep ⟨q1, d1, rfl, hr, hq⟩ h).mono h.size) (HSW.out j hj1)
          have HCl : Hid (∀ v, rcell .i64 (W[j], v) = [.int .i64 W[j].n, .bool W[j].gn, v]) := fun v => rfl
          have HZ2 : Hid (∀ v, (Z ++ [(W[j], v)]).map Prod.fst = W.take (j + 1)) := fun v => by
            rw [List.map_append, hZ.out, List.take_add_one, List.getElem?_eq_getElem hj1]
            rfl
          clear hr hq hj0 hB hZ
          generalize W[j].n = xn at *
          generalize W[j].gn = xg at *
          generalize hxl : W[j].row.length = xl at *
          obtain ⟨pv, cv, rfl, _⟩ := owns_len hO.out.1
          have HLt : Hid (∀ k, (Value.slice pv Z.length cv).ownBlock = some k → k < wr.heap.size) := fun k hk => (hO.out.1.lt k hk).2
          have hbA : Below wr.heap.size wr (wr.alloc (.cells #[.int .i64 xn, .bool xg, .slice q1 xl d1] 40)) := (Below.refl _ _).alloc (Nat.le_refl _) _
          have HIA : Hid (Box (wr.alloc (.cells #[.int .i64 xn, .bool xg, .slice q1 xl d1] 40)) wC.heap.size #[.int .i64 tx, .slice pv Z.length cv] 36) := HI.out.on hbA
          have HWA : Hid (Box (wr.alloc (.cells #[.int .i64 xn, .bool xg, .slice q1 xl d1] 40)) wr.heap.size #[.int .i64 xn, .bool xg, .slice q1 xl d1] 40) := Box.new wr _ _
          have HOA : Hid (OwnRs .i64 40 (wr.alloc (.cells #[.int .i64 xn, .bool xg, .slice q1 xl d1] 40)) (wC.heap.size + 1) (.slice pv Z.length cv) Z) := hO.out.kept hbA
          have HNA : Hid (Below wC.heap.size wC (wr.alloc (.cells #[.int .i64 xn, .bool xg, .slice q1 xl d1] 40)) ∧ wC.heap.size + 1 ≤ (wr.alloc (.cells #[.int .i64 xn, .bool xg, .slice q1 xl d1] 40)).heap.size) := ⟨hn.trans (hbA.mono hn.size), Nat.le_trans HSz.out hbA.size⟩
          have CCA : Hid (Calls Try.prog 17 #[.slice q1 xl d1] (wr.alloc (.cells #[.int .i64 xn, .bool xg, .slice q1 xl d1] 40)).drew fun e w' => (∃ v', e = .returned v' ∧ OwnV w' (wr.alloc (.cells #[.int .i64 xn, .bool xg, .slice q1 xl d1] 40)).drew.heap.size v' W[j].row) ∧ Below (wr.alloc (.cells #[.int .i64 xn, .bool xg, .slice q1 xl d1] 40)).drew.heap.size (wr.alloc (.cells #[.int .i64 xn, .bool xg, .slice q1 xl d1] 40)).drew w') := CC.out _ hbA.drew
          clear hO HI HSz CC
          go_wp2_with fail
          generalize wr.alloc (.cells #[.int .i64 xn, .bool xg, .slice q1 xl d1] 40) = wA at *
          clear x0 x1 x2 x3 x4 x5 c0 c1 c2 hn hbA
          refine wp_region_L (fun w' => Box w' wC.heap.size #[.int .i64 tx, .slice pv Z.length cv] 36 ∧ Box w' wr.heap.size #[.int .i64 xn, .bool xg, .slice q1 xl d1] 40) 13 (by kernel_rfl) ?_
          have hS0 : Box wA.drew wC.heap.size #[.int .i64 tx, .slice pv Z.length cv] 36 ∧ Box wA.drew wr.heap.size #[.int .i64 xn, .bool xg, .slice q1 xl d1] 40 := ⟨HIA.out, HWA.out⟩
          have hOd : OwnRs .i64 40 wA.drew (wC.heap.size + 1) (.slice pv Z.length cv) Z := HOA.out
          have hnd : Below wC.heap.size wC wA.drew := HNA.out.1.drew
          have hsd : wC.heap.size + 1 ≤ wA.drew.heap.size := HNA.out.2
          clear HIA HWA HOA HNA
          refine wpL_take (v := ?_) 0 rfl (by kernel_rfl) (fun _ _ _ h => h) (by rfl) ?_ hS0 ?_
          rotate_left
          focus
            intro w9 hw9
            obtain ⟨a0, a1, _, _⟩ := box2 hw9.1
            obtain ⟨⟨f0, f1, f2⟩, _⟩ := box3 hw9.2
            go_simp
            try with_reducible rfl
          try simp only [Act.put, List.setIfInBounds_toArray, List.set_cons_zero, List.set_cons_succ]
          refine wpL_take (v := ?_) 1 rfl (by kernel_rfl) (fun _ _ _ h => h) (by rfl) ?_ hS0 ?_
          rotate_left
          focus
            intro w9 hw9
            obtain ⟨a0, a1, _, _⟩ := box2 hw9.1
            obtain ⟨⟨f0, f1, f2⟩, _⟩ := box3 hw9.2
            go_simp
            try with_reducible rfl
          try simp only [Act.put, List.setIfInBounds_toArray, List.set_cons_zero, List.set_cons_succ]
          refine wpL_take (v := ?_) 2 rfl (by kernel_rfl) (fun _ _ _ h => h) (by rfl) ?_ hS0 ?_
          rotate_left
          focus
            intro w9 hw9
            obtain ⟨a0, a1, _, _⟩ := box2 hw9.1
            obtain ⟨⟨f0, f1, f2⟩, _⟩ := box3 hw9.2
            go_simp
            try with_reducible rfl
          try simp only [Act.put, List.setIfInBounds_toArray, List.set_cons_zero, List.set_cons_succ]
          refine wpL_take (v := ?_) 3 rfl (by kernel_rfl) (fun _ _ _ h => h) (by rfl) ?_ hS0 ?_
          rotate_left
          focus
            intro w9 hw9
            obtain ⟨a0, a1, _, _⟩ := box2 hw9.1
            obtain ⟨⟨f0, f1, f2⟩, _⟩ := box3 hw9.2
            go_simp
            try with_reducible rfl
          try simp only [Act.put, List.setIfInBounds_toArray, List.set_cons_zero, List.set_cons_succ]
          refine wpL_take (v := ?_) 4 rfl (by kernel_rfl) (fun _ _ _ h => h) (by rfl) ?_ hS0 ?_
          rotate_left
          focus
            intro w9 hw9
            obtain ⟨a0, a1, _, _⟩ := box2 hw9.1
            obtain ⟨⟨f0, f1, f2⟩, _⟩ := box3 hw9.2
            go_simp
            try with_reducible rfl
          try simp only [Act.put, List.setIfInBounds_toArray, List.set_cons_zero, List.set_cons_succ]
          refine wpL_take (v := ?_) 5 rfl (by kernel_rfl) (fun _ _ _ h => h) (by rfl) ?_ hS0 ?_
          rotate_left
          focus
            intro w9 hw9
            obtain ⟨a0, a1, _, _⟩ := box2 hw9.1
            obtain ⟨⟨f0, f1, f2⟩, _⟩ := box3 hw9.2
            go_simp
            try with_reducible rfl
          try simp only [Act.put, List.setIfInBounds_toArray, List.set_cons_zero, List.set_cons_succ]
          refine wpL_take (v := ?_) 6 rfl (by kernel_rfl) (fun _ _ _ h => h) (by rfl) ?_ hS0 ?_
          rotate_left
          focus
            intro w9 hw9
            obtain ⟨a0, a1, _, _⟩ := box2 hw9.1
            obtain ⟨⟨f0, f1, f2⟩, _⟩ := box3 hw9.2
            go_simp
            try with_reducible rfl
          try simp only [Act.put, List.setIfInBounds_toArray, List.set_cons_zero, List.set_cons_succ]
          refine wpL_take (v := ?_) 7 rfl (by kernel_rfl) (fun _ _ _ h => h) (by rfl) ?_ hS0 ?_
          rotate_left
          focus
            intro w9 hw9
            obtain ⟨a0, a1, _, _⟩ := box2 hw9.1
            obtain ⟨⟨f0, f1, f2⟩, _⟩ := box3 hw9.2
            go_simp
            try with_reducible rfl
          try simp only [Act.put, List.setIfInBounds_toArray, List.set_cons_zero, List.set_cons_succ]
          refine wpL_one 8 rfl (by kernel_rfl) (by rfl) ?_
          intro K hK
          go_simp
          refine CCA.out.mono ?_
          rintro e w5 ⟨⟨v5, rfl, ho5⟩, hb5⟩
          dsimp only
          obtain ⟨q5, c5, e5, _⟩ := ho5.sl
          rw [hxl] at e5
          subst e5
          have hS5 : Box w5 wC.heap.size #[.int .i64 tx, .slice pv Z.length cv] 36 ∧ Box w5 wr.heap.size #[.int .i64 xn, .bool xg, .slice q1 xl d1] 40 := ⟨hS0.1.on hb5, hS0.2.on hb5⟩
          have hO5 := hOd.kept hb5
          have hV5 : OwnV w5 (wC.heap.size + 1) (.slice q5 xl c5) W[j].row := ho5.base hsd
          have hn5 : Below wC.heap.size wC w5 := hnd.trans (hb5.mono hnd.size)
          have hs5 : wC.heap.size + 1 ≤ w5.heap.size := Nat.le_trans hsd hb5.size
          clear hb5 ho5 hOd hnd hS0 hsd CCA
          refine hK.out _ _ (fun _ => hS5) ?_
          clear hK K
          try simp only [Act.put, List.setIfInBounds_toArray, List.set_cons_zero, List.set_cons_succ]
          refine wpL_take (v := ?_) 9 rfl (by kernel_rfl) (fun _ _ _ h => h) (by rfl) ?_ hS5 ?_
          rotate_left
          focus
            intro w9 hw9
            go_simp
            try with_reducible rfl
          try simp only [Act.put, List.setIfInBounds_toArray, List.set_cons_zero, List.set_cons_succ]
          refine wpL_one 10 rfl (by kernel_rfl) (by rfl) ?_
          intro K hK
          go_simp
          have hba : Below w5.heap.size w5 (w5.alloc (.cells #[.int .i64 xn, .bool xg, .slice q5 xl c5] 40)) := (Below.refl _ _).alloc (Nat.le_refl _) _
          have hS7 : Box (w5.alloc (.cells #[.int .i64 xn, .bool xg, .slice q5 xl c5] 40)) wC.heap.size #[.int .i64 tx, .slice pv Z.length cv] 36 ∧ Box (w5.alloc (.cells #[.int .i64 xn, .bool xg, .slice q5 xl c5] 40)) wr.heap.size #[.int .i64 xn, .bool xg, .slice q1 xl d1] 40 := ⟨hS5.1.on hba, hS5.2.on hba⟩
          refine hK.out _ _ (fun _ => hS7) ?_
          clear hK K
          try simp only [Act.put, List.setIfInBounds_toArray, List.set_cons_zero, List.set_cons_succ]
          refine wpL_one 11 rfl (by kernel_rfl) (by rfl) ?_
          intro K hK
          refine wp_app8 _ (.tmp 79) (.tmp 88) 40 34 _ 3 40 rfl Try.underlying34 info_wri rfl (by decide) (wC.heap.size + 1) _ Z.length (Z.flatMap (rcell .i64)) (by rfl) (hO5.kept hba).1 [.int .i64 xn, .bool xg, .slice q5 xl c5] rfl (three_one rfl) w5.heap.size (by rfl) (cell_new8 w5 _ _) (by omega) (by omega) (Nat.le_trans hs5 hba.size) ?_
          intro v8 w8 h8 h9
          have HO8 : Hid (OwnRs .i64 40 w8 (wC.heap.size + 1) v8 (Z ++ [(W[j], .slice q5 xl c5)])) := hO5.app (z := (W[j], .slice q5 xl c5)) hV5 (by decide) (by rw [HCl.out]; exact h8) (by rw [HCl.out]; exact h9)
          have hb78 : Below (wC.heap.size + 1) (w5.alloc (.cells #[.int .i64 xn, .bool xg, .slice q5 xl c5] 40)) w8 := (Below.refl _ _).grown h9 (Nat.le_trans hs5 hba.size) (fun k hk => ((hO5.kept hba).1.lt k hk).1)
          have HB8 : Hid (Below wC.heap.size wC w8 ∧ wC.heap.size + 1 ≤ w8.heap.size) := ⟨(hn5.trans (hba.mono hn5.size)).trans (hb78.mono (by omega)), Nat.le_trans (Nat.le_trans hs5 hba.size) hb78.size⟩
          have hS8 : Box w8 wC.heap.size #[.int .i64 tx, .slice pv Z.length cv] 36 ∧ Box w8 wr.heap.size #[.int .i64 xn, .bool xg, .slice q1 xl d1] 40 := ⟨hS7.1.keep hb78 (by omega), BoxT.grown hS7.2 h9 (fun e => by have := HLt.out _ e; omega)⟩
          clear h8 h9 hb78
          obtain ⟨p8, c8, e8, _⟩ := owns_len HO8.out.1
          rw [show (Z ++ [(W[j], Value.slice q5 xl c5)]).length = Z.length + 1 by simp] at e8
          subst e8
          refine hK.out _ _ (fun _ => hS8) ?_
          clear hK K hba hS7 hS5
          try simp only [Act.put, List.setIfInBounds_toArray, List.set_cons_zero, List.set_cons_succ]
          refine wpL_take (v := ?_) 12 rfl (by kernel_rfl) (fun _ _ _ h => h) (by rfl) ?_ hS8 ?_
          rotate_left
          focus
            intro w9 hw9
            go_simp
            try with_reducible rfl
          try simp only [Act.put, List.setIfInBounds_toArray, List.set_cons_zero, List.set_cons_succ]
          refine wpL_one 13 rfl (by kernel_rfl) (by rfl) ?_
          intro K hK
          obtain ⟨z0, z1, z2, z3⟩ := box2 hS8.1
          go_simp
          refine hK.out _ _ (fun h => absurd rfl h) ?_
          clear hK K
          refine wpL_done (by kernel_rfl) ?_ _
          refine NoPanic.normal ?_
          have hZ := hS8.1.set (i := 1) (.slice p8 (Z.length + 1) c8)
          have hN := HO8.out.off (i := 1) (j := wC.heap.size) (.slice p8 (Z.length + 1) c8) (by omega)
          have hB := HB8.out.1.setCell (p := ⟨wC.heap.size, 1, none⟩) (Nat.le_refl _) (.slice p8 (Z.length + 1) c8)
          have HF : Hid (Box _ _ _ _ ∧ OwnRs _ _ _ _ _ _ ∧ Below _ _ _ ∧ wC.heap.size + 1 ≤ (w8.setCell ⟨wC.heap.size, 1, none⟩ (.slice p8 (Z.length + 1) c8)).heap.size) := ⟨hZ, hN, hB, by simpa using HB8.out.2⟩
          clear hZ hN hB z0 z1 z2 z3 hS8 HO8 HB8
          go_wp2_with fail
          go_roundw
          case rel => exact ⟨j + 1, Z ++ [(W[j], Value.slice q5 xl c5)], _, hj1, by go_num, HZ2.out _, HF.out.2.1, HF.out.1, HF.out.2.2.2, HF.out.2.2.1⟩
          case measure => simp [intOf]; omega
    · have hj1 : j < L.length := by omega
      have hZl : Z.length ≤ j := by
        have := congrArg List.length hZ.out
        rw [List.length_map] at this
        rw [this]
        simp
        omega
      obtain ⟨b, o, q1, d1, rfl, hbB0, c0, c1, c2, hr, hq⟩ := HRw.out j hj1
      have hbB : b < wr.heap.size := Nat.lt_of_lt_of_le hbB0 hB.size
      have c0 := (hB.cell (p := ⟨b, o + j * 3, none⟩) hbB0).trans c0
      have c1 := (hB.cell (p := ⟨b, o + j * 3 + 1, none⟩) hbB0).trans c1
      have c2 := (hB.cell (p := ⟨b, o + j * 3 + 2, none⟩) hbB0).trans c2
      have hr := hr.on hB
      have HNB : Hid (¬ wB.heap.size ≤ b) := fun h => by have := HBB.out.size; omega
      have CC : Hid (∀ w1 : World, Below wr.heap.size wr w1 → Calls Try.prog 17 #[.slice q1 L[j].row.length d1] w1 fun e w' => (∃ v', e = .returned v' ∧ OwnV w' w1.heap.size v' L[j].row) ∧ Below w1.heap.size w1 w') := fun w1 h => copied_any L[j].row _ w1 ((SlV.keep ⟨q1, d1, rfl, hr, hq⟩ h).mono h.size) (HSL.out j hj1)
      have HCl : Hid (∀ v, rcell .u64 (L[j], v) = [.int .u64 L[j].n, .bool L[j].gn, v]) := fun v => rfl
      have HZ2 : Hid (∀ v, (Z ++ [(L[j], v)]).map Prod.fst = L.take (j + 1)) := fun v => by
        rw [List.map_append, hZ.out, List.take_add_one, List.getElem?_eq_getElem hj1]
        rfl
      clear hr hq hj0 hB hZ
      generalize L[j].n = xn at *
      generalize L[j].gn = xg at *
      generalize hxl : L[j].row.length = xl at *
      obtain ⟨pv, cv, rfl, _⟩ := owns_len hO.out.1
      go_wp2_with fail
      refine wp_region_L (fun w' => w'.cell? ⟨b, o + j * 3, none⟩ = some (.int .u64 xn) ∧ w'.cell? ⟨b, o + j * 3 + 1, none⟩ = some (.bool xg) ∧ w'.cell? ⟨b, o + j * 3 + 2, none⟩ = some (.slice q1 xl d1)) 20 (by kernel_rfl) ?_
      have hS0 : wr.drew.cell? ⟨b, o + j * 3, none⟩ = some (.int .u64 xn) ∧ wr.drew.cell? ⟨b, o + j * 3 + 1, none⟩ = some (.bool xg) ∧ wr.drew.cell? ⟨b, o + j * 3 + 2, none⟩ = some (.slice q1 xl d1) := ⟨c0, c1, c2⟩
      have hOd : OwnRs .u64 31 wr.drew wB.heap.size (.slice pv Z.length cv) Z := hO.out
      have hnd : Below wB.heap.size wB wr.drew := hn.drew
      have hbd : b < wr.drew.heap.size := hbB
      have CC2 : Hid (Calls Try.prog 17 #[.slice q1 xl d1] wr.drew fun e w' => (∃ v', e = .returned v' ∧ OwnV w' wr.drew.heap.size v' L[j].row) ∧ Below wr.drew.heap.size wr.drew w') := CC.out _ (Below.refl _ _).drew
      clear hO c0 c1 c2 hn CC
      refine wpL_take (v := ?_) 0 rfl (by kernel_rfl) (fun _ _ _ h => h) (by rfl) ?_ hS0 ?_
      rotate_left
      focus
        intro w9 hw9
        obtain ⟨f0, f1, f2⟩ := hw9
        go_simp
        try with_reducible rfl
      try simp only [Act.put, List.setIfInBounds_toArray, List.set_cons_zero, List.set_cons_succ]
      refine wpL_take (v := ?_) 1 rfl (by kernel_rfl) (fun _ _ _ h => h) (by rfl) ?_ hS0 ?_
      rotate_left
      focus
        intro w9 hw9
        obtain ⟨f0, f1, f2⟩ := hw9
        go_simp
        try with_reducible rfl
      try simp only [Act.put, List.setIfInBounds_toArray, List.set_cons_zero, List.set_cons_succ]
      refine wpL_take (v := ?_) 2 rfl (by kernel_rfl) (fun _ _ _ h => h) (by rfl) ?_ hS0 ?_
      rotate_left
      focus
        intro w9 hw9
        obtain ⟨f0, f1, f2⟩ := hw9
        go_simp
        try with_reducible rfl
      try simp only [Act.put, List.setIfInBounds_toArray, List.set_cons_zero, List.set_cons_succ]
      refine wpL_take (v := ?_) 3 rfl (by kernel_rfl) (fun _ _ _ h => h) (by rfl) ?_ hS0 ?_
      rotate_left
      focus
        intro w9 hw9
        obtain ⟨f0, f1, f2⟩ := hw9
        go_simp
        try with_reducible rfl
      try simp only [Act.put, List.setIfInBounds_toArray, List.set_cons_zero, List.set_cons_succ]
      refine wpL_take (v := ?_) 4 rfl (by kernel_rfl) (fun _ _ _ h => h) (by rfl) ?_ hS0 ?_
      rotate_left
      focus
        intro w9 hw9
        obtain ⟨f0, f1, f2⟩ := hw9
        go_simp
        try with_reducible rfl
      try simp only [Act.put, List.setIfInBounds_toArray, List.set_cons_zero, List.set_cons_succ]
      refine wpL_take (v := ?_) 5 rfl (by kernel_rfl) (fun _ _ _ h => h) (by rfl) ?_ hS0 ?_
      rotate_left
      focus
        intro w9 hw9
        obtain ⟨f0, f1, f2⟩ := hw9
        go_simp
        try with_reducible rfl
      try simp only [Act.put, List.setIfInBounds_toArray, List.set_cons_zero, List.set_cons_succ]
      refine wpL_take (v := ?_) 6 rfl (by kernel_rfl) (fun _ _ _ h => h) (by rfl) ?_ hS0 ?_
      rotate_left
      focus
        intro w9 hw9
        obtain ⟨f0, f1, f2⟩ := hw9
        go_simp
        try with_reducible rfl
      try simp only [Act.put, List.setIfInBounds_toArray, List.set_cons_zero, List.set_cons_succ]
      refine wpL_take (v := ?_) 7 rfl (by kernel_rfl) (fun _ _ _ h => h) (by rfl) ?_ hS0 ?_
      rotate_left
      focus
        intro w9 hw9
        obtain ⟨f0, f1, f2⟩ := hw9
        go_simp
        try with_reducible rfl
      try simp only [Act.put, List.setIfInBounds_toArray, List.set_cons_zero, List.set_cons_succ]
      refine wpL_take (v := ?_) 8 rfl (by kernel_rfl) (fun _ _ _ h => h) (by rfl) ?_ hS0 ?_
      rotate_left
      focus
        intro w9 hw9
        obtain ⟨f0, f1, f2⟩ := hw9
        go_simp
        try with_reducible rfl
      try simp only [Act.put, List.setIfInBounds_toArray, List.set_cons_zero, List.set_cons_succ]
      refine wpL_take (v := ?_) 9 rfl (by kernel_rfl) (fun _ _ _ h => h) (by rfl) ?_ hS0 ?_
      rotate_left
      focus
        intro w9 hw9
        obtain ⟨f0, f1, f2⟩ := hw9
        go_simp
        try with_reducible rfl
      try simp only [Act.put, List.setIfInBounds_toArray, List.set_cons_zero, List.set_cons_succ]
      refine wpL_take (v := ?_) 10 rfl (by kernel_rfl) (fun _ _ _ h => h) (by rfl) ?_ hS0 ?_
      rotate_left
      focus
        intro w9 hw9
        obtain ⟨f0, f1, f2⟩ := hw9
        go_simp
        try with_reducible rfl
      try simp only [Act.put, List.setIfInBounds_toArray, List.set_cons_zero, List.set_cons_succ]
      refine wpL_take (v := ?_) 11 rfl (by kernel_rfl) (fun _ _ _ h => h) (by rfl) ?_ hS0 ?_
      rotate_left
      focus
        intro w9 hw9
        obtain ⟨f0, f1, f2⟩ := hw9
        go_simp
        try with_reducible rfl
      try simp only [Act.put, List.setIfInBounds_toArray, List.set_cons_zero, List.set_cons_succ]
      refine wpL_take (v := ?_) 12 rfl (by kernel_rfl) (fun _ _ _ h => h) (by rfl) ?_ hS0 ?_
      rotate_left
      focus
        intro w9 hw9
        obtain ⟨f0, f1, f2⟩ := hw9
        go_simp
        try with_reducible rfl
      try simp only [Act.put, List.setIfInBounds_toArray, List.set_cons_zero, List.set_cons_succ]
      refine wpL_take (v := ?_) 13 rfl (by kernel_rfl) (fun _ _ _ h => h) (by rfl) ?_ hS0 ?_
      rotate_left
      focus
        intro w9 hw9
        obtain ⟨f0, f1, f2⟩ := hw9
        go_simp
        try with_reducible rfl
      try simp only [Act.put, List.setIfInBounds_toArray, List.set_cons_zero, List.set_cons_succ]
      refine wpL_take (v := ?_) 14 rfl (by kernel_rfl) (fun _ _ _ h => h) (by rfl) ?_ hS0 ?_
      rotate_left
      focus
        intro w9 hw9
        obtain ⟨f0, f1, f2⟩ := hw9
        go_simp
        try with_reducible rfl
      try simp only [Act.put, List.setIfInBounds_toArray, List.set_cons_zero, List.set_cons_succ]
      refine wpL_take (v := ?_) 15 rfl (by kernel_rfl) (fun _ _ _ h => h) (by rfl) ?_ hS0 ?_
      rotate_left
      focus
        intro w9 hw9
        obtain ⟨f0, f1, f2⟩ := hw9
        go_simp
        try with_reducible rfl
      try simp only [Act.put, List.setIfInBounds_toArray, List.set_cons_zero, List.set_cons_succ]
      refine wpL_one 16 rfl (by kernel_rfl) (by rfl) ?_
      intro K hK
      go_simp
      refine CC2.out.mono ?_
      rintro e w5 ⟨⟨v5, rfl, ho5⟩, hb5⟩
      dsimp only
      obtain ⟨q5, c5, e5, _⟩ := ho5.sl
      rw [hxl] at e5
      subst e5
      have kp : ∀ {k : Nat} {u : Option Value}, wr.drew.cell? ⟨b, k, none⟩ = u → w5.cell? ⟨b, k, none⟩ = u := fun {k u} h => (hb5.cell (p := ⟨b, k, none⟩) hbd).trans h
      have hS5 : w5.cell? ⟨b, o + j * 3, none⟩ = some (.int .u64 xn) ∧ w5.cell? ⟨b, o + j * 3 + 1, none⟩ = some (.bool xg) ∧ w5.cell? ⟨b, o + j * 3 + 2, none⟩ = some (.slice q1 xl d1) := ⟨kp hS0.1, kp hS0.2.1, kp hS0.2.2⟩
      have hO5 := hOd.kept hb5
      have hV5 : OwnV w5 wB.heap.size (.slice q5 xl c5) L[j].row := ho5.base hnd.size
      have hn5 : Below wB.heap.size wB w5 := hnd.trans (hb5.mono hnd.size)
      have hbd5 : b < w5.heap.size := Nat.lt_of_lt_of_le hbd hb5.size
      clear kp hb5 ho5 hOd hnd hbd hS0
      refine hK.out _ _ (fun _ => hS5) ?_
      clear hK K
      try simp only [Act.put, List.setIfInBounds_toArray, List.set_cons_zero, List.set_cons_succ]
      refine wpL_take (v := ?_) 17 rfl (by kernel_rfl) (fun _ _ _ h => h) (by rfl) ?_ hS5 ?_
      rotate_left
      focus
        intro w9 hw9
        go_simp
        try with_reducible rfl
      try simp only [Act.put, List.setIfInBounds_toArray, List.set_cons_zero, List.set_cons_succ]
      refine wpL_one 18 rfl (by kernel_rfl) (by rfl) ?_
      intro K hK
      go_simp
      have hba : Below w5.heap.size w5 (w5.alloc (.cells #[.int .u64 xn, .bool xg, .slice q5 xl c5] 31)) := (Below.refl _ _).alloc (Nat.le_refl _) _
      have kp : ∀ {k : Nat} {u : Option Value}, w5.cell? ⟨b, k, none⟩ = u → (w5.alloc (.cells #[.int .u64 xn, .bool xg, .slice q5 xl c5] 31)).cell? ⟨b, k, none⟩ = u := fun {k u} h => (hba.cell (p := ⟨b, k, none⟩) hbd5).trans h
      have hS7 : (w5.alloc (.cells #[.int .u64 xn, .bool xg, .slice q5 xl c5] 31)).cell? ⟨b, o + j * 3, none⟩ = some (.int .u64 xn) ∧ (w5.alloc (.cells #[.int .u64 xn, .bool xg, .slice q5 xl c5] 31)).cell? ⟨b, o + j * 3 + 1, none⟩ = some (.bool xg) ∧ (w5.alloc (.cells #[.int .u64 xn, .bool xg, .slice q5 xl c5] 31)).cell? ⟨b, o + j * 3 + 2, none⟩ = some (.slice q1 xl d1) := ⟨kp hS5.1, kp hS5.2.1, kp hS5.2.2⟩
      refine hK.out _ _ (fun _ => hS7) ?_
      clear hK K kp
      try simp only [Act.put, List.setIfInBounds_toArray, List.set_cons_zero, List.set_cons_succ]
      refine wpL_one 19 rfl (by kernel_rfl) (by rfl) ?_
      intro K hK
      refine wp_app8 _ (.tmp 40) (.tmp 58) 31 22 _ 3 40 rfl Try.underlying22 info_ver rfl (by decide) wB.heap.size _ Z.length (Z.flatMap (rcell .u64)) (by rfl) (hO5.kept hba).1 [.int .u64 xn, .bool xg, .slice q5 xl c5] rfl (three_one rfl) w5.heap.size (by rfl) (cell_new8 w5 _ _) (by omega) (by omega) (Nat.le_trans hn5.size hba.size) ?_
      intro v8 w8 h8 h9
      have HO8 : Hid (OwnRs .u64 31 w8 wB.heap.size v8 (Z ++ [(L[j], .slice q5 xl c5)])) := hO5.app (z := (L[j], .slice q5 xl c5)) hV5 (by decide) (by rw [HCl.out]; exact h8) (by rw [HCl.out]; exact h9)
      have hb78 : Below wB.heap.size (w5.alloc (.cells #[.int .u64 xn, .bool xg, .slice q5 xl c5] 31)) w8 := (Below.refl _ _).grown h9 (Nat.le_trans hn5.size hba.size) (fun k hk => ((hO5.kept hba).1.lt k hk).1)
      have HB8 : Hid (Below wB.heap.size wB w8) := (hn5.trans (hba.mono hn5.size)).trans hb78
      have hne8 : ((Value.slice pv Z.length cv).ownBlock) ≠ some b := fun he => by
        rcases hO5.1.2 with ⟨h1, _⟩ | ⟨g1, cap1, cur1, h1, _, hg1, _⟩
        · rw [h1] at he; simp [Value.ownBlock] at he
        · exact HNB.out (by
            rw [h1] at he
            simp only [Value.ownBlock, Option.some.injEq] at he
            subst he
            exact (hO5.1.lt g1 (by rw [h1]; rfl)).1)
      have kp : ∀ {k : Nat} {u : Option Value}, (w5.alloc (.cells #[.int .u64 xn, .bool xg, .slice q5 xl c5] 31)).cell? ⟨b, k, none⟩ = u → w8.cell? ⟨b, k, none⟩ = u := fun {k u} h => (World.cell?_of_block (h9.block b (Nat.lt_of_lt_of_le hbd5 hba.size) (fun e => hne8 e.symm))).trans h
      have hS8 : w8.cell? ⟨b, o + j * 3, none⟩ = some (.int .u64 xn) ∧ w8.cell? ⟨b, o + j * 3 + 1, none⟩ = some (.bool xg) ∧ w8.cell? ⟨b, o + j * 3 + 2, none⟩ = some (.slice q1 xl d1) := ⟨kp hS7.1, kp hS7.2.1, kp hS7.2.2⟩
      clear h8 h9 hb78 kp hne8
      obtain ⟨p8, c8, e8, _⟩ := owns_len HO8.out.1
      rw [show (Z ++ [(L[j], Value.slice q5 xl c5)]).length = Z.length + 1 by simp] at e8
      subst e8
      refine hK.out _ _ (fun _ => hS8) ?_
      clear hK K hba hS7 hS5
      try simp only [Act.put, List.setIfInBounds_toArray, List.set_cons_zero, List.set_cons_succ]
      refine wpL_one 20 rfl (by kernel_rfl) (by rfl) ?_
      intro K hK
      go_simp
      refine hK.out _ _ (fun h => absurd rfl h) ?_
      clear hK K
      refine wpL_done (by kernel_rfl) ?_ _
      refine NoPanic.normal ?_
      go_wp2_with fail
      go_roundw
      case rel => exact ⟨j + 1, Z ++ [(L[j], Value.slice q5 xl c5)], hj1, by go_num, HZ2.out _, HO8, HB8.out⟩
      case measure => simp [intOf]; omega
end Go.Proofs.Yteddpogjpohacab
