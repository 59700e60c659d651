/- ChainSees: the law's walk. -/
import Derived.Test.YteddpogjpohacaaWAwk8
import Derived.Test.YteddpogjpohacaaWMay8
import Derived.Test.YteddpogjpohacaaWMyI8
import Derived.Test.YteddpogjpohacaaWSeR8
namespace Go.Proofs.Yteddpogjpohacaa
open Go.RowKit
set_option maxRecDepth 100000

theorem mayI_gone {tx : Int} {W : List Rw} (h : mayI tx W = true) : goneOk W := by
  intro i hi hg
  unfold mayI at h
  rw [Bool.and_eq_true] at h
  have h1 := mayW_at h.2 hi
  unfold okWt at h1
  rw [List.getElem?_eq_getElem hi] at h1
  simp only [Bool.and_eq_true, Bool.not_eq_true', hg, Bool.true_and, decide_eq_false_iff_not] at h1
  exact List.eq_nil_of_length_eq_zero (by omega)
theorem shwL_short {L W : List Rw} {tx txn s : Int} (h1 : shortR L) (h2 : shortR W) : (shwL (seeR L W tx txn s)).length ≤ 17592186043904 := by
  have key : ∀ (M : List Rw) (j : Nat), shortR M → (shwL M[j]?).length ≤ 17592186043904 := by
    intro M j hM
    by_cases hj : j < M.length
    · rw [List.getElem?_eq_getElem hj]
      have := hM j hj
      simp only [shwL]
      split
      · simp
      · omega
    · rw [List.getElem?_eq_none (by omega)]
      simp [shwL]
  unfold seeR
  split
  · exact key _ _ h2
  · exact key _ _ h1

set_option maxHeartbeats 4000000 in
theorem lawSees (L W : List Rw) (p pi : Option Addr) (c ci : Nat) (tx txn s : Int) (w : World) (hR : RdR .u64 w w.heap.size p L) (hW : RdR .i64 w w.heap.size pi W) (hlen : L.length ≤ 3518437208780) (hlenW : W.length ≤ 3518437208780) (hsh : shortR L) (hsW : shortR W) :
    Calls Try.prog 7 #[.slice p L.length c, .agg #[.int .i64 tx, .slice pi W.length ci], .agg #[.int .i64 txn, .int .u64 s]] w fun e w' => e = .returned (.bool true) ∧ Below w.heap.size w w' := by
  have HR : Hid (∀ w1, Below w.heap.size w w1 → RdR .u64 w1 w1.heap.size p L) := fun w1 h => hR.on h
  have HW : Hid (∀ w1, Below w.heap.size w w1 → RdR .i64 w1 w1.heap.size pi W) := fun w1 h => hW.on h
  have HSh : Hid ((shwL (seeR L W tx txn s)).length ≤ 17592186043904) := shwL_short hsh hsW
  have CA : Hid (∀ w1 : World, Calls Try.prog 12 #[] w1 fun e w' => e = .returned (.bool true) ∧ Below w1.heap.size w1 w') := awake_any
  have C1 : Hid (∀ w1, Below w.heap.size w w1 → Calls Try.prog 11 #[.slice p L.length c] w1 fun e w' => e = .returned (.bool (mayL L)) ∧ Below w1.heap.size w1 w') := fun w1 h => may_any L p c w1 (HR.out w1 h) (by omega)
  have C2 : Hid (∀ w1, Below w.heap.size w w1 → Calls Try.prog 24 #[.agg #[.int .i64 tx, .slice pi W.length ci]] w1 fun e w' => e = .returned (.bool (mayI tx W)) ∧ Below w1.heap.size w1 w') := fun w1 h => mayI_any W pi ci tx w1 (HW.out w1 h) hlenW
  have C3 : Hid (∀ w1, Below w.heap.size w w1 → Calls Try.prog 32 #[.slice p L.length c, .agg #[.int .i64 tx, .slice pi W.length ci], .int .i64 txn, .int .u64 s] w1 fun e w' => (∃ v', e = .returned (.tuple #[v', .bool (shwB (seeR L W tx txn s))]) ∧ OwnV w' w1.heap.size v' (shwL (seeR L W tx txn s))) ∧ Below w1.heap.size w1 w') := fun w1 h => see_any L W p pi c ci tx txn s w1 (HR.out w1 h) (HW.out w1 h) hlen hlenW hsh hsW
  have C4 : Hid (mayI tx W = true → ∀ w1, Below w.heap.size w w1 → Calls Try.prog 33 #[.slice p L.length c, .agg #[.int .i64 tx, .slice pi W.length ci], .int .i64 txn, .int .u64 s] w1 fun e w' => (∃ v', e = .returned (.tuple #[v', .bool (shwB (seeR L W tx txn s))]) ∧ SlV w' w'.heap.size v' (shwL (seeR L W tx txn s))) ∧ Below w1.heap.size w1 w') := fun hm w1 h => rsee_any L W p pi c ci tx txn s w1 (HR.out w1 h) (HW.out w1 h) hlen hlenW (mayI_gone hm)
  clear hR hW hsh hsW HR HW
  generalize shwB (seeR L W tx txn s) = rb at *
  generalize shwL (seeR L W tx txn s) = rl at *
  generalize mayL L = m1 at *
  generalize mayI tx W = m2 at *
  have hx1 := (Box.new w #[.int .i64 tx, .slice pi W.length ci] 46).on ((Below.refl _ _).alloc (Nat.le_refl _) (.cells #[.int .i64 txn, .int .u64 s] 59))
  have hx2 := Box.new (w.alloc (.cells #[.int .i64 tx, .slice pi W.length ci] 46)) #[.int .i64 txn, .int .u64 s] 59
  have hs1 : (w.alloc (.cells #[.int .i64 tx, .slice pi W.length ci] 46)).heap.size = w.heap.size + 1 := by simp [go_sem]
  rw [hs1] at hx2
  have HB0 : Hid (Below w.heap.size w ((w.alloc (.cells #[.int .i64 tx, .slice pi W.length ci] 46)).alloc (.cells #[.int .i64 txn, .int .u64 s] 59))) := by
    show Below _ _ _
    go_grown
  have HX : Hid (Box _ w.heap.size _ _ ∧ Box _ (w.heap.size + 1) _ _) := ⟨hx1, hx2⟩
  clear hs1 hx1 hx2
  go_enter Try.func7, Try.ntmps7
  go_wp2_with fail
  generalize (w.alloc (.cells #[.int .i64 tx, .slice pi W.length ci] 46)).alloc (.cells #[.int .i64 txn, .int .u64 s] 59) = w0 at *
  refine (C1.out _ HB0.out).mono ?_
  rintro e w1 ⟨rfl, hb1⟩
  have HB1 : Hid (Below w.heap.size w w1) := HB0.out.trans (hb1.mono HB0.out.size)
  have HX1 : Hid (Box w1 w.heap.size _ _ ∧ Box w1 (w.heap.size + 1) _ _) := ⟨HX.out.1.on hb1, HX.out.2.on hb1⟩
  clear hb1 HB0 HX C1
  cases m1
  · go_wp2_with fail
    refine (CA.out _).mono ?_
    rintro e w2 ⟨rfl, hb2⟩
    have HB2 : Hid (Below w.heap.size w w2) := HB1.out.trans (hb2.mono HB1.out.size)
    clear hb2
    go_wp2_with fail
    go_ret
    exact ⟨rfl, HB2.out⟩
  obtain ⟨x0, x1, _⟩ := box2 HX1.out.1
  go_wp2_with fail
  refine (C2.out _ HB1.out).mono ?_
  rintro e w2 ⟨rfl, hb2⟩
  have HB2 : Hid (Below w.heap.size w w2) := HB1.out.trans (hb2.mono HB1.out.size)
  have HX2 : Hid (Box w2 w.heap.size _ _ ∧ Box w2 (w.heap.size + 1) _ _) := ⟨HX1.out.1.on hb2, HX1.out.2.on hb2⟩
  clear hb2 HB1 HX1 C2 x0 x1
  cases m2
  · go_wp2_with fail
    refine (CA.out _).mono ?_
    rintro e w3 ⟨rfl, hb3⟩
    have HB3 : Hid (Below w.heap.size w w3) := HB2.out.trans (hb3.mono HB2.out.size)
    clear hb3
    go_wp2_with fail
    go_ret
    exact ⟨rfl, HB3.out⟩
  obtain ⟨x0, x1, _⟩ := box2 HX2.out.1
  obtain ⟨y0, y1, _⟩ := box2 HX2.out.2
  go_wp2_with fail
  refine (C3.out _ HB2.out).mono ?_
  rintro e w3 ⟨⟨v3, rfl, ho3⟩, hb3⟩
  obtain ⟨q3, c3, rfl, hr3, _⟩ := ho3.sl
  have HB3 : Hid (Below w.heap.size w w3) := HB2.out.trans (hb3.mono HB2.out.size)
  have HX3 : Hid (Box w3 w.heap.size _ _ ∧ Box w3 (w.heap.size + 1) _ _) := ⟨HX2.out.1.on hb3, HX2.out.2.on hb3⟩
  have HR3 : Hid (RowV w3 w3.heap.size q3 rl) := hr3
  clear hb3 HB2 HX2 C3 x0 x1 y0 y1 ho3 hr3
  obtain ⟨x0, x1, _⟩ := box2 HX3.out.1
  obtain ⟨y0, y1, _⟩ := box2 HX3.out.2
  go_wp2_with fail
  refine (C4.out (by simp) _ HB3.out).mono ?_
  rintro e w4 ⟨⟨v4, rfl, ho4⟩, hb4⟩
  obtain ⟨q4, c4, rfl, hr4, _⟩ := ho4
  have HB4 : Hid (Below w.heap.size w w4) := HB3.out.trans (hb4.mono HB3.out.size)
  have CS : Hid (Calls _ _ _ _ _) := sameRow_eq rl q3 q4 c3 c4 w4 (HR3.out.on hb4) hr4 HSh.out
  clear hb4 HB3 HX3 C4 x0 x1 y0 y1 hr4 HR3
  go_wp2_with fail
  refine CS.out.mono ?_
  rintro e w5 ⟨rfl, hb5⟩
  have HB5 : Hid (Below w.heap.size w w5) := HB4.out.trans (hb5.mono HB4.out.size)
  clear hb5 HB4 CS
  go_wp2_with fail
  refine (CA.out _).mono ?_
  rintro e w6 ⟨rfl, hb6⟩
  have HB6 : Hid (Below w.heap.size w w6) := HB5.out.trans (hb6.mono HB5.out.size)
  clear hb6 HB5
  go_wp2_with fail
  go_ret
  exact ⟨rfl, HB6.out⟩
end Go.Proofs.Yteddpogjpohacaa
