/- The walks of See, on both sides. -/
import Derived.Test.YteddpogjpohacabWPrn8
namespace Go.Proofs.Yteddpogjpohacab
open Go.RowKit
set_option maxRecDepth 100000

/-- which entry is seen, and what is told of it -/
def seeR (L W : List Rw) (tx txn s : Int) : Option Rw := if 0 < txn ∧ txn = tx ∧ 0 < W.length then W[W.length - 1]? else L[atN L s]?
def shwB : Option Rw → Bool
  | none => false
  | some r => !r.gn
def shwL : Option Rw → List Vl
  | none => []
  | some r => if r.gn then [] else r.row
def goneOk (W : List Rw) : Prop := ∀ i (hi : i < W.length), W[i].gn = true → W[i].row = []

set_option maxHeartbeats 2000000 in
theorem present_any (g : Bool) (L : List Vl) (v : Value) (w : World) (hR : SlV w w.heap.size v L) (hlen : L.length ≤ 3518437208780) :
    Calls Try.prog 27 #[.bool g, v] w fun e w' => (∃ v', e = .returned (.tuple #[v', .bool (!g)]) ∧ OwnV w' w.heap.size v' (if g then [] else L)) ∧ Below w.heap.size w w' := by
  have C1 : Hid (Calls _ _ _ _ _) := ownRow_any L v w hR hlen
  clear hR
  cases g
  · go_enter Try.func27, Try.ntmps27
    go_wp2_with fail
    refine C1.out.mono ?_
    rintro e w1 ⟨⟨v', rfl, ho⟩, hb1⟩
    go_wp2_with fail
    go_ret2
    exact ⟨⟨_, rfl, ho⟩, hb1⟩
  · go_enter Try.func27, Try.ntmps27
    go_wp2_with fail
    go_ret2
    exact ⟨⟨_, rfl, OwnV.nil _ _⟩, Below.refl _ _⟩

theorem at_neg {L : List Rw} {s : Int} (h : ¬ atN L s < L.length) : atI L s = -1 ∧ L[atN L s]? = none := ⟨if_neg h, List.getElem?_eq_none (by omega)⟩
theorem at_pos {L : List Rw} {s : Int} (h : atN L s < L.length) : atI L s = (atN L s : Int) ∧ L[atN L s]? = some L[atN L s] := ⟨if_pos h, List.getElem?_eq_getElem h⟩

set_option maxHeartbeats 4000000 in
theorem see_any (L W : List Rw) (p pi : Option Addr) (c ci : Nat) (tx txn s : Int) (w : World) (hR : RdR .u64 w w.heap.size p L) (hW : RdR .i64 w w.heap.size pi W) (hlen : L.length ≤ 3518437208780) (hlenW : W.length ≤ 3518437208780) (hsh : shortR L) (hsW : shortR W) :
    Calls Try.prog 14 #[.slice p L.length c, .agg #[.int .i64 tx, .slice pi W.length ci], .int .i64 txn, .int .u64 s] w fun e w' => (∃ v', e = .returned (.tuple #[v', .bool (shwB (seeR L W tx txn s))]) ∧ OwnV w' w.heap.size v' (shwL (seeR L W tx txn s))) ∧ Below w.heap.size w w' := by
  have HR : Hid (∀ w1, Below w.heap.size w w1 → RdR .u64 w1 w1.heap.size p L) := fun w1 h => hR.on h
  have HW : Hid (∀ w1, Below w.heap.size w w1 → RdR .i64 w1 w1.heap.size pi W) := fun w1 h => hW.on h
  have HS : Hid (shortR L ∧ shortR W) := ⟨hsh, hsW⟩
  have HA : Hid (∀ w1, Below w.heap.size w w1 → Calls Try.prog 9 #[.slice p L.length c, .int .u64 s] w1 fun e w' => e = .returned (.int .i64 (atI L s)) ∧ Below w1.heap.size w1 w') := fun w1 h => at_any L p c s w1 (HR.out w1 h) (by omega)
  clear hR hW hsh hsW
  by_cases hc : 0 < txn ∧ txn = tx ∧ 0 < W.length
  · have e1 : seeR L W tx txn s = W[W.length - 1]? := if_pos hc
    rw [e1, List.getElem?_eq_getElem (by omega)]
    obtain ⟨h1, rfl, h3⟩ := hc
    clear e1 HR HA
    obtain ⟨m, hm⟩ : ∃ m, W.length = m + 1 := ⟨W.length - 1, by omega⟩
    obtain ⟨b, o, q, d, hpi, hbB, c0, c1, c2, hr, hq⟩ := HW.out w (Below.refl _ _) m (by omega)
    have HSl : Hid (SlV w w.heap.size (.slice q W[m].row.length d) W[m].row ∧ W[m].row.length ≤ 3518437208780) := ⟨⟨q, d, rfl, hr, hq⟩, HS.out.2 m (by omega)⟩
    have HC : Hid (∀ w1 : World, Below w.heap.size w w1 → Calls Try.prog 27 #[.bool W[m].gn, .slice q W[m].row.length d] w1 fun e w' => (∃ v', e = .returned (.tuple #[v', .bool (!W[m].gn)]) ∧ OwnV w' w1.heap.size v' (if W[m].gn then [] else W[m].row)) ∧ Below w1.heap.size w1 w') := fun w1 h => present_any _ _ _ w1 ((HSl.out.1.keep h).mono h.size) HSl.out.2
    clear HSl
    have e2 : W[W.length - 1] = W[m] := by congr 1; omega
    rw [e2]
    have HF : Hid (shwB (some W[m]) = !W[m].gn ∧ shwL (some W[m]) = if W[m].gn then [] else W[m].row) := ⟨rfl, rfl⟩
    generalize shwB (some W[m]) = rb at *
    generalize shwL (some W[m]) = rl at *
    clear e2 HW hr hq
    rw [hm, hpi]
    clear hpi
    generalize W[m].n = xn at *
    generalize W[m].gn = xg at *
    generalize W[m].row.length = xl at *
    go_enter Try.func14, Try.ntmps14
    go_wp2_with fail
    have hb1 : Below w.heap.size w ((w.alloc (.cells #[.int .i64 txn, .slice (some ⟨b, o, none⟩) (m + 1) ci] 36)).alloc (.cells #[.int .i64 xn, .bool xg, .slice q xl d] 40)) := by go_grown
    refine (HC.out _ hb1).mono ?_
    rintro e w3 ⟨⟨v', rfl, ho⟩, hb3⟩
    have HB3 : Hid (Below w.heap.size w w3) := hb1.trans (hb3.mono hb1.size)
    have HO : Hid (OwnV w3 w.heap.size v' rl) := by
      show OwnV _ _ _ _
      rw [HF.out.2]
      exact ho.base hb1.size
    have HF1 : Hid (rb = !xg) := HF.out.1
    clear hb1 hb3 ho HF
    go_wp2_with fail
    go_ret2
    exact ⟨⟨v', by rw [HF1.out]; rfl, HO.out⟩, HB3.out⟩
  · have e1 : seeR L W tx txn s = L[atN L s]? := if_neg hc
    rw [e1]
    have hcs : txn ≤ 0 ∨ (0 < txn ∧ (txn == tx) = false) ∨ (0 < txn ∧ txn = tx ∧ W.length = 0) := by
      by_cases h1 : 0 < txn
      · by_cases h2 : txn = tx
        · exact Or.inr (Or.inr ⟨h1, h2, by omega⟩)
        · exact Or.inr (Or.inl ⟨h1, beq_eq_false_iff_ne.2 h2⟩)
      · exact Or.inl (by omega)
    clear hc e1 HW
    by_cases hat : atN L s < L.length
    · obtain ⟨e2, e3⟩ := at_pos hat
      rw [e3]
      rw [e2] at HA
      obtain ⟨b, o, q, d, hp, hbB, c0, c1, c2, hr, hq⟩ := HR.out w (Below.refl _ _) _ hat
      have HSl : Hid (SlV w w.heap.size (.slice q L[atN L s].row.length d) L[atN L s].row ∧ L[atN L s].row.length ≤ 3518437208780) := ⟨⟨q, d, rfl, hr, hq⟩, HS.out.1 _ hat⟩
      have HC : Hid (∀ w1 : World, Below w.heap.size w w1 → Calls Try.prog 27 #[.bool L[atN L s].gn, .slice q L[atN L s].row.length d] w1 fun e w' => (∃ v', e = .returned (.tuple #[v', .bool (!L[atN L s].gn)]) ∧ OwnV w' w1.heap.size v' (if L[atN L s].gn then [] else L[atN L s].row)) ∧ Below w1.heap.size w1 w') := fun w1 h => present_any _ _ _ w1 ((HSl.out.1.keep h).mono h.size) HSl.out.2
      clear HSl
      have HF : Hid (shwB (some L[atN L s]) = !L[atN L s].gn ∧ shwL (some L[atN L s]) = if L[atN L s].gn then [] else L[atN L s].row) := ⟨rfl, rfl⟩
      generalize shwB (some L[atN L s]) = rb at *
      generalize shwL (some L[atN L s]) = rl at *
      clear e2 e3 HR hr hq
      subst hp
      generalize L[atN L s].n = xn at *
      generalize L[atN L s].gn = xg at *
      generalize L[atN L s].row.length = xl at *
      generalize atN L s = m at *
      rcases hcs with h1 | ⟨h1, h2⟩ | ⟨h1, rfl, h3⟩
      all_goals
        try rw [h3]
        go_enter Try.func14, Try.ntmps14
        go_wp2_with fail
        refine (HA.out _ (by go_grown)).mono ?_
        rintro e w2 ⟨rfl, hb2⟩
        have hB2 : Below w.heap.size w w2 := (show Below w.heap.size w _ by go_grown).trans (hb2.mono (by simp))
        have a0 := (hB2.cell (p := ⟨b, o + m * 3, none⟩) hbB).trans c0
        have a1 := (hB2.cell (p := ⟨b, o + m * 3 + 1, none⟩) hbB).trans c1
        have a2 := (hB2.cell (p := ⟨b, o + m * 3 + 2, none⟩) hbB).trans c2
        have HB2 : Hid (Below w.heap.size w w2.drew) := hB2.drew
        have CP : Hid (Calls Try.prog 27 #[.bool xg, .slice q xl d] w2.drew fun e w' => (∃ v', e = .returned (.tuple #[v', .bool (!xg)]) ∧ OwnV w' w2.drew.heap.size v' (if xg then [] else L[m].row)) ∧ Below w2.drew.heap.size w2.drew w') := HC.out _ HB2.out
        clear hb2 c0 c1 c2 hB2
        go_wp2_with fail
        go_region_with (first | (go_at_call 27; refine CP.out.mono ?_; rintro e w3 ⟨⟨v', rfl, ho⟩, hb3⟩))
        all_goals (try go_wp2)
        all_goals go_ret2
        all_goals exact ⟨⟨v', by rw [HF.out.1]; rfl, by rw [HF.out.2]; exact ho.base HB2.out.size⟩, HB2.out.trans (hb3.mono HB2.out.size)⟩
    · obtain ⟨e2, e3⟩ := at_neg hat
      rw [e3]
      rw [e2] at HA
      clear e2 e3 HR
      rcases hcs with h1 | ⟨h1, h2⟩ | ⟨h1, rfl, h3⟩
      all_goals
        try rw [h3]
        go_enter Try.func14, Try.ntmps14
        go_wp2_with fail
        refine (HA.out _ (by go_grown)).mono ?_
        rintro e w2 ⟨rfl, hb2⟩
        have HB2 : Hid (Below w.heap.size w w2) := (show Below w.heap.size w _ by go_grown).trans (hb2.mono (by simp))
        clear hb2
        go_wp2_with fail
        go_ret2
        exact ⟨⟨_, rfl, OwnV.nil _ _⟩, HB2.out⟩
end Go.Proofs.Yteddpogjpohacab
