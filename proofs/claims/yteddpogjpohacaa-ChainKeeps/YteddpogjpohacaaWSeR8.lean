/- The walk of the document's See. -/
import Derived.Test.YteddpogjpohacaaWSee8
namespace Go.Proofs.Yteddpogjpohacaa
open Go.RowKit
set_option maxRecDepth 100000

set_option maxHeartbeats 4000000 in
theorem rsee_any (L W : List Rw) (p pi : Option Addr) (c ci : Nat) (tx txn s : Int) (w : World) (hR : RdR .u64 w w.heap.size p L) (hW : RdR .i64 w w.heap.size pi W) (hlen : L.length ≤ 3518437208780) (hlenW : W.length ≤ 3518437208780) (hgo : goneOk W) :
    Calls Try.prog 33 #[.slice p L.length c, .agg #[.int .i64 tx, .slice pi W.length ci], .int .i64 txn, .int .u64 s] w fun e w' => (∃ v', e = .returned (.tuple #[v', .bool (shwB (seeR L W tx txn s))]) ∧ SlV w' w'.heap.size v' (shwL (seeR L W tx txn s))) ∧ Below w.heap.size w w' := by
  have HR : Hid (∀ w1, Below w.heap.size w w1 → RdR .u64 w1 w1.heap.size p L) := fun w1 h => hR.on h
  have HW : Hid (∀ w1, Below w.heap.size w w1 → RdR .i64 w1 w1.heap.size pi W) := fun w1 h => hW.on h
  have HG : Hid (goneOk W) := hgo
  have HA : Hid (∀ w1, Below w.heap.size w w1 → Calls Try.prog 16 #[.slice p L.length c, .int .u64 s] w1 fun e w' => e = .returned (.int .i64 (atI L s)) ∧ Below w1.heap.size w1 w') := fun w1 h => rat_any L p c s w1 (HR.out w1 h) (by omega)
  clear hR hW hgo
  by_cases hc : 0 < txn ∧ txn = tx ∧ 0 < W.length
  · have e1 : seeR L W tx txn s = W[W.length - 1]? := if_pos hc
    rw [e1, List.getElem?_eq_getElem (by omega)]
    obtain ⟨h1, rfl, h3⟩ := hc
    clear e1 HR HA
    obtain ⟨m, hm⟩ : ∃ m, W.length = m + 1 := ⟨W.length - 1, by omega⟩
    obtain ⟨b, o, q, d, hpi, hbB, c0, c1, c2, hr, hq⟩ := HW.out w (Below.refl _ _) m (by omega)
    have HC : Hid (∀ w1 : World, Below w.heap.size w w1 → SlV w1 w1.heap.size (.slice q W[m].row.length d) (if W[m].gn then [] else W[m].row)) := fun w1 h => by
      cases hg : W[m].gn with
      | false => exact ⟨q, d, rfl, hr.on h, hq⟩
      | true =>
        have h5 := HG.out m (by omega) hg
        rw [h5] at hr ⊢
        exact ⟨q, d, rfl, hr.on h, hq⟩
    have e2 : W[W.length - 1] = W[m] := by congr 1; omega
    rw [e2]
    have HF : Hid (shwB (some W[m]) = !W[m].gn ∧ shwL (some W[m]) = if W[m].gn then [] else W[m].row) := ⟨rfl, rfl⟩
    generalize shwB (some W[m]) = rb at *
    generalize shwL (some W[m]) = rl at *
    clear e2 HW hr hq HG
    rw [hm, hpi]
    clear hpi
    generalize W[m].n = xn at *
    generalize W[m].gn = xg at *
    generalize W[m].row.length = xl at *
    go_enter Try.func33, Try.ntmps33
    go_wp2_with fail
    go_quiet (fail)
    go_wp2_with fail
    go_ret2
    have hb1 : Below w.heap.size w (((w.alloc (.cells #[.int .i64 txn, .slice (some ⟨b, o, none⟩) (m + 1) ci] 46))).drewN nq) := below_drewN (by go_grown) _
    exact ⟨⟨_, by rw [HF.out.1]; rfl, by rw [HF.out.2]; exact HC.out _ hb1⟩, hb1⟩
  · have e1 : seeR L W tx txn s = L[atN L s]? := if_neg hc
    rw [e1]
    have hcs : txn ≤ 0 ∨ (0 < txn ∧ (tx == txn) = false) ∨ (0 < txn ∧ txn = tx ∧ W.length = 0) := by
      by_cases h1 : 0 < txn
      · by_cases h2 : txn = tx
        · exact Or.inr (Or.inr ⟨h1, h2, by omega⟩)
        · exact Or.inr (Or.inl ⟨h1, beq_eq_false_iff_ne.2 (fun h => h2 h.symm)⟩)
      · exact Or.inl (by omega)
    clear hc e1 HW HG
    by_cases hat : atN L s < L.length
    · obtain ⟨e2, e3⟩ := at_pos hat
      rw [e3]
      rw [e2] at HA
      obtain ⟨b, o, q, d, hp, hbB, c0, c1, c2, hr, hq⟩ := HR.out w (Below.refl _ _) _ hat
      have HC : Hid (∀ w1 : World, Below w.heap.size w w1 → SlV w1 w1.heap.size (.slice q L[atN L s].row.length d) L[atN L s].row) := fun w1 h => ⟨q, d, rfl, hr.on h, hq⟩
      have HF : Hid (shwB (some L[atN L s]) = !L[atN L s].gn ∧ shwL (some L[atN L s]) = if L[atN L s].gn then [] else L[atN L s].row) := ⟨rfl, rfl⟩
      generalize shwB (some L[atN L s]) = rb at *
      generalize shwL (some L[atN L s]) = rl at *
      clear e2 e3 HR hr hq
      subst hp
      generalize L[atN L s].n = xn at *
      generalize L[atN L s].gn = xg at *
      generalize L[atN L s].row.length = xl at *
      generalize atN L s = m at *
      rcases hcs with h1 | ⟨h1, h2⟩ | ⟨h1, rfl, h3⟩
      all_goals
        try rw [h3]
        go_enter Try.func33, Try.ntmps33
        go_wp2_with fail
        refine (HA.out _ (by go_grown)).mono ?_
        rintro e w2 ⟨rfl, hb2⟩
        have hB2 : Below w.heap.size w w2 := (show Below w.heap.size w _ by go_grown).trans (hb2.mono (by simp))
        have a0 := (hB2.cell (p := ⟨b, o + m * 3, none⟩) hbB).trans c0
        have a1 := (hB2.cell (p := ⟨b, o + m * 3 + 1, none⟩) hbB).trans c1
        have a2 := (hB2.cell (p := ⟨b, o + m * 3 + 2, none⟩) hbB).trans c2
        have HB2 : Hid (Below w.heap.size w w2) := hB2
        clear hb2 c0 c1 c2 hB2
        cases xg
        · go_wp2_with fail
          go_ret2
          exact ⟨⟨_, by rw [HF.out.1]; rfl, by rw [HF.out.2]; exact HC.out _ HB2.out⟩, HB2.out⟩
        · go_wp2_with fail
          go_ret2
          exact ⟨⟨_, by rw [HF.out.1]; rfl, by rw [HF.out.2]; exact (OwnV.nil _ 0).sl⟩, HB2.out⟩
    · obtain ⟨e2, e3⟩ := at_neg hat
      rw [e3]
      rw [e2] at HA
      clear e2 e3 HR
      rcases hcs with h1 | ⟨h1, h2⟩ | ⟨h1, rfl, h3⟩
      all_goals
        try rw [h3]
        go_enter Try.func33, Try.ntmps33
        go_wp2_with fail
        refine (HA.out _ (by go_grown)).mono ?_
        rintro e w2 ⟨rfl, hb2⟩
        have HB2 : Hid (Below w.heap.size w w2) := (show Below w.heap.size w _ by go_grown).trans (hb2.mono (by simp))
        clear hb2
        go_wp2_with fail
        go_ret2
        exact ⟨⟨_, rfl, (OwnV.nil _ 0).sl⟩, HB2.out⟩
end Go.Proofs.Yteddpogjpohacaa
