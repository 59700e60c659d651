/- Stamps: the stamps of the commits that are kept. stamps: a Log keeps just the document's commits. -/
import Derived.Laws.OwnMore
import Derived.Test.YtcknhjabdjbjiabGreatGWLg15
namespace Go.Proofs.YtcknhjabdjbjiabGreat
open Go.RowKit
set_option maxRecDepth 100000

/-- stamps in a block -/
def BkU (w : World) (g : Nat) (L : List Nat) : Prop := ∃ cs : Array Value, Blk w g cs 23 ∧ cs.size = L.length ∧ ∀ i (hi : i < L.length), cs[i]? = some (.int .u64 (L[i] : Nat))
theorem BkU.on {w w' : World} {g : Nat} {L : List Nat} (h : BkU w g L) (hb : Below w.heap.size w w') : BkU w' g L := by
  obtain ⟨cs, h1, h2⟩ := h
  exact ⟨cs, h1.on hb, h2⟩
/-- stamps in a block, the first j of them -/
def BkJ (w : World) (g : Nat) (L : List Nat) (j : Nat) : Prop := ∃ cs : Array Value, Blk w g cs 23 ∧ cs.size = L.length ∧ ∀ i (hi : i < L.length), i < j → cs[i]? = some (.int .u64 (L[i] : Nat))
set_option maxHeartbeats 4000000 in
theorem stampsL_any (lb : Nat) (vC : Value) (mb : Nat) (E : List (Pt × Value)) (L : List Cm) (w : World) (hX : LogX w lb vC mb E L) :
    Calls Tryz.prog 13 #[ptr1 lb] w fun e w' => e = .returned (.slice (some ⟨w.heap.size, 0, none⟩) L.length L.length) ∧ BkU w' w.heap.size (L.map (·.s)) ∧ Below w.heap.size w w' := by
  have CG : Hid (Calls _ _ _ _ _) := given_any lb _ _ w hX.blk
  obtain ⟨pc, cc, rfl, hcc, -, hrow⟩ := hX.com.f
  obtain ⟨n, hn⟩ : ∃ n, L.length = n := ⟨_, rfl⟩
  have hn4 : n ≤ 4096 := by have := hX.inv.len; omega
  have k1 : w.cell? ⟨lb, 1, none⟩ = some (.slice pc n cc) := by rw [← hn]; exact hX.blk.cell rfl
  have HLg : Hid (Blk w lb #[ptr1 lb, .slice pc n cc, .map (some mb)] 49) := by rw [← hn]; exact hX.blk
  have HRow : Hid (RowC w pc L) := hrow
  have HFt : Hid (∀ c ∈ L, ∃ p0 n0 c0 p1 n1 c1 p2 n2 c2, c.v0 = .slice p0 n0 c0 ∧ c.v1 = .slice p1 n1 c1 ∧ c.v2 = .slice p2 n2 c2) := fun c hc => by
    obtain ⟨p0, c0, e0, _⟩ := (hX.com.ft c hc).p.f
    obtain ⟨p1, c1, e1, _⟩ := (hX.com.ft c hc).s.f
    obtain ⟨p2, c2, e2, _⟩ := (hX.com.ft c hc).w.f
    exact ⟨_, _, _, _, _, _, _, _, _, e0, e1, e2⟩
  have HLn : Hid (L.length = n) := hn
  rw [hn] at hcc
  have hmk : ∀ w3 : World, (Instr.makeSlice 54 (.int .i64 (n : Int)) (.int .i64 (n : Int))).run Tryz.prog w3 = .ok (.slice (some ⟨w3.heap.size, 0, none⟩) n n) (w3.alloc (.cells (madeCells #[.int .u64 0] n) 23)) := by
    intro w3
    obtain ⟨i, hi, q0, q1, q2⟩ := info_parts info_U
    have := run_make (P := Tryz.prog) w3 54 23 i _ Tryz.underlying54 hi q0 .i64 .i64 (n : Int) (n : Int) (by omega) (Int.le_refl _) (by rw [q2]; omega) (by omega)
    rw [this, q1]
    simp [Value.cells]
  obtain ⟨w1, hw1⟩ : ∃ w1, w.alloc (.cells (madeCells #[.int .u64 0] n) 23) = w1 := ⟨_, rfl⟩
  have HB1 : Hid (Below w.heap.size w w1) := by rw [← hw1]; exact (Below.refl _ _).alloc (Nat.le_refl _) _
  have HJ1 : Hid (BkJ w1 w.heap.size (L.map (·.s)) 0) := ⟨madeCells #[.int .u64 0] n, by rw [← hw1]; exact Blk.new w _ _, by
    rw [← Array.length_toList, toList_madeCells_one]; simp [hn], fun i _ hi => absurd hi (by omega)⟩
  have k2 := (HLg.out.on HB1.out).cell (i := 1) rfl
  rw [hn]
  clear hX hrow hn
  go_enter Tryz.func13, Tryz.ntmps13
  go_wp2_with fail
  refine CG.out.mono ?_
  rintro e w3 ⟨rfl, hw3⟩
  obtain rfl := hw3.symm
  clear CG
  go_wp2_with fail
  clear hmk hw1 k1 k2
  go_loopw [20] (fun i wr => ∃ j : Nat, j ≤ n ∧ i = .int .i64 (j : Int) ∧ Hid (Below w.heap.size w wr) ∧ Hid (BkJ wr w.heap.size (L.map (·.s)) j) ∧ Hid (w.heap.size < wr.heap.size)) (fun i _ => n - (intOf i).toNat)
  case atStart => exact ⟨0, Nat.zero_le _, by go_num, HB1, HJ1, by obtain ⟨cs, h1, _⟩ := HJ1.out; exact h1.lt⟩
  case round =>
    obtain ⟨j, hj, rfl, HB, HJ, HSz⟩ := hrel
    clear HB1 HJ1
    by_cases hj0 : j = n
    · subst hj0
      go_wp2_with fail
      go_ret
      refine ⟨rfl, ?_, HB.out⟩
      obtain ⟨cs, h1, h2, h3⟩ := HJ.out
      exact ⟨cs, h1, h2, fun i hi => h3 i hi (by have := HLn.out; simp at hi; omega)⟩
    · have hj1 : j < n := by omega
      have hjL : j < L.length := by have := HLn.out; omega
      obtain ⟨b, o, rfl, hbl, d0, d1, d2, d3⟩ := (HRow.out.on HB.out) j hjL
      obtain ⟨p0, n0, c0, p1, n1, c1, p2, n2, c2, e0, e1, e2⟩ := HFt.out L[j] (List.getElem_mem hjL)
      rw [e0] at d1
      rw [e1] at d2
      rw [e2] at d3
      clear e0 e1 e2
      obtain ⟨s, hs⟩ : ∃ s, L[j].s = s := ⟨_, rfl⟩
      rw [hs] at d0
      have HS : Hid ((L.map (·.s))[j]? = some s) := by
        show (L.map (·.s))[j]? = some s
        rw [List.getElem?_map, List.getElem?_eq_getElem hjL, ← hs]
        rfl
      clear hs hjL
      obtain ⟨w4, hw4⟩ : ∃ w4, wr.alloc (.cells #[.int .u64 (s : Nat), .slice p0 n0 c0, .slice p1 n1 c1, .slice p2 n2 c2] 75) = w4 := ⟨_, rfl⟩
      have hal : Below wr.heap.size wr w4 := by rw [← hw4]; exact (Below.refl _ _).alloc (Nat.le_refl _) _
      have HK4 : Hid (Blk w4 wr.heap.size #[.int .u64 (s : Nat), .slice p0 n0 c0, .slice p1 n1 c1, .slice p2 n2 c2] 75) := by rw [← hw4]; exact Blk.new wr _ _
      have q0 := HK4.out.cell (i := 0) rfl
      obtain ⟨cs, h1, h2, h3⟩ := HJ.out
      have hb4 := h1.on hal
      have hjc : j < cs.size := by rw [h2]; simp; have := HLn.out; omega
      have y0 := hb4.cell (i := j) (Array.getElem?_eq_getElem hjc)
      have f0 := hb4.frozen j
      have HN : Hid (BkJ (w4.setCell ⟨w.heap.size, j, none⟩ (.int .u64 (s : Nat))) w.heap.size (L.map (·.s)) (j + 1)) := ⟨cs.setIfInBounds j (.int .u64 (s : Nat)), hb4.set j _, by simp [h2], fun i hi hij => by
        by_cases hij2 : i = j
        · subst hij2
          have h9 := HS.out
          rw [List.getElem?_eq_getElem hi] at h9
          rw [Array.getElem?_setIfInBounds_self_of_lt hjc, Option.some.inj h9]
        · rw [Array.getElem?_setIfInBounds_ne (by omega)]
          exact h3 i hi (by omega)⟩
      have hB4 : Below w.heap.size w w4 := HB.out.trans (hal.mono HB.out.size)
      have hf4 : Frm w4 (w4.setCell ⟨w.heap.size, j, none⟩ (.int .u64 (s : Nat))) (fun k => k = w.heap.size) := frm_set _ _ _ _ (F := fun k => k = w.heap.size) (.inl rfl)
      have HBn : Hid (Below w.heap.size w (w4.setCell ⟨w.heap.size, j, none⟩ (.int .u64 (s : Nat)))) := hB4.trans (hf4.below hB4.size (fun k hk => by omega))
      have HSn : Hid (w.heap.size < (w4.setCell ⟨w.heap.size, j, none⟩ (.int .u64 (s : Nat))).heap.size) := Nat.lt_of_lt_of_le hb4.lt hf4.size
      generalize cs[j] = y at y0
      clear h1 h2 h3 hb4 hjc hal hB4 hf4 HJ
      go_wp2_with fail
      go_roundw
      case rel => exact ⟨j + 1, hj1, by go_num, HBn, HN, HSn⟩
      case measure => simp [intOf]; omega

end Go.Proofs.YtcknhjabdjbjiabGreat

namespace Go.Proofs.YtcknhjabdjbjiabGreat
open Go.RowKit
set_option maxRecDepth 100000

theorem BkU.cell {w : World} {g : Nat} {L : List Nat} (h : BkU w g L) (i : Nat) (hi : i < L.length) : w.cell? ⟨g, i, none⟩ = some (.int .u64 (L[i] : Nat)) := by
  obtain ⟨cs, h1, _, h3⟩ := h
  exact h1.cell (h3 i hi)
set_option maxHeartbeats 4000000 in
theorem stampsE_any (lb : Nat) (vC : Value) (mb : Nat) (E : List (Pt × Value)) (L M : List Cm) (B : Nat) (vm : Value) (w : World) (hX : LogX w lb vC mb E L) (hD : DocC w B vm M) (hs : SamC L M) :
    Calls Tryz.prog 16 #[ptr1 lb, vm] w fun e w' => e = .returned (.bool true) ∧ Below w.heap.size w w' := by
  have CS : Hid (Calls _ _ _ _ _) := stampsL_any lb vC mb E L w hX
  obtain ⟨pm, cm, rfl, hrow⟩ := hD.drop
  obtain ⟨n, hn⟩ : ∃ n, M.length = n := ⟨_, rfl⟩
  rw [hs.len, hn] at CS
  rw [hn]
  have hn4 : n ≤ 4096 := by have := hX.inv.len; have := hs.len; omega
  have HRow : Hid (RowD w pm M) := hrow
  have HLn : Hid (M.length = n ∧ L.length = n) := ⟨hn, by rw [hs.len]; exact hn⟩
  have HSm : Hid (SamC L M) := hs
  clear hX hD hs hrow hn
  go_enter Tryz.func16, Tryz.ntmps16
  go_wp2_with fail
  refine CS.out.mono ?_
  rintro e w1 ⟨rfl, hU, hb1⟩
  clear CS
  have HU : Hid (BkU w1 w.heap.size (L.map (·.s))) := hU
  have HB1 : Hid (Below w.heap.size w w1) := hb1
  have HRw : Hid (RowD w1 pm M) := HRow.out.on hb1
  clear hU hb1 HRow
  go_wp2_with fail
  go_loopw [6] (fun i wr => ∃ j : Nat, j ≤ n ∧ i = .int .i64 (j : Int) ∧ Hid (Below w1.heap.size w1 wr)) (fun i _ => n - (intOf i).toNat)
  case atStart => exact ⟨0, Nat.zero_le _, by go_num, Below.refl _ _⟩
  case round =>
    obtain ⟨j, hj, rfl, HB⟩ := hrel
    by_cases hj0 : j = n
    · subst hj0
      go_wp2_with fail
      go_ret
      exact ⟨rfl, HB1.out.trans (HB.out.mono HB1.out.size)⟩
    · have hj1 : j < n := by omega
      have hjM : j < M.length := by have := HLn.out.1; omega
      have hjL : j < L.length := by have := HLn.out.2; omega
      obtain ⟨b, o, rfl, hbl, d0, -⟩ := (HRw.out.on HB.out) j hjM
      have y0 := (HU.out.on HB.out).cell j (by simpa using hjL)
      have es : (L.map (·.s))[j]'(by simpa using hjL) = M[j].s := by
        rw [List.getElem_map]
        exact (HSm.out.at' j hjL hjM).1
      rw [es] at y0
      generalize M[j].s = s at *
      clear hjM hjL hbl es
      go_wp2_with fail
      go_quiet (fail)
      have HBn : Hid (Below w1.heap.size w1 (wr.drewN 1)) := HB.out.trans ((drew_below wr 1).mono HB.out.size)
      go_wp2_with fail
      go_roundw
      case rel => exact ⟨j + 1, hj1, by go_num, by first | exact HBn | exact HB.out.trans ((drew_below wr _).mono HB.out.size)⟩
      case measure => simp [intOf]; omega

end Go.Proofs.YtcknhjabdjbjiabGreat
