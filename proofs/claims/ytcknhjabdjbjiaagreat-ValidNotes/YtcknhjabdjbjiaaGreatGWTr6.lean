/- The document's Trim. Stamps: the stamps of the commits that are kept. -/
import Derived.Laws.OwnMore
import Derived.Test.YtcknhjabdjbjiaaGreatGWLd1
import Derived.Test.YtcknhjabdjbjiaaGreatGWLg13n
import Derived.Test.YtcknhjabdjbjiaaGreatGWLg15
namespace Go.Proofs.YtcknhjabdjbjiaaGreat
open Go.RowKit
set_option maxRecDepth 100000

theorem SamC.drop {L M : List Cm} (h : SamC L M) (r : Nat) : SamC (L.drop r) (M.drop r) := by
  refine ⟨by rw [List.length_drop, List.length_drop, h.len], fun i hi hi' => ?_⟩
  rw [List.length_drop] at hi hi'
  simp only [List.getElem_drop]
  exact h.at' (r + i) (by omega) (by omega)
theorem IsBeh.sam {L M : List Cm} {fr r : Nat} (hs : SamC L M) (h : IsBeh L fr r) : IsBeh M fr r := by
  refine ⟨by rw [← hs.len]; exact h.1, fun k hk hkr => ?_, fun k hk hkr => ?_⟩
  · have hk' : k < L.length := by rw [hs.len]; exact hk
    rw [← (hs.at' k hk' hk).1]
    exact h.2.1 k hk' hkr
  · have hk' : k < L.length := by rw [hs.len]; exact hk
    rw [← (hs.at' k hk' hk).1]
    exact h.2.2 k hk' hkr
set_option maxHeartbeats 4000000 in
theorem rtrim_any (B fl r : Nat) (v : Value) (M : List Cm) (w : World) (hX : DocC w B v M) (hI : InvC M) (hr : IsBeh M fl r) :
    Calls Tryz.prog 12 #[v, .int .u64 (fl : Nat)] w fun e w' => ∃ v', e = .returned (.tuple #[v', .int .i64 (r : Nat)]) ∧ DocC w' w.heap.size v' (M.drop r) ∧ Below w.heap.size w w' := by
  obtain ⟨pm, cm, rfl, hrow⟩ := hX.drop
  obtain ⟨n, hn⟩ : ∃ n, M.length = n := ⟨_, rfl⟩
  have HRw : Hid (RowD w pm M) := hrow
  have HFt : Hid (∀ c ∈ M, (SlP w c.v2 c.W ∧ c.W.length ≤ 4398046511104) ∧ c.v0 = .slice none 0 0 ∧ c.v1 = .slice none 0 0) := hX.ft
  have HLn : Hid (M.length = n ∧ n ≤ 4096) := ⟨hn, by have := hI.len; omega⟩
  have HR : Hid (IsBeh M fl r) := hr
  have hn4 : n ≤ 4096 := HLn.out.2
  rw [hn]
  clear hX hrow hI hr hn
  go_enter Tryz.func12, Tryz.ntmps12
  go_wp2_with fail
  go_loopw [6, 7] (fun vo i wr => ∃ j : Nat, j ≤ n ∧ i = .int .i64 (j : Int) ∧ Hid (OwnD wr w.heap.size vo ((M.take j).drop r)) ∧ Hid (Below w.heap.size w wr)) (fun _ i _ => n - (intOf i).toNat)
  case atStart => exact ⟨0, Nat.zero_le _, by go_num, by show OwnD w w.heap.size _ (([] : List Cm).drop r); rw [List.drop_nil]; exact OwnD.nil _ _, Below.refl _ _⟩
  case round =>
    obtain ⟨j, hj, rfl, HO, HB⟩ := hrel
    by_cases hj0 : j = n
    · subst hj0
      have HO2 : Hid (OwnD wr w.heap.size u6 (M.drop r)) := by
        have h := HO.out
        rw [List.take_of_length_le (by have := HLn.out.1; omega)] at h
        exact h
      obtain ⟨po, co, e, -⟩ := HO2.out.row
      obtain ⟨m, hm⟩ : ∃ m, (M.drop r).length = m := ⟨_, rfl⟩
      rw [hm] at e
      subst e
      have hsub : IntKind.i64.wrap ((j : Int) - (m : Int)) = (r : Int) := by
        rw [List.length_drop, HLn.out.1] at hm
        have := HR.out.1
        have := HLn.out.1
        rw [IntKind.wrap_i64]
        omega
      clear hm HO
      go_wp2_with fail
      refine bodyPost_ret (v := .tuple #[.slice po m co, .int .i64 (r : Nat)]) (by simp [results, Tryz.results12, go_sem]) rfl ?_
      exact ⟨_, rfl, ⟨HO2.out, fun c hc => by
        have h := HFt.out c (List.mem_of_mem_drop hc)
        exact ⟨⟨h.1.1.on HB.out, h.1.2⟩, h.2⟩⟩, HB.out⟩
    · have hj1 : j < n := by omega
      have hjM : j < M.length := by have := HLn.out.1; omega
      obtain ⟨b, o, rfl, hbl, d0, d1⟩ := (HRw.out.on HB.out) j hjM
      obtain ⟨s, hs⟩ : ∃ s, M[j].s = s := ⟨_, rfl⟩
      obtain ⟨q2, l2, k2, ev2⟩ : ∃ p n c, M[j].v2 = .slice p n c := by obtain ⟨p, c, e, _⟩ := (HFt.out M[j] (List.getElem_mem hjM)).1.1.f; exact ⟨_, _, _, e⟩
      rw [hs] at d0
      rw [ev2] at d1
      by_cases hjr : j < r
      · have hsf : s ≤ fl := by rw [← hs]; exact HR.out.2.1 j hjM hjr
        have HOn : Hid (OwnD wr w.heap.size u6 ((M.take (j + 1)).drop r)) := by
          have e1 : (M.take (j + 1)).drop r = (M.take j).drop r := by
            rw [List.drop_eq_nil_of_le (by rw [List.length_take]; omega), List.drop_eq_nil_of_le (by rw [List.length_take]; omega)]
          rw [e1]
          exact HO.out
        clear hs ev2 d1 hjM hbl HO
        go_wp2_with fail
        go_roundw
        case rel => exact ⟨j + 1, hj1, by go_num, HOn, HB⟩
        case measure => simp [intOf]; omega
      · have hsf : fl < s := by rw [← hs]; exact HR.out.2.2 j hjM (by omega)
        have HT : Hid ((M.take (j + 1)).drop r = (M.take j).drop r ++ [M[j]]) := by
          show (M.take (j + 1)).drop r = (M.take j).drop r ++ [M[j]]
          rw [take_snoc M j hjM, List.drop_append_of_le_length (by rw [List.length_take]; omega)]
        have hlen : ((M.take j).drop r).length + 1 ≤ 200000 := by rw [List.length_drop, List.length_take]; omega
        obtain ⟨w4, hw4⟩ : ∃ w4, wr.alloc (.cells #[.int .u64 (s : Nat), .slice q2 l2 k2] 73) = w4 := ⟨_, rfl⟩
        have hal : Below wr.heap.size wr w4 := by rw [← hw4]; exact (Below.refl _ _).alloc (Nat.le_refl _) _
        have HK4 : Hid (Blk w4 wr.heap.size #[.int .u64 (M[j].s : Nat), M[j].v2] 73) := by rw [hs, ev2, ← hw4]; exact Blk.new wr _ _
        have HO4 : Hid (OwnD w4 w.heap.size u6 ((M.take j).drop r)) := HO.out.on hal
        have HB4 : Hid (Below w.heap.size w w4) := HB.out.trans (hal.mono HB.out.size)
        have HU : Hid (M[j].v2.oneCell' = true) := by rw [ev2]; rfl
        clear hal HO HB hbl
        go_wp2_with (first
          | (at_builtin
             refine wpList_appD1 w4 rfl _ _ rfl w.heap.size u6 ((M.take j).drop r) rfl HO4.out M[j] HU.out wr.heap.size rfl HK4.out hlen HB4.out.size ?_
             intro v5 w5 h5 hb5
             have HO5 : Hid (OwnD w5 w.heap.size v5 ((M.take (j + 1)).drop r)) := by rw [HT.out]; exact h5
             have HB5 : Hid (Below w.heap.size w w5) := HB4.out.trans hb5
             clear h5 hb5))
        go_roundw
        case rel => exact ⟨j + 1, hj1, by go_num, HO5, HB5⟩
        case measure => simp [intOf]; omega

end Go.Proofs.YtcknhjabdjbjiaaGreat

namespace Go.Proofs.YtcknhjabdjbjiaaGreat
open Go.RowKit
set_option maxRecDepth 100000

/-- stamps in a block -/
def BkU (w : World) (g : Nat) (L : List Nat) : Prop := ∃ cs : Array Value, Blk w g cs 23 ∧ cs.size = L.length ∧ ∀ i (hi : i < L.length), cs[i]? = some (.int .u64 (L[i] : Nat))
theorem BkU.on {w w' : World} {g : Nat} {L : List Nat} (h : BkU w g L) (hb : Below w.heap.size w w') : BkU w' g L := by
  obtain ⟨cs, h1, h2⟩ := h
  exact ⟨cs, h1.on hb, h2⟩
/-- stamps in a block, the first j of them -/
def BkJ (w : World) (g : Nat) (L : List Nat) (j : Nat) : Prop := ∃ cs : Array Value, Blk w g cs 23 ∧ cs.size = L.length ∧ ∀ i (hi : i < L.length), i < j → cs[i]? = some (.int .u64 (L[i] : Nat))
set_option maxHeartbeats 4000000 in
theorem stampsL_any (lb : Nat) (vC : Value) (mb : Nat) (E : List (Pt × Value)) (L : List Cm) (w : World) (hX : LogX w lb vC mb E L) :
    Calls Tryz.prog 28 #[ptr1 lb] w fun e w' => e = .returned (.slice (some ⟨w.heap.size, 0, none⟩) L.length L.length) ∧ BkU w' w.heap.size (L.map (·.s)) ∧ Below w.heap.size w w' := by
  have CG : Hid (Calls _ _ _ _ _) := given_any lb _ _ w hX.blk
  obtain ⟨pc, cc, rfl, hcc, -, hrow⟩ := hX.com.f
  obtain ⟨n, hn⟩ : ∃ n, L.length = n := ⟨_, rfl⟩
  have hn4 : n ≤ 4096 := by have := hX.inv.len; omega
  have k1 : w.cell? ⟨lb, 1, none⟩ = some (.slice pc n cc) := by rw [← hn]; exact hX.blk.cell rfl
  have HLg : Hid (Blk w lb #[ptr1 lb, .slice pc n cc, .map (some mb)] 77) := by rw [← hn]; exact hX.blk
  have HRow : Hid (RowC w pc L) := hrow
  have HFt : Hid (∀ c ∈ L, ∃ p0 n0 c0 p1 n1 c1 p2 n2 c2, c.v0 = .slice p0 n0 c0 ∧ c.v1 = .slice p1 n1 c1 ∧ c.v2 = .slice p2 n2 c2) := fun c hc => by
    obtain ⟨p0, c0, e0, _⟩ := (hX.com.ft c hc).p.f
    obtain ⟨p1, c1, e1, _⟩ := (hX.com.ft c hc).s.f
    obtain ⟨p2, c2, e2, _⟩ := (hX.com.ft c hc).w.f
    exact ⟨_, _, _, _, _, _, _, _, _, e0, e1, e2⟩
  have HLn : Hid (L.length = n) := hn
  rw [hn] at hcc
  have hmk : ∀ w3 : World, (Instr.makeSlice 70 (.int .i64 (n : Int)) (.int .i64 (n : Int))).run Tryz.prog w3 = .ok (.slice (some ⟨w3.heap.size, 0, none⟩) n n) (w3.alloc (.cells (madeCells #[.int .u64 0] n) 23)) := by
    intro w3
    obtain ⟨i, hi, q0, q1, q2⟩ := info_parts info_U
    have := run_make (P := Tryz.prog) w3 70 23 i _ Tryz.underlying70 hi q0 .i64 .i64 (n : Int) (n : Int) (by omega) (Int.le_refl _) (by rw [q2]; omega) (by omega)
    rw [this, q1]
    simp [Value.cells]
  obtain ⟨w1, hw1⟩ : ∃ w1, w.alloc (.cells (madeCells #[.int .u64 0] n) 23) = w1 := ⟨_, rfl⟩
  have HB1 : Hid (Below w.heap.size w w1) := by rw [← hw1]; exact (Below.refl _ _).alloc (Nat.le_refl _) _
  have HJ1 : Hid (BkJ w1 w.heap.size (L.map (·.s)) 0) := ⟨madeCells #[.int .u64 0] n, by rw [← hw1]; exact Blk.new w _ _, by
    rw [← Array.length_toList, toList_madeCells_one]; simp [hn], fun i _ hi => absurd hi (by omega)⟩
  have k2 := (HLg.out.on HB1.out).cell (i := 1) rfl
  rw [hn]
  clear hX hrow hn
  go_enter Tryz.func28, Tryz.ntmps28
  go_wp2_with fail
  refine CG.out.mono ?_
  rintro e w3 ⟨rfl, hw3⟩
  obtain rfl := hw3.symm
  clear CG
  go_wp2_with fail
  clear hmk hw1 k1 k2
  go_loopw [20] (fun i wr => ∃ j : Nat, j ≤ n ∧ i = .int .i64 (j : Int) ∧ Hid (Below w.heap.size w wr) ∧ Hid (BkJ wr w.heap.size (L.map (·.s)) j) ∧ Hid (w.heap.size < wr.heap.size)) (fun i _ => n - (intOf i).toNat)
  case atStart => exact ⟨0, Nat.zero_le _, by go_num, HB1, HJ1, by obtain ⟨cs, h1, _⟩ := HJ1.out; exact h1.lt⟩
  case round =>
    obtain ⟨j, hj, rfl, HB, HJ, HSz⟩ := hrel
    clear HB1 HJ1
    by_cases hj0 : j = n
    · subst hj0
      go_wp2_with fail
      go_ret
      refine ⟨rfl, ?_, HB.out⟩
      obtain ⟨cs, h1, h2, h3⟩ := HJ.out
      exact ⟨cs, h1, h2, fun i hi => h3 i hi (by have := HLn.out; simp at hi; omega)⟩
    · have hj1 : j < n := by omega
      have hjL : j < L.length := by have := HLn.out; omega
      obtain ⟨b, o, rfl, hbl, d0, d1, d2, d3⟩ := (HRow.out.on HB.out) j hjL
      obtain ⟨p0, n0, c0, p1, n1, c1, p2, n2, c2, e0, e1, e2⟩ := HFt.out L[j] (List.getElem_mem hjL)
      rw [e0] at d1
      rw [e1] at d2
      rw [e2] at d3
      clear e0 e1 e2
      obtain ⟨s, hs⟩ : ∃ s, L[j].s = s := ⟨_, rfl⟩
      rw [hs] at d0
      have HS : Hid ((L.map (·.s))[j]? = some s) := by
        show (L.map (·.s))[j]? = some s
        rw [List.getElem?_map, List.getElem?_eq_getElem hjL, ← hs]
        rfl
      clear hs hjL
      obtain ⟨w4, hw4⟩ : ∃ w4, wr.alloc (.cells #[.int .u64 (s : Nat), .slice p0 n0 c0, .slice p1 n1 c1, .slice p2 n2 c2] 80) = w4 := ⟨_, rfl⟩
      have hal : Below wr.heap.size wr w4 := by rw [← hw4]; exact (Below.refl _ _).alloc (Nat.le_refl _) _
      have HK4 : Hid (Blk w4 wr.heap.size #[.int .u64 (s : Nat), .slice p0 n0 c0, .slice p1 n1 c1, .slice p2 n2 c2] 80) := by rw [← hw4]; exact Blk.new wr _ _
      have q0 := HK4.out.cell (i := 0) rfl
      obtain ⟨cs, h1, h2, h3⟩ := HJ.out
      have hb4 := h1.on hal
      have hjc : j < cs.size := by rw [h2]; simp; have := HLn.out; omega
      have y0 := hb4.cell (i := j) (Array.getElem?_eq_getElem hjc)
      have f0 := hb4.frozen j
      have HN : Hid (BkJ (w4.setCell ⟨w.heap.size, j, none⟩ (.int .u64 (s : Nat))) w.heap.size (L.map (·.s)) (j + 1)) := ⟨cs.setIfInBounds j (.int .u64 (s : Nat)), hb4.set j _, by simp [h2], fun i hi hij => by
        by_cases hij2 : i = j
        · subst hij2
          have h9 := HS.out
          rw [List.getElem?_eq_getElem hi] at h9
          rw [Array.getElem?_setIfInBounds_self_of_lt hjc, Option.some.inj h9]
        · rw [Array.getElem?_setIfInBounds_ne (by omega)]
          exact h3 i hi (by omega)⟩
      have hB4 : Below w.heap.size w w4 := HB.out.trans (hal.mono HB.out.size)
      have hf4 : Frm w4 (w4.setCell ⟨w.heap.size, j, none⟩ (.int .u64 (s : Nat))) (fun k => k = w.heap.size) := frm_set _ _ _ _ (F := fun k => k = w.heap.size) (.inl rfl)
      have HBn : Hid (Below w.heap.size w (w4.setCell ⟨w.heap.size, j, none⟩ (.int .u64 (s : Nat)))) := hB4.trans (hf4.below hB4.size (fun k hk => by omega))
      have HSn : Hid (w.heap.size < (w4.setCell ⟨w.heap.size, j, none⟩ (.int .u64 (s : Nat))).heap.size) := Nat.lt_of_lt_of_le hb4.lt hf4.size
      generalize cs[j] = y at y0
      clear h1 h2 h3 hb4 hjc hal hB4 hf4 HJ
      go_wp2_with fail
      go_roundw
      case rel => exact ⟨j + 1, hj1, by go_num, HBn, HN, HSn⟩
      case measure => simp [intOf]; omega

end Go.Proofs.YtcknhjabdjbjiaaGreat
