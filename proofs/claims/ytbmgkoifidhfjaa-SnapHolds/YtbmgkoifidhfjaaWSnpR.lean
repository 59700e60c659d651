/- The document's New, Least, Raise, Same. -/
import Derived.Test.YtbmgkoifidhfjaaWSnp3
namespace Go.Proofs.Ytbmgkoifidhfjaa
open Go.RowKit
set_option maxRecDepth 100000

set_option maxHeartbeats 1000000 in
theorem rnew_any (fl : Nat) (w : World) :
    Calls Try.prog 9 #[.int .u64 (fl : Nat)] w fun e w' => ((4611686018427387904 < fl ∧ e = .returned (.tuple #[.agg #[.int .u64 0, .slice none 0 0], .int .i64 1])) ∨ (fl ≤ 4611686018427387904 ∧ e = .returned (.tuple #[.agg #[.int .u64 (fl : Nat), .slice none 0 0], .int .i64 0]))) ∧ Below w.heap.size w w' := by
  by_cases hf : 4611686018427387904 < fl
  · have q : (4611686018427387904 : Int) < (fl : Int) := by omega
    have HF : Hid (4611686018427387904 < fl) := hf
    have HB : Hid (Below w.heap.size w (w.alloc (.cells #[.int .u64 0, .slice none 0 0] 29))) := (Below.refl _ _).alloc (Nat.le_refl _) _
    have hb := BoxT.new w #[.int .u64 0, .slice none 0 0] 29
    have q0 := hb.cell (i := 0)
    have q1 := hb.cell (i := 1)
    clear hf hb
    generalize (fl : Int) = z at *
    go_enter Try.func9, Try.ntmps9
    go_wp2_with fail
    refine bodyPost_ret (v := .tuple #[.agg #[.int .u64 0, .slice none 0 0], .int .i64 1]) (by simp [results, Try.results9, go_sem, q0, q1]) rfl ?_
    exact ⟨.inl ⟨HF.out, rfl⟩, HB.out⟩
  · have q : ¬ (4611686018427387904 : Int) < (fl : Int) := by omega
    have HF : Hid (fl ≤ 4611686018427387904) := by show _ ≤ _; omega
    have HB : Hid (Below w.heap.size w (w.alloc (.cells #[.int .u64 (fl : Nat), .slice none 0 0] 29))) := (Below.refl _ _).alloc (Nat.le_refl _) _
    have hb := BoxT.new w #[.int .u64 (fl : Nat), .slice none 0 0] 29
    have q0 := hb.cell (i := 0)
    have q1 := hb.cell (i := 1)
    clear hf hb
    go_enter Try.func9, Try.ntmps9
    go_wp2_with fail
    refine bodyPost_ret (v := .tuple #[.agg #[.int .u64 (fl : Nat), .slice none 0 0], .int .i64 0]) (by simp [results, Try.results9, go_sem, q0, q1]) rfl ?_
    exact ⟨.inr ⟨HF.out, rfl⟩, HB.out⟩

set_option maxHeartbeats 2000000 in
theorem rleast_any (fl B : Nat) (v : Value) (R : List Rd) (w : World) (h : OwR w B v R) (hlen : R.length ≤ 256) :
    Calls Try.prog 24 #[.agg #[.int .u64 (fl : Nat), v]] w fun e w' => e = .returned (.tuple #[.int .u64 (lstR R : Nat), .bool (somR R)]) ∧ Below w.heap.size w w' := by
  obtain ⟨p, c, rfl, hle, hnil, -, hrd⟩ := h.rd
  have HB : Hid (Below w.heap.size w (w.alloc (.cells #[.int .u64 (fl : Nat), .slice p R.length c] 29))) := (Below.refl _ _).alloc (Nat.le_refl _) _
  have HR : Hid (RdR (w.alloc (.cells #[.int .u64 (fl : Nat), .slice p R.length c] 29)) p R) := hrd.on HB.out
  have c2 : (w.alloc (.cells #[.int .u64 (fl : Nat), .slice p R.length c] 29)).cell? ⟨w.heap.size, 1, none⟩ = some (.slice p R.length c) := by rw [World.cell?_alloc_new]; rfl
  clear h hrd hle hnil
  by_cases h0 : R.length = 0
  · rw [(lst_none h0).1, (lst_none h0).2]
    rw [h0] at c2 HB ⊢
    clear HR
    go_enter Try.func24, Try.ntmps24
    go_wp2_with fail
    refine bodyPost_ret (results_tmp2 rfl _ _ _) rfl ?_
    exact ⟨rfl, HB.out⟩
  · have h1 : 0 < R.length := by omega
    have HE : Hid (lstR R = lstA (R.take R.length) R[0].st) := (lst_some h1).1
    rw [(lst_some h1).2]
    obtain ⟨b, o, rfl, hb, d0, d1⟩ := HR.out 0 h1
    have d1' : (w.alloc (.cells #[.int .u64 (fl : Nat), .slice (some ⟨b, o, none⟩) R.length c] 29)).cell? ⟨b, o + 1, none⟩ = some (.int .u64 (R[0].st : Nat)) := by simpa using d1
    clear d0 d1 hb
    go_enter Try.func24, Try.ntmps24
    go_wp2_with fail
    generalize hw1 : w.alloc (.cells #[.int .u64 (fl : Nat), .slice (some ⟨b, o, none⟩) R.length c] 29) = w1 at *
    clear hw1 d1'
    generalize hz : R[0].st = z at *
    clear hz
    go_loopw [4, 5] (fun m i wr => ∃ j : Nat, j ≤ R.length ∧ i = .int .i64 (j : Int) ∧ m = .int .u64 ((lstA (R.take j) z : Nat) : Int) ∧ wr = w1) (fun _ i _ => R.length - (intOf i).toNat)
    case atStart => exact ⟨0, Nat.zero_le _, by go_num, rfl, rfl⟩
    case round =>
      obtain ⟨j, hj, rfl, rfl, hwr⟩ := hrel
      rw [hwr]
      clear hwr
      by_cases hj0 : j = R.length
      · subst hj0
        rw [← HE.out]
        go_wp2_with fail
        refine bodyPost_ret (results_tmp2 rfl _ _ _) rfl ?_
        exact ⟨rfl, HB.out⟩
      · have hj1 : j < R.length := by omega
        obtain ⟨b', o', e, hb, d0, d1⟩ := HR.out j hj1
        cases e
        have HN : Hid (((lstA (R.take (j + 1)) z : Nat) : Int) = min ((lstA (R.take j) z : Nat) : Int) (R[j].st : Nat)) := show _ = _ by rw [lstA_take R j z hj1]; omega
        clear hb hj0
        generalize ((lstA (R.take j) z : Nat) : Int) = m at *
        generalize R[j].sl = x at *
        generalize (R[j].st : Int) = y at *
        by_cases hy : y < m
        · have HN2 : Hid (((lstA (R.take (j + 1)) z : Nat) : Int) = y) := HN.out.trans (by omega)
          clear HN
          go_wp2_with fail
          go_roundw
          case rel => exact ⟨j + 1, by omega, by go_num, intV HN2.out.symm, by trivial⟩
          case measure => simp [intOf]; omega
        · have HN2 : Hid (((lstA (R.take (j + 1)) z : Nat) : Int) = m) := HN.out.trans (by omega)
          clear HN
          go_wp2_with fail
          go_roundw
          case rel => exact ⟨j + 1, by omega, by go_num, intV HN2.out.symm, by trivial⟩
          case measure => simp [intOf]; omega

set_option maxHeartbeats 2000000 in
theorem rsame_any (B C : Nat) (u v : Value) (R : List Rd) (w : World) (hu : OwR w B u R) (hv : OwR w C v R) (hlen : R.length ≤ 256) :
    Calls Try.prog 21 #[u, v] w fun e w' => e = .returned (.bool true) ∧ Below w.heap.size w w' := by
  obtain ⟨p, c, rfl, -, -, -, hr1⟩ := hu.rd
  obtain ⟨q, d, rfl, -, -, -, hr2⟩ := hv.rd
  have H1 : Hid (RdR w p R) := hr1
  have H2 : Hid (RdR w q R) := hr2
  clear hu hv hr1 hr2
  go_enter Try.func21, Try.ntmps21
  go_wp2_with fail
  go_loopw [5] (fun i wr => ∃ j : Nat, j ≤ R.length ∧ i = .int .i64 (j : Int) ∧ Hid (Below w.heap.size w wr)) (fun i _ => R.length - (intOf i).toNat)
  case atStart => exact ⟨0, Nat.zero_le _, by go_num, Below.refl _ _⟩
  case round =>
    obtain ⟨j, hj, rfl, hB⟩ := hrel
    by_cases hj0 : j = R.length
    · subst hj0
      go_wp2_with fail
      go_ret
      exact ⟨rfl, hB.out⟩
    · have hj1 : j < R.length := by omega
      obtain ⟨b, o, rfl, hb, d0, d1⟩ := H1.out j hj1
      obtain ⟨b', o', rfl, hb', d0', d1'⟩ := H2.out j hj1
      have e0 := (hB.out.cell (p := ⟨b, o + j * 2, none⟩) hb).trans d0
      have e1 := (hB.out.cell (p := ⟨b, o + j * 2 + 1, none⟩) hb).trans d1
      have e2 := (hB.out.cell (p := ⟨b', o' + j * 2, none⟩) hb').trans d0'
      have e3 := (hB.out.cell (p := ⟨b', o' + j * 2 + 1, none⟩) hb').trans d1'
      clear d0 d1 d0' d1' hb hb' hj0
      generalize R[j].sl = x at *
      generalize R[j].st = y at *
      go_wp2_with fail
      go_quiet (fail)
      go_wp2_with fail
      go_roundw
      case rel => exact ⟨j + 1, by omega, by go_num, below_drewN hB.out _⟩
      case measure => simp [intOf]; omega

set_option maxHeartbeats 2000000 in
theorem rraise_any (fl B t : Nat) (v : Value) (R : List Rd) (w : World) (h : OwR w B v R) (hlen : R.length ≤ 256) :
    Calls Try.prog 27 #[.agg #[.int .u64 (fl : Nat), v], .int .u64 (t : Nat)] w fun e w' => e = .returned (.tuple #[.agg #[.int .u64 (raiN fl R t : Nat), v], .int .u64 (raiN fl R t : Nat)]) ∧ Below w.heap.size w w' := by
  obtain ⟨p, c, ev, -⟩ := h.rd
  have hs1 : (w.alloc (.cells #[.int .u64 (fl : Nat), v] 29)).heap.size = w.heap.size + 1 := by simp
  have L1 : Below w.heap.size w (w.alloc (.cells #[.int .u64 (fl : Nat), v] 29)) := (Below.refl _ _).alloc (Nat.le_refl _) _
  have X1 : BoxT (w.alloc (.cells #[.int .u64 (fl : Nat), v] 29)) w.heap.size #[.int .u64 (fl : Nat), v] 29 := BoxT.new _ _ _
  have L2 : Below (w.alloc (.cells #[.int .u64 (fl : Nat), v] 29)).heap.size (w.alloc (.cells #[.int .u64 (fl : Nat), v] 29)) ((w.alloc (.cells #[.int .u64 (fl : Nat), v] 29)).alloc (.cells #[.int .u64 0, .slice none 0 0] 29)) := (Below.refl _ _).alloc (Nat.le_refl _) _
  have X2 : BoxT ((w.alloc (.cells #[.int .u64 (fl : Nat), v] 29)).alloc (.cells #[.int .u64 0, .slice none 0 0] 29)) (w.heap.size + 1) #[.int .u64 0, .slice none 0 0] 29 := by rw [← hs1]; exact BoxT.new _ _ _
  have HX1 : Hid (BoxT _ _ _ _) := X1.on L2
  have HX2 : Hid (BoxT _ _ _ _) := X2
  have HL : Hid (Below w.heap.size w _) := L1.trans (L2.mono (by omega))
  have H0 : Hid (OwR _ B v R) := h.on HL.out
  have a0 : ((w.alloc (.cells #[.int .u64 (fl : Nat), v] 29)).alloc (.cells #[.int .u64 0, .slice none 0 0] 29)).cell? ⟨w.heap.size, 0, none⟩ = some (.int .u64 (fl : Nat)) := HX1.out.cell
  have a1 : ((w.alloc (.cells #[.int .u64 (fl : Nat), v] 29)).alloc (.cells #[.int .u64 0, .slice none 0 0] 29)).cell? ⟨w.heap.size, 1, none⟩ = some v := HX1.out.cell
  have HLEN : Hid (R.length ≤ 256) := hlen
  generalize R.length = rl at ev
  subst ev
  clear hs1 L1 X1 L2 X2 h hlen
  obtain ⟨t2, ht2⟩ : ∃ t2, t2 = min t 4611686018427387904 := ⟨_, rfl⟩
  have HRA : Hid (raiN fl R t = max fl (if somR R then min t2 (lstR R) else t2)) := show _ = _ by unfold raiN; rw [ht2]
  by_cases htm : 4611686018427387904 < t
  · have qt : (4611686018427387904 : Int) < (t : Int) := by omega
    have ht3 : t2 = 4611686018427387904 := by omega
    clear ht2 htm
    subst ht3
    go_enter Try.func27, Try.ntmps27
    go_wp2_with fail
    generalize ((w.alloc (.cells #[.int .u64 (fl : Nat), .slice p rl c] 29)).alloc (.cells #[.int .u64 0, .slice none 0 0] 29)) = w2 at *
    have C1 : Hid (Calls _ _ _ _ _) := rleast_any fl B (.slice p rl c) R w2 H0.out HLEN.out
    refine C1.out.mono ?_
    rintro e w3 ⟨rfl, hb3⟩
    have HX13 : Hid (BoxT w3 w.heap.size #[.int .u64 (fl : Nat), .slice p rl c] 29) := HX1.out.on hb3
    have HX23 : Hid (BoxT w3 (w.heap.size + 1) #[.int .u64 0, .slice none 0 0] 29) := HX2.out.on hb3
    have HL3 : Hid (Below w.heap.size w w3) := HL.out.trans (hb3.mono HL.out.size)
    have b0 : w3.cell? ⟨w.heap.size, 0, none⟩ = some (.int .u64 (fl : Nat)) := HX13.out.cell
    have b1 : w3.cell? ⟨w.heap.size, 1, none⟩ = some (.slice p rl c) := HX13.out.cell
    have f0 : w3.frozen? ⟨w.heap.size, 0, none⟩ = false := HX13.out.frozen
    have g0 : w3.cell? ⟨w.heap.size + 1, 0, none⟩ = some (.int .u64 0) := HX23.out.cell
    have g1 : w3.cell? ⟨w.heap.size + 1, 1, none⟩ = some (.slice none 0 0) := HX23.out.cell
    have y0 : w3.frozen? ⟨w.heap.size + 1, 0, none⟩ = false := HX23.out.frozen
    have y1 : w3.frozen? ⟨w.heap.size + 1, 1, none⟩ = false := HX23.out.frozen
    clear hb3 C1 HX1 HX2 HL H0 HLEN a0 a1 qt
    obtain ⟨rn, hrn⟩ : ∃ rn, rn = raiN fl R t := ⟨_, rfl⟩
    have HRN : Hid (rn = raiN fl R t) := hrn
    rw [← hrn] at HRA
    clear hrn
    have D : ∀ x0 x1 : Int, Hid (Below w.heap.size w (((w3.setCell ⟨w.heap.size, 0, none⟩ (.int .u64 x0)).setCell ⟨w.heap.size + 1, 0, none⟩ (.int .u64 x1)).setCell ⟨w.heap.size + 1, 1, none⟩ (.slice p rl c)) ∧ BoxT (((w3.setCell ⟨w.heap.size, 0, none⟩ (.int .u64 x0)).setCell ⟨w.heap.size + 1, 0, none⟩ (.int .u64 x1)).setCell ⟨w.heap.size + 1, 1, none⟩ (.slice p rl c)) (w.heap.size + 1) #[.int .u64 x1, .slice p rl c] 29) := fun x0 x1 => by
      have f : Frm w3 (((w3.setCell ⟨w.heap.size, 0, none⟩ (.int .u64 x0)).setCell ⟨w.heap.size + 1, 0, none⟩ (.int .u64 x1)).setCell ⟨w.heap.size + 1, 1, none⟩ (.slice p rl c)) (fun k => w.heap.size ≤ k) := ((frm_set w3 _ 0 _ (F := fun k => w.heap.size ≤ k) (Nat.le_refl _)).trans (frm_set _ _ 0 _ (F := fun k => w.heap.size ≤ k) (Nat.le_succ _))).trans (frm_set _ _ 1 _ (F := fun k => w.heap.size ≤ k) (Nat.le_succ _))
      exact ⟨HL3.out.trans (f.below HL3.out.size (fun k hk => hk)), ((HX23.out.off (i := 0) _ (by omega)).set (i := 0) _).set (i := 1) _⟩
    have D2 : Hid (Below w.heap.size w ((w3.setCell ⟨w.heap.size + 1, 0, none⟩ (.int .u64 (fl : Nat))).setCell ⟨w.heap.size + 1, 1, none⟩ (.slice p rl c)) ∧ BoxT ((w3.setCell ⟨w.heap.size + 1, 0, none⟩ (.int .u64 (fl : Nat))).setCell ⟨w.heap.size + 1, 1, none⟩ (.slice p rl c)) (w.heap.size + 1) #[.int .u64 (fl : Nat), .slice p rl c] 29) := by
      have f : Frm w3 ((w3.setCell ⟨w.heap.size + 1, 0, none⟩ (.int .u64 (fl : Nat))).setCell ⟨w.heap.size + 1, 1, none⟩ (.slice p rl c)) (fun k => w.heap.size ≤ k) := (frm_set w3 _ 0 _ (F := fun k => w.heap.size ≤ k) (Nat.le_succ _)).trans (frm_set _ _ 1 _ (F := fun k => w.heap.size ≤ k) (Nat.le_succ _))
      exact ⟨HL3.out.trans (f.below HL3.out.size (fun k hk => hk)), (HX23.out.set (i := 0) _).set (i := 1) _⟩
    clear HX13 HX23
    generalize lstR R = m at *
    generalize somR R = sm at *
    have HRI : Hid ((rn : Int) = max (fl : Int) (if sm = true then min 4611686018427387904 (m : Int) else 4611686018427387904)) := show _ = _ by
      have h := HRA.out
      rw [h]
      split <;> omega
    clear HRA
    generalize (fl : Int) = fi at *
    generalize (m : Int) = mi at *
    cases sm with
    | false =>
      by_cases hfv : fi < 4611686018427387904
      · have HRV : Hid ((rn : Int) = 4611686018427387904) := HRI.out.trans (by simp only [Bool.false_eq_true, if_false]; omega)
        clear HRI
        have hD := D (4611686018427387904) (4611686018427387904)
        have q0 := hD.out.2.cell (i := 0)
        have q1 := hD.out.2.cell (i := 1)
        clear D D2
        go_wp2_with fail
        go_region
        go_wp2_with fail
        refine bodyPost_ret (v := .tuple #[.agg #[.int .u64 (4611686018427387904), .slice p rl c], .int .u64 (4611686018427387904)]) (by simp [results, Try.results27, go_sem, q0, q1]) rfl ?_
        exact ⟨by rw [← HRN.out, HRV.out], ⟨hD.out.1.os, hD.out.1.tape, hD.out.1.output, hD.out.1.size, hD.out.1.block⟩⟩
      · have HRV : Hid ((rn : Int) = fi) := HRI.out.trans (by simp only [Bool.false_eq_true, if_false]; omega)
        have qf : 4611686018427387904 ≤ fi := by omega
        clear hfv HRI
        have hD := D2
        have q0 := hD.out.2.cell (i := 0)
        have q1 := hD.out.2.cell (i := 1)
        clear D D2
        go_wp2_with fail
        go_region
        go_wp2_with fail
        refine bodyPost_ret (v := .tuple #[.agg #[.int .u64 (fi), .slice p rl c], .int .u64 (fi)]) (by simp [results, Try.results27, go_sem, q0, q1]) rfl ?_
        exact ⟨by rw [← HRN.out, HRV.out], ⟨hD.out.1.os, hD.out.1.tape, hD.out.1.output, hD.out.1.size, hD.out.1.block⟩⟩
    | true =>
      by_cases hmt : mi < 4611686018427387904
      · by_cases hfv : fi < mi
        · have HRV : Hid ((rn : Int) = mi) := HRI.out.trans (by simp only [if_true]; omega)
          clear HRI
          have hD := D (mi) (mi)
          have q0 := hD.out.2.cell (i := 0)
          have q1 := hD.out.2.cell (i := 1)
          clear D D2
          go_wp2_with fail
          go_region
          go_wp2_with fail
          refine bodyPost_ret (v := .tuple #[.agg #[.int .u64 (mi), .slice p rl c], .int .u64 (mi)]) (by simp [results, Try.results27, go_sem, q0, q1]) rfl ?_
          exact ⟨by rw [← HRN.out, HRV.out], ⟨hD.out.1.os, hD.out.1.tape, hD.out.1.output, hD.out.1.size, hD.out.1.block⟩⟩
        · have HRV : Hid ((rn : Int) = fi) := HRI.out.trans (by simp only [if_true]; omega)
          have qf : mi ≤ fi := by omega
          clear hfv HRI
          have hD := D2
          have q0 := hD.out.2.cell (i := 0)
          have q1 := hD.out.2.cell (i := 1)
          clear D D2
          go_wp2_with fail
          go_region
          go_wp2_with fail
          refine bodyPost_ret (v := .tuple #[.agg #[.int .u64 (fi), .slice p rl c], .int .u64 (fi)]) (by simp [results, Try.results27, go_sem, q0, q1]) rfl ?_
          exact ⟨by rw [← HRN.out, HRV.out], ⟨hD.out.1.os, hD.out.1.tape, hD.out.1.output, hD.out.1.size, hD.out.1.block⟩⟩
      · have qm : 4611686018427387904 ≤ mi := by omega
        clear hmt
        by_cases hfv : fi < 4611686018427387904
        · have HRV : Hid ((rn : Int) = 4611686018427387904) := HRI.out.trans (by simp only [if_true]; omega)
          clear HRI
          have hD := D (4611686018427387904) (4611686018427387904)
          have q0 := hD.out.2.cell (i := 0)
          have q1 := hD.out.2.cell (i := 1)
          clear D D2
          go_wp2_with fail
          go_region
          go_wp2_with fail
          refine bodyPost_ret (v := .tuple #[.agg #[.int .u64 (4611686018427387904), .slice p rl c], .int .u64 (4611686018427387904)]) (by simp [results, Try.results27, go_sem, q0, q1]) rfl ?_
          exact ⟨by rw [← HRN.out, HRV.out], ⟨hD.out.1.os, hD.out.1.tape, hD.out.1.output, hD.out.1.size, hD.out.1.block⟩⟩
        · have HRV : Hid ((rn : Int) = fi) := HRI.out.trans (by simp only [if_true]; omega)
          have qf : 4611686018427387904 ≤ fi := by omega
          clear hfv HRI
          have hD := D2
          have q0 := hD.out.2.cell (i := 0)
          have q1 := hD.out.2.cell (i := 1)
          clear D D2
          go_wp2_with fail
          go_region
          go_wp2_with fail
          refine bodyPost_ret (v := .tuple #[.agg #[.int .u64 (fi), .slice p rl c], .int .u64 (fi)]) (by simp [results, Try.results27, go_sem, q0, q1]) rfl ?_
          exact ⟨by rw [← HRN.out, HRV.out], ⟨hD.out.1.os, hD.out.1.tape, hD.out.1.output, hD.out.1.size, hD.out.1.block⟩⟩
  · have qt : ¬ (4611686018427387904 : Int) < (t : Int) := by omega
    have ht3 : t2 = t := by omega
    clear ht2 htm
    subst ht3
    go_enter Try.func27, Try.ntmps27
    go_wp2_with fail
    generalize ((w.alloc (.cells #[.int .u64 (fl : Nat), .slice p rl c] 29)).alloc (.cells #[.int .u64 0, .slice none 0 0] 29)) = w2 at *
    have C1 : Hid (Calls _ _ _ _ _) := rleast_any fl B (.slice p rl c) R w2 H0.out HLEN.out
    refine C1.out.mono ?_
    rintro e w3 ⟨rfl, hb3⟩
    have HX13 : Hid (BoxT w3 w.heap.size #[.int .u64 (fl : Nat), .slice p rl c] 29) := HX1.out.on hb3
    have HX23 : Hid (BoxT w3 (w.heap.size + 1) #[.int .u64 0, .slice none 0 0] 29) := HX2.out.on hb3
    have HL3 : Hid (Below w.heap.size w w3) := HL.out.trans (hb3.mono HL.out.size)
    have b0 : w3.cell? ⟨w.heap.size, 0, none⟩ = some (.int .u64 (fl : Nat)) := HX13.out.cell
    have b1 : w3.cell? ⟨w.heap.size, 1, none⟩ = some (.slice p rl c) := HX13.out.cell
    have f0 : w3.frozen? ⟨w.heap.size, 0, none⟩ = false := HX13.out.frozen
    have g0 : w3.cell? ⟨w.heap.size + 1, 0, none⟩ = some (.int .u64 0) := HX23.out.cell
    have g1 : w3.cell? ⟨w.heap.size + 1, 1, none⟩ = some (.slice none 0 0) := HX23.out.cell
    have y0 : w3.frozen? ⟨w.heap.size + 1, 0, none⟩ = false := HX23.out.frozen
    have y1 : w3.frozen? ⟨w.heap.size + 1, 1, none⟩ = false := HX23.out.frozen
    clear hb3 C1 HX1 HX2 HL H0 HLEN a0 a1 qt
    obtain ⟨rn, hrn⟩ : ∃ rn, rn = raiN fl R t2 := ⟨_, rfl⟩
    have HRN : Hid (rn = raiN fl R t2) := hrn
    rw [← hrn] at HRA
    clear hrn
    have D : ∀ x0 x1 : Nat, Hid (Below w.heap.size w (((w3.setCell ⟨w.heap.size, 0, none⟩ (.int .u64 (x0 : Nat))).setCell ⟨w.heap.size + 1, 0, none⟩ (.int .u64 (x1 : Nat))).setCell ⟨w.heap.size + 1, 1, none⟩ (.slice p rl c)) ∧ BoxT (((w3.setCell ⟨w.heap.size, 0, none⟩ (.int .u64 (x0 : Nat))).setCell ⟨w.heap.size + 1, 0, none⟩ (.int .u64 (x1 : Nat))).setCell ⟨w.heap.size + 1, 1, none⟩ (.slice p rl c)) (w.heap.size + 1) #[.int .u64 (x1 : Nat), .slice p rl c] 29) := fun x0 x1 => by
      have f : Frm w3 (((w3.setCell ⟨w.heap.size, 0, none⟩ (.int .u64 (x0 : Nat))).setCell ⟨w.heap.size + 1, 0, none⟩ (.int .u64 (x1 : Nat))).setCell ⟨w.heap.size + 1, 1, none⟩ (.slice p rl c)) (fun k => w.heap.size ≤ k) := ((frm_set w3 _ 0 _ (F := fun k => w.heap.size ≤ k) (Nat.le_refl _)).trans (frm_set _ _ 0 _ (F := fun k => w.heap.size ≤ k) (Nat.le_succ _))).trans (frm_set _ _ 1 _ (F := fun k => w.heap.size ≤ k) (Nat.le_succ _))
      exact ⟨HL3.out.trans (f.below HL3.out.size (fun k hk => hk)), ((HX23.out.off (i := 0) _ (by omega)).set (i := 0) _).set (i := 1) _⟩
    have D2 : Hid (Below w.heap.size w ((w3.setCell ⟨w.heap.size + 1, 0, none⟩ (.int .u64 (fl : Nat))).setCell ⟨w.heap.size + 1, 1, none⟩ (.slice p rl c)) ∧ BoxT ((w3.setCell ⟨w.heap.size + 1, 0, none⟩ (.int .u64 (fl : Nat))).setCell ⟨w.heap.size + 1, 1, none⟩ (.slice p rl c)) (w.heap.size + 1) #[.int .u64 (fl : Nat), .slice p rl c] 29) := by
      have f : Frm w3 ((w3.setCell ⟨w.heap.size + 1, 0, none⟩ (.int .u64 (fl : Nat))).setCell ⟨w.heap.size + 1, 1, none⟩ (.slice p rl c)) (fun k => w.heap.size ≤ k) := (frm_set w3 _ 0 _ (F := fun k => w.heap.size ≤ k) (Nat.le_succ _)).trans (frm_set _ _ 1 _ (F := fun k => w.heap.size ≤ k) (Nat.le_succ _))
      exact ⟨HL3.out.trans (f.below HL3.out.size (fun k hk => hk)), (HX23.out.set (i := 0) _).set (i := 1) _⟩
    clear HX13 HX23
    generalize lstR R = m at *
    generalize somR R = sm at *
    cases sm with
    | false =>
      by_cases hfv : fl < t2
      · have HRV : Hid (rn = t2) := HRA.out.trans (by simp only [Bool.false_eq_true, if_false]; omega)
        have qf : (fl : Int) < ((t2 : Nat) : Int) := by omega
        clear hfv HRA
        have hD := D t2 t2
        have q0 := hD.out.2.cell (i := 0)
        have q1 := hD.out.2.cell (i := 1)
        clear D D2
        go_wp2_with fail
        go_region
        go_wp2_with fail
        refine bodyPost_ret (v := .tuple #[.agg #[.int .u64 (t2 : Nat), .slice p rl c], .int .u64 (t2 : Nat)]) (by simp [results, Try.results27, go_sem, q0, q1]) rfl ?_
        exact ⟨by rw [← HRN.out, HRV.out], ⟨hD.out.1.os, hD.out.1.tape, hD.out.1.output, hD.out.1.size, hD.out.1.block⟩⟩
      · have HRV : Hid (rn = fl) := HRA.out.trans (by simp only [Bool.false_eq_true, if_false]; omega)
        have qf : ¬ (fl : Int) < ((t2 : Nat) : Int) := by omega
        clear hfv HRA
        have hD := D2
        have q0 := hD.out.2.cell (i := 0)
        have q1 := hD.out.2.cell (i := 1)
        clear D D2
        go_wp2_with fail
        go_region
        go_wp2_with fail
        refine bodyPost_ret (v := .tuple #[.agg #[.int .u64 (fl : Nat), .slice p rl c], .int .u64 (fl : Nat)]) (by simp [results, Try.results27, go_sem, q0, q1]) rfl ?_
        exact ⟨by rw [← HRN.out, HRV.out], ⟨hD.out.1.os, hD.out.1.tape, hD.out.1.output, hD.out.1.size, hD.out.1.block⟩⟩
    | true =>
      by_cases hmt : m < t2
      · have qm : (m : Int) < ((t2 : Nat) : Int) := by omega
        by_cases hfv : fl < m
        · have HRV : Hid (rn = m) := HRA.out.trans (by simp only [if_true]; omega)
          have qf : (fl : Int) < ((m : Nat) : Int) := by omega
          clear hfv HRA
          have hD := D m m
          have q0 := hD.out.2.cell (i := 0)
          have q1 := hD.out.2.cell (i := 1)
          clear D D2
          go_wp2_with fail
          go_region
          go_wp2_with fail
          refine bodyPost_ret (v := .tuple #[.agg #[.int .u64 (m : Nat), .slice p rl c], .int .u64 (m : Nat)]) (by simp [results, Try.results27, go_sem, q0, q1]) rfl ?_
          exact ⟨by rw [← HRN.out, HRV.out], ⟨hD.out.1.os, hD.out.1.tape, hD.out.1.output, hD.out.1.size, hD.out.1.block⟩⟩
        · have HRV : Hid (rn = fl) := HRA.out.trans (by simp only [if_true]; omega)
          have qf : ¬ (fl : Int) < ((m : Nat) : Int) := by omega
          clear hfv HRA
          have hD := D2
          have q0 := hD.out.2.cell (i := 0)
          have q1 := hD.out.2.cell (i := 1)
          clear D D2
          go_wp2_with fail
          go_region
          go_wp2_with fail
          refine bodyPost_ret (v := .tuple #[.agg #[.int .u64 (fl : Nat), .slice p rl c], .int .u64 (fl : Nat)]) (by simp [results, Try.results27, go_sem, q0, q1]) rfl ?_
          exact ⟨by rw [← HRN.out, HRV.out], ⟨hD.out.1.os, hD.out.1.tape, hD.out.1.output, hD.out.1.size, hD.out.1.block⟩⟩
      · have qm : ¬ (m : Int) < ((t2 : Nat) : Int) := by omega
        by_cases hfv : fl < t2
        · have HRV : Hid (rn = t2) := HRA.out.trans (by simp only [if_true]; omega)
          have qf : (fl : Int) < ((t2 : Nat) : Int) := by omega
          clear hfv HRA
          have hD := D t2 t2
          have q0 := hD.out.2.cell (i := 0)
          have q1 := hD.out.2.cell (i := 1)
          clear D D2
          go_wp2_with fail
          go_region
          go_wp2_with fail
          refine bodyPost_ret (v := .tuple #[.agg #[.int .u64 (t2 : Nat), .slice p rl c], .int .u64 (t2 : Nat)]) (by simp [results, Try.results27, go_sem, q0, q1]) rfl ?_
          exact ⟨by rw [← HRN.out, HRV.out], ⟨hD.out.1.os, hD.out.1.tape, hD.out.1.output, hD.out.1.size, hD.out.1.block⟩⟩
        · have HRV : Hid (rn = fl) := HRA.out.trans (by simp only [if_true]; omega)
          have qf : ¬ (fl : Int) < ((t2 : Nat) : Int) := by omega
          clear hfv HRA
          have hD := D2
          have q0 := hD.out.2.cell (i := 0)
          have q1 := hD.out.2.cell (i := 1)
          clear D D2
          go_wp2_with fail
          go_region
          go_wp2_with fail
          refine bodyPost_ret (v := .tuple #[.agg #[.int .u64 (fl : Nat), .slice p rl c], .int .u64 (fl : Nat)]) (by simp [results, Try.results27, go_sem, q0, q1]) rfl ?_
          exact ⟨by rw [← HRN.out, HRV.out], ⟨hD.out.1.os, hD.out.1.tape, hD.out.1.output, hD.out.1.size, hD.out.1.block⟩⟩
end Go.Proofs.Ytbmgkoifidhfjaa
