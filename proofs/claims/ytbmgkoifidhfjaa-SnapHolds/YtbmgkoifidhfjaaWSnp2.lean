/- least, raise of a state. -/
import Derived.Test.YtbmgkoifidhfjaaWSnp
namespace Go.Proofs.Ytbmgkoifidhfjaa
open Go.RowKit
set_option maxRecDepth 100000

theorem intV {k : IntKind} {x y : Int} (h : x = y) : Value.int k x = Value.int k y := by rw [h]
theorem lst_some {R : List Rd} (h : 0 < R.length) : lstR R = lstA (R.take R.length) R[0].st ∧ somR R = true := by
  cases R with
  | nil => simp at h
  | cons r t => exact ⟨by rw [List.take_length]; rfl, rfl⟩
theorem lst_none {R : List Rd} (h : R.length = 0) : lstR R = 0 ∧ somR R = false := by
  have e : R = [] := List.length_eq_zero_iff.1 h
  subst e
  exact ⟨rfl, rfl⟩

set_option maxHeartbeats 2000000 in
theorem least_any (at' fl B : Nat) (v : Value) (R : List Rd) (w : World) (h : OwR w B v R) (hlen : R.length ≤ 256) :
    Calls Try.prog 40 #[.agg #[.int .u64 (at' : Nat), .int .u64 (fl : Nat), v]] w fun e w' => e = .returned (.tuple #[.int .u64 (lstR R : Nat), .bool (somR R)]) ∧ Below w.heap.size w w' := by
  obtain ⟨p, c, rfl, hle, hnil, -, hrd⟩ := h.rd
  have HB : Hid (Below w.heap.size w (w.alloc (.cells #[.int .u64 (at' : Nat), .int .u64 (fl : Nat), .slice p R.length c] 77))) := (Below.refl _ _).alloc (Nat.le_refl _) _
  have HR : Hid (RdR (w.alloc (.cells #[.int .u64 (at' : Nat), .int .u64 (fl : Nat), .slice p R.length c] 77)) p R) := hrd.on HB.out
  have c2 : (w.alloc (.cells #[.int .u64 (at' : Nat), .int .u64 (fl : Nat), .slice p R.length c] 77)).cell? ⟨w.heap.size, 2, none⟩ = some (.slice p R.length c) := by rw [World.cell?_alloc_new]; rfl
  clear h hrd hle hnil
  by_cases h0 : R.length = 0
  · rw [(lst_none h0).1, (lst_none h0).2]
    rw [h0] at c2 HB ⊢
    clear HR
    go_enter Try.func40, Try.ntmps40
    go_wp2_with fail
    refine bodyPost_ret (results_tmp2 rfl _ _ _) rfl ?_
    exact ⟨rfl, HB.out⟩
  · have h1 : 0 < R.length := by omega
    have HE : Hid (lstR R = lstA (R.take R.length) R[0].st) := (lst_some h1).1
    rw [(lst_some h1).2]
    obtain ⟨b, o, rfl, hb, d0, d1⟩ := HR.out 0 h1
    have d1' : (w.alloc (.cells #[.int .u64 (at' : Nat), .int .u64 (fl : Nat), .slice (some ⟨b, o, none⟩) R.length c] 77)).cell? ⟨b, o + 1, none⟩ = some (.int .u64 (R[0].st : Nat)) := by simpa using d1
    clear d0 d1 hb
    go_enter Try.func40, Try.ntmps40
    go_wp2_with fail
    generalize hw1 : w.alloc (.cells #[.int .u64 (at' : Nat), .int .u64 (fl : Nat), .slice (some ⟨b, o, none⟩) R.length c] 77) = w1 at *
    clear hw1 c2 d1'
    generalize hz : R[0].st = z at *
    clear hz
    go_loopw [4, 19] (fun m i wr => ∃ j : Nat, j ≤ R.length ∧ i = .int .i64 (j : Int) ∧ m = .int .u64 ((lstA (R.take j) z : Nat) : Int) ∧ Hid (Below w1.heap.size w1 wr)) (fun _ i _ => R.length - (intOf i).toNat)
    case atStart => exact ⟨0, Nat.zero_le _, by go_num, rfl, Below.refl _ _⟩
    case round =>
      obtain ⟨j, hj, rfl, rfl, hB⟩ := hrel
      by_cases hj0 : j = R.length
      · subst hj0
        rw [← HE.out]
        have HBB : Hid (Below w.heap.size w wr) := HB.out.trans (hB.out.mono HB.out.size)
        clear hB
        go_wp2_with fail
        refine bodyPost_ret (results_tmp2 rfl _ _ _) rfl ?_
        exact ⟨rfl, HBB.out⟩
      · have hj1 : j < R.length := by omega
        obtain ⟨b', o', e, hb, d0, d1⟩ := HR.out j hj1
        cases e
        have e0 := (hB.out.cell (p := ⟨b, o + j * 2, none⟩) hb).trans d0
        have e1 := (hB.out.cell (p := ⟨b, o + j * 2 + 1, none⟩) hb).trans d1
        have HN : Hid (((lstA (R.take (j + 1)) z : Nat) : Int) = min ((lstA (R.take j) z : Nat) : Int) (R[j].st : Nat)) := show _ = _ by rw [lstA_take R j z hj1]; omega
        have HB2 : Hid (Below w1.heap.size w1 (wr.alloc (.cells #[.int .i64 (R[j].sl : Nat), .int .u64 (R[j].st : Nat)] 49))) := hB.out.trans (((Below.refl _ _).alloc (Nat.le_refl _) _).mono hB.out.size)
        clear d0 d1 hb hj0 hB
        generalize ((lstA (R.take j) z : Nat) : Int) = m at *
        generalize R[j].sl = x at *
        generalize R[j].st = y at *
        go_wp2_with fail
        go_roundw
        case rel => exact ⟨j + 1, by omega, by go_num, intV HN.out.symm, HB2⟩
        case measure => simp [intOf]; omega

set_option maxHeartbeats 2000000 in
theorem sraise_any (at' fl B t : Nat) (v : Value) (R : List Rd) (w : World) (h : OwR w B v R) (hlen : R.length ≤ 256) :
    Calls Try.prog 48 #[.agg #[.int .u64 (at' : Nat), .int .u64 (fl : Nat), v], .int .u64 (t : Nat)] w fun e w' => e = .returned (.tuple #[.agg #[.int .u64 (at' : Nat), .int .u64 (raiN fl R t : Nat), v], .int .u64 (raiN fl R t : Nat), .int .i64 0]) ∧ Below w.heap.size w w' := by
  obtain ⟨p, c, ev, -⟩ := h.rd
  have hs1 : (w.alloc (.cells #[.int .u64 (at' : Nat), .int .u64 (fl : Nat), v] 77)).heap.size = w.heap.size + 1 := by simp
  have L1 : Below w.heap.size w (w.alloc (.cells #[.int .u64 (at' : Nat), .int .u64 (fl : Nat), v] 77)) := (Below.refl _ _).alloc (Nat.le_refl _) _
  have X1 : BoxT (w.alloc (.cells #[.int .u64 (at' : Nat), .int .u64 (fl : Nat), v] 77)) w.heap.size #[.int .u64 (at' : Nat), .int .u64 (fl : Nat), v] 77 := BoxT.new _ _ _
  have L2 : Below (w.alloc (.cells #[.int .u64 (at' : Nat), .int .u64 (fl : Nat), v] 77)).heap.size (w.alloc (.cells #[.int .u64 (at' : Nat), .int .u64 (fl : Nat), v] 77)) ((w.alloc (.cells #[.int .u64 (at' : Nat), .int .u64 (fl : Nat), v] 77)).alloc (.cells #[.int .u64 0, .int .u64 0, .slice none 0 0] 77)) := (Below.refl _ _).alloc (Nat.le_refl _) _
  have X2 : BoxT ((w.alloc (.cells #[.int .u64 (at' : Nat), .int .u64 (fl : Nat), v] 77)).alloc (.cells #[.int .u64 0, .int .u64 0, .slice none 0 0] 77)) (w.heap.size + 1) #[.int .u64 0, .int .u64 0, .slice none 0 0] 77 := by rw [← hs1]; exact BoxT.new _ _ _
  have HX1 : Hid (BoxT _ _ _ _) := X1.on L2
  have HX2 : Hid (BoxT _ _ _ _) := X2
  have HL : Hid (Below w.heap.size w _) := L1.trans (L2.mono (by omega))
  have H0 : Hid (OwR _ B v R) := h.on HL.out
  have a0 : ((w.alloc (.cells #[.int .u64 (at' : Nat), .int .u64 (fl : Nat), v] 77)).alloc (.cells #[.int .u64 0, .int .u64 0, .slice none 0 0] 77)).cell? ⟨w.heap.size, 0, none⟩ = some (.int .u64 (at' : Nat)) := HX1.out.cell
  have a1 : ((w.alloc (.cells #[.int .u64 (at' : Nat), .int .u64 (fl : Nat), v] 77)).alloc (.cells #[.int .u64 0, .int .u64 0, .slice none 0 0] 77)).cell? ⟨w.heap.size, 1, none⟩ = some (.int .u64 (fl : Nat)) := HX1.out.cell
  have a2 : ((w.alloc (.cells #[.int .u64 (at' : Nat), .int .u64 (fl : Nat), v] 77)).alloc (.cells #[.int .u64 0, .int .u64 0, .slice none 0 0] 77)).cell? ⟨w.heap.size, 2, none⟩ = some v := HX1.out.cell
  have HLEN : Hid (R.length ≤ 256) := hlen
  generalize R.length = rl at ev
  subst ev
  clear hs1 L1 X1 L2 X2 h hlen
  go_enter Try.func48, Try.ntmps48
  go_wp2_with fail
  generalize ((w.alloc (.cells #[.int .u64 (at' : Nat), .int .u64 (fl : Nat), .slice p rl c] 77)).alloc (.cells #[.int .u64 0, .int .u64 0, .slice none 0 0] 77)) = w2 at *
  have C1 : Hid (Calls _ _ _ _ _) := least_any at' fl B (.slice p rl c) R w2 H0.out HLEN.out
  refine C1.out.mono ?_
  rintro e w3 ⟨rfl, hb3⟩
  have HX13 : Hid (BoxT _ _ _ _) := HX1.out.on hb3
  have HX23 : Hid (BoxT _ _ _ _) := HX2.out.on hb3
  have HL3 : Hid (Below w.heap.size w w3) := HL.out.trans (hb3.mono HL.out.size)
  have b0 : w3.cell? ⟨w.heap.size, 0, none⟩ = some (.int .u64 (at' : Nat)) := HX13.out.cell
  have b1 : w3.cell? ⟨w.heap.size, 1, none⟩ = some (.int .u64 (fl : Nat)) := HX13.out.cell
  have b2 : w3.cell? ⟨w.heap.size, 2, none⟩ = some (.slice p rl c) := HX13.out.cell
  have f1 : w3.frozen? ⟨w.heap.size, 1, none⟩ = false := HX13.out.frozen
  have g0 : w3.cell? ⟨w.heap.size + 1, 0, none⟩ = some (.int .u64 0) := HX23.out.cell
  have g1 : w3.cell? ⟨w.heap.size + 1, 1, none⟩ = some (.int .u64 0) := HX23.out.cell
  have g2 : w3.cell? ⟨w.heap.size + 1, 2, none⟩ = some (.slice none 0 0) := HX23.out.cell
  have y0 : w3.frozen? ⟨w.heap.size + 1, 0, none⟩ = false := HX23.out.frozen
  have y1 : w3.frozen? ⟨w.heap.size + 1, 1, none⟩ = false := HX23.out.frozen
  have y2 : w3.frozen? ⟨w.heap.size + 1, 2, none⟩ = false := HX23.out.frozen
  clear hb3 C1 HX1 HX2 HL H0 HLEN a0 a1 a2
  have HRA : Hid (((raiN fl R t : Nat) : Int) = max (fl : Int) (if somR R then min (min (t : Int) 4611686018427387904) (lstR R : Nat) else min (t : Int) 4611686018427387904)) := show _ = _ by
    unfold raiN
    split <;> omega
  obtain ⟨rn, hrn⟩ : ∃ rn, rn = raiN fl R t := ⟨_, rfl⟩
  have HRN : Hid (rn = raiN fl R t) := hrn
  rw [← hrn] at HRA
  clear hrn
  generalize lstR R = m at *
  generalize somR R = sm at *
  obtain ⟨rv, hrv⟩ : ∃ rv : Int, rv = max (fl : Int) (if sm = true then min (min (t : Int) 4611686018427387904) (m : Nat) else min (t : Int) 4611686018427387904) := ⟨_, rfl⟩
  have WE : Hid (rv = (rn : Int)) := hrv.trans HRA.out.symm
  have D : ∀ rv : Int, rv = (rn : Int) → Hid (Below w.heap.size w (((w3.setCell ⟨w.heap.size, 1, none⟩ (.int .u64 rv)).setCell ⟨w.heap.size + 1, 0, none⟩ (.int .u64 (at' : Nat))).setCell ⟨w.heap.size + 1, 1, none⟩ (.int .u64 rv) |>.setCell ⟨w.heap.size + 1, 2, none⟩ (.slice p rl c)) ∧ BoxT (((w3.setCell ⟨w.heap.size, 1, none⟩ (.int .u64 rv)).setCell ⟨w.heap.size + 1, 0, none⟩ (.int .u64 (at' : Nat))).setCell ⟨w.heap.size + 1, 1, none⟩ (.int .u64 rv) |>.setCell ⟨w.heap.size + 1, 2, none⟩ (.slice p rl c)) (w.heap.size + 1) #[.int .u64 (at' : Nat), .int .u64 rv, .slice p rl c] 77) := fun rv _ => by
    have f : Frm w3 (((w3.setCell ⟨w.heap.size, 1, none⟩ (.int .u64 rv)).setCell ⟨w.heap.size + 1, 0, none⟩ (.int .u64 (at' : Nat))).setCell ⟨w.heap.size + 1, 1, none⟩ (.int .u64 rv) |>.setCell ⟨w.heap.size + 1, 2, none⟩ (.slice p rl c)) (fun k => w.heap.size ≤ k) := (((frm_set w3 _ 1 _ (F := fun k => w.heap.size ≤ k) (Nat.le_refl _)).trans (frm_set _ _ 0 _ (F := fun k => w.heap.size ≤ k) (Nat.le_succ _))).trans (frm_set _ _ 1 _ (F := fun k => w.heap.size ≤ k) (Nat.le_succ _))).trans (frm_set _ _ 2 _ (F := fun k => w.heap.size ≤ k) (Nat.le_succ _))
    exact ⟨HL3.out.trans (f.below HL3.out.size (fun k hk => hk)), (((HX23.out.off (i := 1) _ (by omega)).set (i := 0) _).set (i := 1) _).set (i := 2) _⟩
  clear HX13 HX23
  cases sm with
  | false =>
    have hrv' : rv = max (fl : Int) (min (t : Int) 4611686018427387904) := hrv
    clear hrv HRA
    go_wp2_with fail
    rw [← hrv']
    clear hrv'
    have hD := D rv WE.out
    have q0 := hD.out.2.cell (i := 0)
    have q1 := hD.out.2.cell (i := 1)
    have q2 := hD.out.2.cell (i := 2)
    have WEo := WE.out
    clear D
    subst WEo
    go_region
    go_wp2_with fail
    refine bodyPost_ret (v := .tuple #[.agg #[.int .u64 (at' : Nat), .int .u64 (rn : Nat), .slice p rl c], .int .u64 (rn : Nat), .int .i64 0]) (by simp [results, Try.results48, go_sem, q0, q1, q2]) rfl ?_
    exact ⟨by rw [HRN.out], ⟨hD.out.1.os, hD.out.1.tape, hD.out.1.output, hD.out.1.size, hD.out.1.block⟩⟩
  | true =>
    have hrv' : rv = max (fl : Int) (min (t : Int) (min 4611686018427387904 (m : Int))) := by rw [hrv, if_pos rfl]; omega
    clear hrv HRA
    go_wp2_with fail
    rw [← hrv']
    clear hrv'
    have hD := D rv WE.out
    have q0 := hD.out.2.cell (i := 0)
    have q1 := hD.out.2.cell (i := 1)
    have q2 := hD.out.2.cell (i := 2)
    have WEo := WE.out
    clear D
    subst WEo
    go_region
    go_wp2_with fail
    refine bodyPost_ret (v := .tuple #[.agg #[.int .u64 (at' : Nat), .int .u64 (rn : Nat), .slice p rl c], .int .u64 (rn : Nat), .int .i64 0]) (by simp [results, Try.results48, go_sem, q0, q1, q2]) rfl ?_
    exact ⟨by rw [HRN.out], ⟨hD.out.1.os, hD.out.1.tape, hD.out.1.output, hD.out.1.size, hD.out.1.block⟩⟩
end Go.Proofs.Ytbmgkoifidhfjaa
