/- What is done by turn: enter, leave, raise. -/
import Derived.Test.YtbmgkoifidhfjaaWSnp8
namespace Go.Proofs.Ytbmgkoifidhfjaa
open Go.RowKit
set_option maxRecDepth 100000

set_option maxHeartbeats 2000000 in
theorem center_any (at' fl cb : Nat) (s : Nat) (v : Value) (R : List Rd) (w : World) (h : OwR w 0 v R) (hI : InvR R) (hc : w.cell? ⟨cb, 0, none⟩ = some (.int .u64 (s : Nat))) (hcl : cb < w.heap.size) :
    Calls Try.prog 42 #[.agg #[.int .u64 (at' : Nat), .int .u64 (fl : Nat), v], ptr1 cb] w fun e w' => (∃ v', e = .returned (.tuple #[.agg #[.int .u64 (at' : Nat), .int .u64 (fl : Nat), v'], .int .u64 (entN fl R s : Nat), .int .i64 (entE fl R s)]) ∧ OwR w' 0 v' (entL fl R s)) ∧ Below w.heap.size w w' := by
  obtain ⟨p, c, ev, -⟩ := h.rd
  obtain ⟨rl, hrl⟩ : ∃ rl, rl = R.length := ⟨_, rfl⟩
  rw [← hrl] at ev
  subst ev
  have hs1 : (w.alloc (.cells #[.int .u64 (at' : Nat), .int .u64 (fl : Nat), .slice p rl c] 77)).heap.size = w.heap.size + 1 := by simp
  have L1 : Below w.heap.size w (w.alloc (.cells #[.int .u64 (at' : Nat), .int .u64 (fl : Nat), .slice p rl c] 77)) := (Below.refl _ _).alloc (Nat.le_refl _) _
  have L2 : Below (w.alloc (.cells #[.int .u64 (at' : Nat), .int .u64 (fl : Nat), .slice p rl c] 77)).heap.size (w.alloc (.cells #[.int .u64 (at' : Nat), .int .u64 (fl : Nat), .slice p rl c] 77)) ((w.alloc (.cells #[.int .u64 (at' : Nat), .int .u64 (fl : Nat), .slice p rl c] 77)).alloc (.cells #[.int .u64 0, .int .u64 0, .slice none 0 0] 77)) := (Below.refl _ _).alloc (Nat.le_refl _) _
  have X1 : BoxT (w.alloc (.cells #[.int .u64 (at' : Nat), .int .u64 (fl : Nat), .slice p rl c] 77)) w.heap.size #[.int .u64 (at' : Nat), .int .u64 (fl : Nat), .slice p rl c] 77 := BoxT.new _ _ _
  have X2 : BoxT ((w.alloc (.cells #[.int .u64 (at' : Nat), .int .u64 (fl : Nat), .slice p rl c] 77)).alloc (.cells #[.int .u64 0, .int .u64 0, .slice none 0 0] 77)) (w.heap.size + 1) #[.int .u64 0, .int .u64 0, .slice none 0 0] 77 := by rw [← hs1]; exact BoxT.new _ _ _
  have HL : Hid (Below w.heap.size w ((w.alloc (.cells #[.int .u64 (at' : Nat), .int .u64 (fl : Nat), .slice p rl c] 77)).alloc (.cells #[.int .u64 0, .int .u64 0, .slice none 0 0] 77))) := L1.trans (L2.mono (by omega))
  have HX1 : Hid (BoxT _ _ _ _) := X1.on L2
  have HX2 : Hid (BoxT _ _ _ _) := X2
  have a0 : ((w.alloc (.cells #[.int .u64 (at' : Nat), .int .u64 (fl : Nat), .slice p rl c] 77)).alloc (.cells #[.int .u64 0, .int .u64 0, .slice none 0 0] 77)).cell? ⟨w.heap.size, 0, none⟩ = some (.int .u64 (at' : Nat)) := HX1.out.cell
  have a1 : ((w.alloc (.cells #[.int .u64 (at' : Nat), .int .u64 (fl : Nat), .slice p rl c] 77)).alloc (.cells #[.int .u64 0, .int .u64 0, .slice none 0 0] 77)).cell? ⟨w.heap.size, 1, none⟩ = some (.int .u64 (fl : Nat)) := HX1.out.cell
  have a2 : ((w.alloc (.cells #[.int .u64 (at' : Nat), .int .u64 (fl : Nat), .slice p rl c] 77)).alloc (.cells #[.int .u64 0, .int .u64 0, .slice none 0 0] 77)).cell? ⟨w.heap.size, 2, none⟩ = some (.slice p rl c) := HX1.out.cell
  have a3 : ((w.alloc (.cells #[.int .u64 (at' : Nat), .int .u64 (fl : Nat), .slice p rl c] 77)).alloc (.cells #[.int .u64 0, .int .u64 0, .slice none 0 0] 77)).cell? ⟨cb, 0, none⟩ = some (.int .u64 (s : Nat)) := (HL.out.cell (p := ⟨cb, 0, none⟩) hcl).trans hc
  have C1 : Hid (Calls _ _ _ _ _) := enter_any at' fl 0 s (.slice p rl c) R ((w.alloc (.cells #[.int .u64 (at' : Nat), .int .u64 (fl : Nat), .slice p rl c] 77)).alloc (.cells #[.int .u64 0, .int .u64 0, .slice none 0 0] 77)) (h.on HL.out) hI
  clear hs1 L1 L2 X1 X2 h hI hc hcl hrl
  go_enter Try.func42, Try.ntmps42
  go_wp2_with fail
  generalize ((w.alloc (.cells #[.int .u64 (at' : Nat), .int .u64 (fl : Nat), .slice p rl c] 77)).alloc (.cells #[.int .u64 0, .int .u64 0, .slice none 0 0] 77)) = w2 at *
  refine C1.out.mono ?_
  rintro e w3 ⟨⟨v3, rfl, hv3⟩, hb3⟩
  obtain ⟨p3, c3, e3, -⟩ := hv3.rd
  obtain ⟨l3, hl3⟩ : ∃ l, l = (entL fl R s).length := ⟨_, rfl⟩
  rw [← hl3] at e3
  subst e3
  have HV3 : Hid (OwR w3 0 (.slice p3 l3 c3) (entL fl R s)) := hv3
  have HX23 : Hid (BoxT w3 (w.heap.size + 1) #[.int .u64 0, .int .u64 0, .slice none 0 0] 77) := HX2.out.on hb3
  have HL3 : Hid (Below w.heap.size w w3) := HL.out.trans (hb3.mono HL.out.size)
  have g0 : w3.cell? ⟨w.heap.size + 1, 0, none⟩ = some (.int .u64 0) := HX23.out.cell
  have g1 : w3.cell? ⟨w.heap.size + 1, 1, none⟩ = some (.int .u64 0) := HX23.out.cell
  have g2 : w3.cell? ⟨w.heap.size + 1, 2, none⟩ = some (.slice none 0 0) := HX23.out.cell
  have y0 : w3.frozen? ⟨w.heap.size + 1, 0, none⟩ = false := HX23.out.frozen
  have y1 : w3.frozen? ⟨w.heap.size + 1, 1, none⟩ = false := HX23.out.frozen
  have y2 : w3.frozen? ⟨w.heap.size + 1, 2, none⟩ = false := HX23.out.frozen
  have hfz : Frm w3 (((w3.setCell ⟨w.heap.size + 1, 0, none⟩ (.int .u64 (at' : Nat))).setCell ⟨w.heap.size + 1, 1, none⟩ (.int .u64 (fl : Nat))).setCell ⟨w.heap.size + 1, 2, none⟩ (.slice p3 l3 c3)) (fun k => k = w.heap.size + 1) := ((frm_set w3 _ 0 _ (F := fun k => k = w.heap.size + 1) rfl).trans (frm_set _ _ 1 _ (F := fun k => k = w.heap.size + 1) rfl)).trans (frm_set _ _ 2 _ (F := fun k => k = w.heap.size + 1) rfl)
  have HBE : Hid (Below w.heap.size w (((w3.setCell ⟨w.heap.size + 1, 0, none⟩ (.int .u64 (at' : Nat))).setCell ⟨w.heap.size + 1, 1, none⟩ (.int .u64 (fl : Nat))).setCell ⟨w.heap.size + 1, 2, none⟩ (.slice p3 l3 c3))) := HL3.out.trans (hfz.below HL3.out.size (fun k hk => by omega))
  have HVE : Hid (OwR (((w3.setCell ⟨w.heap.size + 1, 0, none⟩ (.int .u64 (at' : Nat))).setCell ⟨w.heap.size + 1, 1, none⟩ (.int .u64 (fl : Nat))).setCell ⟨w.heap.size + 1, 2, none⟩ (.slice p3 l3 c3)) 0 (.slice p3 l3 c3) (entL fl R s)) := HV3.out.frm HX23.out (by decide) hfz
  have hbe : BoxT (((w3.setCell ⟨w.heap.size + 1, 0, none⟩ (.int .u64 (at' : Nat))).setCell ⟨w.heap.size + 1, 1, none⟩ (.int .u64 (fl : Nat))).setCell ⟨w.heap.size + 1, 2, none⟩ (.slice p3 l3 c3)) (w.heap.size + 1) #[.int .u64 (at' : Nat), .int .u64 (fl : Nat), .slice p3 l3 c3] 77 := ((HX23.out.set (i := 0) _).set (i := 1) _).set (i := 2) _
  have q0 := hbe.cell (i := 0)
  have q1 := hbe.cell (i := 1)
  have q2 := hbe.cell (i := 2)
  clear hfz hbe HX23 HV3 hv3 hb3 hl3 C1 HX1 HX2 HL a0 a1 a2 a3
  go_wp2_with fail
  refine bodyPost_ret (v := .tuple #[.agg #[.int .u64 (at' : Nat), .int .u64 (fl : Nat), .slice p3 l3 c3], .int .u64 (entN fl R s : Nat), .int .i64 (entE fl R s)]) (by simp [results, Try.results42, go_sem, q0, q1, q2]) rfl ?_
  exact ⟨⟨_, rfl, HVE.out⟩, HBE.out⟩
set_option maxHeartbeats 2000000 in
theorem cleave_any (at' fl cb : Nat) (n : Int) (v : Value) (R : List Rd) (w : World) (h : OwR w 0 v R) (hI : InvR R) (hc : w.cell? ⟨cb, 0, none⟩ = some (.int .i64 n)) (hcl : cb < w.heap.size) :
    Calls Try.prog 44 #[.agg #[.int .u64 (at' : Nat), .int .u64 (fl : Nat), v], ptr1 cb] w fun e w' => (∃ v', e = .returned (.tuple #[.agg #[.int .u64 (at' : Nat), .int .u64 (fl : Nat), v'], .int .u64 0, .int .i64 (leaE R n)]) ∧ OwR w' 0 v' (goR R n)) ∧ Below w.heap.size w w' := by
  obtain ⟨p, c, ev, -⟩ := h.rd
  obtain ⟨rl, hrl⟩ : ∃ rl, rl = R.length := ⟨_, rfl⟩
  rw [← hrl] at ev
  subst ev
  have hs1 : (w.alloc (.cells #[.int .u64 (at' : Nat), .int .u64 (fl : Nat), .slice p rl c] 77)).heap.size = w.heap.size + 1 := by simp
  have L1 : Below w.heap.size w (w.alloc (.cells #[.int .u64 (at' : Nat), .int .u64 (fl : Nat), .slice p rl c] 77)) := (Below.refl _ _).alloc (Nat.le_refl _) _
  have L2 : Below (w.alloc (.cells #[.int .u64 (at' : Nat), .int .u64 (fl : Nat), .slice p rl c] 77)).heap.size (w.alloc (.cells #[.int .u64 (at' : Nat), .int .u64 (fl : Nat), .slice p rl c] 77)) ((w.alloc (.cells #[.int .u64 (at' : Nat), .int .u64 (fl : Nat), .slice p rl c] 77)).alloc (.cells #[.int .u64 0, .int .u64 0, .slice none 0 0] 77)) := (Below.refl _ _).alloc (Nat.le_refl _) _
  have X1 : BoxT (w.alloc (.cells #[.int .u64 (at' : Nat), .int .u64 (fl : Nat), .slice p rl c] 77)) w.heap.size #[.int .u64 (at' : Nat), .int .u64 (fl : Nat), .slice p rl c] 77 := BoxT.new _ _ _
  have X2 : BoxT ((w.alloc (.cells #[.int .u64 (at' : Nat), .int .u64 (fl : Nat), .slice p rl c] 77)).alloc (.cells #[.int .u64 0, .int .u64 0, .slice none 0 0] 77)) (w.heap.size + 1) #[.int .u64 0, .int .u64 0, .slice none 0 0] 77 := by rw [← hs1]; exact BoxT.new _ _ _
  have HL : Hid (Below w.heap.size w ((w.alloc (.cells #[.int .u64 (at' : Nat), .int .u64 (fl : Nat), .slice p rl c] 77)).alloc (.cells #[.int .u64 0, .int .u64 0, .slice none 0 0] 77))) := L1.trans (L2.mono (by omega))
  have HX1 : Hid (BoxT _ _ _ _) := X1.on L2
  have HX2 : Hid (BoxT _ _ _ _) := X2
  have a0 : ((w.alloc (.cells #[.int .u64 (at' : Nat), .int .u64 (fl : Nat), .slice p rl c] 77)).alloc (.cells #[.int .u64 0, .int .u64 0, .slice none 0 0] 77)).cell? ⟨w.heap.size, 0, none⟩ = some (.int .u64 (at' : Nat)) := HX1.out.cell
  have a1 : ((w.alloc (.cells #[.int .u64 (at' : Nat), .int .u64 (fl : Nat), .slice p rl c] 77)).alloc (.cells #[.int .u64 0, .int .u64 0, .slice none 0 0] 77)).cell? ⟨w.heap.size, 1, none⟩ = some (.int .u64 (fl : Nat)) := HX1.out.cell
  have a2 : ((w.alloc (.cells #[.int .u64 (at' : Nat), .int .u64 (fl : Nat), .slice p rl c] 77)).alloc (.cells #[.int .u64 0, .int .u64 0, .slice none 0 0] 77)).cell? ⟨w.heap.size, 2, none⟩ = some (.slice p rl c) := HX1.out.cell
  have a3 : ((w.alloc (.cells #[.int .u64 (at' : Nat), .int .u64 (fl : Nat), .slice p rl c] 77)).alloc (.cells #[.int .u64 0, .int .u64 0, .slice none 0 0] 77)).cell? ⟨cb, 0, none⟩ = some (.int .i64 n) := (HL.out.cell (p := ⟨cb, 0, none⟩) hcl).trans hc
  have C1 : Hid (Calls _ _ _ _ _) := leave_any at' fl 0 n (.slice p rl c) R ((w.alloc (.cells #[.int .u64 (at' : Nat), .int .u64 (fl : Nat), .slice p rl c] 77)).alloc (.cells #[.int .u64 0, .int .u64 0, .slice none 0 0] 77)) (h.on HL.out) hI
  clear hs1 L1 L2 X1 X2 h hI hc hcl hrl
  go_enter Try.func44, Try.ntmps44
  go_wp2_with fail
  generalize ((w.alloc (.cells #[.int .u64 (at' : Nat), .int .u64 (fl : Nat), .slice p rl c] 77)).alloc (.cells #[.int .u64 0, .int .u64 0, .slice none 0 0] 77)) = w2 at *
  refine C1.out.mono ?_
  rintro e w3 ⟨⟨v3, rfl, hv3⟩, hb3⟩
  obtain ⟨p3, c3, e3, -⟩ := hv3.rd
  obtain ⟨l3, hl3⟩ : ∃ l, l = (goR R n).length := ⟨_, rfl⟩
  rw [← hl3] at e3
  subst e3
  have HV3 : Hid (OwR w3 0 (.slice p3 l3 c3) (goR R n)) := hv3
  have HX23 : Hid (BoxT w3 (w.heap.size + 1) #[.int .u64 0, .int .u64 0, .slice none 0 0] 77) := HX2.out.on hb3
  have HL3 : Hid (Below w.heap.size w w3) := HL.out.trans (hb3.mono HL.out.size)
  have g0 : w3.cell? ⟨w.heap.size + 1, 0, none⟩ = some (.int .u64 0) := HX23.out.cell
  have g1 : w3.cell? ⟨w.heap.size + 1, 1, none⟩ = some (.int .u64 0) := HX23.out.cell
  have g2 : w3.cell? ⟨w.heap.size + 1, 2, none⟩ = some (.slice none 0 0) := HX23.out.cell
  have y0 : w3.frozen? ⟨w.heap.size + 1, 0, none⟩ = false := HX23.out.frozen
  have y1 : w3.frozen? ⟨w.heap.size + 1, 1, none⟩ = false := HX23.out.frozen
  have y2 : w3.frozen? ⟨w.heap.size + 1, 2, none⟩ = false := HX23.out.frozen
  have hfz : Frm w3 (((w3.setCell ⟨w.heap.size + 1, 0, none⟩ (.int .u64 (at' : Nat))).setCell ⟨w.heap.size + 1, 1, none⟩ (.int .u64 (fl : Nat))).setCell ⟨w.heap.size + 1, 2, none⟩ (.slice p3 l3 c3)) (fun k => k = w.heap.size + 1) := ((frm_set w3 _ 0 _ (F := fun k => k = w.heap.size + 1) rfl).trans (frm_set _ _ 1 _ (F := fun k => k = w.heap.size + 1) rfl)).trans (frm_set _ _ 2 _ (F := fun k => k = w.heap.size + 1) rfl)
  have HBE : Hid (Below w.heap.size w (((w3.setCell ⟨w.heap.size + 1, 0, none⟩ (.int .u64 (at' : Nat))).setCell ⟨w.heap.size + 1, 1, none⟩ (.int .u64 (fl : Nat))).setCell ⟨w.heap.size + 1, 2, none⟩ (.slice p3 l3 c3))) := HL3.out.trans (hfz.below HL3.out.size (fun k hk => by omega))
  have HVE : Hid (OwR (((w3.setCell ⟨w.heap.size + 1, 0, none⟩ (.int .u64 (at' : Nat))).setCell ⟨w.heap.size + 1, 1, none⟩ (.int .u64 (fl : Nat))).setCell ⟨w.heap.size + 1, 2, none⟩ (.slice p3 l3 c3)) 0 (.slice p3 l3 c3) (goR R n)) := HV3.out.frm HX23.out (by decide) hfz
  have hbe : BoxT (((w3.setCell ⟨w.heap.size + 1, 0, none⟩ (.int .u64 (at' : Nat))).setCell ⟨w.heap.size + 1, 1, none⟩ (.int .u64 (fl : Nat))).setCell ⟨w.heap.size + 1, 2, none⟩ (.slice p3 l3 c3)) (w.heap.size + 1) #[.int .u64 (at' : Nat), .int .u64 (fl : Nat), .slice p3 l3 c3] 77 := ((HX23.out.set (i := 0) _).set (i := 1) _).set (i := 2) _
  have q0 := hbe.cell (i := 0)
  have q1 := hbe.cell (i := 1)
  have q2 := hbe.cell (i := 2)
  clear hfz hbe HX23 HV3 hv3 hb3 hl3 C1 HX1 HX2 HL a0 a1 a2 a3
  go_wp2_with fail
  refine bodyPost_ret (v := .tuple #[.agg #[.int .u64 (at' : Nat), .int .u64 (fl : Nat), .slice p3 l3 c3], .int .u64 0, .int .i64 (leaE R n)]) (by simp [results, Try.results44, go_sem, q0, q1, q2]) rfl ?_
  exact ⟨⟨_, rfl, HVE.out⟩, HBE.out⟩
set_option maxHeartbeats 2000000 in
theorem craise_any (at' fl cb : Nat) (s : Nat) (v : Value) (R : List Rd) (w : World) (h : OwR w 0 v R) (hI : InvR R) (hc : w.cell? ⟨cb, 0, none⟩ = some (.int .u64 (s : Nat))) (hcl : cb < w.heap.size) :
    Calls Try.prog 47 #[.agg #[.int .u64 (at' : Nat), .int .u64 (fl : Nat), v], ptr1 cb] w fun e w' => (∃ v', e = .returned (.tuple #[.agg #[.int .u64 (at' : Nat), .int .u64 ((raiN fl R s) : Nat), v'], .int .u64 ((raiN fl R s) : Nat), .int .i64 (0)]) ∧ OwR w' 0 v' (R)) ∧ Below w.heap.size w w' := by
  obtain ⟨p, c, ev, -⟩ := h.rd
  obtain ⟨rl, hrl⟩ : ∃ rl, rl = R.length := ⟨_, rfl⟩
  rw [← hrl] at ev
  subst ev
  have hs1 : (w.alloc (.cells #[.int .u64 (at' : Nat), .int .u64 (fl : Nat), .slice p rl c] 77)).heap.size = w.heap.size + 1 := by simp
  have L1 : Below w.heap.size w (w.alloc (.cells #[.int .u64 (at' : Nat), .int .u64 (fl : Nat), .slice p rl c] 77)) := (Below.refl _ _).alloc (Nat.le_refl _) _
  have L2 : Below (w.alloc (.cells #[.int .u64 (at' : Nat), .int .u64 (fl : Nat), .slice p rl c] 77)).heap.size (w.alloc (.cells #[.int .u64 (at' : Nat), .int .u64 (fl : Nat), .slice p rl c] 77)) ((w.alloc (.cells #[.int .u64 (at' : Nat), .int .u64 (fl : Nat), .slice p rl c] 77)).alloc (.cells #[.int .u64 0, .int .u64 0, .slice none 0 0] 77)) := (Below.refl _ _).alloc (Nat.le_refl _) _
  have X1 : BoxT (w.alloc (.cells #[.int .u64 (at' : Nat), .int .u64 (fl : Nat), .slice p rl c] 77)) w.heap.size #[.int .u64 (at' : Nat), .int .u64 (fl : Nat), .slice p rl c] 77 := BoxT.new _ _ _
  have X2 : BoxT ((w.alloc (.cells #[.int .u64 (at' : Nat), .int .u64 (fl : Nat), .slice p rl c] 77)).alloc (.cells #[.int .u64 0, .int .u64 0, .slice none 0 0] 77)) (w.heap.size + 1) #[.int .u64 0, .int .u64 0, .slice none 0 0] 77 := by rw [← hs1]; exact BoxT.new _ _ _
  have HL : Hid (Below w.heap.size w ((w.alloc (.cells #[.int .u64 (at' : Nat), .int .u64 (fl : Nat), .slice p rl c] 77)).alloc (.cells #[.int .u64 0, .int .u64 0, .slice none 0 0] 77))) := L1.trans (L2.mono (by omega))
  have HX1 : Hid (BoxT _ _ _ _) := X1.on L2
  have HX2 : Hid (BoxT _ _ _ _) := X2
  have a0 : ((w.alloc (.cells #[.int .u64 (at' : Nat), .int .u64 (fl : Nat), .slice p rl c] 77)).alloc (.cells #[.int .u64 0, .int .u64 0, .slice none 0 0] 77)).cell? ⟨w.heap.size, 0, none⟩ = some (.int .u64 (at' : Nat)) := HX1.out.cell
  have a1 : ((w.alloc (.cells #[.int .u64 (at' : Nat), .int .u64 (fl : Nat), .slice p rl c] 77)).alloc (.cells #[.int .u64 0, .int .u64 0, .slice none 0 0] 77)).cell? ⟨w.heap.size, 1, none⟩ = some (.int .u64 (fl : Nat)) := HX1.out.cell
  have a2 : ((w.alloc (.cells #[.int .u64 (at' : Nat), .int .u64 (fl : Nat), .slice p rl c] 77)).alloc (.cells #[.int .u64 0, .int .u64 0, .slice none 0 0] 77)).cell? ⟨w.heap.size, 2, none⟩ = some (.slice p rl c) := HX1.out.cell
  have a3 : ((w.alloc (.cells #[.int .u64 (at' : Nat), .int .u64 (fl : Nat), .slice p rl c] 77)).alloc (.cells #[.int .u64 0, .int .u64 0, .slice none 0 0] 77)).cell? ⟨cb, 0, none⟩ = some (.int .u64 (s : Nat)) := (HL.out.cell (p := ⟨cb, 0, none⟩) hcl).trans hc
  have C1 : Hid (Calls _ _ _ _ _) := sraise_any at' fl 0 s (.slice p rl c) R ((w.alloc (.cells #[.int .u64 (at' : Nat), .int .u64 (fl : Nat), .slice p rl c] 77)).alloc (.cells #[.int .u64 0, .int .u64 0, .slice none 0 0] 77)) (h.on HL.out) hI.len
  have HV2 : Hid (OwR _ 0 (.slice p rl c) R) := h.on HL.out
  clear hs1 L1 L2 X1 X2 h hI hc hcl hrl
  go_enter Try.func47, Try.ntmps47
  go_wp2_with fail
  generalize ((w.alloc (.cells #[.int .u64 (at' : Nat), .int .u64 (fl : Nat), .slice p rl c] 77)).alloc (.cells #[.int .u64 0, .int .u64 0, .slice none 0 0] 77)) = w2 at *
  refine C1.out.mono ?_
  rintro e w3 ⟨rfl, hb3⟩
  have hv3 : OwR w3 0 (.slice p rl c) R := HV2.out.on hb3
  have HV3 : Hid (OwR w3 0 (.slice p rl c) (R)) := hv3
  have HX23 : Hid (BoxT w3 (w.heap.size + 1) #[.int .u64 0, .int .u64 0, .slice none 0 0] 77) := HX2.out.on hb3
  have HL3 : Hid (Below w.heap.size w w3) := HL.out.trans (hb3.mono HL.out.size)
  have g0 : w3.cell? ⟨w.heap.size + 1, 0, none⟩ = some (.int .u64 0) := HX23.out.cell
  have g1 : w3.cell? ⟨w.heap.size + 1, 1, none⟩ = some (.int .u64 0) := HX23.out.cell
  have g2 : w3.cell? ⟨w.heap.size + 1, 2, none⟩ = some (.slice none 0 0) := HX23.out.cell
  have y0 : w3.frozen? ⟨w.heap.size + 1, 0, none⟩ = false := HX23.out.frozen
  have y1 : w3.frozen? ⟨w.heap.size + 1, 1, none⟩ = false := HX23.out.frozen
  have y2 : w3.frozen? ⟨w.heap.size + 1, 2, none⟩ = false := HX23.out.frozen
  have hfz : Frm w3 (((w3.setCell ⟨w.heap.size + 1, 0, none⟩ (.int .u64 (at' : Nat))).setCell ⟨w.heap.size + 1, 1, none⟩ (.int .u64 ((raiN fl R s) : Nat))).setCell ⟨w.heap.size + 1, 2, none⟩ (.slice p rl c)) (fun k => k = w.heap.size + 1) := ((frm_set w3 _ 0 _ (F := fun k => k = w.heap.size + 1) rfl).trans (frm_set _ _ 1 _ (F := fun k => k = w.heap.size + 1) rfl)).trans (frm_set _ _ 2 _ (F := fun k => k = w.heap.size + 1) rfl)
  have HBE : Hid (Below w.heap.size w (((w3.setCell ⟨w.heap.size + 1, 0, none⟩ (.int .u64 (at' : Nat))).setCell ⟨w.heap.size + 1, 1, none⟩ (.int .u64 ((raiN fl R s) : Nat))).setCell ⟨w.heap.size + 1, 2, none⟩ (.slice p rl c))) := HL3.out.trans (hfz.below HL3.out.size (fun k hk => by omega))
  have HVE : Hid (OwR (((w3.setCell ⟨w.heap.size + 1, 0, none⟩ (.int .u64 (at' : Nat))).setCell ⟨w.heap.size + 1, 1, none⟩ (.int .u64 ((raiN fl R s) : Nat))).setCell ⟨w.heap.size + 1, 2, none⟩ (.slice p rl c)) 0 (.slice p rl c) (R)) := HV3.out.frm HX23.out (by decide) hfz
  have hbe : BoxT (((w3.setCell ⟨w.heap.size + 1, 0, none⟩ (.int .u64 (at' : Nat))).setCell ⟨w.heap.size + 1, 1, none⟩ (.int .u64 ((raiN fl R s) : Nat))).setCell ⟨w.heap.size + 1, 2, none⟩ (.slice p rl c)) (w.heap.size + 1) #[.int .u64 (at' : Nat), .int .u64 ((raiN fl R s) : Nat), .slice p rl c] 77 := ((HX23.out.set (i := 0) _).set (i := 1) _).set (i := 2) _
  have q0 := hbe.cell (i := 0)
  have q1 := hbe.cell (i := 1)
  have q2 := hbe.cell (i := 2)
  clear hfz hbe HX23 HV3 hv3 hb3 C1 HX1 HX2 HL a0 a1 a2 a3
  go_wp2_with fail
  refine bodyPost_ret (v := .tuple #[.agg #[.int .u64 (at' : Nat), .int .u64 ((raiN fl R s) : Nat), .slice p rl c], .int .u64 ((raiN fl R s) : Nat), .int .i64 (0)]) (by simp [results, Try.results47, go_sem, q0, q1, q2]) rfl ?_
  exact ⟨⟨_, rfl, HVE.out⟩, HBE.out⟩
end Go.Proofs.Ytbmgkoifidhfjaa
