/- Enter, Leave, Raise. -/
import Derived.Test.YtbmgkoifidhfjaaWSnp10
namespace Go.Proofs.Ytbmgkoifidhfjaa
open Go.RowKit
set_option maxRecDepth 100000

theorem field2 (x y z : Int) (w : World) : (Instr.field 60 (.agg #[.int .u64 x, .int .u64 y, .int .i64 z]) 2).run Try.prog w = .ok (.int .i64 z) w := by kernel_rfl
theorem field1 (x y z : Int) (w : World) : (Instr.field 60 (.agg #[.int .u64 x, .int .u64 y, .int .i64 z]) 1).run Try.prog w = .ok (.int .u64 y) w := by kernel_rfl

set_option maxHeartbeats 2000000 in
theorem senter_do (sb fl : Nat) (s : Nat) (R : List Rd) (w : World) (h : Snp w sb fl R) :
    Calls Try.prog 29 #[ptr1 sb, .int .u64 (s : Nat)] w fun e w' => (∃ a2 : Nat, e = .returned (.agg #[.int .u64 (a2 : Nat), .int .u64 (entN fl R s : Nat), .int .i64 (entE fl R s)])) ∧ Snp w' sb (fl) (entL fl R s) ∧ Frm w w' (fun k => k = sb) := by
  have HSL : Hid (sb < w.heap.size) := by obtain ⟨_, _, _, _, hx⟩ := h; exact hx.blk.lt
  have hs1 : (w.alloc (.cells #[.int .u64 (s : Nat)] 22)).heap.size = w.heap.size + 1 := by simp
  have L1 : Below w.heap.size w (w.alloc (.cells #[.int .u64 (s : Nat)] 22)) := (Below.refl _ _).alloc (Nat.le_refl _) _
  have L2 : Below (w.alloc (.cells #[.int .u64 (s : Nat)] 22)).heap.size (w.alloc (.cells #[.int .u64 (s : Nat)] 22)) ((w.alloc (.cells #[.int .u64 (s : Nat)] 22)).alloc (.cells #[.int .u64 0, .int .u64 0, .int .i64 0] 60)) := (Below.refl _ _).alloc (Nat.le_refl _) _
  have X1 : BoxT (w.alloc (.cells #[.int .u64 (s : Nat)] 22)) w.heap.size #[.int .u64 (s : Nat)] 22 := BoxT.new _ _ _
  have X2 : BoxT ((w.alloc (.cells #[.int .u64 (s : Nat)] 22)).alloc (.cells #[.int .u64 0, .int .u64 0, .int .i64 0] 60)) (w.heap.size + 1) #[.int .u64 0, .int .u64 0, .int .i64 0] 60 := by rw [← hs1]; exact BoxT.new _ _ _
  have HL : Hid (Below w.heap.size w ((w.alloc (.cells #[.int .u64 (s : Nat)] 22)).alloc (.cells #[.int .u64 0, .int .u64 0, .int .i64 0] 60))) := L1.trans (L2.mono (by omega))
  have HX2 : Hid (BoxT ((w.alloc (.cells #[.int .u64 (s : Nat)] 22)).alloc (.cells #[.int .u64 0, .int .u64 0, .int .i64 0] 60)) (w.heap.size + 1) #[.int .u64 0, .int .u64 0, .int .i64 0] 60) := X2
  have C1 : Hid (Calls _ _ _ _ _) := tenter_any sb fl w.heap.size s R ((w.alloc (.cells #[.int .u64 (s : Nat)] 22)).alloc (.cells #[.int .u64 0, .int .u64 0, .int .i64 0] 60)) (h.on HL.out) (X1.on L2).cell (X1.on L2).lt (by have := HSL.out; omega)
  clear hs1 L1 L2 X1 X2 h
  go_enter Try.func29, Try.ntmps29
  go_wp2_with fail
  generalize ((w.alloc (.cells #[.int .u64 (s : Nat)] 22)).alloc (.cells #[.int .u64 0, .int .u64 0, .int .i64 0] 60)) = w2 at *
  refine C1.out.mono ?_
  rintro e w3 ⟨⟨a2, rfl⟩, hs3, hf3⟩
  have hsl := HSL.out
  have HX3 : Hid (BoxT w3 (w.heap.size + 1) #[.int .u64 0, .int .u64 0, .int .i64 0] 60) := (hf3.block _ HX2.out.lt (by omega)).trans HX2.out
  have g0 : w3.cell? ⟨w.heap.size + 1, 0, none⟩ = some (.int .u64 0) := HX3.out.cell
  have g1 : w3.cell? ⟨w.heap.size + 1, 1, none⟩ = some (.int .u64 0) := HX3.out.cell
  have g2 : w3.cell? ⟨w.heap.size + 1, 2, none⟩ = some (.int .i64 0) := HX3.out.cell
  have y0 : w3.frozen? ⟨w.heap.size + 1, 0, none⟩ = false := HX3.out.frozen
  have y1 : w3.frozen? ⟨w.heap.size + 1, 1, none⟩ = false := HX3.out.frozen
  have y2 : w3.frozen? ⟨w.heap.size + 1, 2, none⟩ = false := HX3.out.frozen
  have f6 : Frm w3 (((w3.setCell ⟨w.heap.size + 1, 0, none⟩ (.int .u64 (a2 : Nat))).setCell ⟨w.heap.size + 1, 1, none⟩ (.int .u64 (entN fl R s : Nat))).setCell ⟨w.heap.size + 1, 2, none⟩ (.int .i64 (entE fl R s))) (fun k => k = w.heap.size + 1) := ((frm_set w3 _ 0 _ (F := fun k => k = w.heap.size + 1) rfl).trans (frm_set _ _ 1 _ (F := fun k => k = w.heap.size + 1) rfl)).trans (frm_set _ _ 2 _ (F := fun k => k = w.heap.size + 1) rfl)
  have f5 : Frm w w3 (fun k => k = sb) := (Frm.of_below HL.out).trans hf3
  have HF6 : Hid (Frm w (((w3.setCell ⟨w.heap.size + 1, 0, none⟩ (.int .u64 (a2 : Nat))).setCell ⟨w.heap.size + 1, 1, none⟩ (.int .u64 (entN fl R s : Nat))).setCell ⟨w.heap.size + 1, 2, none⟩ (.int .i64 (entE fl R s))) (fun k => k = sb)) := ⟨f6.os.trans f5.os, f6.tape.trans f5.tape, f6.output.trans f5.output, Nat.le_trans f5.size f6.size, fun k hk hn => (f6.block k (Nat.lt_of_lt_of_le hk f5.size) (by omega)).trans (f5.block k hk hn)⟩
  have HS6 : Hid (Snp (((w3.setCell ⟨w.heap.size + 1, 0, none⟩ (.int .u64 (a2 : Nat))).setCell ⟨w.heap.size + 1, 1, none⟩ (.int .u64 (entN fl R s : Nat))).setCell ⟨w.heap.size + 1, 2, none⟩ (.int .i64 (entE fl R s))) sb (fl) (entL fl R s)) := by
    obtain ⟨tb, a, v, ha, hx⟩ := hs3
    have h1 := hx.sta.ne HX3.out (by decide)
    have h2 := hx.blk.ne HX3.out (by decide)
    exact ⟨tb, a, v, ha, ((hx.blk.off _ h2).off _ h2).off _ h2, ((hx.sta.off _ h1).off _ h1).off _ h1, hx.rdr.frm HX3.out (by decide) f6, hx.inv⟩
  have hbe : BoxT (((w3.setCell ⟨w.heap.size + 1, 0, none⟩ (.int .u64 (a2 : Nat))).setCell ⟨w.heap.size + 1, 1, none⟩ (.int .u64 (entN fl R s : Nat))).setCell ⟨w.heap.size + 1, 2, none⟩ (.int .i64 (entE fl R s))) (w.heap.size + 1) #[.int .u64 (a2 : Nat), .int .u64 (entN fl R s : Nat), .int .i64 (entE fl R s)] 60 := ((HX3.out.set (i := 0) _).set (i := 1) _).set (i := 2) _
  have q0 := hbe.cell (i := 0)
  have q1 := hbe.cell (i := 1)
  have q2 := hbe.cell (i := 2)
  clear hbe f6 f5 hs3 hf3 hsl HX3 HX2 HL C1
  go_wp2_with fail
  refine bodyPost_ret (v := .agg #[.int .u64 (a2 : Nat), .int .u64 (entN fl R s : Nat), .int .i64 (entE fl R s)]) (by simp [results, Try.results29, go_sem, q0, q1, q2]) rfl ?_
  exact ⟨⟨a2, rfl⟩, HS6.out, HF6.out⟩
set_option maxHeartbeats 2000000 in
theorem sleave_do (sb fl : Nat) (n : Int) (R : List Rd) (w : World) (h : Snp w sb fl R) :
    Calls Try.prog 30 #[ptr1 sb, .int .i64 n] w fun e w' => (∃ a2 : Nat, e = .returned (.agg #[.int .u64 (a2 : Nat), .int .u64 0, .int .i64 (leaE R n)])) ∧ Snp w' sb (fl) (goR R n) ∧ Frm w w' (fun k => k = sb) := by
  have HSL : Hid (sb < w.heap.size) := by obtain ⟨_, _, _, _, hx⟩ := h; exact hx.blk.lt
  have hs1 : (w.alloc (.cells #[.int .i64 n] 3)).heap.size = w.heap.size + 1 := by simp
  have L1 : Below w.heap.size w (w.alloc (.cells #[.int .i64 n] 3)) := (Below.refl _ _).alloc (Nat.le_refl _) _
  have L2 : Below (w.alloc (.cells #[.int .i64 n] 3)).heap.size (w.alloc (.cells #[.int .i64 n] 3)) ((w.alloc (.cells #[.int .i64 n] 3)).alloc (.cells #[.int .u64 0, .int .u64 0, .int .i64 0] 60)) := (Below.refl _ _).alloc (Nat.le_refl _) _
  have X1 : BoxT (w.alloc (.cells #[.int .i64 n] 3)) w.heap.size #[.int .i64 n] 3 := BoxT.new _ _ _
  have X2 : BoxT ((w.alloc (.cells #[.int .i64 n] 3)).alloc (.cells #[.int .u64 0, .int .u64 0, .int .i64 0] 60)) (w.heap.size + 1) #[.int .u64 0, .int .u64 0, .int .i64 0] 60 := by rw [← hs1]; exact BoxT.new _ _ _
  have HL : Hid (Below w.heap.size w ((w.alloc (.cells #[.int .i64 n] 3)).alloc (.cells #[.int .u64 0, .int .u64 0, .int .i64 0] 60))) := L1.trans (L2.mono (by omega))
  have HX2 : Hid (BoxT ((w.alloc (.cells #[.int .i64 n] 3)).alloc (.cells #[.int .u64 0, .int .u64 0, .int .i64 0] 60)) (w.heap.size + 1) #[.int .u64 0, .int .u64 0, .int .i64 0] 60) := X2
  have C1 : Hid (Calls _ _ _ _ _) := tleave_any sb fl w.heap.size n R ((w.alloc (.cells #[.int .i64 n] 3)).alloc (.cells #[.int .u64 0, .int .u64 0, .int .i64 0] 60)) (h.on HL.out) (X1.on L2).cell (X1.on L2).lt (by have := HSL.out; omega)
  clear hs1 L1 L2 X1 X2 h
  go_enter Try.func30, Try.ntmps30
  go_wp2_with fail
  generalize ((w.alloc (.cells #[.int .i64 n] 3)).alloc (.cells #[.int .u64 0, .int .u64 0, .int .i64 0] 60)) = w2 at *
  refine C1.out.mono ?_
  rintro e w3 ⟨⟨a2, rfl⟩, hs3, hf3⟩
  have hsl := HSL.out
  have HX3 : Hid (BoxT w3 (w.heap.size + 1) #[.int .u64 0, .int .u64 0, .int .i64 0] 60) := (hf3.block _ HX2.out.lt (by omega)).trans HX2.out
  have g0 : w3.cell? ⟨w.heap.size + 1, 0, none⟩ = some (.int .u64 0) := HX3.out.cell
  have g1 : w3.cell? ⟨w.heap.size + 1, 1, none⟩ = some (.int .u64 0) := HX3.out.cell
  have g2 : w3.cell? ⟨w.heap.size + 1, 2, none⟩ = some (.int .i64 0) := HX3.out.cell
  have y0 : w3.frozen? ⟨w.heap.size + 1, 0, none⟩ = false := HX3.out.frozen
  have y1 : w3.frozen? ⟨w.heap.size + 1, 1, none⟩ = false := HX3.out.frozen
  have y2 : w3.frozen? ⟨w.heap.size + 1, 2, none⟩ = false := HX3.out.frozen
  have f6 : Frm w3 (((w3.setCell ⟨w.heap.size + 1, 0, none⟩ (.int .u64 (a2 : Nat))).setCell ⟨w.heap.size + 1, 1, none⟩ (.int .u64 0)).setCell ⟨w.heap.size + 1, 2, none⟩ (.int .i64 (leaE R n))) (fun k => k = w.heap.size + 1) := ((frm_set w3 _ 0 _ (F := fun k => k = w.heap.size + 1) rfl).trans (frm_set _ _ 1 _ (F := fun k => k = w.heap.size + 1) rfl)).trans (frm_set _ _ 2 _ (F := fun k => k = w.heap.size + 1) rfl)
  have f5 : Frm w w3 (fun k => k = sb) := (Frm.of_below HL.out).trans hf3
  have HF6 : Hid (Frm w (((w3.setCell ⟨w.heap.size + 1, 0, none⟩ (.int .u64 (a2 : Nat))).setCell ⟨w.heap.size + 1, 1, none⟩ (.int .u64 0)).setCell ⟨w.heap.size + 1, 2, none⟩ (.int .i64 (leaE R n))) (fun k => k = sb)) := ⟨f6.os.trans f5.os, f6.tape.trans f5.tape, f6.output.trans f5.output, Nat.le_trans f5.size f6.size, fun k hk hn => (f6.block k (Nat.lt_of_lt_of_le hk f5.size) (by omega)).trans (f5.block k hk hn)⟩
  have HS6 : Hid (Snp (((w3.setCell ⟨w.heap.size + 1, 0, none⟩ (.int .u64 (a2 : Nat))).setCell ⟨w.heap.size + 1, 1, none⟩ (.int .u64 0)).setCell ⟨w.heap.size + 1, 2, none⟩ (.int .i64 (leaE R n))) sb (fl) (goR R n)) := by
    obtain ⟨tb, a, v, ha, hx⟩ := hs3
    have h1 := hx.sta.ne HX3.out (by decide)
    have h2 := hx.blk.ne HX3.out (by decide)
    exact ⟨tb, a, v, ha, ((hx.blk.off _ h2).off _ h2).off _ h2, ((hx.sta.off _ h1).off _ h1).off _ h1, hx.rdr.frm HX3.out (by decide) f6, hx.inv⟩
  have hbe : BoxT (((w3.setCell ⟨w.heap.size + 1, 0, none⟩ (.int .u64 (a2 : Nat))).setCell ⟨w.heap.size + 1, 1, none⟩ (.int .u64 0)).setCell ⟨w.heap.size + 1, 2, none⟩ (.int .i64 (leaE R n))) (w.heap.size + 1) #[.int .u64 (a2 : Nat), .int .u64 0, .int .i64 (leaE R n)] 60 := ((HX3.out.set (i := 0) _).set (i := 1) _).set (i := 2) _
  have q0 := hbe.cell (i := 0)
  have q1 := hbe.cell (i := 1)
  have q2 := hbe.cell (i := 2)
  clear hbe f6 f5 hs3 hf3 hsl HX3 HX2 HL C1
  go_wp2_with fail
  refine bodyPost_ret (v := .agg #[.int .u64 (a2 : Nat), .int .u64 0, .int .i64 (leaE R n)]) (by simp [results, Try.results30, go_sem, q0, q1, q2]) rfl ?_
  exact ⟨⟨a2, rfl⟩, HS6.out, HF6.out⟩
set_option maxHeartbeats 2000000 in
theorem sraise_do (sb fl : Nat) (s : Nat) (R : List Rd) (w : World) (h : Snp w sb fl R) :
    Calls Try.prog 32 #[ptr1 sb, .int .u64 (s : Nat)] w fun e w' => (∃ a2 : Nat, e = .returned (.agg #[.int .u64 (a2 : Nat), .int .u64 ((raiN fl R s) : Nat), .int .i64 (0)])) ∧ Snp w' sb ((raiN fl R s)) (R) ∧ Frm w w' (fun k => k = sb) := by
  have HSL : Hid (sb < w.heap.size) := by obtain ⟨_, _, _, _, hx⟩ := h; exact hx.blk.lt
  have hs1 : (w.alloc (.cells #[.int .u64 (s : Nat)] 22)).heap.size = w.heap.size + 1 := by simp
  have L1 : Below w.heap.size w (w.alloc (.cells #[.int .u64 (s : Nat)] 22)) := (Below.refl _ _).alloc (Nat.le_refl _) _
  have L2 : Below (w.alloc (.cells #[.int .u64 (s : Nat)] 22)).heap.size (w.alloc (.cells #[.int .u64 (s : Nat)] 22)) ((w.alloc (.cells #[.int .u64 (s : Nat)] 22)).alloc (.cells #[.int .u64 0, .int .u64 0, .int .i64 0] 60)) := (Below.refl _ _).alloc (Nat.le_refl _) _
  have X1 : BoxT (w.alloc (.cells #[.int .u64 (s : Nat)] 22)) w.heap.size #[.int .u64 (s : Nat)] 22 := BoxT.new _ _ _
  have X2 : BoxT ((w.alloc (.cells #[.int .u64 (s : Nat)] 22)).alloc (.cells #[.int .u64 0, .int .u64 0, .int .i64 0] 60)) (w.heap.size + 1) #[.int .u64 0, .int .u64 0, .int .i64 0] 60 := by rw [← hs1]; exact BoxT.new _ _ _
  have HL : Hid (Below w.heap.size w ((w.alloc (.cells #[.int .u64 (s : Nat)] 22)).alloc (.cells #[.int .u64 0, .int .u64 0, .int .i64 0] 60))) := L1.trans (L2.mono (by omega))
  have HX2 : Hid (BoxT ((w.alloc (.cells #[.int .u64 (s : Nat)] 22)).alloc (.cells #[.int .u64 0, .int .u64 0, .int .i64 0] 60)) (w.heap.size + 1) #[.int .u64 0, .int .u64 0, .int .i64 0] 60) := X2
  have C1 : Hid (Calls _ _ _ _ _) := traise_any sb fl w.heap.size s R ((w.alloc (.cells #[.int .u64 (s : Nat)] 22)).alloc (.cells #[.int .u64 0, .int .u64 0, .int .i64 0] 60)) (h.on HL.out) (X1.on L2).cell (X1.on L2).lt (by have := HSL.out; omega)
  clear hs1 L1 L2 X1 X2 h
  go_enter Try.func32, Try.ntmps32
  go_wp2_with fail
  generalize ((w.alloc (.cells #[.int .u64 (s : Nat)] 22)).alloc (.cells #[.int .u64 0, .int .u64 0, .int .i64 0] 60)) = w2 at *
  refine C1.out.mono ?_
  rintro e w3 ⟨⟨a2, rfl⟩, hs3, hf3⟩
  have hsl := HSL.out
  have HX3 : Hid (BoxT w3 (w.heap.size + 1) #[.int .u64 0, .int .u64 0, .int .i64 0] 60) := (hf3.block _ HX2.out.lt (by omega)).trans HX2.out
  have g0 : w3.cell? ⟨w.heap.size + 1, 0, none⟩ = some (.int .u64 0) := HX3.out.cell
  have g1 : w3.cell? ⟨w.heap.size + 1, 1, none⟩ = some (.int .u64 0) := HX3.out.cell
  have g2 : w3.cell? ⟨w.heap.size + 1, 2, none⟩ = some (.int .i64 0) := HX3.out.cell
  have y0 : w3.frozen? ⟨w.heap.size + 1, 0, none⟩ = false := HX3.out.frozen
  have y1 : w3.frozen? ⟨w.heap.size + 1, 1, none⟩ = false := HX3.out.frozen
  have y2 : w3.frozen? ⟨w.heap.size + 1, 2, none⟩ = false := HX3.out.frozen
  have f6 : Frm w3 (((w3.setCell ⟨w.heap.size + 1, 0, none⟩ (.int .u64 (a2 : Nat))).setCell ⟨w.heap.size + 1, 1, none⟩ (.int .u64 ((raiN fl R s) : Nat))).setCell ⟨w.heap.size + 1, 2, none⟩ (.int .i64 (0))) (fun k => k = w.heap.size + 1) := ((frm_set w3 _ 0 _ (F := fun k => k = w.heap.size + 1) rfl).trans (frm_set _ _ 1 _ (F := fun k => k = w.heap.size + 1) rfl)).trans (frm_set _ _ 2 _ (F := fun k => k = w.heap.size + 1) rfl)
  have f5 : Frm w w3 (fun k => k = sb) := (Frm.of_below HL.out).trans hf3
  have HF6 : Hid (Frm w (((w3.setCell ⟨w.heap.size + 1, 0, none⟩ (.int .u64 (a2 : Nat))).setCell ⟨w.heap.size + 1, 1, none⟩ (.int .u64 ((raiN fl R s) : Nat))).setCell ⟨w.heap.size + 1, 2, none⟩ (.int .i64 (0))) (fun k => k = sb)) := ⟨f6.os.trans f5.os, f6.tape.trans f5.tape, f6.output.trans f5.output, Nat.le_trans f5.size f6.size, fun k hk hn => (f6.block k (Nat.lt_of_lt_of_le hk f5.size) (by omega)).trans (f5.block k hk hn)⟩
  have HS6 : Hid (Snp (((w3.setCell ⟨w.heap.size + 1, 0, none⟩ (.int .u64 (a2 : Nat))).setCell ⟨w.heap.size + 1, 1, none⟩ (.int .u64 ((raiN fl R s) : Nat))).setCell ⟨w.heap.size + 1, 2, none⟩ (.int .i64 (0))) sb ((raiN fl R s)) (R)) := by
    obtain ⟨tb, a, v, ha, hx⟩ := hs3
    have h1 := hx.sta.ne HX3.out (by decide)
    have h2 := hx.blk.ne HX3.out (by decide)
    exact ⟨tb, a, v, ha, ((hx.blk.off _ h2).off _ h2).off _ h2, ((hx.sta.off _ h1).off _ h1).off _ h1, hx.rdr.frm HX3.out (by decide) f6, hx.inv⟩
  have hbe : BoxT (((w3.setCell ⟨w.heap.size + 1, 0, none⟩ (.int .u64 (a2 : Nat))).setCell ⟨w.heap.size + 1, 1, none⟩ (.int .u64 ((raiN fl R s) : Nat))).setCell ⟨w.heap.size + 1, 2, none⟩ (.int .i64 (0))) (w.heap.size + 1) #[.int .u64 (a2 : Nat), .int .u64 ((raiN fl R s) : Nat), .int .i64 (0)] 60 := ((HX3.out.set (i := 0) _).set (i := 1) _).set (i := 2) _
  have q0 := hbe.cell (i := 0)
  have q1 := hbe.cell (i := 1)
  have q2 := hbe.cell (i := 2)
  clear hbe f6 f5 hs3 hf3 hsl HX3 HX2 HL C1
  go_wp2_with fail
  refine bodyPost_ret (v := .agg #[.int .u64 (a2 : Nat), .int .u64 ((raiN fl R s) : Nat), .int .i64 (0)]) (by simp [results, Try.results32, go_sem, q0, q1, q2]) rfl ?_
  exact ⟨⟨a2, rfl⟩, HS6.out, HF6.out⟩
set_option maxHeartbeats 2000000 in
theorem Leave_any (sb fl : Nat) (n : Int) (R : List Rd) (w : World) (h : Snp w sb fl R) :
    Calls Try.prog 14 #[ptr1 sb, .int .i64 n] w fun e w' => e = .returned (.int .i64 (leaE R n)) ∧ Snp w' sb (fl) (goR R n) ∧ Frm w w' (fun k => k = sb) := by
  have C1 : Hid (Calls Try.prog 28 #[ptr1 sb] w fun e w' => e = .returned (.bool true) ∧ w' = w) := by
    obtain ⟨tb, at', v, _, hx⟩ := h
    exact given_any w sb tb at' fl v R hx
  have C2 : Hid (Calls _ _ _ _ _) := sleave_do sb fl n R w h
  clear h
  go_enter Try.func14, Try.ntmps14
  go_wp2_with fail
  refine C1.out.mono ?_
  rintro e w2 ⟨rfl, rfl⟩
  go_wp2_with fail
  refine C2.out.mono ?_
  rintro e w3 ⟨⟨a2, rfl⟩, hs3, hf3⟩
  have HS3 : Hid (Snp w3 sb (fl) (goR R n)) := hs3
  have HF3 : Hid (Frm w2 w3 (fun k => k = sb)) := hf3
  clear hs3 hf3 C1 C2
  have hfd := field2 a2 0 (leaE R n) w3
  go_wp2_with fail
  go_ret
  exact ⟨rfl, HS3.out, HF3.out⟩
set_option maxHeartbeats 2000000 in
theorem Raise_any (sb fl : Nat) (s : Nat) (R : List Rd) (w : World) (h : Snp w sb fl R) :
    Calls Try.prog 16 #[ptr1 sb, .int .u64 (s : Nat)] w fun e w' => e = .returned (.int .u64 (raiN fl R s : Nat)) ∧ Snp w' sb (raiN fl R s) (R) ∧ Frm w w' (fun k => k = sb) := by
  have C1 : Hid (Calls Try.prog 28 #[ptr1 sb] w fun e w' => e = .returned (.bool true) ∧ w' = w) := by
    obtain ⟨tb, at', v, _, hx⟩ := h
    exact given_any w sb tb at' fl v R hx
  have C2 : Hid (Calls _ _ _ _ _) := sraise_do sb fl s R w h
  clear h
  go_enter Try.func16, Try.ntmps16
  go_wp2_with fail
  refine C1.out.mono ?_
  rintro e w2 ⟨rfl, rfl⟩
  go_wp2_with fail
  refine C2.out.mono ?_
  rintro e w3 ⟨⟨a2, rfl⟩, hs3, hf3⟩
  have HS3 : Hid (Snp w3 sb (raiN fl R s) (R)) := hs3
  have HF3 : Hid (Frm w2 w3 (fun k => k = sb)) := hf3
  clear hs3 hf3 C1 C2
  have hfd := field1 a2 (raiN fl R s : Nat) 0 w3
  go_wp2_with fail
  go_ret
  exact ⟨rfl, HS3.out, HF3.out⟩
set_option maxHeartbeats 2000000 in
theorem Enter_any (sb fl : Nat) (s : Nat) (R : List Rd) (w : World) (h : Snp w sb fl R) :
    Calls Try.prog 13 #[ptr1 sb, .int .u64 (s : Nat)] w fun e w' => e = .returned (.tuple #[.int .i64 (entN fl R s : Nat), .int .i64 (entE fl R s)]) ∧ Snp w' sb (fl) (entL fl R s) ∧ Frm w w' (fun k => k = sb) := by
  have C1 : Hid (Calls Try.prog 28 #[ptr1 sb] w fun e w' => e = .returned (.bool true) ∧ w' = w) := by
    obtain ⟨tb, at', v, _, hx⟩ := h
    exact given_any w sb tb at' fl v R hx
  have C2 : Hid (Calls _ _ _ _ _) := senter_do sb fl s R w h
  have hN : entN fl R s ≤ 256 := by
    obtain ⟨tb, at', v, _, hx⟩ := h
    unfold entN
    split
    · have h1 := (free_is hx.inv).1
      have h2 := hx.inv.len
      omega
    · omega
  clear h
  go_enter Try.func13, Try.ntmps13
  go_wp2_with fail
  refine C1.out.mono ?_
  rintro e w2 ⟨rfl, rfl⟩
  go_wp2_with fail
  refine C2.out.mono ?_
  rintro e w3 ⟨⟨a2, rfl⟩, hs3, hf3⟩
  have HS3 : Hid (Snp w3 sb (fl) (entL fl R s)) := hs3
  have HF3 : Hid (Frm w2 w3 (fun k => k = sb)) := hf3
  clear hs3 hf3 C1 C2
  have HL : Hid (Below w3.heap.size w3 (w3.alloc (.cells #[.int .u64 (a2 : Nat), .int .u64 (entN fl R s : Nat), .int .i64 (entE fl R s)] 60))) := (Below.refl _ _).alloc (Nat.le_refl _) _
  have hb := BoxT.new w3 #[.int .u64 (a2 : Nat), .int .u64 (entN fl R s : Nat), .int .i64 (entE fl R s)] 60
  have q1 : (w3.alloc (.cells #[.int .u64 (a2 : Nat), .int .u64 (entN fl R s : Nat), .int .i64 (entE fl R s)] 60)).cell? ⟨w3.heap.size, 1, none⟩ = some (.int .u64 (entN fl R s : Nat)) := hb.cell
  have q2 : (w3.alloc (.cells #[.int .u64 (a2 : Nat), .int .u64 (entN fl R s : Nat), .int .i64 (entE fl R s)] 60)).cell? ⟨w3.heap.size, 2, none⟩ = some (.int .i64 (entE fl R s)) := hb.cell
  have hwn : IntKind.i64.wrap (entN fl R s : Nat) = (entN fl R s : Nat) := by rw [IntKind.wrap_i64]; omega
  clear hb
  obtain ⟨en, hen⟩ : ∃ en, en = entN fl R s := ⟨_, rfl⟩
  obtain ⟨ee, hee⟩ : ∃ ee, ee = entE fl R s := ⟨_, rfl⟩
  have HEN : Hid (en = entN fl R s ∧ ee = entE fl R s) := ⟨hen, hee⟩
  rw [← hen, ← hee] at q1 q2 HL
  rw [← hen] at hwn hN
  rw [← hen, ← hee]
  clear hen hee
  go_wp2_with fail
  go_region
  go_wp2_with fail
  refine bodyPost_ret (results_tmp2 rfl _ _ _) rfl ?_
  refine ⟨by rw [← HEN.out.1, ← HEN.out.2]; rfl, (HS3.out.on HL.out).drew, ?_⟩
  have f := HF3.out.trans (Frm.of_below HL.out)
  exact ⟨f.os, f.tape, f.output, f.size, f.block⟩
end Go.Proofs.Ytbmgkoifidhfjaa
