/- turn. -/
import Derived.Test.YtbmgkoifidhfjaaWSnp9
namespace Go.Proofs.Ytbmgkoifidhfjaa
open Go.RowKit
set_option maxRecDepth 100000

set_option maxHeartbeats 4000000 in
theorem tenter_any (sb fl cb : Nat) (s : Nat) (R : List Rd) (w : World) (h : Snp w sb fl R) (hc : w.cell? ⟨cb, 0, none⟩ = some (.int .u64 (s : Nat))) (hcl : cb < w.heap.size) (_hcs : cb ≠ sb) :
    Calls Try.prog 41 #[ptr1 sb, .func (.func 42) #[] #[ptr1 cb]] w fun e w' => (∃ a2 : Nat, e = .returned (.agg #[.int .u64 (a2 : Nat), .int .u64 (entN fl R s : Nat), .int .i64 (entE fl R s)])) ∧ Snp w' sb (fl) (entL fl R s) ∧ Frm w w' (fun k => k = sb) := by
  obtain ⟨tb, at', v, hat, h⟩ := h
  obtain ⟨p, c, ev, -⟩ := h.rdr.rd
  obtain ⟨rl, hrl⟩ : ∃ rl, rl = R.length := ⟨_, rfl⟩
  rw [← hrl] at ev
  subst ev
  have L1 : Below w.heap.size w (w.alloc (.cells #[.int .u64 0, .int .u64 0, .int .i64 0] 60)) := (Below.refl _ _).alloc (Nat.le_refl _) _
  have X1 : BoxT (w.alloc (.cells #[.int .u64 0, .int .u64 0, .int .i64 0] 60)) w.heap.size #[.int .u64 0, .int .u64 0, .int .i64 0] 60 := BoxT.new _ _ _
  have HX1 : Hid (BoxT (w.alloc (.cells #[.int .u64 0, .int .u64 0, .int .i64 0] 60)) w.heap.size #[.int .u64 0, .int .u64 0, .int .i64 0] 60) := X1
  have HL1 : Hid (Below w.heap.size w (w.alloc (.cells #[.int .u64 0, .int .u64 0, .int .i64 0] 60))) := L1
  have H1 : Hid (SnX (w.alloc (.cells #[.int .u64 0, .int .u64 0, .int .i64 0] 60)) sb tb at' fl (.slice p rl c) R) := h.on L1
  have HC1 : Hid ((w.alloc (.cells #[.int .u64 0, .int .u64 0, .int .i64 0] 60)).cell? ⟨cb, 0, none⟩ = some (.int .u64 (s : Nat))) := (L1.cell (p := ⟨cb, 0, none⟩) hcl).trans hc
  have HCL : Hid (cb < (w.alloc (.cells #[.int .u64 0, .int .u64 0, .int .i64 0] 60)).heap.size) := Nat.lt_of_lt_of_le hcl L1.size
  have HSBL : Hid (sb < w.heap.size) := h.blk.lt
  have HAT : Hid (at' < 18446744073709551616) := hat
  clear L1 X1 h hc hcl hrl hat
  go_enter Try.func41, Try.ntmps41
  go_wp2_with fail
  generalize (w.alloc (.cells #[.int .u64 0, .int .u64 0, .int .i64 0] 60)) = w1 at *
  go_loopw [] (fun wr => wr = w1) (fun _ => 0)
  case atStart => rfl
  case round =>
    rw [hrel]
    clear hrel
    have C1 : Hid (Calls _ _ _ _ _) := pload_any sb tb _ _ _ w1 H1.out.blk.cell H1.out.sta
    have C2 : Hid (Calls _ _ _ _ _) := center_any at' fl cb s (.slice p rl c) R w1 H1.out.rdr H1.out.inv HC1.out HCL.out
    have n0 : w1.cell? ⟨tb, 0, none⟩ = some (.int .u64 (at' : Nat)) := H1.out.sta.cell
    have n1 : w1.cell? ⟨tb, 1, none⟩ = some (.int .u64 (fl : Nat)) := H1.out.sta.cell
    have n2 : w1.cell? ⟨tb, 2, none⟩ = some (.slice p rl c) := H1.out.sta.cell
    go_wp2_with fail
    refine C1.out.mono ?_
    rintro e w2 ⟨rfl, rfl⟩
    go_wp2_with fail
    refine C2.out.mono ?_
    rintro e wa ⟨⟨v3, rfl, hv3⟩, hb3⟩
    obtain ⟨p3, c3, e3, -⟩ := hv3.rd
    obtain ⟨l3, hl3⟩ : ∃ l, l = (entL fl R s).length := ⟨_, rfl⟩
    rw [← hl3] at e3
    subst e3
    obtain ⟨a2, ha2, ha2lt⟩ : ∃ a2 : Nat, IntKind.u64.wrap ((at' : Int) + 1) = (a2 : Int) ∧ a2 < 18446744073709551616 := ⟨(at' + 1) % 18446744073709551616, by rw [IntKind.wrap_u64]; omega, by omega⟩
    have HA2 : Hid (a2 < 18446744073709551616) := ha2lt
    have L4 : Below wa.heap.size wa (wa.alloc (.cells #[.int .u64 (a2 : Nat), .int .u64 (fl : Nat), .slice p3 l3 c3] 77)) := (Below.refl _ _).alloc (Nat.le_refl _) _
    have X4 : BoxT (wa.alloc (.cells #[.int .u64 (a2 : Nat), .int .u64 (fl : Nat), .slice p3 l3 c3] 77)) wa.heap.size #[.int .u64 (a2 : Nat), .int .u64 (fl : Nat), .slice p3 l3 c3] 77 := BoxT.new _ _ _
    have H3 : SnX wa sb tb at' fl (.slice p rl c) R := H1.out.on hb3
    have H4 : Hid (SnX (wa.alloc (.cells #[.int .u64 (a2 : Nat), .int .u64 (fl : Nat), .slice p3 l3 c3] 77)) sb tb at' fl (.slice p rl c) R) := H3.on L4
    have HX4 : Hid (BoxT (wa.alloc (.cells #[.int .u64 (a2 : Nat), .int .u64 (fl : Nat), .slice p3 l3 c3] 77)) wa.heap.size #[.int .u64 (a2 : Nat), .int .u64 (fl : Nat), .slice p3 l3 c3] 77) := X4
    have HV4 : Hid (OwR (wa.alloc (.cells #[.int .u64 (a2 : Nat), .int .u64 (fl : Nat), .slice p3 l3 c3] 77)) 0 (.slice p3 l3 c3) (entL fl R s)) := hv3.on L4
    have HD4 : Hid (BoxT (wa.alloc (.cells #[.int .u64 (a2 : Nat), .int .u64 (fl : Nat), .slice p3 l3 c3] 77)) w.heap.size #[.int .u64 0, .int .u64 0, .int .i64 0] 60) := (HX1.out.on hb3).on L4
    have HF4 : Hid (Frm w (wa.alloc (.cells #[.int .u64 (a2 : Nat), .int .u64 (fl : Nat), .slice p3 l3 c3] 77)) (fun k => k = sb)) := ((Frm.of_below HL1.out).trans (Frm.of_below hb3)).trans (Frm.of_below L4)
    have HSA : Hid (w.heap.size < wa.heap.size) := Nat.lt_of_lt_of_le HX1.out.lt hb3.size
    have m0 : wa.cell? ⟨tb, 0, none⟩ = some (.int .u64 (at' : Nat)) := H3.sta.cell
    have hne : tb ≠ wa.heap.size := by have := H3.sta.lt; omega
    have C3 : Hid (Calls _ _ _ _ _) := pcas_any sb tb wa.heap.size _ _ _ _ _ _ (wa.alloc (.cells #[.int .u64 (a2 : Nat), .int .u64 (fl : Nat), .slice p3 l3 c3] 77)) H4.out.blk.cell H4.out.blk.frozen H4.out.sta X4
    have k0 : (wa.alloc (.cells #[.int .u64 (at' : Nat), .int .u64 (fl : Nat), .slice p3 l3 c3] 77)).cell? ⟨tb, 0, none⟩ = some (.int .u64 (at' : Nat)) := (H3.on ((Below.refl _ _).alloc (Nat.le_refl _) _)).sta.cell
    have HIN : Hid (InvR (entL fl R s)) := entL_inv H1.out.inv
    clear L4 X4 H3 hv3 hb3 hl3 ha2lt C1 C2 n0 n1 n2 HC1 HCL H1
    go_wp2_with fail
    generalize hNS : (wa.alloc (.cells #[.int .u64 (a2 : Nat), .int .u64 (fl : Nat), .slice p3 l3 c3] 77)) = w4 at *
    refine C3.out.mono ?_
    rintro e w5 ⟨rfl, rfl⟩
    have X5 : BoxT (w4.setCell ⟨sb, 1, none⟩ (ptr1 wa.heap.size)) wa.heap.size #[.int .u64 (a2 : Nat), .int .u64 (fl : Nat), .slice p3 l3 c3] 77 := HX4.out.off _ (by have := HSA.out; have := HSBL.out; omega)
    have D5 : BoxT (w4.setCell ⟨sb, 1, none⟩ (ptr1 wa.heap.size)) w.heap.size #[.int .u64 0, .int .u64 0, .int .i64 0] 60 := HD4.out.off _ (by have := HSBL.out; omega)
    have S5 : BoxT (w4.setCell ⟨sb, 1, none⟩ (ptr1 wa.heap.size)) sb #[ptr1 sb, ptr1 wa.heap.size] 74 := H4.out.blk.set (i := 1) _
    have F5 : Frm w4 (w4.setCell ⟨sb, 1, none⟩ (ptr1 wa.heap.size)) (fun k => k = sb) := frm_set _ _ _ _ rfl
    have HV5 : Hid (OwR (w4.setCell ⟨sb, 1, none⟩ (ptr1 wa.heap.size)) 0 (.slice p3 l3 c3) (entL fl R s)) := HV4.out.frm H4.out.blk (by decide) F5
    have HF5 : Hid (Frm w (w4.setCell ⟨sb, 1, none⟩ (ptr1 wa.heap.size)) (fun k => k = sb)) := HF4.out.trans F5
    have HX5 : Hid (BoxT _ _ _ _) := X5
    have HD5 : Hid (BoxT _ _ _ _) := D5
    have HS5 : Hid (BoxT _ _ _ _) := S5
    clear X5 D5 S5 F5 C3 hNS HX4 HD4 H4 HV4 HF4
    generalize (w4.setCell ⟨sb, 1, none⟩ (ptr1 wa.heap.size)) = w5 at *
    have x0 : w5.cell? ⟨wa.heap.size, 0, none⟩ = some (.int .u64 (a2 : Nat)) := HX5.out.cell
    have g0 : w5.cell? ⟨w.heap.size, 0, none⟩ = some (.int .u64 0) := HD5.out.cell
    have g1 : w5.cell? ⟨w.heap.size, 1, none⟩ = some (.int .u64 0) := HD5.out.cell
    have g2 : w5.cell? ⟨w.heap.size, 2, none⟩ = some (.int .i64 0) := HD5.out.cell
    have y0 : w5.frozen? ⟨w.heap.size, 0, none⟩ = false := HD5.out.frozen
    have y1 : w5.frozen? ⟨w.heap.size, 1, none⟩ = false := HD5.out.frozen
    have y2 : w5.frozen? ⟨w.heap.size, 2, none⟩ = false := HD5.out.frozen
    have hsw := HSBL.out
    have hwa := HSA.out
    have f6 : Frm w5 (((w5.setCell ⟨w.heap.size, 0, none⟩ (.int .u64 (a2 : Nat))).setCell ⟨w.heap.size, 1, none⟩ (.int .u64 (entN fl R s : Nat))).setCell ⟨w.heap.size, 2, none⟩ (.int .i64 (entE fl R s))) (fun k => k = w.heap.size) := ((frm_set w5 _ 0 _ (F := fun k => k = w.heap.size) rfl).trans (frm_set _ _ 1 _ (F := fun k => k = w.heap.size) rfl)).trans (frm_set _ _ 2 _ (F := fun k => k = w.heap.size) rfl)
    have HF6 : Hid (Frm w (((w5.setCell ⟨w.heap.size, 0, none⟩ (.int .u64 (a2 : Nat))).setCell ⟨w.heap.size, 1, none⟩ (.int .u64 (entN fl R s : Nat))).setCell ⟨w.heap.size, 2, none⟩ (.int .i64 (entE fl R s))) (fun k => k = sb)) := ⟨f6.os.trans HF5.out.os, f6.tape.trans HF5.out.tape, f6.output.trans HF5.out.output, Nat.le_trans HF5.out.size f6.size, fun k hk hn => (f6.block k (Nat.lt_of_lt_of_le hk HF5.out.size) (by omega)).trans (HF5.out.block k hk hn)⟩
    have HS6 : Hid (Snp (((w5.setCell ⟨w.heap.size, 0, none⟩ (.int .u64 (a2 : Nat))).setCell ⟨w.heap.size, 1, none⟩ (.int .u64 (entN fl R s : Nat))).setCell ⟨w.heap.size, 2, none⟩ (.int .i64 (entE fl R s))) sb (fl) (entL fl R s)) := ⟨wa.heap.size, a2, .slice p3 l3 c3, HA2.out, ((HS5.out.off _ (by omega)).off _ (by omega)).off _ (by omega), ((HX5.out.off _ (by omega)).off _ (by omega)).off _ (by omega), HV5.out.frm HD5.out (by decide) f6, HIN.out⟩
    have hbe : BoxT (((w5.setCell ⟨w.heap.size, 0, none⟩ (.int .u64 (a2 : Nat))).setCell ⟨w.heap.size, 1, none⟩ (.int .u64 (entN fl R s : Nat))).setCell ⟨w.heap.size, 2, none⟩ (.int .i64 (entE fl R s))) w.heap.size #[.int .u64 (a2 : Nat), .int .u64 (entN fl R s : Nat), .int .i64 (entE fl R s)] 60 := ((HD5.out.set (i := 0) _).set (i := 1) _).set (i := 2) _
    have q0 := hbe.cell (i := 0)
    have q1 := hbe.cell (i := 1)
    have q2 := hbe.cell (i := 2)
    clear hbe f6 hsw hwa HX5 HD5 HS5 HV5 HF5 hne m0 k0
    go_wp2_with fail
    refine bodyPost_ret (v := .agg #[.int .u64 (a2 : Nat), .int .u64 (entN fl R s : Nat), .int .i64 (entE fl R s)]) (by simp [results, Try.results41, go_sem, q0, q1, q2]) rfl ?_
    exact ⟨⟨a2, rfl⟩, HS6.out, HF6.out⟩
set_option maxHeartbeats 4000000 in
theorem tleave_any (sb fl cb : Nat) (n : Int) (R : List Rd) (w : World) (h : Snp w sb fl R) (hc : w.cell? ⟨cb, 0, none⟩ = some (.int .i64 n)) (hcl : cb < w.heap.size) (_hcs : cb ≠ sb) :
    Calls Try.prog 41 #[ptr1 sb, .func (.func 44) #[] #[ptr1 cb]] w fun e w' => (∃ a2 : Nat, e = .returned (.agg #[.int .u64 (a2 : Nat), .int .u64 0, .int .i64 (leaE R n)])) ∧ Snp w' sb (fl) (goR R n) ∧ Frm w w' (fun k => k = sb) := by
  obtain ⟨tb, at', v, hat, h⟩ := h
  obtain ⟨p, c, ev, -⟩ := h.rdr.rd
  obtain ⟨rl, hrl⟩ : ∃ rl, rl = R.length := ⟨_, rfl⟩
  rw [← hrl] at ev
  subst ev
  have L1 : Below w.heap.size w (w.alloc (.cells #[.int .u64 0, .int .u64 0, .int .i64 0] 60)) := (Below.refl _ _).alloc (Nat.le_refl _) _
  have X1 : BoxT (w.alloc (.cells #[.int .u64 0, .int .u64 0, .int .i64 0] 60)) w.heap.size #[.int .u64 0, .int .u64 0, .int .i64 0] 60 := BoxT.new _ _ _
  have HX1 : Hid (BoxT (w.alloc (.cells #[.int .u64 0, .int .u64 0, .int .i64 0] 60)) w.heap.size #[.int .u64 0, .int .u64 0, .int .i64 0] 60) := X1
  have HL1 : Hid (Below w.heap.size w (w.alloc (.cells #[.int .u64 0, .int .u64 0, .int .i64 0] 60))) := L1
  have H1 : Hid (SnX (w.alloc (.cells #[.int .u64 0, .int .u64 0, .int .i64 0] 60)) sb tb at' fl (.slice p rl c) R) := h.on L1
  have HC1 : Hid ((w.alloc (.cells #[.int .u64 0, .int .u64 0, .int .i64 0] 60)).cell? ⟨cb, 0, none⟩ = some (.int .i64 n)) := (L1.cell (p := ⟨cb, 0, none⟩) hcl).trans hc
  have HCL : Hid (cb < (w.alloc (.cells #[.int .u64 0, .int .u64 0, .int .i64 0] 60)).heap.size) := Nat.lt_of_lt_of_le hcl L1.size
  have HSBL : Hid (sb < w.heap.size) := h.blk.lt
  have HAT : Hid (at' < 18446744073709551616) := hat
  clear L1 X1 h hc hcl hrl hat
  go_enter Try.func41, Try.ntmps41
  go_wp2_with fail
  generalize (w.alloc (.cells #[.int .u64 0, .int .u64 0, .int .i64 0] 60)) = w1 at *
  go_loopw [] (fun wr => wr = w1) (fun _ => 0)
  case atStart => rfl
  case round =>
    rw [hrel]
    clear hrel
    have C1 : Hid (Calls _ _ _ _ _) := pload_any sb tb _ _ _ w1 H1.out.blk.cell H1.out.sta
    have C2 : Hid (Calls _ _ _ _ _) := cleave_any at' fl cb n (.slice p rl c) R w1 H1.out.rdr H1.out.inv HC1.out HCL.out
    have n0 : w1.cell? ⟨tb, 0, none⟩ = some (.int .u64 (at' : Nat)) := H1.out.sta.cell
    have n1 : w1.cell? ⟨tb, 1, none⟩ = some (.int .u64 (fl : Nat)) := H1.out.sta.cell
    have n2 : w1.cell? ⟨tb, 2, none⟩ = some (.slice p rl c) := H1.out.sta.cell
    go_wp2_with fail
    refine C1.out.mono ?_
    rintro e w2 ⟨rfl, rfl⟩
    go_wp2_with fail
    refine C2.out.mono ?_
    rintro e wa ⟨⟨v3, rfl, hv3⟩, hb3⟩
    obtain ⟨p3, c3, e3, -⟩ := hv3.rd
    obtain ⟨l3, hl3⟩ : ∃ l, l = (goR R n).length := ⟨_, rfl⟩
    rw [← hl3] at e3
    subst e3
    obtain ⟨a2, ha2, ha2lt⟩ : ∃ a2 : Nat, IntKind.u64.wrap ((at' : Int) + 1) = (a2 : Int) ∧ a2 < 18446744073709551616 := ⟨(at' + 1) % 18446744073709551616, by rw [IntKind.wrap_u64]; omega, by omega⟩
    have HA2 : Hid (a2 < 18446744073709551616) := ha2lt
    have L4 : Below wa.heap.size wa (wa.alloc (.cells #[.int .u64 (a2 : Nat), .int .u64 (fl : Nat), .slice p3 l3 c3] 77)) := (Below.refl _ _).alloc (Nat.le_refl _) _
    have X4 : BoxT (wa.alloc (.cells #[.int .u64 (a2 : Nat), .int .u64 (fl : Nat), .slice p3 l3 c3] 77)) wa.heap.size #[.int .u64 (a2 : Nat), .int .u64 (fl : Nat), .slice p3 l3 c3] 77 := BoxT.new _ _ _
    have H3 : SnX wa sb tb at' fl (.slice p rl c) R := H1.out.on hb3
    have H4 : Hid (SnX (wa.alloc (.cells #[.int .u64 (a2 : Nat), .int .u64 (fl : Nat), .slice p3 l3 c3] 77)) sb tb at' fl (.slice p rl c) R) := H3.on L4
    have HX4 : Hid (BoxT (wa.alloc (.cells #[.int .u64 (a2 : Nat), .int .u64 (fl : Nat), .slice p3 l3 c3] 77)) wa.heap.size #[.int .u64 (a2 : Nat), .int .u64 (fl : Nat), .slice p3 l3 c3] 77) := X4
    have HV4 : Hid (OwR (wa.alloc (.cells #[.int .u64 (a2 : Nat), .int .u64 (fl : Nat), .slice p3 l3 c3] 77)) 0 (.slice p3 l3 c3) (goR R n)) := hv3.on L4
    have HD4 : Hid (BoxT (wa.alloc (.cells #[.int .u64 (a2 : Nat), .int .u64 (fl : Nat), .slice p3 l3 c3] 77)) w.heap.size #[.int .u64 0, .int .u64 0, .int .i64 0] 60) := (HX1.out.on hb3).on L4
    have HF4 : Hid (Frm w (wa.alloc (.cells #[.int .u64 (a2 : Nat), .int .u64 (fl : Nat), .slice p3 l3 c3] 77)) (fun k => k = sb)) := ((Frm.of_below HL1.out).trans (Frm.of_below hb3)).trans (Frm.of_below L4)
    have HSA : Hid (w.heap.size < wa.heap.size) := Nat.lt_of_lt_of_le HX1.out.lt hb3.size
    have m0 : wa.cell? ⟨tb, 0, none⟩ = some (.int .u64 (at' : Nat)) := H3.sta.cell
    have hne : tb ≠ wa.heap.size := by have := H3.sta.lt; omega
    have C3 : Hid (Calls _ _ _ _ _) := pcas_any sb tb wa.heap.size _ _ _ _ _ _ (wa.alloc (.cells #[.int .u64 (a2 : Nat), .int .u64 (fl : Nat), .slice p3 l3 c3] 77)) H4.out.blk.cell H4.out.blk.frozen H4.out.sta X4
    have k0 : (wa.alloc (.cells #[.int .u64 (at' : Nat), .int .u64 (fl : Nat), .slice p3 l3 c3] 77)).cell? ⟨tb, 0, none⟩ = some (.int .u64 (at' : Nat)) := (H3.on ((Below.refl _ _).alloc (Nat.le_refl _) _)).sta.cell
    have HIN : Hid (InvR (goR R n)) := go_inv H1.out.inv n
    clear L4 X4 H3 hv3 hb3 hl3 ha2lt C1 C2 n0 n1 n2 HC1 HCL H1
    go_wp2_with fail
    generalize hNS : (wa.alloc (.cells #[.int .u64 (a2 : Nat), .int .u64 (fl : Nat), .slice p3 l3 c3] 77)) = w4 at *
    refine C3.out.mono ?_
    rintro e w5 ⟨rfl, rfl⟩
    have X5 : BoxT (w4.setCell ⟨sb, 1, none⟩ (ptr1 wa.heap.size)) wa.heap.size #[.int .u64 (a2 : Nat), .int .u64 (fl : Nat), .slice p3 l3 c3] 77 := HX4.out.off _ (by have := HSA.out; have := HSBL.out; omega)
    have D5 : BoxT (w4.setCell ⟨sb, 1, none⟩ (ptr1 wa.heap.size)) w.heap.size #[.int .u64 0, .int .u64 0, .int .i64 0] 60 := HD4.out.off _ (by have := HSBL.out; omega)
    have S5 : BoxT (w4.setCell ⟨sb, 1, none⟩ (ptr1 wa.heap.size)) sb #[ptr1 sb, ptr1 wa.heap.size] 74 := H4.out.blk.set (i := 1) _
    have F5 : Frm w4 (w4.setCell ⟨sb, 1, none⟩ (ptr1 wa.heap.size)) (fun k => k = sb) := frm_set _ _ _ _ rfl
    have HV5 : Hid (OwR (w4.setCell ⟨sb, 1, none⟩ (ptr1 wa.heap.size)) 0 (.slice p3 l3 c3) (goR R n)) := HV4.out.frm H4.out.blk (by decide) F5
    have HF5 : Hid (Frm w (w4.setCell ⟨sb, 1, none⟩ (ptr1 wa.heap.size)) (fun k => k = sb)) := HF4.out.trans F5
    have HX5 : Hid (BoxT _ _ _ _) := X5
    have HD5 : Hid (BoxT _ _ _ _) := D5
    have HS5 : Hid (BoxT _ _ _ _) := S5
    clear X5 D5 S5 F5 C3 hNS HX4 HD4 H4 HV4 HF4
    generalize (w4.setCell ⟨sb, 1, none⟩ (ptr1 wa.heap.size)) = w5 at *
    have x0 : w5.cell? ⟨wa.heap.size, 0, none⟩ = some (.int .u64 (a2 : Nat)) := HX5.out.cell
    have g0 : w5.cell? ⟨w.heap.size, 0, none⟩ = some (.int .u64 0) := HD5.out.cell
    have g1 : w5.cell? ⟨w.heap.size, 1, none⟩ = some (.int .u64 0) := HD5.out.cell
    have g2 : w5.cell? ⟨w.heap.size, 2, none⟩ = some (.int .i64 0) := HD5.out.cell
    have y0 : w5.frozen? ⟨w.heap.size, 0, none⟩ = false := HD5.out.frozen
    have y1 : w5.frozen? ⟨w.heap.size, 1, none⟩ = false := HD5.out.frozen
    have y2 : w5.frozen? ⟨w.heap.size, 2, none⟩ = false := HD5.out.frozen
    have hsw := HSBL.out
    have hwa := HSA.out
    have f6 : Frm w5 (((w5.setCell ⟨w.heap.size, 0, none⟩ (.int .u64 (a2 : Nat))).setCell ⟨w.heap.size, 1, none⟩ (.int .u64 0)).setCell ⟨w.heap.size, 2, none⟩ (.int .i64 (leaE R n))) (fun k => k = w.heap.size) := ((frm_set w5 _ 0 _ (F := fun k => k = w.heap.size) rfl).trans (frm_set _ _ 1 _ (F := fun k => k = w.heap.size) rfl)).trans (frm_set _ _ 2 _ (F := fun k => k = w.heap.size) rfl)
    have HF6 : Hid (Frm w (((w5.setCell ⟨w.heap.size, 0, none⟩ (.int .u64 (a2 : Nat))).setCell ⟨w.heap.size, 1, none⟩ (.int .u64 0)).setCell ⟨w.heap.size, 2, none⟩ (.int .i64 (leaE R n))) (fun k => k = sb)) := ⟨f6.os.trans HF5.out.os, f6.tape.trans HF5.out.tape, f6.output.trans HF5.out.output, Nat.le_trans HF5.out.size f6.size, fun k hk hn => (f6.block k (Nat.lt_of_lt_of_le hk HF5.out.size) (by omega)).trans (HF5.out.block k hk hn)⟩
    have HS6 : Hid (Snp (((w5.setCell ⟨w.heap.size, 0, none⟩ (.int .u64 (a2 : Nat))).setCell ⟨w.heap.size, 1, none⟩ (.int .u64 0)).setCell ⟨w.heap.size, 2, none⟩ (.int .i64 (leaE R n))) sb (fl) (goR R n)) := ⟨wa.heap.size, a2, .slice p3 l3 c3, HA2.out, ((HS5.out.off _ (by omega)).off _ (by omega)).off _ (by omega), ((HX5.out.off _ (by omega)).off _ (by omega)).off _ (by omega), HV5.out.frm HD5.out (by decide) f6, HIN.out⟩
    have hbe : BoxT (((w5.setCell ⟨w.heap.size, 0, none⟩ (.int .u64 (a2 : Nat))).setCell ⟨w.heap.size, 1, none⟩ (.int .u64 0)).setCell ⟨w.heap.size, 2, none⟩ (.int .i64 (leaE R n))) w.heap.size #[.int .u64 (a2 : Nat), .int .u64 0, .int .i64 (leaE R n)] 60 := ((HD5.out.set (i := 0) _).set (i := 1) _).set (i := 2) _
    have q0 := hbe.cell (i := 0)
    have q1 := hbe.cell (i := 1)
    have q2 := hbe.cell (i := 2)
    clear hbe f6 hsw hwa HX5 HD5 HS5 HV5 HF5 hne m0 k0
    go_wp2_with fail
    refine bodyPost_ret (v := .agg #[.int .u64 (a2 : Nat), .int .u64 0, .int .i64 (leaE R n)]) (by simp [results, Try.results41, go_sem, q0, q1, q2]) rfl ?_
    exact ⟨⟨a2, rfl⟩, HS6.out, HF6.out⟩
set_option maxHeartbeats 4000000 in
theorem traise_any (sb fl cb : Nat) (s : Nat) (R : List Rd) (w : World) (h : Snp w sb fl R) (hc : w.cell? ⟨cb, 0, none⟩ = some (.int .u64 (s : Nat))) (hcl : cb < w.heap.size) (_hcs : cb ≠ sb) :
    Calls Try.prog 41 #[ptr1 sb, .func (.func 47) #[] #[ptr1 cb]] w fun e w' => (∃ a2 : Nat, e = .returned (.agg #[.int .u64 (a2 : Nat), .int .u64 ((raiN fl R s) : Nat), .int .i64 (0)])) ∧ Snp w' sb ((raiN fl R s)) (R) ∧ Frm w w' (fun k => k = sb) := by
  obtain ⟨tb, at', v, hat, h⟩ := h
  obtain ⟨p, c, ev, -⟩ := h.rdr.rd
  obtain ⟨rl, hrl⟩ : ∃ rl, rl = R.length := ⟨_, rfl⟩
  rw [← hrl] at ev
  subst ev
  have L1 : Below w.heap.size w (w.alloc (.cells #[.int .u64 0, .int .u64 0, .int .i64 0] 60)) := (Below.refl _ _).alloc (Nat.le_refl _) _
  have X1 : BoxT (w.alloc (.cells #[.int .u64 0, .int .u64 0, .int .i64 0] 60)) w.heap.size #[.int .u64 0, .int .u64 0, .int .i64 0] 60 := BoxT.new _ _ _
  have HX1 : Hid (BoxT (w.alloc (.cells #[.int .u64 0, .int .u64 0, .int .i64 0] 60)) w.heap.size #[.int .u64 0, .int .u64 0, .int .i64 0] 60) := X1
  have HL1 : Hid (Below w.heap.size w (w.alloc (.cells #[.int .u64 0, .int .u64 0, .int .i64 0] 60))) := L1
  have H1 : Hid (SnX (w.alloc (.cells #[.int .u64 0, .int .u64 0, .int .i64 0] 60)) sb tb at' fl (.slice p rl c) R) := h.on L1
  have HC1 : Hid ((w.alloc (.cells #[.int .u64 0, .int .u64 0, .int .i64 0] 60)).cell? ⟨cb, 0, none⟩ = some (.int .u64 (s : Nat))) := (L1.cell (p := ⟨cb, 0, none⟩) hcl).trans hc
  have HCL : Hid (cb < (w.alloc (.cells #[.int .u64 0, .int .u64 0, .int .i64 0] 60)).heap.size) := Nat.lt_of_lt_of_le hcl L1.size
  have HSBL : Hid (sb < w.heap.size) := h.blk.lt
  have HAT : Hid (at' < 18446744073709551616) := hat
  clear L1 X1 h hc hcl hrl hat
  go_enter Try.func41, Try.ntmps41
  go_wp2_with fail
  generalize (w.alloc (.cells #[.int .u64 0, .int .u64 0, .int .i64 0] 60)) = w1 at *
  go_loopw [] (fun wr => wr = w1) (fun _ => 0)
  case atStart => rfl
  case round =>
    rw [hrel]
    clear hrel
    have C1 : Hid (Calls _ _ _ _ _) := pload_any sb tb _ _ _ w1 H1.out.blk.cell H1.out.sta
    have C2 : Hid (Calls _ _ _ _ _) := craise_any at' fl cb s (.slice p rl c) R w1 H1.out.rdr H1.out.inv HC1.out HCL.out
    have n0 : w1.cell? ⟨tb, 0, none⟩ = some (.int .u64 (at' : Nat)) := H1.out.sta.cell
    have n1 : w1.cell? ⟨tb, 1, none⟩ = some (.int .u64 (fl : Nat)) := H1.out.sta.cell
    have n2 : w1.cell? ⟨tb, 2, none⟩ = some (.slice p rl c) := H1.out.sta.cell
    go_wp2_with fail
    refine C1.out.mono ?_
    rintro e w2 ⟨rfl, rfl⟩
    go_wp2_with fail
    refine C2.out.mono ?_
    rintro e wa ⟨⟨v3, rfl, hv3⟩, hb3⟩
    obtain ⟨p3, c3, e3, -⟩ := hv3.rd
    obtain ⟨l3, hl3⟩ : ∃ l, l = (R).length := ⟨_, rfl⟩
    rw [← hl3] at e3
    subst e3
    obtain ⟨a2, ha2, ha2lt⟩ : ∃ a2 : Nat, IntKind.u64.wrap ((at' : Int) + 1) = (a2 : Int) ∧ a2 < 18446744073709551616 := ⟨(at' + 1) % 18446744073709551616, by rw [IntKind.wrap_u64]; omega, by omega⟩
    have HA2 : Hid (a2 < 18446744073709551616) := ha2lt
    have L4 : Below wa.heap.size wa (wa.alloc (.cells #[.int .u64 (a2 : Nat), .int .u64 ((raiN fl R s) : Nat), .slice p3 l3 c3] 77)) := (Below.refl _ _).alloc (Nat.le_refl _) _
    have X4 : BoxT (wa.alloc (.cells #[.int .u64 (a2 : Nat), .int .u64 ((raiN fl R s) : Nat), .slice p3 l3 c3] 77)) wa.heap.size #[.int .u64 (a2 : Nat), .int .u64 ((raiN fl R s) : Nat), .slice p3 l3 c3] 77 := BoxT.new _ _ _
    have H3 : SnX wa sb tb at' fl (.slice p rl c) R := H1.out.on hb3
    have H4 : Hid (SnX (wa.alloc (.cells #[.int .u64 (a2 : Nat), .int .u64 ((raiN fl R s) : Nat), .slice p3 l3 c3] 77)) sb tb at' fl (.slice p rl c) R) := H3.on L4
    have HX4 : Hid (BoxT (wa.alloc (.cells #[.int .u64 (a2 : Nat), .int .u64 ((raiN fl R s) : Nat), .slice p3 l3 c3] 77)) wa.heap.size #[.int .u64 (a2 : Nat), .int .u64 ((raiN fl R s) : Nat), .slice p3 l3 c3] 77) := X4
    have HV4 : Hid (OwR (wa.alloc (.cells #[.int .u64 (a2 : Nat), .int .u64 ((raiN fl R s) : Nat), .slice p3 l3 c3] 77)) 0 (.slice p3 l3 c3) (R)) := hv3.on L4
    have HD4 : Hid (BoxT (wa.alloc (.cells #[.int .u64 (a2 : Nat), .int .u64 ((raiN fl R s) : Nat), .slice p3 l3 c3] 77)) w.heap.size #[.int .u64 0, .int .u64 0, .int .i64 0] 60) := (HX1.out.on hb3).on L4
    have HF4 : Hid (Frm w (wa.alloc (.cells #[.int .u64 (a2 : Nat), .int .u64 ((raiN fl R s) : Nat), .slice p3 l3 c3] 77)) (fun k => k = sb)) := ((Frm.of_below HL1.out).trans (Frm.of_below hb3)).trans (Frm.of_below L4)
    have HSA : Hid (w.heap.size < wa.heap.size) := Nat.lt_of_lt_of_le HX1.out.lt hb3.size
    have m0 : wa.cell? ⟨tb, 0, none⟩ = some (.int .u64 (at' : Nat)) := H3.sta.cell
    have hne : tb ≠ wa.heap.size := by have := H3.sta.lt; omega
    have C3 : Hid (Calls _ _ _ _ _) := pcas_any sb tb wa.heap.size _ _ _ _ _ _ (wa.alloc (.cells #[.int .u64 (a2 : Nat), .int .u64 ((raiN fl R s) : Nat), .slice p3 l3 c3] 77)) H4.out.blk.cell H4.out.blk.frozen H4.out.sta X4
    have k0 : (wa.alloc (.cells #[.int .u64 (at' : Nat), .int .u64 ((raiN fl R s) : Nat), .slice p3 l3 c3] 77)).cell? ⟨tb, 0, none⟩ = some (.int .u64 (at' : Nat)) := (H3.on ((Below.refl _ _).alloc (Nat.le_refl _) _)).sta.cell
    have HIN : Hid (InvR (R)) := H1.out.inv
    clear L4 X4 H3 hv3 hb3 hl3 ha2lt C1 C2 n0 n1 n2 HC1 HCL H1
    go_wp2_with fail
    generalize hNS : (wa.alloc (.cells #[.int .u64 (a2 : Nat), .int .u64 ((raiN fl R s) : Nat), .slice p3 l3 c3] 77)) = w4 at *
    refine C3.out.mono ?_
    rintro e w5 ⟨rfl, rfl⟩
    have X5 : BoxT (w4.setCell ⟨sb, 1, none⟩ (ptr1 wa.heap.size)) wa.heap.size #[.int .u64 (a2 : Nat), .int .u64 ((raiN fl R s) : Nat), .slice p3 l3 c3] 77 := HX4.out.off _ (by have := HSA.out; have := HSBL.out; omega)
    have D5 : BoxT (w4.setCell ⟨sb, 1, none⟩ (ptr1 wa.heap.size)) w.heap.size #[.int .u64 0, .int .u64 0, .int .i64 0] 60 := HD4.out.off _ (by have := HSBL.out; omega)
    have S5 : BoxT (w4.setCell ⟨sb, 1, none⟩ (ptr1 wa.heap.size)) sb #[ptr1 sb, ptr1 wa.heap.size] 74 := H4.out.blk.set (i := 1) _
    have F5 : Frm w4 (w4.setCell ⟨sb, 1, none⟩ (ptr1 wa.heap.size)) (fun k => k = sb) := frm_set _ _ _ _ rfl
    have HV5 : Hid (OwR (w4.setCell ⟨sb, 1, none⟩ (ptr1 wa.heap.size)) 0 (.slice p3 l3 c3) (R)) := HV4.out.frm H4.out.blk (by decide) F5
    have HF5 : Hid (Frm w (w4.setCell ⟨sb, 1, none⟩ (ptr1 wa.heap.size)) (fun k => k = sb)) := HF4.out.trans F5
    have HX5 : Hid (BoxT _ _ _ _) := X5
    have HD5 : Hid (BoxT _ _ _ _) := D5
    have HS5 : Hid (BoxT _ _ _ _) := S5
    clear X5 D5 S5 F5 C3 hNS HX4 HD4 H4 HV4 HF4
    generalize (w4.setCell ⟨sb, 1, none⟩ (ptr1 wa.heap.size)) = w5 at *
    have x0 : w5.cell? ⟨wa.heap.size, 0, none⟩ = some (.int .u64 (a2 : Nat)) := HX5.out.cell
    have g0 : w5.cell? ⟨w.heap.size, 0, none⟩ = some (.int .u64 0) := HD5.out.cell
    have g1 : w5.cell? ⟨w.heap.size, 1, none⟩ = some (.int .u64 0) := HD5.out.cell
    have g2 : w5.cell? ⟨w.heap.size, 2, none⟩ = some (.int .i64 0) := HD5.out.cell
    have y0 : w5.frozen? ⟨w.heap.size, 0, none⟩ = false := HD5.out.frozen
    have y1 : w5.frozen? ⟨w.heap.size, 1, none⟩ = false := HD5.out.frozen
    have y2 : w5.frozen? ⟨w.heap.size, 2, none⟩ = false := HD5.out.frozen
    have hsw := HSBL.out
    have hwa := HSA.out
    have f6 : Frm w5 (((w5.setCell ⟨w.heap.size, 0, none⟩ (.int .u64 (a2 : Nat))).setCell ⟨w.heap.size, 1, none⟩ (.int .u64 ((raiN fl R s) : Nat))).setCell ⟨w.heap.size, 2, none⟩ (.int .i64 (0))) (fun k => k = w.heap.size) := ((frm_set w5 _ 0 _ (F := fun k => k = w.heap.size) rfl).trans (frm_set _ _ 1 _ (F := fun k => k = w.heap.size) rfl)).trans (frm_set _ _ 2 _ (F := fun k => k = w.heap.size) rfl)
    have HF6 : Hid (Frm w (((w5.setCell ⟨w.heap.size, 0, none⟩ (.int .u64 (a2 : Nat))).setCell ⟨w.heap.size, 1, none⟩ (.int .u64 ((raiN fl R s) : Nat))).setCell ⟨w.heap.size, 2, none⟩ (.int .i64 (0))) (fun k => k = sb)) := ⟨f6.os.trans HF5.out.os, f6.tape.trans HF5.out.tape, f6.output.trans HF5.out.output, Nat.le_trans HF5.out.size f6.size, fun k hk hn => (f6.block k (Nat.lt_of_lt_of_le hk HF5.out.size) (by omega)).trans (HF5.out.block k hk hn)⟩
    have HS6 : Hid (Snp (((w5.setCell ⟨w.heap.size, 0, none⟩ (.int .u64 (a2 : Nat))).setCell ⟨w.heap.size, 1, none⟩ (.int .u64 ((raiN fl R s) : Nat))).setCell ⟨w.heap.size, 2, none⟩ (.int .i64 (0))) sb ((raiN fl R s)) (R)) := ⟨wa.heap.size, a2, .slice p3 l3 c3, HA2.out, ((HS5.out.off _ (by omega)).off _ (by omega)).off _ (by omega), ((HX5.out.off _ (by omega)).off _ (by omega)).off _ (by omega), HV5.out.frm HD5.out (by decide) f6, HIN.out⟩
    have hbe : BoxT (((w5.setCell ⟨w.heap.size, 0, none⟩ (.int .u64 (a2 : Nat))).setCell ⟨w.heap.size, 1, none⟩ (.int .u64 ((raiN fl R s) : Nat))).setCell ⟨w.heap.size, 2, none⟩ (.int .i64 (0))) w.heap.size #[.int .u64 (a2 : Nat), .int .u64 ((raiN fl R s) : Nat), .int .i64 (0)] 60 := ((HD5.out.set (i := 0) _).set (i := 1) _).set (i := 2) _
    have q0 := hbe.cell (i := 0)
    have q1 := hbe.cell (i := 1)
    have q2 := hbe.cell (i := 2)
    clear hbe f6 hsw hwa HX5 HD5 HS5 HV5 HF5 hne m0 k0
    go_wp2_with fail
    refine bodyPost_ret (v := .agg #[.int .u64 (a2 : Nat), .int .u64 ((raiN fl R s) : Nat), .int .i64 (0)]) (by simp [results, Try.results41, go_sem, q0, q1, q2]) rfl ?_
    exact ⟨⟨a2, rfl⟩, HS6.out, HF6.out⟩
end Go.Proofs.Ytbmgkoifidhfjaa
