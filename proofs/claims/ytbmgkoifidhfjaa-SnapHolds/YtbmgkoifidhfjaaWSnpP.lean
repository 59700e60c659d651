/- play. -/
import Derived.Test.YtbmgkoifidhfjaaWSnpL
import Derived.Test.YtbmgkoifidhfjaaWSnpI
namespace Go.Proofs.Ytbmgkoifidhfjaa
open Go.RowKit
set_option maxRecDepth 100000

set_option maxHeartbeats 4000000 in
theorem playE (sb fl s : Nat) (n : Int) (v : Value) (R : List Rd) (w : World) (h : Snp w sb fl R) (hv : OwR w 0 v R) :
    Calls Try.prog 12 #[ptr1 sb, .agg #[.int .u64 (fl : Nat), v], .agg #[.int .i64 1, .int .u64 (s : Nat), .int .i64 n]] w fun e w' => (∃ v', e = .returned (.tuple #[.agg #[.int .u64 (fl : Nat), v'], .bool true]) ∧ OwR w' 0 v' (entL fl R s)) ∧ Snp w' sb (fl) (entL fl R s) ∧ Frm w w' (fun k => k = sb) := by
  obtain ⟨p, rl, c, rfl⟩ : ∃ p l c, v = .slice p l c := by
    obtain ⟨p, c, e, -⟩ := hv.rd
    exact ⟨_, _, _, e⟩
  have HINV : Hid (InvR R) := by obtain ⟨_, _, _, _, hx⟩ := h; exact hx.inv
  have HSL : Hid (sb < w.heap.size) := by obtain ⟨_, _, _, _, hx⟩ := h; exact hx.blk.lt
  have hs1 : (w.alloc (.cells #[.int .u64 (fl : Nat), .slice p rl c] 29)).heap.size = w.heap.size + 1 := by simp
  have hs2 : ((w.alloc (.cells #[.int .u64 (fl : Nat), .slice p rl c] 29)).alloc (.cells #[.int .i64 1, .int .u64 (s : Nat), .int .i64 n] 39)).heap.size = w.heap.size + 2 := by simp
  have L1 : Below w.heap.size w (w.alloc (.cells #[.int .u64 (fl : Nat), .slice p rl c] 29)) := (Below.refl _ _).alloc (Nat.le_refl _) _
  have L2 : Below (w.alloc (.cells #[.int .u64 (fl : Nat), .slice p rl c] 29)).heap.size (w.alloc (.cells #[.int .u64 (fl : Nat), .slice p rl c] 29)) ((w.alloc (.cells #[.int .u64 (fl : Nat), .slice p rl c] 29)).alloc (.cells #[.int .i64 1, .int .u64 (s : Nat), .int .i64 n] 39)) := (Below.refl _ _).alloc (Nat.le_refl _) _
  have L3 : Below ((w.alloc (.cells #[.int .u64 (fl : Nat), .slice p rl c] 29)).alloc (.cells #[.int .i64 1, .int .u64 (s : Nat), .int .i64 n] 39)).heap.size ((w.alloc (.cells #[.int .u64 (fl : Nat), .slice p rl c] 29)).alloc (.cells #[.int .i64 1, .int .u64 (s : Nat), .int .i64 n] 39)) (((w.alloc (.cells #[.int .u64 (fl : Nat), .slice p rl c] 29)).alloc (.cells #[.int .i64 1, .int .u64 (s : Nat), .int .i64 n] 39)).alloc (.cells #[.int .u64 0, .slice none 0 0] 29)) := (Below.refl _ _).alloc (Nat.le_refl _) _
  have X1 : BoxT (w.alloc (.cells #[.int .u64 (fl : Nat), .slice p rl c] 29)) w.heap.size #[.int .u64 (fl : Nat), .slice p rl c] 29 := BoxT.new _ _ _
  have X2 : BoxT ((w.alloc (.cells #[.int .u64 (fl : Nat), .slice p rl c] 29)).alloc (.cells #[.int .i64 1, .int .u64 (s : Nat), .int .i64 n] 39)) (w.heap.size + 1) #[.int .i64 1, .int .u64 (s : Nat), .int .i64 n] 39 := by rw [← hs1]; exact BoxT.new _ _ _
  have X3 : BoxT (((w.alloc (.cells #[.int .u64 (fl : Nat), .slice p rl c] 29)).alloc (.cells #[.int .i64 1, .int .u64 (s : Nat), .int .i64 n] 39)).alloc (.cells #[.int .u64 0, .slice none 0 0] 29)) (w.heap.size + 2) #[.int .u64 0, .slice none 0 0] 29 := by rw [← hs2]; exact BoxT.new _ _ _
  have HM : Hid (BoxT (((w.alloc (.cells #[.int .u64 (fl : Nat), .slice p rl c] 29)).alloc (.cells #[.int .i64 1, .int .u64 (s : Nat), .int .i64 n] 39)).alloc (.cells #[.int .u64 0, .slice none 0 0] 29)) w.heap.size #[.int .u64 (fl : Nat), .slice p rl c] 29) := (X1.on L2).on L3
  have HA : Hid (BoxT (((w.alloc (.cells #[.int .u64 (fl : Nat), .slice p rl c] 29)).alloc (.cells #[.int .i64 1, .int .u64 (s : Nat), .int .i64 n] 39)).alloc (.cells #[.int .u64 0, .slice none 0 0] 29)) (w.heap.size + 1) #[.int .i64 1, .int .u64 (s : Nat), .int .i64 n] 39) := X2.on L3
  have HR : Hid (BoxT (((w.alloc (.cells #[.int .u64 (fl : Nat), .slice p rl c] 29)).alloc (.cells #[.int .i64 1, .int .u64 (s : Nat), .int .i64 n] 39)).alloc (.cells #[.int .u64 0, .slice none 0 0] 29)) (w.heap.size + 2) #[.int .u64 0, .slice none 0 0] 29) := X3
  have HL : Hid (Below w.heap.size w (((w.alloc (.cells #[.int .u64 (fl : Nat), .slice p rl c] 29)).alloc (.cells #[.int .i64 1, .int .u64 (s : Nat), .int .i64 n] 39)).alloc (.cells #[.int .u64 0, .slice none 0 0] 29))) := (L1.trans (L2.mono (by omega))).trans (L3.mono (by omega))
  have HS3 : Hid (Snp (((w.alloc (.cells #[.int .u64 (fl : Nat), .slice p rl c] 29)).alloc (.cells #[.int .i64 1, .int .u64 (s : Nat), .int .i64 n] 39)).alloc (.cells #[.int .u64 0, .slice none 0 0] 29)) sb fl R) := h.on HL.out
  have HO3 : Hid (OwR (((w.alloc (.cells #[.int .u64 (fl : Nat), .slice p rl c] 29)).alloc (.cells #[.int .i64 1, .int .u64 (s : Nat), .int .i64 n] 39)).alloc (.cells #[.int .u64 0, .slice none 0 0] 29)) 0 (.slice p rl c) R) := hv.on HL.out
  have k0 : (((w.alloc (.cells #[.int .u64 (fl : Nat), .slice p rl c] 29)).alloc (.cells #[.int .i64 1, .int .u64 (s : Nat), .int .i64 n] 39)).alloc (.cells #[.int .u64 0, .slice none 0 0] 29)).cell? ⟨w.heap.size + 1, 0, none⟩ = some (.int .i64 1) := HA.out.cell
  have k1 : (((w.alloc (.cells #[.int .u64 (fl : Nat), .slice p rl c] 29)).alloc (.cells #[.int .i64 1, .int .u64 (s : Nat), .int .i64 n] 39)).alloc (.cells #[.int .u64 0, .slice none 0 0] 29)).cell? ⟨w.heap.size + 1, 1, none⟩ = some (.int .u64 (s : Nat)) := HA.out.cell
  have k2 : (((w.alloc (.cells #[.int .u64 (fl : Nat), .slice p rl c] 29)).alloc (.cells #[.int .i64 1, .int .u64 (s : Nat), .int .i64 n] 39)).alloc (.cells #[.int .u64 0, .slice none 0 0] 29)).cell? ⟨w.heap.size + 1, 2, none⟩ = some (.int .i64 n) := HA.out.cell
  clear hs1 hs2 L1 L2 L3 X1 X2 X3
  have C1 : Hid (Calls _ _ _ _ _) := Enter_any sb fl s R (((w.alloc (.cells #[.int .u64 (fl : Nat), .slice p rl c] 29)).alloc (.cells #[.int .i64 1, .int .u64 (s : Nat), .int .i64 n] 39)).alloc (.cells #[.int .u64 0, .slice none 0 0] 29)) HS3.out
  clear h hv
  go_enter Try.func12, Try.ntmps12
  go_wp2_with fail
  generalize (((w.alloc (.cells #[.int .u64 (fl : Nat), .slice p rl c] 29)).alloc (.cells #[.int .i64 1, .int .u64 (s : Nat), .int .i64 n] 39)).alloc (.cells #[.int .u64 0, .slice none 0 0] 29)) = w3 at *
  refine C1.out.mono ?_
  rintro e w4 ⟨rfl, hs4, hf4⟩
  have hsl := HSL.out
  have HM4 : Hid (BoxT w4 w.heap.size #[.int .u64 (fl : Nat), .slice p rl c] 29) := (hf4.block _ HM.out.lt (by omega)).trans HM.out
  have HA4 : Hid (BoxT w4 (w.heap.size + 1) #[.int .i64 1, .int .u64 (s : Nat), .int .i64 n] 39) := (hf4.block _ HA.out.lt (by omega)).trans HA.out
  have HR4 : Hid (BoxT w4 (w.heap.size + 2) #[.int .u64 0, .slice none 0 0] 29) := (hf4.block _ HR.out.lt (by omega)).trans HR.out
  have HSX : ∃ vs, BoxT w3 sb vs 74 := by obtain ⟨_, _, _, _, hx⟩ := HS3.out; exact ⟨_, hx.blk⟩
  have HO4 : Hid (OwR w4 0 (.slice p rl c) R) := by obtain ⟨vs, hx⟩ := HSX; exact HO3.out.frm hx (by decide) hf4
  have HS4 : Hid (Snp w4 sb (fl) (entL fl R s)) := hs4
  have HF4 : Hid (Frm w w4 (fun k => k = sb)) := (Frm.of_below HL.out).trans hf4
  have C2 : Hid (Calls _ _ _ _ _) := renter_any fl 0 s (.slice p rl c) R w4 HO4.out HINV.out
  have m0 : w4.cell? ⟨w.heap.size, 0, none⟩ = some (.int .u64 (fl : Nat)) := HM4.out.cell
  have m1 : w4.cell? ⟨w.heap.size, 1, none⟩ = some (.slice p rl c) := HM4.out.cell
  have n1 : w4.cell? ⟨w.heap.size + 1, 1, none⟩ = some (.int .u64 (s : Nat)) := HA4.out.cell
  have n2 : w4.cell? ⟨w.heap.size + 1, 2, none⟩ = some (.int .i64 n) := HA4.out.cell
  clear HSX hs4 hf4 hsl C1 HM HA HR HL HS3 HO3 k0 k1 k2
  go_wp2_with fail
  refine C2.out.mono ?_
  rintro e w5 ⟨⟨u, rfl, hv5⟩, hb5⟩
  obtain ⟨q, l, d, rfl⟩ : ∃ p l c, u = .slice p l c := by
    obtain ⟨p, c, e, -⟩ := hv5.rd
    exact ⟨_, _, _, e⟩
  have HR5 : Hid (BoxT w5 (w.heap.size + 2) #[.int .u64 0, .slice none 0 0] 29) := HR4.out.on hb5
  have L6 : Below w5.heap.size w5 (w5.alloc (.cells #[.int .u64 (fl : Nat), .slice q l d] 29)) := (Below.refl _ _).alloc (Nat.le_refl _) _
  have HR6 : Hid (BoxT (w5.alloc (.cells #[.int .u64 (fl : Nat), .slice q l d] 29)) (w.heap.size + 2) #[.int .u64 0, .slice none 0 0] 29) := HR5.out.on L6
  have HS6 : Hid (Snp (w5.alloc (.cells #[.int .u64 (fl : Nat), .slice q l d] 29)) sb (fl) (entL fl R s)) := (HS4.out.on hb5).on L6
  have HO6 : Hid (OwR (w5.alloc (.cells #[.int .u64 (fl : Nat), .slice q l d] 29)) 0 (.slice q l d) (entL fl R s)) := hv5.on L6
  have HF6 : Hid (Frm w (w5.alloc (.cells #[.int .u64 (fl : Nat), .slice q l d] 29)) (fun k => k = sb)) := (HF4.out.trans (Frm.of_below hb5)).trans (Frm.of_below L6)
  have hnb := BoxT.new w5 #[.int .u64 (fl : Nat), .slice q l d] 29
  have u0 : (w5.alloc (.cells #[.int .u64 (fl : Nat), .slice q l d] 29)).cell? ⟨w5.heap.size, 0, none⟩ = some (.int .u64 (fl : Nat)) := hnb.cell
  have u1 : (w5.alloc (.cells #[.int .u64 (fl : Nat), .slice q l d] 29)).cell? ⟨w5.heap.size, 1, none⟩ = some (.slice q l d) := hnb.cell
  have g0 : (w5.alloc (.cells #[.int .u64 (fl : Nat), .slice q l d] 29)).cell? ⟨w.heap.size + 2, 0, none⟩ = some (.int .u64 0) := HR6.out.cell
  have g1 : (w5.alloc (.cells #[.int .u64 (fl : Nat), .slice q l d] 29)).cell? ⟨w.heap.size + 2, 1, none⟩ = some (.slice none 0 0) := HR6.out.cell
  have y0 : (w5.alloc (.cells #[.int .u64 (fl : Nat), .slice q l d] 29)).frozen? ⟨w.heap.size + 2, 0, none⟩ = false := HR6.out.frozen
  have y1 : (w5.alloc (.cells #[.int .u64 (fl : Nat), .slice q l d] 29)).frozen? ⟨w.heap.size + 2, 1, none⟩ = false := HR6.out.frozen
  have f7 : Frm (w5.alloc (.cells #[.int .u64 (fl : Nat), .slice q l d] 29)) (((w5.alloc (.cells #[.int .u64 (fl : Nat), .slice q l d] 29)).setCell ⟨w.heap.size + 2, 0, none⟩ (.int .u64 (fl : Nat))).setCell ⟨w.heap.size + 2, 1, none⟩ (.slice q l d)) (fun k => k = w.heap.size + 2) := (frm_set _ _ 0 _ (F := fun k => k = w.heap.size + 2) rfl).trans (frm_set _ _ 1 _ (F := fun k => k = w.heap.size + 2) rfl)
  have HF7 : Hid (Frm w (((w5.alloc (.cells #[.int .u64 (fl : Nat), .slice q l d] 29)).setCell ⟨w.heap.size + 2, 0, none⟩ (.int .u64 (fl : Nat))).setCell ⟨w.heap.size + 2, 1, none⟩ (.slice q l d)) (fun k => k = sb)) := ⟨f7.os.trans HF6.out.os, f7.tape.trans HF6.out.tape, f7.output.trans HF6.out.output, Nat.le_trans HF6.out.size f7.size, fun k hk hn => (f7.block k (Nat.lt_of_lt_of_le hk HF6.out.size) (by omega)).trans (HF6.out.block k hk hn)⟩
  have HO7 : Hid (OwR (((w5.alloc (.cells #[.int .u64 (fl : Nat), .slice q l d] 29)).setCell ⟨w.heap.size + 2, 0, none⟩ (.int .u64 (fl : Nat))).setCell ⟨w.heap.size + 2, 1, none⟩ (.slice q l d)) 0 (.slice q l d) (entL fl R s)) := HO6.out.frm HR6.out (by decide) f7
  have HS7 : Hid (Snp (((w5.alloc (.cells #[.int .u64 (fl : Nat), .slice q l d] 29)).setCell ⟨w.heap.size + 2, 0, none⟩ (.int .u64 (fl : Nat))).setCell ⟨w.heap.size + 2, 1, none⟩ (.slice q l d)) sb (fl) (entL fl R s)) := by
    obtain ⟨tb, a, v, ha, hx⟩ := HS6.out
    have h1 := hx.sta.ne HR6.out (by decide)
    have h2 := hx.blk.ne HR6.out (by decide)
    exact ⟨tb, a, v, ha, (hx.blk.off _ h2).off _ h2, (hx.sta.off _ h1).off _ h1, hx.rdr.frm HR6.out (by decide) f7, hx.inv⟩
  have hbe : BoxT (((w5.alloc (.cells #[.int .u64 (fl : Nat), .slice q l d] 29)).setCell ⟨w.heap.size + 2, 0, none⟩ (.int .u64 (fl : Nat))).setCell ⟨w.heap.size + 2, 1, none⟩ (.slice q l d)) (w.heap.size + 2) #[.int .u64 (fl : Nat), .slice q l d] 29 := (HR6.out.set (i := 0) _).set (i := 1) _
  have q0 := hbe.cell (i := 0)
  have q1 := hbe.cell (i := 1)
  clear hbe f7 hnb L6 hv5 hb5 C2 HR5 HR6 HS6 HO6 HF6 HS4 HO4 HF4 HM4 HA4 HR4 m0 m1 n1 n2
  go_wp2_with fail
  refine bodyPost_ret (v := .tuple #[.agg #[.int .u64 (fl : Nat), .slice q l d], .bool true]) (by simp [results, Try.results12, go_sem, q0, q1]) rfl ?_
  exact ⟨⟨_, rfl, HO7.out⟩, HS7.out, HF7.out⟩
set_option maxHeartbeats 4000000 in
theorem playL (sb fl s : Nat) (n : Int) (v : Value) (R : List Rd) (w : World) (h : Snp w sb fl R) (hv : OwR w 0 v R) :
    Calls Try.prog 12 #[ptr1 sb, .agg #[.int .u64 (fl : Nat), v], .agg #[.int .i64 2, .int .u64 (s : Nat), .int .i64 n]] w fun e w' => (∃ v', e = .returned (.tuple #[.agg #[.int .u64 (fl : Nat), v'], .bool true]) ∧ OwR w' 0 v' (goR R n)) ∧ Snp w' sb (fl) (goR R n) ∧ Frm w w' (fun k => k = sb) := by
  obtain ⟨p, rl, c, rfl⟩ : ∃ p l c, v = .slice p l c := by
    obtain ⟨p, c, e, -⟩ := hv.rd
    exact ⟨_, _, _, e⟩
  have HINV : Hid (InvR R) := by obtain ⟨_, _, _, _, hx⟩ := h; exact hx.inv
  have HSL : Hid (sb < w.heap.size) := by obtain ⟨_, _, _, _, hx⟩ := h; exact hx.blk.lt
  have hs1 : (w.alloc (.cells #[.int .u64 (fl : Nat), .slice p rl c] 29)).heap.size = w.heap.size + 1 := by simp
  have hs2 : ((w.alloc (.cells #[.int .u64 (fl : Nat), .slice p rl c] 29)).alloc (.cells #[.int .i64 2, .int .u64 (s : Nat), .int .i64 n] 39)).heap.size = w.heap.size + 2 := by simp
  have L1 : Below w.heap.size w (w.alloc (.cells #[.int .u64 (fl : Nat), .slice p rl c] 29)) := (Below.refl _ _).alloc (Nat.le_refl _) _
  have L2 : Below (w.alloc (.cells #[.int .u64 (fl : Nat), .slice p rl c] 29)).heap.size (w.alloc (.cells #[.int .u64 (fl : Nat), .slice p rl c] 29)) ((w.alloc (.cells #[.int .u64 (fl : Nat), .slice p rl c] 29)).alloc (.cells #[.int .i64 2, .int .u64 (s : Nat), .int .i64 n] 39)) := (Below.refl _ _).alloc (Nat.le_refl _) _
  have L3 : Below ((w.alloc (.cells #[.int .u64 (fl : Nat), .slice p rl c] 29)).alloc (.cells #[.int .i64 2, .int .u64 (s : Nat), .int .i64 n] 39)).heap.size ((w.alloc (.cells #[.int .u64 (fl : Nat), .slice p rl c] 29)).alloc (.cells #[.int .i64 2, .int .u64 (s : Nat), .int .i64 n] 39)) (((w.alloc (.cells #[.int .u64 (fl : Nat), .slice p rl c] 29)).alloc (.cells #[.int .i64 2, .int .u64 (s : Nat), .int .i64 n] 39)).alloc (.cells #[.int .u64 0, .slice none 0 0] 29)) := (Below.refl _ _).alloc (Nat.le_refl _) _
  have X1 : BoxT (w.alloc (.cells #[.int .u64 (fl : Nat), .slice p rl c] 29)) w.heap.size #[.int .u64 (fl : Nat), .slice p rl c] 29 := BoxT.new _ _ _
  have X2 : BoxT ((w.alloc (.cells #[.int .u64 (fl : Nat), .slice p rl c] 29)).alloc (.cells #[.int .i64 2, .int .u64 (s : Nat), .int .i64 n] 39)) (w.heap.size + 1) #[.int .i64 2, .int .u64 (s : Nat), .int .i64 n] 39 := by rw [← hs1]; exact BoxT.new _ _ _
  have X3 : BoxT (((w.alloc (.cells #[.int .u64 (fl : Nat), .slice p rl c] 29)).alloc (.cells #[.int .i64 2, .int .u64 (s : Nat), .int .i64 n] 39)).alloc (.cells #[.int .u64 0, .slice none 0 0] 29)) (w.heap.size + 2) #[.int .u64 0, .slice none 0 0] 29 := by rw [← hs2]; exact BoxT.new _ _ _
  have HM : Hid (BoxT (((w.alloc (.cells #[.int .u64 (fl : Nat), .slice p rl c] 29)).alloc (.cells #[.int .i64 2, .int .u64 (s : Nat), .int .i64 n] 39)).alloc (.cells #[.int .u64 0, .slice none 0 0] 29)) w.heap.size #[.int .u64 (fl : Nat), .slice p rl c] 29) := (X1.on L2).on L3
  have HA : Hid (BoxT (((w.alloc (.cells #[.int .u64 (fl : Nat), .slice p rl c] 29)).alloc (.cells #[.int .i64 2, .int .u64 (s : Nat), .int .i64 n] 39)).alloc (.cells #[.int .u64 0, .slice none 0 0] 29)) (w.heap.size + 1) #[.int .i64 2, .int .u64 (s : Nat), .int .i64 n] 39) := X2.on L3
  have HR : Hid (BoxT (((w.alloc (.cells #[.int .u64 (fl : Nat), .slice p rl c] 29)).alloc (.cells #[.int .i64 2, .int .u64 (s : Nat), .int .i64 n] 39)).alloc (.cells #[.int .u64 0, .slice none 0 0] 29)) (w.heap.size + 2) #[.int .u64 0, .slice none 0 0] 29) := X3
  have HL : Hid (Below w.heap.size w (((w.alloc (.cells #[.int .u64 (fl : Nat), .slice p rl c] 29)).alloc (.cells #[.int .i64 2, .int .u64 (s : Nat), .int .i64 n] 39)).alloc (.cells #[.int .u64 0, .slice none 0 0] 29))) := (L1.trans (L2.mono (by omega))).trans (L3.mono (by omega))
  have HS3 : Hid (Snp (((w.alloc (.cells #[.int .u64 (fl : Nat), .slice p rl c] 29)).alloc (.cells #[.int .i64 2, .int .u64 (s : Nat), .int .i64 n] 39)).alloc (.cells #[.int .u64 0, .slice none 0 0] 29)) sb fl R) := h.on HL.out
  have HO3 : Hid (OwR (((w.alloc (.cells #[.int .u64 (fl : Nat), .slice p rl c] 29)).alloc (.cells #[.int .i64 2, .int .u64 (s : Nat), .int .i64 n] 39)).alloc (.cells #[.int .u64 0, .slice none 0 0] 29)) 0 (.slice p rl c) R) := hv.on HL.out
  have k0 : (((w.alloc (.cells #[.int .u64 (fl : Nat), .slice p rl c] 29)).alloc (.cells #[.int .i64 2, .int .u64 (s : Nat), .int .i64 n] 39)).alloc (.cells #[.int .u64 0, .slice none 0 0] 29)).cell? ⟨w.heap.size + 1, 0, none⟩ = some (.int .i64 2) := HA.out.cell
  have k1 : (((w.alloc (.cells #[.int .u64 (fl : Nat), .slice p rl c] 29)).alloc (.cells #[.int .i64 2, .int .u64 (s : Nat), .int .i64 n] 39)).alloc (.cells #[.int .u64 0, .slice none 0 0] 29)).cell? ⟨w.heap.size + 1, 1, none⟩ = some (.int .u64 (s : Nat)) := HA.out.cell
  have k2 : (((w.alloc (.cells #[.int .u64 (fl : Nat), .slice p rl c] 29)).alloc (.cells #[.int .i64 2, .int .u64 (s : Nat), .int .i64 n] 39)).alloc (.cells #[.int .u64 0, .slice none 0 0] 29)).cell? ⟨w.heap.size + 1, 2, none⟩ = some (.int .i64 n) := HA.out.cell
  clear hs1 hs2 L1 L2 L3 X1 X2 X3
  have C1 : Hid (Calls _ _ _ _ _) := Leave_any sb fl n R (((w.alloc (.cells #[.int .u64 (fl : Nat), .slice p rl c] 29)).alloc (.cells #[.int .i64 2, .int .u64 (s : Nat), .int .i64 n] 39)).alloc (.cells #[.int .u64 0, .slice none 0 0] 29)) HS3.out
  clear h hv
  go_enter Try.func12, Try.ntmps12
  go_wp2_with fail
  generalize (((w.alloc (.cells #[.int .u64 (fl : Nat), .slice p rl c] 29)).alloc (.cells #[.int .i64 2, .int .u64 (s : Nat), .int .i64 n] 39)).alloc (.cells #[.int .u64 0, .slice none 0 0] 29)) = w3 at *
  refine C1.out.mono ?_
  rintro e w4 ⟨rfl, hs4, hf4⟩
  have hsl := HSL.out
  have HM4 : Hid (BoxT w4 w.heap.size #[.int .u64 (fl : Nat), .slice p rl c] 29) := (hf4.block _ HM.out.lt (by omega)).trans HM.out
  have HA4 : Hid (BoxT w4 (w.heap.size + 1) #[.int .i64 2, .int .u64 (s : Nat), .int .i64 n] 39) := (hf4.block _ HA.out.lt (by omega)).trans HA.out
  have HR4 : Hid (BoxT w4 (w.heap.size + 2) #[.int .u64 0, .slice none 0 0] 29) := (hf4.block _ HR.out.lt (by omega)).trans HR.out
  have HSX : ∃ vs, BoxT w3 sb vs 74 := by obtain ⟨_, _, _, _, hx⟩ := HS3.out; exact ⟨_, hx.blk⟩
  have HO4 : Hid (OwR w4 0 (.slice p rl c) R) := by obtain ⟨vs, hx⟩ := HSX; exact HO3.out.frm hx (by decide) hf4
  have HS4 : Hid (Snp w4 sb (fl) (goR R n)) := hs4
  have HF4 : Hid (Frm w w4 (fun k => k = sb)) := (Frm.of_below HL.out).trans hf4
  have C2 : Hid (Calls _ _ _ _ _) := rleave_any fl 0 n (.slice p rl c) R w4 HO4.out HINV.out
  have m0 : w4.cell? ⟨w.heap.size, 0, none⟩ = some (.int .u64 (fl : Nat)) := HM4.out.cell
  have m1 : w4.cell? ⟨w.heap.size, 1, none⟩ = some (.slice p rl c) := HM4.out.cell
  have n1 : w4.cell? ⟨w.heap.size + 1, 1, none⟩ = some (.int .u64 (s : Nat)) := HA4.out.cell
  have n2 : w4.cell? ⟨w.heap.size + 1, 2, none⟩ = some (.int .i64 n) := HA4.out.cell
  clear HSX hs4 hf4 hsl C1 HM HA HR HL HS3 HO3 k0 k1 k2
  go_wp2_with fail
  refine C2.out.mono ?_
  rintro e w5 ⟨⟨u, rfl, hv5⟩, hb5⟩
  obtain ⟨q, l, d, rfl⟩ : ∃ p l c, u = .slice p l c := by
    obtain ⟨p, c, e, -⟩ := hv5.rd
    exact ⟨_, _, _, e⟩
  have HR5 : Hid (BoxT w5 (w.heap.size + 2) #[.int .u64 0, .slice none 0 0] 29) := HR4.out.on hb5
  have L6 : Below w5.heap.size w5 (w5.alloc (.cells #[.int .u64 (fl : Nat), .slice q l d] 29)) := (Below.refl _ _).alloc (Nat.le_refl _) _
  have HR6 : Hid (BoxT (w5.alloc (.cells #[.int .u64 (fl : Nat), .slice q l d] 29)) (w.heap.size + 2) #[.int .u64 0, .slice none 0 0] 29) := HR5.out.on L6
  have HS6 : Hid (Snp (w5.alloc (.cells #[.int .u64 (fl : Nat), .slice q l d] 29)) sb (fl) (goR R n)) := (HS4.out.on hb5).on L6
  have HO6 : Hid (OwR (w5.alloc (.cells #[.int .u64 (fl : Nat), .slice q l d] 29)) 0 (.slice q l d) (goR R n)) := hv5.on L6
  have HF6 : Hid (Frm w (w5.alloc (.cells #[.int .u64 (fl : Nat), .slice q l d] 29)) (fun k => k = sb)) := (HF4.out.trans (Frm.of_below hb5)).trans (Frm.of_below L6)
  have hnb := BoxT.new w5 #[.int .u64 (fl : Nat), .slice q l d] 29
  have u0 : (w5.alloc (.cells #[.int .u64 (fl : Nat), .slice q l d] 29)).cell? ⟨w5.heap.size, 0, none⟩ = some (.int .u64 (fl : Nat)) := hnb.cell
  have u1 : (w5.alloc (.cells #[.int .u64 (fl : Nat), .slice q l d] 29)).cell? ⟨w5.heap.size, 1, none⟩ = some (.slice q l d) := hnb.cell
  have g0 : (w5.alloc (.cells #[.int .u64 (fl : Nat), .slice q l d] 29)).cell? ⟨w.heap.size + 2, 0, none⟩ = some (.int .u64 0) := HR6.out.cell
  have g1 : (w5.alloc (.cells #[.int .u64 (fl : Nat), .slice q l d] 29)).cell? ⟨w.heap.size + 2, 1, none⟩ = some (.slice none 0 0) := HR6.out.cell
  have y0 : (w5.alloc (.cells #[.int .u64 (fl : Nat), .slice q l d] 29)).frozen? ⟨w.heap.size + 2, 0, none⟩ = false := HR6.out.frozen
  have y1 : (w5.alloc (.cells #[.int .u64 (fl : Nat), .slice q l d] 29)).frozen? ⟨w.heap.size + 2, 1, none⟩ = false := HR6.out.frozen
  have f7 : Frm (w5.alloc (.cells #[.int .u64 (fl : Nat), .slice q l d] 29)) (((w5.alloc (.cells #[.int .u64 (fl : Nat), .slice q l d] 29)).setCell ⟨w.heap.size + 2, 0, none⟩ (.int .u64 (fl : Nat))).setCell ⟨w.heap.size + 2, 1, none⟩ (.slice q l d)) (fun k => k = w.heap.size + 2) := (frm_set _ _ 0 _ (F := fun k => k = w.heap.size + 2) rfl).trans (frm_set _ _ 1 _ (F := fun k => k = w.heap.size + 2) rfl)
  have HF7 : Hid (Frm w (((w5.alloc (.cells #[.int .u64 (fl : Nat), .slice q l d] 29)).setCell ⟨w.heap.size + 2, 0, none⟩ (.int .u64 (fl : Nat))).setCell ⟨w.heap.size + 2, 1, none⟩ (.slice q l d)) (fun k => k = sb)) := ⟨f7.os.trans HF6.out.os, f7.tape.trans HF6.out.tape, f7.output.trans HF6.out.output, Nat.le_trans HF6.out.size f7.size, fun k hk hn => (f7.block k (Nat.lt_of_lt_of_le hk HF6.out.size) (by omega)).trans (HF6.out.block k hk hn)⟩
  have HO7 : Hid (OwR (((w5.alloc (.cells #[.int .u64 (fl : Nat), .slice q l d] 29)).setCell ⟨w.heap.size + 2, 0, none⟩ (.int .u64 (fl : Nat))).setCell ⟨w.heap.size + 2, 1, none⟩ (.slice q l d)) 0 (.slice q l d) (goR R n)) := HO6.out.frm HR6.out (by decide) f7
  have HS7 : Hid (Snp (((w5.alloc (.cells #[.int .u64 (fl : Nat), .slice q l d] 29)).setCell ⟨w.heap.size + 2, 0, none⟩ (.int .u64 (fl : Nat))).setCell ⟨w.heap.size + 2, 1, none⟩ (.slice q l d)) sb (fl) (goR R n)) := by
    obtain ⟨tb, a, v, ha, hx⟩ := HS6.out
    have h1 := hx.sta.ne HR6.out (by decide)
    have h2 := hx.blk.ne HR6.out (by decide)
    exact ⟨tb, a, v, ha, (hx.blk.off _ h2).off _ h2, (hx.sta.off _ h1).off _ h1, hx.rdr.frm HR6.out (by decide) f7, hx.inv⟩
  have hbe : BoxT (((w5.alloc (.cells #[.int .u64 (fl : Nat), .slice q l d] 29)).setCell ⟨w.heap.size + 2, 0, none⟩ (.int .u64 (fl : Nat))).setCell ⟨w.heap.size + 2, 1, none⟩ (.slice q l d)) (w.heap.size + 2) #[.int .u64 (fl : Nat), .slice q l d] 29 := (HR6.out.set (i := 0) _).set (i := 1) _
  have q0 := hbe.cell (i := 0)
  have q1 := hbe.cell (i := 1)
  clear hbe f7 hnb L6 hv5 hb5 C2 HR5 HR6 HS6 HO6 HF6 HS4 HO4 HF4 HM4 HA4 HR4 m0 m1 n1 n2
  go_wp2_with fail
  refine bodyPost_ret (v := .tuple #[.agg #[.int .u64 (fl : Nat), .slice q l d], .bool true]) (by simp [results, Try.results12, go_sem, q0, q1]) rfl ?_
  exact ⟨⟨_, rfl, HO7.out⟩, HS7.out, HF7.out⟩
set_option maxHeartbeats 4000000 in
theorem playR (sb fl s : Nat) (n : Int) (v : Value) (R : List Rd) (w : World) (h : Snp w sb fl R) (hv : OwR w 0 v R) :
    Calls Try.prog 12 #[ptr1 sb, .agg #[.int .u64 (fl : Nat), v], .agg #[.int .i64 3, .int .u64 (s : Nat), .int .i64 n]] w fun e w' => (∃ v', e = .returned (.tuple #[.agg #[.int .u64 (raiN fl R s : Nat), v'], .bool true]) ∧ OwR w' 0 v' (R)) ∧ Snp w' sb (raiN fl R s) (R) ∧ Frm w w' (fun k => k = sb) := by
  obtain ⟨p, rl, c, rfl⟩ : ∃ p l c, v = .slice p l c := by
    obtain ⟨p, c, e, -⟩ := hv.rd
    exact ⟨_, _, _, e⟩
  have HINV : Hid (InvR R) := by obtain ⟨_, _, _, _, hx⟩ := h; exact hx.inv
  have HSL : Hid (sb < w.heap.size) := by obtain ⟨_, _, _, _, hx⟩ := h; exact hx.blk.lt
  have hs1 : (w.alloc (.cells #[.int .u64 (fl : Nat), .slice p rl c] 29)).heap.size = w.heap.size + 1 := by simp
  have hs2 : ((w.alloc (.cells #[.int .u64 (fl : Nat), .slice p rl c] 29)).alloc (.cells #[.int .i64 3, .int .u64 (s : Nat), .int .i64 n] 39)).heap.size = w.heap.size + 2 := by simp
  have L1 : Below w.heap.size w (w.alloc (.cells #[.int .u64 (fl : Nat), .slice p rl c] 29)) := (Below.refl _ _).alloc (Nat.le_refl _) _
  have L2 : Below (w.alloc (.cells #[.int .u64 (fl : Nat), .slice p rl c] 29)).heap.size (w.alloc (.cells #[.int .u64 (fl : Nat), .slice p rl c] 29)) ((w.alloc (.cells #[.int .u64 (fl : Nat), .slice p rl c] 29)).alloc (.cells #[.int .i64 3, .int .u64 (s : Nat), .int .i64 n] 39)) := (Below.refl _ _).alloc (Nat.le_refl _) _
  have L3 : Below ((w.alloc (.cells #[.int .u64 (fl : Nat), .slice p rl c] 29)).alloc (.cells #[.int .i64 3, .int .u64 (s : Nat), .int .i64 n] 39)).heap.size ((w.alloc (.cells #[.int .u64 (fl : Nat), .slice p rl c] 29)).alloc (.cells #[.int .i64 3, .int .u64 (s : Nat), .int .i64 n] 39)) (((w.alloc (.cells #[.int .u64 (fl : Nat), .slice p rl c] 29)).alloc (.cells #[.int .i64 3, .int .u64 (s : Nat), .int .i64 n] 39)).alloc (.cells #[.int .u64 0, .slice none 0 0] 29)) := (Below.refl _ _).alloc (Nat.le_refl _) _
  have X1 : BoxT (w.alloc (.cells #[.int .u64 (fl : Nat), .slice p rl c] 29)) w.heap.size #[.int .u64 (fl : Nat), .slice p rl c] 29 := BoxT.new _ _ _
  have X2 : BoxT ((w.alloc (.cells #[.int .u64 (fl : Nat), .slice p rl c] 29)).alloc (.cells #[.int .i64 3, .int .u64 (s : Nat), .int .i64 n] 39)) (w.heap.size + 1) #[.int .i64 3, .int .u64 (s : Nat), .int .i64 n] 39 := by rw [← hs1]; exact BoxT.new _ _ _
  have X3 : BoxT (((w.alloc (.cells #[.int .u64 (fl : Nat), .slice p rl c] 29)).alloc (.cells #[.int .i64 3, .int .u64 (s : Nat), .int .i64 n] 39)).alloc (.cells #[.int .u64 0, .slice none 0 0] 29)) (w.heap.size + 2) #[.int .u64 0, .slice none 0 0] 29 := by rw [← hs2]; exact BoxT.new _ _ _
  have HM : Hid (BoxT (((w.alloc (.cells #[.int .u64 (fl : Nat), .slice p rl c] 29)).alloc (.cells #[.int .i64 3, .int .u64 (s : Nat), .int .i64 n] 39)).alloc (.cells #[.int .u64 0, .slice none 0 0] 29)) w.heap.size #[.int .u64 (fl : Nat), .slice p rl c] 29) := (X1.on L2).on L3
  have HA : Hid (BoxT (((w.alloc (.cells #[.int .u64 (fl : Nat), .slice p rl c] 29)).alloc (.cells #[.int .i64 3, .int .u64 (s : Nat), .int .i64 n] 39)).alloc (.cells #[.int .u64 0, .slice none 0 0] 29)) (w.heap.size + 1) #[.int .i64 3, .int .u64 (s : Nat), .int .i64 n] 39) := X2.on L3
  have HR : Hid (BoxT (((w.alloc (.cells #[.int .u64 (fl : Nat), .slice p rl c] 29)).alloc (.cells #[.int .i64 3, .int .u64 (s : Nat), .int .i64 n] 39)).alloc (.cells #[.int .u64 0, .slice none 0 0] 29)) (w.heap.size + 2) #[.int .u64 0, .slice none 0 0] 29) := X3
  have HL : Hid (Below w.heap.size w (((w.alloc (.cells #[.int .u64 (fl : Nat), .slice p rl c] 29)).alloc (.cells #[.int .i64 3, .int .u64 (s : Nat), .int .i64 n] 39)).alloc (.cells #[.int .u64 0, .slice none 0 0] 29))) := (L1.trans (L2.mono (by omega))).trans (L3.mono (by omega))
  have HS3 : Hid (Snp (((w.alloc (.cells #[.int .u64 (fl : Nat), .slice p rl c] 29)).alloc (.cells #[.int .i64 3, .int .u64 (s : Nat), .int .i64 n] 39)).alloc (.cells #[.int .u64 0, .slice none 0 0] 29)) sb fl R) := h.on HL.out
  have HO3 : Hid (OwR (((w.alloc (.cells #[.int .u64 (fl : Nat), .slice p rl c] 29)).alloc (.cells #[.int .i64 3, .int .u64 (s : Nat), .int .i64 n] 39)).alloc (.cells #[.int .u64 0, .slice none 0 0] 29)) 0 (.slice p rl c) R) := hv.on HL.out
  have k0 : (((w.alloc (.cells #[.int .u64 (fl : Nat), .slice p rl c] 29)).alloc (.cells #[.int .i64 3, .int .u64 (s : Nat), .int .i64 n] 39)).alloc (.cells #[.int .u64 0, .slice none 0 0] 29)).cell? ⟨w.heap.size + 1, 0, none⟩ = some (.int .i64 3) := HA.out.cell
  have k1 : (((w.alloc (.cells #[.int .u64 (fl : Nat), .slice p rl c] 29)).alloc (.cells #[.int .i64 3, .int .u64 (s : Nat), .int .i64 n] 39)).alloc (.cells #[.int .u64 0, .slice none 0 0] 29)).cell? ⟨w.heap.size + 1, 1, none⟩ = some (.int .u64 (s : Nat)) := HA.out.cell
  have k2 : (((w.alloc (.cells #[.int .u64 (fl : Nat), .slice p rl c] 29)).alloc (.cells #[.int .i64 3, .int .u64 (s : Nat), .int .i64 n] 39)).alloc (.cells #[.int .u64 0, .slice none 0 0] 29)).cell? ⟨w.heap.size + 1, 2, none⟩ = some (.int .i64 n) := HA.out.cell
  clear hs1 hs2 L1 L2 L3 X1 X2 X3
  have C1 : Hid (Calls _ _ _ _ _) := Raise_any sb fl s R (((w.alloc (.cells #[.int .u64 (fl : Nat), .slice p rl c] 29)).alloc (.cells #[.int .i64 3, .int .u64 (s : Nat), .int .i64 n] 39)).alloc (.cells #[.int .u64 0, .slice none 0 0] 29)) HS3.out
  clear h hv
  go_enter Try.func12, Try.ntmps12
  go_wp2_with fail
  generalize (((w.alloc (.cells #[.int .u64 (fl : Nat), .slice p rl c] 29)).alloc (.cells #[.int .i64 3, .int .u64 (s : Nat), .int .i64 n] 39)).alloc (.cells #[.int .u64 0, .slice none 0 0] 29)) = w3 at *
  refine C1.out.mono ?_
  rintro e w4 ⟨rfl, hs4, hf4⟩
  have hsl := HSL.out
  have HM4 : Hid (BoxT w4 w.heap.size #[.int .u64 (fl : Nat), .slice p rl c] 29) := (hf4.block _ HM.out.lt (by omega)).trans HM.out
  have HA4 : Hid (BoxT w4 (w.heap.size + 1) #[.int .i64 3, .int .u64 (s : Nat), .int .i64 n] 39) := (hf4.block _ HA.out.lt (by omega)).trans HA.out
  have HR4 : Hid (BoxT w4 (w.heap.size + 2) #[.int .u64 0, .slice none 0 0] 29) := (hf4.block _ HR.out.lt (by omega)).trans HR.out
  have HSX : ∃ vs, BoxT w3 sb vs 74 := by obtain ⟨_, _, _, _, hx⟩ := HS3.out; exact ⟨_, hx.blk⟩
  have HO4 : Hid (OwR w4 0 (.slice p rl c) R) := by obtain ⟨vs, hx⟩ := HSX; exact HO3.out.frm hx (by decide) hf4
  have HS4 : Hid (Snp w4 sb (raiN fl R s) (R)) := hs4
  have HF4 : Hid (Frm w w4 (fun k => k = sb)) := (Frm.of_below HL.out).trans hf4
  have C2 : Hid (Calls _ _ _ _ _) := rraise_any fl 0 s (.slice p rl c) R w4 HO4.out HINV.out.len
  have m0 : w4.cell? ⟨w.heap.size, 0, none⟩ = some (.int .u64 (fl : Nat)) := HM4.out.cell
  have m1 : w4.cell? ⟨w.heap.size, 1, none⟩ = some (.slice p rl c) := HM4.out.cell
  have n1 : w4.cell? ⟨w.heap.size + 1, 1, none⟩ = some (.int .u64 (s : Nat)) := HA4.out.cell
  have n2 : w4.cell? ⟨w.heap.size + 1, 2, none⟩ = some (.int .i64 n) := HA4.out.cell
  clear HSX hs4 hf4 hsl C1 HM HA HR HL HS3 HO3 k0 k1 k2
  go_wp2_with fail
  refine C2.out.mono ?_
  rintro e w5 ⟨rfl, hb5⟩
  have hv5 : OwR w5 0 (.slice p rl c) R := HO4.out.on hb5
  have HR5 : Hid (BoxT w5 (w.heap.size + 2) #[.int .u64 0, .slice none 0 0] 29) := HR4.out.on hb5
  have L6 : Below w5.heap.size w5 (w5.alloc (.cells #[.int .u64 (raiN fl R s : Nat), .slice p rl c] 29)) := (Below.refl _ _).alloc (Nat.le_refl _) _
  have HR6 : Hid (BoxT (w5.alloc (.cells #[.int .u64 (raiN fl R s : Nat), .slice p rl c] 29)) (w.heap.size + 2) #[.int .u64 0, .slice none 0 0] 29) := HR5.out.on L6
  have HS6 : Hid (Snp (w5.alloc (.cells #[.int .u64 (raiN fl R s : Nat), .slice p rl c] 29)) sb (raiN fl R s) (R)) := (HS4.out.on hb5).on L6
  have HO6 : Hid (OwR (w5.alloc (.cells #[.int .u64 (raiN fl R s : Nat), .slice p rl c] 29)) 0 (.slice p rl c) (R)) := hv5.on L6
  have HF6 : Hid (Frm w (w5.alloc (.cells #[.int .u64 (raiN fl R s : Nat), .slice p rl c] 29)) (fun k => k = sb)) := (HF4.out.trans (Frm.of_below hb5)).trans (Frm.of_below L6)
  have hnb := BoxT.new w5 #[.int .u64 (raiN fl R s : Nat), .slice p rl c] 29
  have u0 : (w5.alloc (.cells #[.int .u64 (raiN fl R s : Nat), .slice p rl c] 29)).cell? ⟨w5.heap.size, 0, none⟩ = some (.int .u64 (raiN fl R s : Nat)) := hnb.cell
  have u1 : (w5.alloc (.cells #[.int .u64 (raiN fl R s : Nat), .slice p rl c] 29)).cell? ⟨w5.heap.size, 1, none⟩ = some (.slice p rl c) := hnb.cell
  have g0 : (w5.alloc (.cells #[.int .u64 (raiN fl R s : Nat), .slice p rl c] 29)).cell? ⟨w.heap.size + 2, 0, none⟩ = some (.int .u64 0) := HR6.out.cell
  have g1 : (w5.alloc (.cells #[.int .u64 (raiN fl R s : Nat), .slice p rl c] 29)).cell? ⟨w.heap.size + 2, 1, none⟩ = some (.slice none 0 0) := HR6.out.cell
  have y0 : (w5.alloc (.cells #[.int .u64 (raiN fl R s : Nat), .slice p rl c] 29)).frozen? ⟨w.heap.size + 2, 0, none⟩ = false := HR6.out.frozen
  have y1 : (w5.alloc (.cells #[.int .u64 (raiN fl R s : Nat), .slice p rl c] 29)).frozen? ⟨w.heap.size + 2, 1, none⟩ = false := HR6.out.frozen
  have f7 : Frm (w5.alloc (.cells #[.int .u64 (raiN fl R s : Nat), .slice p rl c] 29)) (((w5.alloc (.cells #[.int .u64 (raiN fl R s : Nat), .slice p rl c] 29)).setCell ⟨w.heap.size + 2, 0, none⟩ (.int .u64 (raiN fl R s : Nat))).setCell ⟨w.heap.size + 2, 1, none⟩ (.slice p rl c)) (fun k => k = w.heap.size + 2) := (frm_set _ _ 0 _ (F := fun k => k = w.heap.size + 2) rfl).trans (frm_set _ _ 1 _ (F := fun k => k = w.heap.size + 2) rfl)
  have HF7 : Hid (Frm w (((w5.alloc (.cells #[.int .u64 (raiN fl R s : Nat), .slice p rl c] 29)).setCell ⟨w.heap.size + 2, 0, none⟩ (.int .u64 (raiN fl R s : Nat))).setCell ⟨w.heap.size + 2, 1, none⟩ (.slice p rl c)) (fun k => k = sb)) := ⟨f7.os.trans HF6.out.os, f7.tape.trans HF6.out.tape, f7.output.trans HF6.out.output, Nat.le_trans HF6.out.size f7.size, fun k hk hn => (f7.block k (Nat.lt_of_lt_of_le hk HF6.out.size) (by omega)).trans (HF6.out.block k hk hn)⟩
  have HO7 : Hid (OwR (((w5.alloc (.cells #[.int .u64 (raiN fl R s : Nat), .slice p rl c] 29)).setCell ⟨w.heap.size + 2, 0, none⟩ (.int .u64 (raiN fl R s : Nat))).setCell ⟨w.heap.size + 2, 1, none⟩ (.slice p rl c)) 0 (.slice p rl c) (R)) := HO6.out.frm HR6.out (by decide) f7
  have HS7 : Hid (Snp (((w5.alloc (.cells #[.int .u64 (raiN fl R s : Nat), .slice p rl c] 29)).setCell ⟨w.heap.size + 2, 0, none⟩ (.int .u64 (raiN fl R s : Nat))).setCell ⟨w.heap.size + 2, 1, none⟩ (.slice p rl c)) sb (raiN fl R s) (R)) := by
    obtain ⟨tb, a, v, ha, hx⟩ := HS6.out
    have h1 := hx.sta.ne HR6.out (by decide)
    have h2 := hx.blk.ne HR6.out (by decide)
    exact ⟨tb, a, v, ha, (hx.blk.off _ h2).off _ h2, (hx.sta.off _ h1).off _ h1, hx.rdr.frm HR6.out (by decide) f7, hx.inv⟩
  have hbe : BoxT (((w5.alloc (.cells #[.int .u64 (raiN fl R s : Nat), .slice p rl c] 29)).setCell ⟨w.heap.size + 2, 0, none⟩ (.int .u64 (raiN fl R s : Nat))).setCell ⟨w.heap.size + 2, 1, none⟩ (.slice p rl c)) (w.heap.size + 2) #[.int .u64 (raiN fl R s : Nat), .slice p rl c] 29 := (HR6.out.set (i := 0) _).set (i := 1) _
  have q0 := hbe.cell (i := 0)
  have q1 := hbe.cell (i := 1)
  clear hbe f7 hnb L6 hv5 hb5 C2 HR5 HR6 HS6 HO6 HF6 HS4 HO4 HF4 HM4 HA4 HR4 m0 m1 n1 n2
  go_wp2_with fail
  refine bodyPost_ret (v := .tuple #[.agg #[.int .u64 (raiN fl R s : Nat), .slice p rl c], .bool true]) (by simp [results, Try.results12, go_sem, q0, q1]) rfl ?_
  exact ⟨⟨_, rfl, HO7.out⟩, HS7.out, HF7.out⟩
set_option maxHeartbeats 4000000 in
theorem playN (k : Int) (h1 : ¬ k = 1) (h2 : ¬ k = 2) (h3 : ¬ k = 3) (sb fl s : Nat) (n : Int) (v : Value) (R : List Rd) (w : World) (h : Snp w sb fl R) (hv : OwR w 0 v R) :
    Calls Try.prog 12 #[ptr1 sb, .agg #[.int .u64 (fl : Nat), v], .agg #[.int .i64 k, .int .u64 (s : Nat), .int .i64 n]] w fun e w' => (∃ v', e = .returned (.tuple #[.agg #[.int .u64 (fl : Nat), v'], .bool true]) ∧ OwR w' 0 v' (R)) ∧ Snp w' sb (fl) (R) ∧ Frm w w' (fun k => k = sb) := by
  obtain ⟨p, rl, c, rfl⟩ : ∃ p l c, v = .slice p l c := by
    obtain ⟨p, c, e, -⟩ := hv.rd
    exact ⟨_, _, _, e⟩
  have HINV : Hid (InvR R) := by obtain ⟨_, _, _, _, hx⟩ := h; exact hx.inv
  have HSL : Hid (sb < w.heap.size) := by obtain ⟨_, _, _, _, hx⟩ := h; exact hx.blk.lt
  have hs1 : (w.alloc (.cells #[.int .u64 (fl : Nat), .slice p rl c] 29)).heap.size = w.heap.size + 1 := by simp
  have hs2 : ((w.alloc (.cells #[.int .u64 (fl : Nat), .slice p rl c] 29)).alloc (.cells #[.int .i64 k, .int .u64 (s : Nat), .int .i64 n] 39)).heap.size = w.heap.size + 2 := by simp
  have L1 : Below w.heap.size w (w.alloc (.cells #[.int .u64 (fl : Nat), .slice p rl c] 29)) := (Below.refl _ _).alloc (Nat.le_refl _) _
  have L2 : Below (w.alloc (.cells #[.int .u64 (fl : Nat), .slice p rl c] 29)).heap.size (w.alloc (.cells #[.int .u64 (fl : Nat), .slice p rl c] 29)) ((w.alloc (.cells #[.int .u64 (fl : Nat), .slice p rl c] 29)).alloc (.cells #[.int .i64 k, .int .u64 (s : Nat), .int .i64 n] 39)) := (Below.refl _ _).alloc (Nat.le_refl _) _
  have L3 : Below ((w.alloc (.cells #[.int .u64 (fl : Nat), .slice p rl c] 29)).alloc (.cells #[.int .i64 k, .int .u64 (s : Nat), .int .i64 n] 39)).heap.size ((w.alloc (.cells #[.int .u64 (fl : Nat), .slice p rl c] 29)).alloc (.cells #[.int .i64 k, .int .u64 (s : Nat), .int .i64 n] 39)) (((w.alloc (.cells #[.int .u64 (fl : Nat), .slice p rl c] 29)).alloc (.cells #[.int .i64 k, .int .u64 (s : Nat), .int .i64 n] 39)).alloc (.cells #[.int .u64 0, .slice none 0 0] 29)) := (Below.refl _ _).alloc (Nat.le_refl _) _
  have X1 : BoxT (w.alloc (.cells #[.int .u64 (fl : Nat), .slice p rl c] 29)) w.heap.size #[.int .u64 (fl : Nat), .slice p rl c] 29 := BoxT.new _ _ _
  have X2 : BoxT ((w.alloc (.cells #[.int .u64 (fl : Nat), .slice p rl c] 29)).alloc (.cells #[.int .i64 k, .int .u64 (s : Nat), .int .i64 n] 39)) (w.heap.size + 1) #[.int .i64 k, .int .u64 (s : Nat), .int .i64 n] 39 := by rw [← hs1]; exact BoxT.new _ _ _
  have X3 : BoxT (((w.alloc (.cells #[.int .u64 (fl : Nat), .slice p rl c] 29)).alloc (.cells #[.int .i64 k, .int .u64 (s : Nat), .int .i64 n] 39)).alloc (.cells #[.int .u64 0, .slice none 0 0] 29)) (w.heap.size + 2) #[.int .u64 0, .slice none 0 0] 29 := by rw [← hs2]; exact BoxT.new _ _ _
  have HM : Hid (BoxT (((w.alloc (.cells #[.int .u64 (fl : Nat), .slice p rl c] 29)).alloc (.cells #[.int .i64 k, .int .u64 (s : Nat), .int .i64 n] 39)).alloc (.cells #[.int .u64 0, .slice none 0 0] 29)) w.heap.size #[.int .u64 (fl : Nat), .slice p rl c] 29) := (X1.on L2).on L3
  have HA : Hid (BoxT (((w.alloc (.cells #[.int .u64 (fl : Nat), .slice p rl c] 29)).alloc (.cells #[.int .i64 k, .int .u64 (s : Nat), .int .i64 n] 39)).alloc (.cells #[.int .u64 0, .slice none 0 0] 29)) (w.heap.size + 1) #[.int .i64 k, .int .u64 (s : Nat), .int .i64 n] 39) := X2.on L3
  have HR : Hid (BoxT (((w.alloc (.cells #[.int .u64 (fl : Nat), .slice p rl c] 29)).alloc (.cells #[.int .i64 k, .int .u64 (s : Nat), .int .i64 n] 39)).alloc (.cells #[.int .u64 0, .slice none 0 0] 29)) (w.heap.size + 2) #[.int .u64 0, .slice none 0 0] 29) := X3
  have HL : Hid (Below w.heap.size w (((w.alloc (.cells #[.int .u64 (fl : Nat), .slice p rl c] 29)).alloc (.cells #[.int .i64 k, .int .u64 (s : Nat), .int .i64 n] 39)).alloc (.cells #[.int .u64 0, .slice none 0 0] 29))) := (L1.trans (L2.mono (by omega))).trans (L3.mono (by omega))
  have HS3 : Hid (Snp (((w.alloc (.cells #[.int .u64 (fl : Nat), .slice p rl c] 29)).alloc (.cells #[.int .i64 k, .int .u64 (s : Nat), .int .i64 n] 39)).alloc (.cells #[.int .u64 0, .slice none 0 0] 29)) sb fl R) := h.on HL.out
  have HO3 : Hid (OwR (((w.alloc (.cells #[.int .u64 (fl : Nat), .slice p rl c] 29)).alloc (.cells #[.int .i64 k, .int .u64 (s : Nat), .int .i64 n] 39)).alloc (.cells #[.int .u64 0, .slice none 0 0] 29)) 0 (.slice p rl c) R) := hv.on HL.out
  have k0 : (((w.alloc (.cells #[.int .u64 (fl : Nat), .slice p rl c] 29)).alloc (.cells #[.int .i64 k, .int .u64 (s : Nat), .int .i64 n] 39)).alloc (.cells #[.int .u64 0, .slice none 0 0] 29)).cell? ⟨w.heap.size + 1, 0, none⟩ = some (.int .i64 k) := HA.out.cell
  have k1 : (((w.alloc (.cells #[.int .u64 (fl : Nat), .slice p rl c] 29)).alloc (.cells #[.int .i64 k, .int .u64 (s : Nat), .int .i64 n] 39)).alloc (.cells #[.int .u64 0, .slice none 0 0] 29)).cell? ⟨w.heap.size + 1, 1, none⟩ = some (.int .u64 (s : Nat)) := HA.out.cell
  have k2 : (((w.alloc (.cells #[.int .u64 (fl : Nat), .slice p rl c] 29)).alloc (.cells #[.int .i64 k, .int .u64 (s : Nat), .int .i64 n] 39)).alloc (.cells #[.int .u64 0, .slice none 0 0] 29)).cell? ⟨w.heap.size + 1, 2, none⟩ = some (.int .i64 n) := HA.out.cell
  clear hs1 hs2 L1 L2 L3 X1 X2 X3
  have HB : Hid (Below w.heap.size w (((w.alloc (.cells #[.int .u64 (fl : Nat), .slice p rl c] 29)).alloc (.cells #[.int .i64 k, .int .u64 (s : Nat), .int .i64 n] 39)).alloc (.cells #[.int .u64 (fl : Nat), .slice p rl c] 29))) := by
    show Below _ _ _
    go_grown
  have hbe : BoxT (((w.alloc (.cells #[.int .u64 (fl : Nat), .slice p rl c] 29)).alloc (.cells #[.int .i64 k, .int .u64 (s : Nat), .int .i64 n] 39)).alloc (.cells #[.int .u64 (fl : Nat), .slice p rl c] 29)) (w.heap.size + 2) #[.int .u64 (fl : Nat), .slice p rl c] 29 := by
    have h := BoxT.new ((w.alloc (.cells #[.int .u64 (fl : Nat), .slice p rl c] 29)).alloc (.cells #[.int .i64 k, .int .u64 (s : Nat), .int .i64 n] 39)) #[.int .u64 (fl : Nat), .slice p rl c] 29
    have e : ((w.alloc (.cells #[.int .u64 (fl : Nat), .slice p rl c] 29)).alloc (.cells #[.int .i64 k, .int .u64 (s : Nat), .int .i64 n] 39)).heap.size = w.heap.size + 2 := by simp
    rw [e] at h
    exact h
  have q0 := hbe.cell (i := 0)
  have q1 := hbe.cell (i := 1)
  have m0 : (((w.alloc (.cells #[.int .u64 (fl : Nat), .slice p rl c] 29)).alloc (.cells #[.int .i64 k, .int .u64 (s : Nat), .int .i64 n] 39)).alloc (.cells #[.int .u64 0, .slice none 0 0] 29)).cell? ⟨w.heap.size, 0, none⟩ = some (.int .u64 (fl : Nat)) := HM.out.cell
  have m1 : (((w.alloc (.cells #[.int .u64 (fl : Nat), .slice p rl c] 29)).alloc (.cells #[.int .i64 k, .int .u64 (s : Nat), .int .i64 n] 39)).alloc (.cells #[.int .u64 0, .slice none 0 0] 29)).cell? ⟨w.heap.size, 1, none⟩ = some (.slice p rl c) := HM.out.cell
  have HSN : Hid (Snp (((w.alloc (.cells #[.int .u64 (fl : Nat), .slice p rl c] 29)).alloc (.cells #[.int .i64 k, .int .u64 (s : Nat), .int .i64 n] 39)).alloc (.cells #[.int .u64 (fl : Nat), .slice p rl c] 29)) sb fl R ∧ OwR (((w.alloc (.cells #[.int .u64 (fl : Nat), .slice p rl c] 29)).alloc (.cells #[.int .i64 k, .int .u64 (s : Nat), .int .i64 n] 39)).alloc (.cells #[.int .u64 (fl : Nat), .slice p rl c] 29)) 0 (.slice p rl c) R) := ⟨h.on HB.out, hv.on HB.out⟩
  clear hbe h hv
  go_enter Try.func12, Try.ntmps12
  go_wp2_with fail
  refine bodyPost_ret (v := .tuple #[.agg #[.int .u64 (fl : Nat), .slice p rl c], .bool true]) (by simp [results, Try.results12, go_sem, q0, q1]) rfl ?_
  exact ⟨⟨_, rfl, HSN.out.2⟩, HSN.out.1, Frm.of_below HB.out⟩
/-- what stands there behind a call -/
def stepF (k : Int) (s fl : Nat) (R : List Rd) : Nat := if k = 3 then raiN fl R s else fl
def stepR (k n : Int) (s fl : Nat) (R : List Rd) : List Rd := if k = 1 then entL fl R s else if k = 2 then goR R n else R
theorem play_any (k : Int) (sb fl s : Nat) (n : Int) (v : Value) (R : List Rd) (w : World) (h : Snp w sb fl R) (hv : OwR w 0 v R) :
    Calls Try.prog 12 #[ptr1 sb, .agg #[.int .u64 (fl : Nat), v], .agg #[.int .i64 k, .int .u64 (s : Nat), .int .i64 n]] w fun e w' => (∃ v', e = .returned (.tuple #[.agg #[.int .u64 (stepF k s fl R : Nat), v'], .bool true]) ∧ OwR w' 0 v' (stepR k n s fl R)) ∧ Snp w' sb (stepF k s fl R) (stepR k n s fl R) ∧ Frm w w' (fun k => k = sb) := by
  unfold stepF stepR
  by_cases h1 : k = 1
  · subst h1
    exact playE sb fl s n v R w h hv
  · by_cases h2 : k = 2
    · subst h2
      exact playL sb fl s n v R w h hv
    · by_cases h3 : k = 3
      · subst h3
        exact playR sb fl s n v R w h hv
      · rw [if_neg h1, if_neg h2, if_neg h3]
        exact playN k h1 h2 h3 sb fl s n v R w h hv
end Go.Proofs.Ytbmgkoifidhfjaa
