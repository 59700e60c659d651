/- The first of points that it was shown: see, seeShared. -/
import Derived.Test.YtjeidpgkgjljcaaMMin
import Derived.Test.YtjeidpgkgjljcaaWPtM
import Derived.Test.YtjeidpgkgjljcaaWQuiet
namespace Go.Proofs.Ytjeidpgkgjljcaa
open Go.RowKit
set_option maxRecDepth 100000

set_option maxHeartbeats 4000000 in
theorem see_any (o : Option Pt) (p : Pt) (lb : Nat) (w : World) (h : Blk w lb (lC o) 43) :
    Calls Try.prog 42 #[ptr1 lb, PV p] w fun e w' => e = .returned (.tuple #[]) ∧ Blk w' lb (lC (minO o p)) 43 ∧ Frm w w' (fun k => k = lb) := by
  have hlt := h.lt
  have hal : Below w.heap.size w (w.alloc (.cells #[.int .i64 p.t, .int .i64 p.i, .string p.k] 27)) := (Below.refl _ _).alloc (Nat.le_refl _) _
  have hB0 : Blk (w.alloc (.cells #[.int .i64 p.t, .int .i64 p.i, .string p.k] 27)) lb (lC o) 43 := h.on hal
  have hP := Blk.new w #[.int .i64 p.t, .int .i64 p.i, .string p.k] 27
  have hne : ¬ lb = w.heap.size := by omega
  have hne2 : ¬ w.heap.size = lb := by omega
  have HF : Hid (Frm w (w.alloc (.cells #[.int .i64 p.t, .int .i64 p.i, .string p.k] 27)) (fun k => k = lb)) := Frm.of_below hal
  have hz1 : (w.alloc (.cells #[.int .i64 p.t, .int .i64 p.i, .string p.k] 27)).heap.size = w.heap.size + 1 := by simp
  have HZ : Hid ((w.alloc (.cells #[.int .i64 p.t, .int .i64 p.i, .string p.k] 27)).heap.size = w.heap.size + 1) := hz1
  clear hz1
  cases o with
  | none =>
    have hB : Blk (w.alloc (.cells #[.int .i64 p.t, .int .i64 p.i, .string p.k] 27)) lb #[.int .i64 0, .int .i64 0, .string ⟨#[]⟩, .bool false] 43 := hB0
    have a0 := hB.cell (i := 0) rfl
    have a1 := hB.cell (i := 1) rfl
    have a2 := hB.cell (i := 2) rfl
    have a3 := hB.cell (i := 3) rfl
    have f0 := hB.frozen 0
    have f1 := hB.frozen 1
    have f2 := hB.frozen 2
    have f3 := hB.frozen 3
    have p0 := hP.cell (i := 0) rfl
    have p1 := hP.cell (i := 1) rfl
    have p2 := hP.cell (i := 2) rfl
    have HB : Hid (Blk (w.alloc (.cells #[.int .i64 p.t, .int .i64 p.i, .string p.k] 27)) lb #[.int .i64 0, .int .i64 0, .string ⟨#[]⟩, .bool false] 43) := hB
    clear h hal hB hP hB0
    have C1 : Hid (∀ w1 : World, True → True) := fun _ _ => trivial
    go_enter Try.func42, Try.ntmps42
    go_wp2_with fail
    generalize (w.alloc (.cells #[.int .i64 p.t, .int .i64 p.i, .string p.k] 27)) = w1 at *
    have b0 := InB.cell (w := w1) a0 (by have := HZ.out; omega)
    have b1 := InB.cell (w := w1) a1 (by have := HZ.out; omega)
    have b2 := InB.cell (w := w1) a2 (by have := HZ.out; omega)
    have b3 := InB.cell (w := w1) a3 (by have := HZ.out; omega)
    have q0 := InB.cell (w := w1) p0 (by have := HZ.out; omega)
    have q1 := InB.cell (w := w1) p1 (by have := HZ.out; omega)
    have q2 := InB.cell (w := w1) p2 (by have := HZ.out; omega)
    have ne1 := inB_ne w1
    refine wp_region_inB (by kernel_rfl) (by kernel_rfl) ?_
    repeat (go_big_quiet_step (first
      | (go_at_call 46; fail)))
    refine wpQuiet_nil ?_
    rintro w2 ⟨⟨w3, hb2⟩, h9⟩
    obtain rfl : w2 = w3 := h9
    clear b0 b1 b2 b3 q0 q1 q2 ne1
    have p0' := (hb2.cell (p := ⟨w.heap.size, 0, none⟩) (by have := HZ.out; show w.heap.size < _; omega)).trans p0
    have p1' := (hb2.cell (p := ⟨w.heap.size, 1, none⟩) (by have := HZ.out; show w.heap.size < _; omega)).trans p1
    have p2' := (hb2.cell (p := ⟨w.heap.size, 2, none⟩) (by have := HZ.out; show w.heap.size < _; omega)).trans p2
    have HB2 : Hid (Blk w2 lb #[.int .i64 0, .int .i64 0, .string ⟨#[]⟩, .bool false] 43) := HB.out.on hb2
    have HF2 : Hid (Frm w w2 (fun k => k = lb)) := HF.out.trans (Frm.of_below (F := fun k => k = lb) hb2) (fun k hk => .inl hk)
    clear a0 a1 a2 a3 f0 f1 f2 f3 p0 p1 p2 hb2 HB HF HZ
    have a0 := HB2.out.cell (i := 0) rfl
    have a1 := HB2.out.cell (i := 1) rfl
    have a2 := HB2.out.cell (i := 2) rfl
    have a3 := HB2.out.cell (i := 3) rfl
    have f0 := HB2.out.frozen 0
    have f1 := HB2.out.frozen 1
    have f2 := HB2.out.frozen 2
    have f3 := HB2.out.frozen 3
    go_wp2_with fail
    go_returns
    exact ⟨rfl, (((HB2.out.set 0 _).set 1 _).set 2 _).set 3 _, (((HF2.out.trans (frm_set _ lb 0 _ (F := fun k => k = lb) (.inl rfl)) (fun k hk => .inl hk)).trans (frm_set _ lb 1 _ (F := fun k => k = lb) (.inl rfl)) (fun k hk => .inl hk)).trans (frm_set _ lb 2 _ (F := fun k => k = lb) (.inl rfl)) (fun k hk => .inl hk)).trans (frm_set _ lb 3 _ (F := fun k => k = lb) (.inl rfl)) (fun k hk => .inl hk)⟩
  | some q =>
    have C1 : Hid (∀ w1 : World, Calls Try.prog 46 #[PV p, PV q] w1 fun e w' => e = .returned (.int .i64 (cmpP p q)) ∧ Below w1.heap.size w1 w') := fun w1 => compareB_any p q w1
    have hm : minO (some q) p = if decide (cmpP p q < 0) then some p else some q := rfl
    rw [hm]
    clear hm
    generalize cmpP p q = c at *
    cases hc : decide (c < 0)
    · have hB : Blk (w.alloc (.cells #[.int .i64 p.t, .int .i64 p.i, .string p.k] 27)) lb #[.int .i64 q.t, .int .i64 q.i, .string q.k, .bool true] 43 := hB0
      have a0 := hB.cell (i := 0) rfl
      have a1 := hB.cell (i := 1) rfl
      have a2 := hB.cell (i := 2) rfl
      have a3 := hB.cell (i := 3) rfl
      have f0 := hB.frozen 0
      have f1 := hB.frozen 1
      have f2 := hB.frozen 2
      have f3 := hB.frozen 3
      have p0 := hP.cell (i := 0) rfl
      have p1 := hP.cell (i := 1) rfl
      have p2 := hP.cell (i := 2) rfl
      have HB : Hid (Blk (w.alloc (.cells #[.int .i64 p.t, .int .i64 p.i, .string p.k] 27)) lb #[.int .i64 q.t, .int .i64 q.i, .string q.k, .bool true] 43) := hB
      clear h hal hB hP hB0
      rw [if_neg (by simp)]
      go_enter Try.func42, Try.ntmps42
      go_wp2_with fail
      generalize (w.alloc (.cells #[.int .i64 p.t, .int .i64 p.i, .string p.k] 27)) = w1 at *
      have b0 := InB.cell (w := w1) a0 (by have := HZ.out; omega)
      have b1 := InB.cell (w := w1) a1 (by have := HZ.out; omega)
      have b2 := InB.cell (w := w1) a2 (by have := HZ.out; omega)
      have b3 := InB.cell (w := w1) a3 (by have := HZ.out; omega)
      have q0 := InB.cell (w := w1) p0 (by have := HZ.out; omega)
      have q1 := InB.cell (w := w1) p1 (by have := HZ.out; omega)
      have q2 := InB.cell (w := w1) p2 (by have := HZ.out; omega)
      have ne1 := inB_ne w1
      refine wp_region_inB (by kernel_rfl) (by kernel_rfl) ?_
      repeat (go_big_quiet_step (first
        | (go_at_call 46; exact Calls.inB (C1.out _))))
      refine wpQuiet_nil ?_
      rintro w2 ⟨⟨w3, hb2⟩, h9⟩
      obtain rfl : w2 = w3 := h9
      clear b0 b1 b2 b3 q0 q1 q2 ne1
      have p0' := (hb2.cell (p := ⟨w.heap.size, 0, none⟩) (by have := HZ.out; show w.heap.size < _; omega)).trans p0
      have p1' := (hb2.cell (p := ⟨w.heap.size, 1, none⟩) (by have := HZ.out; show w.heap.size < _; omega)).trans p1
      have p2' := (hb2.cell (p := ⟨w.heap.size, 2, none⟩) (by have := HZ.out; show w.heap.size < _; omega)).trans p2
      have HB2 : Hid (Blk w2 lb #[.int .i64 q.t, .int .i64 q.i, .string q.k, .bool true] 43) := HB.out.on hb2
      have HF2 : Hid (Frm w w2 (fun k => k = lb)) := HF.out.trans (Frm.of_below (F := fun k => k = lb) hb2) (fun k hk => .inl hk)
      clear a0 a1 a2 a3 f0 f1 f2 f3 p0 p1 p2 hb2 HB HF HZ
      go_wp2_with fail
      go_returns
      exact ⟨rfl, HB2.out, HF2.out⟩
    · have hB : Blk (w.alloc (.cells #[.int .i64 p.t, .int .i64 p.i, .string p.k] 27)) lb #[.int .i64 q.t, .int .i64 q.i, .string q.k, .bool true] 43 := hB0
      have a0 := hB.cell (i := 0) rfl
      have a1 := hB.cell (i := 1) rfl
      have a2 := hB.cell (i := 2) rfl
      have a3 := hB.cell (i := 3) rfl
      have f0 := hB.frozen 0
      have f1 := hB.frozen 1
      have f2 := hB.frozen 2
      have f3 := hB.frozen 3
      have p0 := hP.cell (i := 0) rfl
      have p1 := hP.cell (i := 1) rfl
      have p2 := hP.cell (i := 2) rfl
      have HB : Hid (Blk (w.alloc (.cells #[.int .i64 p.t, .int .i64 p.i, .string p.k] 27)) lb #[.int .i64 q.t, .int .i64 q.i, .string q.k, .bool true] 43) := hB
      clear h hal hB hP hB0
      rw [if_pos rfl]
      go_enter Try.func42, Try.ntmps42
      go_wp2_with fail
      generalize (w.alloc (.cells #[.int .i64 p.t, .int .i64 p.i, .string p.k] 27)) = w1 at *
      have b0 := InB.cell (w := w1) a0 (by have := HZ.out; omega)
      have b1 := InB.cell (w := w1) a1 (by have := HZ.out; omega)
      have b2 := InB.cell (w := w1) a2 (by have := HZ.out; omega)
      have b3 := InB.cell (w := w1) a3 (by have := HZ.out; omega)
      have q0 := InB.cell (w := w1) p0 (by have := HZ.out; omega)
      have q1 := InB.cell (w := w1) p1 (by have := HZ.out; omega)
      have q2 := InB.cell (w := w1) p2 (by have := HZ.out; omega)
      have ne1 := inB_ne w1
      refine wp_region_inB (by kernel_rfl) (by kernel_rfl) ?_
      repeat (go_big_quiet_step (first
        | (go_at_call 46; exact Calls.inB (C1.out _))))
      refine wpQuiet_nil ?_
      rintro w2 ⟨⟨w3, hb2⟩, h9⟩
      obtain rfl : w2 = w3 := h9
      clear b0 b1 b2 b3 q0 q1 q2 ne1
      have p0' := (hb2.cell (p := ⟨w.heap.size, 0, none⟩) (by have := HZ.out; show w.heap.size < _; omega)).trans p0
      have p1' := (hb2.cell (p := ⟨w.heap.size, 1, none⟩) (by have := HZ.out; show w.heap.size < _; omega)).trans p1
      have p2' := (hb2.cell (p := ⟨w.heap.size, 2, none⟩) (by have := HZ.out; show w.heap.size < _; omega)).trans p2
      have HB2 : Hid (Blk w2 lb #[.int .i64 q.t, .int .i64 q.i, .string q.k, .bool true] 43) := HB.out.on hb2
      have HF2 : Hid (Frm w w2 (fun k => k = lb)) := HF.out.trans (Frm.of_below (F := fun k => k = lb) hb2) (fun k hk => .inl hk)
      clear a0 a1 a2 a3 f0 f1 f2 f3 p0 p1 p2 hb2 HB HF HZ
      have a0 := HB2.out.cell (i := 0) rfl
      have a1 := HB2.out.cell (i := 1) rfl
      have a2 := HB2.out.cell (i := 2) rfl
      have a3 := HB2.out.cell (i := 3) rfl
      have f0 := HB2.out.frozen 0
      have f1 := HB2.out.frozen 1
      have f2 := HB2.out.frozen 2
      have f3 := HB2.out.frozen 3
      go_wp2_with fail
      go_returns
      exact ⟨rfl, (((HB2.out.set 0 _).set 1 _).set 2 _).set 3 _, (((HF2.out.trans (frm_set _ lb 0 _ (F := fun k => k = lb) (.inl rfl)) (fun k hk => .inl hk)).trans (frm_set _ lb 1 _ (F := fun k => k = lb) (.inl rfl)) (fun k hk => .inl hk)).trans (frm_set _ lb 2 _ (F := fun k => k = lb) (.inl rfl)) (fun k hk => .inl hk)).trans (frm_set _ lb 3 _ (F := fun k => k = lb) (.inl rfl)) (fun k hk => .inl hk)⟩
end Go.Proofs.Ytjeidpgkgjljcaa
