/- Layer 12: given; a step that is done; Len. Layer 12: finds. -/
import Derived.Test.YtojfohpnfciajaaGWSkp10
namespace Go.Proofs.Ytojfohpnfciajaa
open Go.RowKit
set_option maxRecDepth 100000

theorem infoLs : ∃ j, Try.prog.info? 62 = some j ∧ j.size ≠ 0 := by
  have h : ((Try.prog.info? 62).map (fun i => decide (i.size ≠ 0))) = some true := by kernel_rfl
  obtain ⟨j, hj, h2⟩ := Option.map_eq_some_iff.1 h
  exact ⟨j, hj, by simpa using h2⟩

theorem given_ok (lb hb sb : Nat) (w : World) (h : LstB w lb hb sb) :
    Calls Try.prog 28 #[ptr1 lb] w fun e w' => e = .returned (.bool true) ∧ w' = w := by
  obtain ⟨jn, hjn, -⟩ := infoLs
  have hq := run_eql_ptr_same (P := Try.prog) w ⟨lb, 0, none⟩ Try.underlying24 hjn
  obtain ⟨l0, l1, l2⟩ := h.cells
  clear h
  go_enter Try.func28, Try.ntmps28
  go_wp2_with fail
  go_ret
  exact ⟨rfl, rfl⟩
theorem given_nil (w : World) :
    Calls Try.prog 28 #[.pointer none] w fun e w' => e = .returned (.bool false) ∧ w' = w := by
  go_enter Try.func28, Try.ntmps28
  go_wp2_with fail
  go_ret
  exact ⟨rfl, rfl⟩
theorem nil_ne (w : World) (a : Addr) : (binOp .eql 24 (.pointer none) (.pointer (some a))).run Try.prog w = .ok (.bool false) w := by
  obtain ⟨jn, hjn, -⟩ := infoLs
  have h : ∀ d : Nat, (Op.equalIn (d + 1) 24 (.pointer none) (.pointer (some a))).run Try.prog w = .ok false w := fun d => by
    simp [Op.equalIn, run_underlying Try.underlying24, sizeOf, typeInfo]
  simp only [binOp]
  simp [Op.equal, Op.maxDepth, h 9999]
theorem given_zero (lb : Nat) (w : World) (h : Blk w lb #[.pointer none, .pointer none, .pointer none] 62) :
    Calls Try.prog 28 #[ptr1 lb] w fun e w' => e = .returned (.bool false) ∧ w' = w := by
  have l0 := Blk.cell (i := 0) h rfl
  have hq := nil_ne w ⟨lb, 0, none⟩
  clear h
  go_enter Try.func28, Try.ntmps28
  go_wp2_with fail
  go_ret
  exact ⟨rfl, rfl⟩
theorem Skp.vw {w : World} {lb hb sb hl cb : Nat} {N : List Nd} (h : Skp w lb hb sb hl cb N) : Vw w lb hb sb := by
  obtain ⟨a, c, wk, hs⟩ := h.s
  exact ⟨h.l, PtT.blk hs rfl⟩
theorem finish_done (lb sb cb : Nat) (w : World) (hs : ∃ (a : Nat) (c : Int) (wk : Value), Blk w sb #[.int .u64 (a : Nat), .int .i64 c, wk, ptr1 cb, .int .u32 1] 82) (hc : ∃ (x y n ls vs : Value), Blk w cb #[x, y, n, ls, vs] 93) :
    Calls Try.prog 29 #[ptr1 lb, ptr1 sb] w fun e w' => e = .returned (ptr1 cb) ∧ w' = w := by
  obtain ⟨a, c, wk, hs⟩ := hs
  obtain ⟨x, y, n, ls, vs, hc⟩ := hc
  have C1 : Hid (Calls _ _ _ _ _) := loadCh sb 3 (some ⟨cb, 0, none⟩) w (Blk.cell (i := 3) hs rfl) (PtT.blk hc rfl)
  have C2 : Hid (Calls _ _ _ _ _) := loadBo sb 4 1 w (Blk.cell (i := 4) hs rfl)
  clear hs hc
  go_enter Try.func29, Try.ntmps29
  go_wp2_with fail
  refine C1.out.mono ?_
  rintro e w1 ⟨rfl, hw1⟩
  rw [hw1]
  clear hw1
  go_wp2_with fail
  refine C2.out.mono ?_
  rintro e w2 ⟨rfl, hw2⟩
  rw [hw2, show ((1 : Int) != 0) = true from rfl]
  clear hw2
  go_wp2_with fail
  go_ret
  exact ⟨rfl, rfl⟩
theorem len_any (lb hb sb hl cb : Nat) (N : List Nd) (w : World) (h : Skp w lb hb sb hl cb N) :
    Calls Try.prog 9 #[ptr1 lb] w fun e w' => e = .returned (.int .i64 (N.length : Nat)) ∧ w' = w := by
  have C1 : Hid (Calls _ _ _ _ _) := given_ok lb hb sb w h.l
  obtain ⟨x, y, ls, vs, hc⟩ := h.c
  have C2 : Hid (Calls _ _ _ _ _) := loadSt lb 2 (some ⟨sb, 0, none⟩) w (Blk.cell (i := 2) h.l rfl) h.vw.s
  have C3 : Hid (Calls _ _ _ _ _) := finish_done lb sb cb w h.s ⟨x, y, _, ls, vs, hc⟩
  have c2 := Blk.cell (i := 2) hc rfl
  clear h hc
  go_enter Try.func9, Try.ntmps9
  go_wp2_with fail
  refine C1.out.mono ?_
  rintro e w1 ⟨rfl, hw1⟩
  rw [hw1]
  clear hw1
  go_wp2_with fail
  refine C2.out.mono ?_
  rintro e w1 ⟨rfl, hw1⟩
  rw [hw1]
  clear hw1
  go_wp2_with fail
  refine C3.out.mono ?_
  rintro e w1 ⟨rfl, hw1⟩
  rw [hw1]
  clear hw1
  go_wp2_with fail
  go_ret
  exact ⟨rfl, rfl⟩

theorem now_any (lb hb sb hl cb : Nat) (N : List Nd) (w : World) (h : Skp w lb hb sb hl cb N) :
    Calls Try.prog 61 #[ptr1 lb] w fun e w' => e = .returned (.agg #[ptr1 lb, ptr1 sb]) ∧ Below w.heap.size w w' := by
  obtain ⟨aX, aB, aS⟩ := blk_new w #[.pointer none, .pointer none] 102
  have h' := h.on aB
  have HX : Hid (Blk (w.alloc (.cells #[.pointer none, .pointer none] 102)) w.heap.size #[.pointer none, .pointer none] 102) := aX
  have HB : Hid (Below w.heap.size w (w.alloc (.cells #[.pointer none, .pointer none] 102))) := aB
  obtain ⟨x, y, ls, vs, hc⟩ := h'.c
  have C2 : Hid (Calls _ _ _ _ _) := loadSt lb 2 (some ⟨sb, 0, none⟩) _ (Blk.cell (i := 2) h'.l rfl) h'.vw.s
  have C3 : Hid (Calls _ _ _ _ _) := finish_done lb sb cb _ h'.s ⟨x, y, _, ls, vs, hc⟩
  clear h h' hc aX aB aS
  go_enter Try.func61, Try.ntmps61
  go_wp2_with fail
  generalize (w.alloc (.cells #[.pointer none, .pointer none] 102)) = w0 at *
  refine C2.out.mono ?_
  rintro e w1 ⟨rfl, hw1⟩
  rw [hw1]
  clear hw1
  go_wp2_with fail
  refine C3.out.mono ?_
  rintro e w1 ⟨rfl, hw1⟩
  rw [hw1]
  clear hw1
  have x0 := Blk.cell (i := 0) HX.out rfl
  have x1 := Blk.cell (i := 1) HX.out rfl
  have f0 := HX.out.frozen 0
  have f1 := HX.out.frozen 1
  have hx := (HX.out.set 0 (ptr1 lb)).set 1 (ptr1 sb)
  have q0 := Blk.cell (i := 0) hx rfl
  have q1 := Blk.cell (i := 1) hx rfl
  have HB2 : Hid (Below w.heap.size w ((w0.setCell ⟨w.heap.size, 0, none⟩ (ptr1 lb)).setCell ⟨w.heap.size, 1, none⟩ (ptr1 sb))) := below_set (below_set HB.out (Nat.le_refl _) 0 _) (Nat.le_refl _) 1 _
  clear hx
  go_wp2_with fail
  refine bodyPost_ret (v := .agg #[ptr1 lb, ptr1 sb]) (by simp [results, Try.results61, go_sem, q0, q1]) rfl ?_
  exact ⟨rfl, HB2.out⟩

end Go.Proofs.Ytojfohpnfciajaa

namespace Go.Proofs.Ytojfohpnfciajaa
open Go.RowKit
set_option maxRecDepth 100000

/-- a change's cells -/
abbrev chC (was : Int) (there : Bool) (n : Int) (ls vs : Value) : Array Value := #[.int .i64 was, .bool there, .int .i64 n, ls, vs]
set_option maxHeartbeats 2000000 in
theorem finds_nil (lb sb : Nat) (c : Int) (w : World) (hs : w.cell? ⟨sb, 1, none⟩ = some (.int .i64 c)) :
    Calls Try.prog 83 #[.agg #[ptr1 lb, ptr1 sb], .pointer none] w fun e w' => ∃ g, e = .returned (ptr1 g) ∧ Blk w' g (chC 0 false c (.slice none 0 0) (.slice none 0 0)) 93 ∧ w.heap.size ≤ g ∧ Below w.heap.size w w' := by
  obtain ⟨aX, aB, aS⟩ := blk_new w #[ptr1 lb, ptr1 sb] 102
  have x1 := Blk.cell (i := 1) aX rfl
  have s1 := cell_on hs aB
  have HB : Hid (Below w.heap.size w (w.alloc (.cells #[ptr1 lb, ptr1 sb] 102))) := aB
  clear aX aB hs
  have HS : Hid ((w.alloc (.cells #[ptr1 lb, ptr1 sb] 102)).heap.size = w.heap.size + 1) := aS
  clear aS
  go_enter Try.func83, Try.ntmps83
  go_upto_region 2 with fail
  obtain ⟨bX, bB, bS⟩ := blk_new (w.alloc (.cells #[ptr1 lb, ptr1 sb] 102)) (chC 0 false c (.slice none 0 0) (.slice none 0 0)) 93
  rw [HS.out] at bX
  have HX : Hid (Blk ((w.alloc (.cells #[ptr1 lb, ptr1 sb] 102)).alloc (.cells (chC 0 false c (.slice none 0 0) (.slice none 0 0)) 93)) (w.heap.size + 1) (chC 0 false c (.slice none 0 0) (.slice none 0 0)) 93) := bX
  have HB2 : Hid (Below w.heap.size w ((w.alloc (.cells #[ptr1 lb, ptr1 sb] 102)).alloc (.cells (chC 0 false c (.slice none 0 0) (.slice none 0 0)) 93))) := HB.out.trans (bB.mono HB.out.size)
  clear bX bB bS HB HS x1 s1
  go_wp2_with fail
  go_ret
  exact ⟨_, rfl, HX.out, Nat.le_succ _, HB2.out⟩

set_option maxHeartbeats 2000000 in
theorem finds_at (lb sb nb vb : Nat) (c v : Int) (w : World) (hs : w.cell? ⟨sb, 1, none⟩ = some (.int .i64 c)) (hn : w.cell? ⟨nb, 1, none⟩ = some (ptr1 vb)) (hv : Blk w vb #[.int .i64 v] 2) :
    Calls Try.prog 83 #[.agg #[ptr1 lb, ptr1 sb], ptr1 nb] w fun e w' => ∃ g, e = .returned (ptr1 g) ∧ Blk w' g (chC v true c (.slice none 0 0) (.slice none 0 0)) 93 ∧ w.heap.size ≤ g ∧ Below w.heap.size w w' := by
  obtain ⟨aX, aB, aS⟩ := blk_new w #[ptr1 lb, ptr1 sb] 102
  have x1 := Blk.cell (i := 1) aX rfl
  have s1 := cell_on hs aB
  have HB : Hid (Below w.heap.size w (w.alloc (.cells #[ptr1 lb, ptr1 sb] 102))) := aB
  have HN : Hid (w.cell? ⟨nb, 1, none⟩ = some (ptr1 vb) ∧ Blk w vb #[.int .i64 v] 2) := ⟨hn, hv⟩
  clear aX aB hs hn hv
  have HS : Hid ((w.alloc (.cells #[ptr1 lb, ptr1 sb] 102)).heap.size = w.heap.size + 1) := aS
  clear aS
  go_enter Try.func83, Try.ntmps83
  go_upto_region 2 with fail
  obtain ⟨bX, bB, bS⟩ := blk_new (w.alloc (.cells #[ptr1 lb, ptr1 sb] 102)) (chC 0 false c (.slice none 0 0) (.slice none 0 0)) 93
  rw [HS.out] at bX
  have HX : Hid (Blk ((w.alloc (.cells #[ptr1 lb, ptr1 sb] 102)).alloc (.cells (chC 0 false c (.slice none 0 0) (.slice none 0 0)) 93)) (w.heap.size + 1) (chC 0 false c (.slice none 0 0) (.slice none 0 0)) 93) := bX
  have HB2 : Hid (Below w.heap.size w ((w.alloc (.cells #[ptr1 lb, ptr1 sb] 102)).alloc (.cells (chC 0 false c (.slice none 0 0) (.slice none 0 0)) 93))) := HB.out.trans (bB.mono HB.out.size)
  clear bX bB bS HB HS x1 s1
  generalize ((w.alloc (.cells #[ptr1 lb, ptr1 sb] 102)).alloc (.cells (chC 0 false c (.slice none 0 0) (.slice none 0 0)) 93)) = w2 at *
  have hv2 := HN.out.2.keep HB2.out HN.out.2.lt
  have C1 : Hid (Calls _ _ _ _ _) := loadIv nb 1 (some ⟨vb, 0, none⟩) w2 (cell_on HN.out.1 HB2.out) (PtT.blk hv2 rfl)
  have v0 := Blk.cell (i := 0) hv2 rfl
  clear hv2
  go_wp2_with fail
  refine C1.out.mono ?_
  rintro e w3 ⟨rfl, hw3⟩
  rw [hw3]
  clear hw3 C1
  have x0 := Blk.cell (i := 0) HX.out rfl
  have x1 := Blk.cell (i := 1) HX.out rfl
  have f0 := HX.out.frozen 0
  have f1 := HX.out.frozen 1
  have HX3 : Hid (Blk ((w2.setCell ⟨w.heap.size + 1, 0, none⟩ (.int .i64 v)).setCell ⟨w.heap.size + 1, 1, none⟩ (.bool true)) (w.heap.size + 1) (chC v true c (.slice none 0 0) (.slice none 0 0)) 93) := (HX.out.set 0 (.int .i64 v)).set 1 (.bool true)
  have HB3 : Hid (Below w.heap.size w ((w2.setCell ⟨w.heap.size + 1, 0, none⟩ (.int .i64 v)).setCell ⟨w.heap.size + 1, 1, none⟩ (.bool true))) := below_set (below_set HB2.out (Nat.le_succ _) 0 _) (Nat.le_succ _) 1 _
  go_wp2_with fail
  go_ret
  exact ⟨_, rfl, HX3.out, Nat.le_succ _, HB3.out⟩

end Go.Proofs.Ytojfohpnfciajaa
