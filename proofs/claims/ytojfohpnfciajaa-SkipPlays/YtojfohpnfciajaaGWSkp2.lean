/- Layer 12: a list's own block; does a view hold? Layer 12: what stands behind a node on a level. -/
import Derived.LaidEqlPtr
import Derived.Test.YtojfohpnfciajaaGMPtr
import Derived.Test.YtojfohpnfciajaaGMBlk
import Derived.Test.YtojfohpnfciajaaGMAny9
namespace Go.Proofs.Ytojfohpnfciajaa
open Go.RowKit
set_option maxRecDepth 100000

theorem PtT.on {T : TypeId} {n : Nat} {w w' : World} {x : Option Addr} (h : PtT T n w x) (hb : Below w.heap.size w w') : PtT T n w' x := by
  rcases h with h | ⟨g, cs, e, h, hn⟩
  · exact .inl h
  · exact .inr ⟨g, cs, e, (Blk.on (w := w) h hb : Blk w' g cs T), hn⟩
/-- a list's own block: itself, its head, its last step -/
def LstB (w : World) (lb hb sb : Nat) : Prop := Blk w lb #[ptr1 lb, ptr1 hb, ptr1 sb] 62
theorem LstB.cells {w : World} {lb hb sb : Nat} (h : LstB w lb hb sb) : w.cell? ⟨lb, 0, none⟩ = some (ptr1 lb) ∧ w.cell? ⟨lb, 1, none⟩ = some (ptr1 hb) ∧ w.cell? ⟨lb, 2, none⟩ = some (ptr1 sb) := by
  exact ⟨Blk.cell (i := 0) h rfl, Blk.cell (i := 1) h rfl, Blk.cell (i := 2) h rfl⟩

set_option maxHeartbeats 2000000 in
theorem holds_any (lb hb sb : Nat) (w : World) (h : LstB w lb hb sb) (hs : PtT 82 5 w (some ⟨sb, 0, none⟩)) :
    Calls Try.prog 62 #[.agg #[ptr1 lb, ptr1 sb]] w fun e w' => e = .returned (.bool true) ∧ Below w.heap.size w w' := by
  obtain ⟨bX, bB, -⟩ := blk_new w #[ptr1 lb, ptr1 sb] 102
  have HX : Hid (Blk (w.alloc (.cells #[ptr1 lb, ptr1 sb] 102)) w.heap.size #[ptr1 lb, ptr1 sb] 102) := bX
  have HB : Hid (Below w.heap.size w (w.alloc (.cells #[ptr1 lb, ptr1 sb] 102))) := bB
  have HL : Hid (LstB (w.alloc (.cells #[ptr1 lb, ptr1 sb] 102)) lb hb sb) := Blk.on h bB
  have C1 : Hid (∀ w1, Below (w.alloc (.cells #[ptr1 lb, ptr1 sb] 102)).heap.size (w.alloc (.cells #[ptr1 lb, ptr1 sb] 102)) w1 → Calls Try.prog 30 #[.pointer (some ⟨lb, 2, none⟩)] w1 fun e w' => e = .returned (ptr1 sb) ∧ w' = w1) := fun w1 hb1 => loadSt lb 2 (some ⟨sb, 0, none⟩) w1 (Blk.cell (i := 2) (Blk.on (Blk.on h bB) hb1) rfl) ((hs.on bB).on hb1)
  clear h hs bX bB
  go_enter Try.func62, Try.ntmps62
  go_upto_region 1 with fail
  generalize (w.alloc (.cells #[ptr1 lb, ptr1 sb] 102)) = w0 at *
  refine wp_region_any (by kernel_rfl) ?_
  change wpAny _ _ _ _ _ _ _ (World.drew _)
  refine tk (v := ?_) 0 rfl ?_ ?_
  rotate_left
  focus
    intro w9
    go_simp
    try with_reducible rfl
  try simp only [aP]
  refine tk (v := ?_) 5 rfl ?_ ?_
  rotate_left
  focus
    intro w9
    go_simp
    try with_reducible rfl
  try simp only [aP]
  apply later0
  intro hs1_4_6
  apply later0
  intro hs1_6
  apply later0
  intro hs1_4
  apply later0
  intro hs6
  apply later0
  intro hs1
  · have x0 := Blk.cell (i := 0) HX.out rfl
    have x1 := Blk.cell (i := 1) HX.out rfl
    obtain ⟨l0, l1, l2⟩ := HL.out.cells
    refine wpAny_ready (rs := [1, 6]) (by kernel_rfl) (by simp) ?_
    refine anyN_cons 1 rfl (by rfl) (fun K hK => ?_) (anyN_cons 6 rfl (by rfl) (fun K hK => ?_) AllReady.nil)
    · go_simp
      refine hK.out _ _ ?_
      clear hK K
      try simp only [aP]
      refine tk (v := ?_) 2 rfl ?_ ?_
      rotate_left
      focus
        intro w9
        go_simp
        try with_reducible rfl
      try simp only [aP]
      refine tk (v := ?_) 3 rfl ?_ ?_
      rotate_left
      focus
        intro w9
        go_simp
        try with_reducible rfl
      try simp only [aP]
      exact hs1
    · go_simp
      refine hK.out _ _ ?_
      clear hK K
      try simp only [aP]
      exact hs6
  · have x0 := Blk.cell (i := 0) HX.out rfl
    have x1 := Blk.cell (i := 1) HX.out rfl
    obtain ⟨l0, l1, l2⟩ := HL.out.cells
    refine wpAny_ready (rs := [4, 6]) (by kernel_rfl) (by simp) ?_
    refine anyN_cons 4 rfl (by rfl) (fun K hK => ?_) (anyN_cons 6 rfl (by rfl) (fun K hK => ?_) AllReady.nil)
    · go_simp
      refine (C1.out _ ((Below.refl _ _).drew)).mono ?_
      rintro e w3 ⟨rfl, hw3⟩
      dsimp only
      rw [hw3]
      clear hw3
      refine hK.out _ _ ?_
      clear hK K
      try simp only [aP]
      exact hs1_4
    · go_simp
      refine hK.out _ _ ?_
      clear hK K
      try simp only [aP]
      exact hs1_6
  · have x0 := Blk.cell (i := 0) HX.out rfl
    have x1 := Blk.cell (i := 1) HX.out rfl
    obtain ⟨l0, l1, l2⟩ := HL.out.cells
    refine wpAny_ready (rs := [1]) (by kernel_rfl) (by simp) ?_
    refine anyN_cons 1 rfl (by rfl) (fun K hK => ?_) AllReady.nil
    go_simp
    refine hK.out _ _ ?_
    clear hK K
    try simp only [aP]
    refine tk (v := ?_) 2 rfl ?_ ?_
    rotate_left
    focus
      intro w9
      go_simp
      try with_reducible rfl
    try simp only [aP]
    refine tk (v := ?_) 3 rfl ?_ ?_
    rotate_left
    focus
      intro w9
      go_simp
      try with_reducible rfl
    try simp only [aP]
    exact hs1_6
  · have x0 := Blk.cell (i := 0) HX.out rfl
    have x1 := Blk.cell (i := 1) HX.out rfl
    obtain ⟨l0, l1, l2⟩ := HL.out.cells
    refine wpAny_ready (rs := [6]) (by kernel_rfl) (by simp) ?_
    refine anyN_cons 6 rfl (by rfl) (fun K hK => ?_) AllReady.nil
    go_simp
    refine hK.out _ _ ?_
    clear hK K
    try simp only [aP]
    exact hs1_4_6
  · have x0 := Blk.cell (i := 0) HX.out rfl
    have x1 := Blk.cell (i := 1) HX.out rfl
    obtain ⟨l0, l1, l2⟩ := HL.out.cells
    refine wpAny_ready (rs := [4]) (by kernel_rfl) (by simp) ?_
    refine anyN_cons 4 rfl (by rfl) (fun K hK => ?_) AllReady.nil
    go_simp
    refine (C1.out _ ((Below.refl _ _).drew)).mono ?_
    rintro e w3 ⟨rfl, hw3⟩
    dsimp only
    rw [hw3]
    clear hw3
    refine hK.out _ _ ?_
    clear hK K
    try simp only [aP]
    exact hs1_4_6
  · have x0 := Blk.cell (i := 0) HX.out rfl
    have x1 := Blk.cell (i := 1) HX.out rfl
    obtain ⟨l0, l1, l2⟩ := HL.out.cells
    obtain ⟨jt, hjt, _⟩ := infoSt
    have hq := run_eql_ptr_same (P := Try.prog) w0.drew ⟨sb, 0, none⟩ Try.underlying54 hjt
    refine wpAny_ready (rs := [7]) (by kernel_rfl) (by simp) ?_
    refine anyN_cons 7 rfl (by rfl) (fun K hK => ?_) AllReady.nil
    go_simp
    refine hK.out _ _ ?_
    clear hK K
    try simp only [aP]
    refine wpAny_ready (rs := [8]) (by kernel_rfl) (by simp) ?_
    refine anyN_cons 8 rfl (by rfl) (fun K hK => ?_) AllReady.nil
    go_simp
    refine hK.out _ _ ?_
    clear hK K
    try simp only [aP]
    refine wpAny_done (by kernel_rfl) ?_ _
    go_wp2_with fail
    go_ret
    exact ⟨rfl, HB.out.drew⟩

end Go.Proofs.Ytojfohpnfciajaa

namespace Go.Proofs.Ytojfohpnfciajaa
open Go.RowKit
set_option maxRecDepth 100000

abbrev ptrO (t : Option Nat) : Value := .pointer (t.map (fun g => ⟨g, 0, none⟩))
/-- a link cell leads to a node, or to nothing -/
def Lnk (w : World) (b i : Nat) (t : Option Nat) : Prop := ∃ kb, w.cell? ⟨b, i, none⟩ = some (ptr1 kb) ∧ Blk w kb #[ptrO t] 132
theorem Lnk.on {w w' : World} {b i : Nat} {t : Option Nat} (h : Lnk w b i t) (hb : Below w.heap.size w w') : Lnk w' b i t := by
  obtain ⟨kb, h1, h2⟩ := h
  exact ⟨kb, (hb.cell (p := ⟨b, i, none⟩) (World.block_lt_of_cell? w _ h1)).trans h1, h2.on hb⟩
/-- a view's list and its step -/
structure Vw (w : World) (lb hb sb : Nat) : Prop where
  l : LstB w lb hb sb
  s : PtT 82 5 w (some ⟨sb, 0, none⟩)
theorem Vw.on {w w' : World} {lb hb sb : Nat} (h : Vw w lb hb sb) (hb' : Below w.heap.size w w') : Vw w' lb hb sb := ⟨Blk.on h.l hb', h.s.on hb'⟩

set_option maxHeartbeats 2000000 in
theorem behind_any (lb hb sb nb kb h l : Nat) (t : Option Nat) (w : World) (hv : Vw w lb hb sb) (hn : w.cell? ⟨nb, 2, none⟩ = some (.slice (some ⟨kb, 0, none⟩) h h)) (hl : l < h) (_hh : h ≤ 16) (hk : Lnk w kb l t) :
    Calls Try.prog 79 #[.agg #[ptr1 lb, ptr1 sb], ptr1 nb, .int .i64 (l : Nat)] w fun e w' => e = .returned (ptrO t) ∧ Below w.heap.size w w' := by
  obtain ⟨bX, bB, -⟩ := blk_new w #[ptr1 lb, ptr1 sb] 102
  have HX : Hid (Blk (w.alloc (.cells #[ptr1 lb, ptr1 sb] 102)) w.heap.size #[ptr1 lb, ptr1 sb] 102) := bX
  have HB : Hid (Below w.heap.size w (w.alloc (.cells #[ptr1 lb, ptr1 sb] 102))) := bB
  have HV : Hid (Vw (w.alloc (.cells #[ptr1 lb, ptr1 sb] 102)) lb hb sb) := hv.on bB
  have HN : Hid (w.cell? ⟨nb, 2, none⟩ = some (.slice (some ⟨kb, 0, none⟩) h h) ∧ nb < w.heap.size) := ⟨hn, World.block_lt_of_cell? w _ hn⟩
  have HK : Hid (Lnk w kb l t) := hk
  clear hv hn hk bX bB
  go_enter Try.func79, Try.ntmps79
  go_upto_region 1 with fail
  generalize (w.alloc (.cells #[ptr1 lb, ptr1 sb] 102)) = w0 at *
  have C1 : Hid (Calls _ _ _ _ _) := holds_any lb hb sb w0 HV.out.l HV.out.s
  have x0 := Blk.cell (i := 0) HX.out rfl
  have x1 := Blk.cell (i := 1) HX.out rfl
  go_wp2_with fail
  refine C1.out.mono ?_
  rintro e w1 ⟨rfl, hb1⟩
  have HB1 : Hid (Below w.heap.size w w1) := HB.out.trans (hb1.mono HB.out.size)
  clear C1 hb1 x0 x1
  have n2 := (HB1.out.cell (p := ⟨nb, 2, none⟩) HN.out.2).trans HN.out.1
  obtain ⟨kk, k1, k2⟩ := HK.out.on HB1.out
  have C2 : Hid (Calls _ _ _ _ _) := loadLk kb l (some ⟨kk, 0, none⟩) w1 k1 (PtT.blk k2 rfl)
  have k3 := Blk.cell (i := 0) k2 rfl
  clear k1 k2
  go_wp2_with fail
  refine C2.out.mono ?_
  rintro e w2 ⟨rfl, hw2⟩
  rw [hw2]
  clear hw2
  go_wp2_with fail
  go_ret
  exact ⟨rfl, HB1.out⟩

end Go.Proofs.Ytojfohpnfciajaa
