/- Layer 12: a head. Layer 12: a list that New gives. -/
import Derived.Test.YtojfohpnfciajaaGWSkp8
namespace Go.Proofs.Ytojfohpnfciajaa
open Go.RowKit
set_option maxRecDepth 100000

/-- a head in the making: links up to a level -/
structure HdS (w wq : World) (hb hv hl i : Nat) : Prop where
  n : Blk wq hb #[.string ⟨#[]⟩, ptr1 hv, .slice (some ⟨hl, 0, none⟩) (16 : Nat) (16 : Nat)] 125
  l : ∃ cs, Blk wq hl cs 129 ∧ cs.size = 16 ∧ (∀ j, j < i → ∃ kb, cs[j]? = some (ptr1 kb) ∧ Blk wq kb #[.pointer none] 132) ∧ ∀ j, i ≤ j → j < 16 → cs[j]? = some (.pointer none)
  nn : w.heap.size ≤ hb
  nl : w.heap.size ≤ hl
  bel : Below w.heap.size w wq
theorem HdS.step {w wq : World} {hb hv hl i : Nat} (h : HdS w wq hb hv hl i) (hi : i < 16) : HdS w ((wq.alloc (.cells #[.pointer none] 132)).setCell ⟨hl, i, none⟩ (ptr1 wq.heap.size)) hb hv hl (i + 1) := by
  obtain ⟨aX, aB, aS⟩ := blk_new wq #[.pointer none] 132
  obtain ⟨cs, h1, h2, h3, h4⟩ := h.l
  have h1' := h1.on aB
  have hn := h.n.on aB
  have hbel := h.bel.trans (aB.mono h.bel.size)
  refine ⟨hn.other (hn.ne h1' (by decide)) i _, ⟨_, h1'.set i _, by simpa using h2, fun j hj => ?_, fun j hj hj2 => ?_⟩, h.nn, h.nl, below_set hbel h.nl i _⟩
  · by_cases e : j = i
    · subst e
      exact ⟨_, by rw [Array.getElem?_setIfInBounds_self_of_lt (by omega)], aX.other (aX.ne h1' (by decide)) j _⟩
    · obtain ⟨kb, h5, h6⟩ := h3 j (by omega)
      exact ⟨kb, by rw [Array.getElem?_setIfInBounds_ne (by omega)]; exact h5, (h6.on aB).other ((h6.on aB).ne h1' (by decide)) i _⟩
  · rw [Array.getElem?_setIfInBounds_ne (by omega)]
    exact h4 j (by omega) hj2
theorem HdS.keep {w wq w' : World} {hb hv hl i : Nat} (h : HdS w wq hb hv hl i) (hb' : Below wq.heap.size wq w') : HdS w w' hb hv hl i := by
  obtain ⟨cs, h1, h2, h3, h4⟩ := h.l
  exact ⟨h.n.on hb', ⟨cs, h1.on hb', h2, fun j hj => by obtain ⟨kb, h5, h6⟩ := h3 j hj; exact ⟨kb, h5, h6.on hb'⟩, h4⟩, h.nn, h.nl, h.bel.trans (hb'.mono h.bel.size)⟩
theorem HdS.done {w wq : World} {hb hv hl : Nat} (h : HdS w wq hb hv hl 16) : SkF wq hb hl [] (ldF []) := by
  obtain ⟨cs, h1, h2, h3, h4⟩ := h.l
  refine ⟨⟨hv, h.n⟩, ⟨cs, h1, h2⟩, fun x hx => (by cases hx), fun x hx => (by cases hx), fun x hx => (by cases hx), fun x hx => (by cases hx), (by simp), (by simp), fun p l hl' ho => ?_⟩
  have hp : p = 0 := by have := ho.le; simpa using this
  subst hp
  obtain ⟨kb, h5, h6⟩ := h3 l hl'
  exact ⟨kb, h1.cell h5, h6⟩

set_option maxHeartbeats 2000000 in
theorem newHead_any (w : World) :
    Calls Try.prog 21 #[.int .i64 16] w fun e w' => ∃ hb hl, e = .returned (ptr1 hb) ∧ SkF w' hb hl [] (ldF []) ∧ w.heap.size ≤ hb ∧ w.heap.size ≤ hl ∧ Below w.heap.size w w' := by
  have C1 : Hid (Calls _ _ _ _ _) := newNode_any ⟨#[]⟩ 0 16 (by decide) w
  go_enter Try.func21, Try.ntmps21
  go_wp2_with fail
  refine C1.out.mono ?_
  rintro e w1 ⟨hb, hv, hl, rfl, hN⟩
  have H0 : Hid (HdS w w1 hb hv hl 0) := ⟨hN.n, ⟨_, hN.l, by simp, fun j hj => by omega, fun j _ hj => by simp [hj]⟩, hN.nn, hN.nl, hN.bel⟩
  have n2 := Blk.cell (i := 2) hN.n rfl
  clear C1 hN
  go_wp2_with fail
  go_loopw [12] (fun sx wq => ∃ i : Nat, i ≤ 16 ∧ sx = .int .i64 (i : Int) ∧ Hid (HdS w wq hb hv hl i)) (fun sx _ => (16 - intOf sx).toNat)
  case atStart => exact ⟨0, by decide, rfl, H0⟩
  case round =>
    obtain ⟨i, hi, rfl, HI⟩ := hrel
    clear H0 n2
    rcases Nat.lt_or_ge i 16 with h1 | h1
    · have m2 := Blk.cell (i := 2) HI.out.n rfl
      obtain ⟨cs, l1, l2, l3, l4⟩ := HI.out.l
      obtain ⟨aX, aB, aS⟩ := blk_new wr #[.pointer none] 132
      have C2 : Hid (Calls _ _ _ _ _) := storeLk hl i none (some ⟨wr.heap.size, 0, none⟩) _ ((l1.on aB).cell (l4 i (Nat.le_refl _) h1)) ((l1.on aB).frozen i) (PtT.blk aX rfl)
      clear l1 l2 l3 l4 aX aB aS
      have h2 : (i : Int) < 16 := by omega
      go_wp2_with fail
      refine C2.out.mono ?_
      rintro e w2 ⟨rfl, hw2⟩
      have HI2 : Hid (HdS w w2 hb hv hl (i + 1)) := by
        show HdS _ _ _ _ _ _
        rw [hw2]
        exact HI.out.step h1
      clear hw2 C2 m2 HI
      go_wp2_with fail
      go_roundw
      case rel => exact ⟨i + 1, by omega, by go_num, HI2⟩
      case measure => simp [intOf]; omega
    · obtain rfl : i = 16 := by omega
      rw [show ((16 : Nat) : Int) = 16 from rfl]
      go_wp2_with fail
      go_ret
      exact ⟨hb, hl, rfl, HI.out.done, HI.out.nn, HI.out.nl, HI.out.bel⟩

end Go.Proofs.Ytojfohpnfciajaa

namespace Go.Proofs.Ytojfohpnfciajaa
open Go.RowKit
set_option maxRecDepth 100000

theorem OffS.one {w : World} {b : Nat} {cs : Array Value} {T : TypeId} (h : Blk w b cs T) (hT : T ≠ 125 ∧ T ≠ 129 ∧ T ≠ 132 ∧ T ≠ 2) : OffS w (one1 b) := fun k ds S hk hx => by
  have e : k = b := hk
  subst e
  unfold Blk at h hx
  rw [h] at hx
  injection hx with hx
  injection hx with _ hx
  subst hx
  exact hT
theorem b32_t (w : World) : Calls Try.prog 89 #[.bool true] w fun e w' => e = .returned (.int .u32 1) ∧ w' = w := by
  go_enter Try.func89, Try.ntmps89
  go_wp2
  go_ret
  exact ⟨rfl, rfl⟩
theorem loadBo (g i : Nat) (x : Int) (w : World) (h0 : w.cell? ⟨g, i, none⟩ = some (.int .u32 x)) :
    Calls Try.prog 57 #[.pointer (some ⟨g, i, none⟩)] w fun e w' => e = .returned (.bool (x != 0)) ∧ w' = w := by
  have hl := run_call_load (P := Try.prog) Try.func91 (by kernel_rfl) (by kernel_rfl) (by kernel_rfl) .u32 (by kernel_rfl) h0
  go_enter Try.func57, Try.ntmps57
  go_wp2
  go_ret
  exact ⟨rfl, rfl⟩

set_option maxHeartbeats 2000000 in
theorem storeBo (g i : Nat) (x : Int) (w : World) (h0 : w.cell? ⟨g, i, none⟩ = some (.int .u32 x)) (f0 : w.frozen? ⟨g, i, none⟩ = false) :
    Calls Try.prog 53 #[.pointer (some ⟨g, i, none⟩), .bool true] w fun e w' => e = .returned (.tuple #[]) ∧ w' = w.drew.setCell ⟨g, i, none⟩ (.int .u32 1) := by
  have hl := run_call_store (P := Try.prog) Try.func88 (by kernel_rfl) (by kernel_rfl) (by kernel_rfl) (by kernel_rfl) (k := .u32) (y := 1) (w := w.drew) h0 f0
  go_enter Try.func53, Try.ntmps53
  go_upto_region 0 with fail
  refine wp_region_any (by kernel_rfl) ?_
  change wpAny _ _ _ _ _ _ _ (World.drew _)
  refine tk (v := ?_) 0 rfl ?_ ?_
  rotate_left
  focus
    intro w9
    go_simp
    try with_reducible rfl
  try simp only [aP]
  refine tk (v := ?_) 1 rfl ?_ ?_
  rotate_left
  focus
    intro w9
    go_simp
    try with_reducible rfl
  try simp only [aP]
  refine tk (v := ?_) 2 rfl ?_ ?_
  rotate_left
  focus
    intro w9
    go_simp
    try with_reducible rfl
  try simp only [aP]
  refine tk (v := ?_) 3 rfl ?_ ?_
  rotate_left
  focus
    intro w9
    go_simp
    try with_reducible rfl
  try simp only [aP]
  refine wpAny_ready (rs := [4]) (by kernel_rfl) (by simp) ?_
  refine anyN_cons 4 rfl (by rfl) (fun K hK => ?_) AllReady.nil
  go_simp
  refine (b32_t w.drew).mono ?_
  rintro e w9 ⟨rfl, hw9⟩
  dsimp only
  rw [hw9]
  clear hw9
  refine hK.out _ _ ?_
  clear hK K
  try simp only [aP]
  refine wpAny_ready (rs := [5]) (by kernel_rfl) (by simp) ?_
  refine anyN_cons 5 rfl (by rfl) (fun K hK => ?_) AllReady.nil
  go_simp
  refine hK.out _ _ ?_
  clear hK K
  try simp only [aP]
  refine wpAny_done (by kernel_rfl) ?_ _
  go_wp2_with fail
  refine bodyPost_end (results_none rfl _ _ _) rfl ?_
  exact ⟨rfl, rfl⟩
/-- a step of which nothing is left to do, and its change -/
structure Rst (w w' : World) (s c at' : Nat) (n : Int) : Prop where
  bs : Blk w' s #[.int .u64 (at' : Nat), .int .i64 n, .nilFunc, ptr1 c, .int .u32 1] 82
  bc : Blk w' c #[.int .i64 0, .bool false, .int .i64 n, .slice none 0 0, .slice none 0 0] 93
  ns : w.heap.size ≤ s
  nc : w.heap.size ≤ c
  bel : Below w.heap.size w w'

set_option maxHeartbeats 2000000 in
theorem resting_any (at' : Nat) (n : Int) (w : World) :
    Calls Try.prog 23 #[.int .u64 (at' : Nat), .int .i64 n] w fun e w' => ∃ s c, e = .returned (ptr1 s) ∧ Rst w w' s c at' n := by
  obtain ⟨aX, aB, aS⟩ := blk_new w #[.int .u64 (at' : Nat), .int .i64 n, .nilFunc, .pointer none, .int .u32 0] 82
  obtain ⟨bX, bB, bS⟩ := blk_new (w.alloc (.cells #[.int .u64 (at' : Nat), .int .i64 n, .nilFunc, .pointer none, .int .u32 0] 82)) #[.int .i64 0, .bool false, .int .i64 n, .slice none 0 0, .slice none 0 0] 93
  rw [aS] at bX
  have aX2 := aX.on bB
  have hb2 := aB.trans (bB.mono aB.size)
  have HX : Hid (Blk ((w.alloc (.cells #[.int .u64 (at' : Nat), .int .i64 n, .nilFunc, .pointer none, .int .u32 0] 82)).alloc (.cells #[.int .i64 0, .bool false, .int .i64 n, .slice none 0 0, .slice none 0 0] 93)) w.heap.size #[.int .u64 (at' : Nat), .int .i64 n, .nilFunc, .pointer none, .int .u32 0] 82) := aX2
  have HY : Hid (Blk ((w.alloc (.cells #[.int .u64 (at' : Nat), .int .i64 n, .nilFunc, .pointer none, .int .u32 0] 82)).alloc (.cells #[.int .i64 0, .bool false, .int .i64 n, .slice none 0 0, .slice none 0 0] 93)) (w.heap.size + 1) #[.int .i64 0, .bool false, .int .i64 n, .slice none 0 0, .slice none 0 0] 93) := bX
  have HB : Hid (Below w.heap.size w ((w.alloc (.cells #[.int .u64 (at' : Nat), .int .i64 n, .nilFunc, .pointer none, .int .u32 0] 82)).alloc (.cells #[.int .i64 0, .bool false, .int .i64 n, .slice none 0 0, .slice none 0 0] 93))) := hb2
  clear aX aB aS bX bB bS aX2 hb2
  go_enter Try.func23, Try.ntmps23
  go_wp2_with fail
  generalize ((w.alloc (.cells #[.int .u64 (at' : Nat), .int .i64 n, .nilFunc, .pointer none, .int .u32 0] 82)).alloc (.cells #[.int .i64 0, .bool false, .int .i64 n, .slice none 0 0, .slice none 0 0] 93)) = w2 at *
  refine (storeCh w.heap.size 3 none (some ⟨w.heap.size + 1, 0, none⟩) w2 (Blk.cell (i := 3) HX.out rfl) (HX.out.frozen 3) (PtT.blk HY.out rfl)).mono ?_
  rintro e w3 ⟨rfl, hw3⟩
  have HX3 : Hid (Blk w3 w.heap.size #[.int .u64 (at' : Nat), .int .i64 n, .nilFunc, ptr1 (w.heap.size + 1), .int .u32 0] 82) := by
    show Blk _ _ _ _
    rw [hw3]
    exact HX.out.set 3 _
  have HY3 : Hid (Blk w3 (w.heap.size + 1) #[.int .i64 0, .bool false, .int .i64 n, .slice none 0 0, .slice none 0 0] 93) := by
    show Blk _ _ _ _
    rw [hw3]
    exact HY.out.other (by omega) 3 _
  have HB3 : Hid (Below w.heap.size w w3) := by
    show Below _ _ _
    rw [hw3]
    exact below_set HB.out (Nat.le_refl _) 3 _
  clear hw3 HX HY HB
  go_wp2_with fail
  refine (storeBo w.heap.size 4 0 w3 (Blk.cell (i := 4) HX3.out rfl) (HX3.out.frozen 4)).mono ?_
  rintro e w4 ⟨rfl, hw4⟩
  have hd : Below w3.heap.size w3 w3.drew := (Below.refl _ _).drew
  have HK : Hid (Rst w w4 w.heap.size (w.heap.size + 1) at' n) := by
    show Rst _ _ _ _ _ _
    rw [hw4]
    exact ⟨(HX3.out.on hd).set 4 _, (HY3.out.on hd).other (by omega) 4 _, Nat.le_refl _, by omega, below_set (HB3.out.trans (hd.mono HB3.out.size)) (Nat.le_refl _) 4 _⟩
  clear hw4 hd HX3 HY3 HB3
  go_wp2_with fail
  go_ret
  exact ⟨_, _, rfl, HK.out⟩
/-- A LIST: itself, its last step, which is done, and its nodes. -/
structure Skp (w : World) (lb hb sb hl cb : Nat) (N : List Nd) : Prop where
  l : LstB w lb hb sb
  s : ∃ (a : Nat) (c : Int) (wk : Value), Blk w sb #[.int .u64 (a : Nat), .int .i64 c, wk, ptr1 cb, .int .u32 1] 82
  c : ∃ (x y ls vs : Value), Blk w cb #[x, y, .int .i64 (N.length : Nat), ls, vs] 93
  n : SkF w hb hl N (ldF N)
  r : RiseE (ensN N)
theorem Skp.on {w w' : World} {lb hb sb hl cb : Nat} {N : List Nd} (h : Skp w lb hb sb hl cb N) (hB : Below w.heap.size w w') : Skp w' lb hb sb hl cb N := by
  obtain ⟨a, c, wk, hs⟩ := h.s
  obtain ⟨x, y, ls, vs, hc⟩ := h.c
  exact ⟨Blk.on h.l hB, ⟨a, c, wk, hs.on hB⟩, ⟨x, y, ls, vs, hc.on hB⟩, h.n.on hB, h.r⟩

set_option maxHeartbeats 2000000 in
theorem newL_any (w : World) :
    Calls Try.prog 7 #[] w fun e w' => ∃ lb hb sb hl cb, e = .returned (ptr1 lb) ∧ Skp w' lb hb sb hl cb [] ∧ w.heap.size ≤ lb ∧ w.heap.size ≤ hb ∧ w.heap.size ≤ sb ∧ w.heap.size ≤ hl ∧ Below w.heap.size w w' := by
  have C1 : Hid (Calls _ _ _ _ _) := newHead_any w
  go_enter Try.func7, Try.ntmps7
  go_wp2_with fail
  refine C1.out.mono ?_
  rintro e w1 ⟨hb, hl, rfl, hN, h1, h2, hb1⟩
  obtain ⟨aX, aB, aS⟩ := blk_new w1 #[.pointer none, ptr1 hb, .pointer none] 62
  have HL2 : Hid (Blk (w1.alloc (.cells #[.pointer none, ptr1 hb, .pointer none] 62)) w1.heap.size #[.pointer none, ptr1 hb, .pointer none] 62) := aX
  have HN2 : Hid (SkF (w1.alloc (.cells #[.pointer none, ptr1 hb, .pointer none] 62)) hb hl [] (ldF [])) := hN.on aB
  have HB2 : Hid (Below w.heap.size w (w1.alloc (.cells #[.pointer none, ptr1 hb, .pointer none] 62))) := hb1.trans (aB.mono hb1.size)
  have HG : Hid (w.heap.size ≤ hb ∧ w.heap.size ≤ hl ∧ w.heap.size ≤ w1.heap.size) := ⟨h1, h2, hb1.size⟩
  clear hN hb1 aX aB aS C1 h1 h2
  go_upto_region 2 with fail
  generalize (w1.alloc (.cells #[.pointer none, ptr1 hb, .pointer none] 62)) = w2 at *
  generalize w1.heap.size = lb at *
  have y0 := Blk.cell (i := 0) HL2.out rfl
  have y1 := HL2.out.frozen 0
  go_upto_region 3 with fail
  have HL3 : Hid (Blk (w2.setCell ⟨lb, 0, none⟩ (ptr1 lb)) lb #[ptr1 lb, ptr1 hb, .pointer none] 62) := HL2.out.set 0 _
  have offL : OffS w2 (one1 lb) := OffS.one HL2.out (by decide)
  have HN3 : Hid (SkF (w2.setCell ⟨lb, 0, none⟩ (ptr1 lb)) hb hl [] (ldF [])) := HN2.out.frm (frm_set _ _ _ _ (F := one1 lb) (.inl rfl)) offL
  have HB3 : Hid (Below w.heap.size w (w2.setCell ⟨lb, 0, none⟩ (ptr1 lb))) := below_set HB2.out HG.out.2.2 0 _
  clear offL HN2 HB2 HL2 y0 y1
  generalize (w2.setCell ⟨lb, 0, none⟩ (ptr1 lb)) = w3 at *
  have C3 : Hid (Calls _ _ _ _ _) := resting_any 0 0 w3.drew
  refine wp_region_any (by kernel_rfl) ?_
  change wpAny _ _ _ _ _ _ _ (World.drew _)
  refine tk (v := ?_) 0 rfl ?_ ?_
  rotate_left
  focus
    intro w9
    go_simp
    try with_reducible rfl
  try simp only [aP]
  refine tk (v := ?_) 1 rfl ?_ ?_
  rotate_left
  focus
    intro w9
    go_simp
    try with_reducible rfl
  try simp only [aP]
  refine tk (v := ?_) 2 rfl ?_ ?_
  rotate_left
  focus
    intro w9
    go_simp
    try with_reducible rfl
  try simp only [aP]
  refine wpAny_ready (rs := [3]) (by kernel_rfl) (by simp) ?_
  refine anyN_cons 3 rfl (by rfl) (fun K hK => ?_) AllReady.nil
  go_simp
  refine C3.out.mono ?_
  rintro e w5 ⟨s, c, rfl, hr⟩
  dsimp only
  have HR : Hid (Rst w3.drew w5 s c 0 0) := hr
  have HL5 : Hid (Blk w5 lb #[ptr1 lb, ptr1 hb, .pointer none] 62) := HL3.out.on (((Below.refl _ _).drew).trans hr.bel)
  clear hr C3
  refine hK.out _ _ ?_
  clear hK K
  try simp only [aP]
  refine wpAny_ready (rs := [4]) (by kernel_rfl) (by simp) ?_
  refine anyN_cons 4 rfl (by rfl) (fun K hK => ?_) AllReady.nil
  go_simp
  refine (storeSt lb 2 none (some ⟨s, 0, none⟩) w5 (Blk.cell (i := 2) HL5.out rfl) (HL5.out.frozen 2) (PtT.blk HR.out.bs rfl)).mono ?_
  rintro e w6 ⟨rfl, hw6⟩
  dsimp only
  have HW6 : Hid (w6 = w5.setCell ⟨lb, 2, none⟩ (ptr1 s)) := hw6
  clear hw6
  refine hK.out _ _ ?_
  clear hK K
  try simp only [aP]
  refine wpAny_done (by kernel_rfl) ?_ _
  have hd : Below w3.heap.size w3 w3.drew := (Below.refl _ _).drew
  have hB5 : Below w3.heap.size w3 w5 := hd.trans HR.out.bel
  have hL5 := HL3.out.on hB5
  have offL : OffS w5 (one1 lb) := OffS.one hL5 (by decide)
  have HK : Hid (Skp w6 lb hb s hl c [] ∧ w.heap.size ≤ s ∧ Below w.heap.size w w6) := by
    show Skp _ _ _ _ _ _ _ ∧ _
    rw [HW6.out]
    refine ⟨⟨hL5.set 2 _, ⟨0, 0, .nilFunc, HR.out.bs.other (HR.out.bs.ne hL5 (by decide)) 2 _⟩, ⟨_, _, _, _, HR.out.bc.other (HR.out.bc.ne hL5 (by decide)) 2 _⟩, (HN3.out.on hB5).frm (frm_set _ _ _ _ (F := one1 lb) (.inl rfl)) offL, List.Pairwise.nil⟩, ?_, below_set (HB3.out.trans (hB5.mono HB3.out.size)) HG.out.2.2 2 _⟩
    have h7 : w3.heap.size ≤ s := HR.out.ns
    have h6 := HB3.out.size
    omega
  clear hd hB5 hL5 offL HL3 HN3 HB3 HR
  go_wp2_with fail
  go_ret
  exact ⟨_, _, _, _, _, rfl, HK.out.1, HG.out.2.2, HG.out.1, HK.out.2.1, HG.out.2.1, HK.out.2.2⟩

end Go.Proofs.Ytojfohpnfciajaa
