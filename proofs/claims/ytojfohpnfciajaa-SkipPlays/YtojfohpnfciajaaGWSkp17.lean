/- Layer 12: what a Put does. Layer 12: what a Delete does. -/
import Derived.Deep.WholeRow
import Derived.Test.YtojfohpnfciajaaGWSkp15
namespace Go.Proofs.Ytojfohpnfciajaa
open Go.RowKit
set_option maxRecDepth 100000

abbrev nilP : Array Value := #[.pointer none, .pointer none, .pointer none, .pointer none, .pointer none, .pointer none, .pointer none, .pointer none, .pointer none, .pointer none, .pointer none, .pointer none, .pointer none, .pointer none, .pointer none, .pointer none]
theorem st16 (w : World) {A : Array Value} (hs : A.size = 16) (h1 : A.all (·.oneCell') = true) : (storeCells ⟨w.heap.size, 0, none⟩ A.toList 0).run Try.prog (w.alloc (.cells nilP 177)) = .ok () (w.alloc (.cells A 177)) := run_storeCells_new w _ nilP A (by rw [hs]; exact path_sz) (by rw [hs]; rfl) h1
/-- what a Put's work reads -/
structure PutD (w : World) (lb hb sb hl kb vb ib xb pb h : Nat) (N : List Nd) (A : Array Value) (k : ByteArray) (c v : Int) : Prop where
  vw : Vw w lb hb sb
  s : w.cell? ⟨sb, 1, none⟩ = some (.int .i64 c)
  n : SkF w hb hl N (ldF N)
  k1 : Blk w kb #[.string k] 9
  k2 : Blk w vb #[.int .i64 v] 2
  k3 : Blk w ib #[.int .i64 (h : Nat)] 3
  x : Blk w xb #[ptr1 lb, ptr1 sb] 102
  p : Blk w pb A 177
  z : A.size = 16
theorem PutD.on {w w' : World} {lb hb sb hl kb vb ib xb pb h : Nat} {N : List Nd} {A : Array Value} {k : ByteArray} {c v : Int} (q : PutD w lb hb sb hl kb vb ib xb pb h N A k c v) (hB : Below w.heap.size w w') : PutD w' lb hb sb hl kb vb ib xb pb h N A k c v :=
  ⟨q.vw.on hB, cell_on q.s hB, q.n.on hB, q.k1.on hB, q.k2.on hB, q.k3.on hB, q.x.on hB, q.p.on hB, q.z⟩
theorem PutD.cells {w : World} {lb hb sb hl kb vb ib xb pb h : Nat} {N : List Nd} {A : Array Value} {k : ByteArray} {c v : Int} (q : PutD w lb hb sb hl kb vb ib xb pb h N A k c v) : w.cell? ⟨xb, 0, none⟩ = some (ptr1 lb) ∧ w.cell? ⟨xb, 1, none⟩ = some (ptr1 sb) ∧ w.cell? ⟨kb, 0, none⟩ = some (.string k) ∧ w.cell? ⟨vb, 0, none⟩ = some (.int .i64 v) ∧ w.cell? ⟨ib, 0, none⟩ = some (.int .i64 (h : Nat)) :=
  ⟨Blk.cell (i := 0) q.x rfl, Blk.cell (i := 1) q.x rfl, Blk.cell (i := 0) q.k1 rfl, Blk.cell (i := 0) q.k2 rfl, Blk.cell (i := 0) q.k3 rfl⟩
theorem SkF.lts {w : World} {hb hl : Nat} {N : List Nd} {f : Nat → Nat → Option Nat} (h : SkF w hb hl N f) : (∀ x ∈ hl :: N.map Nd.lb, x < w.heap.size) ∧ ∀ x ∈ hb :: N.map Nd.nb, x < w.heap.size := by
  obtain ⟨hv, hd⟩ := h.hd
  obtain ⟨cs, hk, _⟩ := h.hlk
  constructor
  · intro x hx
    rcases List.mem_cons.1 hx with rfl | hx
    · exact hk.lt
    · obtain ⟨y, hy, rfl⟩ := List.mem_map.1 hx
      obtain ⟨cs, h1, _⟩ := h.lks y hy
      exact h1.lt
  · intro x hx
    rcases List.mem_cons.1 hx with rfl | hx
    · exact hd.lt
    · obtain ⟨y, hy, rfl⟩ := List.mem_map.1 hx
      exact (h.nd y hy).lt
theorem PutD.fresh {w : World} {lb hb sb hl kb vb ib xb pb h : Nat} {N : List Nd} {A : Array Value} {k : ByteArray} {c v : Int} (q : PutD w lb hb sb hl kb vb ib xb pb h N A k c v) {x : Nat} (hx : w.heap.size ≤ x) : x ∉ hl :: N.map Nd.lb := fun hm => by have := q.n.lts.1 x hm; omega
/-- a new node, above a bound -/
structure NewB (w' : World) (B nb vb lb : Nat) (k : ByteArray) (v : Int) (h : Nat) : Prop where
  n : Blk w' nb #[.string k, ptr1 vb, .slice (some ⟨lb, 0, none⟩) h h] 125
  l : Blk w' lb (Array.replicate h (.pointer none)) 129
  v : Blk w' vb #[.int .i64 v] 2
  nn : B ≤ nb
  nl : B ≤ lb
/-- a new node, seen from an earlier world -/
theorem NewN.bel0 {w w' : World} {nb vb lb : Nat} {k : ByteArray} {v : Int} {h B : Nat} (q : NewN w w' nb vb lb k v h) (hB : B ≤ w.heap.size) : NewB w' B nb vb lb k v h := ⟨q.n, q.l, q.v, Nat.le_trans hB q.nn, Nat.le_trans hB q.nl⟩

theorem later8 {α0 α1 α2 α3 α4 α5 α6 α7 : Type} (P : α0 → α1 → α2 → α3 → α4 → α5 → α6 → α7 → Prop) {G : α0 → α1 → α2 → α3 → α4 → α5 → α6 → α7 → Prop} {R : Prop} (h : (∀ x0 x1 x2 x3 x4 x5 x6 x7, P x0 x1 x2 x3 x4 x5 x6 x7 → G x0 x1 x2 x3 x4 x5 x6 x7) → R) (p : ∀ x0 x1 x2 x3 x4 x5 x6 x7, P x0 x1 x2 x3 x4 x5 x6 x7 → G x0 x1 x2 x3 x4 x5 x6 x7) : R := h p
theorem getN_some {N : List Nd} {m : Nat} {k : ByteArray} {b : Nat} (h : getN N m k = some b) : ∃ (hm : m < N.length), N[m].e.k = k ∧ N[m].nb = b := by
  unfold getN at h
  split at h
  · rename_i x hx
    obtain ⟨hm, e⟩ := List.getElem?_eq_some_iff.1 hx
    split at h
    · rename_i hk
      injection h with h
      exact ⟨hm, by rw [e]; exact hk, by rw [e]; exact h⟩
    · cases h
  · cases h
/-- WHAT A PUT's WORK TELLS: a node more, or another value. -/
def PutR (w w' : World) (hl m h : Nat) (N : List Nd) (k : ByteArray) (c v : Int) (g : Nat) : Prop :=
  (∃ (w8 : World) (xn xv xl : Nat) (ls : Value) (S : List Sw) (A : Array Value), getN N m k = none ∧ NewB w8 w.heap.size xn xv xl k v h ∧ Below w.heap.size w w8 ∧ AddS w8 w' hl N m xn xl h g (c + 1) A ls S h ∧ S.length = h) ∨
  (∃ (hm : m < N.length) (vb' rb : Nat), N[m].e.k = k ∧ Blk w' g (chC N[m].e.v true c (.slice none 0 0) (.slice (some ⟨rb, 0, none⟩) 1 1)) 93 ∧ Blk w' rb #[.pointer (some ⟨N[m].nb, 1, none⟩), ptr1 N[m].vb, ptr1 vb'] 147 ∧ Blk w' vb' #[.int .i64 v] 2 ∧ w.heap.size ≤ g ∧ Below w.heap.size w w')

set_option maxHeartbeats 4000000 in
theorem putting_any (lb hb sb hl m kb vb ib h : Nat) (N : List Nd) (k : ByteArray) (c v : Int) (w : World) (hv : Vw w lb hb sb) (hs : w.cell? ⟨sb, 1, none⟩ = some (.int .i64 c)) (hc0 : 0 ≤ c) (hc1 : c < 9000000000000000000) (hf : SkF w hb hl N (ldF N)) (hm : m ≤ N.length) (h1 : ∀ i (hi : i < N.length), i < m → ltB N[i].e.k k = true) (h2 : ∀ i (hi : i < N.length), m ≤ i → ltB N[i].e.k k = false)
    (k1 : Blk w kb #[.string k] 9) (k2 : Blk w vb #[.int .i64 v] 2) (k3 : Blk w ib #[.int .i64 (h : Nat)] 3) (hh : 1 ≤ h ∧ h ≤ 16) :
    Calls Try.prog 80 #[.agg #[ptr1 lb, ptr1 sb], ptr1 kb, ptr1 vb, ptr1 ib] w fun e w' => ∃ g, e = .returned (ptr1 g) ∧ PutR w w' hl m h N k c v g := by
  obtain ⟨aX, aB, aS⟩ := blk_new w #[ptr1 lb, ptr1 sb] 102
  have x0 := Blk.cell (i := 0) aX rfl
  have x1 := Blk.cell (i := 1) aX rfl
  have y0 := Blk.cell (i := 0) (k1.on aB) rfl
  have C1 : Hid (Calls _ _ _ _ _) := path_walk lb hb sb hl m N k _ (hv.on aB) (hf.on aB).n hm h1 h2
  have HX : Hid (Blk (w.alloc (.cells #[ptr1 lb, ptr1 sb] 102)) w.heap.size #[ptr1 lb, ptr1 sb] 102 ∧ Below w.heap.size w (w.alloc (.cells #[ptr1 lb, ptr1 sb] 102))) := ⟨aX, aB⟩
  have HD0 : Hid (∀ wz A pb, Below w.heap.size w wz → Blk wz w.heap.size #[ptr1 lb, ptr1 sb] 102 → Blk wz pb A 177 → A.size = 16 → PutD wz lb hb sb hl kb vb ib w.heap.size pb h N A k c v) := fun wz A pb hb' hx hp hz => ⟨hv.on hb', cell_on hs hb', hf.on hb', k1.on hb', k2.on hb', k3.on hb', hx, hp, hz⟩
  have HH : Hid (1 ≤ h ∧ h ≤ 16) := hh
  have HCc : Hid (0 ≤ c ∧ c < 9000000000000000000) := ⟨hc0, hc1⟩
  have HM : Hid (m ≤ N.length) := hm
  clear hf hv k1 k2 k3 h1 h2 hh hc0 hc1 hm hs aX aB aS
  go_enter Try.func80, Try.ntmps80
  go_wp2_with fail
  generalize (w.alloc (.cells #[ptr1 lb, ptr1 sb] 102)) = w1 at *
  refine C1.out.mono ?_
  rintro e w2 ⟨A, rfl, hA, hb1⟩
  have hst := st16 w2 hA.sz hA.ptrs
  have HA : Hid (PthA hb N m 0 A) := hA
  have asz := hA.sz
  obtain ⟨bX, bB, bS⟩ := blk_new w2 A 177
  have hb12 := HX.out.2.trans (hb1.mono HX.out.2.size)
  have HB3 : Hid (Below w.heap.size w (w2.alloc (.cells A 177))) := hb12.trans (bB.mono hb12.size)
  have HD : Hid (PutD (w2.alloc (.cells A 177)) lb hb sb hl kb vb ib w.heap.size w2.heap.size h N A k c v) := HD0.out _ _ _ HB3.out ((HX.out.1.on hb1).on bB) bX hA.sz
  clear C1 hA hb1 bX bB bS hb12 x0 x1 y0
  go_upto_region 2 with fail
  clear hst
  generalize (w2.alloc (.cells A 177)) = w3 at *
  generalize w2.heap.size = pb at *
  obtain ⟨x0, x1, y0, y1, y2⟩ := HD.out.cells
  have hsz : (Try.prog.info? 177).map (·.size) = some A.size := by rw [asz]; exact path_sz
  have C2 : Hid (Calls _ _ _ _ _) := behindPath_any lb hb sb hl m N A k w3 HD.out.vw HD.out.n.n HM.out HA.out
  refine wp_region_lit ?_
  refine wpList_load_row rfl 102 _ rfl w.heap.size rfl 102 _ (0, 0) _ HD.out.x Try.underlying102 rfl (by kernel_rfl) ?_
  refine wpList_load_row rfl 177 _ rfl pb rfl 177 A (0, 0) _ HD.out.p Try.underlying177 rfl hsz ?_
  try simp only [aP]
  go_wp2_with fail
  refine C2.out.mono ?_
  rintro e w4 ⟨rfl, hb4⟩
  have HB4 : Hid (Below w.heap.size w w4) := HB3.out.trans (hb4.mono HB3.out.size)
  have HD4 : Hid (PutD w4 lb hb sb hl kb vb ib w.heap.size pb h N A k c v) := HD.out.on hb4
  clear C2 hb4 HB3 HD x0 x1 y0 y1 y2 HX HD0
  cases hg : getN N m k with
  | none =>
    have HG : Hid (getN N m k = none) := hg
    rw [show ptrO none = .pointer none from rfl]
    clear hg
    go_upto_region 4 with fail
    have hdr : Below w4.heap.size w4 w4.drew := (Below.refl _ _).drew
    have HD : Hid (PutD w4.drew lb hb sb hl kb vb ib w.heap.size pb h N A k c v) := HD4.out.on hdr
    have HB5 : Hid (Below w.heap.size w w4.drew) := HB4.out.trans (hdr.mono HB4.out.size)
    clear hdr HD4 HB4
    refine wp_region_any (by kernel_rfl) ?_
    change wpAny _ _ _ _ _ _ _ (World.drew _)
    generalize w4.drew = wd at *
    apply later8 (fun (w8 : World) (xn : Nat) (xv : Nat) (xl : Nat) (w9 : World) (g : Nat) (ls : Value) (S : List Sw) => Hid (NewN wd w8 xn xv xl k v h ∧ AddS w8 w9 hl N m xn xl h g (c + 1) A ls S h ∧ S.length = h))
    intro hs0_1_2_3_4_5_6
    apply later4 (fun (w8 : World) (xn : Nat) (xv : Nat) (xl : Nat) => Hid (NewN wd w8 xn xv xl k v h))
    intro hs0_1_2_3_4_5
    apply later4 (fun (w8 : World) (xn : Nat) (xv : Nat) (xl : Nat) => Hid (NewN wd w8 xn xv xl k v h))
    intro hs1_2_3_4_5
    apply later4 (fun (w8 : World) (xn : Nat) (xv : Nat) (xl : Nat) => Hid (NewN wd w8 xn xv xl k v h))
    intro hs0_2_3_4_5
    apply later0
    intro hs0_1_2_3_4
    apply later4 (fun (w8 : World) (xn : Nat) (xv : Nat) (xl : Nat) => Hid (NewN wd w8 xn xv xl k v h))
    intro hs2_3_4_5
    apply later0
    intro hs1_2_3_4
    apply later0
    intro hs0_2_3_4
    apply later0
    intro hs0_1_3_4
    apply later0
    intro hs0_1_2_4
    apply later0
    intro hs0_1_2_3
    apply later0
    intro hs2_3_4
    apply later0
    intro hs1_3_4
    apply later0
    intro hs1_2_4
    apply later0
    intro hs1_2_3
    apply later0
    intro hs0_3_4
    apply later0
    intro hs0_2_4
    apply later0
    intro hs0_2_3
    apply later0
    intro hs0_1_4
    apply later0
    intro hs0_1_3
    apply later0
    intro hs0_1_2
    apply later0
    intro hs3_4
    apply later0
    intro hs2_4
    apply later0
    intro hs2_3
    apply later0
    intro hs1_4
    apply later0
    intro hs1_3
    apply later0
    intro hs1_2
    apply later0
    intro hs0_4
    apply later0
    intro hs0_3
    apply later0
    intro hs0_2
    apply later0
    intro hs0_1
    apply later0
    intro hs4
    apply later0
    intro hs3
    apply later0
    intro hs2
    apply later0
    intro hs1
    apply later0
    intro hs0
    · obtain ⟨x0, x1, y0, y1, y2⟩ := HD.out.cells
      have hpb := HD.out.p
      refine wpAny_ready (rs := [0, 1, 2, 3, 4]) (by kernel_rfl) (by simp) ?_
      refine anyN_cons 0 rfl (by rfl) (fun K hK => ?_) (anyN_cons 1 rfl (by rfl) (fun K hK => ?_) (anyN_cons 2 rfl (by rfl) (fun K hK => ?_) (anyN_cons 3 rfl (by rfl) (fun K hK => ?_) (anyN_cons 4 rfl (by rfl) (fun K hK => ?_) AllReady.nil))))
      · go_simp
        refine hK.out _ _ ?_
        clear hK K
        try simp only [aP]
        exact hs0
      · refine wp_load_row 177 _ rfl pb rfl 177 A (0, 0) _ hpb Try.underlying177 rfl hsz ?_
        refine hK.out _ _ ?_
        clear hK K
        try simp only [aP]
        exact hs1
      · go_simp
        refine hK.out _ _ ?_
        clear hK K
        try simp only [aP]
        exact hs2
      · go_simp
        refine hK.out _ _ ?_
        clear hK K
        try simp only [aP]
        exact hs3
      · go_simp
        refine hK.out _ _ ?_
        clear hK K
        try simp only [aP]
        exact hs4
    · obtain ⟨x0, x1, y0, y1, y2⟩ := HD.out.cells
      have hpb := HD.out.p
      refine wpAny_ready (rs := [1, 2, 3, 4]) (by kernel_rfl) (by simp) ?_
      refine anyN_cons 1 rfl (by rfl) (fun K hK => ?_) (anyN_cons 2 rfl (by rfl) (fun K hK => ?_) (anyN_cons 3 rfl (by rfl) (fun K hK => ?_) (anyN_cons 4 rfl (by rfl) (fun K hK => ?_) AllReady.nil)))
      · refine wp_load_row 177 _ rfl pb rfl 177 A (0, 0) _ hpb Try.underlying177 rfl hsz ?_
        refine hK.out _ _ ?_
        clear hK K
        try simp only [aP]
        exact hs0_1
      · go_simp
        refine hK.out _ _ ?_
        clear hK K
        try simp only [aP]
        exact hs0_2
      · go_simp
        refine hK.out _ _ ?_
        clear hK K
        try simp only [aP]
        exact hs0_3
      · go_simp
        refine hK.out _ _ ?_
        clear hK K
        try simp only [aP]
        exact hs0_4
    · obtain ⟨x0, x1, y0, y1, y2⟩ := HD.out.cells
      have hpb := HD.out.p
      refine wpAny_ready (rs := [0, 2, 3, 4]) (by kernel_rfl) (by simp) ?_
      refine anyN_cons 0 rfl (by rfl) (fun K hK => ?_) (anyN_cons 2 rfl (by rfl) (fun K hK => ?_) (anyN_cons 3 rfl (by rfl) (fun K hK => ?_) (anyN_cons 4 rfl (by rfl) (fun K hK => ?_) AllReady.nil)))
      · go_simp
        refine hK.out _ _ ?_
        clear hK K
        try simp only [aP]
        exact hs0_1
      · go_simp
        refine hK.out _ _ ?_
        clear hK K
        try simp only [aP]
        exact hs1_2
      · go_simp
        refine hK.out _ _ ?_
        clear hK K
        try simp only [aP]
        exact hs1_3
      · go_simp
        refine hK.out _ _ ?_
        clear hK K
        try simp only [aP]
        exact hs1_4
    · obtain ⟨x0, x1, y0, y1, y2⟩ := HD.out.cells
      have hpb := HD.out.p
      refine wpAny_ready (rs := [0, 1, 3, 4]) (by kernel_rfl) (by simp) ?_
      refine anyN_cons 0 rfl (by rfl) (fun K hK => ?_) (anyN_cons 1 rfl (by rfl) (fun K hK => ?_) (anyN_cons 3 rfl (by rfl) (fun K hK => ?_) (anyN_cons 4 rfl (by rfl) (fun K hK => ?_) AllReady.nil)))
      · go_simp
        refine hK.out _ _ ?_
        clear hK K
        try simp only [aP]
        exact hs0_2
      · refine wp_load_row 177 _ rfl pb rfl 177 A (0, 0) _ hpb Try.underlying177 rfl hsz ?_
        refine hK.out _ _ ?_
        clear hK K
        try simp only [aP]
        exact hs1_2
      · go_simp
        refine hK.out _ _ ?_
        clear hK K
        try simp only [aP]
        exact hs2_3
      · go_simp
        refine hK.out _ _ ?_
        clear hK K
        try simp only [aP]
        exact hs2_4
    · obtain ⟨x0, x1, y0, y1, y2⟩ := HD.out.cells
      have hpb := HD.out.p
      refine wpAny_ready (rs := [0, 1, 2, 4]) (by kernel_rfl) (by simp) ?_
      refine anyN_cons 0 rfl (by rfl) (fun K hK => ?_) (anyN_cons 1 rfl (by rfl) (fun K hK => ?_) (anyN_cons 2 rfl (by rfl) (fun K hK => ?_) (anyN_cons 4 rfl (by rfl) (fun K hK => ?_) AllReady.nil)))
      · go_simp
        refine hK.out _ _ ?_
        clear hK K
        try simp only [aP]
        exact hs0_3
      · refine wp_load_row 177 _ rfl pb rfl 177 A (0, 0) _ hpb Try.underlying177 rfl hsz ?_
        refine hK.out _ _ ?_
        clear hK K
        try simp only [aP]
        exact hs1_3
      · go_simp
        refine hK.out _ _ ?_
        clear hK K
        try simp only [aP]
        exact hs2_3
      · go_simp
        refine hK.out _ _ ?_
        clear hK K
        try simp only [aP]
        exact hs3_4
    · obtain ⟨x0, x1, y0, y1, y2⟩ := HD.out.cells
      have hpb := HD.out.p
      refine wpAny_ready (rs := [0, 1, 2, 3]) (by kernel_rfl) (by simp) ?_
      refine anyN_cons 0 rfl (by rfl) (fun K hK => ?_) (anyN_cons 1 rfl (by rfl) (fun K hK => ?_) (anyN_cons 2 rfl (by rfl) (fun K hK => ?_) (anyN_cons 3 rfl (by rfl) (fun K hK => ?_) AllReady.nil)))
      · go_simp
        refine hK.out _ _ ?_
        clear hK K
        try simp only [aP]
        exact hs0_4
      · refine wp_load_row 177 _ rfl pb rfl 177 A (0, 0) _ hpb Try.underlying177 rfl hsz ?_
        refine hK.out _ _ ?_
        clear hK K
        try simp only [aP]
        exact hs1_4
      · go_simp
        refine hK.out _ _ ?_
        clear hK K
        try simp only [aP]
        exact hs2_4
      · go_simp
        refine hK.out _ _ ?_
        clear hK K
        try simp only [aP]
        exact hs3_4
    · obtain ⟨x0, x1, y0, y1, y2⟩ := HD.out.cells
      have hpb := HD.out.p
      refine wpAny_ready (rs := [2, 3, 4]) (by kernel_rfl) (by simp) ?_
      refine anyN_cons 2 rfl (by rfl) (fun K hK => ?_) (anyN_cons 3 rfl (by rfl) (fun K hK => ?_) (anyN_cons 4 rfl (by rfl) (fun K hK => ?_) AllReady.nil))
      · go_simp
        refine hK.out _ _ ?_
        clear hK K
        try simp only [aP]
        exact hs0_1_2
      · go_simp
        refine hK.out _ _ ?_
        clear hK K
        try simp only [aP]
        exact hs0_1_3
      · go_simp
        refine hK.out _ _ ?_
        clear hK K
        try simp only [aP]
        exact hs0_1_4
    · obtain ⟨x0, x1, y0, y1, y2⟩ := HD.out.cells
      have hpb := HD.out.p
      refine wpAny_ready (rs := [1, 3, 4]) (by kernel_rfl) (by simp) ?_
      refine anyN_cons 1 rfl (by rfl) (fun K hK => ?_) (anyN_cons 3 rfl (by rfl) (fun K hK => ?_) (anyN_cons 4 rfl (by rfl) (fun K hK => ?_) AllReady.nil))
      · refine wp_load_row 177 _ rfl pb rfl 177 A (0, 0) _ hpb Try.underlying177 rfl hsz ?_
        refine hK.out _ _ ?_
        clear hK K
        try simp only [aP]
        exact hs0_1_2
      · go_simp
        refine hK.out _ _ ?_
        clear hK K
        try simp only [aP]
        exact hs0_2_3
      · go_simp
        refine hK.out _ _ ?_
        clear hK K
        try simp only [aP]
        exact hs0_2_4
    · obtain ⟨x0, x1, y0, y1, y2⟩ := HD.out.cells
      have hpb := HD.out.p
      refine wpAny_ready (rs := [1, 2, 4]) (by kernel_rfl) (by simp) ?_
      refine anyN_cons 1 rfl (by rfl) (fun K hK => ?_) (anyN_cons 2 rfl (by rfl) (fun K hK => ?_) (anyN_cons 4 rfl (by rfl) (fun K hK => ?_) AllReady.nil))
      · refine wp_load_row 177 _ rfl pb rfl 177 A (0, 0) _ hpb Try.underlying177 rfl hsz ?_
        refine hK.out _ _ ?_
        clear hK K
        try simp only [aP]
        exact hs0_1_3
      · go_simp
        refine hK.out _ _ ?_
        clear hK K
        try simp only [aP]
        exact hs0_2_3
      · go_simp
        refine hK.out _ _ ?_
        clear hK K
        try simp only [aP]
        exact hs0_3_4
    · obtain ⟨x0, x1, y0, y1, y2⟩ := HD.out.cells
      have hpb := HD.out.p
      refine wpAny_ready (rs := [1, 2, 3]) (by kernel_rfl) (by simp) ?_
      refine anyN_cons 1 rfl (by rfl) (fun K hK => ?_) (anyN_cons 2 rfl (by rfl) (fun K hK => ?_) (anyN_cons 3 rfl (by rfl) (fun K hK => ?_) AllReady.nil))
      · refine wp_load_row 177 _ rfl pb rfl 177 A (0, 0) _ hpb Try.underlying177 rfl hsz ?_
        refine hK.out _ _ ?_
        clear hK K
        try simp only [aP]
        exact hs0_1_4
      · go_simp
        refine hK.out _ _ ?_
        clear hK K
        try simp only [aP]
        exact hs0_2_4
      · go_simp
        refine hK.out _ _ ?_
        clear hK K
        try simp only [aP]
        exact hs0_3_4
    · obtain ⟨x0, x1, y0, y1, y2⟩ := HD.out.cells
      have hpb := HD.out.p
      refine wpAny_ready (rs := [0, 3, 4]) (by kernel_rfl) (by simp) ?_
      refine anyN_cons 0 rfl (by rfl) (fun K hK => ?_) (anyN_cons 3 rfl (by rfl) (fun K hK => ?_) (anyN_cons 4 rfl (by rfl) (fun K hK => ?_) AllReady.nil))
      · go_simp
        refine hK.out _ _ ?_
        clear hK K
        try simp only [aP]
        exact hs0_1_2
      · go_simp
        refine hK.out _ _ ?_
        clear hK K
        try simp only [aP]
        exact hs1_2_3
      · go_simp
        refine hK.out _ _ ?_
        clear hK K
        try simp only [aP]
        exact hs1_2_4
    · obtain ⟨x0, x1, y0, y1, y2⟩ := HD.out.cells
      have hpb := HD.out.p
      refine wpAny_ready (rs := [0, 2, 4]) (by kernel_rfl) (by simp) ?_
      refine anyN_cons 0 rfl (by rfl) (fun K hK => ?_) (anyN_cons 2 rfl (by rfl) (fun K hK => ?_) (anyN_cons 4 rfl (by rfl) (fun K hK => ?_) AllReady.nil))
      · go_simp
        refine hK.out _ _ ?_
        clear hK K
        try simp only [aP]
        exact hs0_1_3
      · go_simp
        refine hK.out _ _ ?_
        clear hK K
        try simp only [aP]
        exact hs1_2_3
      · go_simp
        refine hK.out _ _ ?_
        clear hK K
        try simp only [aP]
        exact hs1_3_4
    · obtain ⟨x0, x1, y0, y1, y2⟩ := HD.out.cells
      have hpb := HD.out.p
      refine wpAny_ready (rs := [0, 2, 3]) (by kernel_rfl) (by simp) ?_
      refine anyN_cons 0 rfl (by rfl) (fun K hK => ?_) (anyN_cons 2 rfl (by rfl) (fun K hK => ?_) (anyN_cons 3 rfl (by rfl) (fun K hK => ?_) AllReady.nil))
      · go_simp
        refine hK.out _ _ ?_
        clear hK K
        try simp only [aP]
        exact hs0_1_4
      · go_simp
        refine hK.out _ _ ?_
        clear hK K
        try simp only [aP]
        exact hs1_2_4
      · go_simp
        refine hK.out _ _ ?_
        clear hK K
        try simp only [aP]
        exact hs1_3_4
    · obtain ⟨x0, x1, y0, y1, y2⟩ := HD.out.cells
      have hpb := HD.out.p
      refine wpAny_ready (rs := [0, 1, 4]) (by kernel_rfl) (by simp) ?_
      refine anyN_cons 0 rfl (by rfl) (fun K hK => ?_) (anyN_cons 1 rfl (by rfl) (fun K hK => ?_) (anyN_cons 4 rfl (by rfl) (fun K hK => ?_) AllReady.nil))
      · go_simp
        refine hK.out _ _ ?_
        clear hK K
        try simp only [aP]
        exact hs0_2_3
      · refine wp_load_row 177 _ rfl pb rfl 177 A (0, 0) _ hpb Try.underlying177 rfl hsz ?_
        refine hK.out _ _ ?_
        clear hK K
        try simp only [aP]
        exact hs1_2_3
      · go_simp
        refine hK.out _ _ ?_
        clear hK K
        try simp only [aP]
        exact hs2_3_4
    · obtain ⟨x0, x1, y0, y1, y2⟩ := HD.out.cells
      have hpb := HD.out.p
      refine wpAny_ready (rs := [0, 1, 3]) (by kernel_rfl) (by simp) ?_
      refine anyN_cons 0 rfl (by rfl) (fun K hK => ?_) (anyN_cons 1 rfl (by rfl) (fun K hK => ?_) (anyN_cons 3 rfl (by rfl) (fun K hK => ?_) AllReady.nil))
      · go_simp
        refine hK.out _ _ ?_
        clear hK K
        try simp only [aP]
        exact hs0_2_4
      · refine wp_load_row 177 _ rfl pb rfl 177 A (0, 0) _ hpb Try.underlying177 rfl hsz ?_
        refine hK.out _ _ ?_
        clear hK K
        try simp only [aP]
        exact hs1_2_4
      · go_simp
        refine hK.out _ _ ?_
        clear hK K
        try simp only [aP]
        exact hs2_3_4
    · obtain ⟨x0, x1, y0, y1, y2⟩ := HD.out.cells
      have hpb := HD.out.p
      refine wpAny_ready (rs := [0, 1, 2]) (by kernel_rfl) (by simp) ?_
      refine anyN_cons 0 rfl (by rfl) (fun K hK => ?_) (anyN_cons 1 rfl (by rfl) (fun K hK => ?_) (anyN_cons 2 rfl (by rfl) (fun K hK => ?_) AllReady.nil))
      · go_simp
        refine hK.out _ _ ?_
        clear hK K
        try simp only [aP]
        exact hs0_3_4
      · refine wp_load_row 177 _ rfl pb rfl 177 A (0, 0) _ hpb Try.underlying177 rfl hsz ?_
        refine hK.out _ _ ?_
        clear hK K
        try simp only [aP]
        exact hs1_3_4
      · go_simp
        refine hK.out _ _ ?_
        clear hK K
        try simp only [aP]
        exact hs2_3_4
    · obtain ⟨x0, x1, y0, y1, y2⟩ := HD.out.cells
      have hpb := HD.out.p
      refine wpAny_ready (rs := [3, 4]) (by kernel_rfl) (by simp) ?_
      refine anyN_cons 3 rfl (by rfl) (fun K hK => ?_) (anyN_cons 4 rfl (by rfl) (fun K hK => ?_) AllReady.nil)
      · go_simp
        refine hK.out _ _ ?_
        clear hK K
        try simp only [aP]
        exact hs0_1_2_3
      · go_simp
        refine hK.out _ _ ?_
        clear hK K
        try simp only [aP]
        exact hs0_1_2_4
    · obtain ⟨x0, x1, y0, y1, y2⟩ := HD.out.cells
      have hpb := HD.out.p
      refine wpAny_ready (rs := [2, 4]) (by kernel_rfl) (by simp) ?_
      refine anyN_cons 2 rfl (by rfl) (fun K hK => ?_) (anyN_cons 4 rfl (by rfl) (fun K hK => ?_) AllReady.nil)
      · go_simp
        refine hK.out _ _ ?_
        clear hK K
        try simp only [aP]
        exact hs0_1_2_3
      · go_simp
        refine hK.out _ _ ?_
        clear hK K
        try simp only [aP]
        exact hs0_1_3_4
    · obtain ⟨x0, x1, y0, y1, y2⟩ := HD.out.cells
      have hpb := HD.out.p
      refine wpAny_ready (rs := [2, 3]) (by kernel_rfl) (by simp) ?_
      refine anyN_cons 2 rfl (by rfl) (fun K hK => ?_) (anyN_cons 3 rfl (by rfl) (fun K hK => ?_) AllReady.nil)
      · go_simp
        refine hK.out _ _ ?_
        clear hK K
        try simp only [aP]
        exact hs0_1_2_4
      · go_simp
        refine hK.out _ _ ?_
        clear hK K
        try simp only [aP]
        exact hs0_1_3_4
    · obtain ⟨x0, x1, y0, y1, y2⟩ := HD.out.cells
      have hpb := HD.out.p
      refine wpAny_ready (rs := [1, 4]) (by kernel_rfl) (by simp) ?_
      refine anyN_cons 1 rfl (by rfl) (fun K hK => ?_) (anyN_cons 4 rfl (by rfl) (fun K hK => ?_) AllReady.nil)
      · refine wp_load_row 177 _ rfl pb rfl 177 A (0, 0) _ hpb Try.underlying177 rfl hsz ?_
        refine hK.out _ _ ?_
        clear hK K
        try simp only [aP]
        exact hs0_1_2_3
      · go_simp
        refine hK.out _ _ ?_
        clear hK K
        try simp only [aP]
        exact hs0_2_3_4
    · obtain ⟨x0, x1, y0, y1, y2⟩ := HD.out.cells
      have hpb := HD.out.p
      refine wpAny_ready (rs := [1, 3]) (by kernel_rfl) (by simp) ?_
      refine anyN_cons 1 rfl (by rfl) (fun K hK => ?_) (anyN_cons 3 rfl (by rfl) (fun K hK => ?_) AllReady.nil)
      · refine wp_load_row 177 _ rfl pb rfl 177 A (0, 0) _ hpb Try.underlying177 rfl hsz ?_
        refine hK.out _ _ ?_
        clear hK K
        try simp only [aP]
        exact hs0_1_2_4
      · go_simp
        refine hK.out _ _ ?_
        clear hK K
        try simp only [aP]
        exact hs0_2_3_4
    · obtain ⟨x0, x1, y0, y1, y2⟩ := HD.out.cells
      have hpb := HD.out.p
      refine wpAny_ready (rs := [1, 2]) (by kernel_rfl) (by simp) ?_
      refine anyN_cons 1 rfl (by rfl) (fun K hK => ?_) (anyN_cons 2 rfl (by rfl) (fun K hK => ?_) AllReady.nil)
      · refine wp_load_row 177 _ rfl pb rfl 177 A (0, 0) _ hpb Try.underlying177 rfl hsz ?_
        refine hK.out _ _ ?_
        clear hK K
        try simp only [aP]
        exact hs0_1_3_4
      · go_simp
        refine hK.out _ _ ?_
        clear hK K
        try simp only [aP]
        exact hs0_2_3_4
    · obtain ⟨x0, x1, y0, y1, y2⟩ := HD.out.cells
      have hpb := HD.out.p
      refine wpAny_ready (rs := [0, 4]) (by kernel_rfl) (by simp) ?_
      refine anyN_cons 0 rfl (by rfl) (fun K hK => ?_) (anyN_cons 4 rfl (by rfl) (fun K hK => ?_) AllReady.nil)
      · go_simp
        refine hK.out _ _ ?_
        clear hK K
        try simp only [aP]
        exact hs0_1_2_3
      · go_simp
        refine hK.out _ _ ?_
        clear hK K
        try simp only [aP]
        exact hs1_2_3_4
    · obtain ⟨x0, x1, y0, y1, y2⟩ := HD.out.cells
      have hpb := HD.out.p
      refine wpAny_ready (rs := [0, 3]) (by kernel_rfl) (by simp) ?_
      refine anyN_cons 0 rfl (by rfl) (fun K hK => ?_) (anyN_cons 3 rfl (by rfl) (fun K hK => ?_) AllReady.nil)
      · go_simp
        refine hK.out _ _ ?_
        clear hK K
        try simp only [aP]
        exact hs0_1_2_4
      · go_simp
        refine hK.out _ _ ?_
        clear hK K
        try simp only [aP]
        exact hs1_2_3_4
    · obtain ⟨x0, x1, y0, y1, y2⟩ := HD.out.cells
      have hpb := HD.out.p
      refine wpAny_ready (rs := [0, 2]) (by kernel_rfl) (by simp) ?_
      refine anyN_cons 0 rfl (by rfl) (fun K hK => ?_) (anyN_cons 2 rfl (by rfl) (fun K hK => ?_) AllReady.nil)
      · go_simp
        refine hK.out _ _ ?_
        clear hK K
        try simp only [aP]
        exact hs0_1_3_4
      · go_simp
        refine hK.out _ _ ?_
        clear hK K
        try simp only [aP]
        exact hs1_2_3_4
    · obtain ⟨x0, x1, y0, y1, y2⟩ := HD.out.cells
      have hpb := HD.out.p
      refine wpAny_ready (rs := [0, 1, 5]) (by kernel_rfl) (by simp) ?_
      refine anyN_cons 0 rfl (by rfl) (fun K hK => ?_) (anyN_cons 1 rfl (by rfl) (fun K hK => ?_) (anyN_cons 5 rfl (by rfl) (fun K hK => ?_) AllReady.nil))
      · go_simp
        refine hK.out _ _ ?_
        clear hK K
        try simp only [aP]
        exact hs0_2_3_4
      · refine wp_load_row 177 _ rfl pb rfl 177 A (0, 0) _ hpb Try.underlying177 rfl hsz ?_
        refine hK.out _ _ ?_
        clear hK K
        try simp only [aP]
        exact hs1_2_3_4
      · go_simp
        refine (newNode_any k v h HH.out.2 wd).mono ?_
        rintro e w8 ⟨xn, xv, xl, rfl, hN⟩
        dsimp only
        have H8 : Hid (NewN wd w8 xn xv xl k v h) := hN
        clear hN
        refine hK.out _ _ ?_
        clear hK K
        try simp only [aP]
        exact hs2_3_4_5 w8 xn xv xl H8
    · obtain ⟨x0, x1, y0, y1, y2⟩ := HD.out.cells
      have hpb := HD.out.p
      refine wpAny_ready (rs := [4]) (by kernel_rfl) (by simp) ?_
      refine anyN_cons 4 rfl (by rfl) (fun K hK => ?_) AllReady.nil
      go_simp
      refine hK.out _ _ ?_
      clear hK K
      try simp only [aP]
      exact hs0_1_2_3_4
    · obtain ⟨x0, x1, y0, y1, y2⟩ := HD.out.cells
      have hpb := HD.out.p
      refine wpAny_ready (rs := [3]) (by kernel_rfl) (by simp) ?_
      refine anyN_cons 3 rfl (by rfl) (fun K hK => ?_) AllReady.nil
      go_simp
      refine hK.out _ _ ?_
      clear hK K
      try simp only [aP]
      exact hs0_1_2_3_4
    · obtain ⟨x0, x1, y0, y1, y2⟩ := HD.out.cells
      have hpb := HD.out.p
      refine wpAny_ready (rs := [2]) (by kernel_rfl) (by simp) ?_
      refine anyN_cons 2 rfl (by rfl) (fun K hK => ?_) AllReady.nil
      go_simp
      refine hK.out _ _ ?_
      clear hK K
      try simp only [aP]
      exact hs0_1_2_3_4
    · obtain ⟨x0, x1, y0, y1, y2⟩ := HD.out.cells
      have hpb := HD.out.p
      refine wpAny_ready (rs := [1, 5]) (by kernel_rfl) (by simp) ?_
      refine anyN_cons 1 rfl (by rfl) (fun K hK => ?_) (anyN_cons 5 rfl (by rfl) (fun K hK => ?_) AllReady.nil)
      · refine wp_load_row 177 _ rfl pb rfl 177 A (0, 0) _ hpb Try.underlying177 rfl hsz ?_
        refine hK.out _ _ ?_
        clear hK K
        try simp only [aP]
        exact hs0_1_2_3_4
      · go_simp
        refine (newNode_any k v h HH.out.2 wd).mono ?_
        rintro e w8 ⟨xn, xv, xl, rfl, hN⟩
        dsimp only
        have H8 : Hid (NewN wd w8 xn xv xl k v h) := hN
        clear hN
        refine hK.out _ _ ?_
        clear hK K
        try simp only [aP]
        exact hs0_2_3_4_5 w8 xn xv xl H8
    · obtain ⟨x0, x1, y0, y1, y2⟩ := HD.out.cells
      have hpb := HD.out.p
      refine wpAny_ready (rs := [0, 5]) (by kernel_rfl) (by simp) ?_
      refine anyN_cons 0 rfl (by rfl) (fun K hK => ?_) (anyN_cons 5 rfl (by rfl) (fun K hK => ?_) AllReady.nil)
      · go_simp
        refine hK.out _ _ ?_
        clear hK K
        try simp only [aP]
        exact hs0_1_2_3_4
      · go_simp
        refine (newNode_any k v h HH.out.2 wd).mono ?_
        rintro e w8 ⟨xn, xv, xl, rfl, hN⟩
        dsimp only
        have H8 : Hid (NewN wd w8 xn xv xl k v h) := hN
        clear hN
        refine hK.out _ _ ?_
        clear hK K
        try simp only [aP]
        exact hs1_2_3_4_5 w8 xn xv xl H8
    · intro w8 xn xv xl H8
      obtain ⟨x0, x1, y0, y1, y2⟩ := (HD.out.on H8.out.bel).cells
      have hpb := (HD.out.on H8.out.bel).p
      refine wpAny_ready (rs := [0, 1]) (by kernel_rfl) (by simp) ?_
      refine anyN_cons 0 rfl (by rfl) (fun K hK => ?_) (anyN_cons 1 rfl (by rfl) (fun K hK => ?_) AllReady.nil)
      · go_simp
        refine hK.out _ _ ?_
        clear hK K
        try simp only [aP]
        exact hs0_2_3_4_5 w8 xn xv xl H8
      · refine wp_load_row 177 _ rfl pb rfl 177 A (0, 0) _ hpb Try.underlying177 rfl hsz ?_
        refine hK.out _ _ ?_
        clear hK K
        try simp only [aP]
        exact hs1_2_3_4_5 w8 xn xv xl H8
    · obtain ⟨x0, x1, y0, y1, y2⟩ := HD.out.cells
      have hpb := HD.out.p
      refine wpAny_ready (rs := [5]) (by kernel_rfl) (by simp) ?_
      refine anyN_cons 5 rfl (by rfl) (fun K hK => ?_) AllReady.nil
      go_simp
      refine (newNode_any k v h HH.out.2 wd).mono ?_
      rintro e w8 ⟨xn, xv, xl, rfl, hN⟩
      dsimp only
      have H8 : Hid (NewN wd w8 xn xv xl k v h) := hN
      clear hN
      refine hK.out _ _ ?_
      clear hK K
      try simp only [aP]
      exact hs0_1_2_3_4_5 w8 xn xv xl H8
    · intro w8 xn xv xl H8
      obtain ⟨x0, x1, y0, y1, y2⟩ := (HD.out.on H8.out.bel).cells
      have hpb := (HD.out.on H8.out.bel).p
      refine wpAny_ready (rs := [1]) (by kernel_rfl) (by simp) ?_
      refine anyN_cons 1 rfl (by rfl) (fun K hK => ?_) AllReady.nil
      refine wp_load_row 177 _ rfl pb rfl 177 A (0, 0) _ hpb Try.underlying177 rfl hsz ?_
      refine hK.out _ _ ?_
      clear hK K
      try simp only [aP]
      exact hs0_1_2_3_4_5 w8 xn xv xl H8
    · intro w8 xn xv xl H8
      obtain ⟨x0, x1, y0, y1, y2⟩ := (HD.out.on H8.out.bel).cells
      have hpb := (HD.out.on H8.out.bel).p
      refine wpAny_ready (rs := [0]) (by kernel_rfl) (by simp) ?_
      refine anyN_cons 0 rfl (by rfl) (fun K hK => ?_) AllReady.nil
      go_simp
      refine hK.out _ _ ?_
      clear hK K
      try simp only [aP]
      exact hs0_1_2_3_4_5 w8 xn xv xl H8
    · intro w8 xn xv xl H8
      obtain ⟨x0, x1, y0, y1, y2⟩ := (HD.out.on H8.out.bel).cells
      have hpb := (HD.out.on H8.out.bel).p
      refine wpAny_ready (rs := [6]) (by kernel_rfl) (by simp) ?_
      refine anyN_cons 6 rfl (by rfl) (fun K hK => ?_) AllReady.nil
      go_simp
      refine (adds_any lb hb sb hl m xn xv xl h N A k c v wd w8 (cell_on HD.out.s H8.out.bel) HCc.out.1 HCc.out.2 (HD.out.n.on H8.out.bel) HM.out HA.out H8.out HH.out (HD.out.fresh H8.out.nl)).mono ?_
      rintro e w9 ⟨g, ls, S, rfl, hq, hS⟩
      dsimp only
      have H9 : Hid (NewN wd w8 xn xv xl k v h ∧ AddS w8 w9 hl N m xn xl h g (c + 1) A ls S h ∧ S.length = h) := ⟨H8.out, hq, hS⟩
      clear hq hS
      refine hK.out _ _ ?_
      clear hK K
      try simp only [aP]
      exact hs0_1_2_3_4_5_6 w8 xn xv xl w9 g ls S H9
    · intro w8 xn xv xl w9 g ls S H9
      refine wpAny_ready (rs := [7]) (by kernel_rfl) (by simp) ?_
      refine anyN_cons 7 rfl (by rfl) (fun K hK => ?_) AllReady.nil
      go_simp
      refine hK.out _ _ ?_
      clear hK K
      try simp only [aP]
      refine wpAny_done (by kernel_rfl) ?_ _
      go_wp2_with fail
      go_ret
      exact ⟨_, rfl, .inl ⟨w8, xn, xv, xl, ls, S, A, HG.out, H9.out.1.bel0 HB5.out.size, HB5.out.trans (H9.out.1.bel.mono HB5.out.size), H9.out.2.1, H9.out.2.2⟩⟩
  | some b =>
    obtain ⟨hlt, hk, rfl⟩ := getN_some hg
    have HLt : Hid (∃ (hm : m < N.length), N[m].e.k = k) := ⟨hlt, hk⟩
    have hnd := HD4.out.n.nd _ (List.getElem_mem hlt)
    have hvl := HD4.out.n.val _ (List.getElem_mem hlt)
    have C3 : Hid (Calls _ _ _ _ _) := finds_at lb sb N[m].nb N[m].vb c N[m].e.v w4 HD4.out.s (Blk.cell (i := 1) hnd rfl) hvl
    have HNV : Hid (Blk w4 N[m].nb (ndC N[m]) 125 ∧ Blk w4 N[m].vb #[.int .i64 N[m].e.v] 2) := ⟨hnd, hvl⟩
    rw [show ptrO (some N[m].nb) = ptr1 N[m].nb from rfl]
    obtain ⟨x0, x1, y0, y1, y2⟩ := HD4.out.cells
    clear hg hk hnd hvl
    have HFin : Hid (∀ (w' : World) (g vb' rb : Nat), Blk w' g (chC N[m].e.v true c (.slice none 0 0) (.slice (some ⟨rb, 0, none⟩) 1 1)) 93 → Blk w' rb #[.pointer (some ⟨N[m].nb, 1, none⟩), ptr1 N[m].vb, ptr1 vb'] 147 → Blk w' vb' #[.int .i64 v] 2 → w.heap.size ≤ g → Below w.heap.size w w' → PutR w w' hl m h N k c v g) := by
      intro w' g vb' rb h1 h2 h3 h4 h5
      obtain ⟨hm9, hk9⟩ := HLt.out
      exact .inr ⟨hm9, vb', rb, hk9, h1, h2, h3, h4, h5⟩
    simp only [ndC] at HNV
    generalize N[m].nb = nb at *
    generalize N[m].vb = ov at *
    generalize N[m].e.v = oe at *
    generalize N[m].lb = nl at *
    generalize N[m].e.k = nk at *
    generalize N[m].e.h = nh at *
    clear hlt HLt
    go_wp2_with fail
    refine C3.out.mono ?_
    rintro e w5 ⟨g, rfl, hgb, hgn, hb5⟩
    have HB5 : Hid (Below w.heap.size w w5) := HB4.out.trans (hb5.mono HB4.out.size)
    have HG5 : Hid (Blk w5 g (chC oe true c (.slice none 0 0) (.slice none 0 0)) 93 ∧ w.heap.size ≤ g) := ⟨hgb, Nat.le_trans HB4.out.size hgn⟩
    have HN5 : Hid (Blk w5 nb #[.string nk, ptr1 ov, .slice (some ⟨nl, 0, none⟩) nh nh] 125 ∧ Blk w5 ov #[.int .i64 oe] 2) := ⟨HNV.out.1.on hb5, HNV.out.2.on hb5⟩
    have HV5 : Hid (Blk w5 vb #[.int .i64 v] 2) := HD4.out.k2.on hb5
    clear hgb hgn hb5 C3 HNV HD4 HB4 x0 x1 y0 y1 y2
    go_upto_region 6 with fail
    have hdr : Below w5.heap.size w5 w5.drew := (Below.refl _ _).drew
    have hal : Below w5.heap.size w5 (w5.drew.alloc (.cells #[.int .i64 0] 2)) := hdr.alloc (Nat.le_refl _) _
    have HL0 : Hid (w5.drew.cell? ⟨nb, 1, none⟩ = some (ptr1 ov) ∧ PtT 2 1 w5.drew (some ⟨ov, 0, none⟩) ∧ w5.drew.cell? ⟨vb, 0, none⟩ = some (.int .i64 v)) := ⟨Blk.cell (i := 1) HN5.out.1 rfl, PtT.blk (HN5.out.2.on hdr) rfl, Blk.cell (i := 0) HV5.out rfl⟩
    have HL1 : Hid ((w5.drew.alloc (.cells #[.int .i64 0] 2)).cell? ⟨nb, 1, none⟩ = some (ptr1 ov) ∧ PtT 2 1 (w5.drew.alloc (.cells #[.int .i64 0] 2)) (some ⟨ov, 0, none⟩) ∧ (w5.drew.alloc (.cells #[.int .i64 0] 2)).cell? ⟨vb, 0, none⟩ = some (.int .i64 v)) := ⟨Blk.cell (i := 1) (HN5.out.1.on hal) rfl, PtT.blk (HN5.out.2.on hal) rfl, Blk.cell (i := 0) (HV5.out.on hal) rfl⟩
    have HBd : Hid (Below w.heap.size w w5.drew) := HB5.out.trans (hdr.mono HB5.out.size)
    have HGd : Hid (Blk w5.drew g (chC oe true c (.slice none 0 0) (.slice none 0 0)) 93 ∧ w.heap.size ≤ g) := ⟨HG5.out.1.on hdr, HG5.out.2⟩
    clear hdr hal HB5 HG5 HN5 HV5
    refine wp_region_any (by kernel_rfl) ?_
    change wpAny _ _ _ _ _ _ _ (World.drew _)
    generalize w5.drew = wd at *
    refine tk (v := ?_) 0 rfl ?_ ?_
    rotate_left
    focus
      intro w9
      go_simp
      try with_reducible rfl
    try simp only [aP]
    refine tk (v := ?_) 1 rfl ?_ ?_
    rotate_left
    focus
      intro w9
      go_simp
      try with_reducible rfl
    try simp only [aP]
    refine tk (v := ?_) 2 rfl ?_ ?_
    rotate_left
    focus
      intro w9
      go_simp
      try with_reducible rfl
    try simp only [aP]
    apply later0
    intro hs3_4_5_6
    apply later0
    intro hs3_5_6
    apply later0
    intro hs3_4_5
    apply later0
    intro hs4_5
    apply later0
    intro hs3_5
    apply later0
    intro hs3_4
    apply later0
    intro hs5
    apply later0
    intro hs4
    apply later0
    intro hs3
    · have CL := loadIv nb 1 (some ⟨ov, 0, none⟩) wd HL0.out.1 HL0.out.2.1
      have y1 := HL0.out.2.2
      refine wpAny_ready (rs := [3, 4, 5]) (by kernel_rfl) (by simp) ?_
      refine anyN_cons 3 rfl (by rfl) (fun K hK => ?_) (anyN_cons 4 rfl (by rfl) (fun K hK => ?_) (anyN_cons 5 rfl (by rfl) (fun K hK => ?_) AllReady.nil))
      · go_simp
        refine CL.mono ?_
        rintro e w9 ⟨rfl, hw9⟩
        dsimp only
        rw [hw9]
        clear hw9
        refine hK.out _ _ ?_
        clear hK K
        try simp only [aP]
        exact hs3
      · go_simp
        refine hK.out _ _ ?_
        clear hK K
        try simp only [aP]
        exact hs4
      · go_simp
        refine hK.out _ _ ?_
        clear hK K
        try simp only [aP]
        exact hs5
    · have CL := loadIv nb 1 (some ⟨ov, 0, none⟩) wd HL0.out.1 HL0.out.2.1
      have y1 := HL0.out.2.2
      refine wpAny_ready (rs := [4, 5]) (by kernel_rfl) (by simp) ?_
      refine anyN_cons 4 rfl (by rfl) (fun K hK => ?_) (anyN_cons 5 rfl (by rfl) (fun K hK => ?_) AllReady.nil)
      · go_simp
        refine hK.out _ _ ?_
        clear hK K
        try simp only [aP]
        exact hs3_4
      · go_simp
        refine hK.out _ _ ?_
        clear hK K
        try simp only [aP]
        exact hs3_5
    · have CL := loadIv nb 1 (some ⟨ov, 0, none⟩) wd HL0.out.1 HL0.out.2.1
      have y1 := HL0.out.2.2
      refine wpAny_ready (rs := [3, 5]) (by kernel_rfl) (by simp) ?_
      refine anyN_cons 3 rfl (by rfl) (fun K hK => ?_) (anyN_cons 5 rfl (by rfl) (fun K hK => ?_) AllReady.nil)
      · go_simp
        refine CL.mono ?_
        rintro e w9 ⟨rfl, hw9⟩
        dsimp only
        rw [hw9]
        clear hw9
        refine hK.out _ _ ?_
        clear hK K
        try simp only [aP]
        exact hs3_4
      · go_simp
        refine hK.out _ _ ?_
        clear hK K
        try simp only [aP]
        exact hs4_5
    · have CL := loadIv nb 1 (some ⟨ov, 0, none⟩) (wd.alloc (.cells #[.int .i64 0] 2)) HL1.out.1 HL1.out.2.1
      have y1 := HL1.out.2.2
      refine wpAny_ready (rs := [3, 4]) (by kernel_rfl) (by simp) ?_
      refine anyN_cons 3 rfl (by rfl) (fun K hK => ?_) (anyN_cons 4 rfl (by rfl) (fun K hK => ?_) AllReady.nil)
      · go_simp
        refine CL.mono ?_
        rintro e w9 ⟨rfl, hw9⟩
        dsimp only
        rw [hw9]
        clear hw9
        refine hK.out _ _ ?_
        clear hK K
        try simp only [aP]
        exact hs3_5
      · go_simp
        refine hK.out _ _ ?_
        clear hK K
        try simp only [aP]
        exact hs4_5
    · have CL := loadIv nb 1 (some ⟨ov, 0, none⟩) wd HL0.out.1 HL0.out.2.1
      have y1 := HL0.out.2.2
      refine wpAny_ready (rs := [5]) (by kernel_rfl) (by simp) ?_
      refine anyN_cons 5 rfl (by rfl) (fun K hK => ?_) AllReady.nil
      go_simp
      refine hK.out _ _ ?_
      clear hK K
      try simp only [aP]
      exact hs3_4_5
    · have CL := loadIv nb 1 (some ⟨ov, 0, none⟩) (wd.alloc (.cells #[.int .i64 0] 2)) HL1.out.1 HL1.out.2.1
      have y1 := HL1.out.2.2
      refine wpAny_ready (rs := [4, 6]) (by kernel_rfl) (by simp) ?_
      refine anyN_cons 4 rfl (by rfl) (fun K hK => ?_) (anyN_cons 6 rfl (by rfl) (fun K hK => ?_) AllReady.nil)
      · go_simp
        refine hK.out _ _ ?_
        clear hK K
        try simp only [aP]
        exact hs3_4_5
      · go_simp
        refine hK.out _ _ ?_
        clear hK K
        try simp only [aP]
        exact hs3_5_6
    · have CL := loadIv nb 1 (some ⟨ov, 0, none⟩) (wd.alloc (.cells #[.int .i64 0] 2)) HL1.out.1 HL1.out.2.1
      have y1 := HL1.out.2.2
      refine wpAny_ready (rs := [3]) (by kernel_rfl) (by simp) ?_
      refine anyN_cons 3 rfl (by rfl) (fun K hK => ?_) AllReady.nil
      go_simp
      refine CL.mono ?_
      rintro e w9 ⟨rfl, hw9⟩
      dsimp only
      rw [hw9]
      clear hw9
      refine hK.out _ _ ?_
      clear hK K
      try simp only [aP]
      exact hs3_4_5
    · have CL := loadIv nb 1 (some ⟨ov, 0, none⟩) (wd.alloc (.cells #[.int .i64 0] 2)) HL1.out.1 HL1.out.2.1
      have y1 := HL1.out.2.2
      refine wpAny_ready (rs := [6]) (by kernel_rfl) (by simp) ?_
      refine anyN_cons 6 rfl (by rfl) (fun K hK => ?_) AllReady.nil
      go_simp
      refine hK.out _ _ ?_
      clear hK K
      try simp only [aP]
      exact hs3_4_5_6
    · have CL := loadIv nb 1 (some ⟨ov, 0, none⟩) (wd.alloc (.cells #[.int .i64 0] 2)) HL1.out.1 HL1.out.2.1
      have y1 := HL1.out.2.2
      refine wpAny_ready (rs := [4]) (by kernel_rfl) (by simp) ?_
      refine anyN_cons 4 rfl (by rfl) (fun K hK => ?_) AllReady.nil
      go_simp
      refine hK.out _ _ ?_
      clear hK K
      try simp only [aP]
      exact hs3_4_5_6
    · have CL := loadIv nb 1 (some ⟨ov, 0, none⟩) (wd.alloc (.cells #[.int .i64 0] 2)) HL1.out.1 HL1.out.2.1
      have y1 := HL1.out.2.2
      refine wpAny_ready (rs := [7]) (by kernel_rfl) (by simp) ?_
      refine anyN_cons 7 rfl (by rfl) (fun K hK => ?_) AllReady.nil
      go_simp
      refine hK.out _ _ ?_
      clear hK K
      try simp only [aP]
      refine wpAny_done (by kernel_rfl) ?_ _
      obtain ⟨pX, pB, pS⟩ := blk_new wd #[.int .i64 v] 2
      obtain ⟨rX, rB, rS⟩ := blk_new (wd.alloc (.cells #[.int .i64 v] 2)) #[.pointer (some ⟨nb, 1, none⟩), ptr1 ov, ptr1 wd.heap.size] 147
      rw [pS] at rX
      have hpr := pB.trans (rB.mono pB.size)
      have hg7 := HGd.out.1.on hpr
      have g4 := Blk.cell (i := 4) hg7 rfl
      have f4 := hg7.frozen 4
      have HK7 : Hid (Blk (((wd.alloc (.cells #[.int .i64 v] 2)).alloc (.cells #[.pointer (some ⟨nb, 1, none⟩), ptr1 ov, ptr1 wd.heap.size] 147)).setCell ⟨g, 4, none⟩ (.slice (some ⟨wd.heap.size + 1, 0, none⟩) 1 1)) g (chC oe true c (.slice none 0 0) (.slice (some ⟨wd.heap.size + 1, 0, none⟩) 1 1)) 93 ∧ Blk (((wd.alloc (.cells #[.int .i64 v] 2)).alloc (.cells #[.pointer (some ⟨nb, 1, none⟩), ptr1 ov, ptr1 wd.heap.size] 147)).setCell ⟨g, 4, none⟩ (.slice (some ⟨wd.heap.size + 1, 0, none⟩) 1 1)) (wd.heap.size + 1) #[.pointer (some ⟨nb, 1, none⟩), ptr1 ov, ptr1 wd.heap.size] 147 ∧ Blk (((wd.alloc (.cells #[.int .i64 v] 2)).alloc (.cells #[.pointer (some ⟨nb, 1, none⟩), ptr1 ov, ptr1 wd.heap.size] 147)).setCell ⟨g, 4, none⟩ (.slice (some ⟨wd.heap.size + 1, 0, none⟩) 1 1)) wd.heap.size #[.int .i64 v] 2 ∧ Below w.heap.size w (((wd.alloc (.cells #[.int .i64 v] 2)).alloc (.cells #[.pointer (some ⟨nb, 1, none⟩), ptr1 ov, ptr1 wd.heap.size] 147)).setCell ⟨g, 4, none⟩ (.slice (some ⟨wd.heap.size + 1, 0, none⟩) 1 1))) := ⟨hg7.set 4 _, rX.other (rX.ne hg7 (by decide)) 4 _, (pX.on rB).other ((pX.on rB).ne hg7 (by decide)) 4 _, below_set (HBd.out.trans (hpr.mono HBd.out.size)) HGd.out.2 4 _⟩
      clear pX pB pS rX rB rS hpr hg7
      go_wp2_with fail
      go_ret
      exact ⟨_, rfl, HFin.out _ _ _ _ HK7.out.1 HK7.out.2.1 HK7.out.2.2.1 HGd.out.2 HK7.out.2.2.2⟩

end Go.Proofs.Ytojfohpnfciajaa

namespace Go.Proofs.Ytojfohpnfciajaa
open Go.RowKit
set_option maxRecDepth 100000

/-- what a Delete's work reads -/
structure DelD (w : World) (lb hb sb hl kb xb pb : Nat) (N : List Nd) (A : Array Value) (k : ByteArray) (c : Int) : Prop where
  vw : Vw w lb hb sb
  s : w.cell? ⟨sb, 1, none⟩ = some (.int .i64 c)
  n : SkF w hb hl N (ldF N)
  k1 : Blk w kb #[.string k] 9
  x : Blk w xb #[ptr1 lb, ptr1 sb] 102
  p : Blk w pb A 177
  z : A.size = 16
theorem DelD.on {w w' : World} {lb hb sb hl kb xb pb : Nat} {N : List Nd} {A : Array Value} {k : ByteArray} {c : Int} (q : DelD w lb hb sb hl kb xb pb N A k c) (hB : Below w.heap.size w w') : DelD w' lb hb sb hl kb xb pb N A k c :=
  ⟨q.vw.on hB, cell_on q.s hB, q.n.on hB, q.k1.on hB, q.x.on hB, q.p.on hB, q.z⟩
theorem DelD.cells {w : World} {lb hb sb hl kb xb pb : Nat} {N : List Nd} {A : Array Value} {k : ByteArray} {c : Int} (q : DelD w lb hb sb hl kb xb pb N A k c) : w.cell? ⟨xb, 0, none⟩ = some (ptr1 lb) ∧ w.cell? ⟨xb, 1, none⟩ = some (ptr1 sb) ∧ w.cell? ⟨kb, 0, none⟩ = some (.string k) :=
  ⟨Blk.cell (i := 0) q.x rfl, Blk.cell (i := 1) q.x rfl, Blk.cell (i := 0) q.k1 rfl⟩
/-- WHAT A DELETE's WORK TELLS: nothing, or the swings past a node. -/
def DelR (w w' : World) (hl m : Nat) (N : List Nd) (k : ByteArray) (c : Int) (g : Nat) : Prop :=
  (getN N m k = none ∧ Blk w' g (chC 0 false c (.slice none 0 0) (.slice none 0 0)) 93 ∧ w.heap.size ≤ g ∧ Below w.heap.size w w') ∨
  (∃ (hm : m < N.length) (ls : Value) (S : List Sw), N[m].e.k = k ∧ Blk w' g (chC N[m].e.v true (c - 1) ls (.slice none 0 0)) 93 ∧ OwnS w' w.heap.size ls S ∧ (∀ j (hj : j < S.length), SwAt w' hl N m (fun l => tgt l (N.drop (m + 1))) j S[j]) ∧ S.length = N[m].e.h ∧ w.heap.size ≤ g ∧ Below w.heap.size w w')

set_option maxHeartbeats 4000000 in
theorem deleting_any (lb hb sb hl m kb : Nat) (N : List Nd) (k : ByteArray) (c : Int) (w : World) (hv : Vw w lb hb sb) (hs : w.cell? ⟨sb, 1, none⟩ = some (.int .i64 c)) (hc0 : 0 ≤ c) (hc1 : c < 9000000000000000000) (hf : SkF w hb hl N (ldF N)) (hm : m ≤ N.length) (h1 : ∀ i (hi : i < N.length), i < m → ltB N[i].e.k k = true) (h2 : ∀ i (hi : i < N.length), m ≤ i → ltB N[i].e.k k = false)
    (k1 : Blk w kb #[.string k] 9) :
    Calls Try.prog 85 #[.agg #[ptr1 lb, ptr1 sb], ptr1 kb] w fun e w' => ∃ g, e = .returned (ptr1 g) ∧ DelR w w' hl m N k c g := by
  obtain ⟨aX, aB, aS⟩ := blk_new w #[ptr1 lb, ptr1 sb] 102
  have x0 := Blk.cell (i := 0) aX rfl
  have x1 := Blk.cell (i := 1) aX rfl
  have y0 := Blk.cell (i := 0) (k1.on aB) rfl
  have C1 : Hid (Calls _ _ _ _ _) := path_walk lb hb sb hl m N k _ (hv.on aB) (hf.on aB).n hm h1 h2
  have HX : Hid (Blk (w.alloc (.cells #[ptr1 lb, ptr1 sb] 102)) w.heap.size #[ptr1 lb, ptr1 sb] 102 ∧ Below w.heap.size w (w.alloc (.cells #[ptr1 lb, ptr1 sb] 102))) := ⟨aX, aB⟩
  have HD0 : Hid (∀ wz A pb, Below w.heap.size w wz → Blk wz w.heap.size #[ptr1 lb, ptr1 sb] 102 → Blk wz pb A 177 → A.size = 16 → DelD wz lb hb sb hl kb w.heap.size pb N A k c) := fun wz A pb hb' hx hp hz => ⟨hv.on hb', cell_on hs hb', hf.on hb', k1.on hb', hx, hp, hz⟩
  have HCc : Hid (0 ≤ c ∧ c < 9000000000000000000) := ⟨hc0, hc1⟩
  have HM : Hid (m ≤ N.length) := hm
  have HW : Hid (IntKind.i64.wrap (c - 1) = c - 1) := by show IntKind.i64.wrap (c - 1) = c - 1; rw [IntKind.wrap_i64]; omega
  clear hf hv k1 h1 h2 hc0 hc1 hm hs aX aB aS
  go_enter Try.func85, Try.ntmps85
  go_wp2_with fail
  generalize (w.alloc (.cells #[ptr1 lb, ptr1 sb] 102)) = w1 at *
  refine C1.out.mono ?_
  rintro e w2 ⟨A, rfl, hA, hb1⟩
  have hst := st16 w2 hA.sz hA.ptrs
  have HA : Hid (PthA hb N m 0 A) := hA
  have asz := hA.sz
  obtain ⟨bX, bB, bS⟩ := blk_new w2 A 177
  have hb12 := HX.out.2.trans (hb1.mono HX.out.2.size)
  have HB3 : Hid (Below w.heap.size w (w2.alloc (.cells A 177))) := hb12.trans (bB.mono hb12.size)
  have HD : Hid (DelD (w2.alloc (.cells A 177)) lb hb sb hl kb w.heap.size w2.heap.size N A k c) := HD0.out _ _ _ HB3.out ((HX.out.1.on hb1).on bB) bX hA.sz
  have HPn : Hid (w.heap.size ≤ w2.heap.size) := hb12.size
  clear C1 hA hb1 bX bB bS hb12 x0 x1 y0
  go_upto_region 2 with fail
  clear hst
  generalize (w2.alloc (.cells A 177)) = w3 at *
  generalize w2.heap.size = pb at *
  obtain ⟨x0, x1, y0⟩ := HD.out.cells
  have hsz : (Try.prog.info? 177).map (·.size) = some A.size := by rw [asz]; exact path_sz
  have HSz : Hid ((Try.prog.info? 177).map (·.size) = some A.size) := hsz
  have C2 : Hid (Calls _ _ _ _ _) := behindPath_any lb hb sb hl m N A k w3 HD.out.vw HD.out.n.n HM.out HA.out
  refine wp_region_lit ?_
  refine wpList_load_row rfl 102 _ rfl w.heap.size rfl 102 _ (0, 0) _ HD.out.x Try.underlying102 rfl (by kernel_rfl) ?_
  refine wpList_load_row rfl 177 _ rfl pb rfl 177 A (0, 0) _ HD.out.p Try.underlying177 rfl hsz ?_
  clear hsz
  try simp only [aP]
  go_wp2_with fail
  refine C2.out.mono ?_
  rintro e w4 ⟨rfl, hb4⟩
  have HB4 : Hid (Below w.heap.size w w4) := HB3.out.trans (hb4.mono HB3.out.size)
  have HD4 : Hid (DelD w4 lb hb sb hl kb w.heap.size pb N A k c) := HD.out.on hb4
  clear C2 hb4 HB3 HD x0 x1 y0 HX HD0
  obtain ⟨x0, x1, y0⟩ := HD4.out.cells
  cases hg : getN N m k with
  | none =>
    have HG : Hid (getN N m k = none) := hg
    have C3 : Hid (Calls _ _ _ _ _) := finds_nil lb sb c w4 HD4.out.s
    rw [show ptrO none = .pointer none from rfl]
    clear hg
    go_wp2_with fail
    refine C3.out.mono ?_
    rintro e w5 ⟨g, rfl, hgb, hgn, hb5⟩
    have HK : Hid (DelR w w5 hl m N k c g) := .inl ⟨HG.out, hgb, Nat.le_trans HB4.out.size hgn, HB4.out.trans (hb5.mono HB4.out.size)⟩
    clear hgb hgn hb5
    go_wp2_with fail
    go_ret
    exact ⟨_, rfl, HK.out⟩
  | some b =>
    obtain ⟨hlt, hk, rfl⟩ := getN_some hg
    have HLt : Hid (∃ (hm : m < N.length), N[m].e.k = k) := ⟨hlt, hk⟩
    have hnd := HD4.out.n.nd _ (List.getElem_mem hlt)
    have hvl := HD4.out.n.val _ (List.getElem_mem hlt)
    have C3 : Hid (Calls _ _ _ _ _) := finds_at lb sb N[m].nb N[m].vb c N[m].e.v w4 HD4.out.s (Blk.cell (i := 1) hnd rfl) hvl
    have C5 : Hid (∀ w6, Below w4.heap.size w4 w6 → Calls Try.prog 86 #[.agg A, ptr1 N[m].nb] w6 fun e w' => ∃ ls S, e = .returned ls ∧ WoS w6 w' hl N m A ls S ∧ S.length = N[m].e.h) := fun w6 hb6 => without_any hb hl m N A w6 (HD4.out.n.on hb6) hlt HA.out
    rw [show ptrO (some N[m].nb) = ptr1 N[m].nb from rfl]
    clear hg hk hnd hvl
    have HFin : Hid (∀ (w' : World) (g : Nat) (ls : Value) (S : List Sw), Blk w' g (chC N[m].e.v true (c - 1) ls (.slice none 0 0)) 93 → OwnS w' w.heap.size ls S → (∀ j (hj : j < S.length), SwAt w' hl N m (fun l => tgt l (N.drop (m + 1))) j S[j]) → S.length = N[m].e.h → w.heap.size ≤ g → Below w.heap.size w w' → DelR w w' hl m N k c g) := by
      intro w' g ls S h1 h2 h3 h4 h5 h6
      obtain ⟨hm9, hk9⟩ := HLt.out
      exact .inr ⟨hm9, ls, S, hk9, h1, h2, h3, h4, h5, h6⟩
    have HT : Hid (N[m].e.h ≤ 16) := (HD4.out.n.ht _ (List.getElem_mem hlt)).2
    generalize N[m].nb = nb at *
    generalize N[m].e.v = oe at *
    generalize N[m].e.h = nh at *
    clear hlt HLt
    go_wp2_with fail
    refine C3.out.mono ?_
    rintro e w5 ⟨g, rfl, hgb, hgn, hb5⟩
    have HB5 : Hid (Below w.heap.size w w5) := HB4.out.trans (hb5.mono HB4.out.size)
    have HG5 : Hid (Blk w5 g (chC oe true c (.slice none 0 0) (.slice none 0 0)) 93 ∧ w4.heap.size ≤ g ∧ w.heap.size ≤ g) := ⟨hgb, hgn, Nat.le_trans HB4.out.size hgn⟩
    have g2 := Blk.cell (i := 2) hgb rfl
    have f2 := hgb.frozen 2
    have hwr := HW.out
    have HB45 : Hid (Below w4.heap.size w4 w5) := hb5
    clear hgb hgn hb5 C3 x0 x1 y0
    go_upto_region 6 with fail
    have hg6 := HG5.out.1.set 2 (.int .i64 (c - 1))
    have HG6 : Hid (Blk (w5.setCell ⟨g, 2, none⟩ (.int .i64 (c - 1))) g (chC oe true (c - 1) (.slice none 0 0) (.slice none 0 0)) 93) := hg6
    have HB6 : Hid (Below w.heap.size w (w5.setCell ⟨g, 2, none⟩ (.int .i64 (c - 1)))) := below_set HB5.out HG5.out.2.2 2 _
    have HB46 : Hid (Below w4.heap.size w4 (w5.setCell ⟨g, 2, none⟩ (.int .i64 (c - 1)))) := below_set HB45.out HG5.out.2.1 2 _
    clear hg6 g2 f2 hwr
    generalize (w5.setCell ⟨g, 2, none⟩ (.int .i64 (c - 1))) = w6 at *
    have C6 : Hid (Calls _ _ _ _ _) := C5.out w6 HB46.out
    have HP6 : Hid (Blk w6 pb A 177) := HD4.out.p.on HB46.out
    have HF6 : Hid (SkF w6 hb hl N (ldF N)) := HD4.out.n.on HB46.out
    go_wp2_with (refine wpList_load_row rfl 177 _ rfl pb rfl 177 A (0, 0) _ HP6.out Try.underlying177 rfl HSz.out ?_)
    refine C6.out.mono ?_
    rintro e w7 ⟨ls, S, rfl, hq, hS⟩
    have hg7 := HG6.out.on hq.bel
    have g3 := Blk.cell (i := 3) hg7 rfl
    have f3 := hg7.frozen 3
    have hbw := HB6.out.size
    have HKz : Hid (DelR w (w7.setCell ⟨g, 3, none⟩ ls) hl m N k c g) := by
      refine HFin.out _ _ _ S (hg7.set 3 ls) ?_ (fun j hj => (hq.sw j hj).set hg7 (by decide) (.inl fun p hp e => ?_)) hS HG5.out.2.2 (below_set (HB6.out.trans (hq.bel.mono HB6.out.size)) HG5.out.2.2 3 _)
      · exact (owns_base hq.ow hbw).kept (grownBy_set w7 g 3 _) (owns_ne (owns_base hq.ow hbw) hg7 (by decide))
      · obtain ⟨ds, g5, _⟩ := (HF6.out.on hq.bel).lb (by have := HT.out; omega) hp
        exact g5.ne hg7 (by decide) e
    obtain ⟨pv, cv, rfl, -⟩ := owns_len hq.ow
    clear hq hS hg7 hbw
    go_wp2_with fail
    go_ret
    exact ⟨_, rfl, HKz.out⟩

end Go.Proofs.Ytojfohpnfciajaa
