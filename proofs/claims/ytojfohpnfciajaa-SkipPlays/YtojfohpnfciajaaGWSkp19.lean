/- Layer 12: swings are done, one behind the other. Layer 12: a step is done. -/
import Derived.Test.YtojfohpnfciajaaGWSkp17
namespace Go.Proofs.Ytojfohpnfciajaa
open Go.RowKit
set_option maxRecDepth 100000

theorem doLk (b l f t : Nat) (w : World) (h : w.cell? ⟨b, l, none⟩ = some (ptr1 f)) (hz : w.frozen? ⟨b, l, none⟩ = false) (hf : PtT 132 1 w (some ⟨f, 0, none⟩)) (ht : PtT 132 1 w (some ⟨t, 0, none⟩)) :
    Calls Try.prog 58 #[.agg #[.pointer (some ⟨b, l, none⟩), ptr1 f, ptr1 t]] w fun e w' => e = .returned (.tuple #[]) ∧ w' = (w.alloc (.cells #[.pointer (some ⟨b, l, none⟩), ptr1 f, ptr1 t] 144)).setCell ⟨b, l, none⟩ (ptr1 t) := by
  obtain ⟨aX, aB, aS⟩ := blk_new w #[.pointer (some ⟨b, l, none⟩), ptr1 f, ptr1 t] 144
  have x0 := Blk.cell (i := 0) aX rfl
  have x1 := Blk.cell (i := 1) aX rfl
  have x2 := Blk.cell (i := 2) aX rfl
  have hlt := World.block_lt_of_cell? w _ h
  have C1 : Hid (Calls _ _ _ _ _) := casLk b l (some ⟨f, 0, none⟩) (some ⟨t, 0, none⟩) _ (cell_on h aB) (by
    have h9 : (w.alloc (.cells #[.pointer (some ⟨b, l, none⟩), ptr1 f, ptr1 t] 144)).heap[b]? = w.heap[b]? := aB.block b hlt
    unfold World.frozen? at hz ⊢
    rw [h9]
    exact hz) (hf.on aB) (ht.on aB)
  clear h hz hf ht aX aB aS hlt
  go_enter Try.func58, Try.ntmps58
  go_wp2_with fail
  refine C1.out.mono ?_
  rintro e w2 ⟨rfl, hw2⟩
  have HW : Hid (w2 = _) := hw2
  clear hw2
  go_wp2_with fail
  refine bodyPost_end (results_none rfl _ _ _) rfl ?_
  exact ⟨rfl, HW.out⟩
theorem doIv (b l f t : Nat) (w : World) (h : w.cell? ⟨b, l, none⟩ = some (ptr1 f)) (hz : w.frozen? ⟨b, l, none⟩ = false) (hf : PtT 2 1 w (some ⟨f, 0, none⟩)) (ht : PtT 2 1 w (some ⟨t, 0, none⟩)) :
    Calls Try.prog 59 #[.agg #[.pointer (some ⟨b, l, none⟩), ptr1 f, ptr1 t]] w fun e w' => e = .returned (.tuple #[]) ∧ w' = (w.alloc (.cells #[.pointer (some ⟨b, l, none⟩), ptr1 f, ptr1 t] 147)).setCell ⟨b, l, none⟩ (ptr1 t) := by
  obtain ⟨aX, aB, aS⟩ := blk_new w #[.pointer (some ⟨b, l, none⟩), ptr1 f, ptr1 t] 147
  have x0 := Blk.cell (i := 0) aX rfl
  have x1 := Blk.cell (i := 1) aX rfl
  have x2 := Blk.cell (i := 2) aX rfl
  have hlt := World.block_lt_of_cell? w _ h
  have C1 : Hid (Calls _ _ _ _ _) := casIv b l (some ⟨f, 0, none⟩) (some ⟨t, 0, none⟩) _ (cell_on h aB) (by
    have h9 : (w.alloc (.cells #[.pointer (some ⟨b, l, none⟩), ptr1 f, ptr1 t] 147)).heap[b]? = w.heap[b]? := aB.block b hlt
    unfold World.frozen? at hz ⊢
    rw [h9]
    exact hz) (hf.on aB) (ht.on aB)
  clear h hz hf ht aX aB aS hlt
  go_enter Try.func59, Try.ntmps59
  go_wp2_with fail
  refine C1.out.mono ?_
  rintro e w2 ⟨rfl, hw2⟩
  have HW : Hid (w2 = _) := hw2
  clear hw2
  go_wp2_with fail
  refine bodyPost_end (results_none rfl _ _ _) rfl ?_
  exact ⟨rfl, HW.out⟩
/-- SWINGS ARE DONE up to a level. -/
structure FinS (w wq : World) (hb sb hl cb : Nat) (N : List Nd) (m : Nat) (g : Nat → Option Nat) (st ch : Array Value) (B : Nat) (ls : Value) (S : List Sw) (j : Nat) : Prop where
  st : Blk wq sb st 82
  ch : Blk wq cb ch 93
  ow : OwnS wq B ls S
  sk : ∃ f, SkF wq hb hl N f ∧ (∀ p l, OnL l N p → l < j → LastL l m (ensN N) p → f p l = g l) ∧ (∀ p l, OnL l N p → ¬ (l < j ∧ LastL l m (ensN N) p) → f p l = ldF N p l)
  sw : ∀ i, j ≤ i → ∀ (hi : i < S.length), SwAt wq hl N m g i S[i]
  fr : Frm w wq (fun k => k ∈ hl :: N.map Nd.lb)
theorem FinS.keep {w wq w' : World} {hb sb hl cb : Nat} {N : List Nd} {m : Nat} {g : Nat → Option Nat} {st ch : Array Value} {B : Nat} {ls : Value} {S : List Sw} {j : Nat} (q : FinS w wq hb sb hl cb N m g st ch B ls S j) (hb' : Below wq.heap.size wq w') : FinS w w' hb sb hl cb N m g st ch B ls S j := by
  obtain ⟨f, h1, h2, h3⟩ := q.sk
  exact ⟨q.st.on hb', q.ch.on hb', owns_kept q.ow hb', ⟨f, h1.on hb', h2, h3⟩, fun i h4 h5 => (q.sw i h4 h5).on hb', q.fr.trans (Frm.of_below (F := none1) hb') (fun k hk => hk.elim)⟩
theorem FinS.step {w wq : World} {hb sb hl cb : Nat} {N : List Nd} {m : Nat} {g : Nat → Option Nat} {st ch : Array Value} {B : Nat} {ls : Value} {S : List Sw} {j : Nat} (q : FinS w wq hb sb hl cb N m g st ch B ls S j) (hm : m ≤ N.length) {p _f t : Nat} (hj : j < 16) (hL : LastL j m (ensN N) p) (hO : OnL j N p) (ht : Blk wq t #[ptrO (g j)] 132) :
    FinS w (wq.setCell ⟨lbOf hl N p, j, none⟩ (ptr1 t)) hb sb hl cb N m g st ch B ls S (j + 1) := by
  obtain ⟨f, h1, h2, h3⟩ := q.sk
  obtain ⟨ds, g5, g6⟩ := h1.lb hj hO
  refine ⟨q.st.other (q.st.ne g5 (by decide)) j _, q.ch.other (q.ch.ne g5 (by decide)) j _, q.ow.kept (grownBy_set wq _ j _) (owns_ne q.ow g5 (by decide)), ⟨_, h1.link hj hO ht, fun p' l ho hl' hLL => ?_, fun p' l ho hn => ?_⟩, fun i h4 h5 => (q.sw i (by omega) h5).set g5 (by decide) (.inr (by omega)), q.fr.trans (frm_set wq _ j _ (F := fun k => k ∈ hl :: N.map Nd.lb) (.inl (lbOf_mem hO.le))) (fun k hk => .inl hk)⟩
  · by_cases e : p' = p ∧ l = j
    · rw [if_pos e, e.2]
    · rw [if_neg e]
      have e2 : l ≠ j := fun e2 => e ⟨by subst e2; exact hLL.one (by simpa [ensN] using hm) hL, e2⟩
      exact h2 p' l ho (by omega) hLL
  · have e : ¬ (p' = p ∧ l = j) := fun e => hn ⟨by omega, by rw [e.1, e.2]; exact hL⟩
    rw [if_neg e]
    exact h3 p' l ho (fun e2 => hn ⟨by omega, e2.2⟩)
/-- a swing's cells -/
theorem own_cells {w : World} {B : Nat} {gg cap : Nat} {S : List Sw} (h : OwnS w B (.slice (some ⟨gg, 0, none⟩) S.length cap) S) {j : Nat} (hj : j < S.length) :
    w.cell? ⟨gg, j * 3, none⟩ = some (.pointer (some ⟨S[j].1, S[j].2.1, none⟩)) ∧ w.cell? ⟨gg, j * 3 + 1, none⟩ = some (ptr1 S[j].2.2.1) ∧ w.cell? ⟨gg, j * 3 + 2, none⟩ = some (ptr1 S[j].2.2.2) := by
  have kk : ∀ t, t < 3 → w.cell? ⟨gg, j * 3 + t, none⟩ = (swC S[j])[t]? := by
    intro t ht
    have h0 : w.ownsRow B 144 3 (.slice (some ⟨gg, 0, none⟩) S.length cap) S.length (S.flatMap swC) := h
    have h1 := World.ownsRow.cellAt h0 (j * 3 + t) (by omega)
    rw [h1, flat_at 3 swC (fun _ => rfl) S j hj t ht]
  exact ⟨kk 0 (by decide), kk 1 (by decide), kk 2 (by decide)⟩

end Go.Proofs.Ytojfohpnfciajaa

namespace Go.Proofs.Ytojfohpnfciajaa
open Go.RowKit
set_option maxRecDepth 100000

theorem AddS.bel {w0 w w' : World} {hl : Nat} {N : List Nd} {m xn xl h g : Nat} {c : Int} {A : Array Value} {ls : Value} {S : List Sw} {i : Nat} (q : AddS w w' hl N m xn xl h g c A ls S i) (hb : Below w0.heap.size w0 w) (hx : w0.heap.size ≤ xl) : Below w0.heap.size w0 w' := hb.trans (q.fr.below hb.size (fun k hk => by have e : k = xl := hk; omega))
theorem PutR.bel {w w' : World} {hl m h : Nat} {N : List Nd} {k : ByteArray} {c v : Int} {g : Nat} (r : PutR w w' hl m h N k c v g) : Below w.heap.size w w' := by
  rcases r with ⟨w8, xn, xv, xl, ls, S, A, _, hN, hb, hq, _⟩ | ⟨hm, vb', rb, _, _, _, _, _, hb⟩
  · exact hq.bel hb hN.nl
  · exact hb
theorem PutR.ptt {w w' : World} {hl m h : Nat} {N : List Nd} {k : ByteArray} {c v : Int} {g : Nat} (r : PutR w w' hl m h N k c v g) : PtT 93 5 w' (some ⟨g, 0, none⟩) := by
  rcases r with ⟨w8, xn, xv, xl, ls, S, A, _, hN, hb, hq, _⟩ | ⟨hm, vb', rb, _, hg, _⟩
  · exact PtT.blk hq.gb rfl
  · exact PtT.blk hg rfl
theorem DelR.bel {w w' : World} {hl m : Nat} {N : List Nd} {k : ByteArray} {c : Int} {g : Nat} (r : DelR w w' hl m N k c g) : Below w.heap.size w w' := by
  rcases r with ⟨_, _, _, hb⟩ | ⟨_, _, _, _, _, _, _, _, _, hb⟩
  · exact hb
  · exact hb
theorem DelR.ptt {w w' : World} {hl m : Nat} {N : List Nd} {k : ByteArray} {c : Int} {g : Nat} (r : DelR w w' hl m N k c g) : PtT 93 5 w' (some ⟨g, 0, none⟩) := by
  rcases r with ⟨_, hg, _⟩ | ⟨_, _, _, _, hg, _⟩
  · exact PtT.blk hg rfl
  · exact PtT.blk hg rfl
/-- a value is moved -/
structure ValS (w wq : World) (hb sb hl cb : Nat) (N : List Nd) (m : Nat) (hm : m < N.length) (v : Int) (vb' : Nat) (st ch : Array Value) : Prop where
  st : Blk wq sb st 82
  ch : Blk wq cb ch 93
  sk : SkF wq hb hl (N.set m (valN N[m] v vb')) (ldF N)
  fr : Frm w wq (fun k => k ∈ N.map Nd.nb)
/-- the blocks that a step's doing writes -/
abbrev finF (sb hl : Nat) (N : List Nd) : Nat → Prop := fun k => k = sb ∨ k ∈ hl :: N.map Nd.lb ∨ k ∈ N.map Nd.nb
/-- A PUT IS DONE. -/
def PutF (w w' : World) (hb sb hl m h a : Nat) (wk : Value) (N : List Nd) (k : ByteArray) (c v : Int) (g : Nat) : Prop :=
  ∃ N' was there n ls vs, Blk w' g (chC was there n ls vs) 93 ∧ Blk w' sb #[.int .u64 (a : Nat), .int .i64 c, wk, ptr1 g, .int .u32 1] 82 ∧ SkF w' hb hl N' (ldF N') ∧ Frm w w' (finF sb hl N) ∧
    ((getN N m k = none ∧ was = 0 ∧ there = false ∧ n = c + 1 ∧ ∃ xn xv xl, N' = insN N m ⟨⟨k, v, h⟩, xn, xv, xl⟩ ∧ w.heap.size ≤ xn ∧ w.heap.size ≤ xl) ∨
     (∃ hm : m < N.length, N[m].e.k = k ∧ was = N[m].e.v ∧ there = true ∧ n = c ∧ ∃ vb', N' = N.set m (valN N[m] v vb')))

set_option maxHeartbeats 4000000 in
theorem finish_put (lb hb sb hl m kb vb ib h a : Nat) (N : List Nd) (k : ByteArray) (c v : Int) (w : World) (hv : LstB w lb hb sb) (hs : Blk w sb #[.int .u64 (a : Nat), .int .i64 c, .func (.func 80) #[] #[ptr1 kb, ptr1 vb, ptr1 ib], .pointer none, .int .u32 0] 82) (hc0 : 0 ≤ c) (hc1 : c < 9000000000000000000) (hf : SkF w hb hl N (ldF N)) (hm : m ≤ N.length) (h1 : ∀ i (hi : i < N.length), i < m → ltB N[i].e.k k = true) (h2 : ∀ i (hi : i < N.length), m ≤ i → ltB N[i].e.k k = false)
    (k1 : Blk w kb #[.string k] 9) (k2 : Blk w vb #[.int .i64 v] 2) (k3 : Blk w ib #[.int .i64 (h : Nat)] 3) (hh : 1 ≤ h ∧ h ≤ 16) :
    Calls Try.prog 29 #[ptr1 lb, ptr1 sb] w fun e w' => ∃ g, e = .returned (ptr1 g) ∧ PutF w w' hb sb hl m h a (.func (.func 80) #[] #[ptr1 kb, ptr1 vb, ptr1 ib]) N k c v g := by
  have C1 : Hid (Calls _ _ _ _ _) := loadCh sb 3 none w (Blk.cell (i := 3) hs rfl) (PtT.nil _ _ _)
  have hdr : Below w.heap.size w w.drew := (Below.refl _ _).drew
  have HS : Hid (Blk w.drew sb #[.int .u64 (a : Nat), .int .i64 c, .func (.func 80) #[] #[ptr1 kb, ptr1 vb, ptr1 ib], .pointer none, .int .u32 0] 82) := hs.on hdr
  have HF : Hid (SkF w.drew hb hl N (ldF N)) := hf.on hdr
  have C2 : Hid (Calls Try.prog 80 #[.agg #[ptr1 lb, ptr1 sb], ptr1 kb, ptr1 vb, ptr1 ib] w.drew fun e w' => ∃ g, e = .returned (ptr1 g) ∧ PutR w.drew w' hl m h N k c v g) := putting_any lb hb sb hl m kb vb ib h N k c v w.drew ⟨Blk.on hv hdr, PtT.blk (hs.on hdr) rfl⟩ (Blk.cell (i := 1) hs rfl) hc0 hc1 (hf.on hdr) hm h1 h2 (k1.on hdr) (k2.on hdr) (k3.on hdr) hh
  have HM : Hid (m ≤ N.length) := hm
  have HH : Hid (1 ≤ h ∧ h ≤ 16) := hh
  have HD : Hid (Frm w w.drew none1 ∧ w.drew.heap.size = w.heap.size) := ⟨Frm.of_below hdr, rfl⟩
  clear hv hs hf h1 h2 k1 k2 k3 hh hm hdr hc0 hc1
  have c0 : w.cell? ⟨sb, 3, none⟩ = some (.pointer none) := Blk.cell (i := 3) HS.out rfl
  clear c0
  go_enter Try.func29, Try.ntmps29
  go_wp2_with fail
  refine C1.out.mono ?_
  rintro e w9 ⟨rfl, hw9⟩
  rw [hw9]
  clear hw9 C1
  go_upto_region 3 with fail
  refine wp_region_any (by kernel_rfl) ?_
  change wpAny _ _ _ _ _ _ _ (World.drew _)
  generalize w.drew = wd at *
  refine tk (v := ?_) 0 rfl ?_ ?_
  rotate_left
  focus
    intro w9
    go_simp
    try with_reducible rfl
  try simp only [aP]
  refine tk (v := ?_) 1 rfl ?_ ?_
  rotate_left
  focus
    intro w9
    go_simp
    try with_reducible rfl
  try simp only [aP]
  refine tk (v := ?_) 2 rfl ?_ ?_
  rotate_left
  focus
    intro w9
    go_simp
    try with_reducible rfl
  try simp only [aP]
  refine tk (v := ?_) 3 rfl ?_ ?_
  rotate_left
  focus
    intro w9
    go_simp
    try with_reducible rfl
  try simp only [aP]
  refine tk (v := ?_) 4 rfl ?_ ?_
  rotate_left
  focus
    intro w9
    go_simp
    try with_reducible rfl
  try simp only [aP]
  refine tk (v := ?_) 5 rfl ?_ ?_
  rotate_left
  focus
    intro w9
    go_simp
    try with_reducible rfl
  try simp only [aP]
  refine tk (v := ?_) 7 rfl ?_ ?_
  rotate_left
  focus
    intro w9
    go_simp
    try with_reducible rfl
  try simp only [aP]
  refine tk (v := ?_) 8 rfl ?_ ?_
  rotate_left
  focus
    intro w9
    go_simp
    try with_reducible rfl
  try simp only [aP]
  refine tk (v := ?_) 9 rfl ?_ ?_
  rotate_left
  focus
    intro w9
    go_simp
    try with_reducible rfl
  try simp only [aP]
  have s2 := Blk.cell (i := 2) HS.out rfl
  refine wpAny_ready (rs := [6]) (by kernel_rfl) (by simp) ?_
  refine anyN_cons 6 rfl (by rfl) (fun K hK => ?_) AllReady.nil
  go_simp
  refine hK.out _ _ ?_
  clear hK K
  try simp only [aP]
  clear s2
  refine wpAny_ready (rs := [10]) (by kernel_rfl) (by simp) ?_
  refine anyN_cons 10 rfl (by rfl) (fun K hK => ?_) AllReady.nil
  go_simp
  refine C2.out.mono ?_
  rintro e w1 ⟨g, rfl, hR⟩
  dsimp only
  have HR : Hid (PutR wd w1 hl m h N k c v g) := hR
  clear hR
  refine hK.out _ _ ?_
  clear hK K
  try simp only [aP]
  refine wpAny_ready (rs := [11]) (by kernel_rfl) (by simp) ?_
  refine anyN_cons 11 rfl (by rfl) (fun K hK => ?_) AllReady.nil
  go_simp
  refine (casCh sb 3 none (some ⟨g, 0, none⟩) w1 (Blk.cell (i := 3) (HS.out.on HR.out.bel) rfl) ((HS.out.on HR.out.bel).frozen 3) (PtT.nil _ _ _) HR.out.ptt).mono ?_
  rintro e w2 ⟨rfl, hw2⟩
  dsimp only
  have HW2 : Hid (w2 = w1.setCell ⟨sb, 3, none⟩ (ptr1 g)) := hw2
  clear hw2
  refine hK.out _ _ ?_
  clear hK K
  try simp only [aP]
  refine wpAny_done (by kernel_rfl) ?_ _
  rcases HR.out with ⟨w8, xn, xv, xl, ls, S, A, hg8, hN8, hb8, hq8, hS8⟩ | ⟨hm8, vb', rb, hk8, hg8, hr8, hv8, hn8, hb8⟩
  · have hnx := hN8.nn
    have hb1 := hq8.bel hb8 hN8.nl
    have hoff : OffS w1 (one1 sb) := OffS.one (HS.out.on hb1) (by decide)
    have hst1 := HS.out.on hb1
    obtain ⟨gg, cap, rfl, -, -⟩ := owns_form hq8.ow (by have := HH.out.1; omega)
    obtain ⟨cs, xc1, xc2, xc3, -⟩ := hq8.xc
    have hx8 := hN8.n.frm hq8.fr (fun e => hN8.n.ne hN8.l (by decide) e)
    have hv8 := hN8.v.frm hq8.fr (fun e => hN8.v.ne hN8.l (by decide) e)
    have HX2 : Hid (Blk w2 xn #[.string k, ptr1 xv, .slice (some ⟨xl, 0, none⟩) h h] 125 ∧ (∃ cs, Blk w2 xl cs 129 ∧ cs.size = h) ∧ Blk w2 xv #[.int .i64 v] 2 ∧ (∀ l, l < h → Lnk w2 xl l (tgt l (N.drop m))) ∧ wd.heap.size ≤ xn ∧ wd.heap.size ≤ xl ∧ getN N m k = none) := by
      show Blk _ _ _ _ ∧ _
      rw [HW2.out]
      refine ⟨hx8.other (hx8.ne hst1 (by decide)) 3 _, ⟨cs, xc1.other (xc1.ne hst1 (by decide)) 3 _, xc2⟩, hv8.other (hv8.ne hst1 (by decide)) 3 _, fun l hl' => ?_, hN8.nn, hN8.nl, hg8⟩
      obtain ⟨kb9, h5, h6⟩ := xc3 l hl'
      exact ⟨kb9, (xc1.other (xc1.ne hst1 (by decide)) 3 _).cell h5, h6.other (h6.ne hst1 (by decide)) 3 _⟩
    have HF2 : Hid (SkF w2 hb hl N (ldF N) ∧ Frm wd w2 (one1 sb)) := by
      show SkF _ _ _ _ _ ∧ _
      rw [HW2.out]
      exact ⟨(HF.out.on hb1).frm (frm_set _ _ _ _ (F := one1 sb) (.inl rfl)) hoff, (Frm.of_below (F := one1 sb) hb1).trans (frm_set _ _ _ _ (F := one1 sb) (.inl rfl)) (fun k hk => .inl hk)⟩
    have HS2 : Hid (Blk w2 sb #[.int .u64 (a : Nat), .int .i64 c, .func (.func 80) #[] #[ptr1 kb, ptr1 vb, ptr1 ib], ptr1 g, .int .u32 0] 82) := by
      show Blk _ _ _ _
      rw [HW2.out]
      exact hst1.set 3 _
    have HC2 : Hid (Blk w2 g (chC 0 false (c + 1) (.slice (some ⟨gg, 0, none⟩) S.length cap) (.slice none 0 0)) 93) := by
      show Blk _ _ _ _
      rw [HW2.out]
      exact hq8.gb.other (hq8.gb.ne hst1 (by decide)) 3 _
    have HSn : Hid (S.length = h ∧ S.length ≤ 16) := ⟨hS8, by have := HH.out.2; omega⟩
    have HQ0 : Hid (FinS w2 w2 hb sb hl g N m (fun _ => some xn) #[.int .u64 (a : Nat), .int .i64 c, .func (.func 80) #[] #[ptr1 kb, ptr1 vb, ptr1 ib], ptr1 g, .int .u32 0] (chC 0 false (c + 1) (.slice (some ⟨gg, 0, none⟩) S.length cap) (.slice none 0 0)) w8.heap.size (.slice (some ⟨gg, 0, none⟩) S.length cap) S 0) := by
      refine ⟨HS2.out, HC2.out, ?_, ⟨_, HF2.out.1, fun p l _ h9 => absurd h9 (by omega), fun p l _ _ => rfl⟩, fun i _ hi => ?_, Frm.refl _ _⟩
      · show World.ownsRow _ _ _ _ _ _ _
        rw [HW2.out]
        exact World.ownsRow.kept hq8.ow (grownBy_set w1 sb 3 _) (owns_ne hq8.ow hst1 (by decide))
      · rw [HW2.out]
        refine (hq8.sw i hi).set hst1 (by decide) (.inl fun p hp e => ?_)
        obtain ⟨ds, g5, _⟩ := (HF.out.on hb1).lb (by have := HSn.out.2; omega) hp
        exact g5.ne hst1 (by decide) e
    have HFl : Hid (∀ x ∈ hl :: N.map Nd.lb, x < wd.heap.size) := HF.out.lts.1
    have HFn : Hid (∀ x ∈ hb :: N.map Nd.nb, x < wd.heap.size) := HF.out.lts.2
    clear hnx hb1 hoff hst1 xc1 xc2 xc3 hx8 hv8 hN8 hb8 hq8 hg8 HS HF HW2
    obtain ⟨n, hn⟩ : ∃ n, S.length = n := ⟨_, rfl⟩
    rw [hS8] at hn
    subst hn
    have HSl : Hid (S.length = h) := hS8
    rw [hS8] at HC2
    clear hS8
    have C4 : Hid (Calls _ _ _ _ _) := loadCh sb 3 (some ⟨g, 0, none⟩) w2 (Blk.cell (i := 3) HS2.out rfl) (PtT.blk HC2.out rfl)
    have C5 : Hid (Calls _ _ _ _ _) := loadBo sb 4 0 w2 (Blk.cell (i := 4) HS2.out rfl)
    have c3 := Blk.cell (i := 3) HC2.out rfl
    go_wp2_with fail
    refine C4.out.mono ?_
    rintro e w9 ⟨rfl, hw9⟩
    rw [hw9]
    clear hw9 C4
    go_wp2_with fail
    refine C5.out.mono ?_
    rintro e w9 ⟨rfl, hw9⟩
    rw [hw9, show ((0 : Int) != 0) = false from rfl]
    clear hw9 C5
    go_wp2_with fail
    clear c3
    go_loopw [42] (fun sx wq => ∃ j : Nat, j ≤ h ∧ sx = .int .i64 (j : Int) ∧ Hid (FinS w2 wq hb sb hl g N m (fun _ => some xn) #[.int .u64 (a : Nat), .int .i64 c, .func (.func 80) #[] #[ptr1 kb, ptr1 vb, ptr1 ib], ptr1 g, .int .u32 0] (chC 0 false (c + 1) (.slice (some ⟨gg, 0, none⟩) S.length cap) (.slice none 0 0)) w8.heap.size (.slice (some ⟨gg, 0, none⟩) S.length cap) S j)) (fun sx _ => ((h : Int) - intOf sx).toNat)
    case atStart => exact ⟨0, Nat.zero_le _, rfl, HQ0⟩
    case round =>
      obtain ⟨j, hj, rfl, HQ⟩ := hrel
      clear HQ0
      rcases Nat.lt_or_ge j h with h1 | h1
      · have hjS : j < S.length := by have := HSn.out.1; omega
        have hj16 : j < 16 := by have := HSn.out.1; have := HSn.out.2; omega
        obtain ⟨q0, q1, q2⟩ := own_cells HQ.out.ow hjS
        obtain ⟨p, f, t, e, hL, hO, hcl, ⟨x9, hfb⟩, htb⟩ := HQ.out.sw j (Nat.le_refl _) hjS
        rw [e] at q0 q1 q2
        have HP : Hid (LastL j m (ensN N) p ∧ OnL j N p ∧ Blk wr t #[ptrO ((fun _ => some xn) j)] 132 ∧ j < 16) := ⟨hL, hO, htb, hj16⟩
        have hlb : ∃ ds, Blk wr (lbOf hl N p) ds 129 := by
          obtain ⟨f9, s9, _⟩ := HQ.out.sk
          obtain ⟨ds, d1, _⟩ := s9.lb hj16 hO
          exact ⟨ds, d1⟩
        obtain ⟨ds, d1⟩ := hlb
        obtain ⟨aX, aB, aS⟩ := blk_new wr #[.pointer (some ⟨lbOf hl N p, j, none⟩), ptr1 f, ptr1 t] 144
        have C6 : Hid (Calls _ _ _ _ _) := doLk (lbOf hl N p) j f t _ (cell_on hcl aB) ((d1.on aB).frozen j) (PtT.blk (hfb.on aB) rfl) (PtT.blk (htb.on aB) rfl)
        have HQa : Hid (FinS w2 (wr.alloc (.cells #[.pointer (some ⟨lbOf hl N p, j, none⟩), ptr1 f, ptr1 t] 144)) hb sb hl g N m (fun _ => some xn) #[.int .u64 (a : Nat), .int .i64 c, .func (.func 80) #[] #[ptr1 kb, ptr1 vb, ptr1 ib], ptr1 g, .int .u32 0] (chC 0 false (c + 1) (.slice (some ⟨gg, 0, none⟩) S.length cap) (.slice none 0 0)) w8.heap.size (.slice (some ⟨gg, 0, none⟩) S.length cap) S j) := HQ.out.keep aB
        have HTb : Hid (Blk (wr.alloc (.cells #[.pointer (some ⟨lbOf hl N p, j, none⟩), ptr1 f, ptr1 t] 144)) t #[ptrO ((fun _ => some xn) j)] 132) := htb.on aB
        have z1 : (j : Int) < h := by omega
        have z4 : (j : Int) < 16 := by omega
        dsimp only at q0 q1 q2
        clear hL hO hcl hfb htb d1 aX aB aS e hjS hj16 HQ
        have HLb : Hid (∃ lp, lbOf hl N p = lp) := ⟨_, rfl⟩
        go_wp2_with fail
        refine C6.out.mono ?_
        rintro e w7 ⟨rfl, hw7⟩
        obtain ⟨bX, bB, bS⟩ := blk_new (wr.alloc (.cells #[.pointer (some ⟨lbOf hl N p, j, none⟩), ptr1 f, ptr1 t] 144)) #[.pointer (some ⟨lbOf hl N p, j, none⟩), ptr1 f, ptr1 t] 144
        have HQn : Hid (FinS w2 w7 hb sb hl g N m (fun _ => some xn) #[.int .u64 (a : Nat), .int .i64 c, .func (.func 80) #[] #[ptr1 kb, ptr1 vb, ptr1 ib], ptr1 g, .int .u32 0] (chC 0 false (c + 1) (.slice (some ⟨gg, 0, none⟩) S.length cap) (.slice none 0 0)) w8.heap.size (.slice (some ⟨gg, 0, none⟩) S.length cap) S (j + 1)) := by
          show FinS _ _ _ _ _ _ _ _ _ _ _ _ _ _ _
          rw [hw7]
          exact (HQa.out.keep bB).step HM.out (_f := f) HP.out.2.2.2 HP.out.1 HP.out.2.1 (HTb.out.on bB)
        clear hw7 bX bB bS HQa HTb C6 q0 q1 q2
        go_wp2_with fail
        go_roundw
        case rel => exact ⟨j + 1, by omega, by go_num, HQn⟩
        case measure => simp [intOf]; omega
      · obtain rfl : h = j := by omega
        have z1 : ¬ (h : Int) < h := by omega
        obtain ⟨wz, hwz⟩ : ∃ wz, wz = wr := ⟨_, rfl⟩
        subst hwz
        have c4 := Blk.cell (i := 4) HQ.out.ch rfl
        go_wp2_with fail
        clear c4
        go_loopw [54] (fun sx wq => sx = .int .i64 0 ∧ wq = wz) (fun _ _ => 0)
        case atStart => exact ⟨rfl, rfl⟩
        case round =>
          obtain ⟨rfl, hwr⟩ := hrel
          rw [hwr]
          clear hwr
          go_wp2_with fail
          refine (storeBo sb 4 0 wz (Blk.cell (i := 4) HQ.out.st rfl) (HQ.out.st.frozen 4)).mono ?_
          rintro e w8 ⟨rfl, hw8⟩
          have hdr : Below wz.heap.size wz wz.drew := (Below.refl _ _).drew
          have HK : Hid (PutF w w8 hb sb hl m h a (.func (.func 80) #[] #[ptr1 kb, ptr1 vb, ptr1 ib]) N k c v g) := by
            show PutF _ _ _ _ _ _ _ _ _ _ _ _ _ _
            obtain ⟨f, s1, s2, s3⟩ := HQ.out.sk
            have hst := HQ.out.st.on hdr
            have hsf : SkF w8 hb hl N f := by
              rw [hw8]
              exact (s1.on hdr).frm (frm_set _ _ _ _ (F := one1 sb) (.inl rfl)) (OffS.one hst (by decide))
            have hfr : Frm w2 wz.drew (fun k => k ∈ hl :: N.map Nd.lb) := HQ.out.fr.drew
            obtain ⟨x1, ⟨cs, x2, x3⟩, x4, x5, x6, x7, x8⟩ := HX2.out
            have nl : ∀ y, wd.heap.size ≤ y → ¬ (y ∈ hl :: N.map Nd.lb) := fun y hy hm9 => by have := HFl.out y hm9; omega
            have tl : ∀ {b ds T}, Blk w2 b ds T → T ≠ 129 → ¬ (b ∈ hl :: N.map Nd.lb) := by
              intro b ds T hb9 hT hm9
              have : ∃ es, Blk w2 b es 129 := by
                rcases List.mem_cons.1 hm9 with rfl | hm9
                · obtain ⟨es, e1, _⟩ := HF2.out.1.hlk
                  exact ⟨es, e1⟩
                · obtain ⟨y, hy, rfl⟩ := List.mem_map.1 hm9
                  obtain ⟨es, e1, _⟩ := HF2.out.1.lks y hy
                  exact ⟨es, e1⟩
              obtain ⟨es, e1⟩ := this
              exact hb9.ne e1 hT rfl
            have y1 := x1.frm hfr (nl _ x6)
            have y2 := x2.frm hfr (nl _ x7)
            have y4 := x4.frm hfr (tl x4 (by decide))
            refine ⟨insN N m ⟨⟨k, v, h⟩, xn, xv, xl⟩, 0, false, c + 1, .slice (some ⟨gg, 0, none⟩) S.length cap, .slice none 0 0, ?_, ?_, ?_, ?_, .inl ⟨x8, rfl, rfl, rfl, xn, xv, xl, rfl, ?_, ?_⟩⟩
            · rw [hw8]
              exact (HQ.out.ch.on hdr).other ((HQ.out.ch.on hdr).ne hst (by decide)) 4 _
            · rw [hw8]
              exact hst.set 4 _
            · refine hsf.ins HM.out (fun p l ho h8 hL => s2 p l ho h8 hL) (fun p l ho hn => s3 p l ho hn) ?_ ?_ ?_ ⟨HH.out.1, HH.out.2⟩ ?_ ?_ (fun l hl' => ?_)
              · rw [hw8]
                exact y1.other (y1.ne hst (by decide)) 4 _
              · rw [hw8]
                exact ⟨cs, y2.other (y2.ne hst (by decide)) 4 _, x3⟩
              · rw [hw8]
                exact y4.other (y4.ne hst (by decide)) 4 _
              · exact fun hm9 => by have := HFn.out _ hm9; have : wd.heap.size ≤ xn := x6; simp only at *; omega
              · exact nl _ x7
              · obtain ⟨kb9, e1, e2⟩ := x5 l hl'
                have e3 : cs[l]? = some (ptr1 kb9) := by
                  have h9 : l < cs.size := by have : cs.size = h := x3; have : l < h := hl'; omega
                  have h8 : w2.cell? ⟨xl, l, none⟩ = some cs[l] := x2.cell (Array.getElem?_eq_getElem h9)
                  rw [e1] at h8
                  injection h8 with h8
                  rw [h8]
                  exact Array.getElem?_eq_getElem h9
                have y6 := e2.frm hfr (tl e2 (by decide))
                rw [hw8]
                exact ⟨kb9, (y2.other (y2.ne hst (by decide)) 4 _).cell e3, y6.other (y6.ne hst (by decide)) 4 _⟩
            · have hf1 : Frm w w2 (finF sb hl N) := (HD.out.1.mono (G := finF sb hl N) (fun k hk => hk.elim)).trans HF2.out.2 (fun k hk => .inl (.inl hk))
              have hf2 : Frm w wz.drew (finF sb hl N) := hf1.trans hfr (fun k hk => .inl (.inr (.inl hk)))
              rw [hw8]
              exact hf2.trans (frm_set _ _ _ _ (F := one1 sb) (.inl rfl)) (fun k hk => .inl (.inl hk))
            · rw [← HD.out.2]; exact x6
            · rw [← HD.out.2]; exact x7
          clear hw8 hdr
          go_wp2_with fail
          go_ret
          exact ⟨_, rfl, HK.out⟩
  · have hoff : OffS w1 (one1 sb) := OffS.one (HS.out.on hb8) (by decide)
    have hst1 := HS.out.on hb8
    have HF2 : Hid (SkF w2 hb hl N (ldF N) ∧ Frm wd w2 (one1 sb)) := by
      show SkF _ _ _ _ _ ∧ _
      rw [HW2.out]
      exact ⟨(HF.out.on hb8).frm (frm_set _ _ _ _ (F := one1 sb) (.inl rfl)) hoff, (Frm.of_below (F := one1 sb) hb8).trans (frm_set _ _ _ _ (F := one1 sb) (.inl rfl)) (fun k hk => .inl hk)⟩
    have HS2 : Hid (Blk w2 sb #[.int .u64 (a : Nat), .int .i64 c, .func (.func 80) #[] #[ptr1 kb, ptr1 vb, ptr1 ib], ptr1 g, .int .u32 0] 82) := by
      show Blk _ _ _ _
      rw [HW2.out]
      exact hst1.set 3 _
    have HC2 : Hid (Blk w2 g (chC N[m].e.v true c (.slice none 0 0) (.slice (some ⟨rb, 0, none⟩) 1 1)) 93) := by
      show Blk _ _ _ _
      rw [HW2.out]
      exact hg8.other (hg8.ne hst1 (by decide)) 3 _
    have HR2 : Hid (Blk w2 rb #[.pointer (some ⟨N[m].nb, 1, none⟩), ptr1 N[m].vb, ptr1 vb'] 147 ∧ Blk w2 vb' #[.int .i64 v] 2) := by
      show Blk _ _ _ _ ∧ _
      rw [HW2.out]
      exact ⟨hr8.other (hr8.ne hst1 (by decide)) 3 _, hv8.other (hv8.ne hst1 (by decide)) 3 _⟩
    have HK8 : Hid (N[m].e.k = k) := hk8
    clear hoff hst1 hk8 hg8 hr8 hv8 hn8 hb8 HS HF HW2
    have C4 : Hid (Calls _ _ _ _ _) := loadCh sb 3 (some ⟨g, 0, none⟩) w2 (Blk.cell (i := 3) HS2.out rfl) (PtT.blk HC2.out rfl)
    have C5 : Hid (Calls _ _ _ _ _) := loadBo sb 4 0 w2 (Blk.cell (i := 4) HS2.out rfl)
    have c3 := Blk.cell (i := 3) HC2.out rfl
    go_wp2_with fail
    refine C4.out.mono ?_
    rintro e w9 ⟨rfl, hw9⟩
    rw [hw9]
    clear hw9 C4
    go_wp2_with fail
    refine C5.out.mono ?_
    rintro e w9 ⟨rfl, hw9⟩
    rw [hw9, show ((0 : Int) != 0) = false from rfl]
    clear hw9 C5
    go_wp2_with fail
    clear c3
    go_loopw [42] (fun sx wq => sx = .int .i64 0 ∧ wq = w2) (fun _ _ => 0)
    case atStart => exact ⟨rfl, rfl⟩
    case round =>
      obtain ⟨rfl, hwr⟩ := hrel
      rw [hwr]
      clear hwr
      have c4 := Blk.cell (i := 4) HC2.out rfl
      go_wp2_with fail
      clear c4
      go_loopw [54] (fun sx wq => (sx = .int .i64 0 ∧ wq = w2) ∨ (sx = .int .i64 1 ∧ Hid (ValS w2 wq hb sb hl g N m hm8 v vb' #[.int .u64 (a : Nat), .int .i64 c, .func (.func 80) #[] #[ptr1 kb, ptr1 vb, ptr1 ib], ptr1 g, .int .u32 0] (chC N[m].e.v true c (.slice none 0 0) (.slice (some ⟨rb, 0, none⟩) 1 1))))) (fun sx _ => (1 - intOf sx).toNat)
      case atStart => exact .inl ⟨rfl, rfl⟩
      case round =>
        rcases hrel with ⟨rfl, hwr⟩ | ⟨rfl, HQ⟩
        · rw [hwr]
          clear hwr
          have r0 := Blk.cell (i := 0) HR2.out.1 rfl
          have r1 := Blk.cell (i := 1) HR2.out.1 rfl
          have r2 := Blk.cell (i := 2) HR2.out.1 rfl
          have hnd := HF2.out.1.nd _ (List.getElem_mem hm8)
          have hvl := HF2.out.1.val _ (List.getElem_mem hm8)
          obtain ⟨aX, aB, aS⟩ := blk_new w2 #[.pointer (some ⟨N[m].nb, 1, none⟩), ptr1 N[m].vb, ptr1 vb'] 147
          have C6 : Hid (Calls _ _ _ _ _) := doIv N[m].nb 1 N[m].vb vb' (w2.alloc (.cells #[.pointer (some ⟨N[m].nb, 1, none⟩), ptr1 N[m].vb, ptr1 vb'] 147)) (Blk.cell (i := 1) (hnd.on aB) rfl) ((hnd.on aB).frozen 1) (PtT.blk (hvl.on aB) rfl) (PtT.blk (HR2.out.2.on aB) rfl)
          obtain ⟨bX, bB, bS⟩ := blk_new (w2.alloc (.cells #[.pointer (some ⟨N[m].nb, 1, none⟩), ptr1 N[m].vb, ptr1 vb'] 147)) #[.pointer (some ⟨N[m].nb, 1, none⟩), ptr1 N[m].vb, ptr1 vb'] 147
          have hab := aB.trans (bB.mono aB.size)
          have HVN : Hid (ValS w2 (((w2.alloc (.cells #[.pointer (some ⟨N[m].nb, 1, none⟩), ptr1 N[m].vb, ptr1 vb'] 147)).alloc (.cells #[.pointer (some ⟨N[m].nb, 1, none⟩), ptr1 N[m].vb, ptr1 vb'] 147)).setCell ⟨N[m].nb, 1, none⟩ (ptr1 vb')) hb sb hl g N m hm8 v vb' #[.int .u64 (a : Nat), .int .i64 c, .func (.func 80) #[] #[ptr1 kb, ptr1 vb, ptr1 ib], ptr1 g, .int .u32 0] (chC N[m].e.v true c (.slice none 0 0) (.slice (some ⟨rb, 0, none⟩) 1 1))) := by
            have hn4 := hnd.on hab
            refine ⟨(HS2.out.on hab).other ((HS2.out.on hab).ne hn4 (by decide)) 1 _, (HC2.out.on hab).other ((HC2.out.on hab).ne hn4 (by decide)) 1 _, (HF2.out.1.on hab).value hm8 (HR2.out.2.on hab), (Frm.of_below hab).trans (frm_set _ _ _ _ (F := fun k => k ∈ N.map Nd.nb) (.inl (List.mem_map_of_mem (List.getElem_mem hm8)))) (fun k hk => .inl hk)⟩
          clear hnd hvl aX aB aS bX bB bS hab
          go_wp2_with fail
          refine C6.out.mono ?_
          rintro e w7 ⟨rfl, hw7⟩
          have HVn : Hid (ValS w2 w7 hb sb hl g N m hm8 v vb' #[.int .u64 (a : Nat), .int .i64 c, .func (.func 80) #[] #[ptr1 kb, ptr1 vb, ptr1 ib], ptr1 g, .int .u32 0] (chC N[m].e.v true c (.slice none 0 0) (.slice (some ⟨rb, 0, none⟩) 1 1))) := by
            show ValS _ _ _ _ _ _ _ _ _ _ _ _ _
            rw [hw7]
            exact HVN.out
          clear hw7 HVN r0 r1 r2
          go_wp2_with fail
          go_roundw
          case rel => exact .inr ⟨by go_num, HVn⟩
          case measure => simp [intOf]
        · obtain ⟨wz, hwz⟩ : ∃ wz, wz = wr := ⟨_, rfl⟩
          subst hwz
          go_wp2_with fail
          refine (storeBo sb 4 0 wz (Blk.cell (i := 4) HQ.out.st rfl) (HQ.out.st.frozen 4)).mono ?_
          rintro e w8 ⟨rfl, hw8⟩
          have hdr : Below wz.heap.size wz wz.drew := (Below.refl _ _).drew
          have HK : Hid (PutF w w8 hb sb hl m h a (.func (.func 80) #[] #[ptr1 kb, ptr1 vb, ptr1 ib]) N k c v g) := by
            show PutF _ _ _ _ _ _ _ _ _ _ _ _ _ _
            have hst := HQ.out.st.on hdr
            refine ⟨N.set m (valN N[m] v vb'), N[m].e.v, true, c, .slice none 0 0, .slice (some ⟨rb, 0, none⟩) 1 1, ?_, ?_, ?_, ?_, .inr ⟨hm8, HK8.out, rfl, rfl, rfl, vb', rfl⟩⟩
            · rw [hw8]
              exact (HQ.out.ch.on hdr).other ((HQ.out.ch.on hdr).ne hst (by decide)) 4 _
            · rw [hw8]
              exact hst.set 4 _
            · rw [hw8, set_ldF hm8]
              exact (HQ.out.sk.on hdr).frm (frm_set _ _ _ _ (F := one1 sb) (.inl rfl)) (OffS.one hst (by decide))
            · have hf1 : Frm w w2 (finF sb hl N) := (HD.out.1.mono (G := finF sb hl N) (fun k hk => hk.elim)).trans HF2.out.2 (fun k hk => .inl (.inl hk))
              have hf2 : Frm w wz.drew (finF sb hl N) := hf1.trans HQ.out.fr.drew (fun k hk => .inl (.inr (.inr hk)))
              rw [hw8]
              exact hf2.trans (frm_set _ _ _ _ (F := one1 sb) (.inl rfl)) (fun k hk => .inl (.inl hk))
          clear hw8 hdr
          go_wp2_with fail
          go_ret
          exact ⟨_, rfl, HK.out⟩

end Go.Proofs.Ytojfohpnfciajaa
