/- The walk of does. -/
import Derived.Test.YtofndmiebnhkaaaWCelI
namespace Go.Proofs.Ytofndmiebnhkaaa
open Go.RowKit
set_option maxRecDepth 100000

theorem Chn.set_other {w : World} {lo g0 i : Nat} {u : Value} {cs : Array Value} {T : TypeId} {z : Nat × Nat} (hg : w.heap[g0]? = some (.cells cs T z)) (hT : T ≠ 71) : ∀ {L : List (Int × Nat)} {p : Option Addr}, Chn w lo p L → Chn (w.setCell ⟨g0, i, none⟩ u) lo p L
  | [], _, h => h
  | _ :: _, _, ⟨g, q, h1, h2, h3, h4⟩ => ⟨g, q, h1, h2, by
      have hne : g ≠ g0 := fun e => by rw [e, hg] at h3; cases h3; exact hT rfl
      rw [heap_set_other _ _ _ _ _ hne]; exact h3, h4.set_other hg hT⟩
theorem CelE.set_other {w : World} {b lo g0 i : Nat} {u : Value} {cs : Array Value} {T : TypeId} {z : Nat × Nat} {O : List Int} {n : Nat} (h : CelE w b lo O n) (hg : w.heap[g0]? = some (.cells cs T z)) (hT : T ≠ 71) (hb : b ≠ g0) : CelE (w.setCell ⟨g0, i, none⟩ u) b lo O n := by
  obtain ⟨p, L, h1, h2, h3⟩ := h
  exact ⟨p, L, ⟨by rw [heap_set_other _ _ _ _ _ hb]; exact h1.blk, h1.lt, h1.chn.set_other hg hT⟩, h2, h3⟩
theorem SlI.set_other {w : World} {lo g0 i : Nat} {u v : Value} {cs : Array Value} {T : TypeId} {z : Nat × Nat} {O : List Int} (h : SlI w lo v O) (hg : w.heap[g0]? = some (.cells cs T z)) (hcs : ∀ (j : Nat) (x : Int), cs[j]? ≠ some (Value.int .i64 x)) : SlI (w.setCell ⟨g0, i, none⟩ u) lo v O := by
  rcases h with h | ⟨g, c, rfl, h1, h2, h3⟩
  · exact .inl h
  · refine .inr ⟨g, c, rfl, h1, by simp; exact h2, fun j hj => ?_⟩
    have hc := h3 j hj
    have hne : g ≠ g0 := fun e => by
      subst e
      apply hcs j O[j]
      rw [← hc]
      simp [World.cell?, hg]
    rw [World.cell?_of_block (w := w) (a := ⟨g, j, none⟩) (heap_set_other _ _ _ _ _ hne)]
    exact hc

/-- what is known while does runs: the act's box, the result's, the new place's box (block s9) -/
structure SD (w : World) (b lo : Nat) (O : List Int) (n : Nat) (k off x : Int) (s9 : Nat) (u1 : Value) (n1 : Nat) (O1 : List Int) (w' : World) : Prop where
  blt : b < w.heap.size
  act : w'.heap[w.heap.size + 1]? = some (.cells #[.int .i64 k, .int .i64 off, .int .i64 x] 33 (0, 0))
  res : w'.heap[w.heap.size + 1 + 1]? = some (.cells #[.slice none 0 0, .int .u64 0] 28 (0, 0))
  box : w'.heap[s9]? = some (.cells #[u1, .int .u64 (n1 : Nat)] 28 (0, 0))
  s9 : w.heap.size + 1 + 1 < s9
  sl : SlI w' lo u1 O1
  blo : b < lo
  ns : ∃ p l c, u1 = .slice p l c
  gr : w.grownBy w' (some b)
theorem SD.on {w w1 w2 : World} {b lo : Nat} {O : List Int} {n : Nat} {k off x : Int} {s9 : Nat} {u1 : Value} {n1 : Nat} {O1 : List Int} (h : SD w b lo O n k off x s9 u1 n1 O1 w1) (hg : w1.grownBy w2 (some b)) : SD w b lo O n k off x s9 u1 n1 O1 w2 := by
  have h1 := h.blt
  have h2 := h.s9
  have z1 := (Array.getElem?_eq_some_iff.1 h.act).1
  have z2 := (Array.getElem?_eq_some_iff.1 h.res).1
  have z3 := (Array.getElem?_eq_some_iff.1 h.box).1
  exact ⟨h.blt, (hg.block _ z1 (by simp; omega)).trans h.act, (hg.block _ z2 (by simp; omega)).trans h.res, (hg.block _ z3 (by simp; omega)).trans h.box, h.s9, h.sl.grown hg h.blo, h.blo, h.ns, grown_trans h.gr hg⟩
theorem SD.facts {w w1 : World} {b lo : Nat} {O : List Int} {n : Nat} {k off x : Int} {s9 : Nat} {u1 : Value} {n1 : Nat} {O1 : List Int} (h : SD w b lo O n k off x s9 u1 n1 O1 w1) :
    w1.cell? ⟨w.heap.size + 1, 0, none⟩ = some (.int .i64 k) ∧ w1.cell? ⟨w.heap.size + 1, 1, none⟩ = some (.int .i64 off) ∧ w1.cell? ⟨w.heap.size + 1, 2, none⟩ = some (.int .i64 x) ∧ w1.cell? ⟨s9, 0, none⟩ = some u1 ∧ w1.cell? ⟨w.heap.size + 1 + 1, 0, none⟩ = some (.slice none 0 0) ∧ w1.cell? ⟨w.heap.size + 1 + 1, 1, none⟩ = some (.int .u64 0) ∧ w1.cell? ⟨s9, 1, none⟩ = some (.int .u64 (n1 : Nat)) ∧ w1.frozen? ⟨w.heap.size + 1 + 1, 0, none⟩ = false ∧ w1.frozen? ⟨w.heap.size + 1 + 1, 1, none⟩ = false := by
  refine ⟨?_, ?_, ?_, ?_, ?_, ?_, ?_, ?_, ?_⟩ <;> simp [World.cell?, World.frozen?, h.act, h.res, h.box]
theorem no_i64 {u v : Value} (hu : ∀ x : Int, u ≠ .int .i64 x) (hv : ∀ x : Int, v ≠ .int .i64 x) : ∀ (j : Nat) (x : Int), (#[u, v] : Array Value)[j]? ≠ some (Value.int .i64 x) := by
  intro j x h
  match j with
  | 0 => simp at h; exact hu x h
  | 1 => simp at h; exact hv x h
  | j + 2 => simp at h
theorem SD.endBlk {w w1 : World} {b lo : Nat} {O : List Int} {n : Nat} {k off x : Int} {s9 : Nat} {u1 : Value} {n1 : Nat} {O1 : List Int} (h : SD w b lo O n k off x s9 u1 n1 O1 w1) :
    (w1.setCell ⟨w.heap.size + 1 + 1, 0, none⟩ u1).heap[w.heap.size + 1 + 1]? = some (.cells #[u1, .int .u64 0] 28 (0, 0)) := by
  rw [heap_set_same _ _ 0 _ _ _ _ h.res]
  rfl
theorem SD.endSl {w w1 : World} {b lo : Nat} {O : List Int} {n : Nat} {k off x : Int} {s9 : Nat} {u1 : Value} {n1 : Nat} {O1 : List Int} (h : SD w b lo O n k off x s9 u1 n1 O1 w1) :
    SlI ((w1.setCell ⟨w.heap.size + 1 + 1, 0, none⟩ u1).setCell ⟨w.heap.size + 1 + 1, 1, none⟩ (.int .u64 (n1 : Nat))) lo u1 O1 := by
  obtain ⟨p, l, c, hu⟩ := h.ns
  refine (h.sl.set_other h.res (no_i64 (by intro x hx; cases hx) (by intro x hx; cases hx))).set_other h.endBlk (no_i64 (by intro x hx; rw [hu] at hx; cases hx) (by intro x hx; cases hx))
theorem SD.endCel {w w1 : World} {b lo : Nat} {O : List Int} {n : Nat} {k off x : Int} {s9 : Nat} {u1 : Value} {n1 n2 : Nat} {O1 O2 : List Int} (h : SD w b lo O n k off x s9 u1 n1 O1 w1) (hc : CelE w1 b lo O2 n2) :
    CelE ((w1.setCell ⟨w.heap.size + 1 + 1, 0, none⟩ u1).setCell ⟨w.heap.size + 1 + 1, 1, none⟩ (.int .u64 (n1 : Nat))) b lo O2 n2 := by
  have h1 := h.blt
  exact (hc.set_other h.res (by decide) (by omega)).set_other h.endBlk (by decide) (by omega)
theorem SD.endGr {w w1 : World} {b lo : Nat} {O : List Int} {n : Nat} {k off x : Int} {s9 : Nat} {u1 : Value} {n1 : Nat} {O1 : List Int} (h : SD w b lo O n k off x s9 u1 n1 O1 w1) :
    w.grownBy ((w1.setCell ⟨w.heap.size + 1 + 1, 0, none⟩ u1).setCell ⟨w.heap.size + 1 + 1, 1, none⟩ (.int .u64 (n1 : Nat))) (some b) :=
  ⟨h.gr.os, h.gr.tape, h.gr.output, by simp; exact h.gr.size, fun k hk hn => by rw [heap_set_other _ _ _ _ _ (by omega), heap_set_other _ _ _ _ _ (by omega)]; exact h.gr.block k hk hn⟩

theorem SD.start {w w1 : World} {b lo : Nat} {O : List Int} {n : Nat} {v : Value} {k off x : Int} {u1 : Value} {n1 : Nat} {O1 : List Int} (h : CelE w b lo O n) (_hlo : lo ≤ w.heap.size) (hu : ∃ p l c, u1 = .slice p l c)
    (hb : Below (w.heap.size + 1 + 1 + 1) (((w.alloc (.cells #[v, .int .u64 (n : Nat)] 28)).alloc (.cells #[.int .i64 k, .int .i64 off, .int .i64 x] 33)).alloc (.cells #[.slice none 0 0, .int .u64 0] 28)) w1) (hsl : SlI w1 lo u1 O1) :
    SD w b lo O n k off x w1.heap.size u1 n1 O1 (w1.alloc (.cells #[u1, .int .u64 (n1 : Nat)] 28)).drew ∧ CelE (w1.alloc (.cells #[u1, .int .u64 (n1 : Nat)] 28)).drew b lo O n := by
  have hz := hb.size
  have hs1 : (w.alloc (.cells #[v, .int .u64 (n : Nat)] 28)).heap.size = w.heap.size + 1 := by simp
  have hs2 : ((w.alloc (.cells #[v, .int .u64 (n : Nat)] 28)).alloc (.cells #[.int .i64 k, .int .i64 off, .int .i64 x] 33)).heap.size = w.heap.size + 1 + 1 := by simp
  have hs3 : (((w.alloc (.cells #[v, .int .u64 (n : Nat)] 28)).alloc (.cells #[.int .i64 k, .int .i64 off, .int .i64 x] 33)).alloc (.cells #[.slice none 0 0, .int .u64 0] 28)).heap.size = w.heap.size + 1 + 1 + 1 := by simp
  have hz2 : w.heap.size + 1 + 1 + 1 ≤ w1.heap.size := by omega
  have hbw : Below w.heap.size w w1 := Below.trans (b := (((w.alloc (.cells #[v, .int .u64 (n : Nat)] 28)).alloc (.cells #[.int .i64 k, .int .i64 off, .int .i64 x] 33)).alloc (.cells #[.slice none 0 0, .int .u64 0] 28))) (by go_grown) (hb.mono (by omega))
  have hbd : Below w1.heap.size w1 (w1.alloc (.cells #[u1, .int .u64 (n1 : Nat)] 28)).drew := by go_grown
  have a1 : w1.heap[w.heap.size + 1]? = some (.cells #[.int .i64 k, .int .i64 off, .int .i64 x] 33 (0, 0)) := by
    rw [hb.block _ (by omega), Below.heap_alloc _ _ _ (by omega), ← hs1, heap_alloc_new]
  have a2 : w1.heap[w.heap.size + 1 + 1]? = some (.cells #[.slice none 0 0, .int .u64 0] 28 (0, 0)) := by
    rw [hb.block _ (by omega), ← hs2, heap_alloc_new]
  exact ⟨⟨h.size, (hbd.block _ (by omega)).trans a1, (hbd.block _ (by omega)).trans a2, heap_alloc_new _ _, by omega, hsl.keep hbd (Nat.le_refl _), h.lt, hu, grown_below (hbw.trans (hbd.mono (by omega))) (Nat.le_refl _)⟩, (h.keep hbw (Nat.le_refl _)).keep hbd (Nat.le_refl _)⟩

/-- the number that an act names -/
def offN (n : Nat) (off : Int) : Nat := (((n : Int) + off) % 18446744073709551616).toNat
theorem wrapN (n : Nat) (off : Int) : IntKind.u64.wrap ((n : Int) + IntKind.u64.wrap off) = (offN n off : Int) := by
  unfold offN
  have e : ∀ z : Int, IntKind.u64.wrap z = z % 18446744073709551616 := fun z => by simp [IntKind.wrap, IntKind.bits, IntKind.signed]
  rw [e, e]
  omega
/-- what an act leaves -/
def doO (k off x : Int) (O : List Int) (n : Nat) : List Int := if k = 1 then keepO O n (offN n off) x else pushO O n (offN n off) x
def doN (k off : Int) (n : Nat) : Nat := if k = 1 then n else pushN n (offN n off)

set_option maxHeartbeats 4000000 in
theorem does_any (b lo : Nat) (O : List Int) (n : Nat) (v : Value) (k off x : Int) (w : World) (h : CelE w b lo O n) (hs : SlI w lo v O) (hlo : lo ≤ w.heap.size) (hn : n + 1 < 18446744073709551616) (hl : O.length < 17592186044416) :
    Calls Try.prog 9 #[.pointer (some ⟨b, 0, none⟩), celV v n, .agg #[.int .i64 k, .int .i64 off, .int .i64 x]] w fun e w' => (∃ v', e = .returned (.tuple #[celV v' (doN k off n), .bool true]) ∧ SlI w' lo v' (doO k off x O n) ∧ CelE w' b lo (doO k off x O n) (doN k off n) ∧ ∀ g, g < w.heap.size → offB g v → offB g v') ∧ w.grownBy w' (some b) := by
  obtain ⟨p, c, rfl, _⟩ := hs.rd
  unfold doO doN
  by_cases hk : k = 1
  · subst hk
    rw [if_pos rfl, if_pos rfl]
    have C1 : Hid (Calls _ _ _ _ _) := rkeepE O (.slice p O.length c) n (offN n off) x lo (((w.alloc (.cells #[.slice p O.length c, .int .u64 (n : Nat)] 28)).alloc (.cells #[.int .i64 1, .int .i64 off, .int .i64 x] 33)).alloc (.cells #[.slice none 0 0, .int .u64 0] 28)) (hs.keep (B := w.heap.size) (by go_grown) (Nat.le_refl _)) (by simp; omega) (by omega)
    have C2 : Hid (∀ w1, CelE w1 b lo O n → lo ≤ w1.heap.size → Calls Try.prog 23 #[.pointer (some ⟨b, 0, none⟩), .int .u64 (offN n off : Nat), .int .i64 x] w1 fun e w' => e = .returned (.bool (decide (offN n off = n))) ∧ CelE w' b lo (keepO O n (offN n off) x) n ∧ w1.grownBy w' (some b)) := fun w1 h1 h2 => keepE b lo O n (offN n off) x w1 h1 h2 (by omega)
    have HS : Hid (SlI _ _ _ _) := hs
    have HC : Hid (CelE _ _ _ _ _) := h
    have HN := wrapN n off
    generalize offN n off = m at *
    clear hs
    generalize (keepO O n m x) = O1 at *
    have HSt : Hid (∀ w1 u1, (∃ p l c, u1 = .slice p l c) → Below (w.heap.size + 1 + 1 + 1) (((w.alloc (.cells #[.slice p O.length c, .int .u64 (n : Nat)] 28)).alloc (.cells #[.int .i64 1, .int .i64 off, .int .i64 x] 33)).alloc (.cells #[.slice none 0 0, .int .u64 0] 28)) w1 → SlI w1 lo u1 O1 → SD w b lo O n 1 off x w1.heap.size u1 n O1 (w1.alloc (.cells #[u1, .int .u64 (n : Nat)] 28)).drew ∧ CelE (w1.alloc (.cells #[u1, .int .u64 (n : Nat)] 28)).drew b lo O n) := fun w1 u1 hu hb hsl => SD.start h hlo hu hb hsl
    clear h
    unfold celV at *
    generalize hdm : decide (m = n) = dm at *
    clear hdm
    go_enter Try.func9, Try.ntmps9
    go_wp2_with fail
    refine C1.out.mono ?_
    rintro e w1 ⟨⟨u1, rfl, hsl1, hof1⟩, hb1⟩
    obtain ⟨p1, c1, rfl, _⟩ := hsl1.rd
    obtain ⟨SD0, HC0⟩ := HSt.out w1 _ ⟨_, _, _, rfl⟩ (hb1.mono (by simp)) hsl1
    have hszq : lo ≤ (w1.alloc (.cells #[.slice p1 O1.length c1, .int .u64 (n : Nat)] 28)).drew.heap.size := by
      have := hb1.size
      simp at this ⊢
      omega
    have HSz : Hid _ := hszq
    have HOf : Hid (∀ g, g < w.heap.size → offB g (.slice p O.length c) → offB g (.slice p1 O1.length c1)) := fun g h1 h2 => hof1 g (by simp; omega) h2
    clear hof1
    have SDq : Hid (SD _ _ _ _ _ _ _ _ _ _ _ _ _) := SD0
    have HCq : Hid (CelE _ _ _ _ _) := HC0
    have hz9 := SD0.s9
    obtain ⟨q0, q1, q2, q3, q4, q5, q6, q7, q8⟩ := SD0.facts
    clear hsl1 hb1 SD0 HC0 C1 HSt HS HC hszq
    go_wp2_with fail
    refine wp_region_any (by kernel_rfl) ?_
    change wpAny _ _ _ _ _ _ _ (World.drew _)
    refine anyN_take (v := ?_) 1 rfl (by kernel_rfl) (by kernel_rfl) (by kernel_rfl) (fun _ _ _ h => h) (Or.inl ⟨by rfl, ?_⟩) ?_
    rotate_left
    focus
      intro w9
      go_simp
      try with_reducible rfl
    try simp only [Act.put, List.setIfInBounds_toArray, List.set_cons_zero, List.set_cons_succ]
    refine anyN_take (v := ?_) 2 rfl (by kernel_rfl) (by kernel_rfl) (by kernel_rfl) (fun _ _ _ h => h) (Or.inl ⟨by rfl, ?_⟩) ?_
    rotate_left
    focus
      intro w9
      go_simp
      try with_reducible rfl
    try simp only [Act.put, List.setIfInBounds_toArray, List.set_cons_zero, List.set_cons_succ]
    refine anyN_take (v := ?_) 3 rfl (by kernel_rfl) (by kernel_rfl) (by kernel_rfl) (fun _ _ _ h => h) (Or.inl ⟨by rfl, ?_⟩) ?_
    rotate_left
    focus
      intro w9
      go_simp
      try with_reducible rfl
    try simp only [Act.put, List.setIfInBounds_toArray, List.set_cons_zero, List.set_cons_succ]
    refine anyN_take (v := ?_) 6 rfl (by kernel_rfl) (by kernel_rfl) (by kernel_rfl) (fun _ _ _ h => h) (Or.inl ⟨by rfl, ?_⟩) ?_
    rotate_left
    focus
      intro w9
      go_simp
      try with_reducible rfl
    try simp only [Act.put, List.setIfInBounds_toArray, List.set_cons_zero, List.set_cons_succ]
    refine wpAny_ready (rs := [0, 4]) (by kernel_rfl) (by simp) ?_
    refine anyN_cons 0 rfl (by rfl) (fun K hK => ?_) (anyN_cons 4 rfl (by rfl) (fun K hK => ?_) AllReady.nil)
    · go_simp
      refine hK.out _ _ ?_
      clear hK K
      try simp only [Act.put, List.setIfInBounds_toArray, List.set_cons_zero, List.set_cons_succ]
      refine wpAny_ready (rs := [4]) (by kernel_rfl) (by simp) ?_
      refine anyN_cons 4 rfl (by rfl) (fun K hK => ?_) AllReady.nil
      go_simp
      refine hK.out _ _ ?_
      clear hK K
      try simp only [Act.put, List.setIfInBounds_toArray, List.set_cons_zero, List.set_cons_succ]
      refine wpAny_ready (rs := [5]) (by kernel_rfl) (by simp) ?_
      refine anyN_cons 5 rfl (by rfl) (fun K hK => ?_) AllReady.nil
      go_simp
      refine (C2.out _ HCq.out HSz.out).mono ?_
      rintro e w5 ⟨rfl, hc5, hg5⟩
      dsimp only
      have SD5 := SDq.out.on hg5
      obtain ⟨k0, k1, k2, k3, k4, k5, k6, k7, k8⟩ := SD5.facts
      have HC5 : Hid (CelE _ _ _ _ _) := hc5
      have HD5 : Hid (SD _ _ _ _ _ _ _ _ _ _ _ _ _) := SD5
      clear hc5 hg5 SD5
      refine hK.out _ _ ?_
      clear hK K
      try simp only [Act.put, List.setIfInBounds_toArray, List.set_cons_zero, List.set_cons_succ]
      refine anyN_take (v := ?_) 7 rfl (by kernel_rfl) (by kernel_rfl) (by kernel_rfl) (fun _ _ _ h => h) (Or.inl ⟨by rfl, ?_⟩) ?_
      rotate_left
      focus
        intro w9
        go_simp
        try with_reducible rfl
      try simp only [Act.put, List.setIfInBounds_toArray, List.set_cons_zero, List.set_cons_succ]
      refine wpAny_ready (rs := [8]) (by kernel_rfl) (by simp) ?_
      refine anyN_cons 8 rfl (by rfl) (fun K hK => ?_) AllReady.nil
      go_simp
      refine hK.out _ _ ?_
      clear hK K
      try simp only [Act.put, List.setIfInBounds_toArray, List.set_cons_zero, List.set_cons_succ]
      refine wpAny_ready (rs := [9]) (by kernel_rfl) (by simp) ?_
      refine anyN_cons 9 rfl (by rfl) (fun K hK => ?_) AllReady.nil
      go_simp
      refine hK.out _ _ ?_
      clear hK K
      try simp only [Act.put, List.setIfInBounds_toArray, List.set_cons_zero, List.set_cons_succ]
      refine wpAny_done (by kernel_rfl) ?_ _
      go_wp2_with fail
      refine bodyPost_ret (v := .tuple #[celV (.slice p1 O1.length c1) n, .bool true]) (by simp [results, Try.results9, go_sem, celV, k4, k5]) rfl ?_
      exact ⟨⟨_, rfl, HD5.out.endSl, HD5.out.endCel HC5.out, HOf.out⟩, HD5.out.endGr⟩
    · go_simp
      refine hK.out _ _ ?_
      clear hK K
      try simp only [Act.put, List.setIfInBounds_toArray, List.set_cons_zero, List.set_cons_succ]
      refine wpAny_ready (rs := [0, 5]) (by kernel_rfl) (by simp) ?_
      refine anyN_cons 0 rfl (by rfl) (fun K hK => ?_) (anyN_cons 5 rfl (by rfl) (fun K hK => ?_) AllReady.nil)
      · go_simp
        refine hK.out _ _ ?_
        clear hK K
        try simp only [Act.put, List.setIfInBounds_toArray, List.set_cons_zero, List.set_cons_succ]
        refine wpAny_ready (rs := [5]) (by kernel_rfl) (by simp) ?_
        refine anyN_cons 5 rfl (by rfl) (fun K hK => ?_) AllReady.nil
        go_simp
        refine (C2.out _ HCq.out HSz.out).mono ?_
        rintro e w5 ⟨rfl, hc5, hg5⟩
        dsimp only
        have SD5 := SDq.out.on hg5
        obtain ⟨k0, k1, k2, k3, k4, k5, k6, k7, k8⟩ := SD5.facts
        have HC5 : Hid (CelE _ _ _ _ _) := hc5
        have HD5 : Hid (SD _ _ _ _ _ _ _ _ _ _ _ _ _) := SD5
        clear hc5 hg5 SD5
        refine hK.out _ _ ?_
        clear hK K
        try simp only [Act.put, List.setIfInBounds_toArray, List.set_cons_zero, List.set_cons_succ]
        refine anyN_take (v := ?_) 7 rfl (by kernel_rfl) (by kernel_rfl) (by kernel_rfl) (fun _ _ _ h => h) (Or.inl ⟨by rfl, ?_⟩) ?_
        rotate_left
        focus
          intro w9
          go_simp
          try with_reducible rfl
        try simp only [Act.put, List.setIfInBounds_toArray, List.set_cons_zero, List.set_cons_succ]
        refine wpAny_ready (rs := [8]) (by kernel_rfl) (by simp) ?_
        refine anyN_cons 8 rfl (by rfl) (fun K hK => ?_) AllReady.nil
        go_simp
        refine hK.out _ _ ?_
        clear hK K
        try simp only [Act.put, List.setIfInBounds_toArray, List.set_cons_zero, List.set_cons_succ]
        refine wpAny_ready (rs := [9]) (by kernel_rfl) (by simp) ?_
        refine anyN_cons 9 rfl (by rfl) (fun K hK => ?_) AllReady.nil
        go_simp
        refine hK.out _ _ ?_
        clear hK K
        try simp only [Act.put, List.setIfInBounds_toArray, List.set_cons_zero, List.set_cons_succ]
        refine wpAny_done (by kernel_rfl) ?_ _
        go_wp2_with fail
        refine bodyPost_ret (v := .tuple #[celV (.slice p1 O1.length c1) n, .bool true]) (by simp [results, Try.results9, go_sem, celV, k4, k5]) rfl ?_
        exact ⟨⟨_, rfl, HD5.out.endSl, HD5.out.endCel HC5.out, HOf.out⟩, HD5.out.endGr⟩
      · go_simp
        refine (C2.out _ HCq.out HSz.out).mono ?_
        rintro e w5 ⟨rfl, hc5, hg5⟩
        dsimp only
        have SD5 := SDq.out.on hg5
        obtain ⟨k0, k1, k2, k3, k4, k5, k6, k7, k8⟩ := SD5.facts
        have HC5 : Hid (CelE _ _ _ _ _) := hc5
        have HD5 : Hid (SD _ _ _ _ _ _ _ _ _ _ _ _ _) := SD5
        clear hc5 hg5 SD5
        refine hK.out _ _ ?_
        clear hK K
        try simp only [Act.put, List.setIfInBounds_toArray, List.set_cons_zero, List.set_cons_succ]
        refine anyN_take (v := ?_) 7 rfl (by kernel_rfl) (by kernel_rfl) (by kernel_rfl) (fun _ _ _ h => h) (Or.inl ⟨by rfl, ?_⟩) ?_
        rotate_left
        focus
          intro w9
          go_simp
          try with_reducible rfl
        try simp only [Act.put, List.setIfInBounds_toArray, List.set_cons_zero, List.set_cons_succ]
        refine wpAny_ready (rs := [0]) (by kernel_rfl) (by simp) ?_
        refine anyN_cons 0 rfl (by rfl) (fun K hK => ?_) AllReady.nil
        go_simp
        refine hK.out _ _ ?_
        clear hK K
        try simp only [Act.put, List.setIfInBounds_toArray, List.set_cons_zero, List.set_cons_succ]
        refine wpAny_ready (rs := [8]) (by kernel_rfl) (by simp) ?_
        refine anyN_cons 8 rfl (by rfl) (fun K hK => ?_) AllReady.nil
        go_simp
        refine hK.out _ _ ?_
        clear hK K
        try simp only [Act.put, List.setIfInBounds_toArray, List.set_cons_zero, List.set_cons_succ]
        refine wpAny_ready (rs := [9]) (by kernel_rfl) (by simp) ?_
        refine anyN_cons 9 rfl (by rfl) (fun K hK => ?_) AllReady.nil
        go_simp
        refine hK.out _ _ ?_
        clear hK K
        try simp only [Act.put, List.setIfInBounds_toArray, List.set_cons_zero, List.set_cons_succ]
        refine wpAny_done (by kernel_rfl) ?_ _
        go_wp2_with fail
        refine bodyPost_ret (v := .tuple #[celV (.slice p1 O1.length c1) n, .bool true]) (by simp [results, Try.results9, go_sem, celV, k4, k5]) rfl ?_
        exact ⟨⟨_, rfl, HD5.out.endSl, HD5.out.endCel HC5.out, HOf.out⟩, HD5.out.endGr⟩
  · rw [if_neg hk, if_neg hk]
    have C1 : Hid (Calls _ _ _ _ _) := rpushE O (.slice p O.length c) n (offN n off) x lo (((w.alloc (.cells #[.slice p O.length c, .int .u64 (n : Nat)] 28)).alloc (.cells #[.int .i64 k, .int .i64 off, .int .i64 x] 33)).alloc (.cells #[.slice none 0 0, .int .u64 0] 28)) (hs.keep (B := w.heap.size) (by go_grown) (Nat.le_refl _)) (by simp; omega) hn (by omega)
    have C2 : Hid (∀ w1, CelE w1 b lo O n → lo ≤ w1.heap.size → Calls Try.prog 25 #[.pointer (some ⟨b, 0, none⟩), .int .u64 (offN n off : Nat), .int .i64 x] w1 fun e w' => e = .returned (.bool (decide (offN n off = n))) ∧ CelE w' b lo (pushO O n (offN n off) x) (pushN n (offN n off)) ∧ w1.grownBy w' (some b)) := fun w1 h1 h2 => pushE b lo O n (offN n off) x w1 h1 h2 hn (by omega)
    have HS : Hid (SlI _ _ _ _) := hs
    have HC : Hid (CelE _ _ _ _ _) := h
    have HN := wrapN n off
    generalize offN n off = m at *
    clear hs
    generalize (pushO O n m x) = O1 at *
    generalize pushN n m = n1 at *
    have HSt : Hid (∀ w1 u1, (∃ p l c, u1 = .slice p l c) → Below (w.heap.size + 1 + 1 + 1) (((w.alloc (.cells #[.slice p O.length c, .int .u64 (n : Nat)] 28)).alloc (.cells #[.int .i64 k, .int .i64 off, .int .i64 x] 33)).alloc (.cells #[.slice none 0 0, .int .u64 0] 28)) w1 → SlI w1 lo u1 O1 → SD w b lo O n k off x w1.heap.size u1 n1 O1 (w1.alloc (.cells #[u1, .int .u64 (n1 : Nat)] 28)).drew ∧ CelE (w1.alloc (.cells #[u1, .int .u64 (n1 : Nat)] 28)).drew b lo O n) := fun w1 u1 hu hb hsl => SD.start h hlo hu hb hsl
    clear h
    unfold celV at *
    generalize hdm : decide (m = n) = dm at *
    clear hdm
    go_enter Try.func9, Try.ntmps9
    go_wp2_with fail
    refine C1.out.mono ?_
    rintro e w1 ⟨⟨u1, rfl, hsl1, hof1⟩, hb1⟩
    obtain ⟨p1, c1, rfl, _⟩ := hsl1.rd
    obtain ⟨SD0, HC0⟩ := HSt.out w1 _ ⟨_, _, _, rfl⟩ (hb1.mono (by simp)) hsl1
    have hszq : lo ≤ (w1.alloc (.cells #[.slice p1 O1.length c1, .int .u64 (n1 : Nat)] 28)).drew.heap.size := by
      have := hb1.size
      simp at this ⊢
      omega
    have HSz : Hid _ := hszq
    have HOf : Hid (∀ g, g < w.heap.size → offB g (.slice p O.length c) → offB g (.slice p1 O1.length c1)) := fun g h1 h2 => hof1 g (by simp; omega) h2
    clear hof1
    have SDq : Hid (SD _ _ _ _ _ _ _ _ _ _ _ _ _) := SD0
    have HCq : Hid (CelE _ _ _ _ _) := HC0
    have hz9 := SD0.s9
    obtain ⟨q0, q1, q2, q3, q4, q5, q6, q7, q8⟩ := SD0.facts
    clear hsl1 hb1 SD0 HC0 C1 HSt HS HC hszq
    go_wp2_with fail
    refine wp_region_any (by kernel_rfl) ?_
    change wpAny _ _ _ _ _ _ _ (World.drew _)
    refine anyN_take (v := ?_) 1 rfl (by kernel_rfl) (by kernel_rfl) (by kernel_rfl) (fun _ _ _ h => h) (Or.inl ⟨by rfl, ?_⟩) ?_
    rotate_left
    focus
      intro w9
      go_simp
      try with_reducible rfl
    try simp only [Act.put, List.setIfInBounds_toArray, List.set_cons_zero, List.set_cons_succ]
    refine anyN_take (v := ?_) 2 rfl (by kernel_rfl) (by kernel_rfl) (by kernel_rfl) (fun _ _ _ h => h) (Or.inl ⟨by rfl, ?_⟩) ?_
    rotate_left
    focus
      intro w9
      go_simp
      try with_reducible rfl
    try simp only [Act.put, List.setIfInBounds_toArray, List.set_cons_zero, List.set_cons_succ]
    refine anyN_take (v := ?_) 3 rfl (by kernel_rfl) (by kernel_rfl) (by kernel_rfl) (fun _ _ _ h => h) (Or.inl ⟨by rfl, ?_⟩) ?_
    rotate_left
    focus
      intro w9
      go_simp
      try with_reducible rfl
    try simp only [Act.put, List.setIfInBounds_toArray, List.set_cons_zero, List.set_cons_succ]
    refine anyN_take (v := ?_) 6 rfl (by kernel_rfl) (by kernel_rfl) (by kernel_rfl) (fun _ _ _ h => h) (Or.inl ⟨by rfl, ?_⟩) ?_
    rotate_left
    focus
      intro w9
      go_simp
      try with_reducible rfl
    try simp only [Act.put, List.setIfInBounds_toArray, List.set_cons_zero, List.set_cons_succ]
    refine wpAny_ready (rs := [0, 4]) (by kernel_rfl) (by simp) ?_
    refine anyN_cons 0 rfl (by rfl) (fun K hK => ?_) (anyN_cons 4 rfl (by rfl) (fun K hK => ?_) AllReady.nil)
    · go_simp
      refine hK.out _ _ ?_
      clear hK K
      try simp only [Act.put, List.setIfInBounds_toArray, List.set_cons_zero, List.set_cons_succ]
      refine wpAny_ready (rs := [4]) (by kernel_rfl) (by simp) ?_
      refine anyN_cons 4 rfl (by rfl) (fun K hK => ?_) AllReady.nil
      go_simp
      refine hK.out _ _ ?_
      clear hK K
      try simp only [Act.put, List.setIfInBounds_toArray, List.set_cons_zero, List.set_cons_succ]
      refine wpAny_ready (rs := [5]) (by kernel_rfl) (by simp) ?_
      refine anyN_cons 5 rfl (by rfl) (fun K hK => ?_) AllReady.nil
      go_simp
      refine (C2.out _ HCq.out HSz.out).mono ?_
      rintro e w5 ⟨rfl, hc5, hg5⟩
      dsimp only
      have SD5 := SDq.out.on hg5
      obtain ⟨k0, k1, k2, k3, k4, k5, k6, k7, k8⟩ := SD5.facts
      have HC5 : Hid (CelE _ _ _ _ _) := hc5
      have HD5 : Hid (SD _ _ _ _ _ _ _ _ _ _ _ _ _) := SD5
      clear hc5 hg5 SD5
      refine hK.out _ _ ?_
      clear hK K
      try simp only [Act.put, List.setIfInBounds_toArray, List.set_cons_zero, List.set_cons_succ]
      refine anyN_take (v := ?_) 7 rfl (by kernel_rfl) (by kernel_rfl) (by kernel_rfl) (fun _ _ _ h => h) (Or.inl ⟨by rfl, ?_⟩) ?_
      rotate_left
      focus
        intro w9
        go_simp
        try with_reducible rfl
      try simp only [Act.put, List.setIfInBounds_toArray, List.set_cons_zero, List.set_cons_succ]
      refine wpAny_ready (rs := [8]) (by kernel_rfl) (by simp) ?_
      refine anyN_cons 8 rfl (by rfl) (fun K hK => ?_) AllReady.nil
      go_simp
      refine hK.out _ _ ?_
      clear hK K
      try simp only [Act.put, List.setIfInBounds_toArray, List.set_cons_zero, List.set_cons_succ]
      refine wpAny_ready (rs := [9]) (by kernel_rfl) (by simp) ?_
      refine anyN_cons 9 rfl (by rfl) (fun K hK => ?_) AllReady.nil
      go_simp
      refine hK.out _ _ ?_
      clear hK K
      try simp only [Act.put, List.setIfInBounds_toArray, List.set_cons_zero, List.set_cons_succ]
      refine wpAny_done (by kernel_rfl) ?_ _
      go_wp2_with fail
      refine bodyPost_ret (v := .tuple #[celV (.slice p1 O1.length c1) n1, .bool true]) (by simp [results, Try.results9, go_sem, celV, k4, k5]) rfl ?_
      exact ⟨⟨_, rfl, HD5.out.endSl, HD5.out.endCel HC5.out, HOf.out⟩, HD5.out.endGr⟩
    · go_simp
      refine hK.out _ _ ?_
      clear hK K
      try simp only [Act.put, List.setIfInBounds_toArray, List.set_cons_zero, List.set_cons_succ]
      refine wpAny_ready (rs := [0, 5]) (by kernel_rfl) (by simp) ?_
      refine anyN_cons 0 rfl (by rfl) (fun K hK => ?_) (anyN_cons 5 rfl (by rfl) (fun K hK => ?_) AllReady.nil)
      · go_simp
        refine hK.out _ _ ?_
        clear hK K
        try simp only [Act.put, List.setIfInBounds_toArray, List.set_cons_zero, List.set_cons_succ]
        refine wpAny_ready (rs := [5]) (by kernel_rfl) (by simp) ?_
        refine anyN_cons 5 rfl (by rfl) (fun K hK => ?_) AllReady.nil
        go_simp
        refine (C2.out _ HCq.out HSz.out).mono ?_
        rintro e w5 ⟨rfl, hc5, hg5⟩
        dsimp only
        have SD5 := SDq.out.on hg5
        obtain ⟨k0, k1, k2, k3, k4, k5, k6, k7, k8⟩ := SD5.facts
        have HC5 : Hid (CelE _ _ _ _ _) := hc5
        have HD5 : Hid (SD _ _ _ _ _ _ _ _ _ _ _ _ _) := SD5
        clear hc5 hg5 SD5
        refine hK.out _ _ ?_
        clear hK K
        try simp only [Act.put, List.setIfInBounds_toArray, List.set_cons_zero, List.set_cons_succ]
        refine anyN_take (v := ?_) 7 rfl (by kernel_rfl) (by kernel_rfl) (by kernel_rfl) (fun _ _ _ h => h) (Or.inl ⟨by rfl, ?_⟩) ?_
        rotate_left
        focus
          intro w9
          go_simp
          try with_reducible rfl
        try simp only [Act.put, List.setIfInBounds_toArray, List.set_cons_zero, List.set_cons_succ]
        refine wpAny_ready (rs := [8]) (by kernel_rfl) (by simp) ?_
        refine anyN_cons 8 rfl (by rfl) (fun K hK => ?_) AllReady.nil
        go_simp
        refine hK.out _ _ ?_
        clear hK K
        try simp only [Act.put, List.setIfInBounds_toArray, List.set_cons_zero, List.set_cons_succ]
        refine wpAny_ready (rs := [9]) (by kernel_rfl) (by simp) ?_
        refine anyN_cons 9 rfl (by rfl) (fun K hK => ?_) AllReady.nil
        go_simp
        refine hK.out _ _ ?_
        clear hK K
        try simp only [Act.put, List.setIfInBounds_toArray, List.set_cons_zero, List.set_cons_succ]
        refine wpAny_done (by kernel_rfl) ?_ _
        go_wp2_with fail
        refine bodyPost_ret (v := .tuple #[celV (.slice p1 O1.length c1) n1, .bool true]) (by simp [results, Try.results9, go_sem, celV, k4, k5]) rfl ?_
        exact ⟨⟨_, rfl, HD5.out.endSl, HD5.out.endCel HC5.out, HOf.out⟩, HD5.out.endGr⟩
      · go_simp
        refine (C2.out _ HCq.out HSz.out).mono ?_
        rintro e w5 ⟨rfl, hc5, hg5⟩
        dsimp only
        have SD5 := SDq.out.on hg5
        obtain ⟨k0, k1, k2, k3, k4, k5, k6, k7, k8⟩ := SD5.facts
        have HC5 : Hid (CelE _ _ _ _ _) := hc5
        have HD5 : Hid (SD _ _ _ _ _ _ _ _ _ _ _ _ _) := SD5
        clear hc5 hg5 SD5
        refine hK.out _ _ ?_
        clear hK K
        try simp only [Act.put, List.setIfInBounds_toArray, List.set_cons_zero, List.set_cons_succ]
        refine anyN_take (v := ?_) 7 rfl (by kernel_rfl) (by kernel_rfl) (by kernel_rfl) (fun _ _ _ h => h) (Or.inl ⟨by rfl, ?_⟩) ?_
        rotate_left
        focus
          intro w9
          go_simp
          try with_reducible rfl
        try simp only [Act.put, List.setIfInBounds_toArray, List.set_cons_zero, List.set_cons_succ]
        refine wpAny_ready (rs := [0]) (by kernel_rfl) (by simp) ?_
        refine anyN_cons 0 rfl (by rfl) (fun K hK => ?_) AllReady.nil
        go_simp
        refine hK.out _ _ ?_
        clear hK K
        try simp only [Act.put, List.setIfInBounds_toArray, List.set_cons_zero, List.set_cons_succ]
        refine wpAny_ready (rs := [8]) (by kernel_rfl) (by simp) ?_
        refine anyN_cons 8 rfl (by rfl) (fun K hK => ?_) AllReady.nil
        go_simp
        refine hK.out _ _ ?_
        clear hK K
        try simp only [Act.put, List.setIfInBounds_toArray, List.set_cons_zero, List.set_cons_succ]
        refine wpAny_ready (rs := [9]) (by kernel_rfl) (by simp) ?_
        refine anyN_cons 9 rfl (by rfl) (fun K hK => ?_) AllReady.nil
        go_simp
        refine hK.out _ _ ?_
        clear hK K
        try simp only [Act.put, List.setIfInBounds_toArray, List.set_cons_zero, List.set_cons_succ]
        refine wpAny_done (by kernel_rfl) ?_ _
        go_wp2_with fail
        refine bodyPost_ret (v := .tuple #[celV (.slice p1 O1.length c1) n1, .bool true]) (by simp [results, Try.results9, go_sem, celV, k4, k5]) rfl ?_
        exact ⟨⟨_, rfl, HD5.out.endSl, HD5.out.endCel HC5.out, HOf.out⟩, HD5.out.endGr⟩
end Go.Proofs.Ytofndmiebnhkaaa
