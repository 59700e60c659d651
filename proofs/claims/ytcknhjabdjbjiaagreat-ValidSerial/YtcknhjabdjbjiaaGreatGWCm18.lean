/- commit: what becomes of an attempt behind the last stamp that was given. Schedule: what becomes of attempts, one behind the other. -/
import Derived.Laws.OwnMore
import Derived.Test.YtcknhjabdjbjiaaGreatGWNt
namespace Go.Proofs.YtcknhjabdjbjiaaGreat
open Go.RowKit
set_option maxRecDepth 100000

/-- what became of an attempt -/
structure Fa where
  st : Nat
  er : Int
  q : Option (Nat × Pt)
def Fa.cells (f : Fa) : List Value := [.int .u64 (f.st : Nat), .int .i64 f.er, .int .u64 ((clC f.q).1 : Nat), .int .i64 (clC f.q).2.t, .int .i64 (clC f.q).2.i, .string (clC f.q).2.k]
/-- an attempt -/
structure At where
  fr : Nat
  a : Ft
  lv : Int
  v0 : Value
  v1 : Value
  v2 : Value
/-- an attempt behind some commits, the last stamp that was given being la -/
def StpQ (x : At) (la : Nat) (L : List Cm) (f : Fa) (la' : Nat) (L' : List Cm) : Prop := ∃ er0, TryQ x.a x.fr x.lv L f.q er0 ∧
  ((er0 ≠ 0 ∧ f.er = er0 ∧ f.st = 0 ∧ la' = la ∧ L' = L) ∨ (er0 = 0 ∧ la = 4611686018427387904 ∧ f.er = 4 ∧ f.st = 0 ∧ la' = la ∧ L' = L) ∨
   (er0 = 0 ∧ la < 4611686018427387904 ∧ f.er = 0 ∧ f.st = la + 1 ∧ la' = la + 1 ∧ ∃ c, L' = L ++ [c] ∧ c.s = la + 1 ∧ (∀ y, y ∈ c.W ↔ y ∈ x.a.W) ∧ InvC L'))
theorem TryQ.zero {a : Ft} {fr : Nat} {lv : Int} {L : List Cm} {q : Option (Nat × Pt)} (h : TryQ a fr lv L q 0) : chkF a = 0 ∧ q = none ∧ (lv = 1 ∨ lv = 2 ∨ lv = 3) ∧ (lv = 2 ∨ lv = 3 → FstO L fr a.wrs none) ∧ (lv = 3 → FstO L fr a.rds none) := by
  rcases h with ⟨h1, h2, h3⟩ | ⟨h1, h2, h3, h4⟩ | ⟨h1, h2, h3, h4, h5⟩ | ⟨h1, h2, h3, h4, h5, h6⟩ | ⟨h1, h2, h3, h4, h5, h6⟩
  · exact absurd h3.symm h1
  · cases h4
  · cases h5
  · cases h6
  · exact ⟨h1, h5, h2, h3, h4⟩
theorem set6 {w : World} {g : Nat} {a b c d e f x0 x1 x2 x3 x4 x5 : Value} {T : TypeId} (h : Blk w g #[a, b, c, d, e, f] T) :
    Blk ((((((w.setCell ⟨g, 0, none⟩ x0).setCell ⟨g, 1, none⟩ x1).setCell ⟨g, 2, none⟩ x2).setCell ⟨g, 3, none⟩ x3).setCell ⟨g, 4, none⟩ x4).setCell ⟨g, 5, none⟩ x5) g #[x0, x1, x2, x3, x4, x5] T ∧ Frm w ((((((w.setCell ⟨g, 0, none⟩ x0).setCell ⟨g, 1, none⟩ x1).setCell ⟨g, 2, none⟩ x2).setCell ⟨g, 3, none⟩ x3).setCell ⟨g, 4, none⟩ x4).setCell ⟨g, 5, none⟩ x5) (fun k => k = g) :=
  ⟨(((((h.set 0 _).set 1 _).set 2 _).set 3 _).set 4 _).set 5 _, (((((frm_set _ _ _ _ (F := fun k => k = g) (.inl rfl)).trans (frm_set _ _ _ _ (F := fun k => k = g) (.inl rfl)) (fun _k hk => .inl hk)).trans (frm_set _ _ _ _ (F := fun k => k = g) (.inl rfl)) (fun _k hk => .inl hk)).trans (frm_set _ _ _ _ (F := fun k => k = g) (.inl rfl)) (fun _k hk => .inl hk)).trans (frm_set _ _ _ _ (F := fun k => k = g) (.inl rfl)) (fun _k hk => .inl hk)).trans (frm_set _ _ _ _ (F := fun k => k = g) (.inl rfl)) (fun _k hk => .inl hk)⟩
theorem LogO.frmF {w w' : World} {B lb : Nat} {vC : Value} {mb : Nat} {E : List (Pt × Value × List Nat)} {L : List Cm} {g : Nat} {cs : Array Value} {T : TypeId} (h : LogO w B lb vC mb E L) (hf : Frm w w' (fun k => k = g)) (hg : Blk w g cs T) (hT : ¬ (T = 77 ∨ T = 80 ∨ T = 23 ∨ T = 39 ∨ T = 103)) : LogO w' B lb vC mb E L := by
  have hk : ∀ {k : Nat} {cs' : Array Value} {T' : TypeId}, T' ≠ T → w.heap[k]? = some (.cells cs' T' (0, 0)) → w'.heap[k]? = w.heap[k]? := fun {k cs' T'} hn hk => hf.block k (Array.getElem?_eq_some_iff.1 hk).1 (fun e => by
    subst e
    rw [show w.heap[k]? = some (.cells cs T (0, 0)) from hg] at hk
    cases hk
    exact hn rfl)
  have hm : w'.heap[mb]? = w.heap[mb]? := by
    obtain ⟨es, c, h3, _⟩ := h.sts.map.f
    exact hf.block mb (Array.getElem?_eq_some_iff.1 h3).1 (fun e => by
      subst e
      rw [show w.heap[mb]? = some (.cells cs T (0, 0)) from hg] at h3
      cases h3)
  exact ⟨(hk (fun e => hT (.inl e.symm)) h.blk).trans h.blk, h.lbB, h.mbB, h.com.by (fun g' hg' => by
    obtain ⟨_, cur, h2⟩ := h.com.blk hg'
    exact hk (fun e => hT (.inr (.inl e.symm))) h2), fun c hc => ⟨ownsRow_by (h.ft c hc).p (fun _ _ _ hg' => hk (fun e => hT (.inr (.inr (.inr (.inl e.symm))))) hg'), ownsRow_by (h.ft c hc).s (fun _ _ _ hg' => hk (fun e => hT (.inr (.inr (.inr (.inr e.symm))))) hg'), ownsRow_by (h.ft c hc).w (fun _ _ _ hg' => hk (fun e => hT (.inr (.inr (.inr (.inl e.symm))))) hg')⟩, h.sts.by hm (fun g' cur hg' => hk (fun e => hT (.inr (.inr (.inl e.symm)))) hg'), h.inv⟩
set_option maxHeartbeats 8000000 in
theorem commit_any (a : Ft) (va0 va1 va2 : Value) (B lb fr la : Nat) (lv : Int) (vC : Value) (mb : Nat) (E : List (Pt × Value × List Nat)) (L : List Cm) (w : World) (hX : LogO w B lb vC mb E L) (ha : RdF w va0 va1 va2 a) (hfr : fr < 18446744073709551616) (hla : la ≤ 4611686018427387904) (hlL : lastC L ≤ la) (hlen : L.length < 4096) :
    Calls Tryz.prog 41 #[ptr1 lb, .agg #[.int .u64 (fr : Nat), va0, va1, va2, .int .i64 lv], .int .u64 (la : Nat)] w fun e w' => ∃ f la' vC' E' L', e = .returned (.agg f.cells.toArray) ∧ LogO w' B lb vC' mb E' L' ∧ StpQ ⟨fr, a, lv, va0, va1, va2⟩ la L f la' L' ∧ la' = max la f.st ∧ Frm w w' (FB B w) := by
  obtain ⟨p0, c0, e0, -⟩ := ha.p.f
  obtain ⟨p1, c1, e1, -⟩ := ha.s.f
  obtain ⟨p2, c2, e2, -⟩ := ha.w.f
  obtain ⟨n0, hn0⟩ : ∃ n, a.P.length = n := ⟨_, rfl⟩
  obtain ⟨n1, hn1⟩ : ∃ n, a.S.length = n := ⟨_, rfl⟩
  obtain ⟨n2, hn2⟩ : ∃ n, a.W.length = n := ⟨_, rfl⟩
  rw [hn0] at e0
  rw [hn1] at e1
  rw [hn2] at e2
  subst e0 e1 e2
  clear hn0 hn1 hn2
  have HSt : Hid (la ≤ 4611686018427387904 ∧ lastC L ≤ la ∧ L.length < 4096) := ⟨hla, hlL, hlen⟩
  obtain ⟨w2, hw2⟩ : ∃ w2, ((w.alloc (.cells #[.int .u64 (fr : Nat), .slice p0 n0 c0, .slice p1 n1 c1, .slice p2 n2 c2, .int .i64 lv] 48)).alloc (.cells #[.int .u64 0, .int .i64 0, .int .u64 0, .int .i64 0, .int .i64 0, .string ⟨#[]⟩] 59)) = w2 := ⟨_, rfl⟩
  have HB2 : Hid (Below w.heap.size w w2) := by rw [← hw2]; exact ((Below.refl _ _).alloc (Nat.le_refl _) _).alloc (by simp) _
  have HKA : Hid (Blk w2 w.heap.size #[.int .u64 (fr : Nat), .slice p0 n0 c0, .slice p1 n1 c1, .slice p2 n2 c2, .int .i64 lv] 48) := by rw [← hw2]; exact (Blk.new w _ _).keep (B := w.heap.size + 1) ((Below.refl _ _).alloc (by simp) _) (by omega)
  have HKB : Hid (Blk w2 (w.heap.size + 1) #[.int .u64 0, .int .i64 0, .int .u64 0, .int .i64 0, .int .i64 0, .string ⟨#[]⟩] 59) := by
    rw [← hw2]
    have h := Blk.new (w.alloc (.cells #[.int .u64 (fr : Nat), .slice p0 n0 c0, .slice p1 n1 c1, .slice p2 n2 c2, .int .i64 lv] 48)) #[.int .u64 0, .int .i64 0, .int .u64 0, .int .i64 0, .int .i64 0, .string ⟨#[]⟩] 59
    rw [World.size_alloc] at h
    exact h
  have HX2 : Hid (LogO w2 B lb vC mb E L) := hX.on HB2.out
  have HA2 : Hid (RdF w2 _ _ _ a) := ha.on HB2.out
  have CT : Hid (Calls _ _ _ _ _) := try_any a _ _ _ lb fr lv vC mb _ L w2 HX2.out.x HA2.out hfr
  have k0 := HKA.out.cell (i := 0) rfl
  have k1 := HKA.out.cell (i := 1) rfl
  have k2 := HKA.out.cell (i := 2) rfl
  have k3 := HKA.out.cell (i := 3) rfl
  have k4 := HKA.out.cell (i := 4) rfl
  clear hX ha hfr hla hlL hlen
  go_enter Tryz.func41, Tryz.ntmps41
  go_wp2_with fail
  clear k0 k1 k2 k3 k4 hw2
  refine CT.out.mono ?_
  rintro e w3 ⟨q, er, rfl, hq, hb3⟩
  clear CT
  have HQ : Hid (TryQ a fr lv L q er) := hq
  rw [clA_eq]
  obtain ⟨⟨m, x⟩, hx⟩ : ∃ y, clC q = y := ⟨_, rfl⟩
  rw [hx]
  have HL : Hid (clC q = (m, x)) := hx
  clear hx hq
  dsimp only
  obtain ⟨wb, hwb⟩ : ∃ wb, w3.alloc (.cells #[.int .u64 (m : Nat), .int .i64 x.t, .int .i64 x.i, .string x.k] 41) = wb := ⟨_, rfl⟩
  have hal : Below w2.heap.size w2 wb := by rw [← hwb]; exact hb3.trans ((Below.refl _ _).alloc hb3.size _)
  have HKc : Hid (Blk wb w3.heap.size #[.int .u64 (m : Nat), .int .i64 x.t, .int .i64 x.i, .string x.k] 41) := by rw [← hwb]; exact Blk.new w3 _ _
  have HXb : Hid (LogO wb B lb vC mb E L) := HX2.out.on hal
  have HAb : Hid (RdF wb _ _ _ a) := HA2.out.on hal
  have HKb : Hid (Blk wb w.heap.size #[.int .u64 (fr : Nat), .slice p0 n0 c0, .slice p1 n1 c1, .slice p2 n2 c2, .int .i64 lv] 48) := HKA.out.on hal
  have HZb : Hid (Blk wb (w.heap.size + 1) #[.int .u64 0, .int .i64 0, .int .u64 0, .int .i64 0, .int .i64 0, .string ⟨#[]⟩] 59) := HKB.out.on hal
  have HBb : Hid (Below w.heap.size w wb) := HB2.out.trans (hal.mono HB2.out.size)
  clear hal hb3 HX2 HA2 HKA HKB HB2
  by_cases her : er = 0
  · subst her
    obtain ⟨hca, hqn, -⟩ := HQ.out.zero
    subst hqn
    by_cases hmx : la = 4611686018427387904
    · subst hmx
      have z0 := HZb.out.cell (i := 0) rfl
      have f0 := HZb.out.frozen 0
      have z1 := HZb.out.cell (i := 1) rfl
      have f1 := HZb.out.frozen 1
      have z2 := HZb.out.cell (i := 2) rfl
      have f2 := HZb.out.frozen 2
      have z3 := HZb.out.cell (i := 3) rfl
      have f3 := HZb.out.frozen 3
      have z4 := HZb.out.cell (i := 4) rfl
      have f4 := HZb.out.frozen 4
      have z5 := HZb.out.cell (i := 5) rfl
      have f5 := HZb.out.frozen 5
      have H6 : Hid (Blk ((((((wb.setCell ⟨w.heap.size + 1, 0, none⟩ (.int .u64 0)).setCell ⟨w.heap.size + 1, 1, none⟩ (.int .i64 4)).setCell ⟨w.heap.size + 1, 2, none⟩ (.int .u64 0)).setCell ⟨w.heap.size + 1, 3, none⟩ (.int .i64 0)).setCell ⟨w.heap.size + 1, 4, none⟩ (.int .i64 0)).setCell ⟨w.heap.size + 1, 5, none⟩ (.string ⟨#[]⟩)) (w.heap.size + 1) #[(.int .u64 0), (.int .i64 4), (.int .u64 0), (.int .i64 0), (.int .i64 0), (.string ⟨#[]⟩)] 59 ∧ Frm wb ((((((wb.setCell ⟨w.heap.size + 1, 0, none⟩ (.int .u64 0)).setCell ⟨w.heap.size + 1, 1, none⟩ (.int .i64 4)).setCell ⟨w.heap.size + 1, 2, none⟩ (.int .u64 0)).setCell ⟨w.heap.size + 1, 3, none⟩ (.int .i64 0)).setCell ⟨w.heap.size + 1, 4, none⟩ (.int .i64 0)).setCell ⟨w.heap.size + 1, 5, none⟩ (.string ⟨#[]⟩)) (fun k => k = w.heap.size + 1)) := set6 HZb.out
      go_wp2_with fail
      clear z0 z1 z2 z3 z4 z5 f0 f1 f2 f3 f4 f5 hwb
      generalize ((((((wb.setCell ⟨w.heap.size + 1, 0, none⟩ (.int .u64 0)).setCell ⟨w.heap.size + 1, 1, none⟩ (.int .i64 4)).setCell ⟨w.heap.size + 1, 2, none⟩ (.int .u64 0)).setCell ⟨w.heap.size + 1, 3, none⟩ (.int .i64 0)).setCell ⟨w.heap.size + 1, 4, none⟩ (.int .i64 0)).setCell ⟨w.heap.size + 1, 5, none⟩ (.string ⟨#[]⟩)) = wz at *
      have r0 := H6.out.1.cell (i := 0) rfl
      have r1 := H6.out.1.cell (i := 1) rfl
      have r2 := H6.out.1.cell (i := 2) rfl
      have r3 := H6.out.1.cell (i := 3) rfl
      have r4 := H6.out.1.cell (i := 4) rfl
      have r5 := H6.out.1.cell (i := 5) rfl
      refine bodyPost_ret (v := .agg #[(.int .u64 0), (.int .i64 4), (.int .u64 0), (.int .i64 0), (.int .i64 0), (.string ⟨#[]⟩)]) (by simp [results, Tryz.results41, go_sem, r0, r1, r2, r3, r4, r5]) rfl ?_
      refine ⟨⟨0, 4, none⟩, 4611686018427387904, vC, E, L, rfl, ?_, ⟨0, HQ.out, .inr (.inl ⟨rfl, rfl, rfl, rfl, rfl, rfl⟩)⟩, rfl, ?_⟩
      · have hb := H6.out.2.below (B := w.heap.size) HBb.out.size (fun k hk => by omega)
        exact HXb.out.frmF H6.out.2 (HZb.out) (by decide)
      · exact FB.of_below (HBb.out.trans (H6.out.2.below HBb.out.size (fun k hk => by omega)))
    · have hml : la < 4611686018427387904 := by have := HSt.out.1; omega
      have hmd : decide ((la : Int) = 4611686018427387904) = false := decide_eq_false (by omega)
      have hmb : ((la : Int) == 4611686018427387904) = false := by simp; omega
      have hwr : IntKind.u64.wrap ((la : Int) + 1) = ((la + 1 : Nat) : Int) := by rw [IntKind.wrap_u64]; omega
      have hne : noteE a (la + 1) (lastC L) L.length = 0 := note4 hca (by omega) (by have := HSt.out.2.1; omega) (by have := HSt.out.2.2; omega)
      have CN : Hid (Calls _ _ _ _ _) := note_any a _ _ _ B lb (la + 1) vC mb E L wb HXb.out HAb.out (by omega)
      have l1 := HKb.out.cell (i := 1) rfl
      have l2 := HKb.out.cell (i := 2) rfl
      have l3 := HKb.out.cell (i := 3) rfl
      have HNe : Hid (noteE a (la + 1) (lastC L) L.length = 0) := hne
      have HMl : Hid (la < 4611686018427387904) := hml
      obtain ⟨lz, hlz⟩ : ∃ lz, la + 1 = lz := ⟨_, rfl⟩
      rw [hlz] at CN hwr
      have HLz : Hid (la + 1 = lz) := hlz
      clear hca hmx hml hne hlz
      go_wp2_with fail
      clear l1 l2 l3 hwb hmd hmb
      refine CN.out.mono ?_
      rintro e w4 ⟨rfl, vC4, E4, L4, hX4, hN4, hF4⟩
      clear CN
      have HX4 : Hid (LogO w4 B lb vC4 mb E4 L4) := hX4
      have HN4 : Hid (NtL a lz L L4) := hN4
      have HF4 : Hid (Frm w w4 (FB B w)) := FB.trans (FB.of_below HBb.out) hF4
      have HZ4 : Hid (Blk w4 (w.heap.size + 1) #[.int .u64 0, .int .i64 0, .int .u64 0, .int .i64 0, .int .i64 0, .string ⟨#[]⟩] 59) := (FB.other hF4 HZb.out (by decide)).trans HZb.out
      clear hX4 hN4 hF4 HXb HAb HKb HZb HBb HKc
      have z0 := HZ4.out.cell (i := 0) rfl
      have f0 := HZ4.out.frozen 0
      have z1 := HZ4.out.cell (i := 1) rfl
      have f1 := HZ4.out.frozen 1
      have z2 := HZ4.out.cell (i := 2) rfl
      have f2 := HZ4.out.frozen 2
      have z3 := HZ4.out.cell (i := 3) rfl
      have f3 := HZ4.out.frozen 3
      have z4 := HZ4.out.cell (i := 4) rfl
      have f4 := HZ4.out.frozen 4
      have z5 := HZ4.out.cell (i := 5) rfl
      have f5 := HZ4.out.frozen 5
      have H6 : Hid (Blk ((((((w4.setCell ⟨w.heap.size + 1, 0, none⟩ (.int .u64 (lz : Nat))).setCell ⟨w.heap.size + 1, 1, none⟩ (.int .i64 0)).setCell ⟨w.heap.size + 1, 2, none⟩ (.int .u64 0)).setCell ⟨w.heap.size + 1, 3, none⟩ (.int .i64 0)).setCell ⟨w.heap.size + 1, 4, none⟩ (.int .i64 0)).setCell ⟨w.heap.size + 1, 5, none⟩ (.string ⟨#[]⟩)) (w.heap.size + 1) #[(.int .u64 (lz : Nat)), (.int .i64 0), (.int .u64 0), (.int .i64 0), (.int .i64 0), (.string ⟨#[]⟩)] 59 ∧ Frm w4 ((((((w4.setCell ⟨w.heap.size + 1, 0, none⟩ (.int .u64 (lz : Nat))).setCell ⟨w.heap.size + 1, 1, none⟩ (.int .i64 0)).setCell ⟨w.heap.size + 1, 2, none⟩ (.int .u64 0)).setCell ⟨w.heap.size + 1, 3, none⟩ (.int .i64 0)).setCell ⟨w.heap.size + 1, 4, none⟩ (.int .i64 0)).setCell ⟨w.heap.size + 1, 5, none⟩ (.string ⟨#[]⟩)) (fun k => k = w.heap.size + 1)) := set6 HZ4.out
      go_wp2_with fail
      clear z0 z1 z2 z3 z4 z5 f0 f1 f2 f3 f4 f5 hwr
      generalize ((((((w4.setCell ⟨w.heap.size + 1, 0, none⟩ (.int .u64 (lz : Nat))).setCell ⟨w.heap.size + 1, 1, none⟩ (.int .i64 0)).setCell ⟨w.heap.size + 1, 2, none⟩ (.int .u64 0)).setCell ⟨w.heap.size + 1, 3, none⟩ (.int .i64 0)).setCell ⟨w.heap.size + 1, 4, none⟩ (.int .i64 0)).setCell ⟨w.heap.size + 1, 5, none⟩ (.string ⟨#[]⟩)) = wz at *
      have r0 := H6.out.1.cell (i := 0) rfl
      have r1 := H6.out.1.cell (i := 1) rfl
      have r2 := H6.out.1.cell (i := 2) rfl
      have r3 := H6.out.1.cell (i := 3) rfl
      have r4 := H6.out.1.cell (i := 4) rfl
      have r5 := H6.out.1.cell (i := 5) rfl
      refine bodyPost_ret (v := .agg #[(.int .u64 (lz : Nat)), (.int .i64 0), (.int .u64 0), (.int .i64 0), (.int .i64 0), (.string ⟨#[]⟩)]) (by simp [results, Tryz.results41, go_sem, r0, r1, r2, r3, r4, r5]) rfl ?_
      have hlz := HLz.out
      subst hlz
      obtain ⟨c, rfl, h1, h2⟩ := HN4.out.2 HNe.out
      refine ⟨⟨la + 1, 0, none⟩, la + 1, vC4, E4, L ++ [c], rfl, HX4.out.frmF H6.out.2 HZ4.out (by decide), ⟨0, HQ.out, .inr (.inr ⟨rfl, HMl.out, rfl, rfl, rfl, c, rfl, h1, h2, HX4.out.inv⟩)⟩, by simp only; omega, ?_⟩
      exact HF4.out.trans H6.out.2 (fun k hk => .inr (by omega))
  · have HEr : Hid (er ≠ 0) := her
    have y0 := HKc.out.cell (i := 0) rfl
    have y1 := HKc.out.cell (i := 1) rfl
    have y2 := HKc.out.cell (i := 2) rfl
    have y3 := HKc.out.cell (i := 3) rfl
    have z0 := HZb.out.cell (i := 0) rfl
    have f0 := HZb.out.frozen 0
    have z1 := HZb.out.cell (i := 1) rfl
    have f1 := HZb.out.frozen 1
    have z2 := HZb.out.cell (i := 2) rfl
    have f2 := HZb.out.frozen 2
    have z3 := HZb.out.cell (i := 3) rfl
    have f3 := HZb.out.frozen 3
    have z4 := HZb.out.cell (i := 4) rfl
    have f4 := HZb.out.frozen 4
    have z5 := HZb.out.cell (i := 5) rfl
    have f5 := HZb.out.frozen 5
    have H6 : Hid (Blk ((((((wb.setCell ⟨w.heap.size + 1, 0, none⟩ (.int .u64 0)).setCell ⟨w.heap.size + 1, 1, none⟩ (.int .i64 er)).setCell ⟨w.heap.size + 1, 2, none⟩ (.int .u64 (m : Nat))).setCell ⟨w.heap.size + 1, 3, none⟩ (.int .i64 x.t)).setCell ⟨w.heap.size + 1, 4, none⟩ (.int .i64 x.i)).setCell ⟨w.heap.size + 1, 5, none⟩ (.string x.k)) (w.heap.size + 1) #[(.int .u64 0), (.int .i64 er), (.int .u64 (m : Nat)), (.int .i64 x.t), (.int .i64 x.i), (.string x.k)] 59 ∧ Frm wb ((((((wb.setCell ⟨w.heap.size + 1, 0, none⟩ (.int .u64 0)).setCell ⟨w.heap.size + 1, 1, none⟩ (.int .i64 er)).setCell ⟨w.heap.size + 1, 2, none⟩ (.int .u64 (m : Nat))).setCell ⟨w.heap.size + 1, 3, none⟩ (.int .i64 x.t)).setCell ⟨w.heap.size + 1, 4, none⟩ (.int .i64 x.i)).setCell ⟨w.heap.size + 1, 5, none⟩ (.string x.k)) (fun k => k = w.heap.size + 1)) := set6 HZb.out
    go_wp2_with fail
    clear z0 z1 z2 z3 z4 z5 f0 f1 f2 f3 f4 f5 hwb y0 y1 y2 y3
    generalize ((((((wb.setCell ⟨w.heap.size + 1, 0, none⟩ (.int .u64 0)).setCell ⟨w.heap.size + 1, 1, none⟩ (.int .i64 er)).setCell ⟨w.heap.size + 1, 2, none⟩ (.int .u64 (m : Nat))).setCell ⟨w.heap.size + 1, 3, none⟩ (.int .i64 x.t)).setCell ⟨w.heap.size + 1, 4, none⟩ (.int .i64 x.i)).setCell ⟨w.heap.size + 1, 5, none⟩ (.string x.k)) = wz at *
    have r0 := H6.out.1.cell (i := 0) rfl
    have r1 := H6.out.1.cell (i := 1) rfl
    have r2 := H6.out.1.cell (i := 2) rfl
    have r3 := H6.out.1.cell (i := 3) rfl
    have r4 := H6.out.1.cell (i := 4) rfl
    have r5 := H6.out.1.cell (i := 5) rfl
    refine bodyPost_ret (v := .agg #[(.int .u64 0), (.int .i64 er), (.int .u64 (m : Nat)), (.int .i64 x.t), (.int .i64 x.i), (.string x.k)]) (by simp [results, Tryz.results41, go_sem, r0, r1, r2, r3, r4, r5]) rfl ?_
    refine ⟨⟨0, er, q⟩, la, vC, E, L, ?_, HXb.out.frmF H6.out.2 HZb.out (by decide), ⟨er, HQ.out, .inl ⟨HEr.out, rfl, rfl, rfl, rfl⟩⟩, by simp, ?_⟩
    · simp only [Fa.cells, HL.out]
      rfl
    · exact FB.of_below (HBb.out.trans (H6.out.2.below HBb.out.size (fun k hk => by omega)))

end Go.Proofs.YtcknhjabdjbjiaaGreat

namespace Go.Proofs.YtcknhjabdjbjiaaGreat
open Go.RowKit
set_option maxRecDepth 100000

/-- attempts that are handed in -/
structure RdAt (w : World) (v : Value) (A : List At) : Prop where
  f : ∃ p c, v = .slice p A.length c ∧ A.length ≤ c ∧ A.length ≤ 4398046511104 ∧ ∀ i (hi : i < A.length), ∃ b o, p = some ⟨b, o, none⟩ ∧ b < w.heap.size ∧ w.cell? ⟨b, o + i * 5, none⟩ = some (.int .u64 (A[i].fr : Nat)) ∧ w.cell? ⟨b, o + i * 5 + 1, none⟩ = some A[i].v0 ∧ w.cell? ⟨b, o + i * 5 + 2, none⟩ = some A[i].v1 ∧ w.cell? ⟨b, o + i * 5 + 3, none⟩ = some A[i].v2 ∧ w.cell? ⟨b, o + i * 5 + 4, none⟩ = some (.int .i64 A[i].lv)
  ft : ∀ c ∈ A, RdF w c.v0 c.v1 c.v2 c.a ∧ c.fr < 18446744073709551616
theorem RdAt.on {w w' : World} {v : Value} {A : List At} (h : RdAt w v A) (hb : Below w.heap.size w w') : RdAt w' v A := by
  obtain ⟨p, c, e, h1, h2, h3⟩ := h.f
  refine ⟨⟨p, c, e, h1, h2, fun i hi => ?_⟩, fun c hc => ⟨(h.ft c hc).1.on hb, (h.ft c hc).2⟩⟩
  obtain ⟨b, o, e, hbB, c0, c1, c2, c3, c4⟩ := h3 i hi
  have k : ∀ {o : Nat} {v : Option Value}, w.cell? ⟨b, o, none⟩ = v → w'.cell? ⟨b, o, none⟩ = v := fun {o v} hc => (hb.cell (p := ⟨b, o, none⟩) hbB).trans hc
  exact ⟨b, o, e, Nat.lt_of_lt_of_le hbB hb.size, k c0, k c1, k c2, k c3, k c4⟩
/-- what became of attempts (the latest first), the last stamp that was given being l0 at first and la then -/
def RunR (l0 : Nat) : List At → List Fa → Nat → List Cm → Prop
  | [], [], la, L => la = l0 ∧ L = []
  | x :: A, f :: F, la, L => ∃ la' L', RunR l0 A F la' L' ∧ StpQ x la' L' f la L
  | _, _, _, _ => False
theorem StpQ.same {x : At} {la la1 la2 : Nat} {L M L1 M1 : List Cm} {f g : Fa} (hs : SamC L M) (hI : InvC M) (h : StpQ x la L f la1 L1) (h' : StpQ x la M g la2 M1) : f = g ∧ la1 = la2 ∧ SamC L1 M1 ∧ (InvC M1) := by
  obtain ⟨er, h1, h2⟩ := h
  obtain ⟨er', k1, k2⟩ := h'
  obtain ⟨eq, ee⟩ := TryQ.uniq hI (h1.sam hs) k1
  subst ee
  obtain ⟨st, fe, fq⟩ := f
  obtain ⟨st', fe', fq'⟩ := g
  dsimp only at *
  subst eq
  rcases h2 with ⟨a1, a2, a3, a4, a5⟩ | ⟨a1, a2, a3, a4, a5, a6⟩ | ⟨a1, a2, a3, a4, a5, c, a6, a7, a8, a9⟩
  · rcases k2 with ⟨b1, b2, b3, b4, b5⟩ | ⟨b1, _⟩ | ⟨b1, _⟩
    · rw [a2, a3, b2, b3, a4, b4, a5, b5]; exact ⟨rfl, rfl, hs, hI⟩
    · exact absurd b1 a1
    · exact absurd b1 a1
  · rcases k2 with ⟨b1, _⟩ | ⟨b1, b2, b3, b4, b5, b6⟩ | ⟨b1, b2, _⟩
    · exact absurd a1 b1
    · rw [a3, a4, a5, a6, b3, b4, b5, b6]; exact ⟨rfl, rfl, hs, hI⟩
    · omega
  · rcases k2 with ⟨b1, _⟩ | ⟨b1, b2, _⟩ | ⟨b1, b2, b3, b4, b5, d, b6, b7, b8, b9⟩
    · exact absurd a1 b1
    · omega
    · rw [a3, a4, a5, b3, b4, b5, a6]
      subst b6
      exact ⟨rfl, rfl, hs.snoc c d (by omega) (fun y => by rw [a8 y, b8 y]), b9⟩
theorem RunR.same {l0 : Nat} : ∀ {A : List At} {F G : List Fa} {la la' : Nat} {L M : List Cm}, RunR l0 A F la L → RunR l0 A G la' M → F = G ∧ la = la' ∧ SamC L M ∧ InvC M
  | [], [], [], _, _, _, _, ⟨e1, e2⟩, ⟨e3, e4⟩ => by
    subst e2 e4
    exact ⟨rfl, by omega, SamC.nil, ⟨fun i j hi => absurd hi (by simp), by simp, by simp, by simp, by simp⟩⟩
  | x :: A, f :: F, g :: G, _, _, _, _, ⟨l1, L1, h1, h2⟩, ⟨l2, L2, h3, h4⟩ => by
    obtain ⟨rfl, rfl, hs, hI⟩ := RunR.same h1 h3
    obtain ⟨rfl, e, hs2, hI2⟩ := h2.same hs hI h4
    exact ⟨rfl, e, hs2, hI2⟩
theorem RunR.len {l0 : Nat} : ∀ {A : List At} {F : List Fa} {la : Nat} {L : List Cm}, RunR l0 A F la L → F.length = A.length
  | [], [], _, _, _ => rfl
  | x :: A, f :: F, _, _, ⟨l1, L1, h1, h2⟩ => by simp [RunR.len h1]
/-- fates in a block: the first of them -/
def BkF (w : World) (g n : Nat) (F : List Fa) : Prop := ∃ cs : Array Value, Blk w g cs 59 ∧ cs.size = n * 6 ∧ ∀ i (hi : i < F.length) k, k < 6 → cs[i * 6 + k]? = F[i].cells[k]?
theorem BkF.on {w w' : World} {g n : Nat} {F : List Fa} (h : BkF w g n F) (hb : Below w.heap.size w w') : BkF w' g n F := by
  obtain ⟨cs, h1, h2⟩ := h
  exact ⟨cs, h1.on hb, h2⟩
theorem BkF.fb {w w' : World} {g n B : Nat} {F : List Fa} (h : BkF w g n F) (hf : Frm w w' (FB B w)) : BkF w' g n F := by
  obtain ⟨cs, h1, h2⟩ := h
  exact ⟨cs, (FB.other hf h1 (by decide)).trans h1, h2⟩
theorem BkF.cell {w : World} {g n : Nat} {F : List Fa} (h : BkF w g n F) (i : Nat) (hi : i < F.length) : w.cell? ⟨g, i * 6, none⟩ = some (.int .u64 (F[i].st : Nat)) ∧ w.cell? ⟨g, i * 6 + 1, none⟩ = some (.int .i64 F[i].er) ∧ w.cell? ⟨g, i * 6 + 2, none⟩ = some (.int .u64 ((clC F[i].q).1 : Nat)) ∧ w.cell? ⟨g, i * 6 + 3, none⟩ = some (.int .i64 (clC F[i].q).2.t) ∧ w.cell? ⟨g, i * 6 + 4, none⟩ = some (.int .i64 (clC F[i].q).2.i) ∧ w.cell? ⟨g, i * 6 + 5, none⟩ = some (.string (clC F[i].q).2.k) := by
  obtain ⟨cs, h1, _, h3⟩ := h
  exact ⟨h1.cell (h3 i hi 0 (by omega)), h1.cell (h3 i hi 1 (by omega)), h1.cell (h3 i hi 2 (by omega)), h1.cell (h3 i hi 3 (by omega)), h1.cell (h3 i hi 4 (by omega)), h1.cell (h3 i hi 5 (by omega))⟩
theorem BkF.room {w : World} {g n : Nat} {F : List Fa} (h : BkF w g n F) (j : Nat) (hj : j < n) : ∃ a b c d e f, w.cell? ⟨g, j * 6, none⟩ = some a ∧ w.cell? ⟨g, j * 6 + 1, none⟩ = some b ∧ w.cell? ⟨g, j * 6 + 2, none⟩ = some c ∧ w.cell? ⟨g, j * 6 + 3, none⟩ = some d ∧ w.cell? ⟨g, j * 6 + 4, none⟩ = some e ∧ w.cell? ⟨g, j * 6 + 5, none⟩ = some f := by
  obtain ⟨cs, h1, h2, _⟩ := h
  exact ⟨_, _, _, _, _, _, h1.cell (Array.getElem?_eq_getElem (by omega)), h1.cell (Array.getElem?_eq_getElem (by omega)), h1.cell (Array.getElem?_eq_getElem (by omega)), h1.cell (Array.getElem?_eq_getElem (by omega)), h1.cell (Array.getElem?_eq_getElem (by omega)), h1.cell (Array.getElem?_eq_getElem (by omega))⟩
theorem BkF.frozen {w : World} {g n : Nat} {F : List Fa} (h : BkF w g n F) (i : Nat) : w.frozen? ⟨g, i, none⟩ = false := by
  obtain ⟨cs, h1, _⟩ := h
  exact h1.frozen i
theorem BkF.snoc {w : World} {g n : Nat} {F : List Fa} (h : BkF w g n F) (f : Fa) (hn : F.length < n) : BkF ((((((w.setCell ⟨g, F.length * 6, none⟩ (.int .u64 (f.st : Nat))).setCell ⟨g, F.length * 6 + 1, none⟩ (.int .i64 f.er)).setCell ⟨g, F.length * 6 + 2, none⟩ (.int .u64 ((clC f.q).1 : Nat))).setCell ⟨g, F.length * 6 + 3, none⟩ (.int .i64 (clC f.q).2.t)).setCell ⟨g, F.length * 6 + 4, none⟩ (.int .i64 (clC f.q).2.i)).setCell ⟨g, F.length * 6 + 5, none⟩ (.string (clC f.q).2.k)) g n (F ++ [f]) ∧ Frm w ((((((w.setCell ⟨g, F.length * 6, none⟩ (.int .u64 (f.st : Nat))).setCell ⟨g, F.length * 6 + 1, none⟩ (.int .i64 f.er)).setCell ⟨g, F.length * 6 + 2, none⟩ (.int .u64 ((clC f.q).1 : Nat))).setCell ⟨g, F.length * 6 + 3, none⟩ (.int .i64 (clC f.q).2.t)).setCell ⟨g, F.length * 6 + 4, none⟩ (.int .i64 (clC f.q).2.i)).setCell ⟨g, F.length * 6 + 5, none⟩ (.string (clC f.q).2.k)) (fun k => k = g) := by
  obtain ⟨cs, h1, h2, h3⟩ := h
  refine ⟨⟨_, (((((h1.set _ _).set _ _).set _ _).set _ _).set _ _).set _ _, by simp [h2], fun i hi k hk => ?_⟩, (((((frm_set _ _ _ _ (F := fun k => k = g) (.inl rfl)).trans (frm_set _ _ _ _ (F := fun k => k = g) (.inl rfl)) (fun k hk => .inl hk)).trans (frm_set _ _ _ _ (F := fun k => k = g) (.inl rfl)) (fun k hk => .inl hk)).trans (frm_set _ _ _ _ (F := fun k => k = g) (.inl rfl)) (fun k hk => .inl hk)).trans (frm_set _ _ _ _ (F := fun k => k = g) (.inl rfl)) (fun k hk => .inl hk)).trans (frm_set _ _ _ _ (F := fun k => k = g) (.inl rfl)) (fun k hk => .inl hk)⟩
  rw [List.length_append, List.length_singleton] at hi
  by_cases hi2 : i < F.length
  · rw [List.getElem_append_left hi2]
    rw [Array.getElem?_setIfInBounds_ne (by omega), Array.getElem?_setIfInBounds_ne (by omega), Array.getElem?_setIfInBounds_ne (by omega), Array.getElem?_setIfInBounds_ne (by omega), Array.getElem?_setIfInBounds_ne (by omega), Array.getElem?_setIfInBounds_ne (by omega)]
    exact h3 i hi2 k hk
  · have hi3 : i = F.length := by omega
    subst hi3
    rw [List.getElem_append_right (Nat.le_refl _)]
    have hk6 : k = 0 ∨ k = 1 ∨ k = 2 ∨ k = 3 ∨ k = 4 ∨ k = 5 := by omega
    have hsz : F.length * 6 + 5 < cs.size := by omega
    rcases hk6 with rfl | rfl | rfl | rfl | rfl | rfl
    all_goals simp [Array.getElem?_setIfInBounds, Fa.cells]
    all_goals omega

end Go.Proofs.YtcknhjabdjbjiaaGreat
