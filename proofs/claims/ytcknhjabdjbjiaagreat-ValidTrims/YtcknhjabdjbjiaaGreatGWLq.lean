/- What both sides tell is the same. commit: what becomes of an attempt behind the last stamp that was given. -/
import Derived.Test.YtcknhjabdjbjiaaGreatGWLg15
import Derived.Test.YtcknhjabdjbjiaaGreatGWLg12
namespace Go.Proofs.YtcknhjabdjbjiaaGreat
open Go.RowKit
set_option maxRecDepth 100000

/-- a clash in its parts -/
def clC (q : Option (Nat × Pt)) : Nat × Pt := q.getD (0, ⟨0, 0, ⟨#[]⟩⟩)
theorem clA_eq (q : Option (Nat × Pt)) : clA q = .agg #[.int .u64 ((clC q).1 : Nat), .int .i64 (clC q).2.t, .int .i64 (clC q).2.i, .string (clC q).2.k] := by cases q <;> rfl
theorem clV_eq (q : Option (Nat × Pt)) : clV q = .tuple #[.agg #[.int .u64 ((clC q).1 : Nat), .int .i64 (clC q).2.t, .int .i64 (clC q).2.i, .string (clC q).2.k], .bool q.isSome] := by cases q <;> rfl
theorem FstO.uniq {M : List Cm} {fr : Nat} {P : Pt → Prop} (hI : InvC M) : ∀ {q q' : Option (Nat × Pt)}, FstO M fr P q → FstO M fr P q' → q = q'
  | none, none, _, _ => rfl
  | none, some q', h, h' => by
    obtain ⟨c, hc, e, hf, hm, _⟩ := h'
    exact absurd hm.1.2 (h c hc (by omega) _ hm.1.1)
  | some q, none, h, h' => by
    obtain ⟨c, hc, e, hf, hm, _⟩ := h
    exact absurd hm.1.2 (h' c hc (by omega) _ hm.1.1)
  | some (m, x), some (m', x'), h, h' => by
    obtain ⟨c, hc, e, hf, hm, hl⟩ := h
    obtain ⟨c', hc', e', hf', hm', hl'⟩ := h'
    dsimp only at e e' hf hf' hl hl' hm hm'
    have h1 : ¬ m < m' := fun hlt => hl' c hc (by omega) (by omega) x hm.1.1 hm.1.2
    have h2 : ¬ m' < m := fun hlt => hl c' hc' (by omega) (by omega) x' hm'.1.1 hm'.1.2
    have h3 : m = m' := by omega
    obtain ⟨i, hi, rfl⟩ := List.getElem_of_mem hc
    obtain ⟨j, hj, rfl⟩ := List.getElem_of_mem hc'
    have hij : i = j := by
      rcases Nat.lt_trichotomy i j with h | h | h
      · have := hI.ris i j hi hj h; omega
      · exact h
      · have := hI.ris j i hj hi h; omega
    subst hij
    have := Option.some.inj (hm.uniq hm')
    rw [h3, this]
theorem RdQ.same {a : Ft} {L M : List Cm} {fr : Nat} {q q' : Option (Nat × Pt)} (hs : SamC L M) (hI : InvC M) (h : RdQ a L fr q) (h' : RdQ a M fr q') : q' = q := by
  by_cases hc : chkF a = 0
  · exact FstO.uniq hI (h'.ok hc) (hs.fst (h.ok hc))
  · rw [h.bad hc, h'.bad hc]
theorem WrQ.same {a : Ft} {L M : List Cm} {fr : Nat} {q q' : Option (Nat × Pt)} (hs : SamC L M) (hI : InvC M) (h : WrQ a L fr q) (h' : WrQ a M fr q') : q' = q := by
  by_cases hc : chkF a = 0
  · exact FstO.uniq hI (h'.ok hc) (hs.fst (h.ok hc))
  · rw [h.bad hc, h'.bad hc]
theorem TryQ.sam {a : Ft} {fr : Nat} {lv : Int} {L M : List Cm} {q : Option (Nat × Pt)} {er : Int} (hs : SamC L M) (h : TryQ a fr lv L q er) : TryQ a fr lv M q er := by
  rcases h with h | h | ⟨h1, h2, h3, h4, h5⟩ | ⟨h1, h2, h3, h4, h5, h6⟩ | ⟨h1, h2, h3, h4, h5⟩
  · exact .inl h
  · exact .inr (.inl h)
  · exact .inr (.inr (.inl ⟨h1, h2, h3, hs.fst h4, h5⟩))
  · exact .inr (.inr (.inr (.inl ⟨h1, h2, hs.fst h3, h4, hs.fst h5, h6⟩)))
  · exact .inr (.inr (.inr (.inr ⟨h1, h2, fun h => hs.fst (h3 h), fun h => hs.fst (h4 h), h5⟩)))
theorem TryQ.uniq {a : Ft} {fr : Nat} {lv : Int} {M : List Cm} {q q' : Option (Nat × Pt)} {er er' : Int} (hI : InvC M) (h : TryQ a fr lv M q er) (h' : TryQ a fr lv M q' er') : q' = q ∧ er' = er := by
  rcases h with ⟨h1, h2, h3⟩ | ⟨h1, h2, h3, h4⟩ | ⟨h1, h2, ⟨p, h3⟩, h4, h5⟩ | ⟨h1, h2, h3, ⟨p, h4⟩, h5, h6⟩ | ⟨h1, h2, h3, h4, h5, h6⟩ <;>
  rcases h' with ⟨k1, k2, k3⟩ | ⟨k1, k2, k3, k4⟩ | ⟨k1, k2, ⟨p', k3⟩, k4, k5⟩ | ⟨k1, k2, k3, ⟨p', k4⟩, k5, k6⟩ | ⟨k1, k2, k3, k4, k5, k6⟩
  all_goals first
    | exact absurd k1 h1
    | exact absurd h1 k1
    | exact ⟨by rw [h2, k2], by rw [h3, k3]⟩
    | exact ⟨by rw [h3, k3], by rw [h4, k4]⟩
    | (exfalso; omega)
    | exact ⟨FstO.uniq hI k4 h4, by rw [h5, k5]⟩
    | exact ⟨FstO.uniq hI k5 h5, by rw [h6, k6]⟩
    | exact ⟨by rw [h5, k5], by rw [h6, k6]⟩
    | (exfalso; have h7 := FstO.uniq hI h4 k3; rw [h3] at h7; cases h7)
    | (exfalso; have h7 := FstO.uniq hI k4 h3; rw [k3] at h7; cases h7)
    | (exfalso; have h7 := FstO.uniq hI h4 (k3 (by omega)); rw [h3] at h7; cases h7)
    | (exfalso; have h7 := FstO.uniq hI k4 (h3 (by omega)); rw [k3] at h7; cases h7)
    | (exfalso; have h7 := FstO.uniq hI h5 (k4 (by omega)); rw [h4] at h7; cases h7)
    | (exfalso; have h7 := FstO.uniq hI k5 (h4 (by omega)); rw [k4] at h7; cases h7)
set_option maxHeartbeats 2000000 in
theorem sameClash_any (m : Nat) (t i : Int) (k : ByteArray) (w : World) : Calls Tryz.prog 18 #[.agg #[.int .u64 (m : Nat), .int .i64 t, .int .i64 i, .string k], .agg #[.int .u64 (m : Nat), .int .i64 t, .int .i64 i, .string k]] w fun e w' => e = .returned (.bool true) ∧ Below w.heap.size w w' := by
  obtain ⟨w2, hw2⟩ : ∃ w2, ((w.alloc (.cells #[.int .u64 (m : Nat), .int .i64 t, .int .i64 i, .string k] 41)).alloc (.cells #[.int .u64 (m : Nat), .int .i64 t, .int .i64 i, .string k] 41)) = w2 := ⟨_, rfl⟩
  have HB2 : Hid (Below w.heap.size w w2) := by rw [← hw2]; exact ((Below.refl _ _).alloc (Nat.le_refl _) _).alloc (by simp) _
  have HKA : Hid (Blk w2 w.heap.size #[.int .u64 (m : Nat), .int .i64 t, .int .i64 i, .string k] 41) := by rw [← hw2]; exact (Blk.new w _ _).keep (B := w.heap.size + 1) ((Below.refl _ _).alloc (by simp) _) (by omega)
  have HKB : Hid (Blk w2 (w.heap.size + 1) #[.int .u64 (m : Nat), .int .i64 t, .int .i64 i, .string k] 41) := by
    rw [← hw2]
    have h := Blk.new (w.alloc (.cells #[.int .u64 (m : Nat), .int .i64 t, .int .i64 i, .string k] 41)) #[.int .u64 (m : Nat), .int .i64 t, .int .i64 i, .string k] 41
    rw [World.size_alloc] at h
    exact h
  have a0 := HKA.out.cell (i := 0) rfl
  have a1 := HKA.out.cell (i := 1) rfl
  have a2 := HKA.out.cell (i := 2) rfl
  have a3 := HKA.out.cell (i := 3) rfl
  have b0 := HKB.out.cell (i := 0) rfl
  have b1 := HKB.out.cell (i := 1) rfl
  have b2 := HKB.out.cell (i := 2) rfl
  have b3 := HKB.out.cell (i := 3) rfl
  go_enter Tryz.func18, Tryz.ntmps18
  go_wp2_with fail
  go_ret
  exact ⟨by simp, HB2.out⟩

end Go.Proofs.YtcknhjabdjbjiaaGreat

namespace Go.Proofs.YtcknhjabdjbjiaaGreat
open Go.RowKit
set_option maxRecDepth 100000

/-- what became of an attempt -/
structure Fa where
  st : Nat
  er : Int
  q : Option (Nat × Pt)
def Fa.cells (f : Fa) : List Value := [.int .u64 (f.st : Nat), .int .i64 f.er, .int .u64 ((clC f.q).1 : Nat), .int .i64 (clC f.q).2.t, .int .i64 (clC f.q).2.i, .string (clC f.q).2.k]
/-- an attempt -/
structure At where
  fr : Nat
  a : Ft
  lv : Int
  v0 : Value
  v1 : Value
  v2 : Value
/-- an attempt behind some commits, the last stamp that was given being la -/
def StpQ (x : At) (la : Nat) (L : List Cm) (f : Fa) (la' : Nat) (L' : List Cm) : Prop := ∃ er0, TryQ x.a x.fr x.lv L f.q er0 ∧
  ((er0 ≠ 0 ∧ f.er = er0 ∧ f.st = 0 ∧ la' = la ∧ L' = L) ∨ (er0 = 0 ∧ la = 4611686018427387904 ∧ f.er = 4 ∧ f.st = 0 ∧ la' = la ∧ L' = L) ∨
   (er0 = 0 ∧ la < 4611686018427387904 ∧ f.er = 0 ∧ f.st = la + 1 ∧ la' = la + 1 ∧ ∃ c, L' = L ++ [c] ∧ c.s = la + 1 ∧ (∀ y, y ∈ c.W ↔ y ∈ x.a.W) ∧ InvC L'))
theorem TryQ.zero {a : Ft} {fr : Nat} {lv : Int} {L : List Cm} {q : Option (Nat × Pt)} (h : TryQ a fr lv L q 0) : chkF a = 0 ∧ q = none ∧ (lv = 1 ∨ lv = 2 ∨ lv = 3) ∧ (lv = 2 ∨ lv = 3 → FstO L fr a.wrs none) ∧ (lv = 3 → FstO L fr a.rds none) := by
  rcases h with ⟨h1, h2, h3⟩ | ⟨h1, h2, h3, h4⟩ | ⟨h1, h2, h3, h4, h5⟩ | ⟨h1, h2, h3, h4, h5, h6⟩ | ⟨h1, h2, h3, h4, h5, h6⟩
  · exact absurd h3.symm h1
  · cases h4
  · cases h5
  · cases h6
  · exact ⟨h1, h5, h2, h3, h4⟩
theorem set6 {w : World} {g : Nat} {a b c d e f x0 x1 x2 x3 x4 x5 : Value} {T : TypeId} (h : Blk w g #[a, b, c, d, e, f] T) :
    Blk ((((((w.setCell ⟨g, 0, none⟩ x0).setCell ⟨g, 1, none⟩ x1).setCell ⟨g, 2, none⟩ x2).setCell ⟨g, 3, none⟩ x3).setCell ⟨g, 4, none⟩ x4).setCell ⟨g, 5, none⟩ x5) g #[x0, x1, x2, x3, x4, x5] T ∧ Frm w ((((((w.setCell ⟨g, 0, none⟩ x0).setCell ⟨g, 1, none⟩ x1).setCell ⟨g, 2, none⟩ x2).setCell ⟨g, 3, none⟩ x3).setCell ⟨g, 4, none⟩ x4).setCell ⟨g, 5, none⟩ x5) (fun k => k = g) :=
  ⟨(((((h.set 0 _).set 1 _).set 2 _).set 3 _).set 4 _).set 5 _, (((((frm_set _ _ _ _ (F := fun k => k = g) (.inl rfl)).trans (frm_set _ _ _ _ (F := fun k => k = g) (.inl rfl)) (fun _k hk => .inl hk)).trans (frm_set _ _ _ _ (F := fun k => k = g) (.inl rfl)) (fun _k hk => .inl hk)).trans (frm_set _ _ _ _ (F := fun k => k = g) (.inl rfl)) (fun _k hk => .inl hk)).trans (frm_set _ _ _ _ (F := fun k => k = g) (.inl rfl)) (fun _k hk => .inl hk)).trans (frm_set _ _ _ _ (F := fun k => k = g) (.inl rfl)) (fun _k hk => .inl hk)⟩
theorem LogO.frmF {w w' : World} {B lb : Nat} {vC : Value} {mb : Nat} {E : List (Pt × Value × List Nat)} {L : List Cm} {g : Nat} {cs : Array Value} {T : TypeId} (h : LogO w B lb vC mb E L) (hf : Frm w w' (fun k => k = g)) (hg : Blk w g cs T) (hT : ¬ (T = 77 ∨ T = 80 ∨ T = 23 ∨ T = 39 ∨ T = 103)) : LogO w' B lb vC mb E L := by
  have hk : ∀ {k : Nat} {cs' : Array Value} {T' : TypeId}, T' ≠ T → w.heap[k]? = some (.cells cs' T' (0, 0)) → w'.heap[k]? = w.heap[k]? := fun {k cs' T'} hn hk => hf.block k (Array.getElem?_eq_some_iff.1 hk).1 (fun e => by
    subst e
    rw [show w.heap[k]? = some (.cells cs T (0, 0)) from hg] at hk
    cases hk
    exact hn rfl)
  have hm : w'.heap[mb]? = w.heap[mb]? := by
    obtain ⟨es, c, h3, _⟩ := h.sts.map.f
    exact hf.block mb (Array.getElem?_eq_some_iff.1 h3).1 (fun e => by
      subst e
      rw [show w.heap[mb]? = some (.cells cs T (0, 0)) from hg] at h3
      cases h3)
  exact ⟨(hk (fun e => hT (.inl e.symm)) h.blk).trans h.blk, h.lbB, h.mbB, h.com.by (fun g' hg' => by
    obtain ⟨_, cur, h2⟩ := h.com.blk hg'
    exact hk (fun e => hT (.inr (.inl e.symm))) h2), fun c hc => ⟨ownsRow_by (h.ft c hc).p (fun _ _ _ hg' => hk (fun e => hT (.inr (.inr (.inr (.inl e.symm))))) hg'), ownsRow_by (h.ft c hc).s (fun _ _ _ hg' => hk (fun e => hT (.inr (.inr (.inr (.inr e.symm))))) hg'), ownsRow_by (h.ft c hc).w (fun _ _ _ hg' => hk (fun e => hT (.inr (.inr (.inr (.inl e.symm))))) hg')⟩, h.sts.by hm (fun g' cur hg' => hk (fun e => hT (.inr (.inr (.inl e.symm)))) hg'), h.inv⟩
set_option maxHeartbeats 8000000 in
theorem commit_any (a : Ft) (va0 va1 va2 : Value) (B lb fr la : Nat) (lv : Int) (vC : Value) (mb : Nat) (E : List (Pt × Value × List Nat)) (L : List Cm) (w : World) (hX : LogO w B lb vC mb E L) (ha : RdF w va0 va1 va2 a) (hfr : fr < 18446744073709551616) (hla : la ≤ 4611686018427387904) (hlL : lastC L ≤ la) (hlen : L.length < 4096) :
    Calls Tryz.prog 41 #[ptr1 lb, .agg #[.int .u64 (fr : Nat), va0, va1, va2, .int .i64 lv], .int .u64 (la : Nat)] w fun e w' => ∃ f la' vC' E' L', e = .returned (.agg f.cells.toArray) ∧ LogO w' B lb vC' mb E' L' ∧ StpQ ⟨fr, a, lv, va0, va1, va2⟩ la L f la' L' ∧ la' = max la f.st ∧ Frm w w' (FB B w) := by
  obtain ⟨p0, c0, e0, -⟩ := ha.p.f
  obtain ⟨p1, c1, e1, -⟩ := ha.s.f
  obtain ⟨p2, c2, e2, -⟩ := ha.w.f
  obtain ⟨n0, hn0⟩ : ∃ n, a.P.length = n := ⟨_, rfl⟩
  obtain ⟨n1, hn1⟩ : ∃ n, a.S.length = n := ⟨_, rfl⟩
  obtain ⟨n2, hn2⟩ : ∃ n, a.W.length = n := ⟨_, rfl⟩
  rw [hn0] at e0
  rw [hn1] at e1
  rw [hn2] at e2
  subst e0 e1 e2
  clear hn0 hn1 hn2
  have HSt : Hid (la ≤ 4611686018427387904 ∧ lastC L ≤ la ∧ L.length < 4096) := ⟨hla, hlL, hlen⟩
  obtain ⟨w2, hw2⟩ : ∃ w2, ((w.alloc (.cells #[.int .u64 (fr : Nat), .slice p0 n0 c0, .slice p1 n1 c1, .slice p2 n2 c2, .int .i64 lv] 48)).alloc (.cells #[.int .u64 0, .int .i64 0, .int .u64 0, .int .i64 0, .int .i64 0, .string ⟨#[]⟩] 59)) = w2 := ⟨_, rfl⟩
  have HB2 : Hid (Below w.heap.size w w2) := by rw [← hw2]; exact ((Below.refl _ _).alloc (Nat.le_refl _) _).alloc (by simp) _
  have HKA : Hid (Blk w2 w.heap.size #[.int .u64 (fr : Nat), .slice p0 n0 c0, .slice p1 n1 c1, .slice p2 n2 c2, .int .i64 lv] 48) := by rw [← hw2]; exact (Blk.new w _ _).keep (B := w.heap.size + 1) ((Below.refl _ _).alloc (by simp) _) (by omega)
  have HKB : Hid (Blk w2 (w.heap.size + 1) #[.int .u64 0, .int .i64 0, .int .u64 0, .int .i64 0, .int .i64 0, .string ⟨#[]⟩] 59) := by
    rw [← hw2]
    have h := Blk.new (w.alloc (.cells #[.int .u64 (fr : Nat), .slice p0 n0 c0, .slice p1 n1 c1, .slice p2 n2 c2, .int .i64 lv] 48)) #[.int .u64 0, .int .i64 0, .int .u64 0, .int .i64 0, .int .i64 0, .string ⟨#[]⟩] 59
    rw [World.size_alloc] at h
    exact h
  have HX2 : Hid (LogO w2 B lb vC mb E L) := hX.on HB2.out
  have HA2 : Hid (RdF w2 _ _ _ a) := ha.on HB2.out
  have CT : Hid (Calls _ _ _ _ _) := try_any a _ _ _ lb fr lv vC mb _ L w2 HX2.out.x HA2.out hfr
  have k0 := HKA.out.cell (i := 0) rfl
  have k1 := HKA.out.cell (i := 1) rfl
  have k2 := HKA.out.cell (i := 2) rfl
  have k3 := HKA.out.cell (i := 3) rfl
  have k4 := HKA.out.cell (i := 4) rfl
  clear hX ha hfr hla hlL hlen
  go_enter Tryz.func41, Tryz.ntmps41
  go_wp2_with fail
  clear k0 k1 k2 k3 k4 hw2
  refine CT.out.mono ?_
  rintro e w3 ⟨q, er, rfl, hq, hb3⟩
  clear CT
  have HQ : Hid (TryQ a fr lv L q er) := hq
  rw [clA_eq]
  obtain ⟨⟨m, x⟩, hx⟩ : ∃ y, clC q = y := ⟨_, rfl⟩
  rw [hx]
  have HL : Hid (clC q = (m, x)) := hx
  clear hx hq
  dsimp only
  obtain ⟨wb, hwb⟩ : ∃ wb, w3.alloc (.cells #[.int .u64 (m : Nat), .int .i64 x.t, .int .i64 x.i, .string x.k] 41) = wb := ⟨_, rfl⟩
  have hal : Below w2.heap.size w2 wb := by rw [← hwb]; exact hb3.trans ((Below.refl _ _).alloc hb3.size _)
  have HKc : Hid (Blk wb w3.heap.size #[.int .u64 (m : Nat), .int .i64 x.t, .int .i64 x.i, .string x.k] 41) := by rw [← hwb]; exact Blk.new w3 _ _
  have HXb : Hid (LogO wb B lb vC mb E L) := HX2.out.on hal
  have HAb : Hid (RdF wb _ _ _ a) := HA2.out.on hal
  have HKb : Hid (Blk wb w.heap.size #[.int .u64 (fr : Nat), .slice p0 n0 c0, .slice p1 n1 c1, .slice p2 n2 c2, .int .i64 lv] 48) := HKA.out.on hal
  have HZb : Hid (Blk wb (w.heap.size + 1) #[.int .u64 0, .int .i64 0, .int .u64 0, .int .i64 0, .int .i64 0, .string ⟨#[]⟩] 59) := HKB.out.on hal
  have HBb : Hid (Below w.heap.size w wb) := HB2.out.trans (hal.mono HB2.out.size)
  clear hal hb3 HX2 HA2 HKA HKB HB2
  by_cases her : er = 0
  · subst her
    obtain ⟨hca, hqn, -⟩ := HQ.out.zero
    subst hqn
    by_cases hmx : la = 4611686018427387904
    · subst hmx
      have z0 := HZb.out.cell (i := 0) rfl
      have f0 := HZb.out.frozen 0
      have z1 := HZb.out.cell (i := 1) rfl
      have f1 := HZb.out.frozen 1
      have z2 := HZb.out.cell (i := 2) rfl
      have f2 := HZb.out.frozen 2
      have z3 := HZb.out.cell (i := 3) rfl
      have f3 := HZb.out.frozen 3
      have z4 := HZb.out.cell (i := 4) rfl
      have f4 := HZb.out.frozen 4
      have z5 := HZb.out.cell (i := 5) rfl
      have f5 := HZb.out.frozen 5
      have H6 : Hid (Blk ((((((wb.setCell ⟨w.heap.size + 1, 0, none⟩ (.int .u64 0)).setCell ⟨w.heap.size + 1, 1, none⟩ (.int .i64 4)).setCell ⟨w.heap.size + 1, 2, none⟩ (.int .u64 0)).setCell ⟨w.heap.size + 1, 3, none⟩ (.int .i64 0)).setCell ⟨w.heap.size + 1, 4, none⟩ (.int .i64 0)).setCell ⟨w.heap.size + 1, 5, none⟩ (.string ⟨#[]⟩)) (w.heap.size + 1) #[(.int .u64 0), (.int .i64 4), (.int .u64 0), (.int .i64 0), (.int .i64 0), (.string ⟨#[]⟩)] 59 ∧ Frm wb ((((((wb.setCell ⟨w.heap.size + 1, 0, none⟩ (.int .u64 0)).setCell ⟨w.heap.size + 1, 1, none⟩ (.int .i64 4)).setCell ⟨w.heap.size + 1, 2, none⟩ (.int .u64 0)).setCell ⟨w.heap.size + 1, 3, none⟩ (.int .i64 0)).setCell ⟨w.heap.size + 1, 4, none⟩ (.int .i64 0)).setCell ⟨w.heap.size + 1, 5, none⟩ (.string ⟨#[]⟩)) (fun k => k = w.heap.size + 1)) := set6 HZb.out
      go_wp2_with fail
      clear z0 z1 z2 z3 z4 z5 f0 f1 f2 f3 f4 f5 hwb
      generalize ((((((wb.setCell ⟨w.heap.size + 1, 0, none⟩ (.int .u64 0)).setCell ⟨w.heap.size + 1, 1, none⟩ (.int .i64 4)).setCell ⟨w.heap.size + 1, 2, none⟩ (.int .u64 0)).setCell ⟨w.heap.size + 1, 3, none⟩ (.int .i64 0)).setCell ⟨w.heap.size + 1, 4, none⟩ (.int .i64 0)).setCell ⟨w.heap.size + 1, 5, none⟩ (.string ⟨#[]⟩)) = wz at *
      have r0 := H6.out.1.cell (i := 0) rfl
      have r1 := H6.out.1.cell (i := 1) rfl
      have r2 := H6.out.1.cell (i := 2) rfl
      have r3 := H6.out.1.cell (i := 3) rfl
      have r4 := H6.out.1.cell (i := 4) rfl
      have r5 := H6.out.1.cell (i := 5) rfl
      refine bodyPost_ret (v := .agg #[(.int .u64 0), (.int .i64 4), (.int .u64 0), (.int .i64 0), (.int .i64 0), (.string ⟨#[]⟩)]) (by simp [results, Tryz.results41, go_sem, r0, r1, r2, r3, r4, r5]) rfl ?_
      refine ⟨⟨0, 4, none⟩, 4611686018427387904, vC, E, L, rfl, ?_, ⟨0, HQ.out, .inr (.inl ⟨rfl, rfl, rfl, rfl, rfl, rfl⟩)⟩, rfl, ?_⟩
      · have hb := H6.out.2.below (B := w.heap.size) HBb.out.size (fun k hk => by omega)
        exact HXb.out.frmF H6.out.2 (HZb.out) (by decide)
      · exact FB.of_below (HBb.out.trans (H6.out.2.below HBb.out.size (fun k hk => by omega)))
    · have hml : la < 4611686018427387904 := by have := HSt.out.1; omega
      have hmd : decide ((la : Int) = 4611686018427387904) = false := decide_eq_false (by omega)
      have hmb : ((la : Int) == 4611686018427387904) = false := by simp; omega
      have hwr : IntKind.u64.wrap ((la : Int) + 1) = ((la + 1 : Nat) : Int) := by rw [IntKind.wrap_u64]; omega
      have hne : noteE a (la + 1) (lastC L) L.length = 0 := note4 hca (by omega) (by have := HSt.out.2.1; omega) (by have := HSt.out.2.2; omega)
      have CN : Hid (Calls _ _ _ _ _) := note_any a _ _ _ B lb (la + 1) vC mb E L wb HXb.out HAb.out (by omega)
      have l1 := HKb.out.cell (i := 1) rfl
      have l2 := HKb.out.cell (i := 2) rfl
      have l3 := HKb.out.cell (i := 3) rfl
      have HNe : Hid (noteE a (la + 1) (lastC L) L.length = 0) := hne
      have HMl : Hid (la < 4611686018427387904) := hml
      obtain ⟨lz, hlz⟩ : ∃ lz, la + 1 = lz := ⟨_, rfl⟩
      rw [hlz] at CN hwr
      have HLz : Hid (la + 1 = lz) := hlz
      clear hca hmx hml hne hlz
      go_wp2_with fail
      clear l1 l2 l3 hwb hmd hmb
      refine CN.out.mono ?_
      rintro e w4 ⟨rfl, vC4, E4, L4, hX4, hN4, hF4⟩
      clear CN
      have HX4 : Hid (LogO w4 B lb vC4 mb E4 L4) := hX4
      have HN4 : Hid (NtL a lz L L4) := hN4
      have HF4 : Hid (Frm w w4 (FB B w)) := FB.trans (FB.of_below HBb.out) hF4
      have HZ4 : Hid (Blk w4 (w.heap.size + 1) #[.int .u64 0, .int .i64 0, .int .u64 0, .int .i64 0, .int .i64 0, .string ⟨#[]⟩] 59) := (FB.other hF4 HZb.out (by decide)).trans HZb.out
      clear hX4 hN4 hF4 HXb HAb HKb HZb HBb HKc
      have z0 := HZ4.out.cell (i := 0) rfl
      have f0 := HZ4.out.frozen 0
      have z1 := HZ4.out.cell (i := 1) rfl
      have f1 := HZ4.out.frozen 1
      have z2 := HZ4.out.cell (i := 2) rfl
      have f2 := HZ4.out.frozen 2
      have z3 := HZ4.out.cell (i := 3) rfl
      have f3 := HZ4.out.frozen 3
      have z4 := HZ4.out.cell (i := 4) rfl
      have f4 := HZ4.out.frozen 4
      have z5 := HZ4.out.cell (i := 5) rfl
      have f5 := HZ4.out.frozen 5
      have H6 : Hid (Blk ((((((w4.setCell ⟨w.heap.size + 1, 0, none⟩ (.int .u64 (lz : Nat))).setCell ⟨w.heap.size + 1, 1, none⟩ (.int .i64 0)).setCell ⟨w.heap.size + 1, 2, none⟩ (.int .u64 0)).setCell ⟨w.heap.size + 1, 3, none⟩ (.int .i64 0)).setCell ⟨w.heap.size + 1, 4, none⟩ (.int .i64 0)).setCell ⟨w.heap.size + 1, 5, none⟩ (.string ⟨#[]⟩)) (w.heap.size + 1) #[(.int .u64 (lz : Nat)), (.int .i64 0), (.int .u64 0), (.int .i64 0), (.int .i64 0), (.string ⟨#[]⟩)] 59 ∧ Frm w4 ((((((w4.setCell ⟨w.heap.size + 1, 0, none⟩ (.int .u64 (lz : Nat))).setCell ⟨w.heap.size + 1, 1, none⟩ (.int .i64 0)).setCell ⟨w.heap.size + 1, 2, none⟩ (.int .u64 0)).setCell ⟨w.heap.size + 1, 3, none⟩ (.int .i64 0)).setCell ⟨w.heap.size + 1, 4, none⟩ (.int .i64 0)).setCell ⟨w.heap.size + 1, 5, none⟩ (.string ⟨#[]⟩)) (fun k => k = w.heap.size + 1)) := set6 HZ4.out
      go_wp2_with fail
      clear z0 z1 z2 z3 z4 z5 f0 f1 f2 f3 f4 f5 hwr
      generalize ((((((w4.setCell ⟨w.heap.size + 1, 0, none⟩ (.int .u64 (lz : Nat))).setCell ⟨w.heap.size + 1, 1, none⟩ (.int .i64 0)).setCell ⟨w.heap.size + 1, 2, none⟩ (.int .u64 0)).setCell ⟨w.heap.size + 1, 3, none⟩ (.int .i64 0)).setCell ⟨w.heap.size + 1, 4, none⟩ (.int .i64 0)).setCell ⟨w.heap.size + 1, 5, none⟩ (.string ⟨#[]⟩)) = wz at *
      have r0 := H6.out.1.cell (i := 0) rfl
      have r1 := H6.out.1.cell (i := 1) rfl
      have r2 := H6.out.1.cell (i := 2) rfl
      have r3 := H6.out.1.cell (i := 3) rfl
      have r4 := H6.out.1.cell (i := 4) rfl
      have r5 := H6.out.1.cell (i := 5) rfl
      refine bodyPost_ret (v := .agg #[(.int .u64 (lz : Nat)), (.int .i64 0), (.int .u64 0), (.int .i64 0), (.int .i64 0), (.string ⟨#[]⟩)]) (by simp [results, Tryz.results41, go_sem, r0, r1, r2, r3, r4, r5]) rfl ?_
      have hlz := HLz.out
      subst hlz
      obtain ⟨c, rfl, h1, h2⟩ := HN4.out.2 HNe.out
      refine ⟨⟨la + 1, 0, none⟩, la + 1, vC4, E4, L ++ [c], rfl, HX4.out.frmF H6.out.2 HZ4.out (by decide), ⟨0, HQ.out, .inr (.inr ⟨rfl, HMl.out, rfl, rfl, rfl, c, rfl, h1, h2, HX4.out.inv⟩)⟩, by simp only; omega, ?_⟩
      exact HF4.out.trans H6.out.2 (fun k hk => .inr (by omega))
  · have HEr : Hid (er ≠ 0) := her
    have y0 := HKc.out.cell (i := 0) rfl
    have y1 := HKc.out.cell (i := 1) rfl
    have y2 := HKc.out.cell (i := 2) rfl
    have y3 := HKc.out.cell (i := 3) rfl
    have z0 := HZb.out.cell (i := 0) rfl
    have f0 := HZb.out.frozen 0
    have z1 := HZb.out.cell (i := 1) rfl
    have f1 := HZb.out.frozen 1
    have z2 := HZb.out.cell (i := 2) rfl
    have f2 := HZb.out.frozen 2
    have z3 := HZb.out.cell (i := 3) rfl
    have f3 := HZb.out.frozen 3
    have z4 := HZb.out.cell (i := 4) rfl
    have f4 := HZb.out.frozen 4
    have z5 := HZb.out.cell (i := 5) rfl
    have f5 := HZb.out.frozen 5
    have H6 : Hid (Blk ((((((wb.setCell ⟨w.heap.size + 1, 0, none⟩ (.int .u64 0)).setCell ⟨w.heap.size + 1, 1, none⟩ (.int .i64 er)).setCell ⟨w.heap.size + 1, 2, none⟩ (.int .u64 (m : Nat))).setCell ⟨w.heap.size + 1, 3, none⟩ (.int .i64 x.t)).setCell ⟨w.heap.size + 1, 4, none⟩ (.int .i64 x.i)).setCell ⟨w.heap.size + 1, 5, none⟩ (.string x.k)) (w.heap.size + 1) #[(.int .u64 0), (.int .i64 er), (.int .u64 (m : Nat)), (.int .i64 x.t), (.int .i64 x.i), (.string x.k)] 59 ∧ Frm wb ((((((wb.setCell ⟨w.heap.size + 1, 0, none⟩ (.int .u64 0)).setCell ⟨w.heap.size + 1, 1, none⟩ (.int .i64 er)).setCell ⟨w.heap.size + 1, 2, none⟩ (.int .u64 (m : Nat))).setCell ⟨w.heap.size + 1, 3, none⟩ (.int .i64 x.t)).setCell ⟨w.heap.size + 1, 4, none⟩ (.int .i64 x.i)).setCell ⟨w.heap.size + 1, 5, none⟩ (.string x.k)) (fun k => k = w.heap.size + 1)) := set6 HZb.out
    go_wp2_with fail
    clear z0 z1 z2 z3 z4 z5 f0 f1 f2 f3 f4 f5 hwb y0 y1 y2 y3
    generalize ((((((wb.setCell ⟨w.heap.size + 1, 0, none⟩ (.int .u64 0)).setCell ⟨w.heap.size + 1, 1, none⟩ (.int .i64 er)).setCell ⟨w.heap.size + 1, 2, none⟩ (.int .u64 (m : Nat))).setCell ⟨w.heap.size + 1, 3, none⟩ (.int .i64 x.t)).setCell ⟨w.heap.size + 1, 4, none⟩ (.int .i64 x.i)).setCell ⟨w.heap.size + 1, 5, none⟩ (.string x.k)) = wz at *
    have r0 := H6.out.1.cell (i := 0) rfl
    have r1 := H6.out.1.cell (i := 1) rfl
    have r2 := H6.out.1.cell (i := 2) rfl
    have r3 := H6.out.1.cell (i := 3) rfl
    have r4 := H6.out.1.cell (i := 4) rfl
    have r5 := H6.out.1.cell (i := 5) rfl
    refine bodyPost_ret (v := .agg #[(.int .u64 0), (.int .i64 er), (.int .u64 (m : Nat)), (.int .i64 x.t), (.int .i64 x.i), (.string x.k)]) (by simp [results, Tryz.results41, go_sem, r0, r1, r2, r3, r4, r5]) rfl ?_
    refine ⟨⟨0, er, q⟩, la, vC, E, L, ?_, HXb.out.frmF H6.out.2 HZb.out (by decide), ⟨er, HQ.out, .inl ⟨HEr.out, rfl, rfl, rfl, rfl⟩⟩, by simp, ?_⟩
    · simp only [Fa.cells, HL.out]
      rfl
    · exact FB.of_below (HBb.out.trans (H6.out.2.below HBb.out.size (fun k hk => by omega)))

end Go.Proofs.YtcknhjabdjbjiaaGreat
