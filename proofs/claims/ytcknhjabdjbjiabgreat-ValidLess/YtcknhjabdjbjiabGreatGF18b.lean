/- What the proofs of this seat share: lists of commits, of attempts, opened. What the proofs of this seat share: three numbers, opened. What both sides tell is the same. -/
import Derived.Test.YtcknhjabdjbjiabGreatGFSets
import Derived.Test.YtcknhjabdjbjiabGreatGWNt
import Derived.Test.YtcknhjabdjbjiabGreatGWLg12
namespace Go.Proofs.YtcknhjabdjbjiabGreat
open Go.ChangeShapes Go.WideShapes Go.ChangeAt Go.RowKit Go.Joins Go.Deep
set_option maxRecDepth 100000

theorem bytesCm : Tryz.prog.bytesOf 45 = 80 := by kernel_rfl
theorem openCommits {H : Type} {enc : TypeId × Value → H} {W : World} {b0 : Nat} {v : Value} {d : DataW H} {p : List MemPlace}
    (hv : Value.okWide Tryz.prog W .any b0 22 v) (h : DataW.Trod enc Tryz.prog W 0 (fun _ => true) true 22 v d p) (hr : Reach Tryz.prog 22 d) :
    ∃ K : List Lc, RdLc W v K := by
  obtain ⟨fuel, hf⟩ := h
  obtain ⟨L, q, c, e, hl, hb, hq, he⟩ := openList (⟨0, ⟨[], [], []⟩, .slice none 0 0, .slice none 0 0, .slice none 0 0⟩ : Lc) (fun cs k => cs = [.int .u64 (k.s : Int), k.v0, k.v1, k.v2] ∧ k.s < 18446744073709551616 ∧ RdF W k.v0 k.v1 k.v2 k.a) Tryz.underlying22 cellsCm (by decide)
    (fun n cs' y hy hr => by
      obtain ⟨s, a, v0, v1, v2, e, hs, ha⟩ := openCmT hy hr
      exact ⟨⟨s, a, v0, v1, v2⟩, e, hs, ha⟩) hf hr
  obtain ⟨q', n', c', rfl⟩ := okWide_slice Tryz.underlying22 hv
  simp [Value.cells] at e
  obtain ⟨rfl, rfl, rfl⟩ := e
  rw [bytesCm] at hb
  simp only [reachBytes] at hb
  refine ⟨L, ⟨_, _, rfl, hl, by omega, fun i hi => ?_⟩, fun k hk => ?_⟩
  · obtain ⟨b, o, e, hlt, cs', ⟨rfl, _, _⟩, _, hc⟩ := he i hi
    exact ⟨b, o, e, hlt, hc 0 (by decide), hc 1 (by decide), hc 2 (by decide), hc 3 (by decide)⟩
  · obtain ⟨i, hi, rfl⟩ := List.getElem_of_mem hk
    obtain ⟨b, o, e, hlt, cs', ⟨_, hs, ha⟩, _, hc⟩ := he i hi
    exact ⟨ha, hs⟩

end Go.Proofs.YtcknhjabdjbjiabGreat

namespace Go.Proofs.YtcknhjabdjbjiabGreat
open Go.ChangeShapes Go.WideShapes Go.ChangeAt Go.RowKit Go.Joins Go.Deep
set_option maxRecDepth 100000

theorem openInts3 {H : Type} {enc : TypeId × Value → H} {W : World} {b0 : Nat} {v : Value} {d : DataW H} {p : List MemPlace}
    (hv : Value.okWide Tryz.prog W .any b0 30 v) (h : DataW.Trod enc Tryz.prog W 0 (fun _ => true) true 30 v d p) : ∃ (a b c : Int), v = .agg #[.int .i64 a, .int .i64 b, .int .i64 c] := by
  have hc : Tryz.prog.cellsOf 30 = 3 := by kernel_rfl
  have hv' : ∃ cs, v = .agg cs ∧ cs.size = Tryz.prog.cellsOf 30 ∧ Row.okWide Tryz.prog W .any b0 30 cs := by
    unfold Value.okWide at hv
    rw [Tryz.underlying30] at hv
    exact hv
  obtain ⟨cs, rfl, hsz, _⟩ := hv'
  obtain ⟨fuel, hf⟩ := h
  obtain ⟨cs⟩ := cs
  obtain ⟨xs, n, _, hx, hl, hxs, he⟩ := DataW.trod_array Tryz.underlying30 hf
  rw [hc] at hsz
  match cs, hsz, xs, hxs with
  | [c0, c1, c2], _, [y0, y1, y2], _ =>
    obtain ⟨k0, e0, _, _⟩ := DataW.trod_int Tryz.underlying3 (he 0 (by decide))
    obtain ⟨k1, e1, _, _⟩ := DataW.trod_int Tryz.underlying3 (he 1 (by decide))
    obtain ⟨k2, e2, _, _⟩ := DataW.trod_int Tryz.underlying3 (he 2 (by decide))
    simp [Value.cells, cellsI] at e0 e1 e2
    subst e0 e1 e2
    exact ⟨k0, k1, k2, rfl⟩

end Go.Proofs.YtcknhjabdjbjiabGreat

namespace Go.Proofs.YtcknhjabdjbjiabGreat
open Go.RowKit
set_option maxRecDepth 100000

/-- a clash in its parts -/
def clC (q : Option (Nat × Pt)) : Nat × Pt := q.getD (0, ⟨0, 0, ⟨#[]⟩⟩)
theorem clA_eq (q : Option (Nat × Pt)) : clA q = .agg #[.int .u64 ((clC q).1 : Nat), .int .i64 (clC q).2.t, .int .i64 (clC q).2.i, .string (clC q).2.k] := by cases q <;> rfl
theorem clV_eq (q : Option (Nat × Pt)) : clV q = .tuple #[.agg #[.int .u64 ((clC q).1 : Nat), .int .i64 (clC q).2.t, .int .i64 (clC q).2.i, .string (clC q).2.k], .bool q.isSome] := by cases q <;> rfl
theorem FstO.uniq {M : List Cm} {fr : Nat} {P : Pt → Prop} (hI : InvC M) : ∀ {q q' : Option (Nat × Pt)}, FstO M fr P q → FstO M fr P q' → q = q'
  | none, none, _, _ => rfl
  | none, some q', h, h' => by
    obtain ⟨c, hc, e, hf, hm, _⟩ := h'
    exact absurd hm.1.2 (h c hc (by omega) _ hm.1.1)
  | some q, none, h, h' => by
    obtain ⟨c, hc, e, hf, hm, _⟩ := h
    exact absurd hm.1.2 (h' c hc (by omega) _ hm.1.1)
  | some (m, x), some (m', x'), h, h' => by
    obtain ⟨c, hc, e, hf, hm, hl⟩ := h
    obtain ⟨c', hc', e', hf', hm', hl'⟩ := h'
    dsimp only at e e' hf hf' hl hl' hm hm'
    have h1 : ¬ m < m' := fun hlt => hl' c hc (by omega) (by omega) x hm.1.1 hm.1.2
    have h2 : ¬ m' < m := fun hlt => hl c' hc' (by omega) (by omega) x' hm'.1.1 hm'.1.2
    have h3 : m = m' := by omega
    obtain ⟨i, hi, rfl⟩ := List.getElem_of_mem hc
    obtain ⟨j, hj, rfl⟩ := List.getElem_of_mem hc'
    have hij : i = j := by
      rcases Nat.lt_trichotomy i j with h | h | h
      · have := hI.ris i j hi hj h; omega
      · exact h
      · have := hI.ris j i hj hi h; omega
    subst hij
    have := Option.some.inj (hm.uniq hm')
    rw [h3, this]
theorem RdQ.same {a : Ft} {L M : List Cm} {fr : Nat} {q q' : Option (Nat × Pt)} (hs : SamC L M) (hI : InvC M) (h : RdQ a L fr q) (h' : RdQ a M fr q') : q' = q := by
  by_cases hc : chkF a = 0
  · exact FstO.uniq hI (h'.ok hc) (hs.fst (h.ok hc))
  · rw [h.bad hc, h'.bad hc]
theorem WrQ.same {a : Ft} {L M : List Cm} {fr : Nat} {q q' : Option (Nat × Pt)} (hs : SamC L M) (hI : InvC M) (h : WrQ a L fr q) (h' : WrQ a M fr q') : q' = q := by
  by_cases hc : chkF a = 0
  · exact FstO.uniq hI (h'.ok hc) (hs.fst (h.ok hc))
  · rw [h.bad hc, h'.bad hc]
theorem TryQ.sam {a : Ft} {fr : Nat} {lv : Int} {L M : List Cm} {q : Option (Nat × Pt)} {er : Int} (hs : SamC L M) (h : TryQ a fr lv L q er) : TryQ a fr lv M q er := by
  rcases h with h | h | ⟨h1, h2, h3, h4, h5⟩ | ⟨h1, h2, h3, h4, h5, h6⟩ | ⟨h1, h2, h3, h4, h5⟩
  · exact .inl h
  · exact .inr (.inl h)
  · exact .inr (.inr (.inl ⟨h1, h2, h3, hs.fst h4, h5⟩))
  · exact .inr (.inr (.inr (.inl ⟨h1, h2, hs.fst h3, h4, hs.fst h5, h6⟩)))
  · exact .inr (.inr (.inr (.inr ⟨h1, h2, fun h => hs.fst (h3 h), fun h => hs.fst (h4 h), h5⟩)))
theorem TryQ.uniq {a : Ft} {fr : Nat} {lv : Int} {M : List Cm} {q q' : Option (Nat × Pt)} {er er' : Int} (hI : InvC M) (h : TryQ a fr lv M q er) (h' : TryQ a fr lv M q' er') : q' = q ∧ er' = er := by
  rcases h with ⟨h1, h2, h3⟩ | ⟨h1, h2, h3, h4⟩ | ⟨h1, h2, ⟨p, h3⟩, h4, h5⟩ | ⟨h1, h2, h3, ⟨p, h4⟩, h5, h6⟩ | ⟨h1, h2, h3, h4, h5, h6⟩ <;>
  rcases h' with ⟨k1, k2, k3⟩ | ⟨k1, k2, k3, k4⟩ | ⟨k1, k2, ⟨p', k3⟩, k4, k5⟩ | ⟨k1, k2, k3, ⟨p', k4⟩, k5, k6⟩ | ⟨k1, k2, k3, k4, k5, k6⟩
  all_goals first
    | exact absurd k1 h1
    | exact absurd h1 k1
    | exact ⟨by rw [h2, k2], by rw [h3, k3]⟩
    | exact ⟨by rw [h3, k3], by rw [h4, k4]⟩
    | (exfalso; omega)
    | exact ⟨FstO.uniq hI k4 h4, by rw [h5, k5]⟩
    | exact ⟨FstO.uniq hI k5 h5, by rw [h6, k6]⟩
    | exact ⟨by rw [h5, k5], by rw [h6, k6]⟩
    | (exfalso; have h7 := FstO.uniq hI h4 k3; rw [h3] at h7; cases h7)
    | (exfalso; have h7 := FstO.uniq hI k4 h3; rw [k3] at h7; cases h7)
    | (exfalso; have h7 := FstO.uniq hI h4 (k3 (by omega)); rw [h3] at h7; cases h7)
    | (exfalso; have h7 := FstO.uniq hI k4 (h3 (by omega)); rw [k3] at h7; cases h7)
    | (exfalso; have h7 := FstO.uniq hI h5 (k4 (by omega)); rw [h4] at h7; cases h7)
    | (exfalso; have h7 := FstO.uniq hI k5 (h4 (by omega)); rw [k4] at h7; cases h7)
set_option maxHeartbeats 2000000 in
theorem sameClash_any (m : Nat) (t i : Int) (k : ByteArray) (w : World) : Calls Tryz.prog 15 #[.agg #[.int .u64 (m : Nat), .int .i64 t, .int .i64 i, .string k], .agg #[.int .u64 (m : Nat), .int .i64 t, .int .i64 i, .string k]] w fun e w' => e = .returned (.bool true) ∧ Below w.heap.size w w' := by
  obtain ⟨w2, hw2⟩ : ∃ w2, ((w.alloc (.cells #[.int .u64 (m : Nat), .int .i64 t, .int .i64 i, .string k] 38)).alloc (.cells #[.int .u64 (m : Nat), .int .i64 t, .int .i64 i, .string k] 38)) = w2 := ⟨_, rfl⟩
  have HB2 : Hid (Below w.heap.size w w2) := by rw [← hw2]; exact ((Below.refl _ _).alloc (Nat.le_refl _) _).alloc (by simp) _
  have HKA : Hid (Blk w2 w.heap.size #[.int .u64 (m : Nat), .int .i64 t, .int .i64 i, .string k] 38) := by rw [← hw2]; exact (Blk.new w _ _).keep (B := w.heap.size + 1) ((Below.refl _ _).alloc (by simp) _) (by omega)
  have HKB : Hid (Blk w2 (w.heap.size + 1) #[.int .u64 (m : Nat), .int .i64 t, .int .i64 i, .string k] 38) := by
    rw [← hw2]
    have h := Blk.new (w.alloc (.cells #[.int .u64 (m : Nat), .int .i64 t, .int .i64 i, .string k] 38)) #[.int .u64 (m : Nat), .int .i64 t, .int .i64 i, .string k] 38
    rw [World.size_alloc] at h
    exact h
  have a0 := HKA.out.cell (i := 0) rfl
  have a1 := HKA.out.cell (i := 1) rfl
  have a2 := HKA.out.cell (i := 2) rfl
  have a3 := HKA.out.cell (i := 3) rfl
  have b0 := HKB.out.cell (i := 0) rfl
  have b1 := HKB.out.cell (i := 1) rfl
  have b2 := HKB.out.cell (i := 2) rfl
  have b3 := HKB.out.cell (i := 3) rfl
  go_enter Tryz.func15, Tryz.ntmps15
  go_wp2_with fail
  go_ret
  exact ⟨by simp, HB2.out⟩

end Go.Proofs.YtcknhjabdjbjiabGreat
