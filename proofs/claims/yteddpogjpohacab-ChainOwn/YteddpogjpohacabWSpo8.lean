/- What is told may be spoilt: rows and lists that are written over. -/
import Derived.Test.YteddpogjpohacabWPut8
namespace Go.Proofs.Yteddpogjpohacab
open Go.RowKit
set_option maxRecDepth 100000

/-- a row that may be written over: it lies in block B or behind it -/
def WOk (w : World) (B : Nat) (v : Value) : Prop := v = .slice none 0 0 ∨ ∃ g n cap cs, v = .slice (some ⟨g, 0, none⟩) n cap ∧ B ≤ g ∧ w.heap[g]? = some (.cells cs 69 (0, 0)) ∧ n * 4 ≤ cs.size ∧ n ≤ 35184372088832
/-- a list that may be written over -/
def HOk (w : World) (B : Nat) (T : TypeId) (v : Value) : Prop := v = .slice none 0 0 ∨ ∃ g n cap cs, v = .slice (some ⟨g, 0, none⟩) n cap ∧ B ≤ g ∧ w.heap[g]? = some (.cells cs T (0, 0)) ∧ (n * 3 ≤ cs.size ∧ n ≤ 35184372088832) ∧ ∀ i, i < n → ∃ rv, cs[i * 3 + 2]? = some rv ∧ WOk w B rv
/-- rows of values alone are written over, from block B on -/
structure Spo (B : Nat) (w w' : World) : Prop where
  bel : Below B w w'
  blk : ∀ (k : Nat) (cs : Array Value) (T : TypeId), w.heap[k]? = some (Obj.cells cs T (0, 0)) → ∃ cs' : Array Value, w'.heap[k]? = some (Obj.cells cs' T (0, 0)) ∧ cs'.size = cs.size ∧ (T ≠ 69 → cs' = cs)
theorem Spo.refl (B : Nat) (w : World) : Spo B w w := ⟨Below.refl _ _, fun _ cs _ h => ⟨cs, h, rfl, fun _ => rfl⟩⟩
theorem Spo.trans {B : Nat} {w w1 w2 : World} (h : Spo B w w1) (h' : Spo B w1 w2) : Spo B w w2 := by
  refine ⟨h.bel.trans h'.bel, fun k cs T hk => ?_⟩
  obtain ⟨c1, e1, s1, t1⟩ := h.blk k cs T hk
  obtain ⟨c2, e2, s2, t2⟩ := h'.blk k c1 T e1
  exact ⟨c2, e2, s2.trans s1, fun hT => (t2 hT).trans (t1 hT)⟩
theorem Spo.of_below {B : Nat} {w w' : World} (hb : Below w.heap.size w w') (hB : B ≤ w.heap.size) : Spo B w w' := ⟨hb.mono hB, fun k cs _T hk => ⟨cs, (hb.block k (Array.getElem?_eq_some_iff.1 hk).1).trans hk, rfl, fun _ => rfl⟩⟩
theorem Spo.set {B g i : Nat} {w : World} {cs : Array Value} (hg : w.heap[g]? = some (.cells cs 69 (0, 0))) (hB : B ≤ g) (x : Value) : Spo B w (w.setCell ⟨g, i, none⟩ x) := by
  refine ⟨(Below.refl _ _).setCell hB _, fun k ck T hk => ?_⟩
  by_cases e : k = g
  · subst e
    rw [hg] at hk
    injection hk with h1
    injection h1 with h2 h3
    subst h2 h3
    exact ⟨_, heap_setCell_same w k i cs _ x hg, by simp, fun h => absurd rfl h⟩
  · exact ⟨ck, (heap_setCell_other w _ k x e).trans hk, rfl, fun _ => rfl⟩
theorem WOk.spo {B C : Nat} {w w' : World} {v : Value} (h : WOk w B v) (hs : Spo C w w') : WOk w' B v := by
  rcases h with h | ⟨g, n, cap, cs, e, hB, hg, hn⟩
  · exact .inl h
  · obtain ⟨cs', e', s', _⟩ := hs.blk g cs _ hg
    exact .inr ⟨g, n, cap, cs', e, hB, e', by omega, hn.2⟩
theorem HOk.spo {B C : Nat} {w w' : World} {T : TypeId} {v : Value} (h : HOk w B T v) (hs : Spo C w w') (hT : T ≠ 69) : HOk w' B T v := by
  rcases h with h | ⟨g, n, cap, cs, e, hB, hg, hn, hr⟩
  · exact .inl h
  · obtain ⟨cs', e', s', t'⟩ := hs.blk g cs _ hg
    obtain rfl := t' hT
    exact .inr ⟨g, n, cap, cs', e, hB, e', hn, fun i hi => by
      obtain ⟨rv, h1, h2⟩ := hr i hi
      exact ⟨rv, h1, h2.spo hs⟩⟩
theorem OwnV.wok {w : World} {B : Nat} {v : Value} {L : List Vl} (h : OwnV w B v L) (hlen : L.length ≤ 3518437208780) : WOk w B v := by
  rcases h.2 with ⟨h1, _⟩ | ⟨g, cap, cur, e, hb, hg, hc, hsz, _⟩
  · exact .inl h1
  · refine .inr ⟨g, _, cap, cur, e, hb, hg, ?_, by omega⟩
    have := World.ownsRow.cellAt (w := w) (e := 69) (size := 4) (g := g) (cap := cap) (by rw [e] at h; exact h) (L.length * 4 - 1)
    by_cases h0 : L.length = 0
    · rw [h0]; omega
    · have h1 := this (by omega)
      rw [List.getElem?_eq_getElem (by rw [vcells_len]; omega)] at h1
      simp only [World.cell?, hg] at h1
      have := (Array.getElem?_eq_some_iff.1 h1).1
      omega
theorem rcells_len8 {k : IntKind} (Z : List (Rw × Value)) : (Z.flatMap (rcell k)).length = Z.length * 3 := by
  induction Z with
  | nil => rfl
  | cons z Z ih => rw [List.flatMap_cons, List.length_append, ih]; simp [rcell]; omega
theorem OwnRs.hok {k : IntKind} {T : TypeId} {w : World} {B : Nat} {v : Value} {Z : List (Rw × Value)} (h : OwnRs k T w B v Z) (hl1 : Z.length ≤ 3518437208790) (hl2 : shortR (Z.map Prod.fst)) : HOk w B T v := by
  rcases h.1.2 with ⟨h1, _⟩ | ⟨g, cap, cur, e, hb, hg, hc, hsz, _⟩
  · exact .inl h1
  · have hcell : ∀ j, j < Z.length * 3 → cur[j]? = (Z.flatMap (rcell k))[j]? := fun j hj => by
      have h1 := World.ownsRow.cellAt (w := w) (e := T) (size := 3) (g := g) (cap := cap) (by rw [e] at h; exact h.1) j hj
      simp only [World.cell?, hg] at h1
      exact h1
    have hl : (Z.flatMap (rcell k)).length = Z.length * 3 := rcells_len8 Z
    refine .inr ⟨g, _, cap, cur, e, hb, hg, ⟨?_, by omega⟩, fun i hi => ?_⟩
    · by_cases h0 : Z.length = 0
      · rw [h0]; omega
      · have h1 := hcell (Z.length * 3 - 1) (by omega)
        rw [List.getElem?_eq_getElem (by omega)] at h1
        have := (Array.getElem?_eq_some_iff.1 h1).1
        omega
    · refine ⟨Z[i].2, ?_, (h.2 _ (List.getElem_mem hi)).wok (by have := hl2 i (by simpa using hi); simpa using this)⟩
      rw [hcell (i * 3 + 2) (by omega), flat_at 3 (rcell k) (fun _ => rfl) Z i hi 2 (by decide)]
      rfl
theorem HOk.mono {w : World} {B C : Nat} {T : TypeId} {v : Value} (h : HOk w B T v) (hc : C ≤ B) : HOk w C T v := by
  rcases h with h | ⟨g, n, cap, cs, e, hB, hg, hn, hr⟩
  · exact .inl h
  · exact .inr ⟨g, n, cap, cs, e, by omega, hg, hn, fun i hi => by
      obtain ⟨rv, h1, h2⟩ := hr i hi
      refine ⟨rv, h1, ?_⟩
      rcases h2 with h2 | ⟨g2, n2, cap2, cs2, e2, hB2, r2⟩
      · exact .inl h2
      · exact .inr ⟨g2, n2, cap2, cs2, e2, by omega, r2⟩⟩

set_option maxHeartbeats 4000000 in
theorem wipe8 (v : Value) (w : World) (B : Nat) (hO : WOk w B v) :
    Calls Try.prog 20 #[v] w fun e w' => e = .returned (.tuple #[]) ∧ Spo B w w' := by
  have hsf := run_store_float
  rcases hO with rfl | ⟨g, n, cap, cs, rfl, hB, hg, hn, hnl⟩
  · go_enter Try.func20, Try.ntmps20
    go_wp2_with fail
    go_loopw [2] (fun i wr => i = .int .i64 0 ∧ wr = w) (fun _ _ => 0)
    case atStart => exact ⟨rfl, rfl⟩
    case round =>
      obtain ⟨rfl, rfl⟩ := hrel
      go_wp2_with fail
      (try simp only [Exit.inBlock, Exit.then])
      refine bodyPost_end (results_none rfl _ _ _) rfl ?_
      exact ⟨rfl, Spo.refl _ _⟩
  · have HG : Hid (w.heap[g]? = some (.cells cs 69 (0, 0)) ∧ n * 4 ≤ cs.size) := ⟨hg, hn⟩
    clear hg hn
    go_enter Try.func20, Try.ntmps20
    go_wp2_with fail
    go_loopw [2] (fun i wr => ∃ j : Nat, j ≤ n ∧ i = .int .i64 (j : Int) ∧ Hid (Spo B w wr)) (fun i _ => n - (intOf i).toNat)
    case atStart => exact ⟨0, Nat.zero_le _, by go_num, Spo.refl _ _⟩
    case round =>
      obtain ⟨j, hj, rfl, hS⟩ := hrel
      by_cases hj0 : j = n
      · subst hj0
        go_wp2_with fail
        (try simp only [Exit.inBlock, Exit.then])
        refine bodyPost_end (results_none rfl _ _ _) rfl ?_
        exact ⟨rfl, hS.out⟩
      · have hj1 : j < n := by omega
        obtain ⟨c1, e1, s1, _⟩ := hS.out.blk g cs _ HG.out.1
        have hn1 : n * 4 ≤ c1.size := by have := HG.out.2; omega
        have cf : ∀ k, k < 4 → ∃ u, wr.cell? ⟨g, j * 4 + k, none⟩ = some u := fun k hk => ⟨c1[j * 4 + k]'(by omega), by simp only [World.cell?, e1]; simp⟩
        have ff : ∀ k, wr.frozen? ⟨g, k, none⟩ = false := fun k => by simp [World.frozen?, e1]
        obtain ⟨u0, x0⟩ := cf 0 (by omega)
        obtain ⟨u1, x1⟩ := cf 1 (by omega)
        obtain ⟨u2, x2⟩ := cf 2 (by omega)
        obtain ⟨u3, x3⟩ := cf 3 (by omega)
        rw [Nat.add_zero] at x0
        have f0 := ff (j * 4)
        have f1 := ff (j * 4 + 1)
        have f2 := ff (j * 4 + 2)
        have f3 := ff (j * 4 + 3)
        have s1 : Spo B wr (wr.setCell ⟨g, j * 4, none⟩ (.int .i64 77)) := Spo.set e1 hB _
        obtain ⟨c2, e2, _⟩ := s1.blk g c1 _ e1
        have s2 : Spo B _ ((wr.setCell ⟨g, j * 4, none⟩ (.int .i64 77)).setCell ⟨g, j * 4 + 1, none⟩ (.int .i64 0)) := Spo.set e2 hB _
        obtain ⟨c3, e3, _⟩ := s2.blk g c2 _ e2
        have s3 : Spo B _ (((wr.setCell ⟨g, j * 4, none⟩ (.int .i64 77)).setCell ⟨g, j * 4 + 1, none⟩ (.int .i64 0)).setCell ⟨g, j * 4 + 2, none⟩ (.float .f64 0)) := Spo.set e3 hB _
        obtain ⟨c4, e4, _⟩ := s3.blk g c3 _ e3
        have s4 : Spo B _ ((((wr.setCell ⟨g, j * 4, none⟩ (.int .i64 77)).setCell ⟨g, j * 4 + 1, none⟩ (.int .i64 0)).setCell ⟨g, j * 4 + 2, none⟩ (.float .f64 0)).setCell ⟨g, j * 4 + 3, none⟩ (.string ⟨#[]⟩)) := Spo.set e4 hB _
        have HS4 : Hid (Spo B w ((((wr.setCell ⟨g, j * 4, none⟩ (.int .i64 77)).setCell ⟨g, j * 4 + 1, none⟩ (.int .i64 0)).setCell ⟨g, j * 4 + 2, none⟩ (.float .f64 0)).setCell ⟨g, j * 4 + 3, none⟩ (.string ⟨#[]⟩))) := (((hS.out.trans s1).trans s2).trans s3).trans s4
        clear s1 s2 s3 s4 e1 e2 e3 e4 cf ff hj0 hn1 hS HG
        go_wp2_with fail
        go_roundw
        case rel => exact ⟨j + 1, hj1, by go_num, HS4⟩
        case measure => simp [intOf]; omega

theorem WOk.st1 {w : World} {B g' i : Nat} {v : Value} (h : WOk w B v) (x : Value) : WOk (w.setCell ⟨g', i, none⟩ x) B v := by
  rcases h with h | ⟨g, n, cap, cs, e, hB, hg, hn⟩
  · exact .inl h
  · by_cases e2 : g = g'
    · subst e2
      exact .inr ⟨g, n, cap, _, e, hB, heap_setCell_same w g i cs _ x hg, by simpa using hn.1, hn.2⟩
    · exact .inr ⟨g, n, cap, cs, e, hB, (heap_setCell_other w _ g x e2).trans hg, hn⟩
theorem HOk.st {w : World} {B : Nat} {T : TypeId} {v : Value} (h : HOk w B T v) (g' i : Nat) (a b : Value) : HOk (((w.setCell ⟨g', i * 3, none⟩ a).setCell ⟨g', i * 3 + 1, none⟩ b).setCell ⟨g', i * 3 + 2, none⟩ (.slice none 0 0)) B T v := by
  rcases h with h | ⟨g, n, cap, cs, e, hB, hg, hn, hr⟩
  · exact .inl h
  · by_cases e2 : g = g'
    · subst e2
      refine .inr ⟨g, n, cap, _, e, hB, heap_setCell_same _ g _ _ _ _ (heap_setCell_same _ g _ _ _ _ (heap_setCell_same w g _ cs _ _ hg)), by simpa using hn, fun j hj => ?_⟩
      obtain ⟨rv, h1, h2⟩ := hr j hj
      by_cases ej : j = i
      · subst ej
        refine ⟨.slice none 0 0, ?_, .inl rfl⟩
        have := (Array.getElem?_eq_some_iff.1 h1).1
        rw [Array.getElem?_setIfInBounds_self_of_lt (by simpa using this)]
      · refine ⟨rv, ?_, ((h2.st1 _).st1 _).st1 _⟩
        rw [Array.getElem?_setIfInBounds_ne (by omega), Array.getElem?_setIfInBounds_ne (by omega), Array.getElem?_setIfInBounds_ne (by omega)]
        exact h1
    · refine .inr ⟨g, n, cap, cs, e, hB, (heap_setCell_other _ _ g _ e2).trans ((heap_setCell_other _ _ g _ e2).trans ((heap_setCell_other w _ g _ e2).trans hg)), hn, fun j hj => ?_⟩
      obtain ⟨rv, h1, h2⟩ := hr j hj
      exact ⟨rv, h1, ((h2.st1 _).st1 _).st1 _⟩
theorem Box.spo {w w' : World} {B g : Nat} {vs : Array Value} {T : TypeId} (h : Box w g vs T) (hs : Spo B w w') (hT : T ≠ 69) : Box w' g vs T := by
  obtain ⟨cs', e', _, t'⟩ := hs.blk g vs T h
  rw [t' hT] at e'
  exact e'
theorem HOk.kept {w w' : World} {B : Nat} {T : TypeId} {v : Value} (h : HOk w B T v) (hb : Below w.heap.size w w') (hT : T ≠ 69) : HOk w' B T v := h.spo (Spo.of_below hb (Nat.le_refl _)) hT

/-- lists of writes may still be written over, boxes of intents are as they were -/
def Stay (w w' : World) : Prop := (∀ (B : Nat) (v : Value), HOk w B 40 v → HOk w' B 40 v) ∧ ∀ (g : Nat) (vs : Array Value), Box w g vs 36 → Box w' g vs 36

set_option maxHeartbeats 4000000 in
theorem spoil8 (t : Int) (v : Value) (w : World) (B : Nat) (hB0 : B ≤ w.heap.size) (hO : HOk w B 40 v) :
    Calls Try.prog 21 #[.agg #[.int .i64 t, v]] w fun e w' => e = .returned (.tuple #[]) ∧ Stay w w' ∧ Below B w w' := by
  have HO : Hid (HOk w B 40 v) := hO
  obtain ⟨p, n, c, rfl, hnl, hgn⟩ : ∃ p n c, v = .slice p n c ∧ n ≤ 35184372088832 ∧ (0 < n → ∃ g, p = some ⟨g, 0, none⟩) := by
    rcases hO with rfl | ⟨g, n, cap, cs, rfl, _, _, hn, _⟩
    · exact ⟨none, 0, 0, rfl, by omega, fun h => absurd h (by omega)⟩
    · exact ⟨_, n, cap, rfl, hn.2, fun _ => ⟨g, rfl⟩⟩
  clear hO
  have HX0 : Hid (Box (w.alloc (.cells #[.int .i64 t, .slice p n c] 36)) w.heap.size #[.int .i64 t, .slice p n c] 36) := Box.new w _ _
  have hba : Below w.heap.size w (w.alloc (.cells #[.int .i64 t, .slice p n c] 36)) := (Below.refl _ _).alloc (Nat.le_refl _) _
  have HB0 : Hid (Below B w (w.alloc (.cells #[.int .i64 t, .slice p n c] 36))) := hba.mono hB0
  have HS0 : Hid (Stay w (w.alloc (.cells #[.int .i64 t, .slice p n c] 36))) := ⟨fun _ _ h => h.kept hba (by decide), fun _ _ h => h.on hba⟩
  have HH0 : Hid (HOk (w.alloc (.cells #[.int .i64 t, .slice p n c] 36)) B 40 (.slice p n c)) := HO.out.kept hba (by decide)
  clear hba HO
  go_enter Try.func21, Try.ntmps21
  go_wp2_with fail
  generalize w.alloc (.cells #[.int .i64 t, .slice p n c] 36) = w0 at *
  go_loopw [2] (fun i wr => ∃ j : Nat, j ≤ n ∧ i = .int .i64 (j : Int) ∧ Hid (Box wr w.heap.size #[.int .i64 t, .slice p n c] 36) ∧ Hid (HOk wr B 40 (.slice p n c)) ∧ Hid (Stay w wr) ∧ Below B w wr) (fun i _ => n - (intOf i).toNat)
  case atStart => exact ⟨0, Nat.zero_le _, by go_num, HX0, HH0, HS0, HB0.out⟩
  case round =>
    obtain ⟨j, hj, rfl, HX, HH, HS, hn⟩ := hrel
    obtain ⟨x0, x1, _, _⟩ := box2 HX.out
    by_cases hj0 : j = n
    · subst hj0
      go_wp2_with fail
      (try simp only [Exit.inBlock, Exit.then])
      refine bodyPost_end (results_none rfl _ _ _) rfl ?_
      exact ⟨rfl, HS.out, hn⟩
    · have hj1 : j < n := by omega
      rcases HH.out with h | ⟨g, n', cap, cs, e, hBg, hg, hsz, hr⟩
      · injection h with _ h2; omega
      injection e with e1 e2 e3
      subst e1 e2 e3
      obtain ⟨rv, hrv, hw⟩ := hr j hj1
      have a2 : wr.cell? ⟨g, j * 3 + 2, none⟩ = some rv := by simp only [World.cell?, hg]; exact hrv
      have CW : Hid (Calls _ _ _ _ _) := wipe8 rv wr B hw
      have HG : Hid (wr.heap[g]? = some (.cells cs 40 (0, 0)) ∧ n * 3 ≤ cs.size) := ⟨hg, hsz.1⟩
      have hne : w.heap.size ≠ g := fun e => by
        have hx := HX.out
        unfold Box at hx
        rw [e, hg] at hx
        injection hx with h1
        injection h1 with _ h2
        exact absurd h2 (by decide)
      clear hr hw hg hsz hj0
      go_wp2_with fail
      refine CW.out.mono ?_
      rintro e w2 ⟨rfl, hs2⟩
      have HX2 : Hid (Box w2 w.heap.size #[.int .i64 t, .slice (some ⟨g, 0, none⟩) n c] 36) := HX.out.spo hs2 (by decide)
      have HH2 : Hid (HOk w2 B 40 (.slice (some ⟨g, 0, none⟩) n c)) := HH.out.spo hs2 (by decide)
      have hn2 : Below B w w2 := hn.trans hs2.bel
      have HS2 : Hid (Stay w w2) := ⟨fun B' v' h => (HS.out.1 B' v' h).spo hs2 (by decide), fun g' vs h => (HS.out.2 g' vs h).spo hs2 (by decide)⟩
      obtain ⟨c2, e2, s2, _⟩ := hs2.blk g cs _ HG.out.1
      have hsz2 : n * 3 ≤ c2.size := by have := HG.out.2; omega
      clear x0 x1 HX HH CW hs2 HG hn
      obtain ⟨x0, x1, _, _⟩ := box2 HX2.out
      have cf : ∀ k, k < 3 → ∃ u, w2.cell? ⟨g, j * 3 + k, none⟩ = some u := fun k hk => ⟨c2[j * 3 + k]'(by omega), by simp only [World.cell?, e2]; simp⟩
      have ff : ∀ k, w2.frozen? ⟨g, k, none⟩ = false := fun k => by simp [World.frozen?, e2]
      obtain ⟨u0, y0⟩ := cf 0 (by omega)
      obtain ⟨u1, y1⟩ := cf 1 (by omega)
      obtain ⟨u2, y2⟩ := cf 2 (by omega)
      rw [Nat.add_zero] at y0
      have f0 := ff (j * 3)
      have f1 := ff (j * 3 + 1)
      have f2 := ff (j * 3 + 2)
      have hty : ∀ g' vs, Box w2 g' vs 36 → g' ≠ g := fun g' vs hx e => by
        subst e
        unfold Box at hx
        rw [e2] at hx
        injection hx with h1
        injection h1 with _ h2
        exact absurd h2 (by decide)
      have HS3 : Hid (Stay w (((w2.setCell ⟨g, j * 3, none⟩ (.int .i64 99)).setCell ⟨g, j * 3 + 1, none⟩ (.bool false)).setCell ⟨g, j * 3 + 2, none⟩ (.slice none 0 0))) := ⟨fun B' v' h => (HS2.out.1 B' v' h).st g j _ _, fun g' vs h => ((((HS2.out.2 g' vs h).off _ (hty g' vs (HS2.out.2 g' vs h))).off _ (hty g' vs (HS2.out.2 g' vs h))).off _ (hty g' vs (HS2.out.2 g' vs h)))⟩
      have HH3 : Hid (HOk _ B 40 (.slice (some ⟨g, 0, none⟩) n c)) := HH2.out.st g j (.int .i64 99) (.bool false)
      have HX3 : Hid (Box _ w.heap.size #[.int .i64 t, .slice (some ⟨g, 0, none⟩) n c] 36) := ((HX2.out.off (i := j * 3) (j := g) (.int .i64 99) hne).off (i := j * 3 + 1) (j := g) (.bool false) hne).off (i := j * 3 + 2) (j := g) (.slice none 0 0) hne
      have HB3 : Hid (Below B w _) := ((hn2.setCell (p := ⟨g, j * 3, none⟩) hBg (.int .i64 99)).setCell (p := ⟨g, j * 3 + 1, none⟩) hBg (.bool false)).setCell (p := ⟨g, j * 3 + 2, none⟩) hBg (.slice none 0 0)
      clear cf ff HX2 HH2 hn2 e2 s2 hsz2 hty HS2 HS
      go_wp2_with fail
      go_roundw
      case rel => exact ⟨j + 1, hj1, by go_num, HX3, HH3, HS3, HB3.out⟩
      case measure => simp [intOf]; omega

set_option maxHeartbeats 2000000 in
theorem copied_any (L : List Vl) (v : Value) (w : World) (hR : SlV w w.heap.size v L) (hlen : L.length ≤ 3518437208780) :
    Calls Try.prog 17 #[v] w fun e w' => (∃ v', e = .returned v' ∧ OwnV w' w.heap.size v' L) ∧ Below w.heap.size w w' := by
  obtain ⟨p, c, rfl, hR, hpc⟩ := hR
  obtain ⟨i, hi, hz0, hz1, hz2⟩ := info_parts info_val
  cases p with
  | none =>
    obtain rfl := hpc rfl
    have hL : L = [] := by
      cases L with
      | nil => rfl
      | cons a x => obtain ⟨_, _, h, _⟩ := hR 0 (by simp); cases h
    subst hL
    go_enter Try.func17, Try.ntmps17
    go_wp2_with (first | (at_builtin; refine wpList_append_own_none rfl (.tmp 4) (.tmp 5) 29 rfl w.heap.size 69 i 4 Try.underlying29 hi _ 0 [] rfl (World.ownsRow_nil w _ _ _) rfl ?_))
    go_ret
    exact ⟨⟨_, rfl, OwnV.nil _ _⟩, Below.refl _ _⟩
  | some ad =>
    obtain ⟨b, o, sp⟩ := ad
    cases sp with
    | some _ =>
      have hL : L = [] := by
        cases L with
        | nil => rfl
        | cons a x => obtain ⟨_, _, h, _⟩ := hR 0 (by simp); cases h
      subst hL
      go_enter Try.func17, Try.ntmps17
      go_wp2_with (first | (at_builtin; refine wpList_append_own _ rfl (.tmp 4) (.tmp 5) 29 rfl w.heap.size 69 i (.agg #[.int .i64 0, .int .i64 0, .float .f64 0, .string ⟨#[]⟩]) 4 40 Try.underlying29 hi hz0 hz1 hz2 rfl (by decide) _ 0 [] rfl (World.ownsRow_nil w _ _ _) _ 0 c [] rfl rfl (fun j y hj => by simp at hj) (fun y hy => by simp at hy) (by unfold maxLen; omega) (by omega) (Nat.le_refl _) ?_))
      intro v1 w1 h1' h2 h9
      have hown : OwnV w1 w.heap.size v1 [] := by
        unfold OwnV
        simpa [vcells] using h1'
      have hb : Below w.heap.size w w1 := (Below.refl _ _).grown h2 (Nat.le_refl _) (fun k hk => by simp [Value.ownBlock] at hk)
      clear h1' h2 h9
      go_wp2
      go_ret
      exact ⟨⟨_, rfl, hown⟩, hb⟩
    | none =>
      have HR : Hid (RowV _ _ _ _) := hR
      clear hR
      go_enter Try.func17, Try.ntmps17
      go_wp2_with (first | (at_builtin; refine wpList_append_own _ rfl (.tmp 4) (.tmp 5) 29 rfl w.heap.size 69 i (.agg #[.int .i64 0, .int .i64 0, .float .f64 0, .string ⟨#[]⟩]) 4 40 Try.underlying29 hi hz0 hz1 hz2 rfl (by decide) _ 0 [] rfl (World.ownsRow_nil w _ _ _) ⟨b, o, none⟩ L.length c (vcells L) rfl (vcells_len L) HR.out.cells (vcells_one L) (by unfold maxLen; omega) (by omega) (Nat.le_refl _) ?_))
      intro v1 w1 h1' h2 h9
      have hown : OwnV w1 w.heap.size v1 L := by
        unfold OwnV
        simpa using h1'
      have hb : Below w.heap.size w w1 := (Below.refl _ _).grown h2 (Nat.le_refl _) (fun k hk => by simp [Value.ownBlock] at hk)
      clear h1' h2 h9
      go_wp2
      go_ret
      exact ⟨⟨_, rfl, hown⟩, hb⟩
end Go.Proofs.Yteddpogjpohacab
