/- Edges in slices: sorted, each once. Edges, each once: slices.Compact. -/
import Derived.Test.YtncfejndmlcidaaGreatGWEd5
import Derived.Test.YtncfejndmlcidaaGreatGWShI
namespace Go.Proofs.YtncfejndmlcidaaGreat
open Go.Shelf Go.RowKit Go.Lib Go.Sort
set_option maxRecDepth 100000

theorem ecells_cons (r : Ed) (L : List Ed) : List.flatMap encE (r :: L) = natV r.to :: natV r.kd :: natV r.im :: List.flatMap encE L := rfl


theorem ecells_len (L : List Ed) : (List.flatMap encE L).length = L.length * 3 := by
  induction L with
  | nil => rfl
  | cons v L ih => rw [ecells_cons]; simp only [List.length_cons]; rw [ih]; omega


theorem ecells_at : ∀ (L : List Ed) (i : Nat) (hi : i < L.length), (List.flatMap encE L)[i * 3]? = some (natV L[i].to) ∧ (List.flatMap encE L)[i * 3 + 1]? = some (natV L[i].kd) ∧ (List.flatMap encE L)[i * 3 + 2]? = some (natV L[i].im)
  | [], i, hi => by simp at hi
  | r :: L, 0, _ => ⟨rfl, rfl, rfl⟩
  | r :: L, i + 1, hi => by
    have h := ecells_at L i (by simpa using hi)
    have e : (i + 1) * 3 = i * 3 + 3 := by omega
    rw [ecells_cons, e]
    exact h


theorem ecells_set : ∀ (L : List Ed) (i : Nat) (r : Ed), i < L.length → List.flatMap encE (L.set i r) = (((List.flatMap encE L).set (i * 3) (natV r.to)).set (i * 3 + 1) (natV r.kd)).set (i * 3 + 2) (natV r.im)
  | [], i, r, hi => by simp at hi
  | v :: L, 0, r, _ => rfl
  | v :: L, i + 1, r, hi => by
    have h := ecells_set L i r (by simpa using hi)
    have e : (i + 1) * 3 = i * 3 + 3 := by omega
    rw [List.set_cons_succ, ecells_cons, ecells_cons, e, h]
    rfl


/-- the slice v owns these edges -/
abbrev OwnE (w : World) (B : Nat) (v : Value) (L : List Ed) : Prop := OwnG encE 3 85 w B v L
theorem OwnE.kept {w w' : World} {B : Nat} {v : Value} {L : List Ed} (h : OwnE w B v L) (hb : Below w.heap.size w w') : OwnE w' B v L := OwnG.on h hb
theorem OwnE.at {w : World} {B g cap : Nat} {L : List Ed} (h : OwnE w B (.slice (some ⟨g, 0, none⟩) L.length cap) L) (i : Nat) (hi : i < L.length) :
    (w.cell? ⟨g, i * 3, none⟩ = some (natV L[i].to) ∧ w.cell? ⟨g, i * 3 + 1, none⟩ = some (natV L[i].kd) ∧ w.cell? ⟨g, i * 3 + 2, none⟩ = some (natV L[i].im)) ∧
    (w.frozen? ⟨g, i * 3, none⟩ = false ∧ w.frozen? ⟨g, i * 3 + 1, none⟩ = false ∧ w.frozen? ⟨g, i * 3 + 2, none⟩ = false) := by
  obtain ⟨a0, a1, a2⟩ := ecells_at L i hi
  have h' : w.ownsRow B 85 3 (.slice (some ⟨g, 0, none⟩) L.length cap) L.length (List.flatMap encE L) := h
  exact ⟨⟨(h'.cellAt (i * 3) (by omega)).trans a0, (h'.cellAt (i * 3 + 1) (by omega)).trans a1, (h'.cellAt (i * 3 + 2) (by omega)).trans a2⟩, h'.frozenAt _, h'.frozenAt _, h'.frozenAt _⟩


/-- 's[i] = r' -/
theorem OwnE.set {w : World} {B g cap : Nat} {L : List Ed} (h : OwnE w B (.slice (some ⟨g, 0, none⟩) L.length cap) L) (i : Nat) (hi : i < L.length) (r : Ed) :
    OwnE ((((w).setCell ⟨g, i * 3, none⟩ (natV r.to)).setCell ⟨g, i * 3 + 1, none⟩ (natV r.kd)).setCell ⟨g, i * 3 + 2, none⟩ (natV r.im)) B (.slice (some ⟨g, 0, none⟩) L.length cap) (L.set i r) := by
  have h' : w.ownsRow B 85 3 (.slice (some ⟨g, 0, none⟩) L.length cap) L.length (List.flatMap encE L) := h
  have h3 := (((h'.stored (i * 3) (natV r.to)).1.stored (i * 3 + 1) (natV r.kd)).1.stored (i * 3 + 2) (natV r.im)).1
  show World.ownsRow _ B _ 3 _ (L.set i r).length (List.flatMap encE (L.set i r))
  rw [List.length_set, ecells_set L i r hi]
  exact h3


/-- what is owned, in the sort's words -/
theorem OwnE.holds [Inhabited Ed] {w : World} {B g cap : Nat} {L : List Ed} (h : OwnE w B (.slice (some ⟨g, 0, none⟩) L.length cap) L) : HoldsK encE 3 w g 0 L.toArray := by
  intro j hj
  rw [size_flatK] at hj
  have hj' : j < L.length * 3 := by simpa using hj
  rw [get_flatK encE 3 L.toArray j hj, Nat.zero_add]
  have hi : j / 3 < L.length := by omega
  obtain ⟨⟨c0, c1, c2⟩, f0, f1, f2⟩ := h.at (j / 3) hi
  have eL : L.toArray[j / 3]! = L[j / 3] := by simp [getElem!_pos, hi]
  rw [eL]
  have h3 : j % 3 = 0 ∨ j % 3 = 1 ∨ j % 3 = 2 := by omega
  rcases h3 with e | e | e
  · have ej : j = j / 3 * 3 := by omega
    rw [e]
    rw [← ej] at c0 f0
    exact ⟨c0, f0⟩
  · have ej : j = j / 3 * 3 + 1 := by omega
    rw [e]
    rw [← ej] at c1 f1
    exact ⟨c1, f1⟩
  · have ej : j = j / 3 * 3 + 2 := by omega
    rw [e]
    rw [← ej] at c2 f2
    exact ⟨c2, f2⟩


theorem ecells_get (L : List Ed) (j : Nat) (hj : j < L.length * 3) : (List.flatMap encE L)[j]? = (encE (L[j / 3]'(by omega)))[j % 3]? := by
  have hi : j / 3 < L.length := by omega
  obtain ⟨a0, a1, a2⟩ := ecells_at L (j / 3) hi
  have h3 : j % 3 = 0 ∨ j % 3 = 1 ∨ j % 3 = 2 := by omega
  rcases h3 with e | e | e
  · have ej : j / 3 * 3 = j := by omega
    rw [e]; rw [ej] at a0; exact a0
  · have ej : j / 3 * 3 + 1 = j := by omega
    rw [e]; rw [ej] at a1; exact a1
  · have ej : j / 3 * 3 + 2 = j := by omega
    rw [e]; rw [ej] at a2; exact a2


theorem ecells_take (L : List Ed) (k : Nat) : List.flatMap encE (L.take k) = (List.flatMap encE L).take (k * 3) := by
  induction L generalizing k with
  | nil => simp
  | cons r L ih =>
    cases k with
    | zero => simp
    | succ k =>
      have e : (k + 1) * 3 = k * 3 + 1 + 1 + 1 := by omega
      rw [List.take_succ_cons, ecells_cons, ecells_cons, e, List.take_succ_cons, List.take_succ_cons, List.take_succ_cons, ih]


theorem setCells_rowE (g : Nat) (t : TypeId) : ∀ (vs : List Value) (o : Nat) (w : World) (cur : Array Value), w.heap[g]? = some (.cells cur t (0, 0)) →
    ∃ cur', (w.setCells g o vs).heap[g]? = some (.cells cur' t (0, 0)) ∧ cur'.size = cur.size ∧ ∀ j, j < o → cur'[j]? = cur[j]?
  | [], _, w, cur, h => ⟨cur, h, rfl, fun _ _ => rfl⟩
  | v :: vs, o, w, cur, h => by
    have h1 := heap_setCell_same w g o cur t v h
    obtain ⟨cur', h2, h3, h4⟩ := setCells_rowE g t vs (o + 1) (w.setCell ⟨g, o, none⟩ v) (cur.setIfInBounds o v) h1
    refine ⟨cur', h2, by rw [h3]; simp, fun j hj => ?_⟩
    rw [h4 j (by omega), Array.getElem?_setIfInBounds_ne (by omega)]

theorem setCells_belowE {B g : Nat} (hg : B ≤ g) : ∀ (vs : List Value) (o : Nat) (w w1 : World), Below B w w1 → Below B w (w1.setCells g o vs)
  | [], _, _, _, h => h
  | v :: vs, o, w, w1, h => setCells_belowE hg vs (o + 1) w (w1.setCell ⟨g, o, none⟩ v) (h.setCell hg _)

/-- the row cut to its first ones, whatever is laid behind them -/
theorem OwnE.cut {w : World} {B g cap n : Nat} {M : List Ed} (h : OwnE w B (.slice (some ⟨g, 0, none⟩) n cap) M) (hn : n = M.length) (k : Nat) (hk : k ≤ n) (vs : List Value) :
    OwnE (w.setCells g (k * 3) vs) B (.slice (some ⟨g, 0, none⟩) k cap) (M.take k) := by
  have hl : (M.take k).length = k := by rw [List.length_take]; omega
  rcases h.2 with ⟨h1, _⟩ | ⟨g', cap', cur, e, hb, hg, hn1, hm, hs, ht⟩
  · cases h1
  · injection e with e1 e2 e3
    injection e1 with e1
    injection e1 with e1
    subst e1 e3
    obtain ⟨cur', c1, c2, c3⟩ := setCells_rowE g 85 vs (k * 3) w cur hg
    refine ⟨by rw [ecells_len], .inr ⟨g, cap, cur', by rw [hl], hb, c1, by omega, hm, by rw [c2]; exact hs, ?_⟩⟩
    rw [hl, ecells_take, ← ht, List.take_take]
    have hmin : min (k * 3) (M.length * 3) = k * 3 := by omega
    rw [hmin]
    apply List.ext_getElem?
    intro j
    rw [List.getElem?_take, List.getElem?_take]
    split
    · rename_i hj
      rw [Array.getElem?_toList, Array.getElem?_toList, c3 j hj]
    · rfl


def zeroE (n : Nat) : List Value := (Builtin.zeroCells #[.int .i64 0, .int .i64 0, .int .i64 0] n).toList


theorem zeroE_len (n : Nat) : (zeroE n).length = n * 3 := by simp [zeroE, Builtin.zeroCells]


theorem zeroE_one (n : Nat) : ∀ v ∈ zeroE n, v.oneCell' = true := by
  intro v hv
  simp [zeroE, Builtin.zeroCells] at hv
  obtain ⟨j, _, rfl⟩ := hv
  have h3 : j % 3 = 0 ∨ j % 3 = 1 ∨ j % 3 = 2 := by omega
  rcases h3 with e | e | e <;> simp [e] <;> rfl


theorem run_clearE (w : World) (ty : TypeId) (b o n c : Nat) (hn : 0 < n) (hc : ∀ j, j < n * 3 → (w.cell? ⟨b, o + j, none⟩).isSome = true) (hf : ∀ j, j < n * 3 → w.frozen? ⟨b, o + j, none⟩ = false) :
    (Builtin.clear_ #[83] ty #[.slice (some ⟨b, o, none⟩) n c]).run Tryz.prog w = .ok (.tuple #[]) (w.setCells b o (zeroE n)) := by
  have hst := run_storeCells_cells (P := Tryz.prog) b o (zeroE n) 0 w (by rw [zeroE_len]; simpa using hc) (by rw [zeroE_len]; simpa using hf) (zeroE_one n)
  simp only [Nat.add_zero] at hst
  obtain ⟨m, rfl⟩ : ∃ m, n = m + 1 := ⟨n - 1, by omega⟩
  have hz : (Value.agg #[.int .i64 0, .int .i64 0, .int .i64 0]).cells = #[.int .i64 0, .int .i64 0, .int .i64 0] := by first | rfl | kernel_rfl | simp [Value.cells]
  unfold zeroE at hst ⊢
  simp [Builtin.clear_, run_underlying Tryz.underlying83, hz, hst]


theorem OwnE.cap {w : World} {B g cap n : Nat} {L : List Ed} (h : OwnE w B (.slice (some ⟨g, 0, none⟩) n cap) L) : L.length ≤ cap ∧ cap ≤ maxLen ∧ B ≤ g ∧ g < w.heap.size := by
  rcases h.2 with ⟨h1, _⟩ | ⟨g', cap', cur, e, hb, hg, hn1, hm, hs, ht⟩
  · cases h1
  · injection e with e1 e2 e3
    injection e1 with e1
    injection e1 with e1
    subst e1 e3
    exact ⟨hn1, hm, hb, (Array.getElem?_eq_some_iff.1 hg).1⟩

def ltE (a b : Ed) : Bool := decide (a.to < b.to ∨ a.to = b.to ∧ (a.kd < b.kd ∨ a.kd = b.kd ∧ a.im < b.im))
def or3 (a b c : Int) : Int := if (a != 0) = true then a else if (b != 0) = true then b else c
def cmpE (a b : Ed) : Int := or3 (cmpI (a.to : Nat) (b.to : Nat)) (cmpI (a.kd : Nat) (b.kd : Nat)) (cmpI (a.im : Nat) (b.im : Nat))
theorem cmpI_nat (a b : Nat) : cmpI (a : Int) (b : Int) = if a < b then -1 else if b < a then 1 else 0 := by
  unfold cmpI
  by_cases h : a < b
  · rw [if_pos (by omega), if_pos h]
  · rw [if_neg (by omega), if_neg h]
    by_cases h2 : b < a
    · rw [if_pos (by omega), if_pos h2]
    · rw [if_neg (by omega), if_neg h2]
theorem ltE_iff (a b : Ed) : ltE a b = true ↔ a.to < b.to ∨ a.to = b.to ∧ (a.kd < b.kd ∨ a.kd = b.kd ∧ a.im < b.im) := decide_eq_true_iff
theorem ltE_irrefl (a : Ed) : ltE a a = false := by
  rw [← Bool.not_eq_true, ltE_iff]; omega
theorem ltE_trans {a b c : Ed} (h1 : ltE a b = true) (h2 : ltE b c = true) : ltE a c = true := by
  rw [ltE_iff] at *; omega
theorem ltE_asymm {a b : Ed} (h : ltE a b = true) : ltE b a = false := by
  rw [← Bool.not_eq_true, ltE_iff]; rw [ltE_iff] at h; omega
theorem ltE_tri (a b : Ed) : ltE a b = true ∨ a = b ∨ ltE b a = true := by
  rw [ltE_iff, ltE_iff]
  by_cases h : a = b
  · exact .inr (.inl h)
  · have : ¬ (a.to = b.to ∧ a.kd = b.kd ∧ a.im = b.im) := fun ⟨h1, h2, h3⟩ => h (by cases a; cases b; simp_all)
    omega
theorem ltOf_cmpE (x y : Ed) : ltOf cmpE x y = ltE x y := by
  rw [Bool.eq_iff_iff, ltE_iff]
  unfold ltOf cmpE or3
  rw [cmpI_nat, cmpI_nat, cmpI_nat]
  by_cases h1 : x.to < y.to
  · simp [h1]
  · by_cases h2 : y.to < x.to
    · simp [h1, h2]; omega
    · by_cases h3 : x.kd < y.kd
      · simp [h1, h2, h3]; omega
      · by_cases h4 : y.kd < x.kd
        · simp [h1, h2, h3, h4]; omega
        · by_cases h5 : x.im < y.im
          · simp [h1, h2, h3, h4, h5]; omega
          · by_cases h6 : y.im < x.im
            · simp [h1, h2, h3, h4, h5, h6]
            · simp [h1, h2, h3, h4, h5, h6]
theorem swoE : SWO (ltOf cmpE) where
  irrefl x := by rw [ltOf_cmpE]; exact ltE_irrefl _
  trans x y z h1 h2 := by rw [ltOf_cmpE] at *; exact ltE_trans h1 h2
  ntrans x y z h1 h2 := by
    rw [ltOf_cmpE] at *
    rw [← Bool.not_eq_true, ltE_iff] at *
    omega
def UpE (L : List Ed) : Prop := L.Pairwise (fun a b => ltE b a = false)
def RisE (L : List Ed) : Prop := L.Pairwise (fun a b => ltE a b = true)
theorem take_memE (L : List Ed) (j : Nat) (hj : j < L.length) (x : Ed) : x ∈ L.take (j + 1) ↔ x ∈ L.take j ∨ x = L[j] := by
  rw [← List.take_append_getElem hj, List.mem_append, List.mem_singleton]
theorem RisE.uniq : ∀ {L M : List Ed}, RisE L → RisE M → (∀ x, x ∈ L ↔ x ∈ M) → L = M
  | [], [], _, _, _ => rfl
  | [], y :: M, _, _, h => absurd ((h y).2 (List.mem_cons_self ..)) (by simp)
  | x :: L, [], _, _, h => absurd ((h x).1 (List.mem_cons_self ..)) (by simp)
  | x :: L, y :: M, hL, hM, h => by
    obtain ⟨hx, hL'⟩ := List.pairwise_cons.1 hL
    obtain ⟨hy, hM'⟩ := List.pairwise_cons.1 hM
    have e : x = y := by
      rcases List.mem_cons.1 ((h x).1 (List.mem_cons_self ..)) with e | h1
      · exact e
      · rcases List.mem_cons.1 ((h y).2 (List.mem_cons_self ..)) with e | h2
        · exact e.symm
        · have h3 := hy x h1
          have h4 := hx y h2
          rw [ltE_asymm h3] at h4
          cases h4
    subst e
    congr 1
    refine RisE.uniq hL' hM' (fun z => ⟨fun hz => ?_, fun hz => ?_⟩)
    · rcases List.mem_cons.1 ((h z).1 (List.mem_cons_of_mem _ hz)) with e | h1
      · have := hx z hz
        rw [e, ltE_irrefl] at this
        cases this
      · exact h1
    · rcases List.mem_cons.1 ((h z).2 (List.mem_cons_of_mem _ hz)) with e | h1
      · have := hy z hz
        rw [e, ltE_irrefl] at this
        cases this
      · exact h1

theorem swE_frm [Inhabited Ed] (w : World) (g n : Nat) (d : Array Ed) (os : Array Obj) : Frm w (sortWorldK encE 3 w g 0 n d os) (fun k => k = g) where
  os := rfl
  tape := rfl
  output := rfl
  size := by
    simp [sortWorldK, grow, putRowK, putRow, mapBlock, Sort.ahead]
  block k hk hn := by
    simp only [sortWorldK, grow, putRowK, putRow, mapBlock, Sort.ahead]
    rw [Array.getElem?_append_left (by simpa using hk), Array.getElem?_modify, if_neg (fun e => hn e.symm)]
theorem perm_memE [Inhabited Ed] {d d' : Array Ed} (h : PermIn 0 d.size d d') (r : Ed) : r ∈ d'.toList ↔ r ∈ d.toList := by
  have h1 := h.2.2
  have e1 : (d.extract 0 d.size).toList = d.toList := by simp
  have e2 : (d'.extract 0 d.size).toList = d'.toList := by rw [← h.1]; simp
  rw [e1, e2] at h1
  exact h1.mem_iff

theorem sorted_upE [Inhabited Ed] {d : Array Ed} (h : SortedIn (ltOf cmpE) 0 d.size d) : UpE d.toList := by
  unfold UpE
  rw [List.pairwise_iff_getElem]
  intro i j hi hj hij
  have hi' : i < d.size := by simpa using hi
  have hj' : j < d.size := by simpa using hj
  have h1 := h i j (Nat.zero_le _) hij hj'
  rw [ltOf_cmpE] at h1
  have e1 : d[i]! = d.toList[i] := by simp [getElem!_pos, hi']
  have e2 : d[j]! = d.toList[j] := by simp [getElem!_pos, hj']
  rw [e1, e2] at h1
  exact h1

theorem own_sortedE [Inhabited Ed] {w : World} {B g n cap : Nat} {d : Array Ed} {L : List Ed} (os : Array Obj) (h : OwnE w B (.slice (some ⟨g, 0, none⟩) L.length cap) L) (hs : d.size = L.length) : OwnE (sortWorldK encE 3 w g 0 n d os) B (.slice (some ⟨g, 0, none⟩) d.toList.length cap) d.toList := by
  rcases h.2 with ⟨h1, _⟩ | ⟨g', cap', cur, e, hb, hg, hn1, hm, hsz, ht⟩
  · cases h1
  · injection e with e1 e2 e3
    injection e1 with e1
    injection e1 with e1
    subst e1 e3
    have hgl : g < w.heap.size := (Array.getElem?_eq_some_iff.1 hg).1
    have hdl : d.toList.length = d.size := by simp
    have hF : (flatK encE 3 d).size = d.size * 3 := size_flatK encE 3 d
    refine ⟨by rw [ecells_len], .inr ⟨g, cap, putCells id 0 (flatK encE 3 d) cur, rfl, hb, ?_, by rw [hdl, hs]; exact hn1, hm, by simp [putCells]; exact hsz, ?_⟩⟩
    · simp only [sortWorldK, grow, putRowK, putRow, mapBlock, Sort.ahead]
      rw [Array.getElem?_append_left (by simpa using hgl), Array.getElem?_modify, if_pos rfl, hg]
      rfl
    · rw [hdl]
      apply List.ext_getElem?
      intro j
      rw [List.getElem?_take]
      split
      · rename_i hj
        have hjc : j < cur.size := by rw [hsz]; omega
        have hjp : j < (List.flatMap encE d.toList).length := by rw [ecells_len, hdl]; exact hj
        have h3 := ecells_get d.toList j (by rw [hdl]; exact hj)
        have hd : j / 3 < d.size := by omega
        have hg3 := get_flatK encE 3 d j hj
        have e5 : d[j / 3]! = d.toList[j / 3]'(by rw [hdl]; exact hd) := by simp [getElem!_pos, hd]
        rw [h3, Array.getElem?_toList, putCells, Array.getElem?_mapIdx, Array.getElem?_eq_getElem hjc, Option.map_some, if_pos ⟨Nat.zero_le _, by rw [hF]; omega⟩, Nat.sub_zero, hg3, e5]
        have hm3 : j % 3 < 3 := by omega
        have hl3 : (encE (d.toList[j / 3]'(by rw [hdl]; exact hd))).length = 3 := rfl
        have h9 : j % 3 < (encE (d.toList[j / 3]'(by rw [hdl]; exact hd))).length := by rw [hl3]; exact hm3
        rw [List.getElem?_eq_getElem h9]
        exact congrArg some (getElem!_pos (encE (d.toList[j / 3]'(by rw [hdl]; exact hd))) (j % 3) h9)
      · rename_i hj
        rw [List.getElem?_eq_none (by rw [ecells_len, hdl]; omega)]

/-- the first p of a list, those left out that are as the one ahead of them -/
def ddE (L : List Ed) : Nat → List Ed
  | 0 => []
  | p + 1 => if p = 0 ∨ L.getD p ⟨0, 0, 0⟩ ≠ L.getD (p - 1) ⟨0, 0, 0⟩ then ddE L p ++ [L.getD p ⟨0, 0, 0⟩] else ddE L p

theorem ddE_new (L : List Ed) (p : Nat) (hp : p + 1 < L.length) (h : ¬ L[p + 1] = L[p]) : ddE L (p + 2) = ddE L (p + 1) ++ [L[p + 1]] := by
  have e1 : L.getD (p + 1) ⟨0, 0, 0⟩ = L[p + 1] := by simp [List.getD, hp]
  have e2 : L.getD p ⟨0, 0, 0⟩ = L[p] := by simp [List.getD, show p < L.length by omega]
  show (if p + 1 = 0 ∨ L.getD (p + 1) ⟨0, 0, 0⟩ ≠ L.getD (p + 1 - 1) ⟨0, 0, 0⟩ then _ else _) = _
  rw [Nat.add_sub_cancel, e1, e2, if_pos (.inr h)]

theorem ddE_old (L : List Ed) (p : Nat) (hp : p + 1 < L.length) (h : L[p + 1] = L[p]) : ddE L (p + 2) = ddE L (p + 1) := by
  have e1 : L.getD (p + 1) ⟨0, 0, 0⟩ = L[p + 1] := by simp [List.getD, hp]
  have e2 : L.getD p ⟨0, 0, 0⟩ = L[p] := by simp [List.getD, show p < L.length by omega]
  show (if p + 1 = 0 ∨ L.getD (p + 1) ⟨0, 0, 0⟩ ≠ L.getD (p + 1 - 1) ⟨0, 0, 0⟩ then _ else _) = _
  rw [Nat.add_sub_cancel, e1, e2, if_neg (by rintro (h1 | h1); exact absurd h1 (by omega); exact h1 h)]

theorem ddE_one (L : List Ed) (hp : 0 < L.length) : ddE L 1 = [L[0]] := by
  show (if 0 = 0 ∨ _ then _ else _) = _
  rw [if_pos (.inl rfl)]
  simp [ddE, List.getD, hp]

theorem ddE_mem (L : List Ed) : ∀ p, p ≤ L.length → ∀ x, x ∈ ddE L p ↔ x ∈ L.take p
  | 0, _, x => by simp [ddE]
  | 1, h, x => by rw [ddE_one L (by omega), take_memE L 0 (by omega)]; simp
  | p + 2, h, x => by
    have ih := ddE_mem L (p + 1) (by omega) x
    rw [take_memE L (p + 1) (by omega)]
    by_cases he : L[p + 1]'(by omega) = L[p]'(by omega)
    · rw [ddE_old L p (by omega) he, ih]
      refine ⟨.inl, fun h => h.elim id (fun e => ?_)⟩
      rw [e, he, take_memE L p (by omega)]
      exact .inr rfl
    · rw [ddE_new L p (by omega) he, List.mem_append, ih, List.mem_singleton]

theorem ddE_ris (L : List Ed) (hU : UpE L) : ∀ p, p ≤ L.length → RisE (ddE L p)
  | 0, _ => List.Pairwise.nil
  | 1, h => by rw [ddE_one L (by omega)]; exact List.pairwise_singleton _ _
  | p + 2, h => by
    have ih := ddE_ris L hU (p + 1) (by omega)
    by_cases he : L[p + 1]'(by omega) = L[p]'(by omega)
    · rw [ddE_old L p (by omega) he]; exact ih
    · rw [ddE_new L p (by omega) he]
      refine List.pairwise_append.2 ⟨ih, List.pairwise_singleton _ _, fun x hx y hy => ?_⟩
      rw [List.mem_singleton] at hy
      subst hy
      rw [ddE_mem L (p + 1) (by omega)] at hx
      have hq : ltE (L[p + 1]'(by omega)) (L[p]'(by omega)) = false := List.pairwise_iff_getElem.1 hU p (p + 1) (by omega) (by omega) (by omega)
      have hs : ltE (L[p]'(by omega)) (L[p + 1]'(by omega)) = true := by
        rcases ltE_tri (L[p]'(by omega)) (L[p + 1]'(by omega)) with h1 | h1 | h1
        · exact h1
        · exact absurd h1.symm he
        · rw [h1] at hq; cases hq
      obtain ⟨i, hi, rfl⟩ := List.getElem_of_mem hx
      rw [List.length_take] at hi
      rw [List.getElem_take]
      by_cases hip : i = p
      · subst hip; exact hs
      · have h3 : ltE (L[p]'(by omega)) (L[i]'(by omega)) = false := List.pairwise_iff_getElem.1 hU i p (by omega) (by omega) (by omega)
        rcases ltE_tri (L[i]'(by omega)) (L[p]'(by omega)) with h4 | h4 | h4
        · exact ltE_trans h4 hs
        · rw [h4]; exact hs
        · rw [h4] at h3; cases h3

theorem ddE_short (L : List Ed) (h : L.length < 2) : ddE L L.length = L := by
  match L, h with
  | [], _ => rfl
  | [x], _ => rfl


theorem ddE_len (L : List Ed) : ∀ p, (ddE L p).length ≤ p
  | 0 => Nat.le_refl _
  | p + 1 => by
    have ih := ddE_len L p
    unfold ddE
    split
    · simp; omega
    · omega

theorem natbeq9 (a b : Nat) : (((a : Nat) : Int) == ((b : Nat) : Int)) = (a == b) := by
  rw [Bool.eq_iff_iff, beq_iff_eq, beq_iff_eq]; omega
theorem ed_eq (x y : Ed) : decide (x = y) = ((x.to == y.to) && ((x.kd == y.kd) && (x.im == y.im))) := by
  cases x; cases y
  rw [Bool.eq_iff_iff]
  simp
theorem run_eqInE (x y : Ed) (w : World) : (Op.equalIn 10000 85 (.agg #[natV x.to, natV x.kd, natV x.im]) (.agg #[natV y.to, natV y.kd, natV y.im])).run Tryz.prog w = .ok (decide (x = y)) w := by
  have u4 := Tryz.underlying3
  have a4 := Tryz.isAgg3
  have z4 := Tryz.sizeOf3
  have hS : Tryz.prog.underlying 85 = some (.struct (Tryz.prog.fieldsOf 85)) := by kernel_rfl
  have hp : Tryz.prog.stoodInHeld 85 = false := by kernel_rfl
  rw [ed_eq, show (10000 : Nat) = 9999 + 1 from rfl, run_equalIn_agg w 9999 85 _ _ hS hp]
  simp only [Program.fieldsOf, Tryz.underlying85]
  go_simp
  by_cases h1 : x.to = y.to <;> by_cases h2 : x.kd = y.kd <;> by_cases h3 : x.im = y.im <;> simp [h1, h2, h3, Int.ofNat_inj]
theorem run_eqGE (op : BinOp) (a b : Operand) (x y : Ed) (w : World) : (eqGuard op 85 a b (.agg #[natV x.to, natV x.kd, natV x.im]) (.agg #[natV y.to, natV y.kd, natV y.im])).run Tryz.prog w = .ok () w :=
  run_eqGuard_agg w op 85 a b _ _ (by kernel_rfl)

end Go.Proofs.YtncfejndmlcidaaGreat

namespace Go.Proofs.YtncfejndmlcidaaGreat
open Go.RowKit
set_option maxRecDepth 100000

set_option maxHeartbeats 8000000 in
theorem compactE_any (L : List Ed) (g cap B : Nat) (w : World) (hO : OwnE w B (.slice (some ⟨g, 0, none⟩) L.length cap) L) (hlen : L.length ≤ 4398046511104) :
    Calls Tryz.prog 79 #[.slice (some ⟨g, 0, none⟩) L.length cap] w fun e w' => e = .returned (.slice (some ⟨g, 0, none⟩) (ddE L L.length).length cap) ∧ OwnE w' B (.slice (some ⟨g, 0, none⟩) (ddE L L.length).length cap) (ddE L L.length) ∧ Frm w w' (one1 g) := by
  obtain ⟨hcap, hmx, hBg, hgw⟩ := hO.cap
  have hmx' : cap ≤ 9223372036854775807 := by unfold maxLen at hmx; omega
  have HO : Hid (OwnE w B (.slice (some ⟨g, 0, none⟩) L.length cap) L) := hO
  have heq := run_eqInE
  have hgd := run_eqGE
  clear hO hmx
  by_cases hl2 : L.length < 2
  · have h9 := ddE_short L hl2
    rw [h9]
    clear h9
    go_enter Tryz.func79, Tryz.ntmps79
    go_wp2_with fail
    go_ret
    exact ⟨rfl, HO.out, Frm.refl _ _⟩
  · have hl3 : 2 ≤ L.length := by omega
    have hl2' : ((L.length : Int) < 2) = False := by simp; omega
    clear hl2
    go_enter Tryz.func79, Tryz.ntmps79
    go_wp2_with fail
    go_loopw [3] (fun i wr => ∃ k : Nat, k + 1 ≤ L.length ∧ i = .int .i64 ((k + 1 : Nat) : Int) ∧ Hid (ddE L (k + 1) = L.take (k + 1)) ∧ Hid (Below w.heap.size w wr)) (fun i _ => L.length - (intOf i).toNat)
    case atStart => exact ⟨0, by omega, by go_num, by
      rw [ddE_one L (by omega)]
      match L, hl3 with
      | x :: L, _ => rfl, Below.refl _ _⟩
    case round =>
      obtain ⟨k, hk, rfl, HD, HBl⟩ := hrel
      have HOr : Hid (OwnE wr B (.slice (some ⟨g, 0, none⟩) L.length cap) L) := HO.out.kept HBl.out
      by_cases hk0 : k + 1 = L.length
      · have HE : Hid (ddE L L.length = L) := by
          have h := HD.out
          rw [hk0, List.take_of_length_le (Nat.le_refl _)] at h
          exact h
        have hk0' : ((k : Int) + 1) = (L.length : Int) := by omega
        clear HD
        go_wp2_with fail
        go_ret
        rw [HE.out]
        exact ⟨rfl, HOr.out, Frm.of_below HBl.out⟩
      · have hk1 : k + 1 < L.length := by omega
        obtain ⟨⟨c0, c1, c2⟩, n0, n1, n2⟩ := HOr.out.at (k + 1) hk1
        obtain ⟨⟨d0, d1, d2⟩, m0, m1, m2⟩ := HOr.out.at k (by omega)
        by_cases hxy : L[k + 1] = L[k]
        · have HD2 : Hid (ddE L (k + 2) = L.take (k + 1)) := by
            refine (show _ = _ from ?_)
            rw [ddE_old L k hk1 hxy, HD.out]
          have hdx : decide (L[k + 1] = L[k]) = true := decide_eq_true hxy
          clear hxy HD
          generalize L[k + 1] = x at *
          generalize L[k] = y at *
          go_wp2_with fail
          go_quiet (fail)
          have HO2 : Hid (OwnE (wr.drewN nq) B (.slice (some ⟨g, 0, none⟩) L.length cap) L ∧ Frm w (wr.drewN nq) (one1 g)) := ⟨HOr.out.kept ⟨rfl, rfl, rfl, Nat.le_refl _, fun _ _ => rfl⟩, ⟨HBl.out.os, HBl.out.tape, HBl.out.output, HBl.out.size, fun k hk _ => HBl.out.block k hk⟩⟩
          clear HOr HBl c0 c1 c2 n0 n1 n2 d0 d1 d2 m0 m1 m2 hdx
          generalize wr.drewN nq = w2 at *
          have HDk : Hid (ddE L (k + 1 + 0 + 1) = L.take (k + 1)) := HD2.out
          clear HD2
          have hk0p : 1 ≤ k + 1 := by omega
          generalize k + 1 = k0 at *
          go_wp2_with fail
          go_loopw [3, 5] (fun a b wr => ∃ (i q : Nat) (M : List Ed), a = .int .i64 (i : Int) ∧ b = .int .i64 ((q + 1 : Nat) : Int) ∧ i ≤ k0 + q ∧ k0 + q + 1 ≤ L.length ∧ M.length = L.length ∧ Hid (M.take i = ddE L (k0 + q + 1)) ∧ Hid (M.drop i = L.drop i) ∧ Hid (OwnE wr B (.slice (some ⟨g, 0, none⟩) L.length cap) M) ∧ Hid (Frm w wr (one1 g))) (fun _ b _ => L.length - (intOf b).toNat)
          case atStart => exact ⟨k0, 0, L, by go_num, by go_num, by omega, by omega, rfl, HDk.out.symm, rfl, HO2.out.1, HO2.out.2⟩
          case round =>
            obtain ⟨i, q, M, rfl, rfl, hiq, hq, hM, HT, HDr, HOw, HBw⟩ := hrel
            have hgr : g < wr.heap.size := (HOw.out.cap).2.2.2
            by_cases hq0 : k0 + q + 1 = L.length
            · have HF : Hid ((ddE L L.length).length = i ∧ M.take i = ddE L L.length) := by
                have h := HT.out
                rw [hq0] at h
                exact ⟨by rw [← h, List.length_take]; omega, h⟩
              have hcl : (Builtin.clear_ #[83] 0 #[.slice (some ⟨g, i * 3, none⟩) (L.length - i) (cap - i)]).run Tryz.prog wr = .ok (.tuple #[]) (wr.setCells g (i * 3) (zeroE (L.length - i))) := by
                have h' : wr.ownsRow B 85 3 (.slice (some ⟨g, 0, none⟩) M.length cap) M.length (List.flatMap encE M) := by
                  have h := HOw.out
                  rw [← hM] at h
                  exact h
                refine run_clearE wr 0 g (i * 3) (L.length - i) (cap - i) (by omega) (fun t ht => ?_) (fun t _ => h'.frozenAt _)
                rw [h'.cellAt (i * 3 + t) (by omega), List.getElem?_eq_getElem (by rw [ecells_len]; omega)]
                rfl
              have hlt : ((q : Int) + 1 < ((L.length - k0 : Nat) : Int)) = False := by simp; omega
              have hil : i ≤ L.length := by omega
              go_wp2_with fail
              go_ret
              rw [HF.out.1, ← HF.out.2]
              exact ⟨rfl, HOw.out.cut hM.symm i (by omega) _, HBw.out.trans (setCells_frm g _ _ _) (fun k h => .inl h)⟩
            · have hq1 : k0 + q + 1 < L.length := by omega
              have hoM : OwnE wr B (.slice (some ⟨g, 0, none⟩) M.length cap) M := by rw [hM]; exact HOw.out
              obtain ⟨⟨c0, c1, c2⟩, _⟩ := hoM.at (k0 + q + 1) (by omega)
              obtain ⟨⟨d0, d1, d2⟩, _⟩ := hoM.at (k0 + q) (by omega)
              obtain ⟨⟨m0, m1, m2⟩, n0, n1, n2⟩ := hoM.at i (by omega)
              have eM : ∀ t (ht : t < L.length), i ≤ t → M[t]'(by omega) = L[t] := by
                intro t ht hit
                have h := congrArg (fun l => l[t - i]?) HDr.out
                simp only [List.getElem?_drop] at h
                rw [show i + (t - i) = t by omega, List.getElem?_eq_getElem (by omega), List.getElem?_eq_getElem ht] at h
                exact Option.some.inj h
              rw [eM (k0 + q + 1) (by omega) (by omega), show (k0 + q + 1) * 3 = k0 * 3 + (q + 1) * 3 by omega] at c0 c1 c2
              rw [eM (k0 + q) (by omega) (by omega), show (k0 + q) * 3 = k0 * 3 + q * 3 by omega] at d0 d1 d2
              have hlt : (q : Int) + 1 < ((L.length - k0 : Nat) : Int) := by omega
              have HNew : Hid (¬ L[k0 + q + 1] = L[k0 + q] → ddE L (k0 + q + 2) = ddE L (k0 + q + 1) ++ [L[k0 + q + 1]]) := fun h => ddE_new L (k0 + q) hq1 h
              have HOld : Hid (L[k0 + q + 1] = L[k0 + q] → ddE L (k0 + q + 2) = ddE L (k0 + q + 1)) := fun h => ddE_old L (k0 + q) hq1 h
              clear eM
              obtain ⟨x, hx⟩ : ∃ x, x = L[k0 + q + 1] := ⟨_, rfl⟩
              obtain ⟨y, hy⟩ : ∃ y, y = L[k0 + q]'(by omega) := ⟨_, rfl⟩
              rw [← hx] at HNew HOld c0 c1 c2
              rw [← hy] at HNew HOld d0 d1 d2
              have HX : Hid (x = L[k0 + q + 1]) := hx
              clear hx hy hoM
              by_cases hxy : x = y
              · have HD3 : Hid (ddE L (k0 + q + 2) = ddE L (k0 + q + 1)) := HOld.out hxy
                have hdx : decide (x = y) = true := decide_eq_true hxy
                clear HNew HOld hxy
                go_wp2_with fail
                go_quiet (fail)
                go_wp2_with fail
                go_roundw
                case rel => exact ⟨i, q + 1, M, by go_num, by go_num, by omega, by omega, hM, by rw [show k0 + (q + 1) + 1 = k0 + q + 2 by omega, HD3.out]; exact HT.out, HDr.out, HOw.out.kept ⟨rfl, rfl, rfl, Nat.le_refl _, fun _ _ => rfl⟩, ⟨HBw.out.os, HBw.out.tape, HBw.out.output, HBw.out.size, HBw.out.block⟩⟩
                case measure => simp [intOf]; omega
              · have HD3 : Hid (ddE L (k0 + q + 2) = ddE L (k0 + q + 1) ++ [x]) := HNew.out hxy
                have hdx : decide (x = y) = false := decide_eq_false hxy
                clear HNew HOld hxy
                go_wp2_with fail
                go_quiet (fail)
                go_wp2_with fail
                go_roundw
                case rel =>
                  refine ⟨i + 1, q + 1, M.set i x, by go_num, by go_num, by omega, by omega, by rw [List.length_set]; exact hM, ?_, ?_, ?_, ?_⟩
                  · refine (show _ = _ from ?_)
                    rw [show k0 + (q + 1) + 1 = k0 + q + 2 by omega, HD3.out, ← HT.out, List.take_set, List.take_add_one, List.getElem?_eq_getElem (by omega : i < M.length)]
                    rw [List.set_append]
                    have hl : (M.take i).length = i := by rw [List.length_take]; omega
                    rw [if_neg (by omega), hl, Nat.sub_self]
                    rfl
                  · refine (show _ = _ from ?_)
                    rw [List.drop_set_of_lt (by omega), ← List.drop_drop, ← List.drop_drop, HDr.out]
                  · have h := (show OwnE (wr.drewN nq) B (.slice (some ⟨g, 0, none⟩) M.length cap) M from by rw [hM]; exact HOw.out.kept ⟨rfl, rfl, rfl, Nat.le_refl _, fun _ _ => rfl⟩).set i (by omega) x
                    rw [hM] at h
                    exact h
                  · have hb9 : Frm w (wr.drewN nq) (one1 g) := ⟨HBw.out.os, HBw.out.tape, HBw.out.output, HBw.out.size, HBw.out.block⟩
                    exact ((hb9.trans (frm_set _ g _ _ (F := one1 g) (.inl rfl)) (fun k h => .inl h)).trans (frm_set _ g _ _ (F := one1 g) (.inl rfl)) (fun k h => .inl h)).trans (frm_set _ g _ _ (F := one1 g) (.inl rfl)) (fun k h => .inl h)
                case measure => simp [intOf]; omega
        · have HD2 : Hid (ddE L (k + 2) = L.take (k + 2)) := by
            refine (show _ = _ from ?_)
            rw [ddE_new L k hk1 hxy, HD.out, List.take_append_getElem hk1]
          have hdx : decide (L[k + 1] = L[k]) = false := decide_eq_false hxy
          clear hxy HD
          generalize L[k + 1] = x at *
          generalize L[k] = y at *
          go_wp2_with fail
          go_quiet (fail)
          go_wp2_with fail
          go_roundw
          case rel => exact ⟨k + 1, by omega, by go_num, HD2.out, ⟨HBl.out.os, HBl.out.tape, HBl.out.output, HBl.out.size, HBl.out.block⟩⟩
          case measure => simp [intOf]; omega

end Go.Proofs.YtncfejndmlcidaaGreat
