/- Tables in memory: rows of numbers, of columns, of indexes, of references. -/
import Derived.Test.YthbjheiogghjnaaGreatDoorGWName2
import Derived.Test.YthbjheiogghjnaaGreatDoorGWRowV
namespace Go.Proofs.YthbjheiogghjnaaGreatDoor
open Go.RowKit
set_option maxRecDepth 100000

def RowI (w : World) (B : Nat) (p : Option Addr) (L : List Int) : Prop := ∀ i (hi : i < L.length), ∃ b o, p = some ⟨b, o, none⟩ ∧ b < B ∧ w.cell? ⟨b, o + i, none⟩ = some (.int .i64 L[i])
/-- a slice of numbers -/
def SlI (w : World) (B : Nat) (v : Value) (L : List Int) : Prop := ∃ p c, v = .slice p L.length c ∧ RowI w B p L
def RowC (w : World) (B : Nat) (p : Option Addr) (L : List Cl) : Prop := ∀ i (hi : i < L.length), ∃ b o, p = some ⟨b, o, none⟩ ∧ b < B ∧
  w.cell? ⟨b, o + i * 7, none⟩ = some (.string L[i].nm) ∧ w.cell? ⟨b, o + i * 7 + 1, none⟩ = some (.int .i64 L[i].kd) ∧ w.cell? ⟨b, o + i * 7 + 2, none⟩ = some (.bool L[i].nl) ∧
  w.cell? ⟨b, o + i * 7 + 3, none⟩ = some (.int .i64 L[i].df.k) ∧ w.cell? ⟨b, o + i * 7 + 4, none⟩ = some (.int .i64 L[i].df.n) ∧ w.cell? ⟨b, o + i * 7 + 5, none⟩ = some (.float .f64 L[i].df.f) ∧ w.cell? ⟨b, o + i * 7 + 6, none⟩ = some (.string L[i].df.s)
def RowX (w : World) (B : Nat) (p : Option Addr) (L : List Ix) : Prop := ∀ i (hi : i < L.length), ∃ b o, p = some ⟨b, o, none⟩ ∧ b < B ∧
  w.cell? ⟨b, o + i * 3, none⟩ = some (.string L[i].nm) ∧ (∃ q c, w.cell? ⟨b, o + i * 3 + 1, none⟩ = some (.slice q L[i].cs.length c) ∧ RowI w B q L[i].cs) ∧ w.cell? ⟨b, o + i * 3 + 2, none⟩ = some (.bool L[i].un)
def RowF (w : World) (B : Nat) (p : Option Addr) (L : List Rf) : Prop := ∀ i (hi : i < L.length), ∃ b o, p = some ⟨b, o, none⟩ ∧ b < B ∧
  (∃ q c, w.cell? ⟨b, o + i * 2, none⟩ = some (.slice q L[i].cs.length c) ∧ RowI w B q L[i].cs) ∧ w.cell? ⟨b, o + i * 2 + 1, none⟩ = some (.string L[i].tb)
/-- a table's value -/
structure TabP where
  pc : Option Addr
  cc : Nat
  pk : Option Addr
  ck : Nat
  px : Option Addr
  cx : Nat
  pr : Option Addr
  cr : Nat
def TabP.val (a : TabP) (t : Tb) : Value := .agg #[.string t.nm, .slice a.pc t.cs.length a.cc, .slice a.pk t.key.length a.ck, .slice a.px t.ix.length a.cx, .slice a.pr t.rf.length a.cr]
structure TabV (w : World) (B : Nat) (t : Tb) (a : TabP) : Prop where
  cs : RowC w B a.pc t.cs
  key : RowI w B a.pk t.key
  ix : RowX w B a.px t.ix
  rf : RowF w B a.pr t.rf
  hc : t.cs.length ≤ a.cc
  hx : t.ix.length ≤ a.cx
/-- texts and lists no longer than what fits into memory -/
structure Tb.ok (t : Tb) : Prop where
  nm : t.nm.size ≤ 140737488351232
  cs : t.cs.length ≤ 2513169434845
  cn : ∀ c ∈ t.cs, c.nm.size ≤ 140737488351232 ∧ c.df.ok
  key : t.key.length ≤ 17592186043904
  ix : t.ix.length ≤ 3518437208784
  xn : ∀ x ∈ t.ix, x.nm.size ≤ 140737488351232 ∧ x.cs.length ≤ 17592186043904
  rf : t.rf.length ≤ 3518437208784
  rn : ∀ r ∈ t.rf, r.tb.size ≤ 140737488351232 ∧ r.cs.length ≤ 17592186043904

theorem RowI.keep {w w' : World} {B : Nat} {p : Option Addr} {L : List Int} (h : RowI w B p L) (hb : Below B w w') : RowI w' B p L := by
  intro i hi
  obtain ⟨b, o, e, hbB, c0⟩ := h i hi
  exact ⟨b, o, e, hbB, (hb.cell (p := ⟨b, _, none⟩) hbB).trans c0⟩
theorem RowI.mono {w : World} {B C : Nat} {p : Option Addr} {L : List Int} (h : RowI w B p L) (hb : B ≤ C) : RowI w C p L := by
  intro i hi
  obtain ⟨b, o, e, hbB, r⟩ := h i hi
  exact ⟨b, o, e, Nat.lt_of_lt_of_le hbB hb, r⟩
theorem RowC.keep {w w' : World} {B : Nat} {p : Option Addr} {L : List Cl} (h : RowC w B p L) (hb : Below B w w') : RowC w' B p L := by
  intro i hi
  obtain ⟨b, o, e, hbB, c0, c1, c2, c3, c4, c5, c6⟩ := h i hi
  have k : ∀ {o : Nat} {v : Option Value}, w.cell? ⟨b, o, none⟩ = v → w'.cell? ⟨b, o, none⟩ = v := fun {o v} hc => (hb.cell (p := ⟨b, o, none⟩) hbB).trans hc
  exact ⟨b, o, e, hbB, k c0, k c1, k c2, k c3, k c4, k c5, k c6⟩
theorem RowC.mono {w : World} {B C : Nat} {p : Option Addr} {L : List Cl} (h : RowC w B p L) (hb : B ≤ C) : RowC w C p L := by
  intro i hi
  obtain ⟨b, o, e, hbB, r⟩ := h i hi
  exact ⟨b, o, e, Nat.lt_of_lt_of_le hbB hb, r⟩
theorem RowX.keep {w w' : World} {B : Nat} {p : Option Addr} {L : List Ix} (h : RowX w B p L) (hb : Below B w w') : RowX w' B p L := by
  intro i hi
  obtain ⟨b, o, e, hbB, c0, ⟨q, c, c1, r⟩, c2⟩ := h i hi
  have k : ∀ {o : Nat} {v : Option Value}, w.cell? ⟨b, o, none⟩ = v → w'.cell? ⟨b, o, none⟩ = v := fun {o v} hc => (hb.cell (p := ⟨b, o, none⟩) hbB).trans hc
  exact ⟨b, o, e, hbB, k c0, ⟨q, c, k c1, r.keep hb⟩, k c2⟩
theorem RowX.mono {w : World} {B C : Nat} {p : Option Addr} {L : List Ix} (h : RowX w B p L) (hb : B ≤ C) : RowX w C p L := by
  intro i hi
  obtain ⟨b, o, e, hbB, c0, ⟨q, c, c1, r⟩, c2⟩ := h i hi
  exact ⟨b, o, e, Nat.lt_of_lt_of_le hbB hb, c0, ⟨q, c, c1, r.mono hb⟩, c2⟩
theorem RowF.keep {w w' : World} {B : Nat} {p : Option Addr} {L : List Rf} (h : RowF w B p L) (hb : Below B w w') : RowF w' B p L := by
  intro i hi
  obtain ⟨b, o, e, hbB, ⟨q, c, c1, r⟩, c2⟩ := h i hi
  have k : ∀ {o : Nat} {v : Option Value}, w.cell? ⟨b, o, none⟩ = v → w'.cell? ⟨b, o, none⟩ = v := fun {o v} hc => (hb.cell (p := ⟨b, o, none⟩) hbB).trans hc
  exact ⟨b, o, e, hbB, ⟨q, c, k c1, r.keep hb⟩, k c2⟩
theorem RowF.mono {w : World} {B C : Nat} {p : Option Addr} {L : List Rf} (h : RowF w B p L) (hb : B ≤ C) : RowF w C p L := by
  intro i hi
  obtain ⟨b, o, e, hbB, ⟨q, c, c1, r⟩, c2⟩ := h i hi
  exact ⟨b, o, e, Nat.lt_of_lt_of_le hbB hb, ⟨q, c, c1, r.mono hb⟩, c2⟩
theorem TabV.keep {w w' : World} {B : Nat} {t : Tb} {a : TabP} (h : TabV w B t a) (hb : Below B w w') : TabV w' B t a := ⟨h.cs.keep hb, h.key.keep hb, h.ix.keep hb, h.rf.keep hb, h.hc, h.hx⟩
theorem TabV.mono {w : World} {B C : Nat} {t : Tb} {a : TabP} (h : TabV w B t a) (hb : B ≤ C) : TabV w C t a := ⟨h.cs.mono hb, h.key.mono hb, h.ix.mono hb, h.rf.mono hb, h.hc, h.hx⟩
/-- and on, in a later world -/
theorem TabV.on {w w' : World} {t : Tb} {a : TabP} (h : TabV w w.heap.size t a) (hb : Below w.heap.size w w') : TabV w' w'.heap.size t a := (h.keep hb).mono hb.size
theorem RowI.on {w w' : World} {p : Option Addr} {L : List Int} (h : RowI w w.heap.size p L) (hb : Below w.heap.size w w') : RowI w' w'.heap.size p L := (h.keep hb).mono hb.size

/-- the places that were met so far -/
def Met (w : World) (g : Nat) (l : List Int) : Prop := ∀ i, i < 64 → w.cell? ⟨g, i, none⟩ = some (.bool (l.contains (i : Int))) ∧ w.frozen? ⟨g, i, none⟩ = false
theorem Met.new (w : World) : Met (w.alloc (.cells (Array.replicate 64 (.bool false)) 87)) w.heap.size [] := by
  intro i hi
  refine ⟨(World.cell?_alloc_new w _ _ i).trans ?_, ?_⟩
  · simp [hi]
  · simp [go_sem]
theorem Met.set {w : World} {g : Nat} {l : List Int} (h : Met w g l) (k : Nat) (hk : k < 64) : Met (w.setCell ⟨g, k, none⟩ (.bool true)) g (l ++ [(k : Int)]) := by
  intro i hi
  obtain ⟨h1, h2⟩ := h i hi
  by_cases e : i = k
  · subst e
    refine ⟨?_, ?_⟩
    · rw [World.cell?_setCell_same (h := h1)]
      simp
    · rw [World.frozen?_setCell]; exact h2
  · refine ⟨?_, ?_⟩
    · rw [World.cell?_setCell_other _ _ _ _ (by intro h; injection h with _ h; exact e h.symm), h1]
      have e' : ¬ (i : Int) = (k : Int) := by omega
      simp [e']
    · rw [World.frozen?_setCell]; exact h2

set_option maxHeartbeats 2000000 in
theorem apart_any (t : Tb) (a : TabP) (l : List Int) (p : Option Addr) (c : Nat) (w : World) (hR : RowI w w.heap.size p l) (hn : t.cs.length ≤ 64) (hlen : l.length ≤ 17592186043904) :
    Calls Tryz.prog 38 #[a.val t, .slice p l.length c] w fun e w' => e = .returned (.bool (apartB t.cs.length l)) ∧ Below w.heap.size w w' := by
  have HA : Hid (RowI _ _ _ _) := hR
  clear hR
  unfold TabP.val
  have HT : Hid (∀ j (hj : j < l.length), apartB t.cs.length (l.take (j + 1)) = (apartB t.cs.length (l.take j) && (decide (0 ≤ l[j]) && decide (l[j] < t.cs.length) && !(l.take j).contains l[j]))) := fun j hj => apart_take j hj
  have HN : Hid (∀ j, apartB t.cs.length (l.take j) = false → apartB t.cs.length l = false) := fun j h => apart_no h
  go_enter Tryz.func38, Tryz.ntmps38
  go_wp2_with fail
  go_loopw [10] (fun i wr => ∃ j : Nat, j ≤ l.length ∧ i = .int .i64 (j : Int) ∧ Hid (apartB t.cs.length (l.take j) = true) ∧ wr.cell? ⟨w.heap.size, 1, none⟩ = some (.slice a.pc t.cs.length a.cc) ∧ Hid (Met wr (w.heap.size + 1) (l.take j)) ∧ w.heap.size + 2 ≤ wr.heap.size ∧ Below w.heap.size w wr) (fun i _ => l.length - (intOf i).toNat)
  case atStart =>
    refine ⟨0, Nat.zero_le _, by go_num, (show _ = _ by simp [apartB]), by simp [go_sem], ?_, by simp, by go_grown⟩
    have h := Met.new (w.alloc (Obj.cells #[Value.string t.nm, Value.slice a.pc t.cs.length a.cc, Value.slice a.pk t.key.length a.ck, Value.slice a.px t.ix.length a.cx, Value.slice a.pr t.rf.length a.cr] 27))
    rw [show (w.alloc (Obj.cells #[Value.string t.nm, Value.slice a.pc t.cs.length a.cc, Value.slice a.pk t.key.length a.ck, Value.slice a.px t.ix.length a.cx, Value.slice a.pr t.rf.length a.cr] 27)).heap.size = w.heap.size + 1 by simp] at h
    exact h
  case round =>
    obtain ⟨j, hj, rfl, hap, b1, hM, hz, hn'⟩ := hrel
    by_cases hj0 : j = l.length
    · subst hj0
      rw [List.take_length] at hap
      go_wp2
      go_ret
      exact ⟨boolV hap.out.symm, hn'⟩
    · have hj1 : j < l.length := by omega
      obtain ⟨b, o, rfl, hbB, d0⟩ := HA.out j hj1
      have a0 := (hn'.cell (p := ⟨b, o + j, none⟩) hbB).trans d0
      have hst := HT.out j hj1
      rw [hap.out, Bool.true_and] at hst
      have hno := HN.out (j + 1)
      have HS : Hid (l.take (j + 1) = l.take j ++ [l[j]]) := (List.take_append_getElem hj1).symm
      clear d0 HT HN
      generalize l[j] = x at *
      rcases (by omega : x < 0 ∨ 0 ≤ x) with hx | hx
      · have hd : Hid (apartB t.cs.length l = false) := hno (by rw [hst]; simp; omega)
        clear hst hno
        go_wp2
        go_ret
        exact ⟨boolV hd.out.symm, hn'⟩
      · obtain ⟨k, rfl⟩ : ∃ k : Nat, x = (k : Int) := ⟨x.toNat, by omega⟩
        rcases Nat.lt_or_ge k t.cs.length with hk | hk
        · have hkl : (k : Int) < (t.cs.length : Int) := by omega
          obtain ⟨m0, f0⟩ := hM.out k (by omega)
          have k64 : (k : Int) < 64 := by omega
          cases hc : (l.take j).contains (k : Int)
          · rw [hc] at m0 hst
            have hgo : Hid (apartB t.cs.length (l.take (j + 1)) = true) := (show _ = _ by rw [hst, decide_eq_true hx, decide_eq_true hkl]; rfl)
            have hM2 : Hid (Met _ _ _) := hM.out.set k (by omega)
            clear hst hno hc
            go_wp2_with fail
            go_roundw
            case rel => exact ⟨j + 1, hj1, by go_num, hgo, (by rw [World.cell?_setCell_other _ _ _ _ (by intro h; injection h with h _; omega)]; exact b1), (show Met _ _ _ by rw [HS.out]; exact hM2.out), by simpa using hz, hn'.setCell (by simp) _⟩
            case measure => simp [intOf]; omega
          · rw [hc] at m0 hst
            have hd : Hid (apartB t.cs.length l = false) := hno (by rw [hst]; simp)
            clear hst hno hc
            go_wp2
            go_ret
            exact ⟨boolV hd.out.symm, hn'⟩
        · have hkl : (t.cs.length : Int) ≤ (k : Int) := by omega
          have hd : Hid (apartB t.cs.length l = false) := hno (by rw [hst]; simp; omega)
          clear hst hno
          go_wp2
          go_ret
          exact ⟨boolV hd.out.symm, hn'⟩

end Go.Proofs.YthbjheiogghjnaaGreatDoor
