/- The walk of the document's values of a row. The walk of readRow. A row read: what Decode answers, told in two ways. -/
import Derived.Deep.Cut
import Derived.RegionTactic
import Derived.Deep.CutRange
import Derived.Test.YtfknmblobcjapaaDoorGWPair
import Derived.Test.YtfknmblobcjapaaDoorGWRdQ
import Derived.Test.YtfknmblobcjapaaDoorGWLit
namespace Go.Proofs.YtfknmblobcjapaaDoor
open Go.RowKit
set_option maxRecDepth 100000

/-- what values tells -/
def rowKR (K : List Int) (s : ByteArray) : Option (List Vl × Nat) := if s.size < (K.length + 3) / 4 then none else if spB s K.length (4 * ((K.length + 3) / 4)) then rowK s K 0 ((K.length + 3) / 4) else none
def RvsP (r : Option (List Vl × Nat)) (w : World) (e : Ending) (w' : World) : Prop := ∃ (v : Value) (n : Int), e = .returned (.tuple #[v, .int .i64 n]) ∧ ((∃ L k, r = some (L, k) ∧ n = ((k : Nat) : Int) ∧ OwnV w' w.heap.size v L) ∨ (r = none ∧ n = -1 ∧ v = .slice none 0 0)) ∧ Below w.heap.size w w'
theorem RvsP.yes {r : Option (List Vl × Nat)} {w w' : World} {e : Ending} (v : Value) (k : Nat) (L : List Vl) (he : e = .returned (.tuple #[v, .int .i64 (k : Int)])) (h : r = some (L, k)) (ho : OwnV w' w.heap.size v L) (hw : Below w.heap.size w w') : RvsP r w e w' := ⟨v, k, he, .inl ⟨L, k, h, rfl, ho⟩, hw⟩
theorem RvsP.no {r : Option (List Vl × Nat)} {w w' : World} {e : Ending} (he : e = .returned (.tuple #[.slice none 0 0, .int .i64 (-1)])) (h : r = none) (hw : Below w.heap.size w w') : RvsP r w e w' := ⟨_, -1, he, .inr ⟨h, rfl, rfl⟩, hw⟩

theorem pair_and (ch t4 : Nat) (h : ch < 256) : bits BinOp.and IntKind.u8 ((ch : Int) / 2 ^ (t4 * 2)) 3 = ((ch / 2 ^ (2 * t4) % 4 : Nat) : Int) := by
  have e : (ch : Int) / 2 ^ (t4 * 2) = ((ch / 2 ^ (2 * t4) : Nat) : Int) := by rw [Nat.mul_comm]; norm_cast
  have hlt : ch / 2 ^ (2 * t4) < 256 := Nat.lt_of_le_of_lt (Nat.div_le_self _ _) h
  have h1 := u8_and_nat (ch / 2 ^ (2 * t4)) 3 hlt (by decide)
  rw [show ((3 : Nat) : Int) = 3 from rfl] at h1
  rw [e, h1]
  congr 1
  exact Nat.and_two_pow_sub_one_eq_mod (ch / 2 ^ (2 * t4)) 2
/-- what is known while a value is read: the row that grows, a cell of the kinds -/
structure Kv (w : World) (u : Value) (V : List Vl) (X : World) : Prop where
  bl : Below w.heap.size w X
  own : OwnV X w.heap.size u V
theorem Kv.on {w X Y : World} {u : Value} {V : List Vl} (k : Kv w u V X) (hb : Below X.heap.size X Y) : Kv w u V Y := ⟨k.bl.trans (hb.mono k.bl.size), k.own.kept hb⟩
theorem Kv.drew {w X : World} {u : Value} {V : List Vl} (k : Kv w u V X) : Kv w u V X.drew := k.on (Below.refl _ _).drew
theorem Kv.alloc {w X : World} {u : Value} {V : List Vl} (k : Kv w u V X) (o : Obj) : Kv w u V (X.alloc o) := k.on ((Below.refl _ _).alloc (Nat.le_refl _) _)
theorem Kv.put {w X : World} {u : Value} {V : List Vl} (k : Kv w u V X) (B o : Nat) (v : Value) (hB : w.heap.size ≤ B) (hne : u.ownBlock ≠ some B) : Kv w u V (X.setCell ⟨B, o, none⟩ v) := by
  refine ⟨k.bl.setCell hB _, ?_⟩
  have hgr : X.grownBy (X.setCell ⟨B, o, none⟩ v) (some B) := ⟨rfl, rfl, rfl, by simp [World.setCell], fun k _ hk => Below.heap_setCell _ _ _ _ (by simpa using hk)⟩
  exact World.ownsRow.kept k.own hgr (.inr hne)
theorem Kv.put4 {w X : World} {u : Value} {V : List Vl} (k : Kv w u V X) (B : Nat) (v0 v1 v2 v3 : Value) (hB : w.heap.size ≤ B) (hne : u.ownBlock ≠ some B) : Kv w u V ((((X.setCell ⟨B, 0, none⟩ v0).setCell ⟨B, 1, none⟩ v1).setCell ⟨B, 2, none⟩ v2).setCell ⟨B, 3, none⟩ v3) :=
  (((k.put B 0 v0 hB hne).put B 1 v1 hB hne).put B 2 v2 hB hne).put B 3 v3 hB hne
theorem put4_cellsV {X : World} {B : Nat} {a0 a1 a2 a3 v0 v1 v2 v3 : Value} (h0 : X.cell? ⟨B, 0, none⟩ = some a0) (h1 : X.cell? ⟨B, 1, none⟩ = some a1) (h2 : X.cell? ⟨B, 2, none⟩ = some a2) (h3 : X.cell? ⟨B, 3, none⟩ = some a3) :
    ((((X.setCell ⟨B, 0, none⟩ v0).setCell ⟨B, 1, none⟩ v1).setCell ⟨B, 2, none⟩ v2).setCell ⟨B, 3, none⟩ v3).cell? ⟨B, 0, none⟩ = some v0 ∧ ((((X.setCell ⟨B, 0, none⟩ v0).setCell ⟨B, 1, none⟩ v1).setCell ⟨B, 2, none⟩ v2).setCell ⟨B, 3, none⟩ v3).cell? ⟨B, 1, none⟩ = some v1 ∧
    ((((X.setCell ⟨B, 0, none⟩ v0).setCell ⟨B, 1, none⟩ v1).setCell ⟨B, 2, none⟩ v2).setCell ⟨B, 3, none⟩ v3).cell? ⟨B, 2, none⟩ = some v2 ∧ ((((X.setCell ⟨B, 0, none⟩ v0).setCell ⟨B, 1, none⟩ v1).setCell ⟨B, 2, none⟩ v2).setCell ⟨B, 3, none⟩ v3).cell? ⟨B, 3, none⟩ = some v3 := by
  refine ⟨?_, ?_, ?_, ?_⟩ <;> simp [go_sem, h0, h1, h2, h3]
theorem alloc4_cellsV (X : World) (v0 v1 v2 v3 : Value) (t : TypeId) :
    (X.alloc (.cells #[v0, v1, v2, v3] t)).cell? ⟨X.heap.size, 0, none⟩ = some v0 ∧ (X.alloc (.cells #[v0, v1, v2, v3] t)).cell? ⟨X.heap.size, 1, none⟩ = some v1 ∧ (X.alloc (.cells #[v0, v1, v2, v3] t)).cell? ⟨X.heap.size, 2, none⟩ = some v2 ∧ (X.alloc (.cells #[v0, v1, v2, v3] t)).cell? ⟨X.heap.size, 3, none⟩ = some v3 := by
  refine ⟨?_, ?_, ?_, ?_⟩ <;> simp [go_sem]
/-- what stands behind the reading of one value -/
def CutV (w : World) (u : Value) (V : List Vl) (da : Option (Vl × Nat)) (v10 v11 : Value) (wx : World) : Prop :=
  ∃ (B : Nat) (v : Vl) (nn : Int), v10 = .pointer (some ⟨B, 0, none⟩) ∧ v11 = .int .i64 nn ∧ ((∃ k : Nat, da = some (v, k) ∧ nn = (k : Int)) ∨ (da = none ∧ nn = -1)) ∧ Kv w u V wx ∧
    wx.cell? ⟨B, 0, none⟩ = some (.int .i64 v.k) ∧ wx.cell? ⟨B, 1, none⟩ = some (.int .i64 v.n) ∧ wx.cell? ⟨B, 2, none⟩ = some (.float .f64 v.f) ∧ wx.cell? ⟨B, 3, none⟩ = some (.string v.s)
theorem CutV.mk {w wx : World} {u : Value} {V : List Vl} {da : Option (Vl × Nat)} (B : Nat) (v : Vl) (nn : Int) (hr : (∃ k : Nat, da = some (v, k) ∧ nn = (k : Int)) ∨ (da = none ∧ nn = -1)) (ho : Kv w u V wx)
    (hc : wx.cell? ⟨B, 0, none⟩ = some (.int .i64 v.k) ∧ wx.cell? ⟨B, 1, none⟩ = some (.int .i64 v.n) ∧ wx.cell? ⟨B, 2, none⟩ = some (.float .f64 v.f) ∧ wx.cell? ⟨B, 3, none⟩ = some (.string v.s)) :
    CutV w u V da (.pointer (some ⟨B, 0, none⟩)) (.int .i64 nn) wx := ⟨B, v, nn, rfl, rfl, hr, ho, hc⟩
theorem OwnV.on {w w' : World} {B : Nat} {v : Value} {L : List Vl} (h : OwnV w B v L) (hb : Below w.heap.size w w') : OwnV w' B v L := h.kept hb

section
variable {P : Program} {ops : Array Oper} {Q : Exit → Act → World → Prop}
theorem anyN_take (i : Nat) {oi : Oper} {v : Value} {fuel : Nat} {listed : Array Bool} {a : Act} {w : World} (hi : nthO ops.toList i = some oi)
    (hs : Region.noSelect ops = true) (hf : Region.free .any ops listed i = true) (hr : (Region.ready .any ops listed).contains i = true)
    (hQ : ∀ c a w, Q (.panic c) (a.put oi.dst v) w → Q (.panic c) a w) (hy : Yields P ops oi v a)
    (h : wpAny P .any ops Q fuel (listed.setIfInBounds i true) (a.put oi.dst v) w) : wpAny P .any ops Q (fuel + 1) listed a w := wpAny_take (nthO_at hi) hs hf hr hQ hy h
theorem anyN_cons (i : Nat) {fuel : Nat} {listed : Array Bool} {a : Act} {w : World} {o : Oper} {rs : List Nat} (ho : nthO ops.toList i = some o) (hw : Region.wanted o (yielded ops a.tmps) = true)
    (h : ∀ K' : Act → World → Prop, Hid (∀ a w, wpAny P .any ops Q fuel (listed.setIfInBounds i true) a w → K' a w) → Oper.wp P o a w K' Q)
    (hs : AllReady P .any ops Q fuel listed a w rs) : AllReady P .any ops Q fuel listed a w (i :: rs) :=
  AllReady.cons (nthO_at ho) (fun K hK => by rw [if_pos hw]; exact h K hK) hs
end



end Go.Proofs.YtfknmblobcjapaaDoor

namespace Go.Proofs.YtfknmblobcjapaaDoor
open Go.RowKit
set_option maxRecDepth 100000

theorem spB_iff (s : ByteArray) (n m : Nat) : spB s n m = true ↔ ∀ i, n ≤ i → i < m → pairB s i = 0 := by
  refine ⟨fun h i h1 h2 => ?_, spB_yes⟩
  apply Classical.byContradiction
  intro hn
  rw [spB_no h1 h2 hn] at h
  cases h
theorem RowP.no {r : Option (List Vl × Nat)} {w w' : World} {e : Ending} (v : Value) (k : Nat) (he : e = .returned (.tuple #[v, .int .i64 (k : Int), .bool false])) (h : r = none) (hw : Below w.heap.size w w') : RowP r w e w' := ⟨v, k, false, he, .inr ⟨rfl, h⟩, hw⟩
theorem RowP.yes {r : Option (List Vl × Nat)} {w w' : World} {e : Ending} (v : Value) (k : Nat) (L : List Vl) (he : e = .returned (.tuple #[v, .int .i64 (k : Int), .bool true])) (h : r = some (L, k)) (ho : OwnV w' w.heap.size v L) (hw : Below w.heap.size w w') : RowP r w e w' := ⟨v, k, true, he, .inl ⟨rfl, L, h, ho⟩, hw⟩

/-- what is known while a column is read: the row that grows, the column -/
structure Kn (w : World) (g h n : Nat) (L : List Vl) (c : Cl) (X : World) : Prop where
  bl : Below w.heap.size w X
  own : OwnV X w.heap.size (.slice (some ⟨g, 0, none⟩) n n) L
  hg : g < X.heap.size
  hh : h < X.heap.size
  c0 : X.cell? ⟨h, 0, none⟩ = some (.string c.nm)
  c1 : X.cell? ⟨h, 1, none⟩ = some (.int .i64 c.kd)
  c2 : X.cell? ⟨h, 2, none⟩ = some (.bool c.nl)
  c3 : X.cell? ⟨h, 3, none⟩ = some (.int .i64 c.df.k)
  c4 : X.cell? ⟨h, 4, none⟩ = some (.int .i64 c.df.n)
  c5 : X.cell? ⟨h, 5, none⟩ = some (.float .f64 c.df.f)
  c6 : X.cell? ⟨h, 6, none⟩ = some (.string c.df.s)
theorem Kn.on {w X Y : World} {g h n : Nat} {L : List Vl} {c : Cl} (k : Kn w g h n L c X) (hb : Below X.heap.size X Y) : Kn w g h n L c Y := by
  obtain ⟨f1, _⟩ := bcell hb
  exact ⟨k.bl.trans (hb.mono k.bl.size), k.own.kept hb, Nat.lt_of_lt_of_le k.hg hb.size, Nat.lt_of_lt_of_le k.hh hb.size, (f1 h 0 k.hh).trans k.c0, (f1 h 1 k.hh).trans k.c1, (f1 h 2 k.hh).trans k.c2, (f1 h 3 k.hh).trans k.c3, (f1 h 4 k.hh).trans k.c4, (f1 h 5 k.hh).trans k.c5, (f1 h 6 k.hh).trans k.c6⟩
theorem Kn.drew {w X : World} {g h n : Nat} {L : List Vl} {c : Cl} (k : Kn w g h n L c X) : Kn w g h n L c X.drew := k.on (Below.refl _ _).drew
theorem Kn.alloc {w X : World} {g h n : Nat} {L : List Vl} {c : Cl} (k : Kn w g h n L c X) (o : Obj) : Kn w g h n L c (X.alloc o) := k.on ((Below.refl _ _).alloc (Nat.le_refl _) _)
/-- what is known of the row that grows -/
structure Ow (w : World) (g n : Nat) (L : List Vl) (X : World) : Prop where
  bl : Below w.heap.size w X
  own : OwnV X w.heap.size (.slice (some ⟨g, 0, none⟩) n n) L
  hg : g < X.heap.size
theorem Kn.ow {w X : World} {g h n : Nat} {L : List Vl} {c : Cl} (k : Kn w g h n L c X) : Ow w g n L X := ⟨k.bl, k.own, k.hg⟩
theorem Ow.alloc {w X : World} {g n : Nat} {L : List Vl} (k : Ow w g n L X) (o : Obj) : Ow w g n L (X.alloc o) :=
  ⟨k.bl.alloc k.bl.size _, k.own.kept ((Below.refl _ _).alloc (Nat.le_refl _) _), by have := k.hg; simp; omega⟩
theorem Ow.put {w X : World} {g n : Nat} {L : List Vl} (k : Ow w g n L X) (B o : Nat) (v : Value) (hB : w.heap.size ≤ B) (hne : B ≠ g) : Ow w g n L (X.setCell ⟨B, o, none⟩ v) := by
  refine ⟨k.bl.setCell hB _, ?_, by simpa [World.setCell] using k.hg⟩
  have hgr : X.grownBy (X.setCell ⟨B, o, none⟩ v) (some B) := ⟨rfl, rfl, rfl, by simp [World.setCell], fun k _ hk => Below.heap_setCell _ _ _ _ (by simpa using hk)⟩
  exact World.ownsRow.kept k.own hgr (.inr (by simpa [Value.ownBlock] using hne.symm))
theorem Ow.put4 {w X : World} {g n : Nat} {L : List Vl} (k : Ow w g n L X) (B : Nat) (v0 v1 v2 v3 : Value) (hB : w.heap.size ≤ B) (hne : B ≠ g) : Ow w g n L ((((X.setCell ⟨B, 0, none⟩ v0).setCell ⟨B, 1, none⟩ v1).setCell ⟨B, 2, none⟩ v2).setCell ⟨B, 3, none⟩ v3) :=
  (((k.put B 0 v0 hB hne).put B 1 v1 hB hne).put B 2 v2 hB hne).put B 3 v3 hB hne
theorem Ow.fill {w X : World} {g n : Nat} {V : List Vl} {m : Nat} (k : Ow w g n (V ++ List.replicate (m + 1) zV) X) (hg : w.heap.size ≤ g) (hn : V.length + (m + 1) = n) (v : Vl) (j : Nat) (hj : V.length = j) :
    Ow w g n ((V ++ [v]) ++ List.replicate m zV) ((((X.setCell ⟨g, j * 4, none⟩ (.int .i64 v.k)).setCell ⟨g, j * 4 + 1, none⟩ (.int .i64 v.n)).setCell ⟨g, j * 4 + 2, none⟩ (.float .f64 v.f)).setCell ⟨g, j * 4 + 3, none⟩ (.string v.s)) := by
  subst hj
  refine ⟨(((k.bl.setCell hg _).setCell hg _).setCell hg _).setCell hg _, ?_, by simpa [World.setCell] using k.hg⟩
  have := k.own.set (by simp; omega) V.length (by simp) v
  rw [put_set] at this
  exact this
theorem carryZ {w4 w5 : World} {B : Nat} {v0 v1 v2 v3 : Option Value} (hb : Below w4.heap.size w4 w5) (hl : B < w4.heap.size)
    (hz : w4.cell? ⟨B, 0, none⟩ = v0 ∧ w4.cell? ⟨B, 1, none⟩ = v1 ∧ w4.cell? ⟨B, 2, none⟩ = v2 ∧ w4.cell? ⟨B, 3, none⟩ = v3)
    (hy : w4.frozen? ⟨B, 0, none⟩ = false ∧ w4.frozen? ⟨B, 1, none⟩ = false ∧ w4.frozen? ⟨B, 2, none⟩ = false ∧ w4.frozen? ⟨B, 3, none⟩ = false) :
    (w5.cell? ⟨B, 0, none⟩ = v0 ∧ w5.cell? ⟨B, 1, none⟩ = v1 ∧ w5.cell? ⟨B, 2, none⟩ = v2 ∧ w5.cell? ⟨B, 3, none⟩ = v3) ∧
    (w5.frozen? ⟨B, 0, none⟩ = false ∧ w5.frozen? ⟨B, 1, none⟩ = false ∧ w5.frozen? ⟨B, 2, none⟩ = false ∧ w5.frozen? ⟨B, 3, none⟩ = false) := by
  obtain ⟨f1, f2⟩ := bcell hb
  exact ⟨⟨(f1 B 0 hl).trans hz.1, (f1 B 1 hl).trans hz.2.1, (f1 B 2 hl).trans hz.2.2.1, (f1 B 3 hl).trans hz.2.2.2⟩, (f2 B 0 hl).trans hy.1, (f2 B 1 hl).trans hy.2.1, (f2 B 2 hl).trans hy.2.2.1, (f2 B 3 hl).trans hy.2.2.2⟩
/-- what stands behind the reading of one column -/
def CutR (w : World) (g n j : Nat) (L : List Vl) (da : Option (Vl × Nat)) (v12 v13 v14 v39 : Value) (wx : World) : Prop :=
  ∃ (B : Nat) (v : Vl) (q : Nat) (bb : Bool), v12 = .pointer (some ⟨B, 0, none⟩) ∧ v13 = .int .i64 (q : Int) ∧ v14 = .bool bb ∧ v39 = .int .i64 (j : Int) ∧ ((bb = true ∧ da = some (v, q)) ∨ (bb = false ∧ da = none)) ∧ Ow w g n L wx ∧ B ≠ g ∧
    wx.cell? ⟨B, 0, none⟩ = some (.int .i64 v.k) ∧ wx.cell? ⟨B, 1, none⟩ = some (.int .i64 v.n) ∧ wx.cell? ⟨B, 2, none⟩ = some (.float .f64 v.f) ∧ wx.cell? ⟨B, 3, none⟩ = some (.string v.s)
theorem CutR.mk {w wx : World} {g n j : Nat} {L : List Vl} {da : Option (Vl × Nat)} (B : Nat) (v : Vl) (q : Nat) (bb : Bool) (hr : (bb = true ∧ da = some (v, q)) ∨ (bb = false ∧ da = none)) (ho : Ow w g n L wx) (hne : B ≠ g)
    (hc : wx.cell? ⟨B, 0, none⟩ = some (.int .i64 v.k) ∧ wx.cell? ⟨B, 1, none⟩ = some (.int .i64 v.n) ∧ wx.cell? ⟨B, 2, none⟩ = some (.float .f64 v.f) ∧ wx.cell? ⟨B, 3, none⟩ = some (.string v.s)) :
    CutR w g n j L da (.pointer (some ⟨B, 0, none⟩)) (.int .i64 (q : Int)) (.bool bb) (.int .i64 (j : Int)) wx := ⟨B, v, q, bb, rfl, rfl, rfl, rfl, hr, ho, hne, hc⟩
theorem put4_cells {X : World} {B : Nat} {a0 a1 a2 a3 v0 v1 v2 v3 : Value} (h0 : X.cell? ⟨B, 0, none⟩ = some a0) (h1 : X.cell? ⟨B, 1, none⟩ = some a1) (h2 : X.cell? ⟨B, 2, none⟩ = some a2) (h3 : X.cell? ⟨B, 3, none⟩ = some a3) :
    ((((X.setCell ⟨B, 0, none⟩ v0).setCell ⟨B, 1, none⟩ v1).setCell ⟨B, 2, none⟩ v2).setCell ⟨B, 3, none⟩ v3).cell? ⟨B, 0, none⟩ = some v0 ∧ ((((X.setCell ⟨B, 0, none⟩ v0).setCell ⟨B, 1, none⟩ v1).setCell ⟨B, 2, none⟩ v2).setCell ⟨B, 3, none⟩ v3).cell? ⟨B, 1, none⟩ = some v1 ∧
    ((((X.setCell ⟨B, 0, none⟩ v0).setCell ⟨B, 1, none⟩ v1).setCell ⟨B, 2, none⟩ v2).setCell ⟨B, 3, none⟩ v3).cell? ⟨B, 2, none⟩ = some v2 ∧ ((((X.setCell ⟨B, 0, none⟩ v0).setCell ⟨B, 1, none⟩ v1).setCell ⟨B, 2, none⟩ v2).setCell ⟨B, 3, none⟩ v3).cell? ⟨B, 3, none⟩ = some v3 := by
  refine ⟨?_, ?_, ?_, ?_⟩ <;> simp [go_sem, h0, h1, h2, h3]
theorem alloc4_cells (X : World) (v0 v1 v2 v3 : Value) (t : TypeId) :
    (X.alloc (.cells #[v0, v1, v2, v3] t)).cell? ⟨X.heap.size, 0, none⟩ = some v0 ∧ (X.alloc (.cells #[v0, v1, v2, v3] t)).cell? ⟨X.heap.size, 1, none⟩ = some v1 ∧ (X.alloc (.cells #[v0, v1, v2, v3] t)).cell? ⟨X.heap.size, 2, none⟩ = some v2 ∧ (X.alloc (.cells #[v0, v1, v2, v3] t)).cell? ⟨X.heap.size, 3, none⟩ = some v3 := by
  refine ⟨?_, ?_, ?_, ?_⟩ <;> simp [go_sem]
theorem Ow.fin {w X : World} {g n : Nat} {L L' : List Vl} {p : Prop} (k : Ow w g n L X) (hF : p) (e : L = L') : g < X.heap.size ∧ p ∧ Hid (OwnV X w.heap.size (.slice (some ⟨g, 0, none⟩) n n) L') ∧ Hid (Below w.heap.size w X) := ⟨k.hg, hF, e ▸ k.own, k.bl⟩

set_option maxHeartbeats 8000000 in
theorem readRow_any (cs : List Cl) (p : Option Addr) (c : Nat) (s : ByteArray) (w : World) (hR : RowC w w.heap.size p cs) (hn1 : 1 ≤ cs.length) (hn : cs.length ≤ 64) (hkd : ∀ c ∈ cs, 1 ≤ c.kd ∧ c.kd ≤ 5) (hs : s.size ≤ 65536) (hE : Env w) :
    Calls Tryd.prog 26 #[.slice p cs.length c, .string s] w (RowP (rowR cs s) w) := by
  have hsf := run_store_float
  have C1 : Hid (∀ w1, Calls _ _ _ _ _) := fun w1 => pairBytes_any cs.length w1 (by omega)
  obtain ⟨m, hm⟩ : ∃ m, m = (cs.length + 3) / 4 := ⟨_, rfl⟩
  rw [← hm] at C1
  have hm16 : m ≤ 16 := by omega
  have hmn : cs.length ≤ 4 * m := by omega
  have HA : Hid (RowC _ _ _ _) := hR
  have HEn : Hid (Env w) := hE
  have HK : Hid _ := hkd
  have HF : Hid (rowR cs s = if s.size < m then none else if spB s cs.length (4 * m) then rowA s cs 0 m else none) := by show _ = _; unfold rowR; rw [← hm]
  generalize rowR cs s = r at *
  clear hR hE hkd hm
  by_cases hsz : s.size < m
  · rw [if_pos hsz] at HF
    have hsz' : (s.size : Int) < (m : Int) := by omega
    go_enter Tryd.func26, Tryd.ntmps26
    go_wp2_with fail
    refine (C1.out _).mono ?_
    rintro e w1 ⟨rfl, hw⟩
    rw [hw]
    clear hw
    go_wp2_with fail
    go_ret3
    exact RowP.no _ 0 rfl HF.out (Below.refl _ _)
  rw [if_neg hsz] at HF
  have hsz' : ¬ (s.size : Int) < (m : Int) := by omega
  have hst := slice_to s m (by omega)
  have hpe : Hid (∀ i, i / 4 < m → pairB (s.extract 0 m) i = pairB s i) := fun i hi => pairB_ext s i m hi (by omega)
  have hes : (s.extract 0 m).size = m := by rw [ByteArray.size_extract]; omega
  have C2 : Hid (∀ w1, Calls _ _ _ _ _) := fun w1 => spare_any (s.extract 0 m) cs.length w1 (by omega) (by omega)
  have C3 : Hid (∀ (j : Nat) w1, j < cs.length → Calls Tryd.prog 39 #[.string (s.extract 0 m), .int .i64 (j : Int)] w1 fun e w' => e = .returned (.int .u8 ((pairB s j : Nat) : Int)) ∧ Below w1.heap.size w1 w') := fun j w1 h => by
    have := pairAt_any (s.extract 0 m) j w1 (by omega) (by omega)
    rw [hpe.out j (by omega)] at this
    exact this
  have hsp : spB (s.extract 0 m) cs.length (4 * (s.extract 0 m).size) = spB s cs.length (4 * m) := by
    rw [hes, Bool.eq_iff_iff, spB_iff, spB_iff]
    exact ⟨fun h i h1 h2 => by rw [← hpe.out i (by omega)]; exact h i h1 h2, fun h i h1 h2 => by rw [hpe.out i (by omega)]; exact h i h1 h2⟩
  rw [hsp] at C2
  clear hsp hes hpe
  generalize s.extract 0 m = pr at *
  generalize spB s cs.length (4 * m) = sp at *
  cases sp
  · rw [if_neg (by simp)] at HF
    go_enter Tryd.func26, Tryd.ntmps26
    go_wp2_with fail
    refine (C1.out _).mono ?_
    rintro e w1 ⟨rfl, hw⟩
    rw [hw]
    clear hw
    go_wp2_with fail
    refine (C2.out _).mono ?_
    rintro e w2 ⟨rfl, hb2⟩
    go_wp2_with fail
    go_ret3
    exact RowP.no _ 0 rfl HF.out hb2
  rw [if_pos rfl] at HF
  have hmk : ∀ w3 : World, (Instr.makeSlice 28 (.int .i64 (cs.length : Int)) (.int .i64 (cs.length : Int))).run Tryd.prog w3 = .ok (.slice (some ⟨w3.heap.size, 0, none⟩) cs.length cs.length) (w3.alloc (.cells (madeCells #[.int .i64 0, .int .i64 0, .float .f64 0, .string ⟨#[]⟩] (cs.length * 4)) 44)) := by
    intro w3
    obtain ⟨i, hi, q0, q1, q2⟩ := info_parts info_val
    have := run_make (P := Tryd.prog) w3 28 44 i _ Tryd.underlying28 hi q0 .i64 .i64 (cs.length : Int) (cs.length : Int) (by omega) (Int.le_refl _) (by rw [q2]; omega) (by omega)
    rw [this, q1]
    simp [Value.cells]
  go_enter Tryd.func26, Tryd.ntmps26
  go_wp2_with fail
  refine (C1.out _).mono ?_
  rintro e w1 ⟨rfl, hw⟩
  rw [hw]
  clear hw C1
  go_wp2_with fail
  refine (C2.out _).mono ?_
  rintro e w2 ⟨rfl, hb2⟩
  have HB2 : Hid (Below _ _ _) := hb2
  clear hb2 C2
  go_wp2_with fail
  have hO3 : Hid (OwnV (w2.alloc (.cells (madeCells #[.int .i64 0, .int .i64 0, .float .f64 0, .string ⟨#[]⟩] (cs.length * 4)) 44)) w.heap.size (.slice (some ⟨w2.heap.size, 0, none⟩) cs.length cs.length) ([] ++ List.replicate (cs.length - 0) zV)) := by
    show World.ownsRow _ _ _ _ _ _ _
    rw [List.nil_append, Nat.sub_zero, ← made_cells, List.length_replicate]
    exact World.ownsRow_lit w2 _ _ HB2.out.size (by unfold maxLen; omega) (size_madeCells _ _)
  have hgz : w.heap.size ≤ w2.heap.size := HB2.out.size
  have HB3 : Hid (Below w.heap.size w (w2.alloc (.cells (madeCells #[.int .i64 0, .int .i64 0, .float .f64 0, .string ⟨#[]⟩] (cs.length * 4)) 44))) := HB2.out.alloc hgz _
  have HF0 : Hid (r = ahd [] (rowA s (cs.drop 0) 0 m)) := by show _ = _; rw [ahd_nil]; exact HF.out
  have hg1 : w2.heap.size < (w2.alloc (.cells (madeCells #[.int .i64 0, .int .i64 0, .float .f64 0, .string ⟨#[]⟩] (cs.length * 4)) 44)).heap.size := by simp
  clear HB2 HF hmk
  generalize w2.alloc (.cells (madeCells #[.int .i64 0, .int .i64 0, .float .f64 0, .string ⟨#[]⟩] (cs.length * 4)) 44) = w3 at *
  generalize w2.heap.size = g at *
  go_loopw [7, 39] (fun z i wr => ∃ (j k : Nat) (V : List Vl), j ≤ cs.length ∧ i = .int .i64 (j : Int) ∧ z = .int .i64 (k : Int) ∧ V.length = j ∧ k ≤ s.size ∧ g < wr.heap.size ∧ Hid (r = ahd V (rowA s (cs.drop j) j k)) ∧ Hid (OwnV wr w.heap.size (.slice (some ⟨g, 0, none⟩) cs.length cs.length) (V ++ List.replicate (cs.length - j) zV)) ∧ Hid (Below w.heap.size w wr)) (fun _ i _ => cs.length - (intOf i).toNat)
  case atStart => exact ⟨0, m, [], Nat.zero_le _, by go_num, rfl, rfl, by omega, hg1, HF0, hO3, HB3⟩
  case round =>
    clear hO3 HB3 HF0 hg1
    obtain ⟨j, k, V, hj, rfl, rfl, hV, hk, hgr, hF, hO, hB⟩ := hrel
    by_cases hj0 : j = cs.length
    · have hF2 : Hid (r = some (V, k)) := by
        have := hF.out
        rw [hj0, List.drop_length] at this
        rw [this]
        simp [rowA, ahd, Hid]
      have hO2 : Hid (OwnV wr w.heap.size (.slice (some ⟨g, 0, none⟩) cs.length cs.length) V) := by
        have := hO.out
        rw [hj0, Nat.sub_self, List.replicate_zero, List.append_nil] at this
        exact this
      have hlt : ¬ ((j : Int) < (cs.length : Int)) := by omega
      clear hF hO
      go_wp2_with fail
      go_ret3
      exact RowP.yes _ k V rfl hF2.out hO2.out hB.out
    · have hj1 : j < cs.length := by omega
      have hlt : ((j : Int) < (cs.length : Int)) := by omega
      obtain ⟨b, o, rfl, hbB, d0, d1, d2, d3, d4, d5, d6⟩ := HA.out j hj1
      have a0 := (hB.out.cell (p := ⟨b, o + j * 7, none⟩) hbB).trans d0
      have a1 := (hB.out.cell (p := ⟨b, o + j * 7 + 1, none⟩) hbB).trans d1
      have a2 := (hB.out.cell (p := ⟨b, o + j * 7 + 2, none⟩) hbB).trans d2
      have a3 := (hB.out.cell (p := ⟨b, o + j * 7 + 3, none⟩) hbB).trans d3
      have a4 := (hB.out.cell (p := ⟨b, o + j * 7 + 4, none⟩) hbB).trans d4
      have a5 := (hB.out.cell (p := ⟨b, o + j * 7 + 5, none⟩) hbB).trans d5
      have a6 := (hB.out.cell (p := ⟨b, o + j * 7 + 6, none⟩) hbB).trans d6
      have hkj := HK.out cs[j] (List.getElem_mem hj1)
      have hst2 := slice_from s k hk
      have hx : (s.extract k s.size).size = s.size - k := by rw [ByteArray.size_extract]; omega
      have hxs : (s.extract k s.size).size ≤ 65536 := by rw [hx]; omega
      have hpl := pairB_le s j
      have C4 : Hid (∀ w1, Below w.heap.size w w1 → Calls Tryd.prog 38 #[(cs[j]).val, .int .u8 ((pairB s j : Nat) : Int), .string (s.extract k s.size)] w1 (RdP (decA cs[j] (pairB s j) (s.extract k s.size)) w1)) := fun w1 hb => readValue_any cs[j] (pairB s j) (s.extract k s.size) w1 hxs hpl hkj.1 hkj.2 (HEn.out.on hb)
      have C3' : Hid (∀ w1, Calls _ _ _ _ _) := fun w1 => C3.out j w1 hj1
      have HAt : Hid _ := rowA_at (s := s) (cs := cs) (k := k) (V := V) hj1
      have HLe : Hid (∀ v q, decA cs[j] (pairB s j) (s.extract k s.size) = some (v, q) → q ≤ s.size - k) := fun v q h => by
        have := (decV_ok (decA_some h).1 hkj.1 hkj.2 hxs hpl).2
        rw [hx] at this
        exact this
      clear d0 d1 d2 d3 d4 d5 d6 hkj hx hxs hpl
      generalize decA cs[j] (pairB s j) (s.extract k s.size) = da at *
      generalize pairB s j = bt at *
      generalize s.extract k s.size = x at *
      generalize hcj : cs[j] = cj at *
      obtain ⟨nm, kd, nl, ⟨dk, dn, df, ds⟩⟩ := cj
      dsimp only at a0 a1 a2 a3 a4 a5 a6
      unfold Cl.val at C4
      dsimp only at C4
      clear hcj
      go_wp2_with fail
      obtain ⟨h, hh⟩ : ∃ h, h = wr.heap.size := ⟨_, rfl⟩
      obtain ⟨W, hW⟩ : ∃ W, W = wr.alloc (Obj.cells #[Value.string nm, Value.int IntKind.i64 kd, Value.bool nl, Value.int IntKind.i64 dk, Value.int IntKind.i64 dn, Value.float FloatKind.f64 df, Value.string ds] 66) := ⟨_, rfl⟩
      have HBW : Hid (Below w.heap.size w W) := by rw [hW]; exact hB.out.alloc hB.out.size _
      have HOW : Hid (OwnV W w.heap.size (.slice (some ⟨g, 0, none⟩) cs.length cs.length) (V ++ List.replicate (cs.length - j) zV)) := by rw [hW]; exact hO.out.kept ((Below.refl _ _).alloc (Nat.le_refl _) _)
      have hhW : h < W.heap.size := by rw [hW, hh]; simp
      have hgW : g < W.heap.size := by rw [hW]; simp; omega
      have c0 : W.cell? ⟨h, 0, none⟩ = some (.string nm) := by rw [hW, hh, World.cell?_alloc_new]; rfl
      have c1 : W.cell? ⟨h, 1, none⟩ = some (.int .i64 kd) := by rw [hW, hh, World.cell?_alloc_new]; rfl
      have c2 : W.cell? ⟨h, 2, none⟩ = some (.bool nl) := by rw [hW, hh, World.cell?_alloc_new]; rfl
      have c3 : W.cell? ⟨h, 3, none⟩ = some (.int .i64 dk) := by rw [hW, hh, World.cell?_alloc_new]; rfl
      have c4 : W.cell? ⟨h, 4, none⟩ = some (.int .i64 dn) := by rw [hW, hh, World.cell?_alloc_new]; rfl
      have c5 : W.cell? ⟨h, 5, none⟩ = some (.float .f64 df) := by rw [hW, hh, World.cell?_alloc_new]; rfl
      have c6 : W.cell? ⟨h, 6, none⟩ = some (.string ds) := by rw [hW, hh, World.cell?_alloc_new]; rfl
      have HKn : Hid (Kn w g h cs.length (V ++ List.replicate (cs.length - j) zV) ⟨nm, kd, nl, ⟨dk, dn, df, ds⟩⟩ W) := ⟨HBW.out, HOW.out, hgW, hhW, c0, c1, c2, c3, c4, c5, c6⟩
      rw [← hh, ← hW]
      have hWg : W.heap.size ≠ g := by omega
      have hWw : w.heap.size ≤ W.heap.size := HBW.out.size
      obtain ⟨mm, hmm⟩ : ∃ mm, cs.length - j = mm + 1 := ⟨cs.length - j - 1, by omega⟩
      have hmm2 : cs.length - (j + 1) = mm := by omega
      clear hh hW a0 a1 a2 a3 a4 a5 a6 hB hO hgr hbB HBW HOW
      rw [hmm] at HKn
      have hjL : j < (V ++ List.replicate (mm + 1) zV).length := by simp; omega
      go_cut [12, 13, 14, 39] from 39 to 65 (fun p12 n13 b14 i39 wx => Hid (CutR w g cs.length j (V ++ List.replicate (mm + 1) zV) da p12 n13 b14 i39 wx))
      case first =>
          go_region_with (first
            | (go_at_call 39; refine (C3'.out _).mono ?_; rintro e w4 ⟨rfl, hb4⟩; have HK4 : Hid (Kn w g h cs.length (V ++ List.replicate (mm + 1) zV) ⟨nm, kd, nl, ⟨dk, dn, df, ds⟩⟩ w4) := Kn.on (by first | exact HKn.out.drew | exact HKn.out.drew.alloc _) hb4; have hw4g : w4.heap.size ≠ g := (by have := HK4.out.hg; omega); have hw4w : w.heap.size ≤ w4.heap.size := HK4.out.bl.size; have e0 := HK4.out.c0; have e1 := HK4.out.c1; have e2 := HK4.out.c2; have e3 := HK4.out.c3; have e4 := HK4.out.c4; have e5 := HK4.out.c5; have e6 := HK4.out.c6; have hh4 := HK4.out.hh; dsimp only at e0 e1 e2 e3 e4 e5 e6; (try (refine use (vzD W w4 _ rfl hb4) ?_; rintro ⟨⟨z0, z1, z2, z3⟩, ⟨y0, y1, y2, y3⟩, hzl⟩)); clear hb4)
            | (go_at_call 38; refine (C4.out _ (by first | exact HK4.out.bl | exact (HK4.out.alloc _).bl)).mono ?_; rintro e w5 ⟨⟨vk, vn, vf, vs⟩, q, bb, rfl, hr, hb5⟩; have HK5 : Hid (Kn w g h cs.length (V ++ List.replicate (mm + 1) zV) ⟨nm, kd, nl, ⟨dk, dn, df, ds⟩⟩ w5) := Kn.on (by first | exact HK4.out | exact HK4.out.alloc _) hb5; have HR : Hid _ := hr; obtain ⟨⟨q0, q1, q2, q3⟩, p0, p1, p2, p3⟩ := HK5.out.own.at (by simp; omega) j hjL; have hg5 := HK5.out.hg; (first | (refine use (vz w4 w5 _ rfl hb5) ?_; rintro ⟨⟨x0, x1, x2, x3⟩, u0, u1, u2, u3⟩) | (refine use (carryZ hb5 hzl ⟨z0, z1, z2, z3⟩ ⟨y0, y1, y2, y3⟩) ?_; rintro ⟨⟨x0, x1, x2, x3⟩, u0, u1, u2, u3⟩) | skip); clear hr hb5))
          all_goals (try go_wp2_with fail)
          all_goals go_meet
          all_goals first
            | exact CutR.mk _ ⟨vk, vn, vf, vs⟩ q bb HR.out (HK5.out.ow.alloc _) (by omega) (alloc4_cells _ _ _ _ _ _)
            | exact CutR.mk _ ⟨vk, vn, vf, vs⟩ q bb HR.out (HK5.out.ow.put4 _ _ _ _ _ hWw hWg) hWg (put4_cells x0 x1 x2 x3)
            | exact CutR.mk _ ⟨vk, vn, vf, vs⟩ q bb HR.out (HK5.out.ow.put4 _ _ _ _ _ hw4w hw4g) hw4g (put4_cells x0 x1 x2 x3)
      case rest =>
        obtain ⟨B, ⟨vk, vn, vf, vs⟩, q, bb, rfl, rfl, rfl, rfl, hr, hO6, hBg, s0, s1, s2, s3⟩ := hcut.out
        dsimp only at s0 s1 s2 s3
        obtain ⟨⟨q0, q1, q2, q3⟩, p0, p1, p2, p3⟩ := hO6.own.at (by simp; omega) j hjL
        have HK6 : Hid (Ow _ _ _ _ _) := hO6
        have hg6 := hO6.hg
        clear hcut hO6 HKn C3 C3' C4 HA HK HEn
        rcases hr with ⟨rfl, hda⟩ | ⟨rfl, hda⟩
        · have HF2 : Hid (r = ahd (V ++ [⟨vk, vn, vf, vs⟩]) (rowA s (cs.drop (j + 1)) (j + 1) (k + q))) := by
            have h1 := hF.out
            rw [HAt.out, hda] at h1
            exact h1
          have hq := HLe.out _ _ hda
          clear hda HAt HLe hF
          go_wp2_with fail
          go_roundw
          case rel =>
            refine ⟨j + 1, k + q, V ++ [⟨vk, vn, vf, vs⟩], by omega, by go_num, by go_num, by simp; omega, by omega, ?_⟩
            exact Ow.fin (Ow.fill HK6.out hgz (by omega) ⟨vk, vn, vf, vs⟩ j hV) HF2 (by rw [hmm2])
          case measure => simp [intOf]; omega
        · have HF2 : Hid (r = none) := by
            have h1 := hF.out
            rw [HAt.out, hda] at h1
            exact h1
          clear hda HAt HLe hF
          go_wp2_with fail
          go_ret3
          exact RowP.no _ 0 rfl HF2.out HK6.out.bl

end Go.Proofs.YtfknmblobcjapaaDoor

namespace Go.Proofs.YtfknmblobcjapaaDoor
open Go.RowKit
set_option maxRecDepth 100000

/-- does each column admit its value? -/
def adAll : List Cl → List Vl → Bool
  | [], _ => true
  | _ :: _, [] => false
  | c :: cs, v :: l => decide (admE c v = 0) && adAll cs l
theorem rowA_K (s : ByteArray) : ∀ (cs : List Cl) (i k : Nat), rowA s cs i k = match rowK s (cs.map Cl.kd) i k with
    | none => none
    | some q => if adAll cs q.1 then some q else none
  | [], i, k => by simp [rowA, rowK, adAll]
  | c :: cs, i, k => by
    unfold rowA
    rw [List.map_cons]
    unfold rowK decA
    cases hd : decV c.kd (pairB s i) (s.extract k s.size) with
    | none => rfl
    | some p =>
      dsimp only
      have ih := rowA_K s cs (i + 1) (k + p.2)
      cases hk : rowK s (cs.map Cl.kd) (i + 1) (k + p.2) with
      | none =>
        rw [hk] at ih
        dsimp only at ih
        by_cases ha : admE c p.1 = 0
        · rw [if_pos ha]
          dsimp only
          rw [ih]
        · rw [if_neg ha]
      | some q =>
        rw [hk] at ih
        dsimp only at ih
        by_cases ha : admE c p.1 = 0
        · rw [if_pos ha]
          dsimp only
          rw [ih]
          cases hq : adAll cs q.1 <;> simp [adAll, ha, hq]
        · rw [if_neg ha]
          simp [adAll, ha]
theorem rowK_ok (s : ByteArray) (hs : s.size ≤ 65536) : ∀ (K : List Int) (i k : Nat) (q : List Vl × Nat), (∀ c ∈ K, 1 ≤ c ∧ c ≤ 5) → k ≤ s.size → rowK s K i k = some q → (∀ v ∈ q.1, v.ok) ∧ q.2 ≤ s.size ∧ q.1.length = K.length
  | [], i, k, q, _, hk, h => by
    unfold rowK at h
    injection h with h
    subst h
    exact ⟨(fun v hv => by cases hv), hk, rfl⟩
  | c :: K, i, k, q, hc, hk, h => by
    unfold rowK at h
    have hxx : (s.extract k s.size).size = s.size - k := by rw [ByteArray.size_extract]; omega
    cases hd : decV c (pairB s i) (s.extract k s.size) with
    | none => rw [hd] at h; cases h
    | some p =>
      rw [hd] at h
      dsimp only at h
      obtain ⟨pv, pk⟩ := p
      have hkc := hc c List.mem_cons_self
      have h1 := decV_ok hd hkc.1 hkc.2 (by rw [hxx]; omega) (pairB_le s i)
      rw [hxx] at h1
      cases hr : rowK s K (i + 1) (k + pk) with
      | none => rw [hr] at h; cases h
      | some q' =>
        rw [hr] at h
        injection h with h
        subst h
        have ih := rowK_ok s hs K (i + 1) (k + pk) q' (fun c hc' => hc c (List.mem_cons_of_mem _ hc')) (by omega) hr
        refine ⟨fun v hv => ?_, ih.2.1, by simp [ih.2.2]⟩
        rcases List.mem_cons.1 hv with rfl | hv
        · exact h1.1
        · exact ih.1 v hv
theorem adAll_iff : ∀ (cs : List Cl) (l : List Vl), l.length = cs.length → (adAll cs l = true ↔ ∀ i, i < cs.length → admsE cs l i = 0)
  | [], l, _ => by simp [adAll]
  | c :: cs, [], h => by simp at h
  | c :: cs, v :: l, h => by
    have ih := adAll_iff cs l (by simpa using h)
    simp only [adAll, Bool.and_eq_true, decide_eq_true_eq, ih]
    constructor
    · rintro ⟨h1, h2⟩ i hi
      cases i with
      | zero => exact h1
      | succ i => exact h2 i (by simpa using hi)
    · intro h2
      exact ⟨h2 0 (by simp), fun i hi => h2 (i + 1) (by simpa using hi)⟩
theorem adm_iff {t : Tb} {l : List Vl} (hc : checkS t = 0) (hl : l.length = t.cs.length) : admS t l = 0 ↔ adAll t.cs l = true := by
  rw [adAll_iff t.cs l hl]
  unfold admS
  rw [if_pos hc, if_pos hl]
  exact ⟨firstE_all, fun h => firstE_zero h⟩
theorem checkS_kd {t : Tb} (h : checkS t = 0) : ∀ c ∈ t.cs, 1 ≤ c.kd ∧ c.kd ≤ 5 := by
  unfold checkS at h
  by_cases h1 : nameB t.nm.data.toList = true
  · rw [if_pos h1] at h
    by_cases h2 : countsB t = true
    · rw [if_pos h2] at h
      by_cases h3 : firstE (colE t.cs) t.cs.length = 0
      · intro c hcm
        obtain ⟨i, hi, rfl⟩ := List.getElem_of_mem hcm
        have h4 := firstE_all h3 i hi
        unfold colE at h4
        rw [List.getElem?_eq_getElem hi] at h4
        dsimp only at h4
        unfold colE1 at h4
        split at h4
        · split at h4
          · omega
          · split at h4
            · rename_i h5
              simp only [Bool.and_eq_true, decide_eq_true_eq] at h5
              exact h5.1
            · omega
        · omega
      · rw [if_neg h3] at h
        exact absurd h h3
    · rw [if_neg h2] at h
      omega
  · rw [if_neg h1] at h
    omega

/-- what Decode answers -/
def decO (t : Tb) (s : ByteArray) : Option (List Vl) := match rowR t.cs s with
  | none => none
  | some q => if q.2 = s.size then some q.1 else none
def decR (t : Tb) (s : ByteArray) : List Vl × Int := if checkS t = 0 then (if s.size ≤ 65536 then (match decO t s with
  | none => ([], 41)
  | some l => (l, 0)) else ([], 3)) else ([], checkS t)
/-- the same, as the document has it -/
theorem decO_K {t : Tb} {s : ByteArray} (hc : checkS t = 0) (hs : s.size ≤ 65536) : decO t s = match rowKR (t.cs.map Cl.kd) s with
    | none => none
    | some q => if q.2 = s.size ∧ admS t q.1 = 0 then some q.1 else none := by
  unfold decO rowR rowKR
  rw [List.length_map]
  by_cases h1 : s.size < (t.cs.length + 3) / 4
  · rw [if_pos h1, if_pos h1]
  rw [if_neg h1, if_neg h1]
  cases h2 : spB s t.cs.length (4 * ((t.cs.length + 3) / 4))
  · rfl
  rw [if_pos rfl, if_pos rfl, rowA_K]
  cases h3 : rowK s (t.cs.map Cl.kd) 0 ((t.cs.length + 3) / 4) with
  | none => rfl
  | some q =>
    have hk := rowK_ok s hs _ _ _ q (fun c hcm => by obtain ⟨c', hc', rfl⟩ := List.mem_map.1 hcm; exact checkS_kd hc c' hc') (by omega) h3
    have hl : q.1.length = t.cs.length := by rw [hk.2.2, List.length_map]
    have hi := adm_iff hc hl
    dsimp only
    cases h4 : adAll t.cs q.1
    · rw [h4] at hi
      have hn : ¬ admS t q.1 = 0 := fun h => by simpa using hi.1 h
      simp [hn]
    · rw [h4] at hi
      have hy : admS t q.1 = 0 := hi.2 rfl
      simp [hy]

end Go.Proofs.YtfknmblobcjapaaDoor
