/- Rows of values; the check of a value. Plain mathematics: why a table may not be. -/
import Derived.Lib.BufferRead
import Derived.Test.YthbjheiogghjnaaGreatDoorGWValid
import Derived.Test.YthbjheiogghjnaaGreatDoorGMCode
import Derived.Test.YthbjheiogghjnaaGreatDoorGMSch
namespace Go.Proofs.YthbjheiogghjnaaGreatDoor
open Go.RowKit
set_option maxRecDepth 100000

abbrev Vl.val (v : Vl) : Value := .agg #[.int .i64 v.k, .int .i64 v.n, .float .f64 v.f, .string v.s]
def RowV (w : World) (B : Nat) (p : Option Addr) (L : List Vl) : Prop := ∀ i (hi : i < L.length), ∃ b o, p = some ⟨b, o, none⟩ ∧ b < B ∧
  w.cell? ⟨b, o + i * 4, none⟩ = some (.int .i64 L[i].k) ∧ w.cell? ⟨b, o + i * 4 + 1, none⟩ = some (.int .i64 L[i].n) ∧ w.cell? ⟨b, o + i * 4 + 2, none⟩ = some (.float .f64 L[i].f) ∧ w.cell? ⟨b, o + i * 4 + 3, none⟩ = some (.string L[i].s)
theorem RowV.keep {w w' : World} {B : Nat} {p : Option Addr} {L : List Vl} (h : RowV w B p L) (hb : Below B w w') : RowV w' B p L := by
  intro i hi
  obtain ⟨b, o, e, hbB, c0, c1, c2, c3⟩ := h i hi
  have k : ∀ {o : Nat} {v : Option Value}, w.cell? ⟨b, o, none⟩ = v → w'.cell? ⟨b, o, none⟩ = v := fun {o v} hc => (hb.cell (p := ⟨b, o, none⟩) hbB).trans hc
  exact ⟨b, o, e, hbB, k c0, k c1, k c2, k c3⟩

theorem RowV.mono {w : World} {B C : Nat} {p : Option Addr} {L : List Vl} (h : RowV w B p L) (hb : B ≤ C) : RowV w C p L := by
  intro i hi
  obtain ⟨b, o, e, hbB, r⟩ := h i hi
  exact ⟨b, o, e, Nat.lt_of_lt_of_le hbB hb, r⟩

theorem check_ok (v : Vl) (w : World) (hv : v.ok) (hg : 3 < w.heap.size) (hT : Lib.Utf8Tabs 2 3 w) :
    Calls Tryz.prog 43 #[v.val] w fun e w' => e = .returned (.int .i64 v.chk) ∧ Below w.heap.size w w' := by
  obtain ⟨k, n, f, s⟩ := v
  obtain ⟨_, _, _, hs⟩ := hv
  dsimp only at *
  have hv : ∀ w1 : World, Below w.heap.size w w1 → Calls Tryz.prog 52 #[.string s] w1 fun e w' => e = .returned (.bool (Lib.validD s.data.toList)) ∧ Below w1.heap.size w1 w' :=
    fun w1 hb => valid_any s w1 (by omega) (tabs_keep hb hg hT)
  exact check_any k n f s w (by unfold maxLen; omega) fun w2 h2 => str_any k n f s w2 fun w3 h3 => hv w3 (h2.trans (h3.mono h2.size))

theorem rcheck_ok (v : Vl) (w : World) (hv : v.ok) (hg : 3 < w.heap.size) (hT : Lib.Utf8Tabs 2 3 w) :
    Calls Tryz.prog 35 #[v.val] w fun e w' => e = .returned (.int .i64 v.chk) ∧ Below w.heap.size w w' := by
  obtain ⟨k, n, f, s⟩ := v
  obtain ⟨_, _, _, hs⟩ := hv
  dsimp only at *
  have hv : ∀ w1 : World, Below w.heap.size w w1 → Calls Tryz.prog 52 #[.string s] w1 fun e w' => e = .returned (.bool (Lib.validD s.data.toList)) ∧ Below w1.heap.size w1 w' :=
    fun w1 hb => valid_any s w1 (by omega) (tabs_keep hb hg hT)
  exact rcheck_any k n f s w (by unfold maxLen; omega) fun w2 h2 => hv w2 h2

end Go.Proofs.YthbjheiogghjnaaGreatDoor

namespace Go.Proofs.YthbjheiogghjnaaGreatDoor
set_option maxRecDepth 100000

def defB (c : Cl) : Bool := decide (c.df.chk = 0) && (decide (c.df.k = 0) || decide (c.df.k = c.kd))
def twinB (L : List ByteArray) (s : ByteArray) : Bool := L.any fun x => x.toList == s.toList
def colE1 (ahead : List Cl) (c : Cl) : Int := if nameB c.nm.data.toList then (if twinB (ahead.map Cl.nm) c.nm then 31 else if decide (1 ≤ c.kd) && decide (c.kd ≤ 5) && defB c then 0 else 32) else 30
def colE (cs : List Cl) (i : Nat) : Int := match cs[i]? with
  | none => 0
  | some c => colE1 (cs.take i) c
def countsB (t : Tb) : Bool := decide (1 ≤ t.cs.length) && decide (t.cs.length ≤ 64) && decide (t.ix.length ≤ 16) && decide (t.rf.length ≤ 16)
/-- may the column of this number not be null? -/
def firmB (cs : List Cl) (x : Int) : Bool := match cs[x.toNat]? with
  | none => true
  | some c => !c.nl
def keyB (t : Tb) : Bool := decide (1 ≤ t.key.length) && apartB t.cs.length t.key && t.key.all (firmB t.cs)
def listB (n : Nat) (l : List Int) : Bool := decide (1 ≤ l.length) && apartB n l
def ixE1 (n : Nat) (ahead : List Ix) (x : Ix) : Int := if nameB x.nm.data.toList then (if twinB (ahead.map Ix.nm) x.nm then 31 else if listB n x.cs then 0 else 33) else 30
def ixE (n : Nat) (ix : List Ix) (i : Nat) : Int := match ix[i]? with
  | none => 0
  | some x => ixE1 n (ix.take i) x
def rfE1 (n : Nat) (r : Rf) : Int := if nameB r.tb.data.toList then (if listB n r.cs then 0 else 33) else 30
def rfE (n : Nat) (rf : List Rf) (i : Nat) : Int := match rf[i]? with
  | none => 0
  | some r => rfE1 n r
def checkS (t : Tb) : Int :=
  if nameB t.nm.data.toList then
    if countsB t then
      if firstE (colE t.cs) t.cs.length = 0 then
        if keyB t then
          if firstE (ixE t.cs.length t.ix) t.ix.length = 0 then firstE (rfE t.cs.length t.rf) t.rf.length
          else firstE (ixE t.cs.length t.ix) t.ix.length
        else 33
      else firstE (colE t.cs) t.cs.length
    else 2
  else 30
theorem colE_at {cs : List Cl} {i : Nat} (hi : i < cs.length) : colE cs i = colE1 (cs.take i) cs[i] := by unfold colE; rw [List.getElem?_eq_getElem hi]
theorem ixE_at {n : Nat} {cs : List Ix} {i : Nat} (hi : i < cs.length) : ixE n cs i = ixE1 n (cs.take i) cs[i] := by unfold ixE; rw [List.getElem?_eq_getElem hi]
theorem rfE_at {n : Nat} {cs : List Rf} {i : Nat} (hi : i < cs.length) : rfE n cs i = rfE1 n cs[i] := by unfold rfE; rw [List.getElem?_eq_getElem hi]
theorem twin_take {L : List ByteArray} {s : ByteArray} {j : Nat} (hj : j < L.length) : twinB (L.take (j + 1)) s = (twinB (L.take j) s || (L[j].toList == s.toList)) := by
  unfold twinB
  rw [← List.take_append_getElem hj, List.any_append]
  simp
theorem twin_hit {L : List ByteArray} {s : ByteArray} {j : Nat} (hj : j < L.length) (h : (L[j].toList == s.toList) = true) : twinB L s = true := by
  unfold twinB
  rw [List.any_eq_true]
  exact ⟨_, List.getElem_mem hj, h⟩
theorem all_hit {α : Type} {L : List α} {p : α → Bool} {j : Nat} (hj : j < L.length) (h : p L[j] = false) : L.all p = false := by
  cases he : L.all p with
  | false => rfl
  | true => rw [List.all_eq_true.1 he _ (List.getElem_mem hj)] at h; cases h
theorem all_takeA {α : Type} {p : α → Bool} {l : List α} {j : Nat} (hj : j < l.length) (h : (l.take j).all p = true) : (l.take (j + 1)).all p = p l[j] := by
  rw [← List.take_append_getElem hj, List.all_append, h]
  simp

end Go.Proofs.YthbjheiogghjnaaGreatDoor
