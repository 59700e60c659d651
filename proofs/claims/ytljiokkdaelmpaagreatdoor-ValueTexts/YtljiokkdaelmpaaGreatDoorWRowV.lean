/- Rows of values; the check of a value. -/
import Derived.Test.YtljiokkdaelmpaaGreatDoorWValid
import Derived.Test.YtljiokkdaelmpaaGreatDoorMCode2
import Derived.Lib.BufferRead
namespace Go.Proofs.YtljiokkdaelmpaaGreatDoor
open Go.RowKit
set_option maxRecDepth 100000

abbrev Vl.val (v : Vl) : Value := .agg #[.int .i64 v.k, .int .i64 v.n, .float .f64 v.f, .string v.s]
def RowV (w : World) (B : Nat) (p : Option Addr) (L : List Vl) : Prop := ∀ i (hi : i < L.length), ∃ b o, p = some ⟨b, o, none⟩ ∧ b < B ∧
  w.cell? ⟨b, o + i * 4, none⟩ = some (.int .i64 L[i].k) ∧ w.cell? ⟨b, o + i * 4 + 1, none⟩ = some (.int .i64 L[i].n) ∧ w.cell? ⟨b, o + i * 4 + 2, none⟩ = some (.float .f64 L[i].f) ∧ w.cell? ⟨b, o + i * 4 + 3, none⟩ = some (.string L[i].s)
theorem RowV.keep {w w' : World} {B : Nat} {p : Option Addr} {L : List Vl} (h : RowV w B p L) (hb : Below B w w') : RowV w' B p L := by
  intro i hi
  obtain ⟨b, o, e, hbB, c0, c1, c2, c3⟩ := h i hi
  have k : ∀ {o : Nat} {v : Option Value}, w.cell? ⟨b, o, none⟩ = v → w'.cell? ⟨b, o, none⟩ = v := fun {o v} hc => (hb.cell (p := ⟨b, o, none⟩) hbB).trans hc
  exact ⟨b, o, e, hbB, k c0, k c1, k c2, k c3⟩

theorem RowV.mono {w : World} {B C : Nat} {p : Option Addr} {L : List Vl} (h : RowV w B p L) (hb : B ≤ C) : RowV w C p L := by
  intro i hi
  obtain ⟨b, o, e, hbB, r⟩ := h i hi
  exact ⟨b, o, e, Nat.lt_of_lt_of_le hbB hb, r⟩

theorem check_ok (v : Vl) (w : World) (hv : v.ok) (hg : 2 < w.heap.size) (hT : Lib.Utf8Tabs 1 2 w) :
    Calls Tryz.prog 12 #[v.val] w fun e w' => e = .returned (.int .i64 v.chk) ∧ Below w.heap.size w w' := by
  obtain ⟨k, n, f, s⟩ := v
  obtain ⟨_, _, _, hs⟩ := hv
  dsimp only at *
  have hv : ∀ w1 : World, Below w.heap.size w w1 → Calls Tryz.prog 41 #[.string s] w1 fun e w' => e = .returned (.bool (Lib.validD s.data.toList)) ∧ Below w1.heap.size w1 w' :=
    fun w1 hb => valid_any s w1 (by omega) (tabs_keep hb hg hT)
  exact check_any k n f s w (by unfold maxLen; omega) fun w2 h2 => str_any k n f s w2 fun w3 h3 => hv w3 (h2.trans (h3.mono h2.size))

theorem rcheck_ok (v : Vl) (w : World) (hv : v.ok) (hg : 2 < w.heap.size) (hT : Lib.Utf8Tabs 1 2 w) :
    Calls Tryz.prog 19 #[v.val] w fun e w' => e = .returned (.int .i64 v.chk) ∧ Below w.heap.size w w' := by
  obtain ⟨k, n, f, s⟩ := v
  obtain ⟨_, _, _, hs⟩ := hv
  dsimp only at *
  have hv : ∀ w1 : World, Below w.heap.size w w1 → Calls Tryz.prog 41 #[.string s] w1 fun e w' => e = .returned (.bool (Lib.validD s.data.toList)) ∧ Below w1.heap.size w1 w' :=
    fun w1 hb => valid_any s w1 (by omega) (tabs_keep hb hg hT)
  exact rcheck_any k n f s w (by unfold maxLen; omega) fun w2 h2 => hv w2 h2


end Go.Proofs.YtljiokkdaelmpaaGreatDoor
