/- Texts, as they are read; a place of texts. -/
import Derived.Test.YtofndmiebnhkaaaMAct
import Derived.Test.YtofndmiebnhkaaaWCel2S
namespace Go.Proofs.Ytofndmiebnhkaaa
open Go.RowKit
set_option maxRecDepth 100000

/-- texts that are read -/
def RdS (w : World) (B : Nat) (q : Option Addr) (L : List ByteArray) : Prop := ∀ i (hi : i < L.length), ∃ g o, q = some ⟨g, o, none⟩ ∧ g < B ∧ w.cell? ⟨g, o + i, none⟩ = some (.string L[i])
/-- A PLACE OF TEXTS that keeps O, newest first. -/
def CelS (w : World) (b lo : Nat) (O : List ByteArray) (n : Nat) : Prop := ∃ p L, Str.Cel w b lo p L ∧ L.map Prod.fst = O ∧ Str.numL L = n
theorem CelS.keep {w w' : World} {b lo B : Nat} {O : List ByteArray} {n : Nat} (h : CelS w b lo O n) (hb : Below B w w') (hB : w.heap.size ≤ B) : CelS w' b lo O n := by
  obtain ⟨p, L, h1, h2, h3⟩ := h
  exact ⟨p, L, h1.keep hb hB, h2, h3⟩
theorem CelS.other {w w' : World} {b b' lo : Nat} {O : List ByteArray} {n : Nat} (h : CelS w b lo O n) (hg : w.grownBy w' (some b')) (hne : b ≠ b') (hl : b' < lo) : CelS w' b lo O n := by
  obtain ⟨p, L, h1, h2, h3⟩ := h
  exact ⟨p, L, h1.other hg hne hl, h2, h3⟩
theorem CelS.lift {w : World} {b lo lo' : Nat} (h : CelS w b lo [] 0) (hb : b < lo') : CelS w b lo' [] 0 := by
  obtain ⟨p, L, h1, h2, h3⟩ := h
  rw [List.map_eq_nil_iff] at h2
  subst h2
  exact ⟨p, [], ⟨h1.blk, hb, h1.chn⟩, rfl, rfl⟩
theorem newS (w : World) : Calls Try.prog 13 #[] w fun e w' => e = .returned (.pointer (some ⟨w.heap.size, 0, none⟩)) ∧ CelS w' w.heap.size (w.heap.size + 1) [] 0 ∧ w'.heap.size = w.heap.size + 1 ∧ Below w.heap.size w w' :=
  (Str.new_any w).mono fun _ _ ⟨h1, h2, h3, h4⟩ => ⟨h1, ⟨_, _, h2, rfl, rfl⟩, h3, h4⟩
theorem pushS (b lo : Nat) (O : List ByteArray) (n : Nat) (x : ByteArray) (w : World) (h : CelS w b lo O n) (hlo : lo ≤ w.heap.size) (hn : n + 1 < 18446744073709551616) (hl : O.length < 8796093022208) :
    Calls Try.prog 14 #[.pointer (some ⟨b, 0, none⟩), .int .u64 (n : Nat), .string x] w fun e w' => e = .returned (.bool true) ∧ CelS w' b lo (x :: O) (n + 1) ∧ w.grownBy w' (some b) := by
  obtain ⟨p, L, h1, h2, h3⟩ := h
  have hll : L.length = O.length := by rw [← h2, List.length_map]
  refine (Str.push_hit b lo p L n x w h1 (by omega) hlo (by omega) (by omega)).mono ?_
  rintro e w' ⟨rfl, ⟨q, hq⟩, hg⟩
  exact ⟨rfl, ⟨q, _, hq, by rw [List.map_cons, h2], rfl⟩, hg⟩
theorem allS (b lo : Nat) (O : List ByteArray) (n : Nat) (w : World) (h : CelS w b lo O n) (hl : O.length ≤ 8796093022208) :
    Calls Try.prog 15 #[.pointer (some ⟨b, 0, none⟩)] w fun e w' => (∃ p c, e = .returned (.slice p O.length c) ∧ ∀ i (hi : i < O.length), ∃ g, p = some ⟨g, 0, none⟩ ∧ w'.cell? ⟨g, i, none⟩ = some (.string O[i])) ∧ Below w.heap.size w w' := by
  obtain ⟨p, L, h1, h2, h3⟩ := h
  have hll : L.length = O.length := by rw [← h2, List.length_map]
  have := Str.all_any b lo p L w h1 (by omega)
  rw [h2, hll] at this
  refine this.mono ?_
  rintro e w' ⟨⟨v, rfl, ho⟩, hb⟩
  refine ⟨?_, hb⟩
  rcases ho.2 with ⟨rfl, h2⟩ | ⟨g, cap, cur, rfl, hg, hgg, _⟩
  · exact ⟨none, 0, by rw [h2], fun i hi => by omega⟩
  · refine ⟨_, cap, rfl, fun i hi => ⟨g, rfl, ?_⟩⟩
    rw [World.ownsRow.cellAt ho i (by omega)]
    unfold Str.cellsX
    rw [List.getElem?_map, List.getElem?_eq_getElem hi]
    rfl
end Go.Proofs.Ytofndmiebnhkaaa
