/- Lists of ranges opened. -/
import Derived.Test.YtjigmijennbolaaDoorFrameR
import Derived.Test.YtjigmijennbolaaDoorWClone
namespace Go.Proofs.YtjigmijennbolaaDoor
open Go.ChangeShapes Go.WideShapes Go.ChangeAt Go.RowKit Go.Joins Go.Shelf Go.Lib Go.Deep
set_option maxRecDepth 100000

/-- its texts are no longer than texts may be -/
def Rg.ok (r : Rg) : Prop := r.lo.size ≤ maxLen ∧ r.hi.size ≤ maxLen
/-- one range among cells -/
theorem openCellsR {H : Type} {enc : TypeId × Value → H} {W : World} {base : Nat} {spare : Nat → Bool} {held : Bool} {fuel : Nat} {cs : List Value} {x : DataW H × List MemPlace}
    (h : DataW.trod enc Tryd.prog W base spare held fuel 29 cs = some x) : ∃ v : Rg, cs = [.string v.lo, .string v.hi, .bool v.op] ∧ v.ok := by
  obtain ⟨y0, y1, y2, n, _, hl, h0, h1, h2⟩ := trod_struct3 Tryd.underlying29 h
  rw [cellsR] at hl
  match cs, hl with
  | [c0, c1, c2], _ =>
    obtain ⟨lo, e0, _, w0⟩ := DataW.trod_string Tryd.underlying9 h0
    obtain ⟨hi, e1, _, w1⟩ := DataW.trod_string Tryd.underlying9 h1
    obtain ⟨op, e2, _⟩ := DataW.trod_bool Tryd.underlying4 h2
    have z1 : Tryd.prog.cellsOf 9 = 1 := by kernel_rfl
    have z2 : Tryd.prog.cellsOf 4 = 1 := by kernel_rfl
    simp [z1, z2] at e0 e1 e2
    subst e0 e1 e2
    exact ⟨⟨lo, hi, op⟩, rfl, w0, w1⟩

/-- A LIST OF RANGES, OPENED. -/
theorem openRs {H : Type} {enc : TypeId × Value → H} {W : World} {b0 : Nat} {v : Value} {d : DataW H} {p : List MemPlace}
    (hv : Value.okWide Tryd.prog W .any b0 22 v) (h : DataW.Trod enc Tryd.prog W 0 (fun _ => true) true 22 v d p) :
    ∃ (L : List Rg) (q : Option Addr) (c : Nat), v = .slice q L.length c ∧ RowR W W.heap.size q L ∧ ((∀ u ∈ L, u.ok) ∧ (q = none → c = 0)) ∧ L.length ≤ c ∧ (d = .nil ∧ L = [] ∨ ∃ elems spare, d = .slice elems spare ∧ elems.length = L.length) := by
  obtain ⟨a0, len, cap, rfl⟩ := okWide_slice Tryd.underlying22 hv
  obtain ⟨fuel, hf⟩ := h
  rcases open_slice Tryd.underlying22 hf with ⟨hcs, hx⟩ | ⟨a, len', cap', m, n, D, Pl, hcs, _, hl, hm, hmm, hx, hel⟩
  · simp [Value.cells] at hcs
    obtain ⟨rfl, rfl, rfl⟩ := hcs
    simp only [Prod.mk.injEq] at hx
    exact ⟨[], none, 0, rfl, fun i hi => absurd hi (by simp), ⟨(fun u hu => by cases hu), fun _ => rfl⟩, Nat.le_refl _, .inl ⟨hx.1, rfl⟩⟩
  · simp [Value.cells] at hcs
    obtain ⟨rfl, rfl, rfl⟩ := hcs
    simp only [Prod.mk.injEq, if_true] at hx hmm
    have hlm : len ≤ m := by omega
    have each : ∀ i, i < len → ∃ u : Rg, u.ok ∧ W.cells? 0 (a.add (i * 3)) 3 = some [.string u.lo, .string u.hi, .bool u.op] := by
      intro i hi
      obtain ⟨cs', h1, h2⟩ := hel i (by omega)
      rw [cellsR] at h1
      obtain ⟨u, rfl, hu⟩ := openCellsR h2
      exact ⟨u, hu, h1⟩
    obtain ⟨U, hU⟩ : ∃ U : Nat → Rg, ∀ i, i < len → (U i).ok ∧ W.cells? 0 (a.add (i * 3)) 3 = some [.string (U i).lo, .string (U i).hi, .bool (U i).op] := by
      refine ⟨fun i => if hi : i < len then (each i hi).choose else ⟨⟨#[]⟩, ⟨#[]⟩, false⟩, fun i hi => ?_⟩
      simp only [hi, dif_pos]
      exact (each i hi).choose_spec
    refine ⟨(List.range len).map U, some a, cap, by simp, ?_, ⟨?_, fun h => by cases h⟩, by simpa using hl, .inr ⟨_, _, hx.1, by simp⟩⟩
    · intro i hi
      have hi' : i < len := by simpa using hi
      obtain ⟨_, hc⟩ := hU i hi'
      obtain ⟨_, _, hcell⟩ := World.cells?_some hc
      obtain ⟨_, _, hcell0⟩ := World.cells?_some (hU 0 (by omega)).2
      have h00 := hcell0 0 (by decide)
      have hsp : a.spot = none := by
        have e : (a.add (0 * 3)).add 0 = a := by simp [Addr.add]
        rw [e] at h00
        exact World.cell?_spot (v := .string (U 0).lo) h00
      obtain ⟨b, o, sp⟩ := a
      dsimp only at hsp
      subst hsp
      have c0 := hcell 0 (by decide)
      have c1 := hcell 1 (by decide)
      have c2 := hcell 2 (by decide)
      rw [add_at, add_at] at c0 c1 c2
      have e : ((List.range len).map U)[i] = U i := by simp
      rw [e]
      refine ⟨b, o, rfl, World.block_lt_of_cell? W _ c0, c0, c1, c2⟩
    · intro u hu
      obtain ⟨i, hi, rfl⟩ := List.mem_map.1 hu
      exact (hU i (by simpa using hi)).1
end Go.Proofs.YtjigmijennbolaaDoor
