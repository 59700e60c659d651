/- What the proofs of this seat share: lists of acts, opened. -/
import Derived.Test.YtofndmiebnhkaaaFOpen
import Derived.Test.YtofndmiebnhkaaaMAct
import Derived.WalkLawsBesides
import Derived.JoinedOf
import Derived.Handed
namespace Go.Proofs.Ytofndmiebnhkaaa
open Go.ChangeShapes Go.WideShapes Go.ChangeAt Go.RowKit Go.Joins Go.Deep
set_option maxRecDepth 100000

theorem own : ownKnob Try.prog.godebug = none := by kernel_rfl
theorem laidOut : laidOutB Try.prog = true := by kernel_rfl
theorem cellsAct : Try.prog.cellsOf 33 = 3 := by kernel_rfl
theorem bytesAct : Try.prog.bytesOf 33 = 24 := by kernel_rfl

theorem openActs {H : Type} {enc : TypeId × Value → H} {W : World} {b0 : Nat} {v : Value} {d : DataW H} {p : List MemPlace}
    (hv : Value.okWide Try.prog W .any b0 22 v) (h : DataW.Trod enc Try.prog W 0 (fun _ => true) true 22 v d p) (hr : Reach Try.prog 22 d) :
    ∃ (L : List ActC) (q : Option Addr) (c : Nat), v = .slice q L.length c ∧ RdA W W.heap.size q L ∧ L.length ≤ c ∧ L.length ≤ 8796093022208 := by
  obtain ⟨a0, len, cap, rfl⟩ := okWide_slice Try.underlying22 hv
  obtain ⟨fuel, hf⟩ := h
  obtain ⟨L, q, c, e, hl, hb, _, he⟩ := openList (A := ActC) ⟨0, 0, 0⟩ (fun cs a => cs = [.int .i64 a.k, .int .i64 a.off, .int .i64 a.x]) Try.underlying22 cellsAct (by decide)
    (fun n cs' y hy _ => by
      obtain ⟨y0, y1, y2, m, _, hlc, h0, h1, h2⟩ := trod_struct3 Try.underlying33 hy
      rw [cellsAct] at hlc
      match cs', hlc with
      | [c0, c1, c2], _ =>
        have z2 : Try.prog.cellsOf 3 = 1 := by kernel_rfl
        have z3 : Try.prog.cellsOf 2 = 1 := by kernel_rfl
        obtain ⟨k0, e0, _⟩ := DataW.trod_int Try.underlying3 h0
        obtain ⟨k1, e1, _, _⟩ := DataW.trod_int Try.underlying3 h1
        obtain ⟨k2, e2, _, _⟩ := DataW.trod_int Try.underlying2 h2
        simp [z2, z3] at e0 e1 e2
        subst e0 e1 e2
        exact ⟨⟨k0, k1, k2⟩, rfl⟩) hf hr
  simp [Value.cells] at e
  obtain ⟨rfl, rfl, rfl⟩ := e
  rw [bytesAct] at hb
  refine ⟨L, a0, cap, rfl, fun i hi => ?_, hl, by unfold reachBytes at hb; omega⟩
  obtain ⟨b, o, e, hlt, cs', rfl, _, hc⟩ := he i hi
  exact ⟨b, o, e, hlt, hc 0 (by decide), hc 1 (by decide), hc 2 (by decide)⟩
end Go.Proofs.Ytofndmiebnhkaaa
