/- Lists of calls, opened. -/
import Derived.Test.YtckjgnjakkeodaaFClk
import Derived.Test.YtckjgnjakkeodaaMOps
namespace Go.Proofs.Ytckjgnjakkeodaa
open Go.ChangeShapes Go.WideShapes Go.ChangeAt Go.RowKit Go.Joins Go.Deep
set_option maxRecDepth 100000

theorem openOps {H : Type} {enc : TypeId × Value → H} {W : World} {b0 : Nat} {v : Value} {d : DataW H} {p : List MemPlace}
    (hv : Value.okWide Try.prog W .any b0 35 v) (h : DataW.Trod enc Try.prog W 0 (fun _ => true) true 35 v d p) (hr : Reach Try.prog 35 d) :
    ∃ (L : List OpC) (q : Option Addr) (c : Nat), v = .slice q L.length c ∧ RdOp W W.heap.size q L ∧ L.length ≤ c ∧ L.length ≤ 8796093022208 ∧ ∀ x ∈ L, x.st < 18446744073709551616 := by
  obtain ⟨a0, len, cap, rfl⟩ := okWide_slice Try.underlying35 hv
  obtain ⟨fuel, hf⟩ := h
  obtain ⟨L, q, c, e, hl, hb, _, he⟩ := openList (A := OpC) ⟨false, 0, 0⟩ (fun cs a => cs = [.bool a.tk, .int .i64 a.pk, .int .u64 (a.st : Nat)] ∧ a.st < 18446744073709551616) Try.underlying35 cellsOp (by decide)
    (fun n cs' y hy _ => by
      obtain ⟨y0, y1, y2, m, _, hlc, h0, h1, h2⟩ := trod_struct3 Try.underlying39 hy
      rw [cellsOp] at hlc
      match cs', hlc with
      | [c0, c1, c2], _ =>
        have z1 : Try.prog.cellsOf 4 = 1 := by kernel_rfl
        have z2 : Try.prog.cellsOf 3 = 1 := by kernel_rfl
        have z3 : Try.prog.cellsOf 22 = 1 := by kernel_rfl
        obtain ⟨k0, e0, _⟩ := DataW.trod_bool Try.underlying4 h0
        obtain ⟨k1, e1, _, _⟩ := DataW.trod_int Try.underlying3 h1
        obtain ⟨k2, e2, _, hw⟩ := DataW.trod_int Try.underlying22 h2
        simp [z1, z2, z3] at e0 e1 e2
        subst e0 e1 e2
        simp only [Lit.wf, Bool.and_eq_true, decide_eq_true_eq] at hw
        have g1 : (0 : Int) ≤ k2 := hw.1
        have g2 : k2 ≤ (18446744073709551615 : Int) := hw.2
        exact ⟨⟨k0, k1, k2.toNat⟩, by simp [Int.toNat_of_nonneg g1], by show k2.toNat < _; omega⟩) hf hr
  simp [Value.cells] at e
  obtain ⟨rfl, rfl, rfl⟩ := e
  rw [bytesOp] at hb
  refine ⟨L, a0, cap, rfl, fun i hi => ?_, hl, by unfold reachBytes at hb; omega, fun x hx => ?_⟩
  · obtain ⟨b, o, e, hlt, cs', ⟨rfl, _⟩, _, hc⟩ := he i hi
    exact ⟨b, o, e, hlt, hc 0 (by decide), hc 1 (by decide), hc 2 (by decide)⟩
  · obtain ⟨i, hi, rfl⟩ := List.mem_iff_getElem.1 hx
    obtain ⟨_, _, _, _, _, ⟨_, h1⟩, _⟩ := he i hi
    exact h1
end Go.Proofs.Ytckjgnjakkeodaa
