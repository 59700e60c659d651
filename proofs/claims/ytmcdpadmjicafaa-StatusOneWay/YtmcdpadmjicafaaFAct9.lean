/- What the proofs of this seat share: lists of acts, opened. -/
import Derived.Test.YtmcdpadmjicafaaFOpen
import Derived.Test.YtmcdpadmjicafaaMAct9
import Derived.WalkLawsBesides
import Derived.JoinedOf
import Derived.Handed
import Derived.Test.YtmcdpadmjicafaaFLeav
namespace Go.Proofs.Ytmcdpadmjicafaa
open Go.ChangeShapes Go.WideShapes Go.ChangeAt Go.RowKit Go.Joins Go.Deep
set_option maxRecDepth 100000

theorem own : ownKnob Try.prog.godebug = none := by kernel_rfl
theorem laidOut : laidOutB Try.prog = true := by kernel_rfl
theorem cellsAct : Try.prog.cellsOf 33 = 3 := by kernel_rfl
theorem bytesAct : Try.prog.bytesOf 33 = 24 := by kernel_rfl

theorem wf_u64 {k : Int} (h : (Lit.int .u64 k).wf = true) : 0 ≤ k := by
  simp only [Lit.wf, Bool.and_eq_true, decide_eq_true_eq] at h
  exact h.1

theorem openActs {H : Type} {enc : TypeId × Value → H} {W : World} {b0 : Nat} {v : Value} {d : DataW H} {p : List MemPlace}
    (hv : Value.okWide Try.prog W .any b0 22 v) (h : DataW.Trod enc Try.prog W 0 (fun _ => true) true 22 v d p) (hr : Reach Try.prog 22 d) :
    ∃ (L : List ActC) (q : Option Addr) (c : Nat), v = .slice q L.length c ∧ RdA W W.heap.size q L ∧ L.length ≤ c ∧ L.length ≤ 5870000000000 := by
  obtain ⟨a0, len, cap, rfl⟩ := okWide_slice Try.underlying22 hv
  obtain ⟨fuel, hf⟩ := h
  obtain ⟨L, q, c, e, hl, hb, _, he⟩ := openList (A := ActC) ⟨0, 0, 0⟩ (fun cs a => cs = [.int .i64 a.k, .int .i64 a.n, .int .u64 (a.s : Nat)] ∧ -9223372036854775808 ≤ a.n ∧ a.n < 9223372036854775808) Try.underlying22 cellsAct (by decide)
    (fun n cs' y hy _ => by
      obtain ⟨y0, y1, y2, m, _, hlc, h0, h1, h2⟩ := trod_struct3 Try.underlying33 hy
      rw [cellsAct] at hlc
      match cs', hlc with
      | [c0, c1, c2], _ =>
        have z2 : Try.prog.cellsOf 3 = 1 := by kernel_rfl
        have z3 : Try.prog.cellsOf 31 = 1 := by kernel_rfl
        obtain ⟨k0, e0, _⟩ := DataW.trod_int Try.underlying3 h0
        obtain ⟨k1, e1, _, w1⟩ := DataW.trod_int Try.underlying3 h1
        obtain ⟨k2, e2, _, w2⟩ := DataW.trod_int Try.underlying31 h2
        simp [z2, z3] at e0 e1 e2
        subst e0 e1 e2
        have g1 := wf_i64 w1
        have g2 := wf_u64 w2
        obtain ⟨m2, rfl⟩ := Int.eq_ofNat_of_zero_le g2
        exact ⟨⟨k0, k1, m2⟩, rfl, g1.1, show k1 < 9223372036854775808 by omega⟩) hf hr
  simp [Value.cells] at e
  obtain ⟨rfl, rfl, rfl⟩ := e
  rw [bytesAct] at hb
  refine ⟨L, a0, cap, rfl, fun i hi => ?_, hl, by unfold reachBytes at hb; omega⟩
  obtain ⟨b, o, e, hlt, cs', ⟨rfl, n1, n2⟩, _, hc⟩ := he i hi
  exact ⟨b, o, e, hlt, hc 0 (by decide), hc 1 (by decide), hc 2 (by decide), n1, n2⟩
end Go.Proofs.Ytmcdpadmjicafaa
