/- What the proofs of this seat share: numbers and lists of calls, opened; a row that says 'leaving'. -/
import Derived.Test.YtbmgkoifidhfjaaFOpen
import Derived.Test.YtbmgkoifidhfjaaMOp10
import Derived.WalkLawsBesides
import Derived.JoinedOf
import Derived.Handed
import Derived.Conc.Holds
import Derived.Leaving
namespace Go.Proofs.Ytbmgkoifidhfjaa
open Go.ChangeShapes Go.WideShapes Go.ChangeAt Go.RowKit Go.Joins Go.Deep
set_option maxRecDepth 100000

theorem own : ownKnob Try.prog.godebug = none := by kernel_rfl
theorem laidOut : laidOutB Try.prog = true := by kernel_rfl
theorem cellsOp : Try.prog.cellsOf 39 = 3 := by kernel_rfl
theorem bytesOp : Try.prog.bytesOf 39 = 24 := by kernel_rfl

theorem leaving_plain {a : Assume} {C : Checked} {os : Os} {f : FuncId} {Pre : World → Array Value → Prop} {Post : World → Array Value → Value → World → Prop}
    (h : ReturnsInHanded a C os f .any Pre Post) : ReturnsInLeavingWide a C os f .any Pre Post := fun enter => by
  obtain ⟨h1, h2, h3, h4, runs⟩ := h enter
  refine ⟨h1, h2, h3, h4, fun w tape i hi => ?_⟩
  obtain ⟨n, v, w', r1, r2, r3, hp, ⟨k, last, g1, g2, g3⟩, r5⟩ := runs w tape i hi
  exact ⟨n, v, w', r1, r2, r3, hp, ⟨k, last, g1, g2, g3.2.1, onlyLeaving_of_quiet g3.1, g3.2.2⟩, r5⟩

/-- A NUMBER WITHOUT SIGN, OPENED. -/
theorem okU64 {H : Type} {enc : TypeId × Value → H} {W : World} {b0 : Nat} {v : Value} {d : DataW H} {p : List MemPlace}
    (hv : Value.okWide Try.prog W .any b0 22 v) (h : DataW.Trod enc Try.prog W 0 (fun _ => true) true 22 v d p) : ∃ n : Nat, v = .int .u64 (n : Int) ∧ n < 18446744073709551616 := by
  obtain ⟨n, rfl⟩ := okWide_int Try.underlying22 hv
  obtain ⟨fuel, hf⟩ := h
  obtain ⟨k, e0, _, hw⟩ := DataW.trod_int Try.underlying22 hf
  simp [Value.cells] at e0
  subst e0
  simp only [Lit.wf, Bool.and_eq_true, decide_eq_true_eq] at hw
  have h1 : (0 : Int) ≤ n := hw.1
  have h2 : n ≤ (18446744073709551615 : Int) := hw.2
  exact ⟨n.toNat, by rw [Int.toNat_of_nonneg h1], by omega⟩
theorem okU8 {H : Type} {enc : TypeId × Value → H} {W : World} {b0 : Nat} {v : Value} {d : DataW H} {p : List MemPlace}
    (hv : Value.okWide Try.prog W .any b0 5 v) (h : DataW.Trod enc Try.prog W 0 (fun _ => true) true 5 v d p) : ∃ n : Nat, v = .int .u8 (n : Int) ∧ n < 256 := by
  obtain ⟨n, rfl⟩ := okWide_int Try.underlying5 hv
  obtain ⟨fuel, hf⟩ := h
  obtain ⟨k, e0, _, hw⟩ := DataW.trod_int Try.underlying5 hf
  simp [Value.cells] at e0
  subst e0
  simp only [Lit.wf, Bool.and_eq_true, decide_eq_true_eq] at hw
  have h1 : (0 : Int) ≤ n := hw.1
  have h2 : n ≤ (255 : Int) := hw.2
  exact ⟨n.toNat, by rw [Int.toNat_of_nonneg h1], by omega⟩

theorem openOps {H : Type} {enc : TypeId × Value → H} {W : World} {b0 : Nat} {v : Value} {d : DataW H} {p : List MemPlace}
    (hv : Value.okWide Try.prog W .any b0 35 v) (h : DataW.Trod enc Try.prog W 0 (fun _ => true) true 35 v d p) (hr : Reach Try.prog 35 d) :
    ∃ (L : List OpC) (q : Option Addr) (c : Nat), v = .slice q L.length c ∧ RdO W W.heap.size q L ∧ L.length ≤ c ∧ L.length ≤ 8796093022208 := by
  obtain ⟨a0, len, cap, rfl⟩ := okWide_slice Try.underlying35 hv
  obtain ⟨fuel, hf⟩ := h
  obtain ⟨L, q, c, e, hl, hb, _, he⟩ := openList (A := OpC) ⟨0, 0, 0⟩ (fun cs a => cs = [.int .i64 a.k, .int .u64 (a.s : Nat), .int .i64 a.n]) Try.underlying35 cellsOp (by decide)
    (fun n cs' y hy _ => by
      obtain ⟨y0, y1, y2, m, _, hlc, h0, h1, h2⟩ := trod_struct3 Try.underlying39 hy
      rw [cellsOp] at hlc
      match cs', hlc with
      | [c0, c1, c2], _ =>
        have z2 : Try.prog.cellsOf 3 = 1 := by kernel_rfl
        have z3 : Try.prog.cellsOf 22 = 1 := by kernel_rfl
        obtain ⟨k0, e0, _⟩ := DataW.trod_int Try.underlying3 h0
        obtain ⟨k1, e1, _, w1⟩ := DataW.trod_int Try.underlying22 h1
        obtain ⟨k2, e2, _, _⟩ := DataW.trod_int Try.underlying3 h2
        simp [z2, z3] at e0 e1 e2
        subst e0 e1 e2
        simp only [Lit.wf, Bool.and_eq_true, decide_eq_true_eq] at w1
        obtain ⟨m1, rfl⟩ := Int.eq_ofNat_of_zero_le (show (0 : Int) ≤ k1 from w1.1)
        exact ⟨⟨k0, m1, k2⟩, rfl⟩) hf hr
  simp [Value.cells] at e
  obtain ⟨rfl, rfl, rfl⟩ := e
  rw [bytesOp] at hb
  refine ⟨L, a0, cap, rfl, fun i hi => ?_, hl, by unfold reachBytes at hb; omega⟩
  obtain ⟨b, o, e, hlt, cs', rfl, _, hc⟩ := he i hi
  exact ⟨b, o, e, hlt, hc 0 (by decide), hc 1 (by decide), hc 2 (by decide)⟩
end Go.Proofs.Ytbmgkoifidhfjaa
