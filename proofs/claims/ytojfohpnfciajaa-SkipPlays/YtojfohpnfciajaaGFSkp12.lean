/- What the proofs of this seat share: calls and looks, opened. Calls, opened, with how long their keys are. -/
import Derived.WalkLawsBesides
import Derived.JoinedOf
import Derived.Handed
import Derived.Test.YtojfohpnfciajaaGFOpen
import Derived.Test.YtojfohpnfciajaaGMLaw12
namespace Go.Proofs.Ytojfohpnfciajaa
open Go.ChangeShapes Go.WideShapes Go.ChangeAt Go.RowKit Go.Joins Go.Deep
set_option maxRecDepth 100000

theorem own : ownKnob Try.prog.godebug = none := by kernel_rfl
theorem laidOut : laidOutB Try.prog = true := by kernel_rfl
theorem cellsOp : Try.prog.cellsOf 32 = 4 := by kernel_rfl
theorem bytesOp : Try.prog.bytesOf 32 = 40 := by kernel_rfl
theorem cellsSO : Try.prog.cellsOf 30 = 3 := by kernel_rfl
theorem cellsLk : Try.prog.cellsOf 38 = 6 := by kernel_rfl
theorem bytesLk : Try.prog.bytesOf 38 = 72 := by kernel_rfl
theorem cellsRg : Try.prog.cellsOf 36 = 3 := by kernel_rfl
theorem cellsI : Try.prog.cellsOf 3 = 1 := by kernel_rfl
theorem cellsN : Try.prog.cellsOf 2 = 1 := by kernel_rfl
theorem cellsS : Try.prog.cellsOf 9 = 1 := by kernel_rfl
theorem cellsB : Try.prog.cellsOf 4 = 1 := by kernel_rfl

section
variable {H : Type} {P : Program} {enc : TypeId × Value → H}
theorem trod_struct4' {w : World} {base : Nat} {spare : Nat → Bool} {held : Bool} {t : TypeId} {f0 f1 f2 f3 : Field} {fuel : Nat} {cs : List Value} {x : DataW H × List MemPlace} (ht : P.underlying t = some (.struct #[f0, f1, f2, f3])) (h : DataW.trod enc P w base spare held fuel t cs = some x) :
    ∃ y0 y1 y2 y3 n, x.1 = .agg [y0.1, y1.1, y2.1, y3.1] ∧ cs.length = P.cellsOf t ∧ DataW.trod enc P w base spare held n f0.type ((cs.drop f0.offset).take (P.cellsOf f0.type)) = some y0 ∧
      DataW.trod enc P w base spare held n f1.type ((cs.drop f1.offset).take (P.cellsOf f1.type)) = some y1 ∧ DataW.trod enc P w base spare held n f2.type ((cs.drop f2.offset).take (P.cellsOf f2.type)) = some y2 ∧
      DataW.trod enc P w base spare held n f3.type ((cs.drop f3.offset).take (P.cellsOf f3.type)) = some y3 := by
  obtain ⟨xs, n, _, rfl, hl, hlen, hf⟩ := DataW.trod_struct ht h
  match xs, hlen with
  | [y0, y1, y2, y3], _ => exact ⟨y0, y1, y2, y3, n, by simp, hl, by simpa using hf 0 f0 rfl, by simpa using hf 1 f1 rfl, by simpa using hf 2 f2 rfl, by simpa using hf 3 f3 rfl⟩
end

theorem openOpT {H : Type} {enc : TypeId × Value → H} {W : World} {fuel : Nat} {cs : List Value} {x : DataW H × List MemPlace} (h : DataW.trod enc Try.prog W 0 (fun _ => true) true fuel 32 cs = some x) :
    ∃ a : OpR, cs = [.int .i64 a.kd, .string a.k, .int .i64 a.v, .int .i64 a.h] := by
  obtain ⟨y0, y1, n, hx, hl, h0, h1⟩ := trod_struct2 Try.underlying32 h
  rw [cellsOp] at hl
  match cs, hl with
  | [c0, c1, c2, c3], _ =>
    obtain ⟨z0, z1, z2, n', _, _, g0, g1, g2⟩ := trod_struct3 Try.underlying30 h0
    obtain ⟨k3, e3, _⟩ := DataW.trod_int Try.underlying3 h1
    obtain ⟨k0, e0, _⟩ := DataW.trod_int Try.underlying3 g0
    obtain ⟨s1, e1, _⟩ := DataW.trod_string Try.underlying9 g1
    obtain ⟨k2, e2, _⟩ := DataW.trod_int Try.underlying2 g2
    simp [cellsI, cellsN, cellsS, cellsSO] at e0 e1 e2 e3
    subst e0 e1 e2 e3
    exact ⟨⟨k0, s1, k2, k3⟩, rfl⟩
theorem openLkT {H : Type} {enc : TypeId × Value → H} {W : World} {fuel : Nat} {cs : List Value} {x : DataW H × List MemPlace} (h : DataW.trod enc Try.prog W 0 (fun _ => true) true fuel 38 cs = some x) (hr : Reach Try.prog 38 x.1) :
    ∃ a : LkR, cs = [.string a.k, .string a.lo, .string a.hi, .bool a.op, .bool a.back, .int .i64 a.most] ∧ a.k.size ≤ 140737488351232 := by
  obtain ⟨y0, y1, y2, y3, n, hx, hl, h0, h1, h2, h3⟩ := trod_struct4' Try.underlying38 h
  rw [cellsLk] at hl
  match cs, hl with
  | [c0, c1, c2, c3, c4, c5], _ =>
    obtain ⟨z0, z1, z2, n', _, _, g0, g1, g2⟩ := trod_struct3 Try.underlying36 h1
    obtain ⟨s0, e0, f0, _⟩ := DataW.trod_string Try.underlying9 h0
    obtain ⟨s1, e1, _⟩ := DataW.trod_string Try.underlying9 g0
    obtain ⟨s2, e2, _⟩ := DataW.trod_string Try.underlying9 g1
    obtain ⟨b3, e3, _⟩ := DataW.trod_bool Try.underlying4 g2
    obtain ⟨b4, e4, _⟩ := DataW.trod_bool Try.underlying4 h2
    obtain ⟨k5, e5, _⟩ := DataW.trod_int Try.underlying3 h3
    rw [hx] at hr
    have hs := hr.part Try.underlying38 (j := 0) (u := 9) (d := y0.1) rfl rfl
    rw [f0] at hs
    have hs' := hs.str
    simp [cellsI, cellsS, cellsB, cellsRg] at e0 e1 e2 e3 e4 e5
    subst e0 e1 e2 e3 e4 e5
    exact ⟨⟨s0, s1, s2, b3, b4, k5⟩, rfl, by simpa [reachBytes] using hs'⟩

theorem openOp {H : Type} {enc : TypeId × Value → H} {W : World} {b0 : Nat} {v : Value} {d : DataW H} {p : List MemPlace}
    (hv : Value.okWide Try.prog W .any b0 32 v) (h : DataW.Trod enc Try.prog W 0 (fun _ => true) true 32 v d p) : ∃ a : OpR, v = .agg (opC a) := by
  obtain ⟨cs, rfl, hsz⟩ := okWide_struct Try.underlying32 hv
  obtain ⟨fuel, hf⟩ := h
  obtain ⟨cs⟩ := cs
  obtain ⟨a, e⟩ := openOpT hf
  simp only [Value.cells] at e
  subst e
  exact ⟨a, rfl⟩
theorem openLk {H : Type} {enc : TypeId × Value → H} {W : World} {b0 : Nat} {v : Value} {d : DataW H} {p : List MemPlace}
    (hv : Value.okWide Try.prog W .any b0 38 v) (h : DataW.Trod enc Try.prog W 0 (fun _ => true) true 38 v d p) (hr : Reach Try.prog 38 d) : ∃ a : LkR, v = .agg (lkC a) ∧ a.k.size ≤ 140737488351232 := by
  obtain ⟨cs, rfl, hsz⟩ := okWide_struct Try.underlying38 hv
  obtain ⟨fuel, hf⟩ := h
  obtain ⟨cs⟩ := cs
  obtain ⟨a, e, h9⟩ := openLkT hf hr
  simp only [Value.cells] at e
  subst e
  exact ⟨a, rfl, h9⟩
theorem openOps {H : Type} {enc : TypeId × Value → H} {W : World} {b0 : Nat} {v : Value} {d : DataW H} {p : List MemPlace}
    (hv : Value.okWide Try.prog W .any b0 22 v) (h : DataW.Trod enc Try.prog W 0 (fun _ => true) true 22 v d p) (hr : Reach Try.prog 22 d) :
    ∃ (L : List OpR) (q : Option Addr) (c : Nat), v = .slice q L.length c ∧ RdO W W.heap.size q L ∧ L.length ≤ 3518437208883 := by
  obtain ⟨a0, len, cap, rfl⟩ := okWide_slice Try.underlying22 hv
  obtain ⟨fuel, hf⟩ := h
  obtain ⟨L, q, c, e, hl, hb, _, he⟩ := openList (⟨0, ⟨#[]⟩, 0, 0⟩ : OpR) (fun cs a => cs = [.int .i64 a.kd, .string a.k, .int .i64 a.v, .int .i64 a.h]) Try.underlying22 cellsOp (by decide)
    (fun n cs' y hy _ => openOpT hy) hf hr
  simp [Value.cells] at e
  obtain ⟨rfl, rfl, rfl⟩ := e
  rw [bytesOp] at hb
  simp only [reachBytes] at hb
  refine ⟨L, a0, cap, rfl, fun i hi => ?_, by omega⟩
  obtain ⟨b, o, e, hlt, cs', rfl, _, hc⟩ := he i hi
  exact ⟨b, o, e, hlt, hc 0 (by decide), hc 1 (by decide), hc 2 (by decide), hc 3 (by decide)⟩
theorem openLks {H : Type} {enc : TypeId × Value → H} {W : World} {b0 : Nat} {v : Value} {d : DataW H} {p : List MemPlace}
    (hv : Value.okWide Try.prog W .any b0 23 v) (h : DataW.Trod enc Try.prog W 0 (fun _ => true) true 23 v d p) (hr : Reach Try.prog 23 d) :
    ∃ (L : List LkR) (q : Option Addr) (c : Nat), v = .slice q L.length c ∧ RdK W W.heap.size q L ∧ L.length ≤ 1954687338269 := by
  obtain ⟨a0, len, cap, rfl⟩ := okWide_slice Try.underlying23 hv
  obtain ⟨fuel, hf⟩ := h
  obtain ⟨L, q, c, e, hl, hb, _, he⟩ := openList (⟨⟨#[]⟩, ⟨#[]⟩, ⟨#[]⟩, false, false, 0⟩ : LkR) (fun cs a => cs = [.string a.k, .string a.lo, .string a.hi, .bool a.op, .bool a.back, .int .i64 a.most]) Try.underlying23 cellsLk (by decide)
    (fun n cs' y hy hry => by obtain ⟨a, e, _⟩ := openLkT hy hry; exact ⟨a, e⟩) hf hr
  simp [Value.cells] at e
  obtain ⟨rfl, rfl, rfl⟩ := e
  rw [bytesLk] at hb
  simp only [reachBytes] at hb
  refine ⟨L, a0, cap, rfl, fun i hi => ?_, by omega⟩
  obtain ⟨b, o, e, hlt, cs', rfl, _, hc⟩ := he i hi
  exact ⟨b, o, e, hlt, hc 0 (by decide), hc 1 (by decide), hc 2 (by decide), hc 3 (by decide), hc 4 (by decide), hc 5 (by decide)⟩

end Go.Proofs.Ytojfohpnfciajaa

namespace Go.Proofs.Ytojfohpnfciajaa
open Go.ChangeShapes Go.WideShapes Go.ChangeAt Go.RowKit Go.Joins Go.Deep
set_option maxRecDepth 100000

theorem openOpT2 {H : Type} {enc : TypeId × Value → H} {W : World} {fuel : Nat} {cs : List Value} {x : DataW H × List MemPlace} (h : DataW.trod enc Try.prog W 0 (fun _ => true) true fuel 32 cs = some x) (hr : Reach Try.prog 32 x.1) :
    ∃ a : OpR, cs = [.int .i64 a.kd, .string a.k, .int .i64 a.v, .int .i64 a.h] ∧ a.k.size ≤ 140737488351232 := by
  obtain ⟨y0, y1, n, hx, hl, h0, h1⟩ := trod_struct2 Try.underlying32 h
  rw [cellsOp] at hl
  match cs, hl with
  | [c0, c1, c2, c3], _ =>
    obtain ⟨z0, z1, z2, n', hx2, _, g0, g1, g2⟩ := trod_struct3 Try.underlying30 h0
    obtain ⟨k3, e3, _⟩ := DataW.trod_int Try.underlying3 h1
    obtain ⟨k0, e0, _⟩ := DataW.trod_int Try.underlying3 g0
    obtain ⟨s1, e1, f1, _⟩ := DataW.trod_string Try.underlying9 g1
    obtain ⟨k2, e2, _⟩ := DataW.trod_int Try.underlying2 g2
    rw [hx] at hr
    have hs0 := hr.part Try.underlying32 (j := 0) (u := 30) (d := y0.1) rfl rfl
    rw [hx2] at hs0
    have hs := hs0.part Try.underlying30 (j := 1) (u := 9) (d := z1.1) rfl rfl
    rw [f1] at hs
    have hs' := hs.str
    simp [cellsI, cellsN, cellsS, cellsSO] at e0 e1 e2 e3
    subst e0 e1 e2 e3
    exact ⟨⟨k0, s1, k2, k3⟩, rfl, by simpa [reachBytes] using hs'⟩
theorem openOps2 {H : Type} {enc : TypeId × Value → H} {W : World} {b0 : Nat} {v : Value} {d : DataW H} {p : List MemPlace}
    (hv : Value.okWide Try.prog W .any b0 22 v) (h : DataW.Trod enc Try.prog W 0 (fun _ => true) true 22 v d p) (hr : Reach Try.prog 22 d) :
    ∃ (L : List OpR) (q : Option Addr) (c : Nat), v = .slice q L.length c ∧ RdO W W.heap.size q L ∧ L.length ≤ 3518437208883 ∧ ∀ i (hi : i < L.length), L[i].k.size ≤ 140737488351232 := by
  obtain ⟨a0, len, cap, rfl⟩ := okWide_slice Try.underlying22 hv
  obtain ⟨fuel, hf⟩ := h
  obtain ⟨L, q, c, e, hl, hb, _, he⟩ := openList (⟨0, ⟨#[]⟩, 0, 0⟩ : OpR) (fun cs a => cs = [.int .i64 a.kd, .string a.k, .int .i64 a.v, .int .i64 a.h] ∧ a.k.size ≤ 140737488351232) Try.underlying22 cellsOp (by decide)
    (fun n cs' y hy hry => openOpT2 hy hry) hf hr
  simp [Value.cells] at e
  obtain ⟨rfl, rfl, rfl⟩ := e
  rw [bytesOp] at hb
  simp only [reachBytes] at hb
  refine ⟨L, a0, cap, rfl, fun i hi => ?_, by omega, fun i hi => ?_⟩
  · obtain ⟨b, o, e, hlt, cs', ⟨rfl, _⟩, _, hc⟩ := he i hi
    exact ⟨b, o, e, hlt, hc 0 (by decide), hc 1 (by decide), hc 2 (by decide), hc 3 (by decide)⟩
  · obtain ⟨b, o, e, hlt, cs', ⟨_, h9⟩, _, hc⟩ := he i hi
    exact h9

end Go.Proofs.Ytojfohpnfciajaa
