/- What the proofs of this seat share: acts, opened. -/
import Derived.Test.YtcdamalpecedcaaGreatFOpen
import Derived.Test.YtcdamalpecedcaaGreatLGPl
import Derived.WalkLawsBesides
import Derived.JoinedOf
import Derived.Handed
namespace Go.Proofs.YtcdamalpecedcaaGreat
open Go.ChangeShapes Go.WideShapes Go.ChangeAt Go.RowKit Go.Joins Go.Deep
set_option maxRecDepth 100000

theorem own : ownKnob Tryz.prog.godebug = none := by kernel_rfl
theorem laidOut : laidOutB Tryz.prog = true := by kernel_rfl
theorem cellsAct : Tryz.prog.cellsOf 34 = 3 := by kernel_rfl
theorem bytesAct : Tryz.prog.bytesOf 34 = 40 := by kernel_rfl
theorem cellsHd : Tryz.prog.cellsOf 52 = 4 := by kernel_rfl
theorem bytesHd : Tryz.prog.bytesOf 52 = 48 := by kernel_rfl
theorem cellsSH : Tryz.prog.cellsOf 32 = 1 := by kernel_rfl
theorem cellsRg : Tryz.prog.cellsOf 50 = 3 := by kernel_rfl
theorem cellsI : Tryz.prog.cellsOf 3 = 1 := by kernel_rfl
theorem cellsS : Tryz.prog.cellsOf 9 = 1 := by kernel_rfl
theorem cellsB : Tryz.prog.cellsOf 4 = 1 := by kernel_rfl

theorem openHdT {H : Type} {enc : TypeId × Value → H} {W : World} {fuel : Nat} {cs : List Value} {x : DataW H × List MemPlace} (h : DataW.trod enc Tryz.prog W 0 (fun _ => true) true fuel 52 cs = some x) :
    ∃ a : Hd, cs = [.string a.r.lo, .string a.r.hi, .bool a.r.op, .bool a.al] := by
  obtain ⟨y0, y1, n, hx, hl, h0, h1⟩ := trod_struct2 Tryz.underlying52 h
  rw [cellsHd] at hl
  match cs, hl with
  | [c0, c1, c2, c3], _ =>
    obtain ⟨z0, z1, z2, n', _, _, g0, g1, g2⟩ := trod_struct3 Tryz.underlying50 h0
    obtain ⟨b3, e3, _⟩ := DataW.trod_bool Tryz.underlying4 h1
    obtain ⟨s0, e0, _⟩ := DataW.trod_string Tryz.underlying9 g0
    obtain ⟨s1, e1, _⟩ := DataW.trod_string Tryz.underlying9 g1
    obtain ⟨b2, e2, _⟩ := DataW.trod_bool Tryz.underlying4 g2
    simp [cellsS, cellsB, cellsRg] at e0 e1 e2 e3
    subst e0 e1 e2 e3
    exact ⟨⟨⟨s0, s1, b2⟩, b3⟩, rfl⟩
theorem openHds {H : Type} {enc : TypeId × Value → H} {W : World} {fuel : Nat} {cs : List Value} {x : DataW H × List MemPlace} (h : DataW.trod enc Tryz.prog W 0 (fun _ => true) true fuel 32 cs = some x) (hr : Reach Tryz.prog 32 x.1) :
    ∃ (L : List Hd) (q : Option Addr) (c : Nat), cs = [.slice q L.length c] ∧ RdH W W.heap.size q L ∧ L.length ≤ 2932031007317 := by
  obtain ⟨L, q, c, e, hl, hb, _, he⟩ := openList (⟨⟨⟨#[]⟩, ⟨#[]⟩, false⟩, false⟩ : Hd) (fun cs a => cs = [.string a.r.lo, .string a.r.hi, .bool a.r.op, .bool a.al]) Tryz.underlying32 cellsHd (by decide)
    (fun n cs' y hy _ => openHdT hy) h hr
  rw [bytesHd] at hb
  simp only [reachBytes] at hb
  refine ⟨L, q, c, e, fun i hi => ?_, by omega⟩
  obtain ⟨b, o, e, hlt, cs', rfl, _, hc⟩ := he i hi
  exact ⟨b, o, e, hlt, hc 0 (by decide), hc 1 (by decide), hc 2 (by decide), hc 3 (by decide)⟩
def IsAg (W : World) (cs : List Value) (a : AcG) : Prop := cs = [.int .i64 a.kd, .slice a.q a.H.length a.c, .int .i64 a.nn] ∧ RdH W W.heap.size a.q a.H ∧ a.H.length ≤ 2932031007317
theorem openActT {H : Type} {enc : TypeId × Value → H} {W : World} {fuel : Nat} {cs : List Value} {x : DataW H × List MemPlace} (h : DataW.trod enc Tryz.prog W 0 (fun _ => true) true fuel 34 cs = some x) (hr : Reach Tryz.prog 34 x.1) : ∃ a : AcG, IsAg W cs a := by
  obtain ⟨y0, y1, y2, n, hx, hl, h0, h1, h2⟩ := trod_struct3 Tryz.underlying34 h
  rw [hx] at hr
  rw [cellsAct] at hl
  match cs, hl with
  | [c0, c1, c2], _ =>
    obtain ⟨k0, e0, _⟩ := DataW.trod_int Tryz.underlying3 h0
    obtain ⟨L, q, c, e1, hR, hln⟩ := openHds h1 (hr.part Tryz.underlying34 (j := 1) (u := 32) (d := y1.1) rfl rfl)
    obtain ⟨k2, e2, _⟩ := DataW.trod_int Tryz.underlying3 h2
    simp [cellsI, cellsSH] at e0 e1 e2
    subst e0 e1 e2
    exact ⟨⟨k0, q, c, L, k2⟩, rfl, hR, hln⟩
theorem openActs {H : Type} {enc : TypeId × Value → H} {W : World} {b0 : Nat} {v : Value} {d : DataW H} {p : List MemPlace}
    (hv : Value.okWide Tryz.prog W .any b0 22 v) (h : DataW.Trod enc Tryz.prog W 0 (fun _ => true) true 22 v d p) (hr : Reach Tryz.prog 22 d) :
    ∃ (L : List AcG) (q : Option Addr) (c : Nat), v = .slice q L.length c ∧ RdG W W.heap.size q L ∧ L.length ≤ 5900000000000 := by
  obtain ⟨a0, len, cap, rfl⟩ := okWide_slice Tryz.underlying22 hv
  obtain ⟨fuel, hf⟩ := h
  obtain ⟨L, q, c, e, hl, hb, _, he⟩ := openList (⟨0, none, 0, [], 0⟩ : AcG) (IsAg W) Tryz.underlying22 cellsAct (by decide) (fun n cs y h hr => openActT h hr) hf hr
  rw [bytesAct] at hb
  simp only [reachBytes] at hb
  simp [Value.cells] at e
  obtain ⟨rfl, rfl, rfl⟩ := e
  refine ⟨L, a0, cap, rfl, fun i hi => ?_, by omega⟩
  obtain ⟨b, o, e, hlt, cs', ⟨rfl, hR, hn⟩, _, hc⟩ := he i hi
  exact ⟨b, o, e, hlt, hc 0 (by decide), hc 1 (by decide), hc 2 (by decide), hR, hn⟩
end Go.Proofs.YtcdamalpecedcaaGreat
