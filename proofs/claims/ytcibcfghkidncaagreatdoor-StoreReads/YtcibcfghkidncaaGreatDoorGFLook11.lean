/- Looks, opened. -/
import Derived.Test.YtcibcfghkidncaaGreatDoorGFSto11
import Derived.Test.YtcibcfghkidncaaGreatDoorGLSto2
namespace Go.Proofs.YtcibcfghkidncaaGreatDoor
open Go.ChangeShapes Go.WideShapes Go.ChangeAt Go.RowKit Go.Joins Go.Shelf Go.Lib Go.Deep
set_option maxRecDepth 100000

theorem cellsLk : Tryz.prog.cellsOf 48 = 3 := by kernel_rfl
theorem bytesLk : Tryz.prog.bytesOf 48 = 24 := by kernel_rfl
theorem openLooks {H : Type} {enc : TypeId × Value → H} {W : World} {b0 : Nat} {v : Value} {d : DataW H} {p : List MemPlace}
  (hv : Value.okWide Tryz.prog W .any b0 43 v) (h : DataW.Trod enc Tryz.prog W 0 (fun _ => true) true 43 v d p) (hr : Reach Tryz.prog 43 d) :
  ∃ (L : List LkR) (q : Option Addr) (c : Nat), v = .slice q L.length c ∧ RdK W W.heap.size q L ∧ L.length ≤ 5864062014806 := by
 obtain ⟨a0, len, cap, rfl⟩ := okWide_slice Tryz.underlying43 hv
 obtain ⟨fuel, hf⟩ := h
 obtain ⟨L, q, c, e, hl, hb, _, he⟩ := openList (⟨0, 0, 0⟩ : LkR) (fun cs a => cs = [.int .i64 a.sl, .int .i64 a.tx, .int .u64 a.st]) Tryz.underlying43 cellsLk (by decide)
  (fun n cs' y hy _ => by
   obtain ⟨y0, y1, y2, m, _, hlc, h0, h1, h2⟩ := trod_struct3 Tryz.underlying48 hy
   rw [cellsLk] at hlc
   match cs', hlc with
   | [c0, c1, c2], _ =>
    obtain ⟨k0, e0, _⟩ := DataW.trod_int Tryz.underlying3 h0
    obtain ⟨k1, e1, _⟩ := DataW.trod_int Tryz.underlying3 h1
    obtain ⟨k2, e2, _⟩ := DataW.trod_int Tryz.underlying39 h2
    simp [cellsI, cellsU] at e0 e1 e2
    subst e0 e1 e2
    exact ⟨⟨k0, k1, k2⟩, rfl⟩) hf hr
 simp [Value.cells] at e
 obtain ⟨rfl, rfl, rfl⟩ := e
 rw [bytesLk] at hb
 simp only [reachBytes] at hb
 refine ⟨L, a0, cap, rfl, fun i hi => ?_, by omega⟩
 obtain ⟨b, o, e, hlt, cs', rfl, _, hc⟩ := he i hi
 exact ⟨b, o, e, hlt, hc 0 (by decide), hc 1 (by decide), hc 2 (by decide)⟩

end Go.Proofs.YtcibcfghkidncaaGreatDoor
