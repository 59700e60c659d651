/- Lists of texts, opened. -/
import Derived.Test.YtofndmiebnhkaaaFAct
import Derived.Test.YtofndmiebnhkaaaMAp
namespace Go.Proofs.Ytofndmiebnhkaaa
open Go.ChangeShapes Go.WideShapes Go.ChangeAt Go.RowKit Go.Joins Go.Deep
set_option maxRecDepth 100000

theorem cellsStr : Try.prog.cellsOf 9 = 1 := by kernel_rfl
theorem bytesStr : Try.prog.bytesOf 9 = 16 := by kernel_rfl
theorem openStrs {H : Type} {enc : TypeId × Value → H} {W : World} {b0 : Nat} {v : Value} {d : DataW H} {p : List MemPlace}
    (hv : Value.okWide Try.prog W .any b0 39 v) (h : DataW.Trod enc Try.prog W 0 (fun _ => true) true 39 v d p) (hr : Reach Try.prog 39 d) :
    ∃ (L : List ByteArray) (q : Option Addr) (c : Nat), v = .slice q L.length c ∧ RdS W W.heap.size q L ∧ L.length ≤ c ∧ L.length ≤ 8796093022208 := by
  obtain ⟨a0, len, cap, rfl⟩ := okWide_slice Try.underlying39 hv
  obtain ⟨fuel, hf⟩ := h
  obtain ⟨L, q, c, e, hl, hb, _, he⟩ := openList (A := ByteArray) ByteArray.empty (fun cs a => cs = [.string a]) Try.underlying39 cellsStr (by decide)
    (fun n cs' y hy _ => by
      obtain ⟨s, e, _, _⟩ := DataW.trod_string Try.underlying9 hy
      exact ⟨s, e⟩) hf hr
  simp [Value.cells] at e
  obtain ⟨rfl, rfl, rfl⟩ := e
  rw [bytesStr] at hb
  refine ⟨L, a0, cap, rfl, fun i hi => ?_, hl, by unfold reachBytes at hb; omega⟩
  obtain ⟨b, o, e, hlt, cs', rfl, _, hc⟩ := he i hi
  have := hc 0 (by decide)
  exact ⟨b, o, e, hlt, by simpa using this⟩
end Go.Proofs.Ytofndmiebnhkaaa
