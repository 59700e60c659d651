/- What the proofs of this seat share: lists of additions, of numbers, opened. -/
import Derived.Test.YtammkfilihlmhaaFOpen
import Derived.Test.YtammkfilihlmhaaLTal
import Derived.WalkLawsBesides
import Derived.JoinedOf
import Derived.Handed
namespace Go.Proofs.Ytammkfilihlmhaa
open Go.ChangeShapes Go.WideShapes Go.ChangeAt Go.RowKit Go.Joins Go.Deep
set_option maxRecDepth 100000

theorem own : ownKnob Try.prog.godebug = none := by kernel_rfl
theorem laidOut : laidOutB Try.prog = true := by kernel_rfl
theorem cellsA : Try.prog.cellsOf 32 = 2 := by kernel_rfl
theorem bytesA : Try.prog.bytesOf 32 = 16 := by kernel_rfl
theorem cellsU : Try.prog.cellsOf 51 = 1 := by kernel_rfl
theorem bytesU : Try.prog.bytesOf 51 = 8 := by kernel_rfl

/-- A NUMBER, OPENED. -/
theorem okInt {H : Type} {enc : TypeId × Value → H} {W : World} {b0 : Nat} {v : Value} {d : DataW H} {p : List MemPlace}
    (hv : Value.okWide Try.prog W .any b0 3 v) (h : DataW.Trod enc Try.prog W 0 (fun _ => true) true 3 v d p) : ∃ n, v = .int .i64 n ∧ -9223372036854775808 ≤ n ∧ n ≤ 9223372036854775807 := by
  obtain ⟨n, rfl⟩ := okWide_int Try.underlying3 hv
  obtain ⟨fuel, hf⟩ := h
  obtain ⟨k, e0, _, hw⟩ := DataW.trod_int Try.underlying3 hf
  simp [Value.cells] at e0
  subst e0
  exact ⟨n, rfl, wf_i64 hw⟩
/-- A LIST OF ADDITIONS, OPENED. -/
theorem openAdds {H : Type} {enc : TypeId × Value → H} {W : World} {b0 : Nat} {v : Value} {d : DataW H} {p : List MemPlace}
    (hv : Value.okWide Try.prog W .any b0 22 v) (h : DataW.Trod enc Try.prog W 0 (fun _ => true) true 22 v d p) (hr : Reach Try.prog 22 d) :
    ∃ (L : List Ad) (q : Option Addr) (c : Nat), v = .slice q L.length c ∧ RdA W W.heap.size q L ∧ L.length ≤ c ∧ L.length ≤ 8796093022208 := by
  obtain ⟨a0, len, cap, rfl⟩ := okWide_slice Try.underlying22 hv
  obtain ⟨fuel, hf⟩ := h
  obtain ⟨L, q, c, e, hl, hb, _, he⟩ := openList (A := Ad) ⟨0, 0⟩ (fun cs a => cs = [.int .i64 a.s, .int .i64 a.n]) Try.underlying22 cellsA (by decide)
    (fun n cs' y hy _ => by
      obtain ⟨y0, y1, m, _, hlc, h0, h1⟩ := trod_struct2 Try.underlying32 hy
      rw [cellsA] at hlc
      match cs', hlc with
      | [c0, c1], _ =>
        obtain ⟨k, e0, _, _⟩ := DataW.trod_int Try.underlying3 h0
        obtain ⟨m, e1, _, _⟩ := DataW.trod_int Try.underlying2 h1
        have z1 : Try.prog.cellsOf 3 = 1 := by kernel_rfl
        have z2 : Try.prog.cellsOf 2 = 1 := by kernel_rfl
        simp [z1, z2] at e0 e1
        subst e0 e1
        exact ⟨⟨k, m⟩, rfl⟩) hf hr
  simp [Value.cells] at e
  obtain ⟨rfl, rfl, rfl⟩ := e
  rw [bytesA] at hb
  refine ⟨L, a0, cap, rfl, fun i hi => ?_, hl, by unfold reachBytes at hb; omega⟩
  obtain ⟨b, o, e, hlt, cs', rfl, _, hc⟩ := he i hi
  exact ⟨b, o, e, hlt, hc 0 (by decide), hc 1 (by decide)⟩
/-- A LIST OF NUMBERS WITHOUT SIGN, OPENED. -/
theorem openU64s {H : Type} {enc : TypeId × Value → H} {W : World} {b0 : Nat} {v : Value} {d : DataW H} {p : List MemPlace}
    (hv : Value.okWide Try.prog W .any b0 47 v) (h : DataW.Trod enc Try.prog W 0 (fun _ => true) true 47 v d p) (hr : Reach Try.prog 47 d) :
    ∃ (L : List Int) (q : Option Addr) (c : Nat), v = .slice q L.length c ∧ RdN W W.heap.size q .u64 L ∧ L.length ≤ c ∧ L.length ≤ 17592186044416 ∧ ∀ x ∈ L, 0 ≤ x ∧ x < 18446744073709551616 := by
  obtain ⟨a0, len, cap, rfl⟩ := okWide_slice Try.underlying47 hv
  obtain ⟨fuel, hf⟩ := h
  obtain ⟨L, q, c, e, hl, hb, _, he⟩ := openList (A := Int) 0 (fun cs a => cs = [.int .u64 a] ∧ 0 ≤ a ∧ a < 18446744073709551616) Try.underlying47 cellsU (by decide)
    (fun n cs' y hy _ => by
      obtain ⟨k, e0, _, hw⟩ := DataW.trod_int Try.underlying51 hy
      simp only [Lit.wf, Bool.and_eq_true, decide_eq_true_eq] at hw
      have h1 : (0 : Int) ≤ k := hw.1
      have h2 : k ≤ (18446744073709551615 : Int) := hw.2
      exact ⟨k, e0, h1, by omega⟩) hf hr
  simp [Value.cells] at e
  obtain ⟨rfl, rfl, rfl⟩ := e
  rw [bytesU] at hb
  refine ⟨L, a0, cap, rfl, fun i hi => ?_, hl, by unfold reachBytes at hb; omega, fun x hx => ?_⟩
  · obtain ⟨b, o, e, hlt, cs', ⟨rfl, _⟩, _, hc⟩ := he i hi
    exact ⟨b, o, e, hlt, by have := hc 0 (by decide); simpa using this⟩
  · obtain ⟨i, hi, rfl⟩ := List.mem_iff_getElem.1 hx
    obtain ⟨_, _, _, _, _, ⟨_, h1⟩, _⟩ := he i hi
    exact h1
end Go.Proofs.Ytammkfilihlmhaa
