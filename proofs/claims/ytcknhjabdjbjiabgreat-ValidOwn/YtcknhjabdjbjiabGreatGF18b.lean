/- What the proofs of this seat share: lists of commits, of attempts, opened. What the proofs of this seat share: lists of commits opened, with how many there are. -/
import Derived.Test.YtcknhjabdjbjiabGreatGFSets
import Derived.Test.YtcknhjabdjbjiabGreatGWLg15
namespace Go.Proofs.YtcknhjabdjbjiabGreat
open Go.ChangeShapes Go.WideShapes Go.ChangeAt Go.RowKit Go.Joins Go.Deep
set_option maxRecDepth 100000

theorem bytesCm : Tryz.prog.bytesOf 45 = 80 := by kernel_rfl
theorem openCommits {H : Type} {enc : TypeId × Value → H} {W : World} {b0 : Nat} {v : Value} {d : DataW H} {p : List MemPlace}
    (hv : Value.okWide Tryz.prog W .any b0 22 v) (h : DataW.Trod enc Tryz.prog W 0 (fun _ => true) true 22 v d p) (hr : Reach Tryz.prog 22 d) :
    ∃ K : List Lc, RdLc W v K := by
  obtain ⟨fuel, hf⟩ := h
  obtain ⟨L, q, c, e, hl, hb, hq, he⟩ := openList (⟨0, ⟨[], [], []⟩, .slice none 0 0, .slice none 0 0, .slice none 0 0⟩ : Lc) (fun cs k => cs = [.int .u64 (k.s : Int), k.v0, k.v1, k.v2] ∧ k.s < 18446744073709551616 ∧ RdF W k.v0 k.v1 k.v2 k.a) Tryz.underlying22 cellsCm (by decide)
    (fun n cs' y hy hr => by
      obtain ⟨s, a, v0, v1, v2, e, hs, ha⟩ := openCmT hy hr
      exact ⟨⟨s, a, v0, v1, v2⟩, e, hs, ha⟩) hf hr
  obtain ⟨q', n', c', rfl⟩ := okWide_slice Tryz.underlying22 hv
  simp [Value.cells] at e
  obtain ⟨rfl, rfl, rfl⟩ := e
  rw [bytesCm] at hb
  simp only [reachBytes] at hb
  refine ⟨L, ⟨_, _, rfl, hl, by omega, fun i hi => ?_⟩, fun k hk => ?_⟩
  · obtain ⟨b, o, e, hlt, cs', ⟨rfl, _, _⟩, _, hc⟩ := he i hi
    exact ⟨b, o, e, hlt, hc 0 (by decide), hc 1 (by decide), hc 2 (by decide), hc 3 (by decide)⟩
  · obtain ⟨i, hi, rfl⟩ := List.getElem_of_mem hk
    obtain ⟨b, o, e, hlt, cs', ⟨_, hs, ha⟩, _, hc⟩ := he i hi
    exact ⟨ha, hs⟩

end Go.Proofs.YtcknhjabdjbjiabGreat

namespace Go.Proofs.YtcknhjabdjbjiabGreat
open Go.ChangeShapes Go.WideShapes Go.ChangeAt Go.RowKit Go.Joins Go.Deep
set_option maxRecDepth 100000

theorem openCommits2 {H : Type} {enc : TypeId × Value → H} {W : World} {b0 : Nat} {v : Value} {d : DataW H} {p : List MemPlace}
    (hv : Value.okWide Tryz.prog W .any b0 22 v) (h : DataW.Trod enc Tryz.prog W 0 (fun _ => true) true 22 v d p) (hr : Reach Tryz.prog 22 d) :
    ∃ K : List Lc, RdLc W v K ∧ K.length ≤ 1759218604441 := by
  obtain ⟨fuel, hf⟩ := h
  obtain ⟨L, q, c, e, hl, hb, hq, he⟩ := openList (⟨0, ⟨[], [], []⟩, .slice none 0 0, .slice none 0 0, .slice none 0 0⟩ : Lc) (fun cs k => cs = [.int .u64 (k.s : Int), k.v0, k.v1, k.v2] ∧ k.s < 18446744073709551616 ∧ RdF W k.v0 k.v1 k.v2 k.a) Tryz.underlying22 cellsCm (by decide)
    (fun n cs' y hy hr => by
      obtain ⟨s, a, v0, v1, v2, e, hs, ha⟩ := openCmT hy hr
      exact ⟨⟨s, a, v0, v1, v2⟩, e, hs, ha⟩) hf hr
  obtain ⟨q', n', c', rfl⟩ := okWide_slice Tryz.underlying22 hv
  simp [Value.cells] at e
  obtain ⟨rfl, rfl, rfl⟩ := e
  rw [bytesCm] at hb
  simp only [reachBytes] at hb
  refine ⟨L, ⟨⟨_, _, rfl, hl, by omega, fun i hi => ?_⟩, fun k hk => ?_⟩, by omega⟩
  · obtain ⟨b, o, e, hlt, cs', ⟨rfl, _, _⟩, _, hc⟩ := he i hi
    exact ⟨b, o, e, hlt, hc 0 (by decide), hc 1 (by decide), hc 2 (by decide), hc 3 (by decide)⟩
  · obtain ⟨i, hi, rfl⟩ := List.getElem_of_mem hk
    obtain ⟨b, o, e, hlt, cs', ⟨_, hs, ha⟩, _, hc⟩ := he i hi
    exact ⟨ha, hs⟩

end Go.Proofs.YtcknhjabdjbjiabGreat
