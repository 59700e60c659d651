/- What the proofs of this seat share: histories, opened. -/
import Derived.WalkLawsBesides
import Derived.JoinedOf
import Derived.Handed
import Derived.Test.YtncfejndmlcidaaGreatGFOpen
import Derived.Test.YtncfejndmlcidaaGreatGWGr1
namespace Go.Proofs.YtncfejndmlcidaaGreat
open Go.ChangeShapes Go.WideShapes Go.ChangeAt Go.RowKit Go.Joins Go.Deep
set_option maxRecDepth 100000

theorem own : ownKnob Tryz.prog.godebug = none := by kernel_rfl
theorem laidOut : laidOutB Tryz.prog = true := by kernel_rfl
theorem cellsAc : Tryz.prog.cellsOf 51 = 10 := by kernel_rfl
theorem bytesAc : Tryz.prog.bytesOf 51 = 120 := by kernel_rfl
theorem cellsSw : Tryz.prog.cellsOf 53 = 3 := by kernel_rfl
theorem bytesSw : Tryz.prog.bytesOf 53 = 32 := by kernel_rfl
theorem cellsSS : Tryz.prog.cellsOf 48 = 1 := by kernel_rfl
theorem cellsRg : Tryz.prog.cellsOf 47 = 3 := by kernel_rfl
theorem cellsI : Tryz.prog.cellsOf 3 = 1 := by kernel_rfl
theorem cellsU : Tryz.prog.cellsOf 49 = 1 := by kernel_rfl
theorem cellsS : Tryz.prog.cellsOf 9 = 1 := by kernel_rfl
theorem cellsB : Tryz.prog.cellsOf 4 = 1 := by kernel_rfl
theorem trod_struct8 {H : Type} {enc : TypeId × Value → H} {P : Program} {w : World} {base : Nat} {spare : Nat → Bool} {held : Bool} {t : TypeId} {f0 f1 f2 f3 f4 f5 f6 f7 : Field} {fuel : Nat} {cs : List Value} {x : DataW H × List MemPlace} (ht : P.underlying t = some (.struct #[f0, f1, f2, f3, f4, f5, f6, f7])) (h : DataW.trod enc P w base spare held fuel t cs = some x) :
    ∃ y0 y1 y2 y3 y4 y5 y6 y7 n, x.1 = .agg [y0.1, y1.1, y2.1, y3.1, y4.1, y5.1, y6.1, y7.1] ∧ cs.length = P.cellsOf t ∧ DataW.trod enc P w base spare held n f0.type ((cs.drop f0.offset).take (P.cellsOf f0.type)) = some y0 ∧
      DataW.trod enc P w base spare held n f1.type ((cs.drop f1.offset).take (P.cellsOf f1.type)) = some y1 ∧ DataW.trod enc P w base spare held n f2.type ((cs.drop f2.offset).take (P.cellsOf f2.type)) = some y2 ∧
      DataW.trod enc P w base spare held n f3.type ((cs.drop f3.offset).take (P.cellsOf f3.type)) = some y3 ∧ DataW.trod enc P w base spare held n f4.type ((cs.drop f4.offset).take (P.cellsOf f4.type)) = some y4 ∧
      DataW.trod enc P w base spare held n f5.type ((cs.drop f5.offset).take (P.cellsOf f5.type)) = some y5 ∧ DataW.trod enc P w base spare held n f6.type ((cs.drop f6.offset).take (P.cellsOf f6.type)) = some y6 ∧
      DataW.trod enc P w base spare held n f7.type ((cs.drop f7.offset).take (P.cellsOf f7.type)) = some y7 := by
  obtain ⟨xs, n, _, rfl, hl, hlen, hf⟩ := DataW.trod_struct ht h
  match xs, hlen with
  | [y0, y1, y2, y3, y4, y5, y6, y7], _ => exact ⟨y0, y1, y2, y3, y4, y5, y6, y7, n, by simp, hl, by simpa using hf 0 f0 rfl, by simpa using hf 1 f1 rfl, by simpa using hf 2 f2 rfl, by simpa using hf 3 f3 rfl, by simpa using hf 4 f4 rfl, by simpa using hf 5 f5 rfl, by simpa using hf 6 f6 rfl, by simpa using hf 7 f7 rfl⟩
theorem openU {H : Type} {enc : TypeId × Value → H} {W : World} {fuel : Nat} {cs : List Value} {x : DataW H × List MemPlace} (h : DataW.trod enc Tryz.prog W 0 (fun _ => true) true fuel 49 cs = some x) : ∃ n : Nat, cs = [.int .u64 (n : Int)] ∧ n < 18446744073709551616 := by
  obtain ⟨k, e0, _, hw⟩ := DataW.trod_int Tryz.underlying49 h
  simp only [Lit.wf, Bool.and_eq_true, decide_eq_true_eq] at hw
  have h1 : (0 : Int) ≤ k := hw.1
  have h2 : k ≤ (18446744073709551615 : Int) := hw.2
  exact ⟨k.toNat, by rw [e0, Int.toNat_of_nonneg h1], by omega⟩
theorem openSwT {H : Type} {enc : TypeId × Value → H} {W : World} {fuel : Nat} {cs : List Value} {x : DataW H × List MemPlace} (h : DataW.trod enc Tryz.prog W 0 (fun _ => true) true fuel 53 cs = some x) :
    ∃ a : Sw, cs = encS a := by
  obtain ⟨y0, y1, y2, n, hx, hl, h0, h1, h2⟩ := trod_struct3 Tryz.underlying53 h
  rw [cellsSw] at hl
  match cs, hl with
  | [c0, c1, c2], _ =>
    obtain ⟨s0, e0, _⟩ := DataW.trod_string Tryz.underlying9 h0
    obtain ⟨k1, e1, _⟩ := DataW.trod_int Tryz.underlying3 h1
    obtain ⟨k2, e2, _⟩ := DataW.trod_int Tryz.underlying3 h2
    simp [cellsI, cellsS] at e0 e1 e2
    subst e0 e1 e2
    exact ⟨⟨s0, k1, k2⟩, rfl⟩
theorem openSws {H : Type} {enc : TypeId × Value → H} {W : World} {fuel : Nat} {cs : List Value} {x : DataW H × List MemPlace} (h : DataW.trod enc Tryz.prog W 0 (fun _ => true) true fuel 48 cs = some x) (hr : Reach Tryz.prog 48 x.1) :
    ∃ (L : List Sw) (v : Value), cs = [v] ∧ SlG encS 3 W.heap.size W v L ∧ L.length ≤ 4398046511104 := by
  obtain ⟨L, q, c, e, hl, hb, hq, he⟩ := openList (⟨⟨#[]⟩, 0, 0⟩ : Sw) (fun cs a => cs = encS a) Tryz.underlying48 cellsSw (by decide) (fun n cs' y hy _ => openSwT hy) h hr
  rw [bytesSw] at hb
  simp only [reachBytes] at hb
  refine ⟨L, _, e, ⟨q, c, rfl, hl, hq, fun i hi => ?_⟩, by omega⟩
  obtain ⟨b, o, e, hlt, cs', rfl, hlen, hc⟩ := he i hi
  refine ⟨b, o, e, hlt, fun t u hu => ?_⟩
  rw [hc t (by have h9 := (List.getElem?_eq_some_iff.1 hu).1; simpa [encS] using h9)]
  exact hu
def IsAc (W : World) (cs : List Value) (z : Ac × Value) : Prop := cs = encA z ∧ SlG encS 3 W.heap.size W z.2 z.1.sn ∧ z.1.sn.length ≤ 4398046511104 ∧ z.1.it.size ≤ maxLen
theorem openAcT {H : Type} {enc : TypeId × Value → H} {W : World} {fuel : Nat} {cs : List Value} {x : DataW H × List MemPlace} (h : DataW.trod enc Tryz.prog W 0 (fun _ => true) true fuel 51 cs = some x) (hr : Reach Tryz.prog 51 x.1) : ∃ z : Ac × Value, IsAc W cs z := by
  obtain ⟨y0, y1, y2, y3, y4, y5, y6, y7, n, hx, hl, h0, h1, h2, h3, h4, h5, h6, h7⟩ := trod_struct8 Tryz.underlying51 h
  rw [hx] at hr
  rw [cellsAc] at hl
  match cs, hl with
  | [c0, c1, c2, c3, c4, c5, c6, c7, c8, c9], _ =>
    obtain ⟨z0, z1, z2, n', _, _, g0, g1, g2⟩ := trod_struct3 Tryz.underlying47 h5
    obtain ⟨k0, e0, _⟩ := DataW.trod_int Tryz.underlying3 h0
    obtain ⟨k1, e1, _⟩ := DataW.trod_int Tryz.underlying3 h1
    obtain ⟨s2, e2, f2, _⟩ := DataW.trod_string Tryz.underlying9 h2
    obtain ⟨k3, e3, _⟩ := DataW.trod_int Tryz.underlying3 h3
    obtain ⟨k4, e4, _⟩ := DataW.trod_int Tryz.underlying3 h4
    obtain ⟨s5, e5, _⟩ := DataW.trod_string Tryz.underlying9 g0
    obtain ⟨s6, e6, _⟩ := DataW.trod_string Tryz.underlying9 g1
    obtain ⟨b7, e7, _⟩ := DataW.trod_bool Tryz.underlying4 g2
    obtain ⟨L, v8, e8, hS, hn⟩ := openSws h6 (hr.part Tryz.underlying51 (j := 6) (u := 48) (d := y6.1) rfl rfl)
    obtain ⟨m9, e9, _⟩ := openU h7
    have hs := hr.part Tryz.underlying51 (j := 2) (u := 9) (d := y2.1) rfl rfl
    rw [f2] at hs
    have hs' := hs.str
    simp [cellsI, cellsS, cellsB, cellsRg, cellsU, cellsSS] at e0 e1 e2 e3 e4 e5 e6 e7 e8 e9
    subst e0 e1 e2 e3 e4 e5 e6 e7 e8 e9
    exact ⟨(⟨k0, k1, s2, k3, k4, s5, s6, b7, L, m9⟩, c8), rfl, hS, hn, by
      have h9 : s2.size ≤ reachBytes := by simpa using hs'
      refine Nat.le_trans h9 ?_
      unfold reachBytes maxLen
      omega⟩
theorem openHist {H : Type} {enc : TypeId × Value → H} {W : World} {b0 : Nat} {v : Value} {d : DataW H} {p : List MemPlace}
    (hv : Value.okWide Tryz.prog W .any b0 22 v) (h : DataW.Trod enc Tryz.prog W 0 (fun _ => true) true 22 v d p) (hr : Reach Tryz.prog 22 d) :
    ∃ Z : List (Ac × Value), RdH W.heap.size W v Z ∧ ∀ z ∈ Z, z.1.it.size ≤ maxLen := by
  obtain ⟨a0, len, cap, rfl⟩ := okWide_slice Tryz.underlying22 hv
  obtain ⟨fuel, hf⟩ := h
  obtain ⟨L, q, c, e, hl, hb, hq, he⟩ := openList ((⟨0, 0, ⟨#[]⟩, 0, 0, ⟨#[]⟩, ⟨#[]⟩, false, [], 0⟩, .slice none 0 0) : Ac × Value) (IsAc W) Tryz.underlying22 cellsAc (by decide) (fun n cs y h hr => openAcT h hr) hf hr
  rw [bytesAc] at hb
  simp only [reachBytes] at hb
  simp [Value.cells] at e
  obtain ⟨rfl, rfl, rfl⟩ := e
  have hz : ∀ z ∈ L, SlG encS 3 W.heap.size W z.2 z.1.sn ∧ z.1.sn.length ≤ 4398046511104 ∧ z.1.it.size ≤ maxLen := fun z hz => by
    obtain ⟨i, hi, rfl⟩ := List.getElem_of_mem hz
    obtain ⟨b, o, e, hlt, cs', ⟨_, h1⟩, _, hc⟩ := he i hi
    exact h1
  refine ⟨L, ⟨⟨a0, cap, rfl, hl, hq, fun i hi => ?_⟩, fun z h1 => (hz z h1).1, by omega, fun z h1 => (hz z h1).2.1⟩, fun z h1 => (hz z h1).2.2⟩
  obtain ⟨b, o, e, hlt, cs', ⟨rfl, _⟩, hlen, hc⟩ := he i hi
  refine ⟨b, o, e, hlt, fun t u hu => ?_⟩
  rw [hc t (by have h9 := (List.getElem?_eq_some_iff.1 hu).1; simpa [encA] using h9)]
  exact hu

end Go.Proofs.YtncfejndmlcidaaGreat
