/- What the proofs of this seat share: acts, opened; the table that the rows list; the witness's world. -/
import Derived.Test.YtcibcfghkidncaaGreatDoorCards
import Derived.Test.YtcibcfghkidncaaGreatDoorTie
import Derived.Lib.LaidTab
import Derived.Stop.LaidErr
import Derived.WalkLawsBesides
import Derived.Lay
import Derived.SevenTiedAt
import Derived.ChangeMaps5
import Derived.Test.YtcibcfghkidncaaGreatDoorGFChn8
import Derived.Test.YtcibcfghkidncaaGreatDoorGWLw22
namespace Go.Proofs.YtcibcfghkidncaaGreatDoor
open Go.ChangeShapes Go.WideShapes Go.ChangeAt Go.RowKit Go.Joins Go.Shelf Go.Lib Go.Deep
set_option maxRecDepth 100000

section
variable {H : Type} {enc : TypeId × Value → H} {P : Program}
theorem trod_struct6 {w : World} {base : Nat} {spare : Nat → Bool} {held : Bool} {t : TypeId} {f0 f1 f2 f3 f4 f5 : Field} {fuel : Nat} {cs : List Value} {x : DataW H × List MemPlace} (ht : P.underlying t = some (.struct #[f0, f1, f2, f3, f4, f5])) (h : DataW.trod enc P w base spare held fuel t cs = some x) :
  ∃ y0 y1 y2 y3 y4 y5 n, x.1 = .agg [y0.1, y1.1, y2.1, y3.1, y4.1, y5.1] ∧ cs.length = P.cellsOf t ∧ DataW.trod enc P w base spare held n f0.type ((cs.drop f0.offset).take (P.cellsOf f0.type)) = some y0 ∧
   DataW.trod enc P w base spare held n f1.type ((cs.drop f1.offset).take (P.cellsOf f1.type)) = some y1 ∧ DataW.trod enc P w base spare held n f2.type ((cs.drop f2.offset).take (P.cellsOf f2.type)) = some y2 ∧
   DataW.trod enc P w base spare held n f3.type ((cs.drop f3.offset).take (P.cellsOf f3.type)) = some y3 ∧ DataW.trod enc P w base spare held n f4.type ((cs.drop f4.offset).take (P.cellsOf f4.type)) = some y4 ∧ DataW.trod enc P w base spare held n f5.type ((cs.drop f5.offset).take (P.cellsOf f5.type)) = some y5 := by
 obtain ⟨xs, n, _, rfl, hl, hlen, hf⟩ := DataW.trod_struct ht h
 match xs, hlen with
 | [y0, y1, y2, y3, y4, y5], _ => exact ⟨y0, y1, y2, y3, y4, y5, n, by simp, hl, by simpa using hf 0 f0 rfl, by simpa using hf 1 f1 rfl, by simpa using hf 2 f2 rfl, by simpa using hf 3 f3 rfl, by simpa using hf 4 f4 rfl, by simpa using hf 5 f5 rfl⟩
end
theorem cellsAct : Tryz.prog.cellsOf 41 = 8 := by kernel_rfl
theorem bytesAct : Tryz.prog.bytesOf 41 = 80 := by kernel_rfl
theorem wf_u64 {k : Int} (h : (Lit.int .u64 k).wf = true) : 0 ≤ k := by
 simp only [Lit.wf, Bool.and_eq_true, decide_eq_true_eq] at h
 exact h.1
def IsAc (W : World) (cs : List Value) (a : AcR) : Prop := ∃ q c, cs = [.int .i64 a.k, .int .i64 a.sl, .int .i64 a.tx, .int .i64 a.v.n, .bool a.v.gn, .slice q a.v.row.length c, .int .u64 a.st, .int .i64 a.lv] ∧ RowV W W.heap.size q a.v.row ∧ (q = none → c = 0) ∧ a.ok
theorem openAct {H : Type} {enc : TypeId × Value → H} {W : World} {fuel : Nat} {cs : List Value} {x : DataW H × List MemPlace} (h : DataW.trod enc Tryz.prog W 0 (fun _ => true) true fuel 41 cs = some x) (hr : Reach Tryz.prog 41 x.1) : ∃ a : AcR, IsAc W cs a := by
 obtain ⟨y0, y1, y2, y3, y4, y5, n, hx, hl, h0, h1, h2, h3, h4, h5⟩ := trod_struct6 Tryz.underlying41 h
 rw [hx] at hr
 rw [cellsAct] at hl
 match cs, hl with
 | [c0, c1, c2, c3, c4, c5, c6, c7], _ =>
  obtain ⟨k0, e0, _⟩ := DataW.trod_int Tryz.underlying3 h0
  obtain ⟨k1, e1, _⟩ := DataW.trod_int Tryz.underlying3 h1
  obtain ⟨k2, e2, _, w2⟩ := DataW.trod_int Tryz.underlying3 h2
  obtain ⟨r, ⟨qr, cr, e3, hRr, hlr, hqr⟩, _⟩ := openWri h3 (hr.part Tryz.underlying41 (j := 3) (u := 38) (d := y3.1) rfl rfl)
  obtain ⟨k4, e4, _, w4⟩ := DataW.trod_int Tryz.underlying39 h4
  obtain ⟨k5, e5, _, w5⟩ := DataW.trod_int Tryz.underlying3 h5
  simp [cellsI, cellsU, cellsWri] at e0 e1 e2 e3 e4 e5
  obtain ⟨rfl, rfl, rfl⟩ := e3
  subst e0 e1 e2 e4 e5
  have g2 := wf_i64 w2
  exact ⟨⟨k0, k1, k2, r, k4, k5⟩, qr, cr, rfl, hRr, hqr, ⟨hlr, g2.1, show k2 < 9223372036854775808 by omega, (wf_i64 w5).2, wf_u64 w4⟩⟩
theorem openActs {H : Type} {enc : TypeId × Value → H} {W : World} {b0 : Nat} {v : Value} {d : DataW H} {p : List MemPlace}
  (hv : Value.okWide Tryz.prog W .any b0 22 v) (h : DataW.Trod enc Tryz.prog W 0 (fun _ => true) true 22 v d p) (hr : Reach Tryz.prog 22 d) :
  ∃ (A : List AcR) (q : Option Addr) (c : Nat), v = .slice q A.length c ∧ RdA W W.heap.size q A ∧ (∀ a ∈ A, a.ok) ∧ A.length ≤ 1759218604442 := by
 obtain ⟨a0, len, cap, rfl⟩ := okWide_slice Tryz.underlying22 hv
 obtain ⟨fuel, hf⟩ := h
 obtain ⟨L, q, c, e, hl, hb, hq, he⟩ := openList (⟨0, 0, 0, ⟨0, false, []⟩, 0, 0⟩ : AcR) (IsAc W) Tryz.underlying22 cellsAct (by decide) (fun n cs y h hr => openAct h hr) hf hr
 rw [bytesAct] at hb
 simp only [reachBytes] at hb
 simp [Value.cells] at e
 obtain ⟨rfl, rfl, rfl⟩ := e
 refine ⟨L, a0, cap, rfl, fun i hi => ?_, fun a ha => ?_, by omega⟩
 ·obtain ⟨b, o, e, hlt, cs', ⟨q', c', rfl, hR, hq', _⟩, _, hc⟩ := he i hi
  exact ⟨b, o, q', c', e, hlt, ⟨hc 0 (by decide), hc 1 (by decide), hc 2 (by decide), hc 3 (by decide), hc 4 (by decide), hc 5 (by decide), hc 6 (by decide), hc 7 (by decide)⟩, hR, hq'⟩
 ·obtain ⟨i, hi, rfl⟩ := List.getElem_of_mem ha
  obtain ⟨_, _, _, _, _, ⟨_, _, _, _, _, hok⟩, _⟩ := he i hi
  exact hok
abbrev laidR : List (String × DataW Unit) := Rows.storePlaysRow.laid
theorem tab_eq : (Rows.laid_math_bits_deBruijn64tab : DataW Unit) = tabData .u8 (Lib.deBruijn64tab.map fun x : Nat => (x : Int)) := by kernel_rfl
theorem tab_of {W : World} (h : laidMetH Tryz.prog laidR W) : Tab W ∧ 1 < W.heap.size := by
 rw [MakeChecks.laidMetH_plain _ _ _ (by kernel_rfl)] at h
 have h1 : laidMet Tryz.prog [("math/bits.deBruijn64tab", tabData .u8 (Lib.deBruijn64tab.map fun x : Nat => (x : Int)))] W := by
  rw [← tab_eq]
  exact h
 have hg : Tryz.prog.globalNamed "math/bits.deBruijn64tab" = some 1 := by kernel_rfl
 have h2 := tabIs_of_head (g := 1) (t := 219) (e := 5) (n := 64) hg (by kernel_rfl) (by kernel_rfl) (by kernel_rfl) (by kernel_rfl) (by kernel_rfl) h1
 have h3 : Tab W := fun j hj => by
  rw [h2.cell hg j (by rw [List.length_map]; exact hj)]
  have : (Lib.deBruijn64tab.map fun x : Nat => (x : Int)).getD j 0 = ((Lib.deBruijn64tab.getD j 0 : Nat) : Int) := by
   rw [List.getD_eq_getElem?_getD, List.getD_eq_getElem?_getD, List.getElem?_map]
   cases Lib.deBruijn64tab[j]? <;> rfl
  rw [this]
 exact ⟨h3, World.block_lt_of_cell? W _ (h3 0 (by decide))⟩
theorem shapedR (os : Os) (args : Array Value) : ((World.laidAll Tryz.prog os laidR).forCall (fun _ _ => 0) ⟨#[], args, []⟩).Shaped Tryz.prog :=
 World.shaped_of_ZipB (by kernel_rfl) (by kernel_rfl)
theorem metR (os : Os) (args : Array Value) : laidMetH Tryz.prog laidR ((World.laidAll Tryz.prog os laidR).forCall (fun _ _ => 0) ⟨#[], args, []⟩).memory := by
 rw [MakeChecks.laidMetH_plain _ _ _ (by kernel_rfl)]
 exact laidMet_laidAll _ (by kernel_rfl) (by kernel_rfl)

end Go.Proofs.YtcibcfghkidncaaGreatDoor
