/- What the proofs of this seat share: a text, opened; the table that the rows list; the witness's world. Layer 12: atomic pointers. -/
import Derived.Test.YthpkppfnfbkjoaaDoorCards
import Derived.Test.YthpkppfnfbkjoaaDoorTie
import Derived.Lib.LaidTab
import Derived.Stop.LaidErr
import Derived.WalkLawsBesides
import Derived.JoinedOf
import Derived.Handed
import Derived.Lay
import Derived.SevenTiedAt
import Derived.ChangeMaps5
import Derived.Test.YthpkppfnfbkjoaaDoorGFOpen
import Derived.Test.YthpkppfnfbkjoaaDoorGWHgt
import Derived.Test.YthpkppfnfbkjoaaDoorGMPtr
namespace Go.Proofs.YthpkppfnfbkjoaaDoor
open Go.ChangeShapes Go.WideShapes Go.ChangeAt Go.RowKit Go.Joins Go.Shelf Go.Lib Go.Deep
set_option maxRecDepth 100000

theorem own : ownKnob Tryd.prog.godebug = none := by kernel_rfl
theorem laidOut : laidOutB Tryd.prog = true := by kernel_rfl
theorem openStr {H : Type} {enc : TypeId × Value → H} {W : World} {b0 : Nat} {v : Value} {d : DataW H} {p : List MemPlace}
    (hv : Value.okWide Tryd.prog W .any b0 9 v) (h : DataW.Trod enc Tryd.prog W 0 (fun _ => true) true 9 v d p) (hr : Reach Tryd.prog 9 d) : ∃ s : ByteArray, v = .string s ∧ s.size ≤ 140737488351232 := by
  obtain ⟨s, rfl⟩ := okWide_string Tryd.underlying9 hv
  obtain ⟨fuel, hf⟩ := h
  obtain ⟨s0, e, f0, _⟩ := DataW.trod_string Tryd.underlying9 hf
  simp [Value.cells] at e
  subst e
  rw [(Prod.mk.inj f0).1] at hr
  exact ⟨s, rfl, by simpa [reachBytes] using hr.str⟩

/-- What the rows list. -/
abbrev laidR : List (String × DataW Unit) := Rows.skipHeightsRow.laid
theorem tab_eq : (Rows.laid_math_bits_deBruijn64tab : DataW Unit) = tabData .u8 (Lib.deBruijn64tab.map fun x : Nat => (x : Int)) := by kernel_rfl
theorem tab_of {W : World} (h : laidMetH Tryd.prog laidR W) : Tab W ∧ 0 < W.heap.size := by
  rw [MakeChecks.laidMetH_plain _ _ _ (by kernel_rfl)] at h
  have h1 : laidMet Tryd.prog [("math/bits.deBruijn64tab", tabData .u8 (Lib.deBruijn64tab.map fun x : Nat => (x : Int)))] W := by
    rw [← tab_eq]
    exact h
  have hg : Tryd.prog.globalNamed "math/bits.deBruijn64tab" = some 0 := by kernel_rfl
  have h2 := tabIs_of_head (g := 0) (t := 38) (e := 5) (n := 64) hg (by kernel_rfl) (by kernel_rfl) (by kernel_rfl) (by kernel_rfl) (by kernel_rfl) h1
  have h3 : Tab W := fun j hj => by
    rw [h2.cell hg j (by rw [List.length_map]; exact hj)]
    have : (Lib.deBruijn64tab.map fun x : Nat => (x : Int)).getD j 0 = ((Lib.deBruijn64tab.getD j 0 : Nat) : Int) := by
      rw [List.getD_eq_getElem?_getD, List.getD_eq_getElem?_getD, List.getElem?_map]
      cases Lib.deBruijn64tab[j]? <;> rfl
    rw [this]
  exact ⟨h3, World.block_lt_of_cell? W _ (h3 0 (by decide))⟩
theorem shapedR (os : Os) (args : Array Value) : ((World.laidAll Tryd.prog os laidR).forCall (fun _ _ => 0) ⟨#[], args, []⟩).Shaped Tryd.prog :=
  World.shaped_of_ZipB (by kernel_rfl) (by kernel_rfl)
theorem metR (os : Os) (args : Array Value) : laidMetH Tryd.prog laidR ((World.laidAll Tryd.prog os laidR).forCall (fun _ _ => 0) ⟨#[], args, []⟩).memory := by
  rw [MakeChecks.laidMetH_plain _ _ _ (by kernel_rfl)]
  exact laidMet_laidAll _ (by kernel_rfl) (by kernel_rfl)

end Go.Proofs.YthpkppfnfbkjoaaDoor

namespace Go.Proofs.YthpkppfnfbkjoaaDoor
open Go.RowKit
set_option maxRecDepth 100000

/-- a pointer to nothing, or to a block of a type -/
def PtT (T : TypeId) (n : Nat) (w : World) (x : Option Addr) : Prop := x = none ∨ ∃ g cs, x = some ⟨g, 0, none⟩ ∧ w.heap[g]? = some (.cells cs T (0, 0)) ∧ cs.size = n
theorem PtT.nil (T : TypeId) (n : Nat) (w : World) : PtT T n w none := .inl rfl
theorem PtT.blk {T : TypeId} {n : Nat} {w : World} {g : Nat} {cs : Array Value} (h : w.heap[g]? = some (.cells cs T (0, 0))) (hn : cs.size = n) : PtT T n w (some ⟨g, 0, none⟩) := .inr ⟨g, cs, rfl, h, hn⟩

theorem infoLk : ∃ j, Tryd.prog.info? 95 = some j ∧ j.size ≠ 0 := by
  have h : ((Tryd.prog.info? 95).map (fun i => decide (i.size ≠ 0))) = some true := by kernel_rfl
  obtain ⟨j, hj, h2⟩ := Option.map_eq_some_iff.1 h
  exact ⟨j, hj, by simpa using h2⟩
theorem liesLk : liesAt Tryd.prog Tryd.prog.depth 95 (1 / Tryd.prog.cellsOf 95) 0 95 1 = true := by kernel_rfl
theorem fromLk {w : World} {x : Option Addr} (h : PtT 95 1 w x) : (convert 45 89 (.pointer x)).run Tryd.prog w = .ok (.pointer x) w := by
  rcases h with rfl | ⟨g, cs, rfl, h3, h4⟩
  · exact from_raw_none Tryd.underlying45 Tryd.underlying89
  · obtain ⟨j, hj, _⟩ := infoLk
    exact from_raw ⟨g, 0, none⟩ Tryd.underlying45 Tryd.underlying89 hj (e := 95) (cells := 1) (by simp [World.shape?, h3, h4]) liesLk
theorem toLk {w : World} {x : Option Addr} (h : PtT 95 1 w x) : (convert 89 45 (.pointer x)).run Tryd.prog w = .ok (.pointer x) w := by
  rcases h with rfl | ⟨g, cs, rfl, h3, h4⟩
  · exact to_raw_none Tryd.underlying89 Tryd.underlying45
  · obtain ⟨j, hj, hs⟩ := infoLk
    exact to_raw ⟨g, 0, none⟩ Tryd.underlying89 Tryd.underlying45 hj hs (e := 95) (cells := 1) (by simp [World.shape?, h3, h4]) (show 0 < 1 by decide)

theorem loadLk (b i : Nat) (x : Option Addr) (w : World) (h : w.cell? ⟨b, i, none⟩ = some (.pointer x)) (ht : PtT 95 1 w x) :
    Calls Tryd.prog 54 #[.pointer (some ⟨b, i, none⟩)] w fun e w' => e = .returned (.pointer x) ∧ w' = w := by
  have hl := run_call_loadp (P := Tryd.prog) Tryd.func50 (by kernel_rfl) (by kernel_rfl) (by kernel_rfl) (by kernel_rfl) h
  have hc := fromLk ht
  clear h ht
  go_enter Tryd.func54, Tryd.ntmps54
  go_wp2
  go_ret
  exact ⟨rfl, rfl⟩

theorem casLk (b i : Nat) (x y : Option Addr) (w : World) (h : w.cell? ⟨b, i, none⟩ = some (.pointer x)) (hf : w.frozen? ⟨b, i, none⟩ = false) (ht : PtT 95 1 w x) (hy : PtT 95 1 w y) :
    Calls Tryd.prog 57 #[.pointer (some ⟨b, i, none⟩), .pointer x, .pointer y] w fun e w' => e = .returned (.bool true) ∧ w' = w.setCell ⟨b, i, none⟩ (.pointer y) := by
  have hl := run_call_casp_hit (P := Tryd.prog) Tryd.func55 (by kernel_rfl) (by kernel_rfl) (by kernel_rfl) (by kernel_rfl) (q := y) h hf
  have hc := toLk ht
  have hd := toLk hy
  clear h ht hy hf
  go_enter Tryd.func57, Tryd.ntmps57
  go_wp2
  go_ret
  exact ⟨rfl, rfl⟩

theorem storeLk (b i : Nat) (x y : Option Addr) (w : World) (h : w.cell? ⟨b, i, none⟩ = some (.pointer x)) (hf : w.frozen? ⟨b, i, none⟩ = false) (hy : PtT 95 1 w y) :
    Calls Tryd.prog 26 #[.pointer (some ⟨b, i, none⟩), .pointer y] w fun e w' => e = .returned (.tuple #[]) ∧ w' = w.setCell ⟨b, i, none⟩ (.pointer y) := by
  have hl := run_call_storep (P := Tryd.prog) Tryd.func27 (by kernel_rfl) (by kernel_rfl) (by kernel_rfl) (by kernel_rfl) (q := y) h hf
  have hd := toLk hy
  clear h hy hf
  go_enter Tryd.func26, Tryd.ntmps26
  go_wp2
  refine bodyPost_end (results_none rfl _ _ _) rfl ?_
  exact ⟨rfl, rfl⟩

theorem infoIv : ∃ j, Tryd.prog.info? 2 = some j ∧ j.size ≠ 0 := by
  have h : ((Tryd.prog.info? 2).map (fun i => decide (i.size ≠ 0))) = some true := by kernel_rfl
  obtain ⟨j, hj, h2⟩ := Option.map_eq_some_iff.1 h
  exact ⟨j, hj, by simpa using h2⟩
theorem liesIv : liesAt Tryd.prog Tryd.prog.depth 2 (1 / Tryd.prog.cellsOf 2) 0 2 1 = true := by kernel_rfl
theorem fromIv {w : World} {x : Option Addr} (h : PtT 2 1 w x) : (convert 45 82 (.pointer x)).run Tryd.prog w = .ok (.pointer x) w := by
  rcases h with rfl | ⟨g, cs, rfl, h3, h4⟩
  · exact from_raw_none Tryd.underlying45 Tryd.underlying82
  · obtain ⟨j, hj, _⟩ := infoIv
    exact from_raw ⟨g, 0, none⟩ Tryd.underlying45 Tryd.underlying82 hj (e := 2) (cells := 1) (by simp [World.shape?, h3, h4]) liesIv
theorem toIv {w : World} {x : Option Addr} (h : PtT 2 1 w x) : (convert 82 45 (.pointer x)).run Tryd.prog w = .ok (.pointer x) w := by
  rcases h with rfl | ⟨g, cs, rfl, h3, h4⟩
  · exact to_raw_none Tryd.underlying82 Tryd.underlying45
  · obtain ⟨j, hj, hs⟩ := infoIv
    exact to_raw ⟨g, 0, none⟩ Tryd.underlying82 Tryd.underlying45 hj hs (e := 2) (cells := 1) (by simp [World.shape?, h3, h4]) (show 0 < 1 by decide)

theorem loadIv (b i : Nat) (x : Option Addr) (w : World) (h : w.cell? ⟨b, i, none⟩ = some (.pointer x)) (ht : PtT 2 1 w x) :
    Calls Tryd.prog 36 #[.pointer (some ⟨b, i, none⟩)] w fun e w' => e = .returned (.pointer x) ∧ w' = w := by
  have hl := run_call_loadp (P := Tryd.prog) Tryd.func50 (by kernel_rfl) (by kernel_rfl) (by kernel_rfl) (by kernel_rfl) h
  have hc := fromIv ht
  clear h ht
  go_enter Tryd.func36, Tryd.ntmps36
  go_wp2
  go_ret
  exact ⟨rfl, rfl⟩

theorem casIv (b i : Nat) (x y : Option Addr) (w : World) (h : w.cell? ⟨b, i, none⟩ = some (.pointer x)) (hf : w.frozen? ⟨b, i, none⟩ = false) (ht : PtT 2 1 w x) (hy : PtT 2 1 w y) :
    Calls Tryd.prog 58 #[.pointer (some ⟨b, i, none⟩), .pointer x, .pointer y] w fun e w' => e = .returned (.bool true) ∧ w' = w.setCell ⟨b, i, none⟩ (.pointer y) := by
  have hl := run_call_casp_hit (P := Tryd.prog) Tryd.func55 (by kernel_rfl) (by kernel_rfl) (by kernel_rfl) (by kernel_rfl) (q := y) h hf
  have hc := toIv ht
  have hd := toIv hy
  clear h ht hy hf
  go_enter Tryd.func58, Tryd.ntmps58
  go_wp2
  go_ret
  exact ⟨rfl, rfl⟩

theorem storeIv (b i : Nat) (x y : Option Addr) (w : World) (h : w.cell? ⟨b, i, none⟩ = some (.pointer x)) (hf : w.frozen? ⟨b, i, none⟩ = false) (hy : PtT 2 1 w y) :
    Calls Tryd.prog 51 #[.pointer (some ⟨b, i, none⟩), .pointer y] w fun e w' => e = .returned (.tuple #[]) ∧ w' = w.setCell ⟨b, i, none⟩ (.pointer y) := by
  have hl := run_call_storep (P := Tryd.prog) Tryd.func27 (by kernel_rfl) (by kernel_rfl) (by kernel_rfl) (by kernel_rfl) (q := y) h hf
  have hd := toIv hy
  clear h hy hf
  go_enter Tryd.func51, Tryd.ntmps51
  go_wp2
  refine bodyPost_end (results_none rfl _ _ _) rfl ?_
  exact ⟨rfl, rfl⟩

theorem infoSt : ∃ j, Tryd.prog.info? 61 = some j ∧ j.size ≠ 0 := by
  have h : ((Tryd.prog.info? 61).map (fun i => decide (i.size ≠ 0))) = some true := by kernel_rfl
  obtain ⟨j, hj, h2⟩ := Option.map_eq_some_iff.1 h
  exact ⟨j, hj, by simpa using h2⟩
theorem liesSt : liesAt Tryd.prog Tryd.prog.depth 61 (5 / Tryd.prog.cellsOf 61) 0 61 1 = true := by kernel_rfl
theorem fromSt {w : World} {x : Option Addr} (h : PtT 61 5 w x) : (convert 45 41 (.pointer x)).run Tryd.prog w = .ok (.pointer x) w := by
  rcases h with rfl | ⟨g, cs, rfl, h3, h4⟩
  · exact from_raw_none Tryd.underlying45 Tryd.underlying41
  · obtain ⟨j, hj, _⟩ := infoSt
    exact from_raw ⟨g, 0, none⟩ Tryd.underlying45 Tryd.underlying41 hj (e := 61) (cells := 5) (by simp [World.shape?, h3, h4]) liesSt
theorem toSt {w : World} {x : Option Addr} (h : PtT 61 5 w x) : (convert 41 45 (.pointer x)).run Tryd.prog w = .ok (.pointer x) w := by
  rcases h with rfl | ⟨g, cs, rfl, h3, h4⟩
  · exact to_raw_none Tryd.underlying41 Tryd.underlying45
  · obtain ⟨j, hj, hs⟩ := infoSt
    exact to_raw ⟨g, 0, none⟩ Tryd.underlying41 Tryd.underlying45 hj hs (e := 61) (cells := 5) (by simp [World.shape?, h3, h4]) (show 0 < 5 by decide)

theorem loadSt (b i : Nat) (x : Option Addr) (w : World) (h : w.cell? ⟨b, i, none⟩ = some (.pointer x)) (ht : PtT 61 5 w x) :
    Calls Tryd.prog 24 #[.pointer (some ⟨b, i, none⟩)] w fun e w' => e = .returned (.pointer x) ∧ w' = w := by
  have hl := run_call_loadp (P := Tryd.prog) Tryd.func50 (by kernel_rfl) (by kernel_rfl) (by kernel_rfl) (by kernel_rfl) h
  have hc := fromSt ht
  clear h ht
  go_enter Tryd.func24, Tryd.ntmps24
  go_wp2
  go_ret
  exact ⟨rfl, rfl⟩

theorem casSt (b i : Nat) (x y : Option Addr) (w : World) (h : w.cell? ⟨b, i, none⟩ = some (.pointer x)) (hf : w.frozen? ⟨b, i, none⟩ = false) (ht : PtT 61 5 w x) (hy : PtT 61 5 w y) :
    Calls Tryd.prog 41 #[.pointer (some ⟨b, i, none⟩), .pointer x, .pointer y] w fun e w' => e = .returned (.bool true) ∧ w' = w.setCell ⟨b, i, none⟩ (.pointer y) := by
  have hl := run_call_casp_hit (P := Tryd.prog) Tryd.func55 (by kernel_rfl) (by kernel_rfl) (by kernel_rfl) (by kernel_rfl) (q := y) h hf
  have hc := toSt ht
  have hd := toSt hy
  clear h ht hy hf
  go_enter Tryd.func41, Tryd.ntmps41
  go_wp2
  go_ret
  exact ⟨rfl, rfl⟩

theorem storeSt (b i : Nat) (x y : Option Addr) (w : World) (h : w.cell? ⟨b, i, none⟩ = some (.pointer x)) (hf : w.frozen? ⟨b, i, none⟩ = false) (hy : PtT 61 5 w y) :
    Calls Tryd.prog 13 #[.pointer (some ⟨b, i, none⟩), .pointer y] w fun e w' => e = .returned (.tuple #[]) ∧ w' = w.setCell ⟨b, i, none⟩ (.pointer y) := by
  have hl := run_call_storep (P := Tryd.prog) Tryd.func27 (by kernel_rfl) (by kernel_rfl) (by kernel_rfl) (by kernel_rfl) (q := y) h hf
  have hd := toSt hy
  clear h hy hf
  go_enter Tryd.func13, Tryd.ntmps13
  go_wp2
  refine bodyPost_end (results_none rfl _ _ _) rfl ?_
  exact ⟨rfl, rfl⟩

theorem infoCh : ∃ j, Tryd.prog.info? 78 = some j ∧ j.size ≠ 0 := by
  have h : ((Tryd.prog.info? 78).map (fun i => decide (i.size ≠ 0))) = some true := by kernel_rfl
  obtain ⟨j, hj, h2⟩ := Option.map_eq_some_iff.1 h
  exact ⟨j, hj, by simpa using h2⟩
theorem liesCh : liesAt Tryd.prog Tryd.prog.depth 78 (5 / Tryd.prog.cellsOf 78) 0 78 1 = true := by kernel_rfl
theorem fromCh {w : World} {x : Option Addr} (h : PtT 78 5 w x) : (convert 45 53 (.pointer x)).run Tryd.prog w = .ok (.pointer x) w := by
  rcases h with rfl | ⟨g, cs, rfl, h3, h4⟩
  · exact from_raw_none Tryd.underlying45 Tryd.underlying53
  · obtain ⟨j, hj, _⟩ := infoCh
    exact from_raw ⟨g, 0, none⟩ Tryd.underlying45 Tryd.underlying53 hj (e := 78) (cells := 5) (by simp [World.shape?, h3, h4]) liesCh
theorem toCh {w : World} {x : Option Addr} (h : PtT 78 5 w x) : (convert 53 45 (.pointer x)).run Tryd.prog w = .ok (.pointer x) w := by
  rcases h with rfl | ⟨g, cs, rfl, h3, h4⟩
  · exact to_raw_none Tryd.underlying53 Tryd.underlying45
  · obtain ⟨j, hj, hs⟩ := infoCh
    exact to_raw ⟨g, 0, none⟩ Tryd.underlying53 Tryd.underlying45 hj hs (e := 78) (cells := 5) (by simp [World.shape?, h3, h4]) (show 0 < 5 by decide)

theorem loadCh (b i : Nat) (x : Option Addr) (w : World) (h : w.cell? ⟨b, i, none⟩ = some (.pointer x)) (ht : PtT 78 5 w x) :
    Calls Tryd.prog 45 #[.pointer (some ⟨b, i, none⟩)] w fun e w' => e = .returned (.pointer x) ∧ w' = w := by
  have hl := run_call_loadp (P := Tryd.prog) Tryd.func50 (by kernel_rfl) (by kernel_rfl) (by kernel_rfl) (by kernel_rfl) h
  have hc := fromCh ht
  clear h ht
  go_enter Tryd.func45, Tryd.ntmps45
  go_wp2
  go_ret
  exact ⟨rfl, rfl⟩

theorem casCh (b i : Nat) (x y : Option Addr) (w : World) (h : w.cell? ⟨b, i, none⟩ = some (.pointer x)) (hf : w.frozen? ⟨b, i, none⟩ = false) (ht : PtT 78 5 w x) (hy : PtT 78 5 w y) :
    Calls Tryd.prog 46 #[.pointer (some ⟨b, i, none⟩), .pointer x, .pointer y] w fun e w' => e = .returned (.bool true) ∧ w' = w.setCell ⟨b, i, none⟩ (.pointer y) := by
  have hl := run_call_casp_hit (P := Tryd.prog) Tryd.func55 (by kernel_rfl) (by kernel_rfl) (by kernel_rfl) (by kernel_rfl) (q := y) h hf
  have hc := toCh ht
  have hd := toCh hy
  clear h ht hy hf
  go_enter Tryd.func46, Tryd.ntmps46
  go_wp2
  go_ret
  exact ⟨rfl, rfl⟩

theorem storeCh (b i : Nat) (x y : Option Addr) (w : World) (h : w.cell? ⟨b, i, none⟩ = some (.pointer x)) (hf : w.frozen? ⟨b, i, none⟩ = false) (hy : PtT 78 5 w y) :
    Calls Tryd.prog 28 #[.pointer (some ⟨b, i, none⟩), .pointer y] w fun e w' => e = .returned (.tuple #[]) ∧ w' = w.setCell ⟨b, i, none⟩ (.pointer y) := by
  have hl := run_call_storep (P := Tryd.prog) Tryd.func27 (by kernel_rfl) (by kernel_rfl) (by kernel_rfl) (by kernel_rfl) (q := y) h hf
  have hd := toCh hy
  clear h hy hf
  go_enter Tryd.func28, Tryd.ntmps28
  go_wp2
  refine bodyPost_end (results_none rfl _ _ _) rfl ?_
  exact ⟨rfl, rfl⟩

end Go.Proofs.YthpkppfnfbkjoaaDoor
