/- Layer 13: atomic pointers to a line; rows of tickets and of takers; takers in memory. -/
import Derived.Test.YtcdamalpecedcaaGreatMGap
import Derived.Test.YtcdamalpecedcaaGreatMOwG
import Derived.Test.YtcdamalpecedcaaGreatMDag
import Derived.Test.YtcdamalpecedcaaGreatWQuiet
namespace Go.Proofs.YtcdamalpecedcaaGreat
open Go.RowKit
set_option maxRecDepth 100000

/-- a pointer to nothing, or to a block of a type -/
def PtT (T : TypeId) (n : Nat) (w : World) (x : Option Addr) : Prop := x = none ∨ ∃ g cs, x = some ⟨g, 0, none⟩ ∧ w.heap[g]? = some (.cells cs T (0, 0)) ∧ cs.size = n
theorem PtT.nil (T : TypeId) (n : Nat) (w : World) : PtT T n w none := .inl rfl
theorem PtT.blk {T : TypeId} {n : Nat} {w : World} {g : Nat} {cs : Array Value} (h : w.heap[g]? = some (.cells cs T (0, 0))) (hn : cs.size = n) : PtT T n w (some ⟨g, 0, none⟩) := .inr ⟨g, cs, rfl, h, hn⟩

theorem infoLn : ∃ j, Tryz.prog.info? 68 = some j ∧ j.size ≠ 0 := by
  have h : ((Tryz.prog.info? 68).map (fun i => decide (i.size ≠ 0))) = some true := by kernel_rfl
  obtain ⟨j, hj, h2⟩ := Option.map_eq_some_iff.1 h
  exact ⟨j, hj, by simpa using h2⟩
theorem liesLn : liesAt Tryz.prog Tryz.prog.depth 68 (2 / Tryz.prog.cellsOf 68) 0 68 1 = true := by kernel_rfl
theorem fromLn {w : World} {x : Option Addr} (h : PtT 68 2 w x) : (convert 60 56 (.pointer x)).run Tryz.prog w = .ok (.pointer x) w := by
  rcases h with rfl | ⟨g, cs, rfl, h3, h4⟩
  · exact from_raw_none Tryz.underlying60 Tryz.underlying56
  · obtain ⟨j, hj, _⟩ := infoLn
    exact from_raw ⟨g, 0, none⟩ Tryz.underlying60 Tryz.underlying56 hj (e := 68) (cells := 2) (by simp [World.shape?, h3, h4]) liesLn
theorem toLn {w : World} {x : Option Addr} (h : PtT 68 2 w x) : (convert 56 60 (.pointer x)).run Tryz.prog w = .ok (.pointer x) w := by
  rcases h with rfl | ⟨g, cs, rfl, h3, h4⟩
  · exact to_raw_none Tryz.underlying56 Tryz.underlying60
  · obtain ⟨j, hj, hs⟩ := infoLn
    exact to_raw ⟨g, 0, none⟩ Tryz.underlying56 Tryz.underlying60 hj hs (e := 68) (cells := 2) (by simp [World.shape?, h3, h4]) (show 0 < 2 by decide)

theorem loadLn (b i : Nat) (x : Option Addr) (w : World) (h : w.cell? ⟨b, i, none⟩ = some (.pointer x)) (ht : PtT 68 2 w x) :
    Calls Tryz.prog 24 #[.pointer (some ⟨b, i, none⟩)] w fun e w' => e = .returned (.pointer x) ∧ w' = w := by
  have hl := run_call_loadp (P := Tryz.prog) Tryz.func38 (by kernel_rfl) (by kernel_rfl) (by kernel_rfl) (by kernel_rfl) h
  have hc := fromLn ht
  clear h ht
  go_enter Tryz.func24, Tryz.ntmps24
  go_wp2
  go_ret
  exact ⟨rfl, rfl⟩

theorem casLn (b i : Nat) (x y : Option Addr) (w : World) (h : w.cell? ⟨b, i, none⟩ = some (.pointer x)) (hf : w.frozen? ⟨b, i, none⟩ = false) (ht : PtT 68 2 w x) (hy : PtT 68 2 w y) :
    Calls Tryz.prog 29 #[.pointer (some ⟨b, i, none⟩), .pointer x, .pointer y] w fun e w' => e = .returned (.bool true) ∧ w' = w.setCell ⟨b, i, none⟩ (.pointer y) := by
  have hl := run_call_casp_hit (P := Tryz.prog) Tryz.func43 (by kernel_rfl) (by kernel_rfl) (by kernel_rfl) (by kernel_rfl) (q := y) h hf
  have hc := toLn ht
  have hd := toLn hy
  clear h ht hy hf
  go_enter Tryz.func29, Tryz.ntmps29
  go_wp2
  go_ret
  exact ⟨rfl, rfl⟩

theorem storeLn (b i : Nat) (x y : Option Addr) (w : World) (h : w.cell? ⟨b, i, none⟩ = some (.pointer x)) (hf : w.frozen? ⟨b, i, none⟩ = false) (hy : PtT 68 2 w y) :
    Calls Tryz.prog 18 #[.pointer (some ⟨b, i, none⟩), .pointer y] w fun e w' => e = .returned (.tuple #[]) ∧ w' = w.setCell ⟨b, i, none⟩ (.pointer y) := by
  have hl := run_call_storep (P := Tryz.prog) Tryz.func35 (by kernel_rfl) (by kernel_rfl) (by kernel_rfl) (by kernel_rfl) (q := y) h hf
  have hd := toLn hy
  clear h hy hf
  go_enter Tryz.func18, Tryz.ntmps18
  go_wp2
  refine bodyPost_end (results_none rfl _ _ _) rfl ?_
  exact ⟨rfl, rfl⟩









theorem info_u64 : (Tryz.prog.info? 26).map (fun i => (i.zero, i.size, i.bytes)) = some (some (.int .u64 0), 1, 8) := by kernel_rfl
theorem info_ptk : (Tryz.prog.info? 77).map (fun i => (i.zero, i.size, i.bytes)) = some (some (.pointer none), 1, 8) := by kernel_rfl
/-- a row of tickets -/
def tkV (n : Nat) : Value := .int .u64 (n : Nat)
abbrev OwnU (w : World) (B : Nat) (v : Value) (A : List Nat) : Prop := w.ownsRow B 26 1 v A.length (A.map tkV)
/-- a row of pointers to takers -/
abbrev OwnT (w : World) (B : Nat) (v : Value) (P : List Nat) : Prop := w.ownsRow B 77 1 v P.length (P.map ptr1)
theorem OwnU.at {w : World} {B : Nat} {v : Value} {A : List Nat} (h : OwnU w B v A) : ∃ p c, v = .slice p A.length c ∧ ∀ i (hi : i < A.length), ∃ g, p = some ⟨g, 0, none⟩ ∧ g < w.heap.size ∧ w.cell? ⟨g, i, none⟩ = some (.int .u64 (A[i] : Nat)) := by
  obtain ⟨p, c, rfl, -⟩ := owns_len h
  refine ⟨p, c, rfl, fun i hi => ?_⟩
  obtain ⟨g, cap, e, -, hg⟩ := owns_form h (by omega)
  cases e
  have h1 := World.ownsRow.cellAt h i (by omega)
  rw [List.getElem?_map, List.getElem?_eq_getElem hi] at h1
  exact ⟨g, rfl, hg, h1⟩
theorem OwnT.at {w : World} {B : Nat} {v : Value} {P : List Nat} (h : OwnT w B v P) : ∃ p c, v = .slice p P.length c ∧ ∀ i (hi : i < P.length), ∃ g, p = some ⟨g, 0, none⟩ ∧ g < w.heap.size ∧ w.cell? ⟨g, i, none⟩ = some (ptr1 P[i]) := by
  obtain ⟨p, c, rfl, -⟩ := owns_len h
  refine ⟨p, c, rfl, fun i hi => ?_⟩
  obtain ⟨g, cap, e, -, hg⟩ := owns_form h (by omega)
  cases e
  have h1 := World.ownsRow.cellAt h i (by omega)
  rw [List.getElem?_map, List.getElem?_eq_getElem hi] at h1
  exact ⟨g, rfl, hg, h1⟩
end Go.Proofs.YtcdamalpecedcaaGreat
