/- What the proofs of this seat share: lists of values opened, the library's tables, the witness's world. The walk of awake: the key of the int 1 is as it must be. The walks of Begins, From and To, and of the document's answers for them. -/
import Derived.Test.YtcjpindbplppgaaDoorRows
import Derived.WalkKit
import Derived.ProofKit
import Derived.OpenShut
import Derived.Lib.SmallJoins
import Derived.Lib.LaidTab
import Derived.Stop.LaidErr
import Derived.WalkLawsBesides
import Derived.Lay
import Derived.SevenTiedAt
import Derived.Deep.Slices
import Derived.SizedLaws
import Derived.Carry
import Derived.ChangeMaps5
import Derived.Test.YtcjpindbplppgaaDoorGWEncE
namespace Go.Proofs.YtcjpindbplppgaaDoor
open Go.ChangeShapes Go.WideShapes Go.ChangeAt Go.RowKit Go.Joins Go.Shelf Go.Lib Go.Deep
set_option maxRecDepth 100000

theorem own : ownKnob Tryd.prog.godebug = none := by kernel_rfl
theorem laidOut : laidOutB Tryd.prog = true := by kernel_rfl
theorem cellsV : Tryd.prog.cellsOf 32 = 4 := by kernel_rfl
theorem bytesV : Tryd.prog.bytesOf 32 = 40 := by kernel_rfl

section
variable {H : Type} {enc : TypeId × Value → H} {P : Program} {w : World} {base : Nat} {spare : Nat → Bool} {held : Bool} {fuel : Nat} {t : TypeId} {cs : List Value} {x : DataW H × List MemPlace}
theorem trod_float {k : FloatKind} (ht : P.underlying t = some (.float k)) (h : DataW.trod enc P w base spare held fuel t cs = some x) : ∃ b, cs = [.float k b] ∧ x = (.lit (.float k b), []) ∧ (Lit.float k b).wf = true := by
  cases fuel with
  | zero => simp [DataW.trod] at h
  | succ n =>
    unfold DataW.trod at h
    rw [ht] at h
    split at h <;> simp_all
end

theorem wf_i64 {k : Int} (h : (Lit.int .i64 k).wf = true) : -9223372036854775808 ≤ k ∧ k ≤ 9223372036854775807 := by
  simp only [Lit.wf, Bool.and_eq_true, decide_eq_true_eq] at h
  exact h
theorem wf_f64 {f : Nat} (h : (Lit.float .f64 f).wf = true) : f < 18446744073709551616 := by
  simp only [Lit.wf, decide_eq_true_eq] at h
  exact h

/-- one value among cells -/
theorem openCells {H : Type} {enc : TypeId × Value → H} {W : World} {base : Nat} {spare : Nat → Bool} {held : Bool} {fuel : Nat} {cs : List Value} {x : DataW H × List MemPlace}
    (h : DataW.trod enc Tryd.prog W base spare held fuel 32 cs = some x) : ∃ v : Vl, cs = [.int .i64 v.k, .int .i64 v.n, .float .f64 v.f, .string v.s] ∧ v.ok := by
  obtain ⟨y0, y1, y2, y3, n, _, hl, h0, h1, h2, h3⟩ := trod_struct4 Tryd.underlying32 h
  rw [cellsV] at hl
  match cs, hl with
  | [c0, c1, c2, c3], _ =>
    obtain ⟨k, e0, _, w0⟩ := DataW.trod_int Tryd.underlying3 h0
    obtain ⟨m, e1, _, w1⟩ := DataW.trod_int Tryd.underlying2 h1
    obtain ⟨f, e2, _, w2⟩ := trod_float Tryd.underlying30 h2
    obtain ⟨s, e3, _, w3⟩ := DataW.trod_string Tryd.underlying9 h3
    have z1 : Tryd.prog.cellsOf 3 = 1 := by kernel_rfl
    have z2 : Tryd.prog.cellsOf 2 = 1 := by kernel_rfl
    have z3 : Tryd.prog.cellsOf 30 = 1 := by kernel_rfl
    have z4 : Tryd.prog.cellsOf 9 = 1 := by kernel_rfl
    simp [z1, z2, z3, z4] at e0 e1 e2 e3
    subst e0 e1 e2 e3
    exact ⟨⟨k, m, f, s⟩, rfl, wf_i64 w0, wf_i64 w1, wf_f64 w2, by unfold maxLen at w3; exact w3⟩

theorem add_at (b o n : Nat) : (⟨b, o, none⟩ : Addr).add n = ⟨b, o + n, none⟩ := by
  unfold Addr.add; split <;> simp_all

/-- A LIST OF VALUES, OPENED. -/
theorem openVs {H : Type} {enc : TypeId × Value → H} {W : World} {b0 : Nat} {v : Value} {d : DataW H} {p : List MemPlace}
    (hv : Value.okWide Tryd.prog W .any b0 22 v) (h : DataW.Trod enc Tryd.prog W 0 (fun _ => true) true 22 v d p) :
    ∃ (L : List Vl) (q : Option Addr) (c : Nat), v = .slice q L.length c ∧ RowV W W.heap.size q L ∧ (∀ u ∈ L, u.ok) ∧ L.length ≤ c ∧ (d = .nil ∧ L = [] ∨ ∃ elems spare, d = .slice elems spare ∧ elems.length = L.length) := by
  obtain ⟨a0, len, cap, rfl⟩ := okWide_slice Tryd.underlying22 hv
  obtain ⟨fuel, hf⟩ := h
  rcases open_slice Tryd.underlying22 hf with ⟨hcs, hx⟩ | ⟨a, len', cap', m, n, D, Pl, hcs, _, hl, hm, hmm, hx, hel⟩
  · simp [Value.cells] at hcs
    obtain ⟨rfl, rfl, rfl⟩ := hcs
    simp only [Prod.mk.injEq] at hx
    exact ⟨[], none, 0, rfl, fun i hi => absurd hi (by simp), (fun u hu => by cases hu), Nat.le_refl _, .inl ⟨hx.1, rfl⟩⟩
  · simp [Value.cells] at hcs
    obtain ⟨rfl, rfl, rfl⟩ := hcs
    simp only [Prod.mk.injEq, if_true] at hx hmm
    have hlm : len ≤ m := by omega
    have each : ∀ i, i < len → ∃ u : Vl, u.ok ∧ W.cells? 0 (a.add (i * 4)) 4 = some [.int .i64 u.k, .int .i64 u.n, .float .f64 u.f, .string u.s] := by
      intro i hi
      obtain ⟨cs', h1, h2⟩ := hel i (by omega)
      rw [cellsV] at h1
      obtain ⟨u, rfl, hu⟩ := openCells h2
      exact ⟨u, hu, h1⟩
    obtain ⟨U, hU⟩ : ∃ U : Nat → Vl, ∀ i, i < len → (U i).ok ∧ W.cells? 0 (a.add (i * 4)) 4 = some [.int .i64 (U i).k, .int .i64 (U i).n, .float .f64 (U i).f, .string (U i).s] := by
      refine ⟨fun i => if hi : i < len then (each i hi).choose else ⟨0, 0, 0, ⟨#[]⟩⟩, fun i hi => ?_⟩
      simp only [hi, dif_pos]
      exact (each i hi).choose_spec
    refine ⟨(List.range len).map U, some a, cap, by simp, ?_, ?_, by simpa using hl, .inr ⟨_, _, hx.1, by simp⟩⟩
    · intro i hi
      have hi' : i < len := by simpa using hi
      obtain ⟨_, hc⟩ := hU i hi'
      obtain ⟨_, _, hcell⟩ := World.cells?_some hc
      obtain ⟨_, _, hcell0⟩ := World.cells?_some (hU 0 (by omega)).2
      have h00 := hcell0 0 (by decide)
      have hsp : a.spot = none := by
        have e : (a.add (0 * 4)).add 0 = a := by simp [Addr.add]
        rw [e] at h00
        exact World.cell?_spot (v := .int .i64 (U 0).k) h00
      obtain ⟨b, o, sp⟩ := a
      dsimp only at hsp
      subst hsp
      have c0 := hcell 0 (by decide)
      have c1 := hcell 1 (by decide)
      have c2 := hcell 2 (by decide)
      have c3 := hcell 3 (by decide)
      rw [add_at, add_at] at c0 c1 c2 c3
      have e : ((List.range len).map U)[i] = U i := by simp
      rw [e]
      refine ⟨b, o, rfl, World.block_lt_of_cell? W _ c0, c0, c1, c2, c3⟩
    · intro u hu
      obtain ⟨i, hi, rfl⟩ := List.mem_map.1 hu
      exact (hU i (by simpa using hi)).1

/-- What the rows list. -/
abbrev laid2 : List (String × DataW Unit) := [("unicode/utf8.acceptRanges", Rows.laid_unicode_utf8_acceptRanges), ("unicode/utf8.first", Rows.laid_unicode_utf8_first)]

theorem u8x : U8Extra Tryd.prog laysV_ren := ⟨by kernel_rfl, by kernel_rfl, by kernel_rfl, by kernel_rfl, by kernel_rfl, by kernel_rfl, by kernel_rfl⟩
theorem accept_eq : (Rows.laid_unicode_utf8_acceptRanges : DataW Unit) = acceptData := by kernel_rfl
theorem utf8_tabs {W : World} (h : laidMetH Tryd.prog laid2 W) : Lib.Utf8Tabs 1 2 W := by
  rw [MakeChecks.laidMetH_plain _ _ _ (by kernel_rfl)] at h
  exact utf8Tabs_of_readsT (U8Types.of196 laysV) u8x
    (Pinned.utf8First_eq ▸ Lib.laidMet.reads h (.tail _ (.head _)))
    (accept_eq ▸ Lib.laidMet.reads h (.head _))
theorem heap_gt {W : World} (h : Lib.Utf8Tabs 1 2 W) : 2 < W.heap.size := World.block_lt_of_cell? W _ (h.2 0 (by decide)).1
theorem shaped2 (os : Os) (args : Array Value) : ((World.laidAll Tryd.prog os laid2).forCall (fun _ _ => 0) ⟨#[], args, []⟩).Shaped Tryd.prog :=
  World.shaped_of_ZipB (by kernel_rfl) (by kernel_rfl)
theorem met2 (os : Os) (args : Array Value) : laidMetH Tryd.prog laid2 ((World.laidAll Tryd.prog os laid2).forCall (fun _ _ => 0) ⟨#[], args, []⟩).memory := by
  rw [MakeChecks.laidMetH_plain _ _ _ (by kernel_rfl)]
  exact laidMet_laidAll _ (by kernel_rfl) (by kernel_rfl)

end Go.Proofs.YtcjpindbplppgaaDoor

namespace Go.Proofs.YtcjpindbplppgaaDoor
open Go.RowKit Ieee
set_option maxRecDepth 100000

def vOne : Vl := ⟨2, 1, 0, ⟨#[]⟩⟩
theorem vOne_ok : vOne.ok := ⟨by decide, by decide, by decide, by decide⟩
theorem encS_one : encS [vOne] = ([3, 129, 1], 0) := by decide +kernel

set_option maxHeartbeats 1000000 in
theorem awake_any (w : World) (hg : 2 < w.heap.size) (hT : Lib.Utf8Tabs 1 2 w) :
    Calls Tryd.prog 10 #[] w fun e w' => e = .returned (.bool true) ∧ Below w.heap.size w w' := by
  have h1 : Hid (∀ w1, w1 = w.alloc (.cells #[.int .i64 2, .int .i64 1, .float .f64 0, .string ⟨#[]⟩] 32) → Calls Tryd.prog 5 #[.slice (some ⟨w.heap.size, 0, none⟩) 1 1] w1 fun e w' => e = .returned (.tuple #[.string ⟨#[3, 129, 1]⟩, .int .i64 0]) ∧ Below w1.heap.size w1 w') := by
    rintro w1 rfl
    have h := encode_any [vOne] (some ⟨w.heap.size, 0, none⟩) 1 (w.alloc (.cells #[.int .i64 2, .int .i64 1, .float .f64 0, .string ⟨#[]⟩] 32)) ?_ ?_ (by simp) (by simp; omega) (tabs_keep ((Below.refl _ _).alloc (Nat.le_refl _) _) hg hT)
    · rw [encS_one] at h; exact h
    · intro i hi
      have e : i = 0 := by simp at hi; exact hi
      subst e
      refine ⟨w.heap.size, 0, rfl, by simp, ?_, ?_, ?_, ?_⟩ <;> simp [vOne]
    · intro v hv
      simp at hv
      subst hv
      exact vOne_ok
  clear hT
  go_enter Tryd.func10, Tryd.ntmps10
  go_wp2_with (first | (go_at_call 5; refine (h1.out _ rfl).mono ?_; rintro e w1 ⟨rfl, hb⟩))
  go_ret
  exact ⟨rfl, ((Below.refl _ _).alloc (Nat.le_refl _) _).trans (hb.mono (by simp))⟩

end Go.Proofs.YtcjpindbplppgaaDoor

namespace Go.Proofs.YtcjpindbplppgaaDoor
open Go.RowKit Ieee
set_option maxRecDepth 100000

/-- a range, as the program holds it -/
abbrev rngV (lo hi : ByteArray) (op : Bool) : Value := .agg #[.string lo, .string hi, .bool op]
abbrev noRng : Value := .agg #[.string ⟨#[]⟩, .string ⟨#[]⟩, .bool false]
/-- an answer in whatever world that keeps what was -/
abbrev EncC (f : FuncId) (w : World) (sl : Value) (k : ByteArray) (er : Int) : Prop := ∀ w1 : World, Below w.heap.size w w1 → Calls Tryd.prog f #[sl] w1 fun e w' => e = .returned (.tuple #[.string k, .int .i64 er]) ∧ Below w1.heap.size w1 w'
def begV (k : ByteArray) (er : Int) : Value := if er = 0 then rngV k (k ++ ⟨#[255]⟩) false else noRng
def fromV (k : ByteArray) (er : Int) (inn : Bool) : Value := if er = 0 then rngV (if inn then k else k ++ ⟨#[255]⟩) ⟨#[]⟩ true else noRng
def toV (k : ByteArray) (er : Int) (inn : Bool) : Value := if er = 0 then rngV ⟨#[]⟩ (if inn then k ++ ⟨#[255]⟩ else k) false else noRng

theorem rz (w w1 : World) (o : Obj) (ho : o = .cells #[.string ⟨#[]⟩, .string ⟨#[]⟩, .bool false] 35) (hb : Below (w.alloc o).heap.size (w.alloc o) w1) :
    (w1.cell? ⟨w.heap.size, 0, none⟩ = some (.string ⟨#[]⟩) ∧ w1.cell? ⟨w.heap.size, 1, none⟩ = some (.string ⟨#[]⟩) ∧ w1.cell? ⟨w.heap.size, 2, none⟩ = some (.bool false)) ∧
    (w1.frozen? ⟨w.heap.size, 0, none⟩ = false ∧ w1.frozen? ⟨w.heap.size, 1, none⟩ = false ∧ w1.frozen? ⟨w.heap.size, 2, none⟩ = false) := by
  subst ho
  obtain ⟨h1, h2⟩ := bcell hb
  refine ⟨⟨?_, ?_, ?_⟩, ?_, ?_, ?_⟩
  · rw [h1 _ _ (by simp)]; simp [go_sem]
  · rw [h1 _ _ (by simp)]; simp [go_sem]
  · rw [h1 _ _ (by simp)]; simp [go_sem]
  · rw [h2 _ _ (by simp)]; simp [go_sem]
  · rw [h2 _ _ (by simp)]; simp [go_sem]
  · rw [h2 _ _ (by simp)]; simp [go_sem]























end Go.Proofs.YtcjpindbplppgaaDoor
