/- A table of transactions in memory: its block, its map, its list of those that may be open, a block for each transaction. -/
import Derived.Test.YtmcdpadmjicafaaProg
import Derived.Test.YtmcdpadmjicafaaMSta
import Derived.Test.YtmcdpadmjicafaaWLck
import Derived.WalkKit
import Derived.WalkLawsBesides
import Derived.Deep.QuietTactic
import Derived.BigQuiet
import Derived.Handy
import Derived.LaidEqlPtr
import Derived.Laws.LoneSync
import Derived.OwnWalk
import Derived.Laws.OwnMore
import Derived.Laws.AppendOwnNone
import Derived.Maps.OwnSet
import Derived.Maps.AppendAt
import Derived.Lib.SliceRun
namespace Go.Proofs.Ytmcdpadmjicafaa
open Go.RowKit Go.Maps
set_option maxRecDepth 100000

/-- HOW A POINTER TO A TRANSACTION READS: its block's number. -/
def ptrE : Value → Option (DataW Unit × List MemPlace)
  | .pointer none => some (.nil, [])
  | .pointer (some ⟨b, 0, none⟩) => some (.lit (.int .i64 (b : Nat)), [])
  | _ => none
theorem ptrE_nil {v : Value} {ps : List MemPlace} (h : ptrE v = some (.nil, ps)) : v = .pointer none := by
  unfold ptrE at h
  split at h
  · rfl
  · cases h
  · cases h
theorem ptrE_lit {v : Value} {b : Nat} {ps : List MemPlace} (h : ptrE v = some (.lit (.int .i64 (b : Nat)), ps)) : v = .pointer (some ⟨b, 0, none⟩) := by
  unfold ptrE at h
  split at h
  · cases h
  · injection h with h
    injection h with h
    injection h with h
    injection h with _ h
    have e := Int.ofNat.inj h
    rw [e]
  · cases h
theorem lawK : Keyed Try.prog 3 := int_keyed Try.underlying3
theorem zeroP (w : World) : (zeroValue 78).run Try.prog w = .ok (.pointer none) w := by kernel_rfl
theorem wfI9 {k : Int} (h1 : -9223372036854775808 ≤ k) (h2 : k < 9223372036854775808) : (Lit.int .i64 k).wf = true := WalkArith.wf_i64 (by omega)

/-- BLOCK mb IS A MAP: numbers to blocks. -/
def HasMap (w : World) (mb n : Nat) (f : Int → Option Nat) : Prop := ∃ D : DataW Unit, w.ownsMap Try.prog 3 ptrE mb n D ∧ ∀ k : Int, Maps.has D (.int .i64 k) = (f k).isSome ∧ ∀ b, f k = some b → ∀ z, D.atKey (.int .i64 k) z = .lit (.int .i64 (b : Nat))
theorem HasMap.of_block {w w' : World} {mb n : Nat} {f : Int → Option Nat} (h : HasMap w mb n f) (hb : w'.heap[mb]? = w.heap[mb]?) : HasMap w' mb n f := by
  obtain ⟨D, ⟨es, c, h1, h2⟩, h3⟩ := h
  exact ⟨D, ⟨es, c, hb.trans h1, h2⟩, h3⟩
theorem HasMap.lt {w : World} {mb n : Nat} {f : Int → Option Nat} (h : HasMap w mb n f) : mb < w.heap.size := h.choose_spec.1.lt
theorem HasMap.is {w : World} {mb n : Nat} {f : Int → Option Nat} (h : HasMap w mb n f) : ∃ es c, w.heap[mb]? = some (.map es c) := by
  obtain ⟨D, ⟨es, c, h1, h2⟩, h3⟩ := h
  exact ⟨es, c, h1⟩
theorem HasMap.ext {w : World} {mb n : Nat} {f g : Int → Option Nat} (h : HasMap w mb n f) (e : ∀ k, f k = g k) : HasMap w mb n g := by
  have : f = g := funext e
  rw [← this]
  exact h
/-- what a look-up tells -/
def ptrO (o : Option Nat) : Value := .pointer (o.map fun b => ⟨b, 0, none⟩)
theorem HasMap.look {w : World} {mb n : Nat} {f : Int → Option Nat} (h : HasMap w mb n f) (k : Int) (h1 : -9223372036854775808 ≤ k) (h2 : k < 9223372036854775808) :
    (Instr.lookup 54 (.map (some mb)) (.int .i64 k) true).run Try.prog w = .ok (.tuple #[ptrO (f k), .bool (f k).isSome]) w := by
  obtain ⟨D, ho, hD⟩ := h
  obtain ⟨v, ps, hr, hv⟩ := ho.look_ok lawK Try.underlying54 (zeroP w) (zd := .nil) (zp := []) rfl (keyOf_int_mk Try.underlying3 (wfI9 h1 h2))
  rw [hr, (hD k).1]
  cases hf : f k with
  | none =>
    have hn := (hD k).1
    rw [hf] at hn
    rw [Maps.atKey_of_not_has hn] at hv
    rw [ptrE_nil hv]
    rfl
  | some b =>
    rw [(hD k).2 b hf] at hv
    rw [ptrE_lit hv]
    rfl
theorem HasMap.made (w : World) : HasMap (w.alloc (.map #[] 0)) w.heap.size 0 (fun _ => none) :=
  ⟨.map [], World.ownsMap_made _ _ _ _, fun k => ⟨rfl, fun b hb => by cases hb⟩⟩
def updF (f : Int → Option Nat) (k : Int) (o : Option Nat) : Int → Option Nat := fun x => if x = k then o else f x
theorem isKey (x : Int) : WideAt.IsKeyLit (Lit.int .i64 x) := trivial
theorem keyNe {x k : Int} (h : ¬ x = k) : Lit.int .i64 x ≠ Lit.int .i64 k := fun e => h (by injection e)
theorem HasMap.store {w : World} {mb n : Nat} {f : Int → Option Nat} (h : HasMap w mb n f) (hn : n < maxLen) (k : Int) (b : Nat) (h1 : -9223372036854775808 ≤ k) (h2 : k < 9223372036854775808) :
    ∃ w', (Instr.mapUpdate 54 (.map (some mb)) (.int .i64 k) (.pointer (some ⟨b, 0, none⟩))).run Try.prog w = .ok () w' ∧ HasMap w' mb (n + 1) (updF f k (some b)) ∧ w.mapTurned w' mb := by
  obtain ⟨D, ho, hD⟩ := h
  obtain ⟨w', hr, ho', ht⟩ := ho.store lawK Try.underlying54 hn (val := .pointer (some ⟨b, 0, none⟩)) (d := .lit (.int .i64 (b : Nat))) (ps := []) (keyOf_int_mk Try.underlying3 (wfI9 h1 h2)) rfl
  refine ⟨w', hr, ⟨_, ho', fun x => ?_⟩, ht⟩
  unfold updF
  by_cases hx : x = k
  · subst hx
    rw [if_pos rfl]
    exact ⟨Maps.has_put_same ho.isMap (isKey x) _, fun b' hb' z => by cases hb'; exact Maps.atKey_put_same ho.isMap (isKey x) _ _⟩
  · rw [if_neg hx]
    exact ⟨(Maps.has_put_other (keyNe hx) _).trans (hD x).1, fun b' hb' z => (Maps.atKey_put_other (keyNe hx) _ _).trans ((hD x).2 b' hb' z)⟩
theorem HasMap.drop {w : World} {mb n : Nat} {f : Int → Option Nat} (h : HasMap w mb n f) (k : Int) (h1 : -9223372036854775808 ≤ k) (h2 : k < 9223372036854775808) (ty : TypeId) :
    ∃ w', (Builtin.delete_ #[54, 3] ty #[.map (some mb), .int .i64 k]).run Try.prog w = .ok (.tuple #[]) w' ∧ HasMap w' mb n (updF f k none) ∧ w.mapTurned w' mb := by
  obtain ⟨D, ho, hD⟩ := h
  obtain ⟨w', hr, ho', ht⟩ := ho.drop lawK Try.underlying54 (keyOf_int_mk Try.underlying3 (wfI9 h1 h2)) ty
  refine ⟨w', hr, ⟨_, ho', fun x => ?_⟩, ht⟩
  unfold updF
  by_cases hx : x = k
  · subst hx
    rw [if_pos rfl]
    exact ⟨Maps.has_del_same, fun b' hb' => by cases hb'⟩
  · rw [if_neg hx]
    exact ⟨(Maps.has_del_other (keyNe hx)).trans (hD x).1, fun b' hb' z => (Maps.atKey_del_other (keyNe hx) _).trans ((hD x).2 b' hb' z)⟩

/-- ALL BUT SOME BLOCKS ARE AS THEY WERE. -/
structure Frm (w w' : World) (F : Nat → Prop) : Prop where
  os : w'.os = w.os
  tape : w'.tape = w.tape
  output : w'.output = w.output
  size : w.heap.size ≤ w'.heap.size
  block : ∀ k, k < w.heap.size → ¬ F k → w'.heap[k]? = w.heap[k]?
theorem Frm.refl (w : World) (F : Nat → Prop) : Frm w w F := ⟨rfl, rfl, rfl, Nat.le_refl _, fun _ _ _ => rfl⟩
theorem Frm.trans {w w1 w2 : World} {F G : Nat → Prop} (h1 : Frm w w1 F) (h2 : Frm w1 w2 G) (hG : ∀ k, G k → F k ∨ w.heap.size ≤ k) : Frm w w2 F :=
  ⟨h2.os.trans h1.os, h2.tape.trans h1.tape, h2.output.trans h1.output, Nat.le_trans h1.size h2.size, fun k hk hn => (h2.block k (Nat.lt_of_lt_of_le hk h1.size) (fun hg => (hG k hg).elim hn (fun h => by omega))).trans (h1.block k hk hn)⟩
theorem Frm.mono {w w' : World} {F G : Nat → Prop} (h : Frm w w' F) (hG : ∀ k, F k → G k) : Frm w w' G := ⟨h.os, h.tape, h.output, h.size, fun k hk hn => h.block k hk (fun hf => hn (hG k hf))⟩
theorem Frm.below {w w' : World} {F : Nat → Prop} {B : Nat} (h : Frm w w' F) (hB : B ≤ w.heap.size) (hF : ∀ k, F k → B ≤ k) : Below B w w' := ⟨h.os, h.tape, h.output, h.size, fun k hk => h.block k (Nat.lt_of_lt_of_le hk hB) (fun hf => by have := hF k hf; omega)⟩
theorem Frm.of_below {w w' : World} {F : Nat → Prop} (h : Below w.heap.size w w') : Frm w w' F := ⟨h.os, h.tape, h.output, h.size, fun k hk _ => h.block k hk⟩
theorem Frm.of_grown {w w' : World} {F : Nat → Prop} {r : Option Nat} (h : w.grownBy w' r) (hF : ∀ g, r = some g → F g) : Frm w w' F := ⟨h.os, h.tape, h.output, h.size, fun k hk hn => h.block k hk (fun e => hn (hF k e.symm))⟩
theorem Frm.drew {w w' : World} {F : Nat → Prop} (h : Frm w w' F) : Frm w w'.drew F := ⟨h.os, h.tape, h.output, h.size, h.block⟩
theorem Frm.of_turned {w w' : World} {F : Nat → Prop} {b : Nat} (h : w.mapTurned w' b) (hF : F b) : Frm w w' F := Frm.of_grown h.grown (fun g e => by cases e; exact hF)
theorem Frm.keep {w w' : World} {F G : Nat → Prop} (h : Frm w w' F) {k : Nat} (hG : ∀ k, G k → k < w.heap.size ∧ ¬ F k) (hk : G k) : w'.heap[k]? = w.heap[k]? := h.block k (hG k hk).1 (hG k hk).2

/-- THE TABLE's OWN BLOCK. -/
def TabB (w : World) (tb : Nat) (s r : Int) (la mb : Nat) (ov : Value) : Prop := w.heap[tb]? = some (.cells #[.int .i32 s, .int .u32 0, .int .u32 0, .int .u32 0, .int .i32 r, .int .i32 0, .int .i64 (la : Nat), .map (some mb), ov] 69 (0, 0))
theorem heap_set_same (w : World) (b i : Nat) (v : Value) (cs : Array Value) (T : TypeId) (z : Nat × Nat) (h : w.heap[b]? = some (.cells cs T z)) : (w.setCell ⟨b, i, none⟩ v).heap[b]? = some (.cells (cs.setIfInBounds i v) T z) := by
  unfold World.setCell
  show (w.heap.modify b _)[b]? = _
  rw [Array.getElem?_modify, if_pos rfl, h]
  rfl
theorem grownBy_set (w : World) (g i : Nat) (u : Value) : w.grownBy (w.setCell ⟨g, i, none⟩ u) (some g) :=
  ⟨rfl, rfl, rfl, by simp [World.setCell], fun k _ hk => Below.heap_setCell _ _ _ _ (by simpa using hk)⟩
theorem frm_set (w : World) (g i : Nat) (u : Value) {F : Nat → Prop} (hF : F g) : Frm w (w.setCell ⟨g, i, none⟩ u) F := Frm.of_grown (grownBy_set w g i u) (fun k e => by cases e; exact hF)
theorem TabB.set6 {w : World} {tb : Nat} {s r : Int} {la mb : Nat} {ov : Value} (h : TabB w tb s r la mb ov) (x : Nat) : TabB (w.setCell ⟨tb, 6, none⟩ (.int .i64 (x : Nat))) tb s r x mb ov := by
  unfold TabB at *
  rw [heap_set_same w tb 6 _ _ _ _ h]
  rfl
theorem TabB.set8 {w : World} {tb : Nat} {s r : Int} {la mb : Nat} {ov : Value} (h : TabB w tb s r la mb ov) (v : Value) : TabB (w.setCell ⟨tb, 8, none⟩ v) tb s r la mb v := by
  unfold TabB at *
  rw [heap_set_same w tb 8 _ _ _ _ h]
  rfl
theorem TabB.set0 {w : World} {tb : Nat} {s r : Int} {la mb : Nat} {ov : Value} (h : TabB w tb s r la mb ov) (x : Int) : TabB (w.setCell ⟨tb, 0, none⟩ (.int .i32 x)) tb x r la mb ov := by
  unfold TabB at *
  rw [heap_set_same w tb 0 _ _ _ _ h]
  rfl
theorem TabB.set4 {w : World} {tb : Nat} {s r : Int} {la mb : Nat} {ov : Value} (h : TabB w tb s r la mb ov) (x : Int) : TabB (w.setCell ⟨tb, 4, none⟩ (.int .i32 x)) tb s x la mb ov := by
  unfold TabB at *
  rw [heap_set_same w tb 4 _ _ _ _ h]
  rfl
theorem TabB.cell {w : World} {tb : Nat} {s r : Int} {la mb : Nat} {ov : Value} (h : TabB w tb s r la mb ov) : w.cell? ⟨tb, 0, none⟩ = some (.int .i32 s) ∧ w.cell? ⟨tb, 2, none⟩ = some (.int .u32 0) ∧ w.cell? ⟨tb, 3, none⟩ = some (.int .u32 0) ∧ w.cell? ⟨tb, 4, none⟩ = some (.int .i32 r) ∧ w.cell? ⟨tb, 6, none⟩ = some (.int .i64 (la : Nat)) ∧ w.cell? ⟨tb, 7, none⟩ = some (.map (some mb)) ∧ w.cell? ⟨tb, 8, none⟩ = some ov := by
  unfold TabB at h
  refine ⟨?_, ?_, ?_, ?_, ?_, ?_, ?_⟩ <;> simp [World.cell?, h]
theorem TabB.frozen {w : World} {tb : Nat} {s r : Int} {la mb : Nat} {ov : Value} (h : TabB w tb s r la mb ov) (o : Nat) : w.frozen? ⟨tb, o, none⟩ = false := by
  unfold TabB at h
  simp [World.frozen?, h]

theorem up1 : wrap32 (0 + 1) = 1 := by decide +kernel
theorem down1 : wrap32 (1 + -1) = 0 := by decide +kernel
section
open Go.RwLone
theorem wlock_tab (tb la mb : Nat) (ov : Value) (w : World) (h : TabB w tb 0 0 la mb ov) :
    Calls Try.prog 31 #[.pointer (some ⟨tb, 0, none⟩)] w fun e w' => e = .returned (.tuple #[]) ∧ TabB w' tb 1 (-1073741824) la mb ov ∧ Frm w w' (fun k => k = tb) ∧ w'.heap.size = w.heap.size := by
  obtain ⟨c0, c2, c3, c4, _⟩ := h.cell
  refine (wlock_free rwWLib tb 0 _ _ w c0 c2 c3 c4 (h.frozen 0) (h.frozen 4)).mono ?_
  rintro e w' ⟨rfl, rfl⟩
  refine ⟨rfl, (h.set0 1).set4 _, (frm_set w tb 0 _ (F := fun k => k = tb) rfl).trans (frm_set _ tb 4 _ (F := fun k => k = tb) rfl) (fun k hk => .inl hk), by simp [World.setCell]⟩
theorem wunlock_tab (tb la mb : Nat) (ov : Value) (u : FrameMode) (w : World) (h : TabB w tb 1 (-1073741824) la mb ov) :
    CallsD Try.prog 32 #[.pointer (some ⟨tb, 0, none⟩)] u w fun e u' w' => u' = u ∧ e = .returned (.tuple #[]) ∧ TabB w' tb 0 0 la mb ov ∧ Frm w w' (fun k => k = tb) ∧ w'.heap.size = w.heap.size := by
  obtain ⟨c0, c2, c3, c4, _⟩ := h.cell
  refine (wunlock_deferred rwWLib tb 0 _ _ u w c0 c2 c3 c4 (h.frozen 0) (h.frozen 4)).mono ?_
  rintro e u' w' ⟨rfl, rfl, rfl⟩
  refine ⟨rfl, rfl, (h.set4 0).set0 0, (frm_set w tb 4 _ (F := fun k => k = tb) rfl).trans (frm_set _ tb 0 _ (F := fun k => k = tb) rfl) (fun k hk => .inl hk), by simp [World.setCell]⟩
theorem rlock_tab (tb la mb : Nat) (ov : Value) (w : World) (h : TabB w tb 0 0 la mb ov) :
    Calls Try.prog 35 #[.pointer (some ⟨tb, 0, none⟩)] w fun e w' => e = .returned (.tuple #[]) ∧ TabB w' tb 0 1 la mb ov ∧ Frm w w' (fun k => k = tb) ∧ w'.heap.size = w.heap.size := by
  obtain ⟨c0, c2, c3, c4, _⟩ := h.cell
  refine (rlock_open rwRLib tb 0 0 _ _ w c0 c3 c4 (h.frozen 4) (by rw [up1]; decide)).mono ?_
  rintro e w' ⟨rfl, rfl⟩
  rw [up1]
  exact ⟨rfl, h.set4 _, frm_set w tb 4 _ rfl, by simp [World.setCell]⟩
theorem runlock_tab (tb la mb : Nat) (ov : Value) (u : FrameMode) (w : World) (h : TabB w tb 0 1 la mb ov) :
    CallsD Try.prog 36 #[.pointer (some ⟨tb, 0, none⟩)] u w fun e u' w' => u' = u ∧ e = .returned (.tuple #[]) ∧ TabB w' tb 0 0 la mb ov ∧ Frm w w' (fun k => k = tb) ∧ w'.heap.size = w.heap.size := by
  obtain ⟨c0, c2, c3, c4, _⟩ := h.cell
  refine (runlock_deferred rwRLib tb 0 1 _ _ u w c0 c2 c4 (h.frozen 4) (by rw [down1]; decide)).mono ?_
  rintro e u' w' ⟨rfl, rfl, rfl⟩
  rw [down1]
  exact ⟨rfl, rfl, h.set4 _, frm_set w tb 4 _ rfl, by simp [World.setCell]⟩
end
end Go.Proofs.Ytmcdpadmjicafaa
