/- Worlds: what a step may change and what stays; atomics of pointers; pointers and raw ones. Blocks of memory: what they hold; plain. -/
import Derived.Test.YtncfejndmlcidaaGreatProg
import Derived.WalkKit
import Derived.WalkLawsBesides
import Derived.Deep.QuietTactic
import Derived.BigQuiet
import Derived.Handy
import Derived.LaidEqlPtr
import Derived.Laws.LoneSync
import Derived.OwnWalk
import Derived.Laws.OwnMore
namespace Go.Proofs.YtncfejndmlcidaaGreat
open Go.RowKit
set_option maxRecDepth 100000

theorem heap_alloc_new (w : World) (o : Obj) : (w.alloc o).heap[w.heap.size]? = some o := by
  unfold World.alloc
  exact Array.getElem?_push_size
theorem heap_set_same (w : World) (b i : Nat) (v : Value) (cs : Array Value) (T : TypeId) (z : Nat × Nat) (h : w.heap[b]? = some (.cells cs T z)) : (w.setCell ⟨b, i, none⟩ v).heap[b]? = some (.cells (cs.setIfInBounds i v) T z) := by
  unfold World.setCell
  show (w.heap.modify b _)[b]? = _
  rw [Array.getElem?_modify, if_pos rfl, h]
  rfl
theorem heap_set_other (w : World) (b i k : Nat) (v : Value) (h : k ≠ b) : (w.setCell ⟨b, i, none⟩ v).heap[k]? = w.heap[k]? := Below.heap_setCell _ _ _ _ (by simpa using h)
theorem grownBy_set (w : World) (g i : Nat) (u : Value) : w.grownBy (w.setCell ⟨g, i, none⟩ u) (some g) :=
  ⟨rfl, rfl, rfl, by simp [World.setCell], fun k _ hk => Below.heap_setCell _ _ _ _ (by simpa using hk)⟩
theorem size_set (w : World) (g i : Nat) (u : Value) : (w.setCell ⟨g, i, none⟩ u).heap.size = w.heap.size := by simp [World.setCell]

/-- ALL BUT SOME BLOCKS ARE AS THEY WERE. -/
structure Frm (w w' : World) (F : Nat → Prop) : Prop where
  os : w'.os = w.os
  tape : w'.tape = w.tape
  output : w'.output = w.output
  size : w.heap.size ≤ w'.heap.size
  block : ∀ k, k < w.heap.size → ¬ F k → w'.heap[k]? = w.heap[k]?
theorem Frm.refl (w : World) (F : Nat → Prop) : Frm w w F := ⟨rfl, rfl, rfl, Nat.le_refl _, fun _ _ _ => rfl⟩
theorem Frm.trans {w w1 w2 : World} {F G : Nat → Prop} (h1 : Frm w w1 F) (h2 : Frm w1 w2 G) (hG : ∀ k, G k → F k ∨ w.heap.size ≤ k) : Frm w w2 F :=
  ⟨h2.os.trans h1.os, h2.tape.trans h1.tape, h2.output.trans h1.output, Nat.le_trans h1.size h2.size, fun k hk hn => (h2.block k (Nat.lt_of_lt_of_le hk h1.size) (fun hg => (hG k hg).elim hn (fun h => by omega))).trans (h1.block k hk hn)⟩
theorem Frm.mono {w w' : World} {F G : Nat → Prop} (h : Frm w w' F) (hG : ∀ k, F k → G k ∨ w.heap.size ≤ k) : Frm w w' G := ⟨h.os, h.tape, h.output, h.size, fun k hk hn => h.block k hk (fun hf => (hG k hf).elim hn (fun h => by omega))⟩
theorem Frm.below {w w' : World} {F : Nat → Prop} {B : Nat} (h : Frm w w' F) (hB : B ≤ w.heap.size) (hF : ∀ k, F k → B ≤ k) : Below B w w' := ⟨h.os, h.tape, h.output, h.size, fun k hk => h.block k (Nat.lt_of_lt_of_le hk hB) (fun hf => by have := hF k hf; omega)⟩
theorem Frm.of_below {w w' : World} {F : Nat → Prop} (h : Below w.heap.size w w') : Frm w w' F := ⟨h.os, h.tape, h.output, h.size, fun k hk _ => h.block k hk⟩
theorem Frm.of_grown {w w' : World} {F : Nat → Prop} {r : Option Nat} (h : w.grownBy w' r) (hF : ∀ g, r = some g → F g ∨ w.heap.size ≤ g) : Frm w w' F := ⟨h.os, h.tape, h.output, h.size, fun k hk hn => h.block k hk (fun e => (hF k e.symm).elim hn (fun h => by omega))⟩
theorem Frm.drew {w w' : World} {F : Nat → Prop} (h : Frm w w' F) : Frm w w'.drew F := ⟨h.os, h.tape, h.output, h.size, h.block⟩
theorem frm_set (w : World) (g i : Nat) (u : Value) {F : Nat → Prop} (hF : F g ∨ w.heap.size ≤ g) : Frm w (w.setCell ⟨g, i, none⟩ u) F := Frm.of_grown (grownBy_set w g i u) (fun k e => by cases e; exact hF)
abbrev none1 : Nat → Prop := fun _ => False
abbrev one1 (b : Nat) : Nat → Prop := fun k => k = b
theorem Frm.none {w w' : World} (h : Frm w w' none1) : Below w.heap.size w w' := h.below (Nat.le_refl _) (fun _ h => h.elim)

section
variable {P : Program} {f : FuncId} {fn : Func}
theorem run_call_loadp (hf : P.funcs[f]? = some fn) (hname : (fn.name == "runtime.NumGoroutine") = false) (hb : fn.body.isNone = true) (hn : Extern.findNext fn = none)
    (he : Extern.find fn = some (Extern.Atomic.loadT .ptr)) {a : Addr} {p : Option Addr} {w : World} (hc : w.cell? a = some (.pointer p)) :
    (callFunc f #[.pointer (some a)]).run P w = .ok (.value (.pointer p)) w := by
  rw [run_callFunc_extern hf hname hb hn he]
  change (Sem.run P (do Extern.Atomic.read .ptr (← asAddr (.pointer (some a)))) w).andThen _ = _
  simp [Extern.Atomic.read, asAddr, hc, Result.andThen]
theorem run_samePointer (p : Option Addr) (w : World) : (samePointer p p).run P w = .ok true w := by
  cases p with
  | none => rfl
  | some a => simp [samePointer, run_sameAddr_same]
theorem run_call_casp_hit (hf : P.funcs[f]? = some fn) (hname : (fn.name == "runtime.NumGoroutine") = false) (hb : fn.body.isNone = true) (hn : Extern.findNext fn = none)
    (he : Extern.find fn = some (Extern.Atomic.casT .ptr)) {a : Addr} {p q : Option Addr} {w : World} (hc : w.cell? a = some (.pointer p)) (hz : w.frozen? a = false) :
    (callFunc f #[.pointer (some a), .pointer p, .pointer q]).run P w = .ok (.value (.bool true)) (w.setCell a (.pointer q)) := by
  rw [run_callFunc_extern hf hname hb hn he]
  change (Sem.run P (do
    let a' ← asAddr (.pointer (some a))
    if ← Extern.Atomic.touchesFrozen a' then unsupported (.unsafePointer "a write to bytes that a string shares")
    let eq ← match Extern.Atomic.T.ptr, ← Extern.Atomic.read .ptr a', Value.pointer p with
      | _, .int _ x, .int _ y => pure (x == y)
      | .ptr, .pointer x, .pointer y => samePointer x y
      | .int _, .pointer (some _), .int _ 0 | .int _, .int _ 0, .pointer (some _) => pure false
      | .int _, .pointer (some _), _ | .int _, _, .pointer (some _) => unsupported .addressObserved
      | _, _, _ => stuck "atomic.CompareAndSwap: old is no T"
    if eq then store a' (.pointer q) .atomic
    pure (Value.bool eq)) w).andThen _ = _
  have hs := run_samePointer (P := P) p w
  simp [Extern.Atomic.touchesFrozen, Extern.Atomic.read, asAddr, viewAt, World.shape?_isSome_of_cell? hc, hc, hz, hs, run_store P w a (.pointer q) .atomic rfl, Result.andThen]
theorem run_call_storep (hf : P.funcs[f]? = some fn) (hname : (fn.name == "runtime.NumGoroutine") = false) (hb : fn.body.isNone = true) (hn : Extern.findNext fn = none)
    (he : Extern.find fn = some Extern.Atomic.storeT) {a : Addr} {p q : Option Addr} {w : World} (hc : w.cell? a = some (.pointer p)) (hz : w.frozen? a = false) :
    (callFunc f #[.pointer (some a), .pointer q]).run P w = .ok (.value (.tuple #[])) (w.setCell a (.pointer q)) := by
  rw [run_callFunc_extern hf hname hb hn he]
  change (Sem.run P (do
    store (← asAddr (.pointer (some a))) (.pointer q) .atomic
    pure (Value.tuple #[])) w).andThen _ = _
  simp [asAddr, hc, hz, run_store P w a (.pointer q) .atomic rfl, Result.andThen]
theorem from_raw_none {src dst u : TypeId} {w : World} (hs : P.underlying src = some .unsafePointer) (hd : P.underlying dst = some (.pointer u)) : (convert src dst (.pointer none)).run P w = .ok (.pointer none) w := by
  simp [convert, run_underlying hs, run_underlying hd, Conv.unsafePointer]
theorem to_raw_none {src dst u : TypeId} {w : World} (hs : P.underlying src = some (.pointer u)) (hd : P.underlying dst = some .unsafePointer) : (convert src dst (.pointer none)).run P w = .ok (.pointer none) w := by
  simp [convert, run_underlying hs, run_underlying hd, Conv.unsafePointer]
theorem to_raw {src dst t e : TypeId} {j : TypeInfo} {cells : Nat} {w : World} (a : Addr) (hs : P.underlying src = some (.pointer t)) (hd : P.underlying dst = some .unsafePointer) (ht : P.info? t = some j) (hj : j.size ≠ 0) (hsh : w.shape? a.block = some (e, cells)) (hoff : a.off < cells) :
    (convert src dst (.pointer (some a))).run P w = .ok (.pointer (some a)) w := by
  simp [convert, run_underlying hs, run_underlying hd, Conv.unsafePointer, Conv.seenAt, viewAt, cellsIn, hsh, sizeOf, typeInfo, ht, hj]
  intro h
  omega
theorem from_raw {src dst u e : TypeId} {j : TypeInfo} {cells : Nat} {w : World} (a : Addr) (hs : P.underlying src = some .unsafePointer) (hd : P.underlying dst = some (.pointer u)) (hu : P.info? u = some j) (hsh : w.shape? a.block = some (e, cells)) (hlies : liesAt P P.depth e (cells / P.cellsOf e) a.off u 1 = true) :
    (convert src dst (.pointer (some a))).run P w = .ok (.pointer (some a)) w := by
  simp [convert, run_underlying hs, run_underlying hd, Conv.unsafePointer, Conv.seenAt, viewAt, hsh, variablesAt, hlies, sizeOf, typeInfo, hu]
end

end Go.Proofs.YtncfejndmlcidaaGreat

namespace Go.Proofs.YtncfejndmlcidaaGreat
open Go.RowKit
set_option maxRecDepth 100000

abbrev ptr1 (b : Nat) : Value := .pointer (some ⟨b, 0, none⟩)
/-- a block of a type holds these cells -/
def Blk (w : World) (g : Nat) (cs : Array Value) (T : TypeId) : Prop := w.heap[g]? = some (.cells cs T (0, 0))
section
variable {w w' : World} {g : Nat} {cs : Array Value} {T : TypeId}
theorem Blk.lt (h : Blk w g cs T) : g < w.heap.size := by
  unfold Blk at h
  by_cases hg : g < w.heap.size
  · exact hg
  · rw [Array.getElem?_eq_none (by omega)] at h
    cases h
theorem Blk.cell (h : Blk w g cs T) {i : Nat} {v : Value} (hi : cs[i]? = some v) : w.cell? ⟨g, i, none⟩ = some v := by
  unfold Blk at h
  simp [World.cell?, h, hi]
theorem Blk.frozen (h : Blk w g cs T) (i : Nat) : w.frozen? ⟨g, i, none⟩ = false := by
  unfold Blk at h
  simp [World.frozen?, h]
theorem Blk.keep {B : Nat} (h : Blk w g cs T) (hb : Below B w w') (hg : g < B) : Blk w' g cs T := (hb.block g hg).trans h
theorem Blk.on (h : Blk w g cs T) (hb : Below w.heap.size w w') : Blk w' g cs T := h.keep hb h.lt
theorem Blk.frm {F : Nat → Prop} (h : Blk w g cs T) (hf : Frm w w' F) (hn : ¬ F g) : Blk w' g cs T := (hf.block g h.lt hn).trans h
theorem Blk.new (w : World) (cs : Array Value) (T : TypeId) : Blk (w.alloc (.cells cs T)) w.heap.size cs T := heap_alloc_new w _
theorem Blk.set (h : Blk w g cs T) (i : Nat) (v : Value) : Blk (w.setCell ⟨g, i, none⟩ v) g (cs.setIfInBounds i v) T := heap_set_same w g i v cs T (0, 0) h
theorem Blk.other (h : Blk w g cs T) {k : Nat} (hk : g ≠ k) (i : Nat) (v : Value) : Blk (w.setCell ⟨k, i, none⟩ v) g cs T := (heap_set_other w k i g v hk).trans h
theorem blk_new (w : World) (cs : Array Value) (T : TypeId) : Blk (w.alloc (.cells cs T)) w.heap.size cs T ∧ Below w.heap.size w (w.alloc (.cells cs T)) ∧ (w.alloc (.cells cs T)).heap.size = w.heap.size + 1 := ⟨Blk.new w cs T, (Below.refl _ _).alloc (Nat.le_refl _) _, by simp⟩
end

end Go.Proofs.YtncfejndmlcidaaGreat
