/- A clock in memory; the atomics of uint64; New, given, place. -/
import Derived.Test.YtckjgnjakkeodaaProg
import Derived.Test.YtckjgnjakkeodaaMClk
import Derived.WalkKit
import Derived.WalkLawsBesides
import Derived.Deep.QuietTactic
import Derived.BigQuiet
import Derived.Handy
import Derived.LaidEqlPtr
import Derived.Laws.LoneSync
import Derived.OwnWalk
import Derived.Laws.OwnMore
import Derived.Laws.AppendOwnNone
namespace Go.Proofs.Ytckjgnjakkeodaa
open Go.RowKit
set_option maxRecDepth 100000

/-- A CLOCK IN MEMORY: block b. -/
structure Clk (w : World) (b la fr : Nat) (D : Nat → Nat) : Prop where
  lt : b < w.heap.size
  self : w.cell? ⟨b, 0, none⟩ = some (.pointer (some ⟨b, 0, none⟩))
  last : w.cell? ⟨b, 1, none⟩ = some (.int .u64 la) ∧ w.frozen? ⟨b, 1, none⟩ = false
  front : w.cell? ⟨b, 2, none⟩ = some (.int .u64 fr) ∧ w.frozen? ⟨b, 2, none⟩ = false
  ring : ∀ i, i < 4096 → w.cell? ⟨b, 3 + i, none⟩ = some (.int .u64 (D i : Nat)) ∧ w.frozen? ⟨b, 3 + i, none⟩ = false
theorem Clk.of_block {w w' : World} {b la fr : Nat} {D : Nat → Nat} (h : Clk w b la fr D) (hb : w'.heap[b]? = w.heap[b]?) : Clk w' b la fr D := by
  have hc : ∀ o, w'.cell? ⟨b, o, none⟩ = w.cell? ⟨b, o, none⟩ := fun o => World.cell?_of_block (a := ⟨b, o, none⟩) hb
  have hf : ∀ o, w'.frozen? ⟨b, o, none⟩ = w.frozen? ⟨b, o, none⟩ := fun o => World.frozen?_of_block (a := ⟨b, o, none⟩) hb
  have hlt : b < w'.heap.size := by
    have h1 := h.lt
    rw [Array.getElem?_eq_getElem h1] at hb
    exact (Array.getElem?_eq_some_iff.1 hb).1
  exact ⟨hlt, (hc _).trans h.self, ⟨(hc _).trans h.last.1, (hf _).trans h.last.2⟩, ⟨(hc _).trans h.front.1, (hf _).trans h.front.2⟩, fun i hi => ⟨(hc _).trans (h.ring i hi).1, (hf _).trans (h.ring i hi).2⟩⟩
theorem Clk.keep {w w' : World} {b B la fr : Nat} {D : Nat → Nat} (h : Clk w b la fr D) (hb : Below B w w') (hB : b < B) : Clk w' b la fr D := h.of_block (hb.block b hB)
theorem Clk.grown {w w' : World} {b la fr : Nat} {D : Nat → Nat} {r : Option Nat} (h : Clk w b la fr D) (hg : w.grownBy w' r) (hne : some b ≠ r) : Clk w' b la fr D := h.of_block (hg.block b h.lt hne)
theorem frozen_set (w : World) (a b : Addr) (u : Value) : (w.setCell a u).frozen? b = w.frozen? b := by
  simp
theorem grownBy_set (w : World) (g i : Nat) (u : Value) : w.grownBy (w.setCell ⟨g, i, none⟩ u) (some g) :=
  ⟨rfl, rfl, rfl, by simp [World.setCell], fun k _ hk => Below.heap_setCell _ _ _ _ (by simpa using hk)⟩
theorem set_same (w : World) (b i : Nat) (u v : Value) (h : w.cell? ⟨b, i, none⟩ = some u) : (w.setCell ⟨b, i, none⟩ v).cell? ⟨b, i, none⟩ = some v := World.cell?_setCell_same w _ _ h
theorem set_other (w : World) (b i j : Nat) (v : Value) (h : i ≠ j) : (w.setCell ⟨b, i, none⟩ v).cell? ⟨b, j, none⟩ = w.cell? ⟨b, j, none⟩ := World.cell?_setCell_other w _ _ _ (by simp)
theorem set_size (w : World) (a : Addr) (v : Value) : (w.setCell a v).heap.size = w.heap.size := by simp [World.setCell]

theorem Clk.setLast {w : World} {b la fr : Nat} {D : Nat → Nat} (h : Clk w b la fr D) (x : Nat) : Clk (w.setCell ⟨b, 1, none⟩ (.int .u64 x)) b x fr D :=
  ⟨by rw [set_size]; exact h.lt, (set_other _ _ _ _ _ (by decide)).trans h.self, ⟨set_same _ _ _ _ _ h.last.1, (frozen_set _ _ _ _).trans h.last.2⟩, ⟨(set_other _ _ _ _ _ (by decide)).trans h.front.1, (frozen_set _ _ _ _).trans h.front.2⟩, fun i hi => ⟨(set_other _ _ _ _ _ (by omega)).trans (h.ring i hi).1, (frozen_set _ _ _ _).trans (h.ring i hi).2⟩⟩
theorem Clk.setFront {w : World} {b la fr : Nat} {D : Nat → Nat} (h : Clk w b la fr D) (x : Nat) : Clk (w.setCell ⟨b, 2, none⟩ (.int .u64 x)) b la x D :=
  ⟨by rw [set_size]; exact h.lt, (set_other _ _ _ _ _ (by decide)).trans h.self, ⟨(set_other _ _ _ _ _ (by decide)).trans h.last.1, (frozen_set _ _ _ _).trans h.last.2⟩, ⟨set_same _ _ _ _ _ h.front.1, (frozen_set _ _ _ _).trans h.front.2⟩, fun i hi => ⟨(set_other _ _ _ _ _ (by omega)).trans (h.ring i hi).1, (frozen_set _ _ _ _).trans (h.ring i hi).2⟩⟩
theorem Clk.setRing {w : World} {b la fr : Nat} {D : Nat → Nat} (h : Clk w b la fr D) (k : Nat) (hk : k < 4096) (x : Nat) : Clk (w.setCell ⟨b, 3 + k, none⟩ (.int .u64 x)) b la fr (upd D k x) := by
  refine ⟨by rw [set_size]; exact h.lt, (set_other _ _ _ _ _ (by omega)).trans h.self, ⟨(set_other _ _ _ _ _ (by omega)).trans h.last.1, (frozen_set _ _ _ _).trans h.last.2⟩, ⟨(set_other _ _ _ _ _ (by omega)).trans h.front.1, (frozen_set _ _ _ _).trans h.front.2⟩, fun i hi => ⟨?_, (frozen_set _ _ _ _).trans (h.ring i hi).2⟩⟩
  by_cases e : i = k
  · subst e
    rw [upd_same]
    exact set_same _ _ _ _ _ (h.ring i hi).1
  · rw [upd_other _ _ _ _ e]
    exact (set_other _ _ _ _ _ (by omega)).trans (h.ring i hi).1

theorem load_any (g i : Nat) (x : Int) (w : World) (h0 : w.cell? ⟨g, i, none⟩ = some (.int .u64 x)) :
    Calls Try.prog 27 #[.pointer (some ⟨g, i, none⟩)] w fun e w' => e = .returned (.int .u64 x) ∧ w' = w := by
  have hl := run_call_load (P := Try.prog) Try.func39 (by kernel_rfl) (by kernel_rfl) (by kernel_rfl) .u64 (by kernel_rfl) h0
  go_enter Try.func27, Try.ntmps27
  go_wp2
  go_ret
  exact ⟨rfl, rfl⟩
theorem cas_any (g i : Nat) (x y : Int) (w : World) (h0 : w.cell? ⟨g, i, none⟩ = some (.int .u64 x)) (f0 : w.frozen? ⟨g, i, none⟩ = false) :
    Calls Try.prog 28 #[.pointer (some ⟨g, i, none⟩), .int .u64 x, .int .u64 y] w fun e w' => e = .returned (.bool true) ∧ w' = w.setCell ⟨g, i, none⟩ (.int .u64 y) := by
  have hl := run_call_cas_hit (P := Try.prog) Try.func40 (by kernel_rfl) (by kernel_rfl) (by kernel_rfl) .u64 (by kernel_rfl) (y := y) h0 f0
  go_enter Try.func28, Try.ntmps28
  go_wp2
  go_ret
  exact ⟨rfl, rfl⟩
theorem store_any (g i : Nat) (y : Int) (u : Value) (w : World) (h0 : w.cell? ⟨g, i, none⟩ = some u) (f0 : w.frozen? ⟨g, i, none⟩ = false) :
    Calls Try.prog 20 #[.pointer (some ⟨g, i, none⟩), .int .u64 y] w fun e w' => e = .returned (.tuple #[]) ∧ w' = w.setCell ⟨g, i, none⟩ (.int .u64 y) := by
  have hl := run_call_store (P := Try.prog) Try.func38 (by kernel_rfl) (by kernel_rfl) (by kernel_rfl) (by kernel_rfl) (k := .u64) (y := y) h0 f0
  go_enter Try.func20, Try.ntmps20
  go_wp2_with fail
  (try simp only [Exit.inBlock, Exit.then])
  refine bodyPost_end (results_none rfl _ _ _) rfl ?_
  exact ⟨rfl, rfl⟩

theorem info_clk : (Try.prog.info? 67).isSome = true := by kernel_rfl
theorem given_any (b la fr : Nat) (D : Nat → Nat) (w : World) (h : Clk w b la fr D) :
    Calls Try.prog 26 #[.pointer (some ⟨b, 0, none⟩)] w fun e w' => e = .returned (.bool true) ∧ w' = w := by
  have h1 := h.self
  clear h
  obtain ⟨j, hj⟩ := Option.isSome_iff_exists.1 info_clk
  have hq := run_eql_ptr_same (P := Try.prog) w ⟨b, 0, none⟩ Try.underlying23 hj
  clear hj
  go_enter Try.func26, Try.ntmps26
  go_wp2
  go_ret
  exact ⟨rfl, rfl⟩

theorem place_any (b s : Nat) (w : World) :
    Calls Try.prog 29 #[.pointer (some ⟨b, 0, none⟩), .int .u64 s] w fun e w' => e = .returned (.pointer (some ⟨b, 3 + s % 4096, none⟩)) ∧ w' = w := by
  go_enter Try.func29, Try.ntmps29
  go_wp2
  go_ret
  exact ⟨rfl, rfl⟩

/-- a nought, as atomics have it -/
def zU : Value → Bool
  | .int .u64 x => x == 0
  | _ => false
def okA : Value → Bool
  | .agg A => match A.toList with
    | .pointer none :: t => t.length == 4098 && t.all zU
    | _ => false
  | _ => false
def okZ (z : Option (Option Value)) : Bool := match z with
  | some (some v) => okA v
  | _ => false
theorem info_clkz : okZ ((Try.prog.info? 67).map (fun i => i.zero)) = true := by kernel_rfl
theorem zU_eq (v : Value) (h : zU v = true) : v = .int .u64 0 := by
  cases v <;> simp [zU] at h
  rename_i k x
  cases k <;> simp at h
  rw [h]
theorem zero_clk : ∃ A : Array Value, (A[0]? = some (.pointer none) ∧ ∀ i, i < 4098 → A[1 + i]? = some (.int .u64 0)) ∧ ∀ w, (zeroValue 67).run Try.prog w = .ok (.agg A) w := by
  have h := info_clkz
  cases hi : Try.prog.info? 67 with
  | none => rw [hi] at h; cases h
  | some i =>
    rw [hi] at h
    cases hz : i.zero with
    | none => simp [okZ, hz] at h
    | some v =>
      simp only [Option.map_some, hz, okZ] at h
      cases v <;> try (simp [okA] at h; done)
      rename_i A
      refine ⟨A, ?_, fun w => by simp [zeroValue, typeInfo, hi, hz]⟩
      simp only [okA] at h
      split at h
      · rename_i t ht
        simp only [Bool.and_eq_true, beq_iff_eq, List.all_eq_true] at h
        have e : A = (Value.pointer none :: t).toArray := by rw [← ht]
        subst e
        refine ⟨by simp, fun k hk => ?_⟩
        have hk' : k < t.length := by omega
        rw [List.getElem?_toArray, Nat.add_comm, List.getElem?_cons_succ, List.getElem?_eq_getElem hk']
        rw [zU_eq _ (h.2 _ (List.getElem_mem hk'))]
      · cases h

set_option maxHeartbeats 2000000 in
theorem new_any (n : Nat) (w : World) (h1 : n ≤ 4611686018427387904) :
    Calls Try.prog 8 #[.int .u64 (n : Int)] w fun e w' => ∃ b, e = .returned (.tuple #[.pointer (some ⟨b, 0, none⟩), .int .i64 0]) ∧ Clk w' b n n (fun _ => 0) ∧ w.heap.size ≤ b ∧ Below w.heap.size w w' := by
  have a1 : ¬ (4611686018427387904 < (n : Int)) := by omega
  obtain ⟨A, hA, hz0⟩ := zero_clk
  have hz := hz0 w
  have c0 : (w.alloc (.cells A 67)).cell? ⟨w.heap.size, 0, none⟩ = some (.pointer none) := by rw [World.cell?_alloc_new]; exact hA.1
  have f0 : (w.alloc (.cells A 67)).frozen? ⟨w.heap.size, 0, none⟩ = false := by simp
  have HC : Hid (Clk (w.alloc (.cells (A.setIfInBounds 0 (.pointer (some ⟨w.heap.size, 0, none⟩))) 67)) w.heap.size 0 0 (fun _ => 0)) := by
    have hs : 0 < A.size := (Array.getElem?_eq_some_iff.1 hA.1).1
    refine ⟨by simp, ?_, ⟨?_, by simp⟩, ⟨?_, by simp⟩, fun i hi => ⟨?_, by simp⟩⟩
    · rw [World.cell?_alloc_new, Array.getElem?_setIfInBounds_self_of_lt hs]
    · rw [World.cell?_alloc_new, Array.getElem?_setIfInBounds_ne (by decide)]
      exact hA.2 0 (by decide)
    · rw [World.cell?_alloc_new, Array.getElem?_setIfInBounds_ne (by decide)]
      exact hA.2 1 (by decide)
    · rw [World.cell?_alloc_new, Array.getElem?_setIfInBounds_ne (by omega)]
      have := hA.2 (2 + i) (by omega)
      rw [← Nat.add_assoc] at this
      exact this
  have HB : Hid (Below w.heap.size w (w.alloc (.cells (A.setIfInBounds 0 (.pointer (some ⟨w.heap.size, 0, none⟩))) 67))) := (Below.refl _ _).alloc (Nat.le_refl _) _
  clear hz0 hA
  go_enter Try.func8, Try.ntmps8
  go_wp2_with fail
  clear c0 f0 hz
  generalize w.alloc (.cells (A.setIfInBounds 0 (.pointer (some ⟨w.heap.size, 0, none⟩))) 67) = w1 at *
  refine (store_any w.heap.size 1 (n : Int) _ w1 HC.out.last.1 HC.out.last.2).mono ?_
  rintro e w2 ⟨rfl, hw⟩
  rw [hw]
  clear hw
  have HC2 : Hid (Clk _ _ _ _ _) := HC.out.setLast n
  have HB2 : Hid (Below _ _ _) := HB.out.setCell (p := ⟨w.heap.size, 1, none⟩) (Nat.le_refl _) (.int .u64 n)
  clear HC HB
  go_wp2_with fail
  refine (store_any w.heap.size 2 (n : Int) _ _ HC2.out.front.1 HC2.out.front.2).mono ?_
  rintro e w2 ⟨rfl, hw⟩
  rw [hw]
  clear hw
  have HC3 : Hid (Clk _ _ _ _ _) := HC2.out.setFront n
  have HB3 : Hid (Below _ _ _) := HB2.out.setCell (p := ⟨w.heap.size, 2, none⟩) (Nat.le_refl _) (.int .u64 n)
  clear HC2 HB2
  go_wp2_with fail
  go_ret2
  exact ⟨_, rfl, HC3.out, Nat.le_refl _, HB3.out⟩

theorem new_bad (n : Int) (w : World) (h : 4611686018427387904 < n) :
    Calls Try.prog 8 #[.int .u64 n] w fun e w' => e = .returned (.tuple #[.pointer none, .int .i64 1]) ∧ w' = w := by
  go_enter Try.func8, Try.ntmps8
  go_wp2
  go_ret2
  exact ⟨rfl, rfl⟩

theorem last_any (b la fr : Nat) (D : Nat → Nat) (w : World) (h : Clk w b la fr D) :
    Calls Try.prog 22 #[.pointer (some ⟨b, 0, none⟩)] w fun e w' => e = .returned (.int .u64 la) ∧ w' = w := by
  have C1 : Hid (Calls _ _ _ _ _) := given_any b la fr D w h
  have C2 : Hid (Calls _ _ _ _ _) := load_any b 1 la w h.last.1
  clear h
  go_enter Try.func22, Try.ntmps22
  go_wp2_with fail
  refine C1.out.mono ?_
  rintro e w2 ⟨rfl, hw⟩
  rw [hw]
  clear hw
  go_wp2_with fail
  refine C2.out.mono ?_
  rintro e w2 ⟨rfl, hw⟩
  rw [hw]
  clear hw
  go_wp2_with fail
  go_ret
  exact ⟨rfl, rfl⟩

theorem isOpen_any (b la fr : Nat) (D : Nat → Nat) (s : Nat) (w : World) (h : Clk w b la fr D) :
    Calls Try.prog 41 #[.pointer (some ⟨b, 0, none⟩), .int .u64 s] w fun e w' => e = .returned (.bool (decide (D (s % 4096) < s))) ∧ w' = w := by
  have hm : s % 4096 < 4096 := Nat.mod_lt _ (by decide)
  have C1 : Hid (Calls _ _ _ _ _) := place_any b s w
  have C2 : Hid (Calls _ _ _ _ _) := load_any b (3 + s % 4096) (D (s % 4096) : Nat) w (h.ring _ hm).1
  clear h
  generalize D (s % 4096) = d at *
  go_enter Try.func41, Try.ntmps41
  go_wp2_with fail
  refine C1.out.mono ?_
  rintro e w2 ⟨rfl, hw⟩
  rw [hw]
  clear hw
  go_wp2_with fail
  refine C2.out.mono ?_
  rintro e w2 ⟨rfl, hw⟩
  rw [hw]
  clear hw
  go_wp2_with fail
  go_ret
  exact ⟨by simp, rfl⟩
end Go.Proofs.Ytckjgnjakkeodaa
