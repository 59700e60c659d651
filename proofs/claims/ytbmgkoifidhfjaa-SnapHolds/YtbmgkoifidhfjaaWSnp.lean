/- Readers in memory; the atomics; New. -/
import Derived.Test.YtbmgkoifidhfjaaMSnp
namespace Go.Proofs.Ytbmgkoifidhfjaa
open Go.RowKit
set_option maxRecDepth 100000

abbrev ptr1 (b : Nat) : Value := .pointer (some ⟨b, 0, none⟩)
/-- ALL BUT SOME BLOCKS ARE AS THEY WERE. -/
structure Frm (w w' : World) (F : Nat → Prop) : Prop where
  os : w'.os = w.os
  tape : w'.tape = w.tape
  output : w'.output = w.output
  size : w.heap.size ≤ w'.heap.size
  block : ∀ k, k < w.heap.size → ¬ F k → w'.heap[k]? = w.heap[k]?
theorem Frm.refl (w : World) (F : Nat → Prop) : Frm w w F := ⟨rfl, rfl, rfl, Nat.le_refl _, fun _ _ _ => rfl⟩
theorem Frm.trans {w w1 w2 : World} {F : Nat → Prop} (h1 : Frm w w1 F) (h2 : Frm w1 w2 F) : Frm w w2 F :=
  ⟨h2.os.trans h1.os, h2.tape.trans h1.tape, h2.output.trans h1.output, Nat.le_trans h1.size h2.size, fun k hk hn => (h2.block k (Nat.lt_of_lt_of_le hk h1.size) hn).trans (h1.block k hk hn)⟩
theorem Frm.below {w w' : World} {F : Nat → Prop} {B : Nat} (h : Frm w w' F) (hB : B ≤ w.heap.size) (hF : ∀ k, F k → B ≤ k) : Below B w w' := ⟨h.os, h.tape, h.output, h.size, fun k hk => h.block k (Nat.lt_of_lt_of_le hk hB) (fun hf => by have := hF k hf; omega)⟩
theorem Frm.of_below {w w' : World} {F : Nat → Prop} (h : Below w.heap.size w w') : Frm w w' F := ⟨h.os, h.tape, h.output, h.size, fun k hk _ => h.block k hk⟩
theorem frm_set (w : World) (g i : Nat) (u : Value) {F : Nat → Prop} (hF : F g) : Frm w (w.setCell ⟨g, i, none⟩ u) F :=
  ⟨rfl, rfl, rfl, (grownBy_set w g i u).size, fun k hk hn => (grownBy_set w g i u).block k hk (by simp; intro e; exact hn (by rw [e]; exact hF))⟩
/-- a block as it is -/
def BoxT (w : World) (g : Nat) (vs : Array Value) (T : TypeId) : Prop := w.heap[g]? = some (.cells vs T (0, 0))
theorem BoxT.new (w : World) (vs : Array Value) (T : TypeId) : BoxT (w.alloc (.cells vs T)) w.heap.size vs T := heap_alloc_new w _
theorem BoxT.lt {w : World} {g : Nat} {vs : Array Value} {T : TypeId} (h : BoxT w g vs T) : g < w.heap.size := (Array.getElem?_eq_some_iff.1 h).1
theorem BoxT.on {w w' : World} {g : Nat} {vs : Array Value} {T : TypeId} (h : BoxT w g vs T) (hb : Below w.heap.size w w') : BoxT w' g vs T := (hb.block g h.lt).trans h
theorem BoxT.set {w : World} {g i : Nat} {vs : Array Value} {T : TypeId} (h : BoxT w g vs T) (x : Value) : BoxT (w.setCell ⟨g, i, none⟩ x) g (vs.setIfInBounds i x) T := heap_set_same w g i x _ _ _ h
theorem BoxT.off {w : World} {g j i : Nat} {vs : Array Value} {T : TypeId} (h : BoxT w g vs T) (x : Value) (hj : g ≠ j) : BoxT (w.setCell ⟨j, i, none⟩ x) g vs T := (Below.heap_setCell _ _ _ _ hj).trans h
theorem BoxT.cell {w : World} {g i : Nat} {vs : Array Value} {T : TypeId} (h : BoxT w g vs T) : w.cell? ⟨g, i, none⟩ = vs[i]? := by
  unfold BoxT at h
  simp [World.cell?, h]
theorem BoxT.frozen {w : World} {g i : Nat} {vs : Array Value} {T : TypeId} (h : BoxT w g vs T) : w.frozen? ⟨g, i, none⟩ = false := by
  unfold BoxT at h
  simp [World.frozen?, h]
theorem BoxT.ne {w : World} {g g' : Nat} {vs vs' : Array Value} {T T' : TypeId} (h : BoxT w g vs T) (h' : BoxT w g' vs' T') (hT : T ≠ T') : g ≠ g' := by
  intro e
  subst e
  unfold BoxT at h h'
  rw [h] at h'
  injection h' with h'
  injection h' with _ h'
  exact hT h'
theorem own_cells {w : World} {b0 T s n : Nat} {v : Value} {xs : List Value} (h : w.ownsRow b0 T s v n xs) {g : Nat} (hg : v.ownBlock = some g) : ∃ cur, w.heap[g]? = some (.cells cur T (0, 0)) := by
  rcases h.2 with ⟨rfl, _⟩ | ⟨g', cap, cur, rfl, h1, h2, h3⟩
  · cases hg
  · cases hg
    exact ⟨cur, h2⟩
theorem owns_block {w w' : World} {b0 T s n : Nat} {v : Value} {xs : List Value} (h : w.ownsRow b0 T s v n xs) (hb : ∀ g, v.ownBlock = some g → w'.heap[g]? = w.heap[g]?) : w'.ownsRow b0 T s v n xs := by
  refine ⟨h.1, ?_⟩
  rcases h.2 with h1 | ⟨g, cap, cur, e, h0, h2, r⟩
  · exact .inl h1
  · exact .inr ⟨g, cap, cur, e, h0, (hb g (by rw [e]; rfl)).trans h2, r⟩
theorem owns_base {w : World} {B C e size n : Nat} {v : Value} {xs : List Value} (h : w.ownsRow B e size v n xs) (hc : C ≤ B) : w.ownsRow C e size v n xs := by
  refine ⟨h.1, ?_⟩
  rcases h.2 with h1 | ⟨g, cap, cur, e, hb', r⟩
  · exact .inl h1
  · exact .inr ⟨g, cap, cur, e, Nat.le_trans hc hb', r⟩

/-- a reader as cells -/
def rcell (r : Rd) : List Value := [.int .i64 (r.sl : Nat), .int .u64 (r.st : Nat)]
/-- READERS IN A SLICE OF THEIR OWN -/
def OwR (w : World) (B : Nat) (v : Value) (R : List Rd) : Prop := w.ownsRow B 49 2 v R.length (R.flatMap rcell)
theorem OwR.on {w w' : World} {B : Nat} {v : Value} {R : List Rd} (h : OwR w B v R) (hb : Below w.heap.size w w') : OwR w' B v R := owns_block h (fun g hg => by obtain ⟨cur, h1⟩ := own_cells h hg; exact hb.block g (Array.getElem?_eq_some_iff.1 h1).1)
theorem OwR.frm {w w' : World} {B sb : Nat} {v : Value} {R : List Rd} {vs : Array Value} {T : TypeId} (h : OwR w B v R) (hs : BoxT w sb vs T) (hT : T ≠ 49) (hf : Frm w w' (fun k => k = sb)) : OwR w' B v R := owns_block h (fun g hg => by
  obtain ⟨cur, h1⟩ := own_cells h hg
  refine hf.block g (Array.getElem?_eq_some_iff.1 h1).1 (fun e => ?_)
  subst e
  unfold BoxT at hs
  rw [hs] at h1
  injection h1 with h1
  injection h1 with _ h1
  exact hT h1)
theorem flat_at {A : Type} (size : Nat) (f : A → List Value) (hf : ∀ x, (f x).length = size) (L : List A) (i : Nat) (hi : i < L.length) (t : Nat) (ht : t < size) : (L.flatMap f)[i * size + t]? = (f L[i])[t]? := by
  induction L generalizing i with
  | nil => simp at hi
  | cons v L ih =>
    have hl : (f v).length = size := hf v
    simp only [List.flatMap_cons]
    cases i with
    | zero => rw [Nat.zero_mul, Nat.zero_add, List.getElem?_append_left (by omega)]; rfl
    | succ i =>
      have e : (i + 1) * size + t = size + (i * size + t) := by rw [Nat.succ_mul]; omega
      rw [e, List.getElem?_append_right (by omega), hl, Nat.add_sub_cancel_left]
      exact ih i (by simpa using hi)
theorem rflat_len (R : List Rd) : (R.flatMap rcell).length = R.length * 2 := by
  induction R with
  | nil => rfl
  | cons r t ih => rw [List.flatMap_cons, List.length_append, ih]; simp [rcell]; omega
/-- READERS THAT ARE READ -/
def RdR (w : World) (p : Option Addr) (R : List Rd) : Prop := ∀ i (hi : i < R.length), ∃ b o, p = some ⟨b, o, none⟩ ∧ b < w.heap.size ∧ w.cell? ⟨b, o + i * 2, none⟩ = some (.int .i64 (R[i].sl : Nat)) ∧ w.cell? ⟨b, o + i * 2 + 1, none⟩ = some (.int .u64 (R[i].st : Nat))
theorem RdR.on {w w' : World} {p : Option Addr} {R : List Rd} (h : RdR w p R) (hb : Below w.heap.size w w') : RdR w' p R := fun i hi => by
  obtain ⟨b, o, e, hl, c0, c1⟩ := h i hi
  exact ⟨b, o, e, Nat.lt_of_lt_of_le hl hb.size, (hb.cell (p := ⟨b, o + i * 2, none⟩) hl).trans c0, (hb.cell (p := ⟨b, o + i * 2 + 1, none⟩) hl).trans c1⟩
theorem OwR.rd {w : World} {B : Nat} {v : Value} {R : List Rd} (h : OwR w B v R) : ∃ p c, v = .slice p R.length c ∧ R.length ≤ c ∧ (p = none → R = [] ∧ c = 0) ∧ (∀ a, p = some a → a = ⟨a.block, 0, none⟩ ∧ a.block < w.heap.size) ∧ RdR w p R := by
  rcases h.2 with ⟨rfl, h2⟩ | ⟨g, cap, cur, rfl, hb, hg, hc, hm, hcs, htk⟩
  · have e : R = [] := List.length_eq_zero_iff.1 h2
    subst e
    exact ⟨none, 0, rfl, Nat.le_refl _, fun _ => ⟨rfl, rfl⟩, (fun a ha => by cases ha), fun i hi => absurd hi (by simp)⟩
  · refine ⟨_, cap, rfl, hc, (fun h => by cases h), (fun a ha => by cases ha; exact ⟨rfl, (Array.getElem?_eq_some_iff.1 hg).1⟩), fun i hi => ⟨g, 0, rfl, (Array.getElem?_eq_some_iff.1 hg).1, ?_, ?_⟩⟩
    · have h1 := flat_at 2 rcell (fun _ => rfl) R i hi 0 (by decide)
      rw [← htk, List.getElem?_take_of_lt (by omega)] at h1
      have e : 0 + i * 2 = i * 2 + 0 := by omega
      rw [e]
      simp only [World.cell?, hg]
      simpa [rcell] using h1
    · have h1 := flat_at 2 rcell (fun _ => rfl) R i hi 1 (by decide)
      rw [← htk, List.getElem?_take_of_lt (by omega)] at h1
      have e : 0 + i * 2 + 1 = i * 2 + 1 := by omega
      rw [e]
      simp only [World.cell?, hg]
      simpa [rcell] using h1
/-- A Snaps (block sb) AND ITS STATE (block tb) -/
structure SnX (w : World) (sb tb at' fl : Nat) (v : Value) (R : List Rd) : Prop where
  blk : BoxT w sb #[ptr1 sb, ptr1 tb] 74
  sta : BoxT w tb #[.int .u64 (at' : Nat), .int .u64 (fl : Nat), v] 77
  rdr : OwR w 0 v R
  inv : InvR R
def Snp (w : World) (sb fl : Nat) (R : List Rd) : Prop := ∃ tb at' v, at' < 18446744073709551616 ∧ SnX w sb tb at' fl v R
theorem SnX.on {w w' : World} {sb tb at' fl : Nat} {v : Value} {R : List Rd} (h : SnX w sb tb at' fl v R) (hb : Below w.heap.size w w') : SnX w' sb tb at' fl v R := ⟨h.blk.on hb, h.sta.on hb, h.rdr.on hb, h.inv⟩
theorem Snp.on {w w' : World} {sb fl : Nat} {R : List Rd} (h : Snp w sb fl R) (hb : Below w.heap.size w w') : Snp w' sb fl R := by
  obtain ⟨tb, a, v, ha, h⟩ := h
  exact ⟨tb, a, v, ha, h.on hb⟩
theorem Snp.drew {w : World} {sb fl : Nat} {R : List Rd} (h : Snp w sb fl R) : Snp w.drew sb fl R := h.on (by go_grown)

theorem info_st : ∃ j, Try.prog.info? 77 = some j ∧ j.size ≠ 0 := by
  have h : ((Try.prog.info? 77).map (fun i => decide (i.size ≠ 0))) = some true := by kernel_rfl
  obtain ⟨j, hj, h2⟩ := Option.map_eq_some_iff.1 h
  exact ⟨j, hj, by simpa using h2⟩
theorem lies_st : liesAt Try.prog Try.prog.depth 77 (3 / Try.prog.cellsOf 77) 0 77 1 = true := by kernel_rfl
theorem from_st {w : World} {g : Nat} {x y z : Value} (h3 : BoxT w g #[x, y, z] 77) : (convert 70 66 (ptr1 g)).run Try.prog w = .ok (ptr1 g) w := by
  obtain ⟨j, hj, _⟩ := info_st
  unfold BoxT at h3
  exact from_raw ⟨g, 0, none⟩ Try.underlying70 Try.underlying66 hj (e := 77) (cells := 3) (by simp [World.shape?, h3]) lies_st
theorem to_st {w : World} {g : Nat} {x y z : Value} (h3 : BoxT w g #[x, y, z] 77) : (convert 66 70 (ptr1 g)).run Try.prog w = .ok (ptr1 g) w := by
  obtain ⟨j, hj, hs⟩ := info_st
  unfold BoxT at h3
  exact to_raw ⟨g, 0, none⟩ Try.underlying66 Try.underlying70 hj hs (e := 77) (cells := 3) (by simp [World.shape?, h3]) (show 0 < 3 by decide)
theorem pload_any (sb g : Nat) (x y z : Value) (w : World) (h : w.cell? ⟨sb, 1, none⟩ = some (ptr1 g)) (h3 : BoxT w g #[x, y, z] 77) :
    Calls Try.prog 31 #[.pointer (some ⟨sb, 1, none⟩)] w fun e w' => e = .returned (ptr1 g) ∧ w' = w := by
  have hl := run_call_loadp (P := Try.prog) Try.func46 (by kernel_rfl) (by kernel_rfl) (by kernel_rfl) (by kernel_rfl) h
  have hc := from_st h3
  clear h h3
  go_enter Try.func31, Try.ntmps31
  go_wp2
  go_ret
  exact ⟨rfl, rfl⟩
theorem pcas_any (sb g g2 : Nat) (x y z x2 y2 z2 : Value) (w : World) (h : w.cell? ⟨sb, 1, none⟩ = some (ptr1 g)) (hf : w.frozen? ⟨sb, 1, none⟩ = false) (h3 : BoxT w g #[x, y, z] 77) (h4 : BoxT w g2 #[x2, y2, z2] 77) :
    Calls Try.prog 69 #[.pointer (some ⟨sb, 1, none⟩), ptr1 g, ptr1 g2] w fun e w' => e = .returned (.bool true) ∧ w' = w.setCell ⟨sb, 1, none⟩ (ptr1 g2) := by
  have hl := run_call_casp_hit (P := Try.prog) Try.func83 (by kernel_rfl) (by kernel_rfl) (by kernel_rfl) (by kernel_rfl) (q := some ⟨g2, 0, none⟩) h hf
  have hc := to_st h3
  have hd := to_st h4
  clear h h3 h4 hf
  go_enter Try.func69, Try.ntmps69
  go_wp2
  go_ret
  exact ⟨rfl, rfl⟩
theorem given_any (w : World) (sb tb at' fl : Nat) (v : Value) (R : List Rd) (h : SnX w sb tb at' fl v R) :
    Calls Try.prog 28 #[ptr1 sb] w fun e w' => e = .returned (.bool true) ∧ w' = w := by
  have c0 : w.cell? ⟨sb, 0, none⟩ = some (ptr1 sb) := h.blk.cell
  obtain ⟨j, hj⟩ : ∃ j, Try.prog.info? 74 = some j := by
    have h : (Try.prog.info? 74).isSome = true := by kernel_rfl
    exact Option.isSome_iff_exists.1 h
  have hs := run_eql_ptr_same (P := Try.prog) (w := w) ⟨sb, 0, none⟩ Try.underlying23 hj
  clear h hj
  go_enter Try.func28, Try.ntmps28
  go_wp2_with fail
  go_ret
  exact ⟨rfl, rfl⟩
end Go.Proofs.Ytbmgkoifidhfjaa
