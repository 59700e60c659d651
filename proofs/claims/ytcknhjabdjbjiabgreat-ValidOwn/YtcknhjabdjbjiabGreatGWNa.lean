/- A map of lists of ranges that is keyed by points: looked up, written. A span's range is put into the map of ranges. The keys of a map that is keyed by points, one behind the other: maps.Keys. What maps.Keys gives is collected. -/
import Derived.Maps.AppendAt
import Derived.Maps.RangeRun
import Derived.Sort.MapsRangeIn
import Derived.RangeFuncNested
import Derived.RangeFuncBound
import Derived.RangeFuncCalls
import Derived.RangeFuncLeaves
import Derived.RangeFuncBox
import Derived.Shelf.Abstract
import Derived.Shelf.RegionOpen
import Derived.WalkKit
import Derived.OwnWalkIn
import Derived.TacticsInMore
import Derived.LoopNIn
import Derived.LoopIn
import Derived.Test.YtcknhjabdjbjiabGreatGWCl10
import Derived.Test.YtcknhjabdjbjiabGreatGWPtM
namespace Go.Proofs.YtcknhjabdjbjiabGreat

section
open Go.RowKit
set_option maxRecDepth 100000

/-- where a key is, and its value -/
def fndV : List (Pt × Value) → Pt → Option (Nat × Value)
  | [], _ => none
  | e :: E, x => if x = e.1 then some (0, e.2) else (fndV E x).map (fun p => (p.1 + 1, p.2))
def getV (E : List (Pt × Value)) (x : Pt) : Value := match fndV E x with | some p => p.2 | none => .slice none 0 0
def putV (E : List (Pt × Value)) (x : Pt) (v : Value) : List (Pt × Value) := match fndV E x with | some p => E.set p.1 (x, v) | none => E ++ [(x, v)]
theorem fndV_some : ∀ {E : List (Pt × Value)} {x : Pt} {i : Nat} {v : Value}, fndV E x = some (i, v) → E[i]? = some (x, v)
  | [], x, i, v, h => by cases h
  | e :: E, x, i, v, h => by
    unfold fndV at h
    by_cases hx : x = e.1
    · rw [if_pos hx] at h
      cases h
      subst hx
      rfl
    · rw [if_neg hx] at h
      cases h1 : fndV E x with
      | none => rw [h1] at h; cases h
      | some p =>
        rw [h1] at h
        cases h
        exact fndV_some (i := p.1) (v := p.2) h1
theorem fndV_none : ∀ {E : List (Pt × Value)} {x : Pt}, fndV E x = none → x ∉ E.map (·.1)
  | [], x, _ => by simp
  | e :: E, x, h => by
    unfold fndV at h
    by_cases hx : x = e.1
    · rw [if_pos hx] at h; cases h
    · rw [if_neg hx] at h
      have h2 : fndV E x = none := by cases h3 : fndV E x with | none => rfl | some p => rw [h3] at h; cases h
      simp only [List.map_cons, List.mem_cons, not_or]
      exact ⟨hx, fndV_none h2⟩

/-- block mb is a map of values that is keyed by points -/
structure MapV (w : World) (mb : Nat) (E : List (Pt × Value)) : Prop where
  f : ∃ es c, w.heap[mb]? = some (.map es c) ∧ es.toList.map (fun e => (e.key, e.val)) = E.map (fun x => (PV x.1, x.2)) ∧ (∀ e ∈ es.toList, e.born < c) ∧ (es.toList.map (·.born)).Nodup
theorem MapV.of_block {w w' : World} {mb : Nat} {E : List (Pt × Value)} (h : MapV w mb E) (hb : w'.heap[mb]? = w.heap[mb]?) : MapV w' mb E := by
  obtain ⟨es, c, h1, h2⟩ := h.f
  exact ⟨es, c, hb.trans h1, h2⟩
theorem MapV.lt {w : World} {mb : Nat} {E : List (Pt × Value)} (h : MapV w mb E) : mb < w.heap.size := by
  obtain ⟨es, c, h1, h2⟩ := h.f
  exact (Array.getElem?_eq_some_iff.1 h1).1
theorem MapV.on {w w' : World} {mb : Nat} {E : List (Pt × Value)} (h : MapV w mb E) (hb : Below w.heap.size w w') : MapV w' mb E := h.of_block (hb.block mb h.lt)
theorem MapV.made (w : World) : MapV (w.alloc (.map #[] 0)) w.heap.size [] := ⟨#[], 0, heap_alloc_new w _, rfl, by simp, by simp⟩

theorem askV_run (x : Pt) (w : World) : ∀ (es : List MapEntry) (E : List (Pt × Value)) (i : Nat), es.map (fun e => (e.key, e.val)) = E.map (fun x => (PV x.1, x.2)) →
    (Instr.findAsking 36 (PV x) es i).run Tryz.prog w = .ok ((fndV E x).map (fun p => (i + p.1, p.2))) w
  | [], [], i, _ => rfl
  | [], k :: K, i, h => by simp at h
  | e :: es, [], i, h => by simp at h
  | e :: es, k :: K, i, h => by
    simp only [List.map_cons, List.cons.injEq, Prod.mk.injEq] at h
    obtain ⟨⟨hk, hv⟩, ht⟩ := h
    have ih := askV_run x w es K (i + 1) ht
    have he : (Op.equal 36 (PV x) e.key).run Tryz.prog w = .ok (decide (x = k.1)) w := by rw [hk]; exact run_eqInP x k.1 w
    unfold Instr.findAsking fndV
    simp only [Sem.run_bind, he, Result.andThen_ok]
    by_cases hx : x = k.1
    · subst hx
      simp [hv]
    · simp only [decide_eq_false hx, Bool.false_eq_true, if_false, ih, if_neg hx]
      congr 1
      cases fndV K x with
      | none => rfl
      | some p => simp only [Option.map_some, Option.some.injEq, Prod.mk.injEq, and_true]; omega

theorem findV_run (x : Pt) (w : World) (es : List MapEntry) (E : List (Pt × Value)) (h : es.map (fun e => (e.key, e.val)) = E.map (fun x => (PV x.1, x.2))) :
    (Instr.findKey 36 (PV x) es).run Tryz.prog w = .ok (fndV E x) w := by
  unfold Instr.findKey
  simp only [Sem.run_bind, run_underlying Tryz.underlying36, Result.andThen_ok]
  match es, E, h with
  | [], [], _ => rfl
  | [], k :: K, h => simp at h
  | e :: es, [], h => simp at h
  | e :: es, k :: K, h =>
    have h9 := askV_run x w (e :: es) (k :: K) 0 h
    have h8 : (fndV (k :: K) x).map (fun p => (0 + p.1, p.2)) = fndV (k :: K) x := by cases fndV (k :: K) x <;> simp
    rw [h8] at h9
    simp only [Instr.findNow, Instr.sameNow]
    exact h9

theorem zeroRs (w : World) : (zeroValue 124).run Tryz.prog w = .ok (.slice none 0 0) w := by kernel_rfl
theorem MapV.look {w : World} {mb : Nat} {E : List (Pt × Value)} (h : MapV w mb E) (x : Pt) :
    (Instr.lookup 123 (.map (some mb)) (PV x) false).run Tryz.prog w = .ok (getV E x) w := by
  obtain ⟨es, c, h1, h2, _⟩ := h.f
  have hf := findV_run x w es.toList E h2
  unfold Instr.lookup getV
  simp only [Sem.run_bind, run_underlying Tryz.underlying123, Result.andThen_ok, MapKept.run_getObj_map h1, Sem.run_pure, run_checkP, hf]
  cases fndV E x with
  | none => simp
  | some p => simp

/-- entry i of map mb has stamp bn -/
structure EntM (w : World) (mb : Nat) (E : List (Pt × Value)) (i bn : Nat) : Prop where
  f : ∃ es c, w.heap[mb]? = some (.map es c) ∧ es.toList.map (fun e => (e.key, e.val)) = E.map (fun x => (PV x.1, x.2)) ∧ (∀ e ∈ es.toList, e.born < c) ∧ (es.toList.map (·.born)).Nodup ∧ ∃ e, es[i]? = some e ∧ e.born = bn
theorem EntM.of_block {w w' : World} {mb : Nat} {E : List (Pt × Value)} {i bn : Nat} (h : EntM w mb E i bn) (hb : w'.heap[mb]? = w.heap[mb]?) : EntM w' mb E i bn := by
  obtain ⟨es, c, h1, h2⟩ := h.f
  exact ⟨es, c, hb.trans h1, h2⟩
theorem EntM.mapV {w : World} {mb : Nat} {E : List (Pt × Value)} {i bn : Nat} (h : EntM w mb E i bn) : MapV w mb E := by
  obtain ⟨es, c, h1, h2, h3, h4, _⟩ := h.f
  exact ⟨es, c, h1, h2, h3, h4⟩
theorem MapV.entry {w : World} {mb : Nat} {E : List (Pt × Value)} (h : MapV w mb E) (x : Pt) :
    ∃ w' i bn, (Instr.mapEntry 123 (.map (some mb)) (PV x)).run Tryz.prog w = .ok (.tuple #[getV E x, .int .i64 (bn : Nat)]) w' ∧ EntM w' mb (putV E x (getV E x)) i bn ∧ (∀ v, (putV E x (getV E x)).set i (x, v) = putV E x v) ∧
      (∃ v, (putV E x (getV E x))[i]? = some (x, v)) ∧ w.grownBy w' (some mb) ∧ w'.heap.size = w.heap.size := by
  obtain ⟨es, c, h1, h2, hbo, hnd⟩ := h.f
  have hlt : mb < w.heap.size := (Array.getElem?_eq_some_iff.1 h1).1
  have hf := findV_run x w es.toList E h2
  unfold putV getV
  cases hx : fndV E x with
  | some p =>
    obtain ⟨i, v0⟩ := p
    rw [hx] at hf
    have hE := fndV_some hx
    have hi : i < E.length := (List.getElem?_eq_some_iff.1 hE).1
    have hl : es.size = E.length := by have := congrArg List.length h2; simpa using this
    have hi2 : i < es.size := by omega
    have hk := congrArg (fun l => l[i]?) h2
    simp only [List.getElem?_map, Array.getElem?_toList, hE, Array.getElem?_eq_getElem hi2, Option.map_some, Option.some.injEq, Prod.mk.injEq] at hk
    have hset : E.set i (x, v0) = E := by
      apply List.ext_getElem?
      intro j
      rw [List.getElem?_set]
      by_cases hj : i = j
      · subst hj; simp [hi, ← hE]
      · simp [hj]
    have hmod : (es.modify i fun e => { e with key := PV x }) = es := by
      apply Array.ext
      · simp
      · intro j h1 h2
        rw [Array.getElem_modify]
        split
        · rename_i hj
          subst hj
          have h5 := hk.1
          generalize es[i] = e0 at h5 ⊢
          cases e0
          simp only at h5
          subst h5
          rfl
        · rfl
    refine ⟨{ w with heap := w.heap.setIfInBounds mb (.map (es.modify i fun e => { e with key := PV x }) c) }, i, (es[i]).born, ?_, ?_, ?_, ?_, ?_, by simp⟩
    · unfold Instr.mapEntry
      simp only [Sem.run_bind, run_underlying Tryz.underlying123, Result.andThen_ok, MapKept.run_getObj_map h1, Sem.run_pure, run_checkP, hf, Instr.keyThatStays, Array.getElem?_eq_getElem hi2, Option.map_some, Option.getD_some, hk.1, bitsP, if_true, MapKept.run_setObj_map _ h1]
      rfl
    · dsimp only
      rw [hset, hmod]
      exact ⟨es, c, by simp [hlt], h2, hbo, hnd, es[i], Array.getElem?_eq_getElem hi2, rfl⟩
    · intro v
      dsimp only
      rw [hset]
    · dsimp only
      rw [hset]
      exact ⟨v0, hE⟩
    · refine ⟨rfl, rfl, rfl, by simp, fun k _ hk => ?_⟩
      have hne : mb ≠ k := fun e => hk (by rw [e])
      simp [hne]
  | none =>
    rw [hx] at hf
    have hl : es.size = E.length := by have := congrArg List.length h2; simpa using this
    refine ⟨{ w with heap := w.heap.setIfInBounds mb (.map (es.push { key := PV x, val := .slice none 0 0, born := c }) (c + 1)) }, E.length, c, ?_, ?_, ?_, ?_, ?_, by simp⟩
    · unfold Instr.mapEntry
      simp only [Sem.run_bind, run_underlying Tryz.underlying123, Result.andThen_ok, MapKept.run_getObj_map h1, run_checkP, hf, zeroRs, MapKept.run_setObj_map _ h1]
      rfl
    · refine ⟨es.push { key := PV x, val := .slice none 0 0, born := c }, c + 1, by simp [hlt], by simp [h2], ?_, ?_, { key := PV x, val := .slice none 0 0, born := c }, ?_, rfl⟩
      · intro e he
        simp only [Array.toList_push, List.mem_append, List.mem_singleton] at he
        rcases he with he | rfl
        · have := hbo e he; omega
        · simp
      · simp only [Array.toList_push, List.map_append, List.map_cons, List.map_nil]
        refine List.nodup_append.2 ⟨hnd, by simp, ?_⟩
        intro a ha b hb
        obtain ⟨e, he, rfl⟩ := List.mem_map.1 ha
        simp only [List.mem_singleton] at hb
        have := hbo e he
        omega
      · rw [← hl]; simp
    · intro v; simp
    · exact ⟨.slice none 0 0, by simp⟩
    · refine ⟨rfl, rfl, rfl, by simp, fun k _ hk => ?_⟩
      have hne : mb ≠ k := fun e => hk (by rw [e])
      simp [hne]
theorem EntM.store {w : World} {mb : Nat} {E : List (Pt × Value)} {i bn : Nat} (h : EntM w mb E i bn) (x : Pt) (v v0 : Value) (hE : E[i]? = some (x, v0)) :
    ∃ w', (Instr.entryStore 123 (.map (some mb)) (.int .i64 (bn : Nat)) v).run Tryz.prog w = .ok () w' ∧ MapV w' mb (E.set i (x, v)) ∧ w.grownBy w' (some mb) ∧ w'.heap.size = w.heap.size := by
  obtain ⟨es, c, h1, h2, hbo, hnd, e, he, hb⟩ := h.f
  have hlt : mb < w.heap.size := (Array.getElem?_eq_some_iff.1 h1).1
  have hi2 : i < es.size := (Array.getElem?_eq_some_iff.1 he).1
  have hl : es.size = E.length := by have := congrArg List.length h2; simpa using this
  have hi : i < E.length := by omega
  have hk := congrArg (fun l => l[i]?) h2
  simp only [List.getElem?_map, Array.getElem?_toList, hE, he, Option.map_some, Option.some.injEq, Prod.mk.injEq] at hk
  have hfi : es.findIdx? (fun e => (e.born : Int) == (bn : Int)) = some i := by
    rw [Array.findIdx?_eq_some_iff_getElem]
    have hei : es[i] = e := (Array.getElem?_eq_some_iff.1 he).2
    refine ⟨hi2, by rw [hei, hb]; simp, fun j hj => ?_⟩
    intro hc0
    have hc : (es[j]'(by omega)).born = bn := by have h := beq_iff_eq.1 hc0; omega
    have hj2 : j < es.toList.length := by simp; omega
    have h5 : (es.toList.map (·.born))[j]? = (es.toList.map (·.born))[i]? := by
      simp only [List.getElem?_map, Array.getElem?_toList, Array.getElem?_eq_getElem (show j < es.size by omega), he, Option.map_some, hc, hb]
    have := (List.getElem?_inj (by simpa using hj2) hnd).1 h5
    omega
  have hborn : (es.modify i fun e => { e with val := v }).toList.map (·.born) = es.toList.map (·.born) := by
    apply List.ext_getElem?
    intro j
    simp only [List.getElem?_map, Array.getElem?_toList, Array.getElem?_modify]
    split
    · rename_i hj
      subst hj
      rw [Array.getElem?_eq_getElem hi2]
      rfl
    · rfl
  refine ⟨{ w with heap := w.heap.setIfInBounds mb (.map (es.modify i fun e => { e with val := v }) c) }, ?_, ⟨es.modify i fun e => { e with val := v }, c, by simp [hlt], ?_, ?_, by rw [hborn]; exact hnd⟩, ?_, by simp⟩
  · unfold Instr.entryStore
    simp only [Sem.run_bind, Result.andThen_ok, MapKept.run_getObj_map h1, asInt, asIntOf, Sem.run_pure, hfi, MapKept.run_setObj_map _ h1]
  · apply List.ext_getElem?
    intro j
    have hj2 := congrArg (fun l => l[j]?) h2
    simp only [List.getElem?_map, Array.getElem?_toList] at hj2
    simp only [List.getElem?_map, Array.getElem?_toList, Array.getElem?_modify, List.getElem?_set]
    by_cases hj : i = j
    · subst hj
      simp [hi, he, hk.1]
    · simp only [hj, if_false]
      exact hj2
  · intro e he
    have h5 : e.born ∈ es.toList.map (·.born) := by rw [← hborn]; exact List.mem_map.2 ⟨e, he, rfl⟩
    obtain ⟨e0, h6, h7⟩ := List.mem_map.1 h5
    rw [← h7]
    exact hbo e0 h6
  · refine ⟨rfl, rfl, rfl, by simp, fun k _ hk => ?_⟩
    have hne : mb ≠ k := fun e => hk (by rw [e])
    simp [hne]

/-- block mb is a map of lists of ranges, each in a row of its own: a place, its value, its ranges -/
structure RgM (w : World) (B mb : Nat) (E : List (Pt × Value × List Rg)) : Prop where
  map : MapV w mb (E.map (fun e => (e.1, e.2.1)))
  own : ∀ e ∈ E, OwnR w B e.2.1 e.2.2
  apart : ∀ (i j : Nat) (a b : Pt × Value × List Rg), E[i]? = some a → E[j]? = some b → i ≠ j → ∀ g, a.2.1.ownBlock = some g → b.2.1.ownBlock ≠ some g
  nodup : (E.map (·.1)).Nodup
/-- the map holds the ranges of these spans -/
structure HoldsM (L : List Sp) (E : List (Pt × Value × List Rg)) : Prop where
  rngs : ∀ e ∈ E, e.1.k = ⟨#[]⟩ ∧ e.2.2 = rngsAt L e.1
  all : ∀ s ∈ L, plcS s ∈ E.map (·.1)
theorem HoldsM.nil : HoldsM [] [] := ⟨by simp, by simp⟩
theorem rngsAt_snoc (L : List Sp) (s : Sp) (p : Pt) : rngsAt (L ++ [s]) p = rngsAt L p ++ (if plcS s = p then [s.rg] else []) := by
  unfold rngsAt
  rw [List.filter_append, List.map_append]
  congr 1
  by_cases h : plcS s = p <;> simp [h]
theorem rngsAt_none {L : List Sp} {E : List (Pt × Value × List Rg)} (h : HoldsM L E) {p : Pt} (hp : p ∉ E.map (·.1)) : rngsAt L p = [] := by
  unfold rngsAt
  rw [List.map_eq_nil_iff, List.filter_eq_nil_iff]
  intro s hs he
  exact hp (of_decide_eq_true he ▸ h.all s hs)
theorem own_blk {w : World} {B : Nat} {v : Value} {L : List Rg} (h : OwnR w B v L) {g : Nat} (hg : v.ownBlock = some g) : ∃ cur, w.heap[g]? = some (.cells cur 84 (0, 0)) := by
  rcases (show w.ownsRow B 84 3 v L.length (rcells L) from h).2 with ⟨rfl, _⟩ | ⟨g', cap, cur, rfl, _, hgb, _⟩
  · cases hg
  · cases hg
    exact ⟨cur, hgb⟩
theorem own_not_map {w : World} {B mb : Nat} {v : Value} {L : List Rg} (h : OwnR w B v L) {E : List (Pt × Value)} (hm : MapV w mb E) : v.ownBlock ≠ some mb := fun hg => by
  obtain ⟨cur, h1⟩ := own_blk h hg
  obtain ⟨es, c, h2, _⟩ := hm.f
  rw [h1] at h2
  cases h2
theorem RgM.on {w w' : World} {B mb : Nat} {E : List (Pt × Value × List Rg)} (h : RgM w B mb E) (hb : Below w.heap.size w w') : RgM w' B mb E :=
  ⟨h.map.on hb, fun e he => (h.own e he).kept hb, h.apart, h.nodup⟩
theorem RgM.made (w : World) (B : Nat) : RgM (w.alloc (.map #[] 0)) B w.heap.size [] := ⟨MapV.made w, by simp, by simp, by simp⟩

end

section
open Go.RowKit
set_option maxRecDepth 100000

def kvE (e : Pt × Value × List Rg) : Pt × Value := (e.1, e.2.1)
theorem RgM.get {w : World} {B mb : Nat} {E : List (Pt × Value × List Rg)} {L : List Sp} (h : RgM w B mb E) (hH : HoldsM L E) (p : Pt) : OwnR w B (getV (E.map kvE) p) (rngsAt L p) := by
  unfold getV
  cases hx : fndV (E.map kvE) p with
  | none =>
    have hn := fndV_none hx
    rw [List.map_map] at hn
    rw [rngsAt_none hH hn]
    exact OwnR.nil w B
  | some q =>
    obtain ⟨i, v⟩ := q
    have h1 := fndV_some hx
    rw [List.getElem?_map] at h1
    cases he : E[i]? with
    | none => rw [he] at h1; cases h1
    | some e =>
      rw [he] at h1
      have hm : e ∈ E := List.mem_of_getElem? he
      have e1 : e.1 = p := congrArg Prod.fst (Option.some.inj h1)
      have e2 : e.2.1 = v := congrArg Prod.snd (Option.some.inj h1)
      show OwnR w B v _
      rw [← e2, ← e1, ← (hH.rngs e hm).2]
      exact h.own e hm

theorem own_lt {w : World} {B : Nat} {v : Value} {L : List Rg} (h : OwnR w B v L) {g : Nat} (hg : v.ownBlock = some g) : g < w.heap.size := by
  obtain ⟨cur, h1⟩ := own_blk h hg
  exact (Array.getElem?_eq_some_iff.1 h1).1
theorem OwnR.by {w w' : World} {B : Nat} {v : Value} {L : List Rg} (h : OwnR w B v L) (hb : ∀ g, v.ownBlock = some g → w'.heap[g]? = w.heap[g]?) : OwnR w' B v L := by
  refine ⟨h.1, ?_⟩
  rcases h.2 with hn | ⟨g, cap, cur, rfl, h1, hgg, rest⟩
  · exact .inl hn
  · exact .inr ⟨g, cap, cur, rfl, h1, (hb g rfl).trans hgg, rest⟩

theorem RgM.put {w w2 : World} {B mb : Nat} {E : List (Pt × Value × List Rg)} {L : List Sp} (h : RgM w B mb E) (hH : HoldsM L E) (s : Sp) (v' : Value) (hm2 : MapV w2 mb (putV (E.map kvE) (plcS s) v')) (ho2 : OwnR w2 B v' (rngsAt L (plcS s) ++ [s.rg]))
    (hfr : ∀ k, k < w.heap.size → k ≠ mb → some k ≠ (getV (E.map kvE) (plcS s)).ownBlock → w2.heap[k]? = w.heap[k]?) (hw : v'.ownBlock = (getV (E.map kvE) (plcS s)).ownBlock ∨ ∃ g, v'.ownBlock = some g ∧ w.heap.size ≤ g) :
    ∃ E', RgM w2 B mb E' ∧ HoldsM (L ++ [s]) E' ∧ E'.length ≤ E.length + 1 := by
  have hv0 := h.get hH (plcS s)
  obtain ⟨p, hp⟩ : ∃ p, plcS s = p := ⟨_, rfl⟩
  have hpk : p.k = ⟨#[]⟩ := by rw [← hp]; rfl
  rw [hp] at ho2 hfr hw hv0 hm2
  unfold putV at hm2
  cases hx : fndV (E.map kvE) p with
  | none =>
    rw [hx] at hm2
    have hgv : (getV (E.map kvE) p).ownBlock = none := by unfold getV; rw [hx]; rfl
    rw [hgv] at hfr hw
    have hn := fndV_none hx
    rw [List.map_map] at hn
    have hr0 := rngsAt_none hH hn
    rw [hr0] at ho2
    refine ⟨E ++ [(p, v', [s.rg])], ⟨by rw [List.map_append]; exact hm2, ?_, ?_, ?_⟩, ⟨?_, ?_⟩, by simp⟩
    · intro e he
      rcases List.mem_append.1 he with he | he
      · refine (h.own e he).by (fun g hg3 => hfr g (own_lt (h.own e he) hg3) ?_ (by simp))
        rintro rfl
        exact own_not_map (h.own e he) h.map hg3
      · rw [List.mem_singleton] at he
        subst he
        exact ho2
    · have hnew : ∀ g, v'.ownBlock = some g → w.heap.size ≤ g := fun g hg3 => by
        rcases hw with hw | ⟨g0, hw, hle⟩
        · rw [hw] at hg3; cases hg3
        · rw [hw] at hg3; cases hg3; exact hle
      intro i j a b hi hj hij g hga hgb
      rw [List.getElem?_append] at hi hj
      by_cases hi1 : i < E.length
      · rw [if_pos hi1] at hi
        by_cases hj1 : j < E.length
        · rw [if_pos hj1] at hj
          exact h.apart i j a b hi hj hij g hga hgb
        · rw [if_neg hj1] at hj
          have hjE : j - E.length = 0 := by
            have := (List.getElem?_eq_some_iff.1 hj).1; simp at this; omega
          rw [hjE] at hj
          cases hj
          have h5 := hnew g hgb
          have h6 := own_lt (h.own a (List.mem_of_getElem? hi)) hga
          omega
      · rw [if_neg hi1] at hi
        have hiE : i - E.length = 0 := by
          have := (List.getElem?_eq_some_iff.1 hi).1; simp at this; omega
        rw [hiE] at hi
        cases hi
        by_cases hj1 : j < E.length
        · rw [if_pos hj1] at hj
          have h5 := hnew g hga
          have h6 := own_lt (h.own b (List.mem_of_getElem? hj)) hgb
          omega
        · rw [if_neg hj1] at hj
          have hjE : j - E.length = 0 := by
            have := (List.getElem?_eq_some_iff.1 hj).1; simp at this; omega
          omega
    · rw [List.map_append]
      refine List.nodup_append.2 ⟨h.nodup, by simp, ?_⟩
      intro a ha b hb e
      simp only [List.map_cons, List.map_nil, List.mem_singleton] at hb
      subst e
      subst hb
      exact hn ha
    · intro e he
      rw [rngsAt_snoc, hp]
      rcases List.mem_append.1 he with he | he
      · have hne : ¬ p = e.1 := fun e1 => hn (by rw [e1]; exact List.mem_map.2 ⟨e, he, rfl⟩)
        rw [if_neg hne, List.append_nil]
        exact hH.rngs e he
      · rw [List.mem_singleton] at he
        subst he
        refine ⟨hpk, ?_⟩
        show [s.rg] = _
        rw [if_pos rfl, hr0]
        rfl
    · intro s' hs'
      rw [List.map_append]
      rcases List.mem_append.1 hs' with hs' | hs'
      · exact List.mem_append_left _ (hH.all s' hs')
      · rw [List.mem_singleton] at hs'
        subst hs'
        rw [hp]
        simp
  | some q =>
    obtain ⟨i, v⟩ := q
    rw [hx] at hm2
    have hgv : getV (E.map kvE) p = v := by unfold getV; rw [hx]
    rw [hgv] at hfr hw hv0
    have h1 := fndV_some hx
    rw [List.getElem?_map] at h1
    cases he : E[i]? with
    | none => rw [he] at h1; cases h1
    | some e0 =>
      rw [he] at h1
      have e1 : e0.1 = p := congrArg Prod.fst (Option.some.inj h1)
      have e2 : e0.2.1 = v := congrArg Prod.snd (Option.some.inj h1)
      have hi : i < E.length := (List.getElem?_eq_some_iff.1 he).1
      have hkeys : (E.set i (p, v', rngsAt L p ++ [s.rg])).map (·.1) = E.map (·.1) := by
        apply List.ext_getElem?
        intro j
        simp only [List.getElem?_map, List.getElem?_set]
        by_cases hj : i = j
        · subst hj
          have hE0 : E[i] = e0 := (List.getElem?_eq_some_iff.1 he).2
          simp [hi, hE0, e1]
        · simp [hj]
      have hother : ∀ {j : Nat} {b : Pt × Value × List Rg}, (E.set i (p, v', rngsAt L p ++ [s.rg]))[j]? = some b → (j = i ∧ b = (p, v', rngsAt L p ++ [s.rg])) ∨ (j ≠ i ∧ E[j]? = some b) := fun {j b} hb => by
        rw [List.getElem?_set] at hb
        by_cases hj : i = j
        · subst hj
          simp only [if_true, hi] at hb
          exact .inl ⟨rfl, (Option.some.inj hb).symm⟩
        · simp only [hj, if_false] at hb
          exact .inr ⟨fun e => hj e.symm, hb⟩
      have hold : ∀ {j : Nat} {b : Pt × Value × List Rg}, j ≠ i → E[j]? = some b → ∀ g, b.2.1.ownBlock = some g → v.ownBlock ≠ some g := fun {j b} hji hb g hg3 hv3 =>
        h.apart j i b e0 hb he hji g hg3 (by rw [e2]; exact hv3)
      have hnew : ∀ {j : Nat} {b : Pt × Value × List Rg}, j ≠ i → E[j]? = some b → ∀ g, b.2.1.ownBlock = some g → v'.ownBlock ≠ some g := fun {j b} hji hb g hg3 hv3 => by
        rcases hw with hw | ⟨g0, hw, hle⟩
        · rw [hw] at hv3
          exact hold hji hb g hg3 hv3
        · rw [hw] at hv3
          have h6 := own_lt (h.own b (List.mem_of_getElem? hb)) hg3
          have := Option.some.inj hv3
          omega
      refine ⟨E.set i (p, v', rngsAt L p ++ [s.rg]), ⟨?_, ?_, ?_, by rw [hkeys]; exact h.nodup⟩, ⟨?_, ?_⟩, by simp⟩
      · have : (E.set i (p, v', rngsAt L p ++ [s.rg])).map (fun e => (e.1, e.2.1)) = (E.map kvE).set i (p, v') := by
          rw [List.map_set]
          rfl
        rw [this]
        exact hm2
      · intro e hem
        obtain ⟨j, hj⟩ := List.getElem?_of_mem hem
        rcases hother hj with ⟨rfl, rfl⟩ | ⟨hji, hb⟩
        · exact ho2
        · refine (h.own e (List.mem_of_getElem? hb)).by (fun g hg3 => hfr g (own_lt (h.own e (List.mem_of_getElem? hb)) hg3) ?_ (fun e3 => hold hji hb g hg3 e3.symm))
          rintro rfl
          exact own_not_map (h.own e (List.mem_of_getElem? hb)) h.map hg3
      · intro j k a b ha hb hjk g hga hgb
        rcases hother ha with ⟨rfl, rfl⟩ | ⟨hji, ha'⟩
        · rcases hother hb with ⟨rfl, rfl⟩ | ⟨hki, hb'⟩
          · exact hjk rfl
          · exact hnew hki hb' g hgb hga
        · rcases hother hb with ⟨rfl, rfl⟩ | ⟨hki, hb'⟩
          · exact hnew hji ha' g hga hgb
          · exact h.apart j k a b ha' hb' hjk g hga hgb
      · intro e hem
        rw [rngsAt_snoc, hp]
        obtain ⟨j, hj⟩ := List.getElem?_of_mem hem
        rcases hother hj with ⟨rfl, rfl⟩ | ⟨hji, hb⟩
        · refine ⟨hpk, ?_⟩
          show rngsAt L p ++ [s.rg] = _
          rw [if_pos rfl]
        · have hne : ¬ p = e.1 := fun e5 => by
            have h7 : (E.map (·.1))[j]? = (E.map (·.1))[i]? := by simp only [List.getElem?_map, hb, he, Option.map_some]; rw [e1, e5]
            have hjl : j < (E.map (·.1)).length := by have := (List.getElem?_eq_some_iff.1 hb).1; simpa using this
            exact hji ((List.getElem?_inj hjl h.nodup).1 h7)
          rw [if_neg hne, List.append_nil]
          exact hH.rngs e (List.mem_of_getElem? hb)
      · intro s' hs'
        rw [hkeys]
        rcases List.mem_append.1 hs' with hs' | hs'
        · exact hH.all s' hs'
        · rw [List.mem_singleton] at hs'
          subst hs'
          rw [hp, ← e1]
          exact List.mem_map.2 ⟨e0, List.mem_of_getElem? he, rfl⟩

end

section
open Go.RowKit Go.Shelf
set_option maxRecDepth 100000
attribute [local go_sem] Oper.semAt_some

theorem PV_inj {x y : Pt} (h : PV x = PV y) : x = y := by
  obtain ⟨t, i, k⟩ := x
  obtain ⟨t', i', k'⟩ := y
  simp only [PV, Value.agg.injEq, Array.mk.injEq, List.cons.injEq, Value.int.injEq, Value.string.injEq, true_and, and_true] at h
  obtain ⟨rfl, rfl, rfl⟩ := h
  rfl

/-- a walk over map mb by iterator r: these keys have come -/
structure ItrM (w : World) (mb r : Nat) (E : List (Pt × Value)) (ss : List Pt) : Prop where
  f : ∃ es c since seen c0, w.heap[mb]? = some (.map es c) ∧ es.toList.map (fun e => (e.key, e.val)) = E.map (fun x => (PV x.1, x.2)) ∧ (∀ e ∈ es.toList, e.born < since) ∧ (es.toList.map (·.born)).Nodup ∧
    w.heap[r]? = some (.mapIter (some mb) since seen c0) ∧ since ≤ c0 ∧ since ≤ c ∧ ss.length + (leftOf es seen).size ≤ E.length ∧ ∀ e ∈ es.toList, (seen.contains e.born = true ↔ e.key ∈ ss.map PV)
  nd : ss.Nodup
  sub : ∀ x ∈ ss, x ∈ E.map (·.1)
theorem ItrM.walk {w : World} {mb r : Nat} {E : List (Pt × Value)} {ss : List Pt} (h : ItrM w mb r E ss) : ∃ o : Obj, w.heap[r]? = some o ∧ o.isWalk = true := by
  obtain ⟨es, c, since, seen, c0, _, _, _, _, hr, _⟩ := h.f
  exact ⟨_, hr, rfl⟩
theorem ItrM.len {w : World} {mb r : Nat} {E : List (Pt × Value)} {ss : List Pt} (h : ItrM w mb r E ss) : ss.length ≤ E.length := by
  obtain ⟨es, c, since, seen, c0, _, _, _, _, _, _, _, hl, _⟩ := h.f
  omega
theorem ItrM.of_walks {w w' : World} {mb r : Nat} {E : List (Pt × Value)} {ss : List Pt} (h : ItrM w mb r E ss) (hk : KeepsWalks w w') : ItrM w' mb r E ss := by
  obtain ⟨es, c, since, seen, c0, h1, h2, h3, h4, hr, h5⟩ := h.f
  exact ⟨⟨es, c, since, seen, c0, hk.same _ _ h1 rfl, h2, h3, h4, hk.same _ _ hr rfl, h5⟩, h.nd, h.sub⟩
theorem ItrM.left_eq {w w' : World} {mb r : Nat} {E : List (Pt × Value)} {ss : List Pt} (h : ItrM w mb r E ss) (hk : KeepsWalks w w') : w'.rangeLeft mb r = w.rangeLeft mb r := by
  obtain ⟨es, c, since, seen, c0, h1, h2, h3, h4, hr, h5⟩ := h.f
  simp only [World.rangeLeft, h1, hr, hk.same _ _ h1 rfl, hk.same _ _ hr rfl]

theorem MapV.range {w : World} {mb : Nat} {E : List (Pt × Value)} (h : MapV w mb E) :
    ∃ w', (Instr.range 123 (.map (some mb))).run Tryz.prog w = .ok (.pointer (some ⟨w.heap.size, 0, none⟩)) w' ∧ ItrM w' mb w.heap.size E [] ∧ w.grownBy w' none ∧ w'.heap.size = w.heap.size + 1 := by
  have hlt := h.lt
  obtain ⟨es, c, hb, h2, hbo, hnd⟩ := h.f
  have hl : es.size = E.length := by have := congrArg List.length h2; simpa using this
  refine ⟨_, run_range_map w _ _ _ mb es c Tryz.underlying123 hb, ⟨⟨es, c, c, #[], c, ((MapKept.heap_alloc w _).2 mb hlt).trans hb, h2, hbo, hnd, (MapKept.heap_alloc w _).1, Nat.le_refl _, Nat.le_refl _, ?_, ?_⟩, by simp, by simp⟩, World.grownBy_alloc w _ none, by simp⟩
  · simp only [leftOf, List.length_nil, Nat.zero_add]
    rw [← hl]
    exact Array.size_filter_le
  · intro e he; simp

theorem key_of {es : Array MapEntry} {E : List (Pt × Value)} (h2 : es.toList.map (fun e => (e.key, e.val)) = E.map (fun x => (PV x.1, x.2))) {e : MapEntry} (he : e ∈ es.toList) : ∃ x ∈ E.map (·.1), e.key = PV x := by
  have h3 : (e.key, e.val) ∈ E.map (fun x => (PV x.1, x.2)) := by rw [← h2]; exact List.mem_map.2 ⟨e, he, rfl⟩
  obtain ⟨y, hy, hy2⟩ := List.mem_map.1 h3
  exact ⟨y.1, List.mem_map.2 ⟨y, hy, rfl⟩, (congrArg Prod.fst hy2).symm⟩
theorem of_key {es : Array MapEntry} {E : List (Pt × Value)} (h2 : es.toList.map (fun e => (e.key, e.val)) = E.map (fun x => (PV x.1, x.2))) {x : Pt} (hx : x ∈ E.map (·.1)) : ∃ e ∈ es.toList, e.key = PV x := by
  obtain ⟨y, hy, rfl⟩ := List.mem_map.1 hx
  have h3 : (PV y.1, y.2) ∈ es.toList.map (fun e => (e.key, e.val)) := by rw [h2]; exact List.mem_map.2 ⟨y, hy, rfl⟩
  obtain ⟨e, he, he2⟩ := List.mem_map.1 h3
  exact ⟨e, he, congrArg Prod.fst he2⟩
theorem entry_of_key {es : Array MapEntry} {E : List (Pt × Value)} (h2 : es.toList.map (fun e => (e.key, e.val)) = E.map (fun x => (PV x.1, x.2))) (hn : (E.map (·.1)).Nodup) {a b : MapEntry} (ha : a ∈ es.toList) (hb : b ∈ es.toList) (h : a.key = b.key) : a = b := by
  obtain ⟨i, hi, rfl⟩ := List.getElem_of_mem ha
  obtain ⟨j, hj, rfl⟩ := List.getElem_of_mem hb
  have hl : es.toList.length = E.length := by have := congrArg List.length h2; simpa using this
  have hk : es.toList.map (·.key) = (E.map (·.1)).map PV := by
    have := congrArg (List.map Prod.fst) h2
    simpa [List.map_map, Function.comp_def] using this
  have hnk : (es.toList.map (·.key)).Nodup := by
    rw [hk]
    exact List.Pairwise.map _ (fun _ _ hne e => hne (PV_inj e)) hn
  have h3 : (es.toList.map (·.key))[i]? = (es.toList.map (·.key))[j]? := by simp only [List.getElem?_map, List.getElem?_eq_getElem hi, List.getElem?_eq_getElem hj, Option.map_some, h]
  have hij : i = j := (List.getElem?_inj (by simpa using hi) hnk).1 h3
  subst hij
  rfl

theorem ItrM.next {w : World} {mb r : Nat} {E : List (Pt × Value)} {ss : List Pt} (h : ItrM w mb r E ss) (hne : mb ≠ r) (hn : (E.map (·.1)).Nodup) (ty : TypeId) :
    ((∀ x, x ∈ ss ↔ x ∈ E.map (·.1)) ∧ (Instr.next (.pointer (some ⟨r, 0, none⟩)) false ty).run Tryz.prog w = .ok (.tuple #[.bool false]) w) ∨
    ∃ x v w', (Instr.next (.pointer (some ⟨r, 0, none⟩)) false ty).run Tryz.prog w = .ok (.tuple #[.bool true, PV x, v]) w' ∧ ss.length < E.length ∧ ItrM w' mb r E (ss ++ [x]) ∧ w'.rangeLeft mb r < w.rangeLeft mb r ∧ w.grownBy w' (some r) ∧ w'.heap.size = w.heap.size ∧
      (Instr.entry (.pointer (some ⟨r, 0, none⟩))).run Tryz.prog w' = .ok (.tuple #[PV x, v]) w' := by
  obtain ⟨es, c, since, seen, c0, hb, h2, hbo, hnd, hr, hs1, hs2, hlen, hsn⟩ := h.f
  rcases run_next_at (P := Tryz.prog) w ty r mb since c0 seen es c hr hb hbo hs1 with ⟨h0, hrun⟩ | ⟨e, he, w1, hal, hrun⟩
  · refine Or.inl ⟨fun x => ⟨h.sub x, fun hx => ?_⟩, hrun⟩
    obtain ⟨e, he, hk⟩ := of_key h2 hx
    have h3 := (hsn e he).1 (all_seen es seen h0 e he)
    rw [hk] at h3
    obtain ⟨y, hy, hy2⟩ := List.mem_map.1 h3
    exact PV_inj hy2 ▸ hy
  · obtain ⟨hem, hes⟩ := mem_left he
    obtain ⟨x, hxE, hkx⟩ := key_of h2 hem
    have hr1 : w1.heap[r]? = some (.mapIter (some mb) since seen c0) := by rcases hal with rfl | rfl <;> exact hr
    have hb1 : w1.heap[mb]? = some (.map es c) := by rcases hal with rfl | rfl <;> exact hb
    have hset := MapKept.heap_set (o' := .mapIter (some mb) since (seen.push e.born) c) hr1
    have hb' : (ChangeMaps.setBlock w1 r (.mapIter (some mb) since (seen.push e.born) c)).heap[mb]? = some (.map es c) := (hset.2 mb hne).trans hb1
    have hr' : (ChangeMaps.setBlock w1 r (.mapIter (some mb) since (seen.push e.born) c)).heap[r]? = some (.mapIter (some mb) since (seen.push e.born) c) := hset.1
    have hxs : x ∉ ss := fun hx => by
      have := (hsn e hem).2 (by rw [hkx]; exact List.mem_map.2 ⟨x, hx, rfl⟩)
      rw [hes] at this
      cases this
    have hsh := left_shrinks es seen e he
    rw [hkx] at hrun
    refine Or.inr ⟨x, e.val, _, hrun, by omega, ⟨⟨es, c, since, seen.push e.born, c, hb', h2, hbo, hnd, hset.1, hs2, hs2, ?_, ?_⟩, ?_, ?_⟩, ?_, ?_, ?_, ?_⟩
    · rw [List.length_append, List.length_singleton]; omega
    · intro e' he'
      rw [contains_push, Bool.or_eq_true, hsn e' he', beq_iff_eq, List.map_append, List.mem_append]
      simp only [List.map_cons, List.map_nil, List.mem_singleton]
      constructor
      · rintro (h5 | h5)
        · exact .inl h5
        · right
          rw [born_inj hnd he' hem h5]
          exact hkx
      · rintro (h5 | h5)
        · exact .inl h5
        · right
          rw [entry_of_key h2 hn he' hem (h5.trans hkx.symm)]
    · exact List.nodup_append.2 ⟨h.nd, by simp, fun a ha b hb e => by simp only [List.mem_singleton] at hb; subst e; subst hb; exact hxs ha⟩
    · intro y hy
      rcases List.mem_append.1 hy with hy | hy
      · exact h.sub y hy
      · simp only [List.mem_singleton] at hy
        subst hy
        exact hxE
    · simp only [World.rangeLeft, hb', hr', hb, hr]
      exact hsh
    · rcases hal with rfl | rfl <;> exact ⟨rfl, rfl, rfl, by simp [ChangeMaps.setBlock], fun i _ hi => hset.2 i (fun e1 => hi (by rw [e1]))⟩
    · rcases hal with rfl | rfl <;> simp [ChangeMaps.setBlock]
    · have h9 := run_entry_at (P := Tryz.prog) _ r mb since seen es c e hset.1 hb' hem hnd
      rw [hkx] at h9
      exact h9

section
variable {F : Fence} {n : Nat} (w : World) {ops : Array Oper} {rest : List Oper} {o : Oper} {a : Act} {Q : Exit → Act → World → Prop}
theorem wpListIn_rangeM (hg : o.guard = none) (m : Operand) (hop : o.op = Op.range 123 m) (mb : Nat) (E : List (Pt × Value)) (hm : a.eval m = .map (some mb)) (h : MapV w mb E)
    (hK : ∀ w', ItrM w' mb w.heap.size E [] → w.grownBy w' none → w'.heap.size = w.heap.size + 1 → wpListIn F n Tryz.prog ops Q rest (a.put o.dst (.pointer (some ⟨w.heap.size, 0, none⟩))) w') :
    wpListIn F n Tryz.prog ops Q (o :: rest) a w := by
  refine wpListIn_plain hg fun K' hK' => ?_
  obtain ⟨w', hrun, r1, r2, r3⟩ := h.range
  unfold Oper.wpIn
  refine ⟨?_, ?_⟩
  · simp [Oper.about, hop]
  · rw [Oper.semAt_plain F _ _ (by rw [hop]; intro c hc'; cases hc')]
    simp [execOp, hop, hm, hrun, Result.andThen]
    exact hK' _ _ (hK w' r1 r2 r3)
theorem wpListIn_nextM (hg : o.guard = none) (it : Operand) (hop : o.op = Op.next it false) (mb r : Nat) (E : List (Pt × Value)) (ss : List Pt) (hit : a.eval it = .pointer (some ⟨r, 0, none⟩)) (h : ItrM w mb r E ss) (hne : mb ≠ r) (hn : (E.map (·.1)).Nodup)
    (hDone : (∀ x, x ∈ ss ↔ x ∈ E.map (·.1)) → wpListIn F n Tryz.prog ops Q rest (a.put o.dst (.tuple #[.bool false])) w)
    (hMore : ∀ (x : Pt) (v : Value) (w' : World), ss.length < E.length → ItrM w' mb r E (ss ++ [x]) → w'.rangeLeft mb r < w.rangeLeft mb r → w.grownBy w' (some r) → w'.heap.size = w.heap.size → (Instr.entry (.pointer (some ⟨r, 0, none⟩))).run Tryz.prog w' = .ok (.tuple #[PV x, v]) w' →
      wpListIn F n Tryz.prog ops Q rest (a.put o.dst (.tuple #[.bool true, PV x, v])) w') :
    wpListIn F n Tryz.prog ops Q (o :: rest) a w := by
  refine wpListIn_plain hg fun K' hK' => ?_
  unfold Oper.wpIn
  refine ⟨by simp [Oper.about, hop], ?_⟩
  rw [Oper.semAt_plain F _ _ (by rw [hop]; intro c hc'; cases hc')]
  rcases h.next hne hn o.type with ⟨hl, hrun⟩ | ⟨x, v, w', hrun, h1, h2, h3, h4, h5, h6⟩
  · simp [execOp, hop, hit, hrun, Result.andThen]
    exact hK' _ _ (hDone hl)
  · simp only [PV] at hrun
    simp [execOp, hop, hit, hrun, Result.andThen]
    exact hK' _ _ (hMore x v w' h1 h2 h3 h4 h5 h6)
end

end

end Go.Proofs.YtcknhjabdjbjiabGreat

namespace Go.Proofs.YtcknhjabdjbjiabGreat
open Go.RowKit Go.Shelf
set_option maxRecDepth 100000
attribute [local go_sem] Oper.semAt_some

theorem grown_of_below {w w' : World} (h : Below w.heap.size w w') : w.grownBy w' none := ⟨h.os, h.tape, h.output, h.size, fun k hk _ => h.block k hk⟩
theorem walks_of_below {w w' : World} (h : Below w.heap.size w w') : KeepsWalks w w' := ⟨h.size, fun k _ hk _ => (h.block k (Array.getElem?_eq_some_iff.1 hk).1).trans hk⟩
theorem others_of_below {w w' : World} (h : Below w.heap.size w w') : KeepsOthers w w' := ⟨h.size, fun k _ hk _ => (h.block k (Array.getElem?_eq_some_iff.1 hk).1).trans hk⟩

set_option maxHeartbeats 4000000 in
theorem keys1_in (F : Fence) (n : Nat) (hf : F.fn 94) (hro : F.round = none) (hn : 1 ≤ n) (l Bm mb : Nat) (E : List (Pt × Value)) (hnd : (E.map (·.1)).Nodup) (J Jx : List Pt → World → Prop)
    (hY : ∀ pre x W, J pre W → pre.length < E.length → YieldAt F (n - 1) Tryz.prog l #[PV x] W fun e W' => (e = .returned (.bool true) ∧ J (pre ++ [x]) W' ∧ KeepsWalks W W') ∨ (e = .returned (.bool false) ∧ Jx (pre ++ [x]) W'))
    (W : World) (hJ : AbidesFrom W.heap.size J) (hm : W.cell? ⟨Bm, 0, none⟩ = some (.map (some mb))) (hE : MapV W mb E) (h0 : J [] W) :
    CallsIn F n Tryz.prog 94 #[.func (.yield l) #[] #[], .pointer (some ⟨Bm, 0, none⟩)] W fun e W' => (∃ v, e = .returned v) ∧ ((∃ ss, (ss.Nodup ∧ (∀ x, x ∈ ss ↔ x ∈ E.map (·.1)) ∧ ss.length ≤ E.length) ∧ J ss W') ∨ (∃ pre, True ∧ Jx pre W')) := by
  have hlt := hE.lt
  refine callsIn_of_wp Tryz.func94 rfl hf ?_ hro
  simp only [Tryz.ntmps94, List.size_toArray, List.length_cons, List.length_nil, Nat.reduceAdd, Nat.reduceSub, Array.replicate_succ, Array.replicate_zero, List.push_toArray, List.append_toArray, List.nil_append, List.cons_append]
  gi_wp2_with (first
    | (gi_at_range; refine wpListIn_rangeM _ rfl _ rfl mb E rfl hE ?_; intro w0 hrg0 hg0 hs0)
    | gi_in)
  go_frame
  gi_loopw [3] (fun _ wr => ∃ ss : List Pt, ItrM wr mb W.heap.size E ss ∧ J ss wr) (fun _ wr => wr.rangeLeft mb W.heap.size)
  case atStart => exact ⟨[], hrg0, hJ [] W w0 none h0 hg0 (fun r e => by cases e)⟩
  case round =>
    obtain ⟨ss, hC, hJs⟩ := hrel
    gi_wp2_with (first
      | (gi_at_next; refine wpListIn_nextM _ rfl _ rfl mb W.heap.size E ss rfl hC (by omega) hnd ?_ ?_)
      | gi_in)
    · intro hl
      have HL : Hid (∀ x, x ∈ ss ↔ x ∈ E.map (·.1)) := fun x => (hl x).trans (by simp)
      clear hl
      gi_wp2
      go_end0
      exact ⟨⟨_, rfl⟩, .inl ⟨ss, ⟨hC.nd, HL.out, hC.len⟩, hJs⟩⟩
    · intro x v w2 hlen hC2 hlt2 hg2 hs2 hen
      have hJ2 : J ss w2 := hJ ss wr w2 (some W.heap.size) hJs hg2 (fun r e => by cases e; exact ⟨Nat.le_refl _, hC.walk⟩)
      obtain ⟨w3, hw3⟩ : ∃ w3, w2.alloc (.cells #[.int .i64 x.t, .int .i64 x.i, .string x.k] 36) = w3 := ⟨_, rfl⟩
      have hb3 : Below w2.heap.size w2 w3 := by rw [← hw3]; exact (Below.refl _ _).alloc (Nat.le_refl _) _
      have hk3 : Blk w3 w2.heap.size #[.int .i64 x.t, .int .i64 x.i, .string x.k] 36 := by rw [← hw3]; exact Blk.new w2 _ _
      have q0 := hk3.cell (i := 0) rfl
      have q1 := hk3.cell (i := 1) rfl
      have q2 := hk3.cell (i := 2) rfl
      have hJ3 : J ss w3 := hJ ss w2 w3 none hJ2 (grown_of_below hb3) (fun r e => by cases e)
      obtain ⟨fn, tmps, assign, body, hy, hR⟩ := hY ss x w3 hJ3 hlen
      clear hs2
      gi_wp2
      try rw [hw3]
      try gi_wp2
      refine hR.mono ?_
      rintro e W3 (⟨rfl, hJ4, hk4⟩ | ⟨rfl, hJx4⟩)
      · have hC4 := hC2.of_walks ((walks_of_below hb3).trans hk4)
        have hl4 := hC2.left_eq ((walks_of_below hb3).trans hk4)
        gi_wp2
        go_roundw
        case rel => exact ⟨ss ++ [x], hC4, hJ4⟩
        case measure => rw [hl4]; exact hlt2
      · gi_wp2
        refine bodyPost_ret (results_none rfl _ _ _) rfl ?_
        exact ⟨⟨_, rfl⟩, .inr ⟨_, trivial, hJx4⟩⟩

set_option maxHeartbeats 1000000 in
theorem keys_any (mb : Option Nat) (w : World) : Calls Tryz.prog 83 #[.map mb] w fun e w' => e = .returned (.func (.func 94) #[] #[.pointer (some ⟨w.heap.size, 0, none⟩)]) ∧ w' = w.alloc (.cells #[.map mb] 123) := by
  go_enter Tryz.func83, Tryz.ntmps83
  go_wp2
  go_ret
  exact ⟨rfl, rfl⟩

theorem keys_stops (F : Fence) (n : Nat) (hf : F.fn 94) (hro : F.round = none) (hn : 1 ≤ n) (Bm mb : Nat) (E : List (Pt × Value)) (hnd : (E.map (·.1)).Nodup) (w : World) (hBm : Bm < w.heap.size) (hm : w.cell? ⟨Bm, 0, none⟩ = some (.map (some mb))) (hE : MapV w mb E) :
    SeqStopsK F n Tryz.prog 94 #[.pointer (some ⟨Bm, 0, none⟩)] (fun x : Pt => #[PV x]) KeepsWalks (fun ss => ss.Nodup ∧ (∀ x, x ∈ ss ↔ x ∈ E.map (·.1)) ∧ ss.length ≤ E.length) (fun _ => True) E.length w := fun l J Jx W hW hJ _ hY h0 =>
  keys1_in F n hf hro hn l Bm mb E hnd J Jx hY W hJ ((hW.cell (p := ⟨Bm, 0, none⟩) hBm).trans hm) (hE.on hW) h0

theorem wpListIn_appP {F : Fence} {n : Nat} {ops : Array Oper} {rest : List Oper} {o : Oper} {a : Act} {Q : Exit → Act → World → Prop} (w : World) (hgd : o.guard = none) (s x : Operand)
    (ho : o.op = .call { callee := .builtin .append, args := #[s, x], argTypes := #[24, 24] })
    (B : Nat) (v : Value) (L : List Pt) (hs : a.eval s = v) (hown : OwnP w B v L)
    (u : Pt) (g : Nat) (hx : a.eval x = .slice (some ⟨g, 0, none⟩) 1 1) (hgz : g = w.heap.size)
    (hlen : L.length + 1 ≤ 4398046511104) (hbase : B ≤ w.heap.size)
    (h : ∀ v' w', w'.ownsRow B 36 3 v' (L.length + 1) (pcells (L ++ [u])) → (w.alloc (.cells #[.int .i64 u.t, .int .i64 u.i, .string u.k] 36)).grownBy w' v.ownBlock → wpListIn F n Tryz.prog ops Q rest (a.put o.dst v') w') : wpListIn F n Tryz.prog ops Q (o :: rest) a (w.alloc (.cells #[.int .i64 u.t, .int .i64 u.i, .string u.k] 36)) := by
  obtain ⟨i, hi, hz0, hz1, hz2⟩ := info_parts info_P
  subst hgz
  have hown' : OwnP (w.alloc (.cells #[.int .i64 u.t, .int .i64 u.i, .string u.k] 36)) B v L := hown.kept ((Below.refl _ _).alloc (Nat.le_refl _) _)
  refine wpListIn_append_own _ hgd s x 24 ho B 36 i (.agg #[.int .i64 0, .int .i64 0, .string ⟨#[]⟩]) 3 32 Tryz.underlying24 hi hz0 hz1 hz2 rfl (by decide) v L.length (pcells L) hs hown' ⟨w.heap.size, 0, none⟩ 1 1 (pcells [u]) hx rfl ?_ ?_ (by unfold maxLen; omega) (by omega) (by simp; omega) ?_
  · intro j y hj
    have hj' : j < 3 := by
      have := (List.getElem?_eq_some_iff.1 hj).1
      simpa [pcells, encP] using this
    have e : (⟨w.heap.size, 0, none⟩ : Addr).add j = ⟨w.heap.size, j, none⟩ := by unfold Addr.add; split <;> simp_all
    rw [e]
    have h4 : j = 0 ∨ j = 1 ∨ j = 2 := by omega
    rcases h4 with rfl | rfl | rfl <;> (simp [pcells, encP] at hj; subst hj; simp [go_sem])
  · intro y hy
    simp [pcells, encP] at hy
    rcases hy with rfl | rfl | rfl <;> rfl
  · intro v' w' h1 h2 _
    refine h v' w' ?_ h2
    rw [pcells_append]
    exact h1

set_option maxHeartbeats 8000000 in
theorem appendSeq_any (Bm mb : Nat) (E : List (Pt × Value)) (hnd : (E.map (·.1)).Nodup) (hlen : E.length ≤ 65536) (w : World) (hBm : Bm < w.heap.size) (hm : w.cell? ⟨Bm, 0, none⟩ = some (.map (some mb))) (hE : MapV w mb E) :
    Calls Tryz.prog 110 #[.slice none 0 0, .func (.func 94) #[] #[.pointer (some ⟨Bm, 0, none⟩)]] w fun e w' => ∃ (v : Value) (ss : List Pt), e = .returned v ∧ OwnP w' w.heap.size v ss ∧ ss.Nodup ∧ (∀ x, x ∈ ss ↔ x ∈ E.map (·.1)) ∧ ss.length ≤ E.length ∧ Below w.heap.size w w' := by
  refine (callsIn_wide (n := 3)).1 ?_
  refine callsIn_of_wp_marks Tryz.func110 rfl trivial ?_ rfl
  simp only [Tryz.ntmps110, List.size_toArray, List.length_cons, List.length_nil, Nat.reduceAdd, Nat.reduceSub, Array.replicate_succ, Array.replicate_zero, List.push_toArray, List.append_toArray, List.nil_append, List.cons_append]
  gi_wp2
  have bS := Boxed.new w 24 (.slice none 0 0)
  have hB0 : Below w.heap.size w (w.alloc (.cells #[.slice none 0 0] 24)) := (Below.refl _ w).alloc (Nat.le_refl _) _
  have hs0 : (w.alloc (.cells #[.slice none 0 0] 24)).heap.size = w.heap.size + 1 := by simp
  generalize (w.alloc (.cells #[.slice none 0 0] 24)) = w0 at *
  have hte : 24 ≠ 36 := by decide
  refine wpIn_rangeFunc_ownH rfl (by decide) (gf := 94) (lb := #[.pointer (some ⟨Bm, 0, none⟩)]) rfl trivial (enters_of Tryz.func94 (by kernel_rfl) rfl)
    (keys_stops _ _ trivial rfl (by decide) Bm mb E hnd w0 (by omega) ((hB0.cell (p := ⟨Bm, 0, none⟩) hBm).trans hm) (hE.on hB0)) walksK_t walksK_b (Below.refl _ _) (fun _ => rfl)
    (fun pre W => (∃ v, Boxed W w.heap.size 24 v ∧ W.ownsRow w.heap.size 36 3 v pre.length (pcells pre) ∧ True) ∧ Below w.heap.size w W)
    (fun _ _ _ => False)
    (OwnFrom.and (Own.from (holdsRow_own w.heap.size w.heap.size 24 36 3 (fun pre : List Pt => pre.length) (fun pre => pcells pre) (fun _ _ => True)) _) (ownFrom_below (Nat.le_refl _) (by omega)))
    (fun _ _ _ _ _ hs _ _ => hs)
    ⟨⟨_, bS, World.ownsRow_nil _ _ _ _, trivial⟩, hB0⟩
    (fun x a' W => ∃ Bx, w.heap.size < Bx ∧ Blk W Bx #[.int .i64 x.t, .int .i64 x.i, .string x.k] 36 ∧ a' = { tmps := #[.slice none 0 0, .func (.func 94) #[] #[.pointer (some ⟨Bm, 0, none⟩)], .pointer (some ⟨w.heap.size, 0, none⟩), undef, .slice none 0 0, .pointer (some ⟨Bx, 0, none⟩), .func (.func 94) #[] #[.pointer (some ⟨Bm, 0, none⟩)], PV x, undef, undef, undef, undef, undef], defers := [] })
    (fun x a' _ X Y row hs hg hr => by
      obtain ⟨Bx, h1, h2, h3⟩ := hs
      refine ⟨Bx, h1, (hg.block Bx h2.lt (fun e => ?_)).trans h2, h3⟩
      obtain ⟨_, o, ho, hc⟩ := hr Bx e.symm
      rw [show X.heap[Bx]? = _ from h2] at ho
      cases ho
      cases hc)
    ?assign ?body ?done ?stop
  case assign =>
    rintro l pre x W K ⟨⟨v, bV, hO, _⟩, hB⟩ hK
    have hal : Below W.heap.size W (W.alloc (.cells #[.int .i64 x.t, .int .i64 x.i, .string x.k] 36)) := (Below.refl _ _).alloc (Nat.le_refl _) _
    gi_wp2
    exact hK _ _ ((others_of_below hal).from _) (walks_of_below hal) ⟨⟨v, bV.alloc _, hO.alloc _, trivial⟩, hB.alloc hB.size _⟩ ⟨W.heap.size, bV.lt, Blk.new W _ _, rfl⟩
  case body =>
    rintro l pre x a' W hl ⟨r, hr⟩ ⟨⟨v, bV, hO, _⟩, hB⟩ ⟨Bx, hBx, bX, rfl⟩ hlt
    have cV := bV.cell
    have q0 := bX.cell (i := 0) rfl
    have q1 := bX.cell (i := 1) rfl
    have q2 := bX.cell (i := 2) rfl
    have hO' : OwnP W w.heap.size v pre := hO
    have hsz := hB.size
    rcases hO'.form with ⟨rfl, rfl⟩ | ⟨g, cap, rfl, hg1, hg2⟩
    · gi_wp2_with (first
        | (gi_at_builtin; refine wpListIn_appP _ rfl _ _ rfl w.heap.size _ _ rfl hO' x _ rfl rfl (by omega) hsz ?_; intro v' w1 hown' hgrow
           obtain ⟨b1, b2, o2, k2, bl2⟩ := bV.appended hte hO hsz (Nat.le_refl _) hown' hgrow
           have c1 := b1.cell
           have f1 := b1.frozen
           obtain ⟨g', cap', rfl⟩ := ownsRow_succ hown'
           go_frame)
        | gi_in)
      exact ⟨k2.from _, k2.walks, ⟨⟨_, b2, (by simpa using o2), trivial⟩, hB.trans bl2⟩⟩
    · gi_wp2_with (first
        | (gi_at_builtin; refine wpListIn_appP _ rfl _ _ rfl w.heap.size _ _ rfl hO' x _ rfl rfl (by omega) hsz ?_; intro v' w1 hown' hgrow
           obtain ⟨b1, b2, o2, k2, bl2⟩ := bV.appended hte hO hsz (Nat.le_refl _) hown' hgrow
           have c1 := b1.cell
           have f1 := b1.frozen
           obtain ⟨g', cap', rfl⟩ := ownsRow_succ hown'
           go_frame)
        | gi_in)
      exact ⟨k2.from _, k2.walks, ⟨⟨_, b2, (by simpa using o2), trivial⟩, hB.trans bl2⟩⟩
  case done =>
    rintro D zs W hD ⟨hz1, hz2, hz3⟩ ⟨⟨v, bV, hO, _⟩, hB⟩ hK
    have cV := bV.cell
    gi_wp2
    refine ⟨by simp, .inl ⟨_, _, rfl, run_takeDeferred hK, ?_⟩⟩
    exact ⟨_, results_tmp rfl _ _ _, v, zs, rfl, ownsRow_putObj hO _ hK rfl, hz1, hz2, hz3, hB.trans (belowK_b (w := w) (Nat.le_refl _) W D _ _ (by omega) hK rfl rfl)⟩
  case stop =>
    rintro D c pre W _ _ h _
    exact h.elim

end Go.Proofs.YtcknhjabdjbjiabGreat
