/- Maps of any keys and values: made, looked up, written, entries. -/
import Derived.Laws.StructEq
import Derived.MapKept
import Derived.ChangeMaps4
import Derived.Test.YtncfejndmlcidaaGreatGMPtr
namespace Go.Proofs.YtncfejndmlcidaaGreat
open Go.RowKit
set_option maxRecDepth 100000

section
variable {K : Type} [DecidableEq K]
/-- where a key is, and its value -/
def fndG : List (K × Value) → K → Option (Nat × Value)
  | [], _ => none
  | e :: E, x => if x = e.1 then some (0, e.2) else (fndG E x).map (fun p => (p.1 + 1, p.2))
def getG (z : Value) (E : List (K × Value)) (x : K) : Value := match fndG E x with | some p => p.2 | none => z
def putG (E : List (K × Value)) (x : K) (v : Value) : List (K × Value) := match fndG E x with | some p => E.set p.1 (x, v) | none => E ++ [(x, v)]
theorem fndG_some : ∀ {E : List (K × Value)} {x : K} {i : Nat} {v : Value}, fndG E x = some (i, v) → E[i]? = some (x, v)
  | [], x, i, v, h => by cases h
  | e :: E, x, i, v, h => by
    unfold fndG at h
    by_cases hx : x = e.1
    · rw [if_pos hx] at h
      cases h
      subst hx
      rfl
    · rw [if_neg hx] at h
      cases h1 : fndG E x with
      | none => rw [h1] at h; cases h
      | some p =>
        rw [h1] at h
        cases h
        exact fndG_some (i := p.1) (v := p.2) h1
theorem fndG_none : ∀ {E : List (K × Value)} {x : K}, fndG E x = none → x ∉ E.map (·.1)
  | [], x, _ => by simp
  | e :: E, x, h => by
    unfold fndG at h
    by_cases hx : x = e.1
    · rw [if_pos hx] at h; cases h
    · rw [if_neg hx] at h
      have h2 : fndG E x = none := by cases h3 : fndG E x with | none => rfl | some p => rw [h3] at h; cases h
      simp only [List.map_cons, List.mem_cons, not_or]
      exact ⟨hx, fndG_none h2⟩
theorem fndG_of_not : ∀ {E : List (K × Value)} {x : K}, x ∉ E.map (·.1) → fndG E x = none
  | [], x, _ => rfl
  | e :: E, x, h => by
    simp only [List.map_cons, List.mem_cons, not_or] at h
    unfold fndG
    rw [if_neg h.1, fndG_of_not h.2]
    rfl
theorem fndG_snoc : ∀ (E : List (K × Value)) (x : K) (v : Value) (y : K), x ∉ E.map (·.1) → fndG (E ++ [(x, v)]) y = if y = x then some (E.length, v) else fndG E y
  | [], x, v, y, _ => by
    show (if y = x then some (0, v) else none) = _
    by_cases h : y = x
    · rw [if_pos h, if_pos h]; rfl
    · rw [if_neg h, if_neg h]; rfl
  | e :: E, x, v, y, h => by
    simp only [List.map_cons, List.mem_cons, not_or] at h
    show (if y = e.1 then some (0, e.2) else (fndG (E ++ [(x, v)]) y).map _) = _
    rw [fndG_snoc E x v y h.2]
    by_cases h1 : y = e.1
    · rw [if_pos h1, if_neg (fun h2 => h.1 (h2.symm.trans h1))]
      unfold fndG
      rw [if_pos h1]
    · rw [if_neg h1]
      by_cases h2 : y = x
      · rw [if_pos h2, if_pos h2]; rfl
      · rw [if_neg h2, if_neg h2]
        conv => rhs; unfold fndG
        rw [if_neg h1]
theorem fndG_set : ∀ (E : List (K × Value)) (x : K) (i : Nat) (v0 v : Value) (y : K), fndG E x = some (i, v0) → fndG (E.set i (x, v)) y = if y = x then some (i, v) else fndG E y
  | [], x, i, v0, v, y, h => by cases h
  | e :: E, x, i, v0, v, y, h => by
    unfold fndG at h
    by_cases hx : x = e.1
    · rw [if_pos hx] at h
      cases h
      show (if y = x then some (0, v) else (fndG E y).map _) = _
      by_cases hy : y = x
      · rw [if_pos hy, if_pos hy]
      · rw [if_neg hy, if_neg hy]
        conv => rhs; unfold fndG
        rw [if_neg (fun h2 => hy (h2.trans hx.symm))]
    · rw [if_neg hx] at h
      cases h1 : fndG E x with
      | none => rw [h1] at h; cases h
      | some p =>
        rw [h1] at h
        cases h
        show (if y = e.1 then some (0, e.2) else (fndG (E.set p.1 (x, v)) y).map _) = _
        rw [fndG_set E x p.1 p.2 v y h1]
        by_cases h2 : y = e.1
        · rw [if_pos h2, if_neg (fun h3 => hx (h3.symm.trans h2))]
          unfold fndG
          rw [if_pos h2]
        · rw [if_neg h2]
          by_cases h3 : y = x
          · rw [if_pos h3, if_pos h3]; rfl
          · rw [if_neg h3, if_neg h3]
            conv => rhs; unfold fndG
            rw [if_neg h2]
theorem getG_put (z : Value) (E : List (K × Value)) (x : K) (v : Value) (y : K) : getG z (putG E x v) y = if y = x then v else getG z E y := by
  unfold putG getG
  cases h : fndG E x with
  | none =>
    dsimp only
    rw [fndG_snoc E x v y (fndG_none h)]
    by_cases hy : y = x
    · rw [if_pos hy, if_pos hy]
    · rw [if_neg hy, if_neg hy]
  | some p =>
    dsimp only
    rw [fndG_set E x p.1 p.2 v y h]
    by_cases hy : y = x
    · rw [if_pos hy, if_pos hy]
    · rw [if_neg hy, if_neg hy]
theorem putG_keys (E : List (K × Value)) (x : K) (v : Value) (y : K) : y ∈ (putG E x v).map (·.1) ↔ y = x ∨ y ∈ E.map (·.1) := by
  unfold putG
  cases h : fndG E x with
  | none => dsimp only; rw [List.map_append, List.mem_append]; simp [or_comm]
  | some p =>
    dsimp only
    have h1 := fndG_some (i := p.1) (v := p.2) h
    have hk : (E.set p.1 (x, v)).map (·.1) = E.map (·.1) := by
      apply List.ext_getElem?
      intro j
      simp only [List.getElem?_map, List.getElem?_set]
      by_cases hj : p.1 = j
      · subst hj
        have hl := (List.getElem?_eq_some_iff.1 h1).1
        have he := (List.getElem?_eq_some_iff.1 h1).2
        simp [hl, he]
      · simp [hj]
    rw [hk]
    refine ⟨.inr, fun h2 => h2.elim (fun e => ?_) id⟩
    rw [e]
    exact List.mem_map.2 ⟨_, List.mem_of_getElem? h1, rfl⟩
theorem putG_nodup (E : List (K × Value)) (x : K) (v : Value) (hn : (E.map (·.1)).Nodup) : ((putG E x v).map (·.1)).Nodup := by
  unfold putG
  cases h : fndG E x with
  | none =>
    dsimp only
    rw [List.map_append]
    refine List.nodup_append.2 ⟨hn, by simp, ?_⟩
    intro a ha b hb e
    simp only [List.map_cons, List.map_nil, List.mem_singleton] at hb
    subst e
    subst hb
    exact fndG_none h ha
  | some p =>
    dsimp only
    have h1 := fndG_some (i := p.1) (v := p.2) h
    have hk : (E.set p.1 (x, v)).map (·.1) = E.map (·.1) := by
      apply List.ext_getElem?
      intro j
      simp only [List.getElem?_map, List.getElem?_set]
      by_cases hj : p.1 = j
      · subst hj
        have hl := (List.getElem?_eq_some_iff.1 h1).1
        have he := (List.getElem?_eq_some_iff.1 h1).2
        simp [hl, he]
      · simp [hj]
    rw [hk]
    exact hn
theorem putG_len (E : List (K × Value)) (x : K) (v : Value) : (putG E x v).length ≤ E.length + 1 := by
  unfold putG
  cases fndG E x <;> simp

/-- how keys of a type are held against one another -/
structure KeyT (K : Type) [DecidableEq K] (kt : TypeId) (kv : K → Value) : Prop where
  fnd : ∀ (x : K) (w : World) (es : List MapEntry) (E : List (K × Value)), es.map (fun e => (e.key, e.val)) = E.map (fun x => (kv x.1, x.2)) → (Instr.findKey kt (kv x) es).run Tryz.prog w = .ok (fndG E x) w
  chk : ∀ (e : Bool) (x : K) (w : World), (Instr.checkKey e 10000 kt (kv x)).run Tryz.prog w = .ok () w
  bits : ∀ x : K, Instr.sameBits 10000 (kv x) (kv x) = true
/-- keys that are held against one another by an equality that runs -/
theorem askG_run {kt : TypeId} {kv : K → Value} (heq : ∀ (x y : K) (w : World), (Op.equal kt (kv x) (kv y)).run Tryz.prog w = .ok (decide (x = y)) w) (x : K) (w : World) : ∀ (es : List MapEntry) (E : List (K × Value)) (i : Nat), es.map (fun e => (e.key, e.val)) = E.map (fun x => (kv x.1, x.2)) →
    (Instr.findAsking kt (kv x) es i).run Tryz.prog w = .ok ((fndG E x).map (fun p => (i + p.1, p.2))) w
  | [], [], i, _ => rfl
  | [], k :: K, i, h => by simp at h
  | e :: es, [], i, h => by simp at h
  | e :: es, k :: E, i, h => by
    simp only [List.map_cons, List.cons.injEq, Prod.mk.injEq] at h
    obtain ⟨⟨hk, hv⟩, ht⟩ := h
    have ih := askG_run heq x w es E (i + 1) ht
    have he : (Op.equal kt (kv x) e.key).run Tryz.prog w = .ok (decide (x = k.1)) w := by rw [hk]; exact heq x k.1 w
    unfold Instr.findAsking fndG
    simp only [Sem.run_bind, he, Result.andThen_ok]
    by_cases hx : x = k.1
    · subst hx
      simp [hv]
    · simp only [decide_eq_false hx, Bool.false_eq_true, if_false, ih, if_neg hx]
      congr 1
      cases fndG E x with
      | none => rfl
      | some p => simp only [Option.map_some, Option.some.injEq, Prod.mk.injEq, and_true]; omega
/-- keys that are held against one another at once -/
theorem nowG_run {td : TypeDesc} {kv : K → Value} (heq : ∀ (x y : K), Instr.sameNow td (kv x) (kv y) = some (decide (x = y))) (x : K) : ∀ (es : List MapEntry) (E : List (K × Value)) (i : Nat), es.map (fun e => (e.key, e.val)) = E.map (fun x => (kv x.1, x.2)) →
    Instr.findNow td (kv x) es i = some ((fndG E x).map (fun p => (i + p.1, p.2)))
  | [], [], i, _ => rfl
  | [], k :: K, i, h => by simp at h
  | e :: es, [], i, h => by simp at h
  | e :: es, k :: E, i, h => by
    simp only [List.map_cons, List.cons.injEq, Prod.mk.injEq] at h
    obtain ⟨⟨hk, hv⟩, ht⟩ := h
    have ih := nowG_run heq x es E (i + 1) ht
    unfold Instr.findNow fndG
    rw [hk, heq x k.1]
    by_cases hx : x = k.1
    · subst hx
      simp [hv]
    · simp only [decide_eq_false hx, ih, if_neg hx, Option.some.injEq]
      cases fndG E x with
      | none => rfl
      | some p => simp only [Option.map_some, Option.some.injEq, Prod.mk.injEq, and_true]; omega
theorem map_add0 (o : Option (Nat × Value)) : o.map (fun p => (0 + p.1, p.2)) = o := by cases o <;> simp
theorem keyI : KeyT Int 3 (fun x => .int .i64 x) where
  fnd x w es E h := by
    have h1 := nowG_run (td := .int .i64) (kv := fun x : Int => .int .i64 x) (fun x y => by simp [Instr.sameNow, Bool.beq_eq_decide_eq]) x es E 0 h
    rw [map_add0] at h1
    unfold Instr.findKey
    simp only [Sem.run_bind, run_underlying Tryz.underlying3, Result.andThen_ok]
    rw [h1]
    rfl
  chk e x w := by cases e <;> kernel_rfl
  bits x := by simp [Instr.sameBits]
theorem keyS : KeyT ByteArray 9 (fun x => .string x) where
  fnd x w es E h := by
    have hb : ∀ a b : ByteArray, (a == b) = decide (a = b) := fun a b => by
      rw [Bool.eq_iff_iff, decide_eq_true_eq]
      constructor
      · intro h
        have h1 : (a.data == b.data) = true := h
        have h2 : a.data = b.data := by simpa using h1
        cases a; cases b
        simp only at h2
        rw [h2]
      · rintro rfl
        show (a.data == a.data) = true
        simp
    have h1 := nowG_run (td := .string) (kv := fun x : ByteArray => .string x) (fun x y => by simp only [Instr.sameNow, hb]) x es E 0 h
    rw [map_add0] at h1
    unfold Instr.findKey
    simp only [Sem.run_bind, run_underlying Tryz.underlying9, Result.andThen_ok]
    rw [h1]
    rfl
  chk e x w := by cases e <;> kernel_rfl
  bits x := by
    have h : (x == x) = true := by
      show (x.data == x.data) = true
      simp
    simp [Instr.sameBits, h]

end
section
variable {K : Type} {kv : K → Value}
/-- block mb is a map -/
structure MapG (kv : K → Value) (w : World) (mb : Nat) (E : List (K × Value)) : Prop where
  f : ∃ es c, w.heap[mb]? = some (.map es c) ∧ es.toList.map (fun e => (e.key, e.val)) = E.map (fun x => (kv x.1, x.2)) ∧ (∀ e ∈ es.toList, e.born < c) ∧ (es.toList.map (·.born)).Nodup
theorem MapG.of_block {w w' : World} {mb : Nat} {E : List (K × Value)} (h : MapG kv w mb E) (hb : w'.heap[mb]? = w.heap[mb]?) : MapG kv w' mb E := by
  obtain ⟨es, c, h1, h2⟩ := h.f
  exact ⟨es, c, hb.trans h1, h2⟩
theorem MapG.lt {w : World} {mb : Nat} {E : List (K × Value)} (h : MapG kv w mb E) : mb < w.heap.size := by
  obtain ⟨es, c, h1, h2⟩ := h.f
  exact (Array.getElem?_eq_some_iff.1 h1).1
theorem MapG.on {w w' : World} {mb : Nat} {E : List (K × Value)} (h : MapG kv w mb E) (hb : Below w.heap.size w w') : MapG kv w' mb E := h.of_block (hb.block mb h.lt)
theorem MapG.frm {w w' : World} {mb : Nat} {E : List (K × Value)} {F : Nat → Prop} (h : MapG kv w mb E) (hf : Frm w w' F) (hn : ¬ F mb) : MapG kv w' mb E := h.of_block (hf.block mb h.lt hn)
theorem MapG.made (w : World) : MapG kv (w.alloc (.map #[] 0)) w.heap.size [] := ⟨#[], 0, heap_alloc_new w _, rfl, by simp, by simp⟩
theorem MapG.not_cells {w : World} {mb : Nat} {E : List (K × Value)} (h : MapG kv w mb E) {k : Nat} {cs : Array Value} {T : TypeId} {m : Nat × Nat} (hk : w.heap[k]? = some (.cells cs T m)) : k ≠ mb := by
  rintro rfl
  obtain ⟨es, c, h3, _⟩ := h.f
  rw [hk] at h3
  cases h3

/-- entry i of map mb has stamp bn -/
structure EntG (kv : K → Value) (w : World) (mb : Nat) (E : List (K × Value)) (i bn : Nat) : Prop where
  f : ∃ es c, w.heap[mb]? = some (.map es c) ∧ es.toList.map (fun e => (e.key, e.val)) = E.map (fun x => (kv x.1, x.2)) ∧ (∀ e ∈ es.toList, e.born < c) ∧ (es.toList.map (·.born)).Nodup ∧ ∃ e, es[i]? = some e ∧ e.born = bn
theorem EntG.of_block {w w' : World} {mb : Nat} {E : List (K × Value)} {i bn : Nat} (h : EntG kv w mb E i bn) (hb : w'.heap[mb]? = w.heap[mb]?) : EntG kv w' mb E i bn := by
  obtain ⟨es, c, h1, h2⟩ := h.f
  exact ⟨es, c, hb.trans h1, h2⟩
theorem EntG.mapG {w : World} {mb : Nat} {E : List (K × Value)} {i bn : Nat} (h : EntG kv w mb E i bn) : MapG kv w mb E := by
  obtain ⟨es, c, h1, h2, h3, h4, _⟩ := h.f
  exact ⟨es, c, h1, h2, h3, h4⟩
theorem EntG.store {mt : TypeId} {w : World} {mb : Nat} {E : List (K × Value)} {i bn : Nat} (h : EntG kv w mb E i bn) (x : K) (v v0 : Value) (hE : E[i]? = some (x, v0)) :
    ∃ w', (Instr.entryStore mt (.map (some mb)) (.int .i64 (bn : Nat)) v).run Tryz.prog w = .ok () w' ∧ MapG kv w' mb (E.set i (x, v)) ∧ w.grownBy w' (some mb) ∧ w'.heap.size = w.heap.size := by
  obtain ⟨es, c, h1, h2, hbo, hnd, e, he, hb⟩ := h.f
  have hlt : mb < w.heap.size := (Array.getElem?_eq_some_iff.1 h1).1
  have hi2 : i < es.size := (Array.getElem?_eq_some_iff.1 he).1
  have hl : es.size = E.length := by have := congrArg List.length h2; simpa using this
  have hi : i < E.length := by omega
  have hk := congrArg (fun l => l[i]?) h2
  simp only [List.getElem?_map, Array.getElem?_toList, hE, he, Option.map_some, Option.some.injEq, Prod.mk.injEq] at hk
  have hfi : es.findIdx? (fun e => (e.born : Int) == (bn : Int)) = some i := by
    rw [Array.findIdx?_eq_some_iff_getElem]
    have hei : es[i] = e := (Array.getElem?_eq_some_iff.1 he).2
    refine ⟨hi2, by rw [hei, hb]; simp, fun j hj => ?_⟩
    intro hc0
    have hc : (es[j]'(by omega)).born = bn := by have h := beq_iff_eq.1 hc0; omega
    have hj2 : j < es.toList.length := by simp; omega
    have h5 : (es.toList.map (·.born))[j]? = (es.toList.map (·.born))[i]? := by
      simp only [List.getElem?_map, Array.getElem?_toList, Array.getElem?_eq_getElem (show j < es.size by omega), he, Option.map_some, hc, hb]
    have := (List.getElem?_inj (by simpa using hj2) hnd).1 h5
    omega
  have hborn : (es.modify i fun e => { e with val := v }).toList.map (·.born) = es.toList.map (·.born) := by
    apply List.ext_getElem?
    intro j
    simp only [List.getElem?_map, Array.getElem?_toList, Array.getElem?_modify]
    split
    · rename_i hj
      subst hj
      rw [Array.getElem?_eq_getElem hi2]
      rfl
    · rfl
  refine ⟨{ w with heap := w.heap.setIfInBounds mb (.map (es.modify i fun e => { e with val := v }) c) }, ?_, ⟨es.modify i fun e => { e with val := v }, c, by simp [hlt], ?_, ?_, by rw [hborn]; exact hnd⟩, ?_, by simp⟩
  · unfold Instr.entryStore
    simp only [Sem.run_bind, Result.andThen_ok, MapKept.run_getObj_map h1, asInt, asIntOf, Sem.run_pure, hfi, MapKept.run_setObj_map _ h1]
  · apply List.ext_getElem?
    intro j
    have hj2 := congrArg (fun l => l[j]?) h2
    simp only [List.getElem?_map, Array.getElem?_toList] at hj2
    simp only [List.getElem?_map, Array.getElem?_toList, Array.getElem?_modify, List.getElem?_set]
    by_cases hj : i = j
    · subst hj
      simp [hi, he, hk.1]
    · simp only [hj, if_false]
      exact hj2
  · intro e he
    have h5 : e.born ∈ es.toList.map (·.born) := by rw [← hborn]; exact List.mem_map.2 ⟨e, he, rfl⟩
    obtain ⟨e0, h6, h7⟩ := List.mem_map.1 h5
    rw [← h7]
    exact hbo e0 h6
  · refine ⟨rfl, rfl, rfl, by simp, fun k _ hk => ?_⟩
    have hne : mb ≠ k := fun e => hk (by rw [e])
    simp [hne]

end
section
variable {K : Type} [DecidableEq K] {kv : K → Value}
section
variable {kt et mt : TypeId} (HK : KeyT K kt kv) (hmt : Tryz.prog.underlying mt = some (.map kt et))
include HK hmt
theorem MapG.store {w : World} {mb : Nat} {E : List (K × Value)} (h : MapG kv w mb E) (x : K) (v : Value) :
    ∃ w', (Instr.mapUpdate mt (.map (some mb)) (kv x) v).run Tryz.prog w = .ok () w' ∧ MapG kv w' mb (putG E x v) ∧ w.grownBy w' (some mb) ∧ w'.heap.size = w.heap.size := by
  obtain ⟨es, c, h1, h2, hbo, hnd⟩ := h.f
  have hlt : mb < w.heap.size := (Array.getElem?_eq_some_iff.1 h1).1
  have hf := HK.fnd x w es.toList E h2
  unfold putG
  cases hx : fndG E x with
  | some p =>
    obtain ⟨i, v0⟩ := p
    rw [hx] at hf
    have hE := fndG_some hx
    have hi : i < E.length := (List.getElem?_eq_some_iff.1 hE).1
    have hl : es.size = E.length := by have := congrArg List.length h2; simpa using this
    have hi2 : i < es.size := by omega
    have hk := congrArg (fun l => l[i]?) h2
    simp only [List.getElem?_map, Array.getElem?_toList, hE, Array.getElem?_eq_getElem hi2, Option.map_some, Option.some.injEq, Prod.mk.injEq] at hk
    have hborn : (es.modify i fun e => { e with key := kv x, val := v }).toList.map (·.born) = es.toList.map (·.born) := by
      apply List.ext_getElem?
      intro j
      simp only [List.getElem?_map, Array.getElem?_toList, Array.getElem?_modify]
      split
      · rename_i hj
        subst hj
        rw [Array.getElem?_eq_getElem hi2]
        rfl
      · rfl
    refine ⟨{ w with heap := w.heap.setIfInBounds mb (.map (es.modify i fun e => { e with key := kv x, val := v }) c) }, ?_, ⟨es.modify i fun e => { e with key := kv x, val := v }, c, by simp [hlt], ?_, ?_, by rw [hborn]; exact hnd⟩, ?_, by simp⟩
    · unfold Instr.mapUpdate
      simp only [Sem.run_bind, run_underlying hmt, Result.andThen_ok, MapKept.run_getObj_map h1, Sem.run_pure, HK.chk, hf, Instr.keyThatStays, Array.getElem?_eq_getElem hi2, Option.map_some, Option.getD_some, hk.1, HK.bits, if_true, MapKept.run_setObj_map _ h1]
    · dsimp only
      apply List.ext_getElem?
      intro j
      have hj2 := congrArg (fun l => l[j]?) h2
      simp only [List.getElem?_map, Array.getElem?_toList] at hj2
      simp only [List.getElem?_map, Array.getElem?_toList, Array.getElem?_modify, List.getElem?_set]
      by_cases hj : i = j
      · subst hj
        simp [hi, hi2]
      · simp only [hj, if_false]
        exact hj2
    · intro e he
      have h5 : e.born ∈ es.toList.map (·.born) := by rw [← hborn]; exact List.mem_map.2 ⟨e, he, rfl⟩
      obtain ⟨e0, h6, h7⟩ := List.mem_map.1 h5
      rw [← h7]
      exact hbo e0 h6
    · refine ⟨rfl, rfl, rfl, by simp, fun k _ hk => ?_⟩
      have hne : mb ≠ k := fun e => hk (by rw [e])
      simp [hne]
  | none =>
    rw [hx] at hf
    refine ⟨{ w with heap := w.heap.setIfInBounds mb (.map (es.push { key := kv x, val := v, born := c }) (c + 1)) }, ?_, ⟨es.push { key := kv x, val := v, born := c }, c + 1, by simp [hlt], by simp [h2], ?_, ?_⟩, ?_, by simp⟩
    · unfold Instr.mapUpdate
      simp only [Sem.run_bind, run_underlying hmt, Result.andThen_ok, MapKept.run_getObj_map h1, HK.chk, hf, MapKept.run_setObj_map _ h1]
    · intro e he
      simp only [Array.toList_push, List.mem_append, List.mem_singleton] at he
      rcases he with he | rfl
      · have := hbo e he; omega
      · simp
    · simp only [Array.toList_push, List.map_append, List.map_cons, List.map_nil]
      refine List.nodup_append.2 ⟨hnd, by simp, ?_⟩
      intro a ha b hb
      obtain ⟨e, he, rfl⟩ := List.mem_map.1 ha
      simp only [List.mem_singleton] at hb
      have := hbo e he
      omega
    · refine ⟨rfl, rfl, rfl, by simp, fun k _ hk => ?_⟩
      have hne : mb ≠ k := fun e => hk (by rw [e])
      simp [hne]
end
section
variable {kt et mt : TypeId} (HK : KeyT K kt kv) (hmt : Tryz.prog.underlying mt = some (.map kt et)) {z : Value} (hz : ∀ w, (zeroValue et).run Tryz.prog w = .ok z w)
include HK hmt hz
theorem MapG.look {w : World} {mb : Nat} {E : List (K × Value)} (h : MapG kv w mb E) (x : K) :
    (Instr.lookup mt (.map (some mb)) (kv x) false).run Tryz.prog w = .ok (getG z E x) w := by
  obtain ⟨es, c, h1, h2, _⟩ := h.f
  have hf := HK.fnd x w es.toList E h2
  unfold Instr.lookup getG
  simp only [Sem.run_bind, run_underlying hmt, Result.andThen_ok, MapKept.run_getObj_map h1, Sem.run_pure, HK.chk, hf]
  cases fndG E x with
  | none => simp [hz]
  | some p => simp
end
section
variable {kt et mt : TypeId} (HK : KeyT K kt kv) (hmt : Tryz.prog.underlying mt = some (.map kt et)) {z : Value} (hz : ∀ w, (zeroValue et).run Tryz.prog w = .ok z w)
include HK hmt hz
theorem MapG.entry {w : World} {mb : Nat} {E : List (K × Value)} (h : MapG kv w mb E) (x : K) :
    ∃ w' i bn, (Instr.mapEntry mt (.map (some mb)) (kv x)).run Tryz.prog w = .ok (.tuple #[getG z E x, .int .i64 (bn : Nat)]) w' ∧ EntG kv w' mb (putG E x (getG z E x)) i bn ∧ (∀ v, (putG E x (getG z E x)).set i (x, v) = putG E x v) ∧
      (∃ v, (putG E x (getG z E x))[i]? = some (x, v)) ∧ w.grownBy w' (some mb) ∧ w'.heap.size = w.heap.size := by
  obtain ⟨es, c, h1, h2, hbo, hnd⟩ := h.f
  have hlt : mb < w.heap.size := (Array.getElem?_eq_some_iff.1 h1).1
  have hf := HK.fnd x w es.toList E h2
  unfold putG getG
  cases hx : fndG E x with
  | some p =>
    obtain ⟨i, v0⟩ := p
    rw [hx] at hf
    have hE := fndG_some hx
    have hi : i < E.length := (List.getElem?_eq_some_iff.1 hE).1
    have hl : es.size = E.length := by have := congrArg List.length h2; simpa using this
    have hi2 : i < es.size := by omega
    have hk := congrArg (fun l => l[i]?) h2
    simp only [List.getElem?_map, Array.getElem?_toList, hE, Array.getElem?_eq_getElem hi2, Option.map_some, Option.some.injEq, Prod.mk.injEq] at hk
    have hset : E.set i (x, v0) = E := by
      apply List.ext_getElem?
      intro j
      rw [List.getElem?_set]
      by_cases hj : i = j
      · subst hj; simp [hi, ← hE]
      · simp [hj]
    have hmod : (es.modify i fun e => { e with key := kv x }) = es := by
      apply Array.ext
      · simp
      · intro j h1 h2
        rw [Array.getElem_modify]
        split
        · rename_i hj
          subst hj
          have h5 := hk.1
          generalize es[i] = e0 at h5 ⊢
          cases e0
          simp only at h5
          subst h5
          rfl
        · rfl
    refine ⟨{ w with heap := w.heap.setIfInBounds mb (.map (es.modify i fun e => { e with key := kv x }) c) }, i, (es[i]).born, ?_, ?_, ?_, ?_, ?_, by simp⟩
    · unfold Instr.mapEntry
      simp only [Sem.run_bind, run_underlying hmt, Result.andThen_ok, MapKept.run_getObj_map h1, Sem.run_pure, HK.chk, hf, Instr.keyThatStays, Array.getElem?_eq_getElem hi2, Option.map_some, Option.getD_some, hk.1, HK.bits, if_true, MapKept.run_setObj_map _ h1]
      rfl
    · dsimp only
      rw [hset, hmod]
      exact ⟨es, c, by simp [hlt], h2, hbo, hnd, es[i], Array.getElem?_eq_getElem hi2, rfl⟩
    · intro v
      dsimp only
      rw [hset]
    · dsimp only
      rw [hset]
      exact ⟨v0, hE⟩
    · refine ⟨rfl, rfl, rfl, by simp, fun k _ hk => ?_⟩
      have hne : mb ≠ k := fun e => hk (by rw [e])
      simp [hne]
  | none =>
    rw [hx] at hf
    have hl : es.size = E.length := by have := congrArg List.length h2; simpa using this
    refine ⟨{ w with heap := w.heap.setIfInBounds mb (.map (es.push { key := kv x, val := z, born := c }) (c + 1)) }, E.length, c, ?_, ?_, ?_, ?_, ?_, by simp⟩
    · unfold Instr.mapEntry
      simp only [Sem.run_bind, run_underlying hmt, Result.andThen_ok, MapKept.run_getObj_map h1, HK.chk, hf, hz, MapKept.run_setObj_map _ h1]
      rfl
    · refine ⟨es.push { key := kv x, val := z, born := c }, c + 1, by simp [hlt], by simp [h2], ?_, ?_, { key := kv x, val := z, born := c }, ?_, rfl⟩
      · intro e he
        simp only [Array.toList_push, List.mem_append, List.mem_singleton] at he
        rcases he with he | rfl
        · have := hbo e he; omega
        · simp
      · simp only [Array.toList_push, List.map_append, List.map_cons, List.map_nil]
        refine List.nodup_append.2 ⟨hnd, by simp, ?_⟩
        intro a ha b hb
        obtain ⟨e, he, rfl⟩ := List.mem_map.1 ha
        simp only [List.mem_singleton] at hb
        have := hbo e he
        omega
      · rw [← hl]; simp
    · intro v; simp
    · exact ⟨z, by simp⟩
    · refine ⟨rfl, rfl, rfl, by simp, fun k _ hk => ?_⟩
      have hne : mb ≠ k := fun e => hk (by rw [e])
      simp [hne]
end
/-- a map that the walk makes -/
theorem run_makeMap (mt : TypeId) (w : World) : (Instr.makeMap mt none).run Tryz.prog w = .ok (.map (some w.heap.size)) (w.alloc (.map #[] 0)) := by
  unfold Instr.makeMap
  simp [go_sem]
end

end Go.Proofs.YtncfejndmlcidaaGreat
