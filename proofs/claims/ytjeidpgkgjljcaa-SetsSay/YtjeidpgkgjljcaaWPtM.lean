/- Points that are equal; a map that is keyed by points. -/
import Derived.Test.YtjeidpgkgjljcaaWPtS
import Derived.Test.YtjeidpgkgjljcaaMBlk
import Derived.Laws.StructEq
import Derived.MapKept
import Derived.ChangeMaps4
namespace Go.Proofs.Ytjeidpgkgjljcaa
open Go.RowKit
set_option maxRecDepth 100000

/-- a point's value -/
abbrev PV (x : Pt) : Value := .agg #[.int .i64 x.t, .int .i64 x.i, .string x.k]
theorem pt_eq (x y : Pt) : decide (x = y) = ((x.t == y.t) && ((x.i == y.i) && (x.k.toList == y.k.toList))) := by
  rw [Bool.eq_iff_iff]
  simp only [decide_eq_true_eq, Bool.and_eq_true, beq_iff_eq]
  constructor
  · rintro rfl
    exact ⟨rfl, rfl, rfl⟩
  · rintro ⟨h1, h2, h3⟩
    obtain ⟨t, i, k⟩ := x
    obtain ⟨t', i', k'⟩ := y
    simp only at h1 h2 h3
    have h4 : k = k' := bytes_eq (by rw [← Lib.toList_data, ← Lib.toList_data]; exact h3)
    rw [h1, h2, h4]

set_option maxHeartbeats 1000000 in
theorem run_eqInP (x y : Pt) (w : World) : (Op.equalIn 10000 27 (PV x) (PV y)).run Try.prog w = .ok (decide (x = y)) w := by
  have u9 := Try.underlying9
  have a9 := Try.isAgg9
  have z9 := Try.sizeOf9
  have u4 := Try.underlying3
  have a4 := Try.isAgg3
  have z4 := Try.sizeOf3
  have hS : Try.prog.underlying 27 = some (.struct (Try.prog.fieldsOf 27)) := by kernel_rfl
  have hp : Try.prog.stoodInHeld 27 = false := by kernel_rfl
  rw [pt_eq, show (10000 : Nat) = 9999 + 1 from rfl, run_equalIn_agg w 9999 27 _ _ hS hp]
  simp only [Program.fieldsOf, Try.underlying27]
  go_simp
  cases h1 : (x.t == y.t) <;> cases h2 : (x.i == y.i) <;> cases h3 : (x.k.toList == y.k.toList) <;> simp_all

theorem run_eqP (x y : Pt) (w : World) : (binOp .eql 27 (PV x) (PV y)).run Try.prog w = .ok (.bool (decide (x = y))) w := by
  rw [run_eql_struct, run_eqInP]
  rfl
theorem run_neP (x y : Pt) (w : World) : (binOp .neq 27 (PV x) (PV y)).run Try.prog w = .ok (.bool (!decide (x = y))) w := by
  rw [run_neq_struct, run_eqInP]
  rfl
theorem run_eqGP (op : BinOp) (a b : Operand) (x y : Pt) (w : World) : (eqGuard op 27 a b (PV x) (PV y)).run Try.prog w = .ok () w :=
  run_eqGuard_agg w op 27 a b _ _ (by kernel_rfl)
theorem run_checkP (e : Bool) (x : Pt) (w : World) : (Instr.checkKey e 10000 27 (PV x)).run Try.prog w = .ok () w := by
  cases e <;> kernel_rfl

/-- block mb is a set of points -/
def MapP (w : World) (mb : Nat) (K : List Pt) : Prop := ∃ es c, w.heap[mb]? = some (.map es c) ∧ es.toList.map (fun e => (e.key, e.val)) = K.map (fun x => (PV x, Value.agg #[]))
theorem MapP.of_block {w w' : World} {mb : Nat} {K : List Pt} (h : MapP w mb K) (hb : w'.heap[mb]? = w.heap[mb]?) : MapP w' mb K := by
  obtain ⟨es, c, h1, h2⟩ := h
  exact ⟨es, c, hb.trans h1, h2⟩
theorem MapP.lt {w : World} {mb : Nat} {K : List Pt} (h : MapP w mb K) : mb < w.heap.size := by
  obtain ⟨es, c, h1, h2⟩ := h
  exact (Array.getElem?_eq_some_iff.1 h1).1
theorem MapP.on {w w' : World} {mb : Nat} {K : List Pt} (h : MapP w mb K) (hb : Below w.heap.size w w') : MapP w' mb K := h.of_block (hb.block mb h.lt)
theorem MapP.made (w : World) : MapP (w.alloc (.map #[] 0)) w.heap.size [] := ⟨#[], 0, heap_alloc_new w _, rfl⟩

theorem ask_run (x : Pt) (w : World) : ∀ (es : List MapEntry) (K : List Pt) (i : Nat), es.map (fun e => (e.key, e.val)) = K.map (fun x => (PV x, Value.agg #[])) →
    (Instr.findAsking 27 (PV x) es i).run Try.prog w = .ok (if x ∈ K then some (i + K.idxOf x, Value.agg #[]) else none) w
  | [], [], i, _ => rfl
  | [], k :: K, i, h => by simp at h
  | e :: es, [], i, h => by simp at h
  | e :: es, k :: K, i, h => by
    simp only [List.map_cons, List.cons.injEq, Prod.mk.injEq] at h
    obtain ⟨⟨hk, hv⟩, ht⟩ := h
    have ih := ask_run x w es K (i + 1) ht
    have he : (Op.equal 27 (PV x) e.key).run Try.prog w = .ok (decide (x = k)) w := by rw [hk]; exact run_eqInP x k w
    unfold Instr.findAsking
    simp only [Sem.run_bind, he, Result.andThen_ok]
    by_cases hx : x = k
    · subst hx
      simp [hv]
    · have hn : ¬ k = x := fun h => hx h.symm
      simp only [decide_eq_false hx, Bool.false_eq_true, if_false, ih]
      by_cases hm : x ∈ K
      · have hidx : (k :: K).idxOf x = K.idxOf x + 1 := by
          rw [List.idxOf_cons, show (k == x) = false from beq_eq_false_iff_ne.2 hn]
          rfl
        have hm2 : x ∈ k :: K := List.mem_cons_of_mem _ hm
        rw [if_pos hm, if_pos hm2, hidx, Nat.add_assoc, Nat.add_comm 1]
      · simp [hm, hx]

theorem find_run (x : Pt) (w : World) (es : List MapEntry) (K : List Pt) (h : es.map (fun e => (e.key, e.val)) = K.map (fun x => (PV x, Value.agg #[]))) :
    (Instr.findKey 27 (PV x) es).run Try.prog w = .ok (if x ∈ K then some (K.idxOf x, Value.agg #[]) else none) w := by
  unfold Instr.findKey
  simp only [Sem.run_bind, run_underlying Try.underlying27, Result.andThen_ok]
  match es, K, h with
  | [], [], _ => rfl
  | [], k :: K, h => simp at h
  | e :: es, [], h => simp at h
  | e :: es, k :: K, h =>
    have h9 := ask_run x w (e :: es) (k :: K) 0 h
    rw [Nat.zero_add] at h9
    simp only [Instr.findNow, Instr.sameNow]
    exact h9

theorem zeroE (w : World) : (zeroValue 68).run Try.prog w = .ok (.agg #[]) w := by kernel_rfl
theorem MapP.look {w : World} {mb : Nat} {K : List Pt} (h : MapP w mb K) (x : Pt) :
    (Instr.lookup 67 (.map (some mb)) (PV x) true).run Try.prog w = .ok (.tuple #[.agg #[], .bool (decide (x ∈ K))]) w := by
  obtain ⟨es, c, h1, h2⟩ := h
  have hf := find_run x w es.toList K h2
  unfold Instr.lookup
  simp only [Sem.run_bind, run_underlying Try.underlying67, Result.andThen_ok, MapKept.run_getObj_map h1, Sem.run_pure, run_checkP, hf]
  by_cases hx : x ∈ K
  · simp [hx]
  · simp [hx]

theorem bitsP (x : Pt) : Instr.sameBits 10000 (PV x) (PV x) = true := by
  show Instr.sameBits (9999 + 1) (PV x) (PV x) = true
  have h : (x.k == x.k) = true := by
    show (x.k.data == x.k.data) = true
    simp
  simp [Instr.sameBits, h]
theorem MapP.store {w : World} {mb : Nat} {K : List Pt} (h : MapP w mb K) (x : Pt) :
    ∃ w', (Instr.mapUpdate 67 (.map (some mb)) (PV x) (.agg #[])).run Try.prog w = .ok () w' ∧ MapP w' mb (if x ∈ K then K else K ++ [x]) ∧ (∀ k, k ≠ mb → w'.heap[k]? = w.heap[k]?) ∧ w'.heap.size = w.heap.size ∧ w'.os = w.os ∧ w'.tape = w.tape ∧ w'.output = w.output := by
  obtain ⟨es, c, h1, h2⟩ := h
  have hlt : mb < w.heap.size := (Array.getElem?_eq_some_iff.1 h1).1
  have hf := find_run x w es.toList K h2
  by_cases hx : x ∈ K
  · rw [if_pos hx] at hf
    have hi : K.idxOf x < K.length := List.idxOf_lt_length_of_mem hx
    have hl : es.size = K.length := by have := congrArg List.length h2; simpa using this
    have hi2 : K.idxOf x < es.size := by omega
    have hk := congrArg (fun l => l[K.idxOf x]?) h2
    simp only [List.getElem?_map, Array.getElem?_toList, List.getElem?_eq_getElem hi, List.getElem_idxOf hi, Array.getElem?_eq_getElem hi2, Option.map_some, Option.some.injEq, Prod.mk.injEq] at hk
    refine ⟨{ w with heap := w.heap.setIfInBounds mb (.map (es.modify (K.idxOf x) fun e => { e with key := PV x, val := Value.agg #[] }) c) }, ?_, ?_, ?_, by simp, rfl, rfl, rfl⟩
    · unfold Instr.mapUpdate
      simp only [Sem.run_bind, run_underlying Try.underlying67, Result.andThen_ok, MapKept.run_getObj_map h1, Sem.run_pure, run_checkP, hf, Instr.keyThatStays, Array.getElem?_eq_getElem hi2, Option.map_some, Option.getD_some, hk.1, bitsP, if_true, MapKept.run_setObj_map _ h1]
    · refine ⟨es.modify (K.idxOf x) fun e => { e with key := PV x, val := Value.agg #[] }, c, by simp [hlt], ?_⟩
      rw [if_pos hx, ← h2]
      apply List.ext_getElem?
      intro j
      simp only [List.getElem?_map, Array.getElem?_toList, Array.getElem?_modify]
      split
      · rename_i hj
        subst hj
        rw [Array.getElem?_eq_getElem hi2]
        simp [hk.1, hk.2]
      · rfl
    · intro k hk
      simp [Ne.symm hk]
  · rw [if_neg hx] at hf
    refine ⟨{ w with heap := w.heap.setIfInBounds mb (.map (es.push { key := PV x, val := Value.agg #[], born := c }) (c + 1)) }, ?_, ?_, ?_, by simp, rfl, rfl, rfl⟩
    · unfold Instr.mapUpdate
      simp only [Sem.run_bind, run_underlying Try.underlying67, Result.andThen_ok, MapKept.run_getObj_map h1, run_checkP, hf, MapKept.run_setObj_map _ h1]
    · refine ⟨es.push { key := PV x, val := Value.agg #[], born := c }, c + 1, by simp [hlt], ?_⟩
      rw [if_neg hx]
      simp [h2]
    · intro k hk
      simp [Ne.symm hk]
end Go.Proofs.Ytjeidpgkgjljcaa
