/- Points that are equal; a map that is keyed by points. Lists and tests. -/
import Derived.Laws.StructEq
import Derived.MapKept
import Derived.ChangeMaps4
import Derived.Test.YtcknhjabdjbjiabGreatProg
import Derived.Test.YtcknhjabdjbjiabGreatGMPt
import Derived.Test.YtcknhjabdjbjiabGreatGMPtr
namespace Go.Proofs.YtcknhjabdjbjiabGreat
open Go.RowKit
set_option maxRecDepth 100000

/-- a point's value -/
abbrev PV (x : Pt) : Value := .agg #[.int .i64 x.t, .int .i64 x.i, .string x.k]
theorem pt_eq (x y : Pt) : decide (x = y) = ((x.t == y.t) && ((x.i == y.i) && (x.k.toList == y.k.toList))) := by
  rw [Bool.eq_iff_iff]
  simp only [decide_eq_true_eq, Bool.and_eq_true, beq_iff_eq]
  constructor
  · rintro rfl
    exact ⟨rfl, rfl, rfl⟩
  · rintro ⟨h1, h2, h3⟩
    obtain ⟨t, i, k⟩ := x
    obtain ⟨t', i', k'⟩ := y
    simp only at h1 h2 h3
    have h4 : k = k' := bytes_eq (by rw [← Lib.toList_data, ← Lib.toList_data]; exact h3)
    rw [h1, h2, h4]

set_option maxHeartbeats 1000000 in
theorem run_eqInP (x y : Pt) (w : World) : (Op.equalIn 10000 36 (PV x) (PV y)).run Tryz.prog w = .ok (decide (x = y)) w := by
  have u9 := Tryz.underlying9
  have a9 := Tryz.isAgg9
  have z9 := Tryz.sizeOf9
  have u4 := Tryz.underlying3
  have a4 := Tryz.isAgg3
  have z4 := Tryz.sizeOf3
  have hS : Tryz.prog.underlying 36 = some (.struct (Tryz.prog.fieldsOf 36)) := by kernel_rfl
  have hp : Tryz.prog.stoodInHeld 36 = false := by kernel_rfl
  rw [pt_eq, show (10000 : Nat) = 9999 + 1 from rfl, run_equalIn_agg w 9999 36 _ _ hS hp]
  simp only [Program.fieldsOf, Tryz.underlying36]
  go_simp
  cases h1 : (x.t == y.t) <;> cases h2 : (x.i == y.i) <;> cases h3 : (x.k.toList == y.k.toList) <;> simp_all

theorem run_eqP (x y : Pt) (w : World) : (binOp .eql 36 (PV x) (PV y)).run Tryz.prog w = .ok (.bool (decide (x = y))) w := by
  rw [run_eql_struct, run_eqInP]
  rfl
theorem run_neP (x y : Pt) (w : World) : (binOp .neq 36 (PV x) (PV y)).run Tryz.prog w = .ok (.bool (!decide (x = y))) w := by
  rw [run_neq_struct, run_eqInP]
  rfl
theorem run_eqGP (op : BinOp) (a b : Operand) (x y : Pt) (w : World) : (eqGuard op 36 a b (PV x) (PV y)).run Tryz.prog w = .ok () w :=
  run_eqGuard_agg w op 36 a b _ _ (by kernel_rfl)
theorem run_checkP (e : Bool) (x : Pt) (w : World) : (Instr.checkKey e 10000 36 (PV x)).run Tryz.prog w = .ok () w := by
  cases e <;> kernel_rfl

/-- block mb is a set of points -/
def MapP (w : World) (mb : Nat) (K : List Pt) : Prop := ∃ es c, w.heap[mb]? = some (.map es c) ∧ es.toList.map (fun e => (e.key, e.val)) = K.map (fun x => (PV x, Value.agg #[]))
theorem MapP.of_block {w w' : World} {mb : Nat} {K : List Pt} (h : MapP w mb K) (hb : w'.heap[mb]? = w.heap[mb]?) : MapP w' mb K := by
  obtain ⟨es, c, h1, h2⟩ := h
  exact ⟨es, c, hb.trans h1, h2⟩
theorem MapP.lt {w : World} {mb : Nat} {K : List Pt} (h : MapP w mb K) : mb < w.heap.size := by
  obtain ⟨es, c, h1, h2⟩ := h
  exact (Array.getElem?_eq_some_iff.1 h1).1
theorem MapP.on {w w' : World} {mb : Nat} {K : List Pt} (h : MapP w mb K) (hb : Below w.heap.size w w') : MapP w' mb K := h.of_block (hb.block mb h.lt)
theorem MapP.made (w : World) : MapP (w.alloc (.map #[] 0)) w.heap.size [] := ⟨#[], 0, heap_alloc_new w _, rfl⟩

theorem ask_run (x : Pt) (w : World) : ∀ (es : List MapEntry) (K : List Pt) (i : Nat), es.map (fun e => (e.key, e.val)) = K.map (fun x => (PV x, Value.agg #[])) →
    (Instr.findAsking 36 (PV x) es i).run Tryz.prog w = .ok (if x ∈ K then some (i + K.idxOf x, Value.agg #[]) else none) w
  | [], [], i, _ => rfl
  | [], k :: K, i, h => by simp at h
  | e :: es, [], i, h => by simp at h
  | e :: es, k :: K, i, h => by
    simp only [List.map_cons, List.cons.injEq, Prod.mk.injEq] at h
    obtain ⟨⟨hk, hv⟩, ht⟩ := h
    have ih := ask_run x w es K (i + 1) ht
    have he : (Op.equal 36 (PV x) e.key).run Tryz.prog w = .ok (decide (x = k)) w := by rw [hk]; exact run_eqInP x k w
    unfold Instr.findAsking
    simp only [Sem.run_bind, he, Result.andThen_ok]
    by_cases hx : x = k
    · subst hx
      simp [hv]
    · have hn : ¬ k = x := fun h => hx h.symm
      simp only [decide_eq_false hx, Bool.false_eq_true, if_false, ih]
      by_cases hm : x ∈ K
      · have hidx : (k :: K).idxOf x = K.idxOf x + 1 := by
          rw [List.idxOf_cons, show (k == x) = false from beq_eq_false_iff_ne.2 hn]
          rfl
        have hm2 : x ∈ k :: K := List.mem_cons_of_mem _ hm
        rw [if_pos hm, if_pos hm2, hidx, Nat.add_assoc, Nat.add_comm 1]
      · simp [hm, hx]

theorem find_run (x : Pt) (w : World) (es : List MapEntry) (K : List Pt) (h : es.map (fun e => (e.key, e.val)) = K.map (fun x => (PV x, Value.agg #[]))) :
    (Instr.findKey 36 (PV x) es).run Tryz.prog w = .ok (if x ∈ K then some (K.idxOf x, Value.agg #[]) else none) w := by
  unfold Instr.findKey
  simp only [Sem.run_bind, run_underlying Tryz.underlying36, Result.andThen_ok]
  match es, K, h with
  | [], [], _ => rfl
  | [], k :: K, h => simp at h
  | e :: es, [], h => simp at h
  | e :: es, k :: K, h =>
    have h9 := ask_run x w (e :: es) (k :: K) 0 h
    rw [Nat.zero_add] at h9
    simp only [Instr.findNow, Instr.sameNow]
    exact h9

theorem zeroE (w : World) : (zeroValue 107).run Tryz.prog w = .ok (.agg #[]) w := by kernel_rfl
theorem MapP.look {w : World} {mb : Nat} {K : List Pt} (h : MapP w mb K) (x : Pt) :
    (Instr.lookup 106 (.map (some mb)) (PV x) true).run Tryz.prog w = .ok (.tuple #[.agg #[], .bool (decide (x ∈ K))]) w := by
  obtain ⟨es, c, h1, h2⟩ := h
  have hf := find_run x w es.toList K h2
  unfold Instr.lookup
  simp only [Sem.run_bind, run_underlying Tryz.underlying106, Result.andThen_ok, MapKept.run_getObj_map h1, Sem.run_pure, run_checkP, hf]
  by_cases hx : x ∈ K
  · simp [hx]
  · simp [hx]

theorem bitsP (x : Pt) : Instr.sameBits 10000 (PV x) (PV x) = true := by
  show Instr.sameBits (9999 + 1) (PV x) (PV x) = true
  have h : (x.k == x.k) = true := by
    show (x.k.data == x.k.data) = true
    simp
  simp [Instr.sameBits, h]
theorem MapP.store {w : World} {mb : Nat} {K : List Pt} (h : MapP w mb K) (x : Pt) :
    ∃ w', (Instr.mapUpdate 106 (.map (some mb)) (PV x) (.agg #[])).run Tryz.prog w = .ok () w' ∧ MapP w' mb (if x ∈ K then K else K ++ [x]) ∧ (∀ k, k ≠ mb → w'.heap[k]? = w.heap[k]?) ∧ w'.heap.size = w.heap.size ∧ w'.os = w.os ∧ w'.tape = w.tape ∧ w'.output = w.output := by
  obtain ⟨es, c, h1, h2⟩ := h
  have hlt : mb < w.heap.size := (Array.getElem?_eq_some_iff.1 h1).1
  have hf := find_run x w es.toList K h2
  by_cases hx : x ∈ K
  · rw [if_pos hx] at hf
    have hi : K.idxOf x < K.length := List.idxOf_lt_length_of_mem hx
    have hl : es.size = K.length := by have := congrArg List.length h2; simpa using this
    have hi2 : K.idxOf x < es.size := by omega
    have hk := congrArg (fun l => l[K.idxOf x]?) h2
    simp only [List.getElem?_map, Array.getElem?_toList, List.getElem?_eq_getElem hi, List.getElem_idxOf hi, Array.getElem?_eq_getElem hi2, Option.map_some, Option.some.injEq, Prod.mk.injEq] at hk
    refine ⟨{ w with heap := w.heap.setIfInBounds mb (.map (es.modify (K.idxOf x) fun e => { e with key := PV x, val := Value.agg #[] }) c) }, ?_, ?_, ?_, by simp, rfl, rfl, rfl⟩
    · unfold Instr.mapUpdate
      simp only [Sem.run_bind, run_underlying Tryz.underlying106, Result.andThen_ok, MapKept.run_getObj_map h1, Sem.run_pure, run_checkP, hf, Instr.keyThatStays, Array.getElem?_eq_getElem hi2, Option.map_some, Option.getD_some, hk.1, bitsP, if_true, MapKept.run_setObj_map _ h1]
    · refine ⟨es.modify (K.idxOf x) fun e => { e with key := PV x, val := Value.agg #[] }, c, by simp [hlt], ?_⟩
      rw [if_pos hx, ← h2]
      apply List.ext_getElem?
      intro j
      simp only [List.getElem?_map, Array.getElem?_toList, Array.getElem?_modify]
      split
      · rename_i hj
        subst hj
        rw [Array.getElem?_eq_getElem hi2]
        simp [hk.1, hk.2]
      · rfl
    · intro k hk
      simp [Ne.symm hk]
  · rw [if_neg hx] at hf
    refine ⟨{ w with heap := w.heap.setIfInBounds mb (.map (es.push { key := PV x, val := Value.agg #[], born := c }) (c + 1)) }, ?_, ?_, ?_, by simp, rfl, rfl, rfl⟩
    · unfold Instr.mapUpdate
      simp only [Sem.run_bind, run_underlying Tryz.underlying106, Result.andThen_ok, MapKept.run_getObj_map h1, run_checkP, hf, MapKept.run_setObj_map _ h1]
    · refine ⟨es.push { key := PV x, val := Value.agg #[], born := c }, c + 1, by simp [hlt], ?_⟩
      rw [if_neg hx]
      simp [h2]
    · intro k hk
      simp [Ne.symm hk]

end Go.Proofs.YtcknhjabdjbjiabGreat

namespace Go.Proofs.YtcknhjabdjbjiabGreat

/-- where the first that meets a test stands -/
def firstG {α : Type} (t : α → Bool) : List α → Nat
  | [] => 0
  | r :: L => if t r then 0 else firstG t L + 1
theorem firstG_le {α : Type} (t : α → Bool) : ∀ L : List α, firstG t L ≤ L.length
  | [] => Nat.le_refl _
  | r :: L => by
    have := firstG_le t L
    unfold firstG
    split
    · omega
    · simp only [List.length_cons]; omega
theorem firstG_step {α : Type} (t : α → Bool) : ∀ (L : List α) (j : Nat) (hj : j < L.length), j ≤ firstG t L → (t L[j] = true → firstG t L = j) ∧ (t L[j] = false → j + 1 ≤ firstG t L)
  | [], j, hj, _ => by simp at hj
  | r :: L, 0, _, _ => by
    refine ⟨fun h => ?_, fun h => ?_⟩
    · have h' : t r = true := h
      unfold firstG; rw [if_pos h']
    · have h' : t r = false := h
      unfold firstG; rw [if_neg (by simp [h'])]; omega
  | r :: L, j + 1, hj, hle => by
    unfold firstG at hle ⊢
    split at hle
    · omega
    · rename_i hn
      rw [if_neg hn]
      obtain ⟨h1, h2⟩ := firstG_step t L j (by simpa using hj) (by omega)
      exact ⟨fun h => by rw [h1 h], fun h => by have := h2 h; omega⟩
theorem firstG_iff {α : Type} (t : α → Bool) : ∀ L : List α, firstG t L = L.length ↔ L.any t = false
  | [] => by simp [firstG]
  | r :: L => by
    have ih := firstG_iff t L
    unfold firstG
    cases h : t r
    · simp [h, ih]
    · simp [h]
theorem firstG_any {α : Type} (t : α → Bool) (L : List α) : decide (0 ≤ (if firstG t L = L.length then (-1 : Int) else (firstG t L : Int))) = L.any t := by
  have h := firstG_iff t L
  cases ha : L.any t
  · rw [if_pos (h.2 ha)]; rfl
  · rw [if_neg (fun e => by rw [h.1 e] at ha; cases ha)]; simp
/-- those that do not meet a test -/
def dropG {α : Type} (t : α → Bool) (L : List α) : List α := L.filter (fun r => !t r)
theorem dropG_snoc {α : Type} (t : α → Bool) (L : List α) (j : Nat) (hj : j < L.length) : dropG t (L.take (j + 1)) = if t L[j] then dropG t (L.take j) else dropG t (L.take j) ++ [L[j]] := by
  unfold dropG
  rw [← List.take_append_getElem hj, List.filter_append]
  cases h : t L[j] <;> simp [h]
theorem firstG_take {α : Type} (t : α → Bool) : ∀ (L : List α), firstG t L < L.length → dropG t (L.take (firstG t L + 1)) = L.take (firstG t L)
  | [], h => by simp at h
  | r :: L, h => by
    unfold firstG at h ⊢
    by_cases hr : t r = true
    · rw [if_pos hr]
      simp [dropG, hr]
    · rw [if_neg hr] at h ⊢
      have ih := firstG_take t L (by simpa using h)
      rw [List.take_succ_cons, List.take_succ_cons]
      unfold dropG at ih ⊢
      rw [List.filter_cons, ih]
      simp at hr
      simp [hr]
theorem firstG_none {α : Type} (t : α → Bool) : ∀ (L : List α), firstG t L = L.length → dropG t L = L
  | [], _ => rfl
  | r :: L, h => by
    unfold firstG at h
    by_cases hr : t r = true
    · rw [if_pos hr] at h; simp at h
    · rw [if_neg hr] at h
      have ih := firstG_none t L (by simpa using h)
      unfold dropG at ih ⊢
      rw [List.filter_cons, ih]
      simp at hr
      simp [hr]
theorem take_mem {α : Type} (L : List α) (j : Nat) (hj : j < L.length) (x : α) : x ∈ L.take (j + 1) ↔ x ∈ L.take j ∨ x = L[j] := by
  rw [← List.take_append_getElem hj, List.mem_append, List.mem_singleton]

end Go.Proofs.YtcknhjabdjbjiabGreat
