/- Points that are equal; a map that is keyed by points. Lists and tests. Lists of points: searched and cut by a function that is handed in. -/
import Derived.Laws.StructEq
import Derived.MapKept
import Derived.ChangeMaps4
import Derived.Test.YtcknhjabdjbjiaaGreatProg
import Derived.Test.YtcknhjabdjbjiaaGreatGWPtS
import Derived.Test.YtcknhjabdjbjiaaGreatGMPtr
import Derived.Test.YtcknhjabdjbjiaaGreatGWV13
namespace Go.Proofs.YtcknhjabdjbjiaaGreat
open Go.RowKit
set_option maxRecDepth 100000

/-- a point's value -/
abbrev PV (x : Pt) : Value := .agg #[.int .i64 x.t, .int .i64 x.i, .string x.k]
theorem pt_eq (x y : Pt) : decide (x = y) = ((x.t == y.t) && ((x.i == y.i) && (x.k.toList == y.k.toList))) := by
  rw [Bool.eq_iff_iff]
  simp only [decide_eq_true_eq, Bool.and_eq_true, beq_iff_eq]
  constructor
  · rintro rfl
    exact ⟨rfl, rfl, rfl⟩
  · rintro ⟨h1, h2, h3⟩
    obtain ⟨t, i, k⟩ := x
    obtain ⟨t', i', k'⟩ := y
    simp only at h1 h2 h3
    have h4 : k = k' := bytes_eq (by rw [← Lib.toList_data, ← Lib.toList_data]; exact h3)
    rw [h1, h2, h4]

set_option maxHeartbeats 1000000 in
theorem run_eqInP (x y : Pt) (w : World) : (Op.equalIn 10000 39 (PV x) (PV y)).run Tryz.prog w = .ok (decide (x = y)) w := by
  have u9 := Tryz.underlying9
  have a9 := Tryz.isAgg9
  have z9 := Tryz.sizeOf9
  have u4 := Tryz.underlying3
  have a4 := Tryz.isAgg3
  have z4 := Tryz.sizeOf3
  have hS : Tryz.prog.underlying 39 = some (.struct (Tryz.prog.fieldsOf 39)) := by kernel_rfl
  have hp : Tryz.prog.stoodInHeld 39 = false := by kernel_rfl
  rw [pt_eq, show (10000 : Nat) = 9999 + 1 from rfl, run_equalIn_agg w 9999 39 _ _ hS hp]
  simp only [Program.fieldsOf, Tryz.underlying39]
  go_simp
  cases h1 : (x.t == y.t) <;> cases h2 : (x.i == y.i) <;> cases h3 : (x.k.toList == y.k.toList) <;> simp_all

theorem run_eqP (x y : Pt) (w : World) : (binOp .eql 39 (PV x) (PV y)).run Tryz.prog w = .ok (.bool (decide (x = y))) w := by
  rw [run_eql_struct, run_eqInP]
  rfl
theorem run_neP (x y : Pt) (w : World) : (binOp .neq 39 (PV x) (PV y)).run Tryz.prog w = .ok (.bool (!decide (x = y))) w := by
  rw [run_neq_struct, run_eqInP]
  rfl
theorem run_eqGP (op : BinOp) (a b : Operand) (x y : Pt) (w : World) : (eqGuard op 39 a b (PV x) (PV y)).run Tryz.prog w = .ok () w :=
  run_eqGuard_agg w op 39 a b _ _ (by kernel_rfl)
theorem run_checkP (e : Bool) (x : Pt) (w : World) : (Instr.checkKey e 10000 39 (PV x)).run Tryz.prog w = .ok () w := by
  cases e <;> kernel_rfl

/-- block mb is a set of points -/
def MapP (w : World) (mb : Nat) (K : List Pt) : Prop := ∃ es c, w.heap[mb]? = some (.map es c) ∧ es.toList.map (fun e => (e.key, e.val)) = K.map (fun x => (PV x, Value.agg #[]))
theorem MapP.of_block {w w' : World} {mb : Nat} {K : List Pt} (h : MapP w mb K) (hb : w'.heap[mb]? = w.heap[mb]?) : MapP w' mb K := by
  obtain ⟨es, c, h1, h2⟩ := h
  exact ⟨es, c, hb.trans h1, h2⟩
theorem MapP.lt {w : World} {mb : Nat} {K : List Pt} (h : MapP w mb K) : mb < w.heap.size := by
  obtain ⟨es, c, h1, h2⟩ := h
  exact (Array.getElem?_eq_some_iff.1 h1).1
theorem MapP.on {w w' : World} {mb : Nat} {K : List Pt} (h : MapP w mb K) (hb : Below w.heap.size w w') : MapP w' mb K := h.of_block (hb.block mb h.lt)
theorem MapP.made (w : World) : MapP (w.alloc (.map #[] 0)) w.heap.size [] := ⟨#[], 0, heap_alloc_new w _, rfl⟩

theorem ask_run (x : Pt) (w : World) : ∀ (es : List MapEntry) (K : List Pt) (i : Nat), es.map (fun e => (e.key, e.val)) = K.map (fun x => (PV x, Value.agg #[])) →
    (Instr.findAsking 39 (PV x) es i).run Tryz.prog w = .ok (if x ∈ K then some (i + K.idxOf x, Value.agg #[]) else none) w
  | [], [], i, _ => rfl
  | [], k :: K, i, h => by simp at h
  | e :: es, [], i, h => by simp at h
  | e :: es, k :: K, i, h => by
    simp only [List.map_cons, List.cons.injEq, Prod.mk.injEq] at h
    obtain ⟨⟨hk, hv⟩, ht⟩ := h
    have ih := ask_run x w es K (i + 1) ht
    have he : (Op.equal 39 (PV x) e.key).run Tryz.prog w = .ok (decide (x = k)) w := by rw [hk]; exact run_eqInP x k w
    unfold Instr.findAsking
    simp only [Sem.run_bind, he, Result.andThen_ok]
    by_cases hx : x = k
    · subst hx
      simp [hv]
    · have hn : ¬ k = x := fun h => hx h.symm
      simp only [decide_eq_false hx, Bool.false_eq_true, if_false, ih]
      by_cases hm : x ∈ K
      · have hidx : (k :: K).idxOf x = K.idxOf x + 1 := by
          rw [List.idxOf_cons, show (k == x) = false from beq_eq_false_iff_ne.2 hn]
          rfl
        have hm2 : x ∈ k :: K := List.mem_cons_of_mem _ hm
        rw [if_pos hm, if_pos hm2, hidx, Nat.add_assoc, Nat.add_comm 1]
      · simp [hm, hx]

theorem find_run (x : Pt) (w : World) (es : List MapEntry) (K : List Pt) (h : es.map (fun e => (e.key, e.val)) = K.map (fun x => (PV x, Value.agg #[]))) :
    (Instr.findKey 39 (PV x) es).run Tryz.prog w = .ok (if x ∈ K then some (K.idxOf x, Value.agg #[]) else none) w := by
  unfold Instr.findKey
  simp only [Sem.run_bind, run_underlying Tryz.underlying39, Result.andThen_ok]
  match es, K, h with
  | [], [], _ => rfl
  | [], k :: K, h => simp at h
  | e :: es, [], h => simp at h
  | e :: es, k :: K, h =>
    have h9 := ask_run x w (e :: es) (k :: K) 0 h
    rw [Nat.zero_add] at h9
    simp only [Instr.findNow, Instr.sameNow]
    exact h9

theorem zeroE (w : World) : (zeroValue 115).run Tryz.prog w = .ok (.agg #[]) w := by kernel_rfl
theorem MapP.look {w : World} {mb : Nat} {K : List Pt} (h : MapP w mb K) (x : Pt) :
    (Instr.lookup 114 (.map (some mb)) (PV x) true).run Tryz.prog w = .ok (.tuple #[.agg #[], .bool (decide (x ∈ K))]) w := by
  obtain ⟨es, c, h1, h2⟩ := h
  have hf := find_run x w es.toList K h2
  unfold Instr.lookup
  simp only [Sem.run_bind, run_underlying Tryz.underlying114, Result.andThen_ok, MapKept.run_getObj_map h1, Sem.run_pure, run_checkP, hf]
  by_cases hx : x ∈ K
  · simp [hx]
  · simp [hx]

theorem bitsP (x : Pt) : Instr.sameBits 10000 (PV x) (PV x) = true := by
  show Instr.sameBits (9999 + 1) (PV x) (PV x) = true
  have h : (x.k == x.k) = true := by
    show (x.k.data == x.k.data) = true
    simp
  simp [Instr.sameBits, h]
theorem MapP.store {w : World} {mb : Nat} {K : List Pt} (h : MapP w mb K) (x : Pt) :
    ∃ w', (Instr.mapUpdate 114 (.map (some mb)) (PV x) (.agg #[])).run Tryz.prog w = .ok () w' ∧ MapP w' mb (if x ∈ K then K else K ++ [x]) ∧ (∀ k, k ≠ mb → w'.heap[k]? = w.heap[k]?) ∧ w'.heap.size = w.heap.size ∧ w'.os = w.os ∧ w'.tape = w.tape ∧ w'.output = w.output := by
  obtain ⟨es, c, h1, h2⟩ := h
  have hlt : mb < w.heap.size := (Array.getElem?_eq_some_iff.1 h1).1
  have hf := find_run x w es.toList K h2
  by_cases hx : x ∈ K
  · rw [if_pos hx] at hf
    have hi : K.idxOf x < K.length := List.idxOf_lt_length_of_mem hx
    have hl : es.size = K.length := by have := congrArg List.length h2; simpa using this
    have hi2 : K.idxOf x < es.size := by omega
    have hk := congrArg (fun l => l[K.idxOf x]?) h2
    simp only [List.getElem?_map, Array.getElem?_toList, List.getElem?_eq_getElem hi, List.getElem_idxOf hi, Array.getElem?_eq_getElem hi2, Option.map_some, Option.some.injEq, Prod.mk.injEq] at hk
    refine ⟨{ w with heap := w.heap.setIfInBounds mb (.map (es.modify (K.idxOf x) fun e => { e with key := PV x, val := Value.agg #[] }) c) }, ?_, ?_, ?_, by simp, rfl, rfl, rfl⟩
    · unfold Instr.mapUpdate
      simp only [Sem.run_bind, run_underlying Tryz.underlying114, Result.andThen_ok, MapKept.run_getObj_map h1, Sem.run_pure, run_checkP, hf, Instr.keyThatStays, Array.getElem?_eq_getElem hi2, Option.map_some, Option.getD_some, hk.1, bitsP, if_true, MapKept.run_setObj_map _ h1]
    · refine ⟨es.modify (K.idxOf x) fun e => { e with key := PV x, val := Value.agg #[] }, c, by simp [hlt], ?_⟩
      rw [if_pos hx, ← h2]
      apply List.ext_getElem?
      intro j
      simp only [List.getElem?_map, Array.getElem?_toList, Array.getElem?_modify]
      split
      · rename_i hj
        subst hj
        rw [Array.getElem?_eq_getElem hi2]
        simp [hk.1, hk.2]
      · rfl
    · intro k hk
      simp [Ne.symm hk]
  · rw [if_neg hx] at hf
    refine ⟨{ w with heap := w.heap.setIfInBounds mb (.map (es.push { key := PV x, val := Value.agg #[], born := c }) (c + 1)) }, ?_, ?_, ?_, by simp, rfl, rfl, rfl⟩
    · unfold Instr.mapUpdate
      simp only [Sem.run_bind, run_underlying Tryz.underlying114, Result.andThen_ok, MapKept.run_getObj_map h1, run_checkP, hf, MapKept.run_setObj_map _ h1]
    · refine ⟨es.push { key := PV x, val := Value.agg #[], born := c }, c + 1, by simp [hlt], ?_⟩
      rw [if_neg hx]
      simp [h2]
    · intro k hk
      simp [Ne.symm hk]

end Go.Proofs.YtcknhjabdjbjiaaGreat

namespace Go.Proofs.YtcknhjabdjbjiaaGreat

/-- where the first that meets a test stands -/
def firstG {α : Type} (t : α → Bool) : List α → Nat
  | [] => 0
  | r :: L => if t r then 0 else firstG t L + 1
theorem firstG_le {α : Type} (t : α → Bool) : ∀ L : List α, firstG t L ≤ L.length
  | [] => Nat.le_refl _
  | r :: L => by
    have := firstG_le t L
    unfold firstG
    split
    · omega
    · simp only [List.length_cons]; omega
theorem firstG_step {α : Type} (t : α → Bool) : ∀ (L : List α) (j : Nat) (hj : j < L.length), j ≤ firstG t L → (t L[j] = true → firstG t L = j) ∧ (t L[j] = false → j + 1 ≤ firstG t L)
  | [], j, hj, _ => by simp at hj
  | r :: L, 0, _, _ => by
    refine ⟨fun h => ?_, fun h => ?_⟩
    · have h' : t r = true := h
      unfold firstG; rw [if_pos h']
    · have h' : t r = false := h
      unfold firstG; rw [if_neg (by simp [h'])]; omega
  | r :: L, j + 1, hj, hle => by
    unfold firstG at hle ⊢
    split at hle
    · omega
    · rename_i hn
      rw [if_neg hn]
      obtain ⟨h1, h2⟩ := firstG_step t L j (by simpa using hj) (by omega)
      exact ⟨fun h => by rw [h1 h], fun h => by have := h2 h; omega⟩
theorem firstG_iff {α : Type} (t : α → Bool) : ∀ L : List α, firstG t L = L.length ↔ L.any t = false
  | [] => by simp [firstG]
  | r :: L => by
    have ih := firstG_iff t L
    unfold firstG
    cases h : t r
    · simp [h, ih]
    · simp [h]
theorem firstG_any {α : Type} (t : α → Bool) (L : List α) : decide (0 ≤ (if firstG t L = L.length then (-1 : Int) else (firstG t L : Int))) = L.any t := by
  have h := firstG_iff t L
  cases ha : L.any t
  · rw [if_pos (h.2 ha)]; rfl
  · rw [if_neg (fun e => by rw [h.1 e] at ha; cases ha)]; simp
/-- those that do not meet a test -/
def dropG {α : Type} (t : α → Bool) (L : List α) : List α := L.filter (fun r => !t r)
theorem dropG_snoc {α : Type} (t : α → Bool) (L : List α) (j : Nat) (hj : j < L.length) : dropG t (L.take (j + 1)) = if t L[j] then dropG t (L.take j) else dropG t (L.take j) ++ [L[j]] := by
  unfold dropG
  rw [← List.take_append_getElem hj, List.filter_append]
  cases h : t L[j] <;> simp [h]
theorem firstG_take {α : Type} (t : α → Bool) : ∀ (L : List α), firstG t L < L.length → dropG t (L.take (firstG t L + 1)) = L.take (firstG t L)
  | [], h => by simp at h
  | r :: L, h => by
    unfold firstG at h ⊢
    by_cases hr : t r = true
    · rw [if_pos hr]
      simp [dropG, hr]
    · rw [if_neg hr] at h ⊢
      have ih := firstG_take t L (by simpa using h)
      rw [List.take_succ_cons, List.take_succ_cons]
      unfold dropG at ih ⊢
      rw [List.filter_cons, ih]
      simp at hr
      simp [hr]
theorem firstG_none {α : Type} (t : α → Bool) : ∀ (L : List α), firstG t L = L.length → dropG t L = L
  | [], _ => rfl
  | r :: L, h => by
    unfold firstG at h
    by_cases hr : t r = true
    · rw [if_pos hr] at h; simp at h
    · rw [if_neg hr] at h
      have ih := firstG_none t L (by simpa using h)
      unfold dropG at ih ⊢
      rw [List.filter_cons, ih]
      simp at hr
      simp [hr]
theorem take_mem {α : Type} (L : List α) (j : Nat) (hj : j < L.length) (x : α) : x ∈ L.take (j + 1) ↔ x ∈ L.take j ∨ x = L[j] := by
  rw [← List.take_append_getElem hj, List.mem_append, List.mem_singleton]

end Go.Proofs.YtcknhjabdjbjiaaGreat

namespace Go.Proofs.YtcknhjabdjbjiaaGreat
open Go.RowKit
set_option maxRecDepth 100000

set_option maxHeartbeats 2000000 in
theorem indexFP0_any (fid : FuncId) (t : Pt → Bool) (L : List Pt) (p : Option Addr) (c : Nat) (w : World) (hin : ∀ args w, (callFunc fid args).run Tryz.prog w = .ok (.enter fid args) w) (hR : RowP w w.heap.size p L) (hlen : L.length ≤ 4398046511104)
    (HC : ∀ (x : Pt) (w1 : World), Below w.heap.size w w1 → Calls Tryz.prog fid #[.agg #[.int .i64 x.t, .int .i64 x.i, .string x.k]] w1 fun e w' => e = .returned (.bool (t x)) ∧ Below w1.heap.size w1 w') :
    Calls Tryz.prog 73 #[.slice p L.length c, .func (.func fid) #[] #[]] w fun e w' => e = .returned (.int .i64 (if firstG t L = L.length then -1 else (firstG t L : Int))) ∧ Below w.heap.size w w' := by
  have HA : Hid (RowP _ _ _ _) := hR
  have HF := firstG_le t L
  have HS : Hid (∀ (j : Nat) (hj : j < L.length), j ≤ firstG t L → (t L[j] = true → firstG t L = j) ∧ (t L[j] = false → j + 1 ≤ firstG t L)) := firstG_step t L
  have HHC : Hid (∀ (x : Pt) (w1 : World), Below w.heap.size w w1 → Calls Tryz.prog fid #[.agg #[.int .i64 x.t, .int .i64 x.i, .string x.k]] w1 fun e w' => e = .returned (.bool (t x)) ∧ Below w1.heap.size w1 w') := HC
  clear hR HC
  generalize firstG t L = f at *
  go_enter Tryz.func73, Tryz.ntmps73
  go_wp2_with fail
  go_loopw [8] (fun i wr => ∃ j : Nat, j ≤ f ∧ i = .int .i64 (j : Int) ∧ Below w.heap.size w wr) (fun i _ => L.length - (intOf i).toNat)
  case atStart => exact ⟨0, Nat.zero_le _, by go_num, Below.refl _ _⟩
  case round =>
    obtain ⟨j, hj, rfl, hn⟩ := hrel
    by_cases hj0 : j = L.length
    · have hf : f = L.length := by omega
      subst hj0
      go_wp2
      go_ret
      exact ⟨rfl, hn⟩
    · have hj1 : j < L.length := by omega
      obtain ⟨b, o, rfl, hbB, c0, c1, c2⟩ := HA.out j hj1
      have a0 := (hn.cell (p := ⟨b, o + j * 3, none⟩) hbB).trans c0
      have a1 := (hn.cell (p := ⟨b, o + j * 3 + 1, none⟩) hbB).trans c1
      have a2 := (hn.cell (p := ⟨b, o + j * 3 + 2, none⟩) hbB).trans c2
      have hst := HS.out j hj1 hj
      have HN : Hid (Below w.heap.size w _) := hn
      have CE : Hid (∀ w1 : World, Below w.heap.size w w1 → Calls Tryz.prog fid #[.agg #[.int .i64 (L[j]).t, .int .i64 (L[j]).i, .string (L[j]).k]] w1 fun e w' => e = .returned (.bool (t L[j])) ∧ Below w1.heap.size w1 w') := fun w1 h1 => HHC.out L[j] w1 h1
      clear c0 c1 c2 hj0 HHC
      generalize t L[j] = em at *
      generalize (L[j]).t = x0 at *
      generalize (L[j]).i = x1 at *
      generalize (L[j]).k = x2 at *
      cases em
      · have hlt := hst.2 rfl
        clear hst
        go_wp2_with fail
        refine (CE.out _ HN.out).mono ?_
        rintro e w5 ⟨rfl, hb5⟩
        have hsz := hn.size
        clear a0
        go_wp2
        go_roundw
        case rel => exact ⟨j + 1, hlt, by go_num, hn.trans (hb5.mono hn.size)⟩
        case measure => simp [intOf]; omega
      · have hf := hst.1 rfl
        clear hst
        go_wp2_with fail
        refine (CE.out _ HN.out).mono ?_
        rintro e w5 ⟨rfl, hb5⟩
        go_wp2
        go_ret
        exact ⟨rfl, hn.trans (hb5.mono hn.size)⟩

set_option maxHeartbeats 2000000 in
theorem containsFP0_any (fid : FuncId) (t : Pt → Bool) (L : List Pt) (p : Option Addr) (c : Nat) (w : World) (hin : ∀ args w, (callFunc fid args).run Tryz.prog w = .ok (.enter fid args) w) (hR : RowP w w.heap.size p L) (hlen : L.length ≤ 4398046511104)
    (HC : ∀ (x : Pt) (w1 : World), Below w.heap.size w w1 → Calls Tryz.prog fid #[.agg #[.int .i64 x.t, .int .i64 x.i, .string x.k]] w1 fun e w' => e = .returned (.bool (t x)) ∧ Below w1.heap.size w1 w') :
    Calls Tryz.prog 50 #[.slice p L.length c, .func (.func fid) #[] #[]] w fun e w' => e = .returned (.bool (L.any t)) ∧ Below w.heap.size w w' := by
  have C1 : Hid (Calls _ _ _ _ _) := indexFP0_any fid t L p c w hin hR hlen HC
  have hr : decide (0 ≤ (if firstG t L = L.length then (-1 : Int) else (firstG t L : Int))) = L.any t := firstG_any t L
  have HR : Hid (decide (0 ≤ (if firstG t L = L.length then (-1 : Int) else (firstG t L : Int))) = L.any t) := hr
  clear hR HC hr
  generalize (if firstG t L = L.length then (-1 : Int) else (firstG t L : Int)) = f at *
  go_enter Tryz.func50, Tryz.ntmps50
  go_wp2_with fail
  refine C1.out.mono ?_
  rintro e w1 ⟨rfl, hb1⟩
  go_wp2
  go_ret
  exact ⟨by rw [← HR.out]; rfl, hb1⟩

set_option maxHeartbeats 4000000 in
theorem deleteFP0_any (fid : FuncId) (t : Pt → Bool) (L : List Pt) (g cap B : Nat) (w : World) (hin : ∀ args w, (callFunc fid args).run Tryz.prog w = .ok (.enter fid args) w) (hO : OwnP w B (.slice (some ⟨g, 0, none⟩) L.length cap) L) (hlen : L.length ≤ 4398046511104) 
    (HC : ∀ (x : Pt) (w1 : World), Below B w w1 → Calls Tryz.prog fid #[.agg #[.int .i64 x.t, .int .i64 x.i, .string x.k]] w1 fun e w' => e = .returned (.bool (t x)) ∧ Below w1.heap.size w1 w') :
    Calls Tryz.prog 61 #[.slice (some ⟨g, 0, none⟩) L.length cap, .func (.func fid) #[] #[]] w fun e w' => e = .returned (.slice (some ⟨g, 0, none⟩) (dropG t L).length cap) ∧ OwnP w' B (.slice (some ⟨g, 0, none⟩) (dropG t L).length cap) (dropG t L) ∧ Below B w w' := by
  obtain ⟨hcap, hmx, hBg, hgw⟩ := hO.cap
  have hmx' : cap ≤ 9223372036854775807 := by unfold maxLen at hmx; omega
  obtain ⟨p0, c0', ep, hRow⟩ := hO.row
  injection ep with ep1 _ ep3
  subst ep1 ep3
  have C1 : Hid (Calls _ _ _ _ _) := indexFP0_any fid t L (some ⟨g, 0, none⟩) cap w hin hRow hlen (fun x w1 h1 => HC x w1 (h1.mono (by omega)))
  have HO : Hid (OwnP _ _ _ _) := hO
  have HHC : Hid (∀ (x : Pt) (w1 : World), Below B w w1 → Calls Tryz.prog fid #[.agg #[.int .i64 x.t, .int .i64 x.i, .string x.k]] w1 fun e w' => e = .returned (.bool (t x)) ∧ Below w1.heap.size w1 w') := HC
  have hfl := firstG_le t L
  clear hO hRow hmx HC
  by_cases hall : firstG t L = L.length
  · have hk := firstG_none t L hall
    rw [if_pos hall] at C1
    rw [hk]
    clear hk hall hfl
    go_enter Tryz.func61, Tryz.ntmps61
    go_wp2_with fail
    refine C1.out.mono ?_
    rintro e w1 ⟨rfl, hb1⟩
    go_wp2
    go_ret
    exact ⟨rfl, HO.out.kept hb1, hb1.mono (by omega)⟩
  · have HT : Hid (dropG t (L.take (firstG t L + 1)) = L.take (firstG t L)) := firstG_take t L (by omega)
    rw [if_neg hall] at C1
    have hf1 : firstG t L < L.length := by omega
    clear hall hfl
    generalize firstG t L = f at *
    have hfne : ((f : Int) == -1) = false := by simp
    go_enter Tryz.func61, Tryz.ntmps61
    go_wp2_with fail
    refine C1.out.mono ?_
    rintro e w1 ⟨rfl, hb1⟩
    have HB1 : Hid (Below _ _ _) := hb1
    clear hb1 C1
    go_wp2_with fail
    go_loopw [5, 6] (fun x y wr => ∃ (i j : Nat) (M : List Pt), x = .int .i64 (i : Int) ∧ y = .int .i64 (j : Int) ∧ i < j ∧ j ≤ L.length ∧ M.length = L.length ∧ M.take i = dropG t (L.take j) ∧ M.drop j = L.drop j ∧ OwnP wr B (.slice (some ⟨g, 0, none⟩) L.length cap) M ∧ Below B w wr) (fun _ y _ => L.length - (intOf y).toNat)
    case atStart => exact ⟨f, f + 1, L, by go_num, by go_num, by omega, by omega, rfl, HT.out.symm, rfl, HO.out.kept HB1.out, HB1.out.mono (by omega)⟩
    case round =>
      obtain ⟨i, j, M, rfl, rfl, hij, hj, hM, htk, hdr, hown, hbl⟩ := hrel
      have HE : Hid (M.take i = dropG t (L.take j) ∧ M.drop j = L.drop j ∧ OwnP wr B (.slice (some ⟨g, 0, none⟩) L.length cap) M ∧ Below B w wr) := ⟨htk, hdr, hown, hbl⟩
      have hgr : g < wr.heap.size := (hown.cap).2.2.2
      clear htk hdr hown hbl
      by_cases hj0 : j = L.length
      · subst hj0
        have hi : i < M.length := by omega
        have hk : M.take i = dropG t L := by have h := HE.out.1; rw [List.take_of_length_le (Nat.le_refl L.length)] at h; exact h
        have hkl : (dropG t L).length = i := by rw [← hk, List.length_take]; omega
        have hcl : (Builtin.clear_ #[34] 0 #[.slice (some ⟨g, i * 3, none⟩) (L.length - i) (cap - i)]).run Tryz.prog wr = .ok (.tuple #[]) (wr.setCells g (i * 3) (zeroP (L.length - i))) := by
          have h' : wr.ownsRow B 39 3 (.slice (some ⟨g, 0, none⟩) M.length cap) M.length (pcells M) := by
            have h := HE.out.2.2.1
            rw [← hM] at h
            exact h
          refine run_clearP wr 0 g (i * 3) (L.length - i) (cap - i) (by omega) (fun t ht => ?_) (fun t _ => h'.frozenAt _)
          rw [h'.cellAt (i * 3 + t) (by omega), List.getElem?_eq_getElem (by rw [pcells_len]; omega)]
          rfl
        have HF : Hid ((dropG t L).length = i ∧ M.take i = dropG t L) := ⟨hkl, hk⟩
        clear hk hkl
        go_wp2
        go_ret
        rw [HF.out.1, ← HF.out.2]
        exact ⟨rfl, HE.out.2.2.1.cut hM.symm i (by omega) _, setCells_below hBg _ _ _ _ HE.out.2.2.2⟩
      · have hj1 : j < L.length := by omega
        have hoM : OwnP wr B (.slice (some ⟨g, 0, none⟩) M.length cap) M := by rw [hM]; exact HE.out.2.2.1
        obtain ⟨⟨c0, c1, c2⟩, _⟩ := hoM.at j (by omega)
        obtain ⟨⟨m0, m1, m2⟩, n0, n1, n2⟩ := hoM.at i (by omega)
        have eMj : M[j]'(by omega) = L[j] := by
          have h := congrArg (fun l => l[0]?) HE.out.2.1
          simp only [List.getElem?_drop, Nat.add_zero] at h
          rw [List.getElem?_eq_getElem (by omega), List.getElem?_eq_getElem hj1] at h
          exact Option.some.inj h
        rw [eMj] at c0 c1 c2
        have CE : Hid (∀ w1 : World, Below B w w1 → Calls Tryz.prog fid #[.agg #[.int .i64 (L[j]).t, .int .i64 (L[j]).i, .string (L[j]).k]] w1 fun e w' => e = .returned (.bool (t L[j])) ∧ Below w1.heap.size w1 w') := fun w1 h1 => HHC.out L[j] w1 h1
        have hks := dropG_snoc t L j hj1
        have HK : Hid (dropG t (L.take (j + 1)) = if t L[j] then dropG t (L.take j) else dropG t (L.take j) ++ [L[j]]) := hks
        clear hoM hks
        obtain ⟨x, hx⟩ : ∃ x, x = L[j] := ⟨_, rfl⟩
        rw [← hx] at HK CE c0 c1 c2 eMj
        have HX : Hid (x = L[j]) := hx
        clear hx
        have hBw : B ≤ wr.heap.size := by omega
        have HAL : Hid (∀ o : Obj, Below B w (wr.alloc o)) := fun o => HE.out.2.2.2.trans (((Below.refl _ _).alloc (Nat.le_refl _) o).mono hBw)
        cases hem : t x
        · rw [hem] at CE HK
          rw [if_neg (by simp)] at HK
          have fin : Hid (∀ (o : Obj) (w5 : World), Below (wr.alloc o).heap.size (wr.alloc o) w5 → Below wr.heap.size wr w5 ∧ OwnP w5 B (.slice (some ⟨g, 0, none⟩) M.length cap) M) := by
            intro o w5 hb5
            have hA : Below wr.heap.size wr w5 := ((Below.refl _ _).alloc (Nat.le_refl _) _).trans (hb5.mono (by simp))
            have hoM : OwnP w5 B (.slice (some ⟨g, 0, none⟩) M.length cap) M := by rw [hM]; exact HE.out.2.2.1.kept hA
            exact ⟨hA, hoM⟩
          go_wp2_with fail
          refine (CE.out _ (HAL.out _)).mono ?_
          rintro e w5 ⟨rfl, hb5⟩
          obtain ⟨hx1, hx2⟩ := bcell hb5
          obtain ⟨hA, hoM5⟩ := fin.out _ w5 hb5
          go_wp2
          go_roundw
          case rel =>
            refine ⟨i + 1, j + 1, M.set i x, by go_num, by go_num, by omega, by omega, by rw [List.length_set]; exact hM, ?_, ?_, ?_, ?_⟩
            · rw [HK.out, ← HE.out.1, List.take_set, List.take_add_one, List.getElem?_eq_getElem (by omega : i < M.length)]
              rw [List.set_append]
              have hl : (M.take i).length = i := by rw [List.length_take]; omega
              rw [if_neg (by omega), hl, Nat.sub_self]
              rfl
            · rw [List.drop_set_of_lt (by omega), ← List.drop_drop, ← List.drop_drop, HE.out.2.1]
            · have h := hoM5.set i (by omega) x
              rw [hM] at h
              exact h
            · exact ((((HE.out.2.2.2.trans (hA.mono hBw))).setCell hBg _).setCell hBg _).setCell hBg _
          case measure => simp [intOf]; omega
        · rw [hem] at CE HK
          rw [if_pos rfl] at HK
          go_wp2_with fail
          refine (CE.out _ (HAL.out _)).mono ?_
          rintro e w5 ⟨rfl, hb5⟩
          have hA : Below wr.heap.size wr w5 := ((Below.refl _ _).alloc (Nat.le_refl _) _).trans (hb5.mono (by simp))
          go_wp2
          go_roundw
          case rel => exact ⟨i, j + 1, M, by go_num, by go_num, by omega, by omega, hM, by rw [HK.out]; exact HE.out.1, by rw [← List.drop_drop, ← List.drop_drop, HE.out.2.1], HE.out.2.2.1.kept hA, HE.out.2.2.2.trans (hA.mono hBw)⟩
          case measure => simp [intOf]; omega

set_option maxHeartbeats 2000000 in
theorem indexFP1_any (fid : FuncId) (k1 : Value) (t : Pt → Bool) (L : List Pt) (p : Option Addr) (c : Nat) (w : World) (hin : ∀ args w, (callFunc fid args).run Tryz.prog w = .ok (.enter fid args) w) (hR : RowP w w.heap.size p L) (hlen : L.length ≤ 4398046511104)
    (HC : ∀ (x : Pt) (w1 : World), Below w.heap.size w w1 → Calls Tryz.prog fid #[.agg #[.int .i64 x.t, .int .i64 x.i, .string x.k], k1] w1 fun e w' => e = .returned (.bool (t x)) ∧ Below w1.heap.size w1 w') :
    Calls Tryz.prog 73 #[.slice p L.length c, .func (.func fid) #[] #[k1]] w fun e w' => e = .returned (.int .i64 (if firstG t L = L.length then -1 else (firstG t L : Int))) ∧ Below w.heap.size w w' := by
  have HA : Hid (RowP _ _ _ _) := hR
  have HF := firstG_le t L
  have HS : Hid (∀ (j : Nat) (hj : j < L.length), j ≤ firstG t L → (t L[j] = true → firstG t L = j) ∧ (t L[j] = false → j + 1 ≤ firstG t L)) := firstG_step t L
  have HHC : Hid (∀ (x : Pt) (w1 : World), Below w.heap.size w w1 → Calls Tryz.prog fid #[.agg #[.int .i64 x.t, .int .i64 x.i, .string x.k], k1] w1 fun e w' => e = .returned (.bool (t x)) ∧ Below w1.heap.size w1 w') := HC
  clear hR HC
  generalize firstG t L = f at *
  go_enter Tryz.func73, Tryz.ntmps73
  go_wp2_with fail
  go_loopw [8] (fun i wr => ∃ j : Nat, j ≤ f ∧ i = .int .i64 (j : Int) ∧ Below w.heap.size w wr) (fun i _ => L.length - (intOf i).toNat)
  case atStart => exact ⟨0, Nat.zero_le _, by go_num, Below.refl _ _⟩
  case round =>
    obtain ⟨j, hj, rfl, hn⟩ := hrel
    by_cases hj0 : j = L.length
    · have hf : f = L.length := by omega
      subst hj0
      go_wp2
      go_ret
      exact ⟨rfl, hn⟩
    · have hj1 : j < L.length := by omega
      obtain ⟨b, o, rfl, hbB, c0, c1, c2⟩ := HA.out j hj1
      have a0 := (hn.cell (p := ⟨b, o + j * 3, none⟩) hbB).trans c0
      have a1 := (hn.cell (p := ⟨b, o + j * 3 + 1, none⟩) hbB).trans c1
      have a2 := (hn.cell (p := ⟨b, o + j * 3 + 2, none⟩) hbB).trans c2
      have hst := HS.out j hj1 hj
      have HN : Hid (Below w.heap.size w _) := hn
      have CE : Hid (∀ w1 : World, Below w.heap.size w w1 → Calls Tryz.prog fid #[.agg #[.int .i64 (L[j]).t, .int .i64 (L[j]).i, .string (L[j]).k], k1] w1 fun e w' => e = .returned (.bool (t L[j])) ∧ Below w1.heap.size w1 w') := fun w1 h1 => HHC.out L[j] w1 h1
      clear c0 c1 c2 hj0 HHC
      generalize t L[j] = em at *
      generalize (L[j]).t = x0 at *
      generalize (L[j]).i = x1 at *
      generalize (L[j]).k = x2 at *
      cases em
      · have hlt := hst.2 rfl
        clear hst
        go_wp2_with fail
        refine (CE.out _ HN.out).mono ?_
        rintro e w5 ⟨rfl, hb5⟩
        have hsz := hn.size
        clear a0
        go_wp2
        go_roundw
        case rel => exact ⟨j + 1, hlt, by go_num, hn.trans (hb5.mono hn.size)⟩
        case measure => simp [intOf]; omega
      · have hf := hst.1 rfl
        clear hst
        go_wp2_with fail
        refine (CE.out _ HN.out).mono ?_
        rintro e w5 ⟨rfl, hb5⟩
        go_wp2
        go_ret
        exact ⟨rfl, hn.trans (hb5.mono hn.size)⟩

set_option maxHeartbeats 2000000 in
theorem containsFP1_any (fid : FuncId) (k1 : Value) (t : Pt → Bool) (L : List Pt) (p : Option Addr) (c : Nat) (w : World) (hin : ∀ args w, (callFunc fid args).run Tryz.prog w = .ok (.enter fid args) w) (hR : RowP w w.heap.size p L) (hlen : L.length ≤ 4398046511104)
    (HC : ∀ (x : Pt) (w1 : World), Below w.heap.size w w1 → Calls Tryz.prog fid #[.agg #[.int .i64 x.t, .int .i64 x.i, .string x.k], k1] w1 fun e w' => e = .returned (.bool (t x)) ∧ Below w1.heap.size w1 w') :
    Calls Tryz.prog 50 #[.slice p L.length c, .func (.func fid) #[] #[k1]] w fun e w' => e = .returned (.bool (L.any t)) ∧ Below w.heap.size w w' := by
  have C1 : Hid (Calls _ _ _ _ _) := indexFP1_any fid k1 t L p c w hin hR hlen HC
  have hr : decide (0 ≤ (if firstG t L = L.length then (-1 : Int) else (firstG t L : Int))) = L.any t := firstG_any t L
  have HR : Hid (decide (0 ≤ (if firstG t L = L.length then (-1 : Int) else (firstG t L : Int))) = L.any t) := hr
  clear hR HC hr
  generalize (if firstG t L = L.length then (-1 : Int) else (firstG t L : Int)) = f at *
  go_enter Tryz.func50, Tryz.ntmps50
  go_wp2_with fail
  refine C1.out.mono ?_
  rintro e w1 ⟨rfl, hb1⟩
  go_wp2
  go_ret
  exact ⟨by rw [← HR.out]; rfl, hb1⟩

set_option maxHeartbeats 4000000 in
theorem deleteFP1_any (fid : FuncId) (k1 : Value) (t : Pt → Bool) (L : List Pt) (g cap B : Nat) (w : World) (hin : ∀ args w, (callFunc fid args).run Tryz.prog w = .ok (.enter fid args) w) (hO : OwnP w B (.slice (some ⟨g, 0, none⟩) L.length cap) L) (hlen : L.length ≤ 4398046511104) 
    (HC : ∀ (x : Pt) (w1 : World), Below B w w1 → Calls Tryz.prog fid #[.agg #[.int .i64 x.t, .int .i64 x.i, .string x.k], k1] w1 fun e w' => e = .returned (.bool (t x)) ∧ Below w1.heap.size w1 w') :
    Calls Tryz.prog 61 #[.slice (some ⟨g, 0, none⟩) L.length cap, .func (.func fid) #[] #[k1]] w fun e w' => e = .returned (.slice (some ⟨g, 0, none⟩) (dropG t L).length cap) ∧ OwnP w' B (.slice (some ⟨g, 0, none⟩) (dropG t L).length cap) (dropG t L) ∧ Below B w w' := by
  obtain ⟨hcap, hmx, hBg, hgw⟩ := hO.cap
  have hmx' : cap ≤ 9223372036854775807 := by unfold maxLen at hmx; omega
  obtain ⟨p0, c0', ep, hRow⟩ := hO.row
  injection ep with ep1 _ ep3
  subst ep1 ep3
  have C1 : Hid (Calls _ _ _ _ _) := indexFP1_any fid k1 t L (some ⟨g, 0, none⟩) cap w hin hRow hlen (fun x w1 h1 => HC x w1 (h1.mono (by omega)))
  have HO : Hid (OwnP _ _ _ _) := hO
  have HHC : Hid (∀ (x : Pt) (w1 : World), Below B w w1 → Calls Tryz.prog fid #[.agg #[.int .i64 x.t, .int .i64 x.i, .string x.k], k1] w1 fun e w' => e = .returned (.bool (t x)) ∧ Below w1.heap.size w1 w') := HC
  have hfl := firstG_le t L
  clear hO hRow hmx HC
  by_cases hall : firstG t L = L.length
  · have hk := firstG_none t L hall
    rw [if_pos hall] at C1
    rw [hk]
    clear hk hall hfl
    go_enter Tryz.func61, Tryz.ntmps61
    go_wp2_with fail
    refine C1.out.mono ?_
    rintro e w1 ⟨rfl, hb1⟩
    go_wp2
    go_ret
    exact ⟨rfl, HO.out.kept hb1, hb1.mono (by omega)⟩
  · have HT : Hid (dropG t (L.take (firstG t L + 1)) = L.take (firstG t L)) := firstG_take t L (by omega)
    rw [if_neg hall] at C1
    have hf1 : firstG t L < L.length := by omega
    clear hall hfl
    generalize firstG t L = f at *
    have hfne : ((f : Int) == -1) = false := by simp
    go_enter Tryz.func61, Tryz.ntmps61
    go_wp2_with fail
    refine C1.out.mono ?_
    rintro e w1 ⟨rfl, hb1⟩
    have HB1 : Hid (Below _ _ _) := hb1
    clear hb1 C1
    go_wp2_with fail
    go_loopw [5, 6] (fun x y wr => ∃ (i j : Nat) (M : List Pt), x = .int .i64 (i : Int) ∧ y = .int .i64 (j : Int) ∧ i < j ∧ j ≤ L.length ∧ M.length = L.length ∧ M.take i = dropG t (L.take j) ∧ M.drop j = L.drop j ∧ OwnP wr B (.slice (some ⟨g, 0, none⟩) L.length cap) M ∧ Below B w wr) (fun _ y _ => L.length - (intOf y).toNat)
    case atStart => exact ⟨f, f + 1, L, by go_num, by go_num, by omega, by omega, rfl, HT.out.symm, rfl, HO.out.kept HB1.out, HB1.out.mono (by omega)⟩
    case round =>
      obtain ⟨i, j, M, rfl, rfl, hij, hj, hM, htk, hdr, hown, hbl⟩ := hrel
      have HE : Hid (M.take i = dropG t (L.take j) ∧ M.drop j = L.drop j ∧ OwnP wr B (.slice (some ⟨g, 0, none⟩) L.length cap) M ∧ Below B w wr) := ⟨htk, hdr, hown, hbl⟩
      have hgr : g < wr.heap.size := (hown.cap).2.2.2
      clear htk hdr hown hbl
      by_cases hj0 : j = L.length
      · subst hj0
        have hi : i < M.length := by omega
        have hk : M.take i = dropG t L := by have h := HE.out.1; rw [List.take_of_length_le (Nat.le_refl L.length)] at h; exact h
        have hkl : (dropG t L).length = i := by rw [← hk, List.length_take]; omega
        have hcl : (Builtin.clear_ #[34] 0 #[.slice (some ⟨g, i * 3, none⟩) (L.length - i) (cap - i)]).run Tryz.prog wr = .ok (.tuple #[]) (wr.setCells g (i * 3) (zeroP (L.length - i))) := by
          have h' : wr.ownsRow B 39 3 (.slice (some ⟨g, 0, none⟩) M.length cap) M.length (pcells M) := by
            have h := HE.out.2.2.1
            rw [← hM] at h
            exact h
          refine run_clearP wr 0 g (i * 3) (L.length - i) (cap - i) (by omega) (fun t ht => ?_) (fun t _ => h'.frozenAt _)
          rw [h'.cellAt (i * 3 + t) (by omega), List.getElem?_eq_getElem (by rw [pcells_len]; omega)]
          rfl
        have HF : Hid ((dropG t L).length = i ∧ M.take i = dropG t L) := ⟨hkl, hk⟩
        clear hk hkl
        go_wp2
        go_ret
        rw [HF.out.1, ← HF.out.2]
        exact ⟨rfl, HE.out.2.2.1.cut hM.symm i (by omega) _, setCells_below hBg _ _ _ _ HE.out.2.2.2⟩
      · have hj1 : j < L.length := by omega
        have hoM : OwnP wr B (.slice (some ⟨g, 0, none⟩) M.length cap) M := by rw [hM]; exact HE.out.2.2.1
        obtain ⟨⟨c0, c1, c2⟩, _⟩ := hoM.at j (by omega)
        obtain ⟨⟨m0, m1, m2⟩, n0, n1, n2⟩ := hoM.at i (by omega)
        have eMj : M[j]'(by omega) = L[j] := by
          have h := congrArg (fun l => l[0]?) HE.out.2.1
          simp only [List.getElem?_drop, Nat.add_zero] at h
          rw [List.getElem?_eq_getElem (by omega), List.getElem?_eq_getElem hj1] at h
          exact Option.some.inj h
        rw [eMj] at c0 c1 c2
        have CE : Hid (∀ w1 : World, Below B w w1 → Calls Tryz.prog fid #[.agg #[.int .i64 (L[j]).t, .int .i64 (L[j]).i, .string (L[j]).k], k1] w1 fun e w' => e = .returned (.bool (t L[j])) ∧ Below w1.heap.size w1 w') := fun w1 h1 => HHC.out L[j] w1 h1
        have hks := dropG_snoc t L j hj1
        have HK : Hid (dropG t (L.take (j + 1)) = if t L[j] then dropG t (L.take j) else dropG t (L.take j) ++ [L[j]]) := hks
        clear hoM hks
        obtain ⟨x, hx⟩ : ∃ x, x = L[j] := ⟨_, rfl⟩
        rw [← hx] at HK CE c0 c1 c2 eMj
        have HX : Hid (x = L[j]) := hx
        clear hx
        have hBw : B ≤ wr.heap.size := by omega
        have HAL : Hid (∀ o : Obj, Below B w (wr.alloc o)) := fun o => HE.out.2.2.2.trans (((Below.refl _ _).alloc (Nat.le_refl _) o).mono hBw)
        cases hem : t x
        · rw [hem] at CE HK
          rw [if_neg (by simp)] at HK
          have fin : Hid (∀ (o : Obj) (w5 : World), Below (wr.alloc o).heap.size (wr.alloc o) w5 → Below wr.heap.size wr w5 ∧ OwnP w5 B (.slice (some ⟨g, 0, none⟩) M.length cap) M) := by
            intro o w5 hb5
            have hA : Below wr.heap.size wr w5 := ((Below.refl _ _).alloc (Nat.le_refl _) _).trans (hb5.mono (by simp))
            have hoM : OwnP w5 B (.slice (some ⟨g, 0, none⟩) M.length cap) M := by rw [hM]; exact HE.out.2.2.1.kept hA
            exact ⟨hA, hoM⟩
          go_wp2_with fail
          refine (CE.out _ (HAL.out _)).mono ?_
          rintro e w5 ⟨rfl, hb5⟩
          obtain ⟨hx1, hx2⟩ := bcell hb5
          obtain ⟨hA, hoM5⟩ := fin.out _ w5 hb5
          go_wp2
          go_roundw
          case rel =>
            refine ⟨i + 1, j + 1, M.set i x, by go_num, by go_num, by omega, by omega, by rw [List.length_set]; exact hM, ?_, ?_, ?_, ?_⟩
            · rw [HK.out, ← HE.out.1, List.take_set, List.take_add_one, List.getElem?_eq_getElem (by omega : i < M.length)]
              rw [List.set_append]
              have hl : (M.take i).length = i := by rw [List.length_take]; omega
              rw [if_neg (by omega), hl, Nat.sub_self]
              rfl
            · rw [List.drop_set_of_lt (by omega), ← List.drop_drop, ← List.drop_drop, HE.out.2.1]
            · have h := hoM5.set i (by omega) x
              rw [hM] at h
              exact h
            · exact ((((HE.out.2.2.2.trans (hA.mono hBw))).setCell hBg _).setCell hBg _).setCell hBg _
          case measure => simp [intOf]; omega
        · rw [hem] at CE HK
          rw [if_pos rfl] at HK
          go_wp2_with fail
          refine (CE.out _ (HAL.out _)).mono ?_
          rintro e w5 ⟨rfl, hb5⟩
          have hA : Below wr.heap.size wr w5 := ((Below.refl _ _).alloc (Nat.le_refl _) _).trans (hb5.mono (by simp))
          go_wp2
          go_roundw
          case rel => exact ⟨i, j + 1, M, by go_num, by go_num, by omega, by omega, hM, by rw [HK.out]; exact HE.out.1, by rw [← List.drop_drop, ← List.drop_drop, HE.out.2.1], HE.out.2.2.1.kept hA, HE.out.2.2.2.trans (hA.mono hBw)⟩
          case measure => simp [intOf]; omega

end Go.Proofs.YtcknhjabdjbjiaaGreat
