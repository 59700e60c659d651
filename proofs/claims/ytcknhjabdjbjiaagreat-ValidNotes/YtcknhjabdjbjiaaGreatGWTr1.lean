/- A map of lists of stamps: an entry is written over, or goes. forget: the first commit's stamp is taken from the points that it wrote. -/
import Derived.Test.YtcknhjabdjbjiaaGreatGWLg8
import Derived.Test.YtcknhjabdjbjiaaGreatGWLg10b
namespace Go.Proofs.YtcknhjabdjbjiaaGreat
open Go.RowKit
set_option maxRecDepth 100000

theorem MapV.updU {w : World} {mb : Nat} {E : List (Pt × Value)} (h : MapV w mb E) (x : Pt) (v : Value) :
    ∃ w', (Instr.mapUpdate 75 (.map (some mb)) (PV x) v).run Tryz.prog w = .ok () w' ∧ MapV w' mb (putV E x v) ∧ w.grownBy w' (some mb) ∧ w'.heap.size = w.heap.size := by
  obtain ⟨es, c, h1, h2, hbo, hnd⟩ := h.f
  have hlt : mb < w.heap.size := (Array.getElem?_eq_some_iff.1 h1).1
  have hf := findV_run x w es.toList E h2
  unfold putV
  cases hx : fndV E x with
  | some p =>
    obtain ⟨i, v0⟩ := p
    rw [hx] at hf
    have hE := fndV_some hx
    have hi : i < E.length := (List.getElem?_eq_some_iff.1 hE).1
    have hl : es.size = E.length := by have := congrArg List.length h2; simpa using this
    have hi2 : i < es.size := by omega
    have hk := congrArg (fun l => l[i]?) h2
    simp only [List.getElem?_map, Array.getElem?_toList, hE, Array.getElem?_eq_getElem hi2, Option.map_some, Option.some.injEq, Prod.mk.injEq] at hk
    have hborn : (es.modify i fun e => { e with key := PV x, val := v }).toList.map (·.born) = es.toList.map (·.born) := by
      apply List.ext_getElem?
      intro j
      simp only [List.getElem?_map, Array.getElem?_toList, Array.getElem?_modify]
      split
      · rename_i hj
        subst hj
        rw [Array.getElem?_eq_getElem hi2]
        rfl
      · rfl
    refine ⟨{ w with heap := w.heap.setIfInBounds mb (.map (es.modify i fun e => { e with key := PV x, val := v }) c) }, ?_, ⟨es.modify i fun e => { e with key := PV x, val := v }, c, by simp [hlt], ?_, ?_, by rw [hborn]; exact hnd⟩, ?_, by simp⟩
    · unfold Instr.mapUpdate
      simp only [Sem.run_bind, run_underlying Tryz.underlying75, Result.andThen_ok, MapKept.run_getObj_map h1, Sem.run_pure, run_checkP, hf, Instr.keyThatStays, Array.getElem?_eq_getElem hi2, Option.map_some, Option.getD_some, hk.1, bitsP, if_true, MapKept.run_setObj_map _ h1]
    · apply List.ext_getElem?
      intro j
      have hj2 := congrArg (fun l => l[j]?) h2
      simp only [List.getElem?_map, Array.getElem?_toList] at hj2
      simp only [List.getElem?_map, Array.getElem?_toList, Array.getElem?_modify, List.getElem?_set]
      by_cases hj : i = j
      · subst hj
        simp [hi, hi2]
      · simp only [hj, if_false]
        exact hj2
    · intro e he
      have h5 : e.born ∈ es.toList.map (·.born) := by rw [← hborn]; exact List.mem_map.2 ⟨e, he, rfl⟩
      obtain ⟨e0, h6, h7⟩ := List.mem_map.1 h5
      rw [← h7]
      exact hbo e0 h6
    · refine ⟨rfl, rfl, rfl, by simp, fun k _ hk => ?_⟩
      have hne : mb ≠ k := fun e => hk (by rw [e])
      simp [hne]
  | none =>
    rw [hx] at hf
    refine ⟨{ w with heap := w.heap.setIfInBounds mb (.map (es.push { key := PV x, val := v, born := c }) (c + 1)) }, ?_, ⟨es.push { key := PV x, val := v, born := c }, c + 1, by simp [hlt], by simp [h2], ?_, ?_⟩, ?_, by simp⟩
    · unfold Instr.mapUpdate
      simp only [Sem.run_bind, run_underlying Tryz.underlying75, Result.andThen_ok, MapKept.run_getObj_map h1, run_checkP, hf, MapKept.run_setObj_map _ h1]
    · intro e he
      simp only [Array.toList_push, List.mem_append, List.mem_singleton] at he
      rcases he with he | rfl
      · have := hbo e he; omega
      · simp
    · simp only [Array.toList_push, List.map_append, List.map_cons, List.map_nil]
      refine List.nodup_append.2 ⟨hnd, by simp, ?_⟩
      intro a ha b hb
      obtain ⟨e, he, rfl⟩ := List.mem_map.1 ha
      simp only [List.mem_singleton] at hb
      have := hbo e he
      omega
    · refine ⟨rfl, rfl, rfl, by simp, fun k _ hk => ?_⟩
      have hne : mb ≠ k := fun e => hk (by rw [e])
      simp [hne]
theorem map_erase {α β : Type} (f : α → β) (l : List α) (i : Nat) : (l.eraseIdx i).map f = (l.map f).eraseIdx i := by
  simp [List.eraseIdx_eq_take_drop_succ, List.map_take, List.map_drop]
/-- without an entry -/
def delV (E : List (Pt × Value)) (x : Pt) : List (Pt × Value) := match fndV E x with | some p => E.eraseIdx p.1 | none => E
theorem MapV.delU {w : World} {mb : Nat} {E : List (Pt × Value)} (h : MapV w mb E) (x : Pt) (ty : TypeId) :
    ∃ w', (Builtin.delete_ #[75, 39] ty #[.map (some mb), PV x]).run Tryz.prog w = .ok (.tuple #[]) w' ∧ MapV w' mb (delV E x) ∧ w.grownBy w' (some mb) ∧ w'.heap.size = w.heap.size := by
  obtain ⟨es, c, h1, h2, hbo, hnd⟩ := h.f
  have hlt : mb < w.heap.size := (Array.getElem?_eq_some_iff.1 h1).1
  have hf := findV_run x w es.toList E h2
  have hck : (Instr.checkKey es.isEmpty 10000 39 (PV x)).run Tryz.prog w = .ok () w := run_checkP _ _ _
  unfold delV
  cases hx : fndV E x with
  | some p =>
    obtain ⟨i, v0⟩ := p
    rw [hx] at hf
    have hE := fndV_some hx
    have hi : i < E.length := (List.getElem?_eq_some_iff.1 hE).1
    have hl : es.size = E.length := by have := congrArg List.length h2; simpa using this
    have hi2 : i < es.size := by omega
    have her : (es.eraseIdxIfInBounds i).toList = es.toList.eraseIdx i := by simp [Array.eraseIdxIfInBounds, hi2]
    refine ⟨{ w with heap := w.heap.setIfInBounds mb (.map (es.eraseIdxIfInBounds i) c) }, ?_, ⟨es.eraseIdxIfInBounds i, c, by simp [hlt], ?_, ?_, ?_⟩, ?_, by simp⟩
    · unfold Builtin.delete_
      simp only [List.getElem?_toArray, List.getElem?_cons_zero, List.getElem?_cons_succ, Sem.run_bind, run_underlying Tryz.underlying75, Result.andThen_ok, MapKept.run_getObj_map h1, hck, hf, MapKept.run_setObj_map _ h1, Sem.run_pure]
    · rw [her, map_erase, h2, map_erase]
    · intro e he
      rw [her] at he
      exact hbo e (List.mem_of_mem_eraseIdx he)
    · rw [her, map_erase]
      exact hnd.sublist (List.eraseIdx_sublist _ _)
    · refine ⟨rfl, rfl, rfl, by simp, fun k _ hk => ?_⟩
      have hne : mb ≠ k := fun e => hk (by rw [e])
      simp [hne]
  | none =>
    rw [hx] at hf
    refine ⟨{ w with heap := w.heap.setIfInBounds mb (.map es c) }, ?_, ⟨es, c, by simp [hlt], h2, hbo, hnd⟩, ?_, by simp⟩
    · unfold Builtin.delete_
      simp only [List.getElem?_toArray, List.getElem?_cons_zero, List.getElem?_cons_succ, Sem.run_bind, run_underlying Tryz.underlying75, Result.andThen_ok, MapKept.run_getObj_map h1, hck, hf, MapKept.run_setObj_map _ h1, Sem.run_pure]
    · refine ⟨rfl, rfl, rfl, by simp, fun k _ hk => ?_⟩
      have hne : mb ≠ k := fun e => hk (by rw [e])
      simp [hne]
theorem fndV_iff : ∀ (E : List (Pt × Value)) (x : Pt), (E.map (·.1)).Nodup → ∀ v, ((x, v) ∈ E ↔ ∃ i, fndV E x = some (i, v))
  | [], x, _, v => by simp [fndV]
  | e :: E, x, hn, v => by
    rw [List.map_cons, List.nodup_cons] at hn
    unfold fndV
    by_cases hx : x = e.1
    · rw [if_pos hx]
      constructor
      · intro h
        rcases List.mem_cons.1 h with h | h
        · exact ⟨0, by rw [← h]⟩
        · exact absurd (List.mem_map.2 ⟨_, h, rfl⟩) (by subst hx; exact hn.1)
      · rintro ⟨i, h⟩
        have h2 := Option.some.inj h
        have h3 : e.2 = v := (Prod.mk.inj h2).2
        rw [← h3, hx]
        exact List.mem_cons_self
    · rw [if_neg hx, List.mem_cons]
      constructor
      · rintro (h | h)
        · exact absurd (by rw [← h]) hx
        · obtain ⟨i, hi⟩ := (fndV_iff E x hn.2 v).1 h
          exact ⟨i + 1, by rw [hi]; rfl⟩
      · rintro ⟨i, h⟩
        cases hf : fndV E x with
        | none => rw [hf] at h; cases h
        | some p =>
          rw [hf] at h
          have h2 := Option.some.inj h
          have h3 : p.2 = v := (Prod.mk.inj h2).2
          exact .inr ((fndV_iff E x hn.2 v).2 ⟨p.1, by rw [hf, ← h3]⟩)
theorem getV_mem {E : List (Pt × Value)} {x : Pt} {v : Value} (hn : (E.map (·.1)).Nodup) (h : (x, v) ∈ E) : getV E x = v := by
  obtain ⟨i, hi⟩ := (fndV_iff E x hn v).1 h
  unfold getV
  rw [hi]
theorem getV_no {E : List (Pt × Value)} {x : Pt} (h : x ∉ E.map (·.1)) : getV E x = .slice none 0 0 := by
  unfold getV
  cases hf : fndV E x with
  | none => rfl
  | some p =>
    have h1 := fndV_some (i := p.1) (v := p.2) (by rw [hf])
    exact absurd (List.mem_map.2 ⟨_, List.mem_of_getElem? h1, rfl⟩) h
theorem getV_ext {E F : List (Pt × Value)} (hE : (E.map (·.1)).Nodup) (hF : (F.map (·.1)).Nodup) {y : Pt} (h : ∀ v, (y, v) ∈ F ↔ (y, v) ∈ E) : getV F y = getV E y := by
  by_cases hy : y ∈ E.map (·.1)
  · obtain ⟨⟨a, v⟩, hm, rfl⟩ := List.mem_map.1 hy
    rw [getV_mem hE hm, getV_mem hF ((h v).2 hm)]
  · rw [getV_no hy, getV_no (fun hy2 => by
      obtain ⟨⟨a, v⟩, hm, rfl⟩ := List.mem_map.1 hy2
      exact hy (List.mem_map.2 ⟨_, (h v).1 hm, rfl⟩))]
/-- an entry that is there -/
theorem putV_keys {E : List (Pt × Value)} {x : Pt} {v : Value} (hx : x ∈ E.map (·.1)) : (putV E x v).map (·.1) = E.map (·.1) := by
  unfold putV
  cases hf : fndV E x with
  | none => exact absurd hx (fndV_none hf)
  | some p =>
    have h1 := fndV_some (i := p.1) (v := p.2) (by rw [hf])
    apply List.ext_getElem?
    intro j
    simp only [List.getElem?_map, List.getElem?_set]
    by_cases hj : p.1 = j
    · subst hj
      have hlt := (List.getElem?_eq_some_iff.1 h1).1
      have h3 : E[p.1] = (x, p.2) := (List.getElem?_eq_some_iff.1 h1).2
      simp [hlt, h3]
    · simp [hj]
theorem putV_mem {E : List (Pt × Value)} {x : Pt} {v : Value} (hn : (E.map (·.1)).Nodup) (hx : x ∈ E.map (·.1)) (y : Pt) (u : Value) : (y, u) ∈ putV E x v ↔ (y = x ∧ u = v) ∨ (y ≠ x ∧ (y, u) ∈ E) := by
  have hk := putV_keys (v := v) hx
  have hnp : ((putV E x v).map (·.1)).Nodup := by rw [hk]; exact hn
  unfold putV at hnp ⊢
  cases hf : fndV E x with
  | none => exact absurd hx (fndV_none hf)
  | some p =>
    rw [hf] at hnp
    have h1 := fndV_some (i := p.1) (v := p.2) (by rw [hf])
    have hlt := (List.getElem?_eq_some_iff.1 h1).1
    have hx2 : (x, v) ∈ E.set p.1 (x, v) := by
      rw [List.mem_iff_getElem?]
      exact ⟨p.1, by simp [hlt]⟩
    constructor
    · intro h
      by_cases hy : y = x
      · subst hy
        left
        refine ⟨rfl, ?_⟩
        rw [← getV_mem hnp h, getV_mem hnp hx2]
      · right
        refine ⟨hy, ?_⟩
        rcases List.mem_or_eq_of_mem_set h with h | h
        · exact h
        · exact absurd (Prod.mk.inj h).1 hy
    · rintro (⟨rfl, rfl⟩ | ⟨hy, h⟩)
      · exact hx2
      · obtain ⟨j, hj⟩ := List.mem_iff_getElem?.1 h
        rw [List.mem_iff_getElem?]
        refine ⟨j, ?_⟩
        rw [List.getElem?_set]
        have hne : p.1 ≠ j := fun e => by
          subst e
          rw [h1] at hj
          exact hy (Prod.mk.inj (Option.some.inj hj)).1.symm
        simp [hne, hj]
theorem getV_put {E : List (Pt × Value)} {x : Pt} {v : Value} (hn : (E.map (·.1)).Nodup) (hx : x ∈ E.map (·.1)) (y : Pt) : getV (putV E x v) y = if y = x then v else getV E y := by
  have hk := putV_keys (v := v) hx
  have hnp : ((putV E x v).map (·.1)).Nodup := by rw [hk]; exact hn
  by_cases hy : y = x
  · rw [if_pos hy]
    exact getV_mem hnp ((putV_mem hn hx y v).2 (.inl ⟨hy, rfl⟩))
  · rw [if_neg hy]
    exact getV_ext hn hnp (fun u => by rw [putV_mem hn hx]; simp [hy])
theorem delV_nodup {E : List (Pt × Value)} {x : Pt} (hn : (E.map (·.1)).Nodup) : ((delV E x).map (·.1)).Nodup := by
  unfold delV
  cases fndV E x with
  | none => exact hn
  | some p => exact hn.sublist ((List.eraseIdx_sublist _ _).map _)
theorem delV_mem {E : List (Pt × Value)} {x : Pt} (hn : (E.map (·.1)).Nodup) (y : Pt) (u : Value) : (y, u) ∈ delV E x ↔ y ≠ x ∧ (y, u) ∈ E := by
  unfold delV
  cases hf : fndV E x with
  | none =>
    have h := fndV_none hf
    constructor
    · intro h2
      exact ⟨fun e => h (by rw [← e]; exact List.mem_map.2 ⟨_, h2, rfl⟩), h2⟩
    · exact fun h2 => h2.2
  | some p =>
    have h1 := fndV_some (i := p.1) (v := p.2) (by rw [hf])
    have hlt := (List.getElem?_eq_some_iff.1 h1).1
    have hp : E = E.take p.1 ++ (x, p.2) :: E.drop (p.1 + 1) := by
      have h2 := List.take_append_drop p.1 E
      rw [List.drop_eq_getElem_cons hlt] at h2
      have h3 : E[p.1] = (x, p.2) := (List.getElem?_eq_some_iff.1 h1).2
      rw [h3] at h2
      exact h2.symm
    have he : E.eraseIdx p.1 = E.take p.1 ++ E.drop (p.1 + 1) := List.eraseIdx_eq_take_drop_succ _ _
    dsimp only
    rw [he]
    have hn2 := hn
    rw [hp, List.map_append, List.map_cons, List.nodup_append] at hn2
    obtain ⟨_, k2, k3⟩ := hn2
    rw [List.nodup_cons] at k2
    constructor
    · intro h
      refine ⟨fun e => ?_, ?_⟩
      · subst e
        rcases List.mem_append.1 h with h | h
        · exact k3 _ (List.mem_map.2 ⟨_, h, rfl⟩) _ List.mem_cons_self rfl
        · exact k2.1 (List.mem_map.2 ⟨_, h, rfl⟩)
      · rcases List.mem_append.1 h with h | h
        · exact List.mem_of_mem_take h
        · exact List.mem_of_mem_drop h
    · rintro ⟨hy, h⟩
      rw [hp] at h
      rcases List.mem_append.1 h with h | h
      · exact List.mem_append_left _ h
      · rcases List.mem_cons.1 h with h | h
        · exact absurd (Prod.mk.inj h).1 hy
        · exact List.mem_append_right _ h
theorem getV_del {E : List (Pt × Value)} {x : Pt} (hn : (E.map (·.1)).Nodup) (y : Pt) : getV (delV E x) y = if y = x then .slice none 0 0 else getV E y := by
  by_cases hy : y = x
  · rw [if_pos hy]
    exact getV_no (fun h => by
      obtain ⟨⟨a, u⟩, hm, rfl⟩ := List.mem_map.1 h
      exact ((delV_mem hn _ _).1 hm).1 hy)
  · rw [if_neg hy]
    exact getV_ext hn (delV_nodup hn) (fun u => by rw [delV_mem hn]; simp [hy])

end Go.Proofs.YtcknhjabdjbjiaaGreat

namespace Go.Proofs.YtcknhjabdjbjiaaGreat
open Go.RowKit
set_option maxRecDepth 100000

/-- a slice whose block holds stamps -/
def TyU (w : World) (v : Value) : Prop := ∀ b o n c, v = .slice (some ⟨b, o, none⟩) n c → ∃ cur, w.heap[b]? = some (.cells cur 23 (0, 0))
theorem TyU.by {w w' : World} {v : Value} (h : TyU w v) (hb : ∀ (g : Nat) (cur : Array Value), w.heap[g]? = some (.cells cur 23 (0, 0)) → w'.heap[g]? = w.heap[g]?) : TyU w' v := fun b o n c e => by
  obtain ⟨cur, h1⟩ := h b o n c e
  exact ⟨cur, (hb b cur h1).trans h1⟩
theorem TyU.on {w w' : World} {v : Value} (h : TyU w v) (hb : Below w.heap.size w w') : TyU w' v := h.by (fun _ _ hg => hb.block _ (Array.getElem?_eq_some_iff.1 hg).1)
theorem TyU.grown {w w' : World} {mb : Nat} {E : List (Pt × Value)} {v : Value} (h : TyU w v) (hm : MapV w mb E) (hg : w.grownBy w' (some mb)) : TyU w' v := h.by (fun g cur hk => hg.block g (Array.getElem?_eq_some_iff.1 hk).1 (fun e => by
  have e' := Option.some.inj e
  subst e'
  obtain ⟨es, c, h3, _⟩ := hm.f
  rw [hk] at h3
  cases h3))
theorem TyU.nil (w : World) : TyU w (.slice none 0 0) := fun b o n c e => by cases e
/-- a map of stamps that is read and written, f telling the stamps -/
structure SmX (w : World) (mb : Nat) (f : Pt → List Nat) (E : List (Pt × Value)) : Prop where
  map : MapV w mb E
  nd : (E.map (·.1)).Nodup
  sts : ∀ x, SlU w (getV E x) (f x)
  ty : ∀ x, TyU w (getV E x)
theorem SmX.on {w w' : World} {mb : Nat} {f : Pt → List Nat} {E : List (Pt × Value)} (h : SmX w mb f E) (hb : Below w.heap.size w w') : SmX w' mb f E := ⟨h.map.on hb, h.nd, fun x => (h.sts x).on hb, fun x => (h.ty x).on hb⟩
theorem SlU.grown {w w' : World} {mb : Nat} {E : List (Pt × Value)} {v : Value} {L : List Nat} (h : SlU w v L) (hm : MapV w mb E) (hg : w.grownBy w' (some mb)) : SlU w' v L := by
  obtain ⟨p, c, e, h1, h2, h3⟩ := h.f
  refine ⟨p, c, e, h1, h2, fun i hi => ?_⟩
  obtain ⟨b, o, e2, hbB, c0⟩ := h3 i hi
  have hne : b ≠ mb := by
    rintro rfl
    obtain ⟨es, cc, h4, _⟩ := hm.f
    unfold World.cell? at c0
    simp [h4] at c0
  have hk : w'.heap[b]? = w.heap[b]? := hg.block b hbB (fun e => hne (Option.some.inj e))
  refine ⟨b, o, e2, Nat.lt_of_lt_of_le hbB hg.size, ?_⟩
  unfold World.cell? at c0 ⊢
  rw [hk]
  exact c0
theorem SlU.tail {w : World} {p : Option Addr} {n c a : Nat} {l : List Nat} (h : SlU w (.slice p n c) (a :: l)) (q : Option Addr) (hq : ∀ b o, p = some ⟨b, o, none⟩ → 1 < c → q = some ⟨b, o + 1, none⟩) (hqn : q = none → c - 1 = 0) : SlU w (.slice q (n - 1) (c - 1)) l := by
  obtain ⟨p', c', e, h1, h2, h3⟩ := h.f
  obtain ⟨rfl, rfl, rfl⟩ := Value.slice.inj e
  rw [List.length_cons] at h1
  refine ⟨q, c - 1, by rw [List.length_cons, Nat.add_sub_cancel], by omega, hqn, fun i hi => ?_⟩
  obtain ⟨b, o, e2, hbB, c0⟩ := h3 (i + 1) (by simpa using hi)
  refine ⟨b, o + 1, hq b o e2 (by omega), hbB, ?_⟩
  rw [show o + 1 + i = o + (i + 1) by omega]
  simpa using c0
/-- stamps without the first one of some points -/
def tlF (f : Pt → List Nat) (Q : List Pt) : Pt → List Nat := fun y => if y ∈ Q then (f y).tail else f y
theorem tlF_nil (f : Pt → List Nat) : tlF f [] = f := by
  funext y
  unfold tlF
  rw [if_neg (by simp)]
theorem SmX.put {w w' : World} {mb : Nat} {f : Pt → List Nat} {E : List (Pt × Value)} {x : Pt} {v : Value} {Q : List Pt} (h : SmX w mb (tlF f Q) E) (hxE : x ∈ E.map (·.1)) (hx : x ∉ Q) (hv : SlU w v (f x).tail) (hty : TyU w v) (hm : MapV w' mb (putV E x v)) (hg : w.grownBy w' (some mb)) : SmX w' mb (tlF f (Q ++ [x])) (putV E x v) := by
  refine ⟨hm, by rw [putV_keys hxE]; exact h.nd, fun y => ?_, fun y => by
    rw [getV_put h.nd hxE]
    by_cases hy : y = x
    · rw [if_pos hy]; exact hty.grown h.map hg
    · rw [if_neg hy]; exact (h.ty y).grown h.map hg⟩
  rw [getV_put h.nd hxE]
  by_cases hy : y = x
  · subst hy
    rw [if_pos rfl]
    have e : tlF f (Q ++ [y]) y = (f y).tail := by unfold tlF; rw [if_pos (by simp)]
    rw [e]
    exact hv.grown h.map hg
  · rw [if_neg hy]
    have e : tlF f (Q ++ [x]) y = tlF f Q y := by
      unfold tlF
      by_cases hq : y ∈ Q
      · rw [if_pos hq, if_pos (by simp [hq])]
      · rw [if_neg hq, if_neg (by simp [hq, hy])]
    rw [e]
    exact (h.sts y).grown h.map hg
theorem SmX.del {w w' : World} {mb : Nat} {f : Pt → List Nat} {E : List (Pt × Value)} {x : Pt} {Q : List Pt} (h : SmX w mb (tlF f Q) E) (hx : x ∉ Q) (hv : (f x).tail = []) (hm : MapV w' mb (delV E x)) (hg : w.grownBy w' (some mb)) : SmX w' mb (tlF f (Q ++ [x])) (delV E x) := by
  refine ⟨hm, delV_nodup h.nd, fun y => ?_, fun y => by
    rw [getV_del h.nd]
    by_cases hy : y = x
    · rw [if_pos hy]; exact TyU.nil _
    · rw [if_neg hy]; exact (h.ty y).grown h.map hg⟩
  rw [getV_del h.nd]
  by_cases hy : y = x
  · subst hy
    rw [if_pos rfl]
    have e : tlF f (Q ++ [y]) y = [] := by unfold tlF; rw [if_pos (by simp), hv]
    rw [e]
    exact ⟨none, 0, rfl, Nat.le_refl _, fun _ => rfl, fun i hi => absurd hi (by simp)⟩
  · rw [if_neg hy]
    have e : tlF f (Q ++ [x]) y = tlF f Q y := by
      unfold tlF
      by_cases hq : y ∈ Q
      · rw [if_pos hq, if_pos (by simp [hq])]
      · rw [if_neg hq, if_neg (by simp [hq, hy])]
    rw [e]
    exact (h.sts y).grown h.map hg
theorem SmX.key {w : World} {mb : Nat} {f : Pt → List Nat} {E : List (Pt × Value)} {x : Pt} (h : SmX w mb f E) (hf : f x ≠ []) : x ∈ E.map (·.1) := Classical.byContradiction fun hn => hf (by
  obtain ⟨p, c, e, h1, h2, h3⟩ := (h.sts x).f
  rw [getV_no hn] at e
  have h4 := (Value.slice.inj e).2.1
  exact List.eq_nil_of_length_eq_zero h4.symm)
/-- stamps are being forgotten -/
structure FgI (w wr : World) (lb mb : Nat) (vC : Value) (f : Pt → List Nat) (W : List Pt) (j : Nat) (E : List (Pt × Value)) : Prop where
  blk : Blk wr lb #[ptr1 lb, vC, .map (some mb)] 77
  sm : SmX wr mb (tlF f (W.take j)) E
  frm : Frm w wr (fun k => k = mb)
theorem FgI.on {w wr w' : World} {lb mb : Nat} {vC : Value} {f : Pt → List Nat} {W : List Pt} {j : Nat} {E : List (Pt × Value)} (h : FgI w wr lb mb vC f W j E) (hb : Below wr.heap.size wr w') : FgI w w' lb mb vC f W j E := ⟨h.blk.on hb, h.sm.on hb, h.frm.trans (Frm.of_below (F := fun k => k = mb) hb) (fun _ h => .inl h)⟩
theorem FgI.step {w wr w' : World} {lb mb : Nat} {vC : Value} {f : Pt → List Nat} {W : List Pt} {j : Nat} {E E' : List (Pt × Value)} (h : FgI w wr lb mb vC f W j E) (hs : SmX w' mb (tlF f (W.take (j + 1))) E') (hg : wr.grownBy w' (some mb)) : FgI w w' lb mb vC f W (j + 1) E' :=
  ⟨(hg.block lb h.blk.lt (fun e => map_not_cells h.sm.map h.blk (Option.some.inj e))).trans h.blk, hs, h.frm.trans (Frm.of_grown (F := fun k => k = mb) hg (fun g e => by cases e; exact .inl rfl)) (fun _ h => .inl h)⟩
set_option maxHeartbeats 8000000 in
theorem forget_any (lb mb s : Nat) (vC v0 v1 v2 : Value) (f : Pt → List Nat) (E : List (Pt × Value)) (W : List Pt) (w : World) (hL : Blk w lb #[ptr1 lb, vC, .map (some mb)] 77) (hS : SmX w mb f E) (hF : RdF w v0 v1 v2 ⟨[], [], W⟩) (hW : W.length ≤ 65536) (hn : W.Nodup) (hf : ∀ x ∈ W, f x ≠ []) :
    Calls Tryz.prog 31 #[ptr1 lb, .agg #[.int .u64 (s : Nat), v0, v1, v2]] w fun e w' => ∃ E', e = .returned (.tuple #[]) ∧ SmX w' mb (tlF f W) E' ∧ Frm w w' (fun k => k = mb) := by
  obtain ⟨p0, c0, e0, -⟩ := hF.p.f
  obtain ⟨p1, c1, e1, -⟩ := hF.s.f
  obtain ⟨p2, c2, e2, -, -, hrow⟩ := hF.w.f
  dsimp only at e0 e1 e2 hrow
  obtain ⟨n0, hn0⟩ : ∃ n, ([] : List Pt).length = n := ⟨_, rfl⟩
  obtain ⟨n1, hn1⟩ : ∃ n, ([] : List Sp).length = n := ⟨_, rfl⟩
  obtain ⟨n2, hn2⟩ : ∃ n, W.length = n := ⟨_, rfl⟩
  rw [hn0] at e0
  rw [hn1] at e1
  rw [hn2] at e2
  subst e0 e1 e2
  clear hn0 hn1
  have HLn : Hid (W.length = n2 ∧ n2 ≤ 65536) := ⟨hn2, by omega⟩
  have HNd : Hid (W.Nodup) := hn
  have HNe : Hid (∀ x ∈ W, f x ≠ []) := hf
  obtain ⟨w1, hw1⟩ : ∃ w1, w.alloc (.cells #[.int .u64 (s : Nat), .slice p0 n0 c0, .slice p1 n1 c1, .slice p2 n2 c2] 80) = w1 := ⟨_, rfl⟩
  have hb1 : Below w.heap.size w w1 := by rw [← hw1]; exact (Below.refl _ _).alloc (Nat.le_refl _) _
  have HK1 : Hid (Blk w1 w.heap.size #[.int .u64 (s : Nat), .slice p0 n0 c0, .slice p1 n1 c1, .slice p2 n2 c2] 80) := by rw [← hw1]; exact Blk.new w _ _
  have HI1 : Hid (FgI w w1 lb mb vC f W 0 E) := ⟨hL.on hb1, by show SmX _ _ (tlF f []) _; rw [tlF_nil]; exact hS.on hb1, Frm.of_below hb1⟩
  have HRw : Hid (RowP w w.heap.size p2 W) := hrow
  have HMb : Hid (∀ k cs T, w.heap[k]? = some (.cells cs T (0, 0)) → k ≠ mb) := fun k cs T hk => map_not_cells hS.map hk
  have HMs : Hid (MapV w mb E) := hS.map
  have k3 := HK1.out.cell (i := 3) rfl
  clear hL hS hF hrow hn hf hb1 hn2 hW
  go_enter Tryz.func31, Tryz.ntmps31
  go_wp2_with fail
  clear k3 hw1 HK1
  go_loopw [11] (fun i wr => ∃ (j : Nat) (E' : List (Pt × Value)), j ≤ n2 ∧ i = .int .i64 (j : Int) ∧ Hid (FgI w wr lb mb vC f W j E')) (fun i _ => n2 - (intOf i).toNat)
  case atStart => exact ⟨0, E, Nat.zero_le _, by go_num, HI1⟩
  case round =>
    obtain ⟨j, E', hj, rfl, HI⟩ := hrel
    clear HI1
    by_cases hj0 : j = n2
    · subst hj0
      go_wp2_with fail
      go_returns
      have h := HI.out.sm
      rw [List.take_of_length_le (by have := HLn.out.1; omega)] at h
      exact ⟨E', rfl, h, HI.out.frm⟩
    · have hj1 : j < n2 := by omega
      have hjW : j < W.length := by have := HLn.out.1; omega
      obtain ⟨b, o, rfl, hbl, d0, d1, d2⟩ := HRw.out j hjW
      have hbm : b ≠ mb := by
        rintro rfl
        obtain ⟨es, cc, h4, _⟩ := HMs.out.f
        unfold World.cell? at d0
        simp [h4] at d0
      have hkb : wr.heap[b]? = w.heap[b]? := HI.out.frm.block b hbl hbm
      have hcl : ∀ oo, wr.cell? ⟨b, oo, none⟩ = w.cell? ⟨b, oo, none⟩ := fun oo => by unfold World.cell?; rw [hkb]
      rw [← hcl] at d0 d1 d2
      obtain ⟨x, hx⟩ : ∃ x, W[j] = x := ⟨_, rfl⟩
      have HTk : Hid (W.take (j + 1) = W.take j ++ [x] ∧ x ∉ W.take j ∧ x ∈ W) := ⟨by rw [← hx]; exact take_snoc W j hjW, fun hm => by
        obtain ⟨k, hk, e⟩ := List.getElem_of_mem hm
        rw [List.length_take] at hk
        rw [List.getElem_take, ← hx] at e
        have := (List.getElem_inj HNd.out).1 e
        omega, by rw [← hx]; exact List.getElem_mem hjW⟩
      rw [hx] at d0 d1 d2
      clear hx hjW hbm hkb hcl hbl
      obtain ⟨a, l, hal⟩ : ∃ a l, f x = a :: l := by
        cases hfx : f x with
        | nil => exact absurd hfx (HNe.out x HTk.out.2.2)
        | cons a l => exact ⟨a, l, rfl⟩
      have hfx : tlF f (W.take j) x = a :: l := by unfold tlF; rw [if_neg HTk.out.2.1, hal]
      obtain ⟨pu, cu, eg, hcu, hpu, -⟩ := (HI.out.sm.sts x).f
      rw [hfx, List.length_cons] at eg hcu
      obtain ⟨tl, htl⟩ : ∃ tl, l.length = tl := ⟨_, rfl⟩
      rw [htl] at eg hcu
      have HGv : Hid (getV E' x = .slice pu (tl + 1) cu) := eg
      have HFx : Hid (f x = a :: l ∧ l.length = tl) := ⟨hal, htl⟩
      have HUs : Hid (∀ w9, SmX w9 mb (tlF f (W.take j)) E' → SlU w9 (.slice pu (tl + 1) cu) (a :: l)) := fun w9 h9 => by
        have h := h9.sts x
        rw [hfx, HGv.out] at h
        exact h
      obtain ⟨wq, hwq⟩ : ∃ wq, wr.alloc (.cells #[.int .i64 x.t, .int .i64 x.i, .string x.k] 39) = wq := ⟨_, rfl⟩
      have hal2 : Below wr.heap.size wr wq := by rw [← hwq]; exact (Below.refl _ _).alloc (Nat.le_refl _) _
      have HPq : Hid (Blk wq wr.heap.size #[.int .i64 x.t, .int .i64 x.i, .string x.k] 39) := by rw [← hwq]; exact Blk.new wr _ _
      have HIq : Hid (FgI w wq lb mb vC f W j E') := HI.out.on hal2
      clear hal htl eg hfx hal2 HI
      go_upto_region 4 with fail
      clear d0 d1 d2 hwq
      refine wp_region_L (fun w' => (Blk w' lb #[ptr1 lb, vC, .map (some mb)] 77 ∧ Blk w' wr.heap.size #[.int .i64 x.t, .int .i64 x.i, .string x.k] 39 ∧ MapV w' mb E')) 8 (by kernel_rfl) ?_
      have hdr : Below wq.heap.size wq wq.drew := (Below.refl _ _).drew
      have HId : Hid (FgI w wq.drew lb mb vC f W j E') := HIq.out.on hdr
      have HPd : Hid (Blk wq.drew wr.heap.size #[.int .i64 x.t, .int .i64 x.i, .string x.k] 39) := HPq.out.on hdr
      clear hdr HIq HPq
      generalize wq.drew = wd at *
      have HSd : Hid ((Blk wd lb #[ptr1 lb, vC, .map (some mb)] 77 ∧ Blk wd wr.heap.size #[.int .i64 x.t, .int .i64 x.i, .string x.k] 39 ∧ MapV wd mb E')) := ⟨HId.out.blk, HPd.out, HId.out.sm.map⟩
      refine wpL_take (v := ?_) 0 rfl (by kernel_rfl) (fun _ _ _ h => h) (by rfl) ?_ HSd.out ?_
      rotate_left
      focus
        intro w9 hw9
        have a2 := hw9.1.cell (i := 2) rfl
        have b0 := hw9.2.1.cell (i := 0) rfl
        have b1 := hw9.2.1.cell (i := 1) rfl
        have b2 := hw9.2.1.cell (i := 2) rfl
        go_simp
        try with_reducible rfl
      try simp only [Act.put, List.setIfInBounds_toArray, List.set_cons_zero, List.set_cons_succ]
      refine wpL_take (v := ?_) 1 rfl (by kernel_rfl) (fun _ _ _ h => h) (by rfl) ?_ HSd.out ?_
      rotate_left
      focus
        intro w9 hw9
        have a2 := hw9.1.cell (i := 2) rfl
        have b0 := hw9.2.1.cell (i := 0) rfl
        have b1 := hw9.2.1.cell (i := 1) rfl
        have b2 := hw9.2.1.cell (i := 2) rfl
        go_simp
        try with_reducible rfl
      try simp only [Act.put, List.setIfInBounds_toArray, List.set_cons_zero, List.set_cons_succ]
      refine wpL_take (v := ?_) 2 rfl (by kernel_rfl) (fun _ _ _ h => h) (by rfl) ?_ HSd.out ?_
      rotate_left
      focus
        intro w9 hw9
        have a2 := hw9.1.cell (i := 2) rfl
        have b0 := hw9.2.1.cell (i := 0) rfl
        have b1 := hw9.2.1.cell (i := 1) rfl
        have b2 := hw9.2.1.cell (i := 2) rfl
        go_simp
        try with_reducible rfl
      try simp only [Act.put, List.setIfInBounds_toArray, List.set_cons_zero, List.set_cons_succ]
      refine wpL_take (v := ?_) 3 rfl (by kernel_rfl) (fun _ _ _ h => h) (by rfl) ?_ HSd.out ?_
      rotate_left
      focus
        intro w9 hw9
        have a2 := hw9.1.cell (i := 2) rfl
        have b0 := hw9.2.1.cell (i := 0) rfl
        have b1 := hw9.2.1.cell (i := 1) rfl
        have b2 := hw9.2.1.cell (i := 2) rfl
        go_simp
        try with_reducible rfl
      try simp only [Act.put, List.setIfInBounds_toArray, List.set_cons_zero, List.set_cons_succ]
      refine wpL_take (v := ?_) 4 rfl (by kernel_rfl) (fun _ _ _ h => h) (by rfl) ?_ HSd.out ?_
      rotate_left
      focus
        intro w9 hw9
        have a2 := hw9.1.cell (i := 2) rfl
        have b0 := hw9.2.1.cell (i := 0) rfl
        have b1 := hw9.2.1.cell (i := 1) rfl
        have b2 := hw9.2.1.cell (i := 2) rfl
        go_simp
        try with_reducible rfl
      try simp only [Act.put, List.setIfInBounds_toArray, List.set_cons_zero, List.set_cons_succ]
      refine wpL_take (v := ?_) 5 rfl (by kernel_rfl) (fun _ _ _ h => h) (by rfl) ?_ HSd.out ?_
      rotate_left
      focus
        intro w9 hw9
        have a2 := hw9.1.cell (i := 2) rfl
        have b0 := hw9.2.1.cell (i := 0) rfl
        have b1 := hw9.2.1.cell (i := 1) rfl
        have b2 := hw9.2.1.cell (i := 2) rfl
        have hlk : (Instr.lookup 75 (.map (some mb)) (.agg #[.int .i64 x.t, .int .i64 x.i, .string x.k]) false).run Tryz.prog w9 = .ok (.slice pu (tl + 1) cu) w9 := by rw [← HGv.out]; exact hw9.2.2.lookU x
        go_simp
        try with_reducible rfl
      try simp only [Act.put, List.setIfInBounds_toArray, List.set_cons_zero, List.set_cons_succ]
      by_cases hc1 : cu = 1
      · obtain rfl := hc1.symm
        have ht0 : tl = 0 := by omega
        subst ht0
        refine wpL_take (v := ?_) 6 rfl (by kernel_rfl) (fun _ _ _ h => h) (by rfl) ?_ HSd.out ?_
        rotate_left
        focus
          intro w9 hw9

          go_simp
          try with_reducible rfl
        try simp only [Act.put, List.setIfInBounds_toArray, List.set_cons_zero, List.set_cons_succ]
        refine wpL_take (v := ?_) 7 rfl (by kernel_rfl) (fun _ _ _ h => h) (by rfl) ?_ HSd.out ?_
        rotate_left
        focus
          intro w9 hw9

          go_simp
          try with_reducible rfl
        try simp only [Act.put, List.setIfInBounds_toArray, List.set_cons_zero, List.set_cons_succ]
        refine wpL_done (by kernel_rfl) ?_ _
        try simp only [NoPanic]
        clear hcu hpu
        go_upto_region 7 with fail
        refine wp_region_L (fun w' => (Blk w' lb #[ptr1 lb, vC, .map (some mb)] 77 ∧ Blk w' wr.heap.size #[.int .i64 x.t, .int .i64 x.i, .string x.k] 39)) 6 (by kernel_rfl) ?_
        have hdr : Below wd.heap.size wd wd.drew := (Below.refl _ _).drew
        have HIe : Hid (FgI w wd.drew lb mb vC f W j E') := HId.out.on hdr
        have HPe : Hid (Blk wd.drew wr.heap.size #[.int .i64 x.t, .int .i64 x.i, .string x.k] 39) := HPd.out.on hdr
        clear hdr HId HPd HSd
        generalize wd.drew = we at *
        have HSe : Hid ((Blk we lb #[ptr1 lb, vC, .map (some mb)] 77 ∧ Blk we wr.heap.size #[.int .i64 x.t, .int .i64 x.i, .string x.k] 39)) := ⟨HIe.out.blk, HPe.out⟩
        refine wpL_take (v := ?_) 0 rfl (by kernel_rfl) (fun _ _ _ h => h) (by rfl) ?_ HSe.out ?_
        rotate_left
        focus
          intro w9 hw9
          have a2 := hw9.1.cell (i := 2) rfl
          have b0 := hw9.2.cell (i := 0) rfl
          have b1 := hw9.2.cell (i := 1) rfl
          have b2 := hw9.2.cell (i := 2) rfl
          go_simp
          try with_reducible rfl
        try simp only [Act.put, List.setIfInBounds_toArray, List.set_cons_zero, List.set_cons_succ]
        refine wpL_take (v := ?_) 1 rfl (by kernel_rfl) (fun _ _ _ h => h) (by rfl) ?_ HSe.out ?_
        rotate_left
        focus
          intro w9 hw9
          have a2 := hw9.1.cell (i := 2) rfl
          have b0 := hw9.2.cell (i := 0) rfl
          have b1 := hw9.2.cell (i := 1) rfl
          have b2 := hw9.2.cell (i := 2) rfl
          go_simp
          try with_reducible rfl
        try simp only [Act.put, List.setIfInBounds_toArray, List.set_cons_zero, List.set_cons_succ]
        refine wpL_take (v := ?_) 2 rfl (by kernel_rfl) (fun _ _ _ h => h) (by rfl) ?_ HSe.out ?_
        rotate_left
        focus
          intro w9 hw9
          have a2 := hw9.1.cell (i := 2) rfl
          have b0 := hw9.2.cell (i := 0) rfl
          have b1 := hw9.2.cell (i := 1) rfl
          have b2 := hw9.2.cell (i := 2) rfl
          go_simp
          try with_reducible rfl
        try simp only [Act.put, List.setIfInBounds_toArray, List.set_cons_zero, List.set_cons_succ]
        refine wpL_take (v := ?_) 3 rfl (by kernel_rfl) (fun _ _ _ h => h) (by rfl) ?_ HSe.out ?_
        rotate_left
        focus
          intro w9 hw9
          have a2 := hw9.1.cell (i := 2) rfl
          have b0 := hw9.2.cell (i := 0) rfl
          have b1 := hw9.2.cell (i := 1) rfl
          have b2 := hw9.2.cell (i := 2) rfl
          go_simp
          try with_reducible rfl
        try simp only [Act.put, List.setIfInBounds_toArray, List.set_cons_zero, List.set_cons_succ]
        refine wpL_take (v := ?_) 4 rfl (by kernel_rfl) (fun _ _ _ h => h) (by rfl) ?_ HSe.out ?_
        rotate_left
        focus
          intro w9 hw9
          have a2 := hw9.1.cell (i := 2) rfl
          have b0 := hw9.2.cell (i := 0) rfl
          have b1 := hw9.2.cell (i := 1) rfl
          have b2 := hw9.2.cell (i := 2) rfl
          go_simp
          try with_reducible rfl
        try simp only [Act.put, List.setIfInBounds_toArray, List.set_cons_zero, List.set_cons_succ]
        refine wpL_one 5 rfl (by kernel_rfl) (by rfl) ?_
        intro K hK
        obtain ⟨w6, hrun, hm6, hg6, hz6⟩ := HIe.out.sm.map.delU x 0
        have hrun2 : ∀ ty, (Builtin.delete_ #[75, 39] ty #[.map (some mb), .agg #[.int .i64 x.t, .int .i64 x.i, .string x.k]]).run Tryz.prog we = .ok (.tuple #[]) w6 := fun ty => hrun
        clear hrun
        have HIn : Hid (FgI w w6 lb mb vC f W (j + 1) (delV E' x)) := HIe.out.step (by rw [HTk.out.1]; exact HIe.out.sm.del HTk.out.2.1 (by rw [HFx.out.1]; exact List.eq_nil_of_length_eq_zero HFx.out.2) hm6 hg6) hg6
        have HS6 : Hid ((Blk w6 lb #[ptr1 lb, vC, .map (some mb)] 77 ∧ Blk w6 wr.heap.size #[.int .i64 x.t, .int .i64 x.i, .string x.k] 39)) := ⟨HIn.out.blk, (hg6.block _ HPe.out.lt (fun e => map_not_cells HIe.out.sm.map HPe.out (Option.some.inj e))).trans HPe.out⟩
        clear hm6 hg6 hz6
        go_simp
        clear hrun2
        refine hK.out _ _ (fun _ => HS6.out) ?_
        clear hK K HSe HIe HPe HS6
        try simp only [Act.put, List.setIfInBounds_toArray, List.set_cons_zero, List.set_cons_succ]
        refine wpL_done (by kernel_rfl) ?_ _
        try simp only [NoPanic]
        have hn6 := HLn.out.2
        go_wp2_with fail
        go_roundw
        case rel => exact ⟨j + 1, _, hj1, by go_num, HIn⟩
        case measure => simp [intOf]; omega
      · cases pu with
        | none => exact absurd (hpu rfl) (by omega)
        | some ad =>
          obtain ⟨b7, o7, rfl⟩ : ∃ b o, ad = ⟨b, o, none⟩ := by
            obtain ⟨p', c', e', h1', h2', h3'⟩ := (HUs.out wd HId.out.sm).f
            obtain ⟨b, o, e2, _⟩ := h3' 0 (by simp)
            obtain ⟨e3, -, -⟩ := Value.slice.inj e'
            rw [← e3] at e2
            exact ⟨b, o, Option.some.inj e2⟩
          have hcu2 : 1 < cu := by omega
          refine wpL_take (v := ?_) 6 rfl (by kernel_rfl) (fun _ _ _ h => h) (by rfl) ?_ HSd.out ?_
          rotate_left
          focus
            intro w9 hw9

            go_simp
            rw [if_pos (by omega)]
          try simp only [Act.put, List.setIfInBounds_toArray, List.set_cons_zero, List.set_cons_succ]
          refine wpL_take (v := ?_) 7 rfl (by kernel_rfl) (fun _ _ _ h => h) (by rfl) ?_ HSd.out ?_
          rotate_left
          focus
            intro w9 hw9

            go_simp
            try with_reducible rfl
          try simp only [Act.put, List.setIfInBounds_toArray, List.set_cons_zero, List.set_cons_succ]
          refine wpL_done (by kernel_rfl) ?_ _
          try simp only [NoPanic]
          by_cases ht0 : tl = 0
          · subst ht0
            clear hcu hpu hc1
            go_upto_region 7 with fail
            refine wp_region_L (fun w' => (Blk w' lb #[ptr1 lb, vC, .map (some mb)] 77 ∧ Blk w' wr.heap.size #[.int .i64 x.t, .int .i64 x.i, .string x.k] 39)) 6 (by kernel_rfl) ?_
            have hdr : Below wd.heap.size wd wd.drew := (Below.refl _ _).drew
            have HIe : Hid (FgI w wd.drew lb mb vC f W j E') := HId.out.on hdr
            have HPe : Hid (Blk wd.drew wr.heap.size #[.int .i64 x.t, .int .i64 x.i, .string x.k] 39) := HPd.out.on hdr
            clear hdr HId HPd HSd
            generalize wd.drew = we at *
            have HSe : Hid ((Blk we lb #[ptr1 lb, vC, .map (some mb)] 77 ∧ Blk we wr.heap.size #[.int .i64 x.t, .int .i64 x.i, .string x.k] 39)) := ⟨HIe.out.blk, HPe.out⟩
            refine wpL_take (v := ?_) 0 rfl (by kernel_rfl) (fun _ _ _ h => h) (by rfl) ?_ HSe.out ?_
            rotate_left
            focus
              intro w9 hw9
              have a2 := hw9.1.cell (i := 2) rfl
              have b0 := hw9.2.cell (i := 0) rfl
              have b1 := hw9.2.cell (i := 1) rfl
              have b2 := hw9.2.cell (i := 2) rfl
              go_simp
              try with_reducible rfl
            try simp only [Act.put, List.setIfInBounds_toArray, List.set_cons_zero, List.set_cons_succ]
            refine wpL_take (v := ?_) 1 rfl (by kernel_rfl) (fun _ _ _ h => h) (by rfl) ?_ HSe.out ?_
            rotate_left
            focus
              intro w9 hw9
              have a2 := hw9.1.cell (i := 2) rfl
              have b0 := hw9.2.cell (i := 0) rfl
              have b1 := hw9.2.cell (i := 1) rfl
              have b2 := hw9.2.cell (i := 2) rfl
              go_simp
              try with_reducible rfl
            try simp only [Act.put, List.setIfInBounds_toArray, List.set_cons_zero, List.set_cons_succ]
            refine wpL_take (v := ?_) 2 rfl (by kernel_rfl) (fun _ _ _ h => h) (by rfl) ?_ HSe.out ?_
            rotate_left
            focus
              intro w9 hw9
              have a2 := hw9.1.cell (i := 2) rfl
              have b0 := hw9.2.cell (i := 0) rfl
              have b1 := hw9.2.cell (i := 1) rfl
              have b2 := hw9.2.cell (i := 2) rfl
              go_simp
              try with_reducible rfl
            try simp only [Act.put, List.setIfInBounds_toArray, List.set_cons_zero, List.set_cons_succ]
            refine wpL_take (v := ?_) 3 rfl (by kernel_rfl) (fun _ _ _ h => h) (by rfl) ?_ HSe.out ?_
            rotate_left
            focus
              intro w9 hw9
              have a2 := hw9.1.cell (i := 2) rfl
              have b0 := hw9.2.cell (i := 0) rfl
              have b1 := hw9.2.cell (i := 1) rfl
              have b2 := hw9.2.cell (i := 2) rfl
              go_simp
              try with_reducible rfl
            try simp only [Act.put, List.setIfInBounds_toArray, List.set_cons_zero, List.set_cons_succ]
            refine wpL_take (v := ?_) 4 rfl (by kernel_rfl) (fun _ _ _ h => h) (by rfl) ?_ HSe.out ?_
            rotate_left
            focus
              intro w9 hw9
              have a2 := hw9.1.cell (i := 2) rfl
              have b0 := hw9.2.cell (i := 0) rfl
              have b1 := hw9.2.cell (i := 1) rfl
              have b2 := hw9.2.cell (i := 2) rfl
              go_simp
              try with_reducible rfl
            try simp only [Act.put, List.setIfInBounds_toArray, List.set_cons_zero, List.set_cons_succ]
            refine wpL_one 5 rfl (by kernel_rfl) (by rfl) ?_
            intro K hK
            obtain ⟨w6, hrun, hm6, hg6, hz6⟩ := HIe.out.sm.map.delU x 0
            have hrun2 : ∀ ty, (Builtin.delete_ #[75, 39] ty #[.map (some mb), .agg #[.int .i64 x.t, .int .i64 x.i, .string x.k]]).run Tryz.prog we = .ok (.tuple #[]) w6 := fun ty => hrun
            clear hrun
            have HIn : Hid (FgI w w6 lb mb vC f W (j + 1) (delV E' x)) := HIe.out.step (by rw [HTk.out.1]; exact HIe.out.sm.del HTk.out.2.1 (by rw [HFx.out.1]; exact List.eq_nil_of_length_eq_zero HFx.out.2) hm6 hg6) hg6
            have HS6 : Hid ((Blk w6 lb #[ptr1 lb, vC, .map (some mb)] 77 ∧ Blk w6 wr.heap.size #[.int .i64 x.t, .int .i64 x.i, .string x.k] 39)) := ⟨HIn.out.blk, (hg6.block _ HPe.out.lt (fun e => map_not_cells HIe.out.sm.map HPe.out (Option.some.inj e))).trans HPe.out⟩
            clear hm6 hg6 hz6
            go_simp
            clear hrun2
            refine hK.out _ _ (fun _ => HS6.out) ?_
            clear hK K HSe HIe HPe HS6
            try simp only [Act.put, List.setIfInBounds_toArray, List.set_cons_zero, List.set_cons_succ]
            refine wpL_done (by kernel_rfl) ?_ _
            try simp only [NoPanic]
            have hn6 := HLn.out.2
            go_wp2_with fail
            go_roundw
            case rel => exact ⟨j + 1, _, hj1, by go_num, HIn⟩
            case measure => simp [intOf]; omega
          · have ht1 : 0 < tl := by omega
            clear hcu hpu hc1 ht0
            go_upto_region 6 with fail
            refine wp_region_L (fun w' => (Blk w' lb #[ptr1 lb, vC, .map (some mb)] 77 ∧ Blk w' wr.heap.size #[.int .i64 x.t, .int .i64 x.i, .string x.k] 39)) 7 (by kernel_rfl) ?_
            have hdr : Below wd.heap.size wd wd.drew := (Below.refl _ _).drew
            have HIe : Hid (FgI w wd.drew lb mb vC f W j E') := HId.out.on hdr
            have HPe : Hid (Blk wd.drew wr.heap.size #[.int .i64 x.t, .int .i64 x.i, .string x.k] 39) := HPd.out.on hdr
            clear hdr HId HPd HSd
            generalize wd.drew = we at *
            have HSe : Hid ((Blk we lb #[ptr1 lb, vC, .map (some mb)] 77 ∧ Blk we wr.heap.size #[.int .i64 x.t, .int .i64 x.i, .string x.k] 39)) := ⟨HIe.out.blk, HPe.out⟩
            refine wpL_take (v := ?_) 0 rfl (by kernel_rfl) (fun _ _ _ h => h) (by rfl) ?_ HSe.out ?_
            rotate_left
            focus
              intro w9 hw9
              have a2 := hw9.1.cell (i := 2) rfl
              have b0 := hw9.2.cell (i := 0) rfl
              have b1 := hw9.2.cell (i := 1) rfl
              have b2 := hw9.2.cell (i := 2) rfl
              go_simp
              try with_reducible rfl
            try simp only [Act.put, List.setIfInBounds_toArray, List.set_cons_zero, List.set_cons_succ]
            refine wpL_take (v := ?_) 1 rfl (by kernel_rfl) (fun _ _ _ h => h) (by rfl) ?_ HSe.out ?_
            rotate_left
            focus
              intro w9 hw9
              have a2 := hw9.1.cell (i := 2) rfl
              have b0 := hw9.2.cell (i := 0) rfl
              have b1 := hw9.2.cell (i := 1) rfl
              have b2 := hw9.2.cell (i := 2) rfl
              go_simp
              try with_reducible rfl
            try simp only [Act.put, List.setIfInBounds_toArray, List.set_cons_zero, List.set_cons_succ]
            refine wpL_take (v := ?_) 2 rfl (by kernel_rfl) (fun _ _ _ h => h) (by rfl) ?_ HSe.out ?_
            rotate_left
            focus
              intro w9 hw9
              have a2 := hw9.1.cell (i := 2) rfl
              have b0 := hw9.2.cell (i := 0) rfl
              have b1 := hw9.2.cell (i := 1) rfl
              have b2 := hw9.2.cell (i := 2) rfl
              go_simp
              try with_reducible rfl
            try simp only [Act.put, List.setIfInBounds_toArray, List.set_cons_zero, List.set_cons_succ]
            refine wpL_take (v := ?_) 3 rfl (by kernel_rfl) (fun _ _ _ h => h) (by rfl) ?_ HSe.out ?_
            rotate_left
            focus
              intro w9 hw9
              have a2 := hw9.1.cell (i := 2) rfl
              have b0 := hw9.2.cell (i := 0) rfl
              have b1 := hw9.2.cell (i := 1) rfl
              have b2 := hw9.2.cell (i := 2) rfl
              go_simp
              try with_reducible rfl
            try simp only [Act.put, List.setIfInBounds_toArray, List.set_cons_zero, List.set_cons_succ]
            refine wpL_take (v := ?_) 4 rfl (by kernel_rfl) (fun _ _ _ h => h) (by rfl) ?_ HSe.out ?_
            rotate_left
            focus
              intro w9 hw9
              have a2 := hw9.1.cell (i := 2) rfl
              have b0 := hw9.2.cell (i := 0) rfl
              have b1 := hw9.2.cell (i := 1) rfl
              have b2 := hw9.2.cell (i := 2) rfl
              go_simp
              try with_reducible rfl
            try simp only [Act.put, List.setIfInBounds_toArray, List.set_cons_zero, List.set_cons_succ]
            refine wpL_take (v := ?_) 5 rfl (by kernel_rfl) (fun _ _ _ h => h) (by rfl) ?_ HSe.out ?_
            rotate_left
            focus
              intro w9 hw9
              have a2 := hw9.1.cell (i := 2) rfl
              have b0 := hw9.2.cell (i := 0) rfl
              have b1 := hw9.2.cell (i := 1) rfl
              have b2 := hw9.2.cell (i := 2) rfl
              go_simp
              try with_reducible rfl
            try simp only [Act.put, List.setIfInBounds_toArray, List.set_cons_zero, List.set_cons_succ]
            refine wpL_one 6 rfl (by kernel_rfl) (by rfl) ?_
            intro K hK
            obtain ⟨w6, hrun, hm6, hg6, hz6⟩ := HIe.out.sm.map.updU x (.slice (some ⟨b7, o7 + 1, none⟩) tl (cu - 1))
            have hrun2 : (Instr.mapUpdate 75 (.map (some mb)) (.agg #[.int .i64 x.t, .int .i64 x.i, .string x.k]) (.slice (some ⟨b7, o7 + 1, none⟩) tl (cu - 1))).run Tryz.prog we = .ok () w6 := hrun
            clear hrun
            have HIn : Hid (FgI w w6 lb mb vC f W (j + 1) (putV E' x (.slice (some ⟨b7, o7 + 1, none⟩) tl (cu - 1)))) := HIe.out.step (by rw [HTk.out.1]; exact HIe.out.sm.put (HIe.out.sm.key (by unfold tlF; rw [if_neg HTk.out.2.1]; exact HNe.out x HTk.out.2.2)) HTk.out.2.1 (by rw [HFx.out.1]; exact (by have h := (HUs.out we HIe.out.sm).tail (some ⟨b7, o7 + 1, none⟩) (fun b o e _ => by cases e; rfl) (fun e => by cases e); simpa using h)) (fun b o n c e => by cases e; have h := HIe.out.sm.ty x; rw [HGv.out] at h; exact h _ _ _ _ rfl) hm6 hg6) hg6
            have HS6 : Hid ((Blk w6 lb #[ptr1 lb, vC, .map (some mb)] 77 ∧ Blk w6 wr.heap.size #[.int .i64 x.t, .int .i64 x.i, .string x.k] 39)) := ⟨HIn.out.blk, (hg6.block _ HPe.out.lt (fun e => map_not_cells HIe.out.sm.map HPe.out (Option.some.inj e))).trans HPe.out⟩
            clear hm6 hg6 hz6
            go_simp
            clear hrun2
            refine hK.out _ _ (fun _ => HS6.out) ?_
            clear hK K HSe HIe HPe HS6
            try simp only [Act.put, List.setIfInBounds_toArray, List.set_cons_zero, List.set_cons_succ]
            refine wpL_done (by kernel_rfl) ?_ _
            try simp only [NoPanic]
            have hn6 := HLn.out.2
            go_wp2_with fail
            go_roundw
            case rel => exact ⟨j + 1, _, hj1, by go_num, HIn⟩
            case measure => simp [intOf]; omega

end Go.Proofs.YtcknhjabdjbjiaaGreat
